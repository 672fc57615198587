/-
  A builder of the call's own, behind calls that leave all that was there alone.
-/
import Derived.Test.YtaidhoepnefcpaaGreatBP10Pn
import Derived.Lib.Builder
namespace Go.Proofs.YtaidhoepnefcpaaGreat.C10
open Go Go.RowKit Go.Proofs B K P8
set_option linter.unusedVariables false
set_option maxRecDepth 100000
def FRdr (w : World) (b : Nat) (s : List UInt8) (p er : Int) : Prop := w.heap[b]? = some (.cells #[.string (str s), .int .i64 p, .int .i64 er] 74 (0, 0))
theorem FRdr.lt {w : World} {b : Nat} {s : List UInt8} {p er : Int} (h : FRdr w b s p er) : b < w.heap.size := (Array.getElem?_eq_some_iff.1 h).1
theorem FRdr.cells {w : World} {b : Nat} {s : List UInt8} {p er : Int} (h : FRdr w b s p er) : w.cell? ⟨b, 0, none⟩ = some (.string (str s)) /\ w.cell? ⟨b, 1, none⟩ = some (.int .i64 p) /\ w.cell? ⟨b, 2, none⟩ = some (.int .i64 er) /\ w.frozen? ⟨b, 1, none⟩ = false /\ w.frozen? ⟨b, 2, none⟩ = false := by
 unfold FRdr at h;refine ⟨?_, ?_, ?_, ?_, ?_⟩ <;> simp [World.cell?, World.frozen?, h]
theorem FRdr.below {w w' : World} {b : Nat} {s : List UInt8} {p er : Int} (h : FRdr w b s p er) (hb : Below w.heap.size w w') : FRdr w' b s p er := (hb.block _ h.lt).trans h
theorem FRdr.place {w : World} {b : Nat} {s : List UInt8} {p er : Int} (h : FRdr w b s p er) (q : Int) : FRdr (w.setCell ⟨b, 1, none⟩ (.int .i64 q)) b s q er := by
 have := heap_setCell_same w b 1 _ _ (.int .i64 q) h;unfold FRdr;rw [this]; rfl
theorem FRdr.err {w : World} {b : Nat} {s : List UInt8} {p er : Int} (h : FRdr w b s p er) (q : Int) : FRdr (w.setCell ⟨b, 2, none⟩ (.int .i64 q)) b s p q := by
 have := heap_setCell_same w b 2 _ _ (.int .i64 q) h;unfold FRdr;rw [this]; rfl
theorem FRdr.tg {w w' : World} {b g : Nat} {s : List UInt8} {p er : Int} (h : FRdr w b s p er) (t : Tg g w w') (hne : b ≠ g) : FRdr w' b s p er := (t.block b h.lt hne).trans h
def FOut {X : Type} (rd : Rd X) (s : List UInt8) (p er : Int) (x : X) (q e : Int) : Prop :=
 (er = 0 -> (∃ r, rd s p = some r /\ x = r.1 /\ q = r.2 /\ e = 0) \/ (rd s p = none /\ e ≠ 0)) /\ (er ≠ 0 -> e ≠ 0)
theorem zk {X Y : Type} {f : Rd X} {g : X -> Rd Y} {s : List UInt8} {p er q e q' e' : Int} {x : X} {y : Y} (h : FOut f s p er x q e) (h' : FOut (g x) s q e y q' e') : FOut (rThen f g) s p er y q' e' := by
 refine ⟨fun he => ?_, fun he => h'.2 (h.2 he)⟩;rcases h.1 he with ⟨r, hr, hx, hq, h0⟩ | ⟨hr, h0⟩
 ·have e1 : rThen f g s p = g x s q := by unfold rThen; rw [hr, hx, hq]; rfl
  rw [e1]; exact h'.1 h0
 ·exact Or.inr ⟨by unfold rThen; rw [hr]; rfl, h'.2 h0⟩
theorem yI {X : Type} (x : X) (s : List UInt8) (p er : Int) : FOut (rEnd (fun _ => true) x) s p er x p er :=
 ⟨fun he => Or.inl ⟨(x, p), by unfold rEnd; rw [if_pos rfl], rfl, rfl, he⟩, fun he => he⟩
theorem yx {X : Type} {rd : Rd X} {s : List UInt8} {p er : Int} {x : X} {q e : Int} (h : er ≠ 0) (he : e ≠ 0) : FOut rd s p er x q e := ⟨fun h0 => absurd h0 h, fun _ => he⟩
theorem fout_got {X : Type} {f : List UInt8 -> Int -> X × Int × Int} {s : List UInt8} {p : Int} {x : X} {q e : Int} (h : f s p = (x, q, e)) : FOut (fun s p => got (f s p)) s p 0 x q e := by
 refine ⟨fun _ => ?_, fun h0 => absurd rfl h0⟩;show (∃ r, got (f s p) = some r /\ _) \/ (got (f s p) = none /\ _)
 rw [h];unfold got;by_cases he : e = 0
 ·exact Or.inl ⟨(x, q), by rw [if_pos he], rfl, rfl, he⟩
 ·exact Or.inr ⟨by rw [if_neg he], he⟩
theorem qK {X : Type} {rd : Rd X} {s : List UInt8} {p q er : Int} {l : X} (hr : rd s p = none) (h : er ≠ 0) : FOut rd s p 0 l q er := ⟨fun _ => Or.inr ⟨hr, h⟩, fun h0 => absurd rfl h0⟩
theorem qJ {X : Type} {rd : Rd X} {s : List UInt8} {p q er : Int} {l : X} {r : X × Int} (hr : rd s p = some r) (h : l = r.1 /\ q = r.2 /\ er = 0) : FOut rd s p 0 l q er := ⟨fun _ => Or.inl ⟨r, hr, h⟩, fun h0 => absurd rfl h0⟩
theorem zO (n a b : Int) (w : World) :
 Calls Tryz.prog 51 #[.int .i64 n, .int .i64 a, .int .i64 b] w fun e w' => e = .returned (.bool (inn n a b)) /\ w = w' := by
 unfold inn;by_cases h1 : a <= n
 ·have d1 : decide (a <= n) = true := decide_eq_true h1
  by_cases h2 : n <= b
  ·have d2 : decide (n <= b) = true := decide_eq_true h2
   rw [d1, d2];go_enter Tryz.func51, Tryz.ntmps51;go_wp2_with fail;go_ret;exact ⟨rfl, rfl⟩
  ·have d2 : decide (n <= b) = false := decide_eq_false h2
   rw [d1, d2];go_enter Tryz.func51, Tryz.ntmps51;go_wp2_with fail;go_ret;exact ⟨rfl, rfl⟩
 ·have d1 : decide (a <= n) = false := decide_eq_false h1
  rw [d1];go_enter Tryz.func51, Tryz.ntmps51;go_wp2_with fail;go_ret;exact ⟨rfl, rfl⟩
set_option maxHeartbeats 2000000 in
theorem freadN_any (b : Nat) (s : List UInt8) (p er : Int) (w : World) (h : FRdr w b s p er) (hs : s.length <= 140737488355328) :
 Calls Tryz.prog 135 #[.pointer (some ⟨b, 0, none⟩), .func (.func 136) #[] #[]] w fun z w' => ∃ x q e, z = .returned (.int .i64 x) /\ FRdr w' b s q e /\ Tg b w w' /\ FOut rNum s p er x q e := by
 obtain ⟨h0, h1, h2, h3, h4⟩ := h.cells;by_cases he : er = 0
 ·subst he
  have HF := Lib.hid (fun W => uu s p W hs);obtain ⟨x, q, e, hv⟩ : ∃ x q e, V.rdAt s p = (x, q, e) := ⟨_, _, _, rfl⟩;have HO := Lib.hid (fout_got hv);rw [hv] at HF;dsimp only at HF;have HR := Lib.hid h;clear hv h;go_enter Tryz.func135, Tryz.ntmps135;go_upto_region 3 with fail
  go_region_with (go_at_call 136; refine (HF.out _).mono ?_; rintro _ w1 ⟨rfl, hb1⟩; have hr1 := FRdr.below (w := w.drew) (show FRdr w.drew b s p 0 from HR.out) hb1; have g0 := hr1.cells.1; have g1 := hr1.cells.2.1; have g2 := hr1.cells.2.2.1; have g3 := hr1.cells.2.2.2.1; have g4 := hr1.cells.2.2.2.2)
  all_goals go_wp2_with fail
  all_goals go_ret
  all_goals exact ⟨x, q, e, rfl, (hr1.place q).err e, ((Tg.of_below ((Below.refl w.heap.size w).drew.trans hb1)).trans (Tg.set _ _ _ _)).trans (Tg.set _ _ _ _), HO.out⟩
 ·have hb : (er == 0) = false := beq_eq_false_iff_ne.2 he
  have HO := Lib.hid (yx (rd := rNum) (s := s) (p := p) (x := 0) (q := p) he he);clear he;go_enter Tryz.func135, Tryz.ntmps135;go_wp2_with fail;go_ret;exact ⟨0, p, er, rfl, h, Tg.refl _ _, HO.out⟩
set_option maxHeartbeats 2000000 in
theorem freadT_any (b : Nat) (s : List UInt8) (p er : Int) (w : World) (h : FRdr w b s p er) (hs : s.length <= 140737488355328) :
 Calls Tryz.prog 141 #[.pointer (some ⟨b, 0, none⟩), .func (.func 142) #[] #[]] w fun z w' => ∃ x q e, z = .returned (.string (str x)) /\ FRdr w' b s q e /\ Tg b w w' /\ FOut rTxt s p er x q e := by
 obtain ⟨h0, h1, h2, h3, h4⟩ := h.cells;by_cases he : er = 0
 ·subst he
  have HF := Lib.hid (fun W => Zd s p W hs);obtain ⟨x, q, e, hv⟩ : ∃ x q e, V.txt s p = (x, q, e) := ⟨_, _, _, rfl⟩;have HO := Lib.hid (fout_got hv);rw [hv] at HF;dsimp only at HF;have HR := Lib.hid h;clear hv h;go_enter Tryz.func141, Tryz.ntmps141;go_upto_region 3 with fail
  go_region_with (go_at_call 142; refine (HF.out _).mono ?_; rintro _ w1 ⟨rfl, hb1⟩; have hr1 := FRdr.below (w := w.drew) (show FRdr w.drew b s p 0 from HR.out) hb1; have g0 := hr1.cells.1; have g1 := hr1.cells.2.1; have g2 := hr1.cells.2.2.1; have g3 := hr1.cells.2.2.2.1; have g4 := hr1.cells.2.2.2.2)
  all_goals go_wp2_with fail
  all_goals go_ret
  all_goals exact ⟨x, q, e, rfl, (hr1.place q).err e, ((Tg.of_below ((Below.refl w.heap.size w).drew.trans hb1)).trans (Tg.set _ _ _ _)).trans (Tg.set _ _ _ _), HO.out⟩
 ·have hb : (er == 0) = false := beq_eq_false_iff_ne.2 he
  have HO := Lib.hid (yx (rd := rTxt) (s := s) (p := p) (x := []) (q := p) he he);clear he;go_enter Tryz.func141, Tryz.ntmps141;go_wp2_with fail;go_ret;exact ⟨[], p, er, rfl, h, Tg.refl _ _, HO.out⟩
theorem yU (b : Nat) (s : List UInt8) (p er : Int) (w : World) (h : FRdr w b s p er) (hs : s.length <= 140737488355328) :
 Calls Tryz.prog 81 #[.pointer (some ⟨b, 0, none⟩)] w fun z w' => ∃ x q e, z = .returned (.int .i64 x) /\ FRdr w' b s q e /\ Tg b w w' /\ FOut rNum s p er x q e := by
 have HC := Lib.hid (freadN_any b s p er w h hs);clear h;go_enter Tryz.func81, Tryz.ntmps81;go_wp2_with fail;refine HC.out.mono ?_;rintro _ w1 ⟨x, q, e, rfl, h1⟩;have H1 := Lib.hid h1;clear h1;go_wp2_with fail;go_ret;exact ⟨x, q, e, rfl, H1.out⟩
def rKind : Rd Int := rThen rNum fun k => if inn k 1 5 = true then rEnd (fun _ => true) k else fun _ _ => none
set_option maxHeartbeats 2000000 in
theorem fkind_any (b : Nat) (s : List UInt8) (p er : Int) (w : World) (h : FRdr w b s p er) (hs : s.length <= 140737488355328) :
 Calls Tryz.prog 80 #[.pointer (some ⟨b, 0, none⟩)] w fun z w' => ∃ x q e, z = .returned (.int .i64 x) /\ FRdr w' b s q e /\ Tg b w w' /\ FOut rKind s p er x q e := by
 have HC := Lib.hid (yU b s p er w h hs);clear h;go_enter Tryz.func80, Tryz.ntmps80;go_wp2_with fail;refine HC.out.mono ?_;rintro _ w1 ⟨x, q, e, rfl, hr1, ht1, ho⟩;have HR1 := Lib.hid hr1;have HT1 := Lib.hid ht1;have HO := Lib.hid ho;have HR2 := Lib.hid (hr1.err 6);have HT2 := Lib.hid (ht1.trans (Tg.set w1 b 2 (.int .i64 6)));obtain ⟨-, g1, g2, g3, g4⟩ := hr1.cells;have CW := Lib.hid (fun W => zO x 1 5 W);clear hr1 ht1 ho HC;by_cases he : e = 0
 ·subst he
  obtain ⟨ok, hok⟩ : ∃ ok, inn x 1 5 = ok := ⟨_, rfl⟩;rw [hok] at CW;cases ok with
  | true =>
   have HZ := Lib.hid (show FOut rKind s p er x q 0 from zk HO.out (by rw [if_pos hok]; exact yI x s q 0));clear hok;go_wp2_with (go_at_call 51; refine (CW.out _).mono ?_; rintro _ w2 ⟨rfl, rfl⟩)
   go_ret;exact ⟨x, q, 0, rfl, HR1.out, HT1.out, HZ.out⟩
  | false =>
   have HZ := Lib.hid (show FOut rKind s p er x q 6 from zk HO.out (by rw [if_neg (by rw [hok]; simp)]; exact ⟨fun _ => Or.inr ⟨rfl, by decide⟩, fun _ => by decide⟩));clear hok;go_wp2_with (go_at_call 51; refine (CW.out _).mono ?_; rintro _ w2 ⟨rfl, rfl⟩)
   go_ret;exact ⟨x, q, 6, rfl, HR2.out, HT2.out, HZ.out⟩
 ·have hb : (e == 0) = false := beq_eq_false_iff_ne.2 he
  have HZ := Lib.hid (show FOut rKind s p er x q e from zk HO.out (yx he he));clear he;go_wp2_with fail;go_ret;exact ⟨x, q, e, rfl, HR1.out, HT1.out, HZ.out⟩
def enMay (x : En) : Bool := inn x.seq 0 1099511627776 && (inn x.code 0 63 && (if x.events.length = 0 then decide (x.stream = []) && decide (0 < x.seq) else streamP x.stream && decide (x.code = 0)))
theorem streamP_nil : streamP [] = false := by decide +kernel
theorem evsP_nil : evsP [] = true := by decide +kernel
theorem Yv (x : En) : enP x = (enMay x && evsP x.events) := by
 obtain ⟨i, t, l, q, c⟩ := x;unfold enP enMay;dsimp only;rw [Bool.eq_iff_iff];by_cases hl : l.length = 0
 ·have hl2 := List.length_eq_zero_iff.1 hl
  subst hl2;simp only [List.length_nil, evsP_nil, decide_true, if_true, Bool.true_and, Bool.and_true, Bool.and_eq_true, Bool.or_eq_true, Bool.not_eq_true', decide_eq_true_eq, decide_eq_false_iff_not, zq, beq_iff_eq];constructor
  ·rintro ⟨h1, h2, h3, h4, h5, h6⟩
   exact ⟨h3, h4, h1, by omega⟩
  ·rintro ⟨h3, h4, h1, h5⟩
   exact ⟨h1, Or.inl h1, h3, h4, by omega, Or.inr h5⟩
 ·simp only [hl, decide_false, if_false, Bool.false_and, Bool.not_false, Bool.or_false, Bool.true_and, Bool.and_eq_true, Bool.or_eq_true, decide_eq_true_eq, zq, beq_iff_eq, decide_eq_false_iff_not]
  constructor
  ·rintro ⟨h1, h2, h3, h4, h5, h6⟩
   rcases h2 with h2 | h2
   ·exact absurd h2 h1
   ·exact ⟨⟨h4, h5, h2, h6⟩, h3⟩
  ·rintro ⟨⟨h4, h5, h2, h6⟩, h3⟩
   refine ⟨fun e => ?_, Or.inr h2, h3, h4, h5, h6⟩;rw [e, streamP_nil] at h2; cases h2
theorem ZH (c : Int) (l : List Cm) : ∀ (r : List Cm) (k : Nat), l.drop k = r -> cmGo c l k r = (r.all cmdP && (r.all (fun x => decide (x.client = c)) && riseK (fun a b => decide (a.seq < b.seq)) l r k))
 | [], k, h => by
  cases k with
  | zero => rfl
  | succ k => rw [jA]; rfl
 | x :: r, k, h => by
  have hlt : k < l.length := by
   by_cases hk : k < l.length
   ·exact hk
   ·rw [List.drop_of_length_le (by omega)] at h; cases h
  rw [List.drop_eq_getElem_cons hlt] at h;obtain ⟨h1, h2⟩ := List.cons.inj h;have hx : l[k]? = some x := by rw [List.getElem?_eq_getElem hlt, h1]
  have ih := ZH c l r (k + 1) h2;unfold cmGo;rw [ih, yA _ _ _ _ hx, List.all_cons, List.all_cons];cases k with
  | zero =>
   unfold cmOne;simp only [decide_true, Bool.true_or, Bool.and_true];rw [show riseK (fun a b : Cm => decide (a.seq < b.seq)) l (x :: r) 0 = riseL (fun a b => decide (a.seq < b.seq)) (x :: r) from rfl];generalize cmdP x = b1
   generalize decide (x.client = c) = b2
   generalize r.all cmdP = b3
   generalize r.all (fun x => decide (x.client = c)) = b4
   generalize riseL _ _ = b5
   cases b1 <;> cases b2 <;> cases b3 <;> cases b4 <;> cases b5 <;> rfl
  | succ k =>
   obtain ⟨y, hy⟩ : ∃ y, l[k]? = some y := ⟨_, List.getElem?_eq_getElem (by omega)⟩;unfold cmOne;rw [yA _ _ _ _ hy, show k + 1 - 1 = k from rfl, hy];simp only [show decide (k + 1 = 0) = false from rfl, Bool.false_or];rw [show riseL (fun a b : Cm => decide (a.seq < b.seq)) (y :: x :: r) = (decide (y.seq < x.seq) && riseL (fun a b => decide (a.seq < b.seq)) (x :: r)) from rfl];generalize cmdP x = b1
   generalize decide (x.client = c) = b2
   generalize r.all cmdP = b3
   generalize r.all (fun x => decide (x.client = c)) = b4
   generalize riseL _ _ = b5
   generalize decide (y.seq < x.seq) = b6
   cases b1 <;> cases b2 <;> cases b3 <;> cases b4 <;> cases b5 <;> cases b6 <;> rfl
theorem ZP (s d : Int) (l : List En) : ∀ (r : List En) (k : Nat), l.drop k = r -> enGo s d l k r = (r.all (fun x => evsP x.events) && (r.all (fun x => decide (s <= x.index) && decide (x.index < d) && enMay x) && riseK (fun a b => decide (a.index < b.index)) l r k))
 | [], k, h => by
  cases k with
  | zero => rfl
  | succ k => rw [jA]; rfl
 | x :: r, k, h => by
  have hlt : k < l.length := by
   by_cases hk : k < l.length
   ·exact hk
   ·rw [List.drop_of_length_le (by omega)] at h; cases h
  rw [List.drop_eq_getElem_cons hlt] at h;obtain ⟨h1, h2⟩ := List.cons.inj h;have hx : l[k]? = some x := by rw [List.getElem?_eq_getElem hlt, h1]
  have ih := ZP s d l r (k + 1) h2;unfold enGo;rw [ih, yA _ _ _ _ hx, List.all_cons, List.all_cons];cases k with
  | zero =>
   unfold enOne;rw [Yv];simp only [decide_true, Bool.true_or, Bool.and_true];rw [show riseK (fun a b : En => decide (a.index < b.index)) l (x :: r) 0 = riseL (fun a b => decide (a.index < b.index)) (x :: r) from rfl];generalize enMay x = b1
   generalize evsP x.events = b2
   generalize decide (s <= x.index) = b6
   generalize decide (x.index < d) = b7
   generalize r.all (fun x => evsP x.events) = b3
   generalize r.all _ = b4
   generalize riseL _ _ = b5
   cases b1 <;> cases b2 <;> cases b3 <;> cases b4 <;> cases b5 <;> cases b6 <;> cases b7 <;> rfl
  | succ k =>
   obtain ⟨y, hy⟩ : ∃ y, l[k]? = some y := ⟨_, List.getElem?_eq_getElem (by omega)⟩;unfold enOne;rw [yA _ _ _ _ hy, show k + 1 - 1 = k from rfl, hy, Yv];simp only [show decide (k + 1 = 0) = false from rfl, Bool.false_or];rw [show riseL (fun a b : En => decide (a.index < b.index)) (y :: x :: r) = (decide (y.index < x.index) && riseL (fun a b => decide (a.index < b.index)) (x :: r)) from rfl];generalize enMay x = b1
   generalize evsP x.events = b2
   generalize decide (s <= x.index) = b6
   generalize decide (x.index < d) = b7
   generalize r.all (fun x => evsP x.events) = b3
   generalize r.all _ = b4
   generalize riseL _ _ = b5
   generalize decide (y.index < x.index) = b8
   cases b1 <;> cases b2 <;> cases b3 <;> cases b4 <;> cases b5 <;> cases b6 <;> cases b7 <;> cases b8 <;> rfl
set_option maxHeartbeats 4000000 in
theorem mayEntry_any (x : En) (u : Value) (w : World) (h : EvsIs w u x.events) (hs : TxWf x.stream) :
 Calls Tryz.prog 157 #[.agg #[.int .i64 x.index, .string (str x.stream), u, .int .i64 x.seq, .int .i64 x.code]] w fun z w' => z = .returned (.bool (enMay x)) /\ Below w.heap.size w w' := by
 obtain ⟨au, cu, rfl, -⟩ := h.open;obtain ⟨N, hN⟩ : ∃ N, x.events.length = N := ⟨_, rfl⟩;have hr0 : enMay x = (inn x.seq 0 1099511627776 && (inn x.code 0 63 && (if N = 0 then decide (x.stream = []) && decide (0 < x.seq) else streamP x.stream && decide (x.code = 0)))) := by unfold enMay; rw [hN]
 rw [hN];obtain ⟨r, hr⟩ : ∃ r, enMay x = r := ⟨_, rfl⟩;rw [hr] at hr0 ⊢;obtain ⟨W0, hW0⟩ : ∃ W0, w.alloc (.cells #[.int .i64 x.index, .string (str x.stream), .slice au N cu, .int .i64 x.seq, .int .i64 x.code] 53) = W0 := ⟨_, rfl⟩;have hB0 : Below w.heap.size w W0 := by rw [<- hW0]; exact zf _ _
 have k0 : W0.cell? ⟨w.heap.size, 0, none⟩ = some (.int .i64 x.index) := by rw [<- hW0]; exact ze w [_, _, _, _, _] _ 0 _ rfl
 have k1 : W0.cell? ⟨w.heap.size, 1, none⟩ = some (.string (str x.stream)) := by rw [<- hW0]; exact ze w [_, _, _, _, _] _ 1 _ rfl
 have k2 : W0.cell? ⟨w.heap.size, 2, none⟩ = some (.slice au N cu) := by rw [<- hW0]; exact ze w [_, _, _, _, _] _ 2 _ rfl
 have k3 : W0.cell? ⟨w.heap.size, 3, none⟩ = some (.int .i64 x.seq) := by rw [<- hW0]; exact ze w [_, _, _, _, _] _ 3 _ rfl
 have k4 : W0.cell? ⟨w.heap.size, 4, none⟩ = some (.int .i64 x.code) := by rw [<- hW0]; exact ze w [_, _, _, _, _] _ 4 _ rfl
 have H1 := Lib.hid (fun W => zO x.seq 0 1099511627776 W);have H2 := Lib.hid (fun W => zO x.code 0 63 W);have HS := Lib.hid (fun W => P8.ug x.stream (Nat.le_trans hs (by decide)) W);obtain ⟨b1, e1⟩ : ∃ c, inn x.seq 0 1099511627776 = c := ⟨_, rfl⟩;obtain ⟨b2, e2⟩ : ∃ c, inn x.code 0 63 = c := ⟨_, rfl⟩;obtain ⟨b3, e3⟩ : ∃ c, streamP x.stream = c := ⟨_, rfl⟩;rw [e1] at H1 hr0;rw [e2] at H2 hr0;rw [e3] at HS hr0;have HB0 := Lib.hid hB0;clear e1 e2 e3 hB0 h hN hr;cases b1 with
 | false =>
  obtain rfl : r = false := hr0;go_enter Tryz.func157, Tryz.ntmps157;go_wp2_with (go_at_call 51; refine (H1.out _).mono ?_; rintro _ w1 ⟨rfl, rfl⟩)
  go_ret;exact ⟨rfl, HB0.out⟩
 | true =>
 cases b2 with
 | false =>
  obtain rfl : r = false := hr0;go_enter Tryz.func157, Tryz.ntmps157;go_wp2_with (first | (go_at_call 51; (with_reducible refine (H1.out _).mono ?_); rintro _ w1 ⟨rfl, rfl⟩) | (go_at_call 51; (with_reducible refine (H2.out _).mono ?_); rintro _ w1 ⟨rfl, rfl⟩))
  go_ret;exact ⟨rfl, HB0.out⟩
 | true =>
 simp only [Bool.true_and] at hr0;by_cases hN0 : N = 0
 ·subst hN0
  rw [if_pos rfl] at hr0;by_cases ht : x.stream = []
  ·have ht1 : ((str x.stream).toList == []) = true := by rw [yj, ht]; rfl
   have ht2 : (str x.stream).toList = [] := by rw [yj]; exact ht
   have ht3 : (str x.stream).toList.isEmpty = true := by rw [yj, ht]; rfl
   rw [show decide (x.stream = []) = true from decide_eq_true ht, Bool.true_and] at hr0;subst hr0;clear ht;go_enter Tryz.func157, Tryz.ntmps157;go_wp2_with (first | (go_at_call 51; (with_reducible refine (H1.out _).mono ?_); rintro _ w1 ⟨rfl, rfl⟩) | (go_at_call 51; (with_reducible refine (H2.out _).mono ?_); rintro _ w1 ⟨rfl, rfl⟩))
   go_ret;exact ⟨rfl, HB0.out⟩
  ·have ht1 : ((str x.stream).toList == []) = false := by rw [yj]; simpa using ht
   have ht2 : ¬ (str x.stream).toList = [] := by rw [yj]; exact ht
   have ht3 : (str x.stream).toList.isEmpty = false := by rw [yj]; simpa using ht
   rw [show decide (x.stream = []) = false from decide_eq_false ht, Bool.false_and] at hr0;subst hr0;clear ht;go_enter Tryz.func157, Tryz.ntmps157;go_wp2_with (first | (go_at_call 51; (with_reducible refine (H1.out _).mono ?_); rintro _ w1 ⟨rfl, rfl⟩) | (go_at_call 51; (with_reducible refine (H2.out _).mono ?_); rintro _ w1 ⟨rfl, rfl⟩))
   go_ret;exact ⟨rfl, HB0.out⟩
 ·rw [if_neg hN0] at hr0
  have hN1 : ((N : Int) == 0) = false := by simpa using (by omega : ¬ (N : Int) = 0)
  have hc0 : decide (x.code = 0) = (x.code == 0) := rfl;rw [hc0] at hr0;have HR := Lib.hid hr0;clear hr0;go_enter Tryz.func157, Tryz.ntmps157;go_wp2_with (first | (go_at_call 51; (with_reducible refine (H1.out _).mono ?_); rintro _ w1 ⟨rfl, rfl⟩) | (go_at_call 51; (with_reducible refine (H2.out _).mono ?_); rintro _ w1 ⟨rfl, rfl⟩))
  refine (HS.out _).mono ?_;rintro _ w2 ⟨rfl, hb2⟩;have k4 := za hb2 k4;have HB2 := Lib.hid (HB0.out.trans (hb2.mono HB0.out.size));clear hb2 hW0;cases b3 with
  | false =>
   go_wp2_with fail;go_ret;exact ⟨by rw [HR.out]; rfl, HB2.out⟩
  | true =>
   go_wp2_with fail;go_ret;exact ⟨by rw [HR.out]; rfl, HB2.out⟩
def enBad (s d : Int) (x : En) : Bool := !inn x.index s (d - 1) || !enMay x
set_option maxHeartbeats 4000000 in
theorem enBad_any (F : Nat) (s d : Int) (x : En) (u : Value) (w : World) (h : EvsIs w u x.events) (hs : TxWf x.stream) (h3 : w.cell? ⟨F, 3, none⟩ = some (.int .i64 s)) (h4 : w.cell? ⟨F, 4, none⟩ = some (.int .i64 d)) (hd0 : 0 <= d) (hd1 : d <= 1099511627776) :
 Calls Tryz.prog 156 #[.agg #[.int .i64 x.index, .string (str x.stream), u, .int .i64 x.seq, .int .i64 x.code], .pointer (some ⟨F, 0, none⟩)] w fun z w' => z = .returned (.bool (enBad s d x)) /\ Below w.heap.size w w' := by
 obtain ⟨au, cu, rfl, -⟩ := h.open;obtain ⟨N, hN⟩ : ∃ N, x.events.length = N := ⟨_, rfl⟩;unfold enBad;rw [hN];obtain ⟨W0, hW0⟩ : ∃ W0, w.alloc (.cells #[.int .i64 x.index, .string (str x.stream), .slice au N cu, .int .i64 x.seq, .int .i64 x.code] 53) = W0 := ⟨_, rfl⟩;have hB0 : Below w.heap.size w W0 := by rw [<- hW0]; exact zf _ _
 have k0 : W0.cell? ⟨w.heap.size, 0, none⟩ = some (.int .i64 x.index) := by rw [<- hW0]; exact ze w [_, _, _, _, _] _ 0 _ rfl
 have k1 : W0.cell? ⟨w.heap.size, 1, none⟩ = some (.string (str x.stream)) := by rw [<- hW0]; exact ze w [_, _, _, _, _] _ 1 _ rfl
 have k2 : W0.cell? ⟨w.heap.size, 2, none⟩ = some (.slice au N cu) := by rw [<- hW0]; exact ze w [_, _, _, _, _] _ 2 _ rfl
 have k3 : W0.cell? ⟨w.heap.size, 3, none⟩ = some (.int .i64 x.seq) := by rw [<- hW0]; exact ze w [_, _, _, _, _] _ 3 _ rfl
 have k4 : W0.cell? ⟨w.heap.size, 4, none⟩ = some (.int .i64 x.code) := by rw [<- hW0]; exact ze w [_, _, _, _, _] _ 4 _ rfl
 have j3 := za hB0 h3;have j4 := za hB0 h4;have hw1 : IntKind.i64.wrap (d - 1) = d - 1 := IntWalk.i64_in _ (by omega);have H1 := Lib.hid (fun W => zO x.index s (d - 1) W);have H2 := Lib.hid (show Calls Tryz.prog 157 #[.agg #[.int .i64 x.index, .string (str x.stream), .slice au N cu, .int .i64 x.seq, .int .i64 x.code]] W0 _ from by have hq := mayEntry_any x (.slice au N cu) W0 (by rw [<- hN]; exact h.below hB0) hs; exact hq);obtain ⟨b1, e1⟩ : ∃ c, inn x.index s (d - 1) = c := ⟨_, rfl⟩;obtain ⟨b2, e2⟩ : ∃ c, enMay x = c := ⟨_, rfl⟩;rw [e1] at H1 ⊢;rw [e2] at H2 ⊢;have HB0 := Lib.hid hB0;clear e1 e2 hB0 h hN h3 h4;cases b1 with
 | false =>
  go_enter Tryz.func156, Tryz.ntmps156;go_wp2_with (go_at_call 51; refine (H1.out _).mono ?_; rintro _ w1 ⟨rfl, rfl⟩)
  go_ret;exact ⟨rfl, HB0.out⟩
 | true =>
  go_enter Tryz.func156, Tryz.ntmps156;go_wp2_with (first | (go_at_call 51; refine (H1.out _).mono ?_; rintro _ w1 ⟨rfl, rfl⟩) | (go_at_call 157; refine H2.out.mono ?_; rintro _ w2 ⟨rfl, hb2⟩; have HB2 := Lib.hid (HB0.out.trans (hb2.mono HB0.out.size)); clear hb2))
  go_ret;exact ⟨rfl, HB2.out⟩
theorem cmBad_any (F : Nat) (n : Int) (x : Cm) (au : Option Addr) (N cu : Nat) (w : World) (h3 : w.cell? ⟨F, 1, none⟩ = some (.int .i64 n)) :
 Calls Tryz.prog 152 #[.agg #[.int .i64 x.client, .int .i64 x.seq, .string (str x.stream), .int .i64 x.rule, .slice au N cu, .int .i64 x.expect], .pointer (some ⟨F, 0, none⟩)] w fun z w' => z = .returned (.bool (!decide (x.client = n))) /\ Below w.heap.size w w' := by
 obtain ⟨W0, hW0⟩ : ∃ W0, w.alloc (.cells #[.int .i64 x.client, .int .i64 x.seq, .string (str x.stream), .int .i64 x.rule, .slice au N cu, .int .i64 x.expect] 59) = W0 := ⟨_, rfl⟩;have hB0 : Below w.heap.size w W0 := by rw [<- hW0]; exact zf _ _
 have k0 : W0.cell? ⟨w.heap.size, 0, none⟩ = some (.int .i64 x.client) := by rw [<- hW0]; exact ze w [_, _, _, _, _, _] _ 0 _ rfl
 have k1 : W0.cell? ⟨w.heap.size, 1, none⟩ = some (.int .i64 x.seq) := by rw [<- hW0]; exact ze w [_, _, _, _, _, _] _ 1 _ rfl
 have k2 : W0.cell? ⟨w.heap.size, 2, none⟩ = some (.string (str x.stream)) := by rw [<- hW0]; exact ze w [_, _, _, _, _, _] _ 2 _ rfl
 have k3 : W0.cell? ⟨w.heap.size, 3, none⟩ = some (.int .i64 x.rule) := by rw [<- hW0]; exact ze w [_, _, _, _, _, _] _ 3 _ rfl
 have k4 : W0.cell? ⟨w.heap.size, 4, none⟩ = some (.slice au N cu) := by rw [<- hW0]; exact ze w [_, _, _, _, _, _] _ 4 _ rfl
 have k5 : W0.cell? ⟨w.heap.size, 5, none⟩ = some (.int .i64 x.expect) := by rw [<- hW0]; exact ze w [_, _, _, _, _, _] _ 5 _ rfl
 have j3 := za hB0 h3;have HB0 := Lib.hid hB0;have HE := Lib.hid (show (x.client != n) = !decide (x.client = n) from rfl);clear hB0 h3;go_enter Tryz.func152, Tryz.ntmps152;go_wp2_with fail;go_ret;exact ⟨by rw [<- HE.out]; rfl, HB0.out⟩
theorem keyC_any (x : Cm) (au : Option Addr) (N cu : Nat) (w : World) : Calls Tryz.prog 155 #[.agg #[.int .i64 x.client, .int .i64 x.seq, .string (str x.stream), .int .i64 x.rule, .slice au N cu, .int .i64 x.expect]] w fun z w' => z = .returned (.int .i64 x.seq) /\ Below w.heap.size w w' := by
 obtain ⟨W0, hW0⟩ : ∃ W0, w.alloc (.cells #[.int .i64 x.client, .int .i64 x.seq, .string (str x.stream), .int .i64 x.rule, .slice au N cu, .int .i64 x.expect] 59) = W0 := ⟨_, rfl⟩;have hB0 : Below w.heap.size w W0 := by rw [<- hW0]; exact zf _ _
 have k0 : W0.cell? ⟨w.heap.size, 0, none⟩ = some (.int .i64 x.client) := by rw [<- hW0]; exact ze w [_, _, _, _, _, _] _ 0 _ rfl
 have k1 : W0.cell? ⟨w.heap.size, 1, none⟩ = some (.int .i64 x.seq) := by rw [<- hW0]; exact ze w [_, _, _, _, _, _] _ 1 _ rfl
 have k2 : W0.cell? ⟨w.heap.size, 2, none⟩ = some (.string (str x.stream)) := by rw [<- hW0]; exact ze w [_, _, _, _, _, _] _ 2 _ rfl
 have k3 : W0.cell? ⟨w.heap.size, 3, none⟩ = some (.int .i64 x.rule) := by rw [<- hW0]; exact ze w [_, _, _, _, _, _] _ 3 _ rfl
 have k4 : W0.cell? ⟨w.heap.size, 4, none⟩ = some (.slice au N cu) := by rw [<- hW0]; exact ze w [_, _, _, _, _, _] _ 4 _ rfl
 have k5 : W0.cell? ⟨w.heap.size, 5, none⟩ = some (.int .i64 x.expect) := by rw [<- hW0]; exact ze w [_, _, _, _, _, _] _ 5 _ rfl
 have HB0 := Lib.hid hB0;clear hB0;go_enter Tryz.func155, Tryz.ntmps155;go_wp2_with fail;go_ret;exact ⟨rfl, HB0.out⟩
theorem keyN_any (x : En) (au : Option Addr) (N cu : Nat) (w : World) : Calls Tryz.prog 160 #[.agg #[.int .i64 x.index, .string (str x.stream), .slice au N cu, .int .i64 x.seq, .int .i64 x.code]] w fun z w' => z = .returned (.int .i64 x.index) /\ Below w.heap.size w w' := by
 obtain ⟨W0, hW0⟩ : ∃ W0, w.alloc (.cells #[.int .i64 x.index, .string (str x.stream), .slice au N cu, .int .i64 x.seq, .int .i64 x.code] 53) = W0 := ⟨_, rfl⟩;have hB0 : Below w.heap.size w W0 := by rw [<- hW0]; exact zf _ _
 have k0 : W0.cell? ⟨w.heap.size, 0, none⟩ = some (.int .i64 x.index) := by rw [<- hW0]; exact ze w [_, _, _, _, _] _ 0 _ rfl
 have k1 : W0.cell? ⟨w.heap.size, 1, none⟩ = some (.string (str x.stream)) := by rw [<- hW0]; exact ze w [_, _, _, _, _] _ 1 _ rfl
 have k2 : W0.cell? ⟨w.heap.size, 2, none⟩ = some (.slice au N cu) := by rw [<- hW0]; exact ze w [_, _, _, _, _] _ 2 _ rfl
 have k3 : W0.cell? ⟨w.heap.size, 3, none⟩ = some (.int .i64 x.seq) := by rw [<- hW0]; exact ze w [_, _, _, _, _] _ 3 _ rfl
 have k4 : W0.cell? ⟨w.heap.size, 4, none⟩ = some (.int .i64 x.code) := by rw [<- hW0]; exact ze w [_, _, _, _, _] _ 4 _ rfl
 have HB0 := Lib.hid hB0;clear hB0;go_enter Tryz.func160, Tryz.ntmps160;go_wp2_with fail;go_ret;exact ⟨rfl, HB0.out⟩
end Go.Proofs.YtaidhoepnefcpaaGreat.C10
namespace Go.Proofs.YtaidhoepnefcpaaGreat.V
open Go.RowKit
theorem ret_two {a a' : ByteArray} {b b' : Int} (h : a = a') (h' : b = b') : Ending.returned (.tuple #[.string a, .int .i64 b]) = .returned (.tuple #[.string a', .int .i64 b']) := by rw [h, h']
set_option maxHeartbeats 400000 in
theorem yY (l : List UInt8) (w : World) (hl : l.length <= maxLen) :
 Calls Tryz.prog 119 #[.string (str l)] w fun e w' => e = .returned (.tuple #[.string (str (textOf l).1), .int .i64 (textOf l).2]) /\ Below w.heap.size w w' := by
 have hsz : (str l).size = l.length := zn l;have hl' : l.length <= 9223372036854775807 := hl;have HL := Lib.hid hl'; clear hl hl'
 by_cases h : 4096 < l.length
 ·have hv : textOf l = ([], 4) := by simp [textOf, h]
  rw [hv];have hlt : 4096 < (l.length : Int) := by omega
  clear hv h;go_enter Tryz.func119, Tryz.ntmps119;go_wp2_with fail;go_ret2;exact ⟨rfl, Below.refl _ _⟩
 ·have hv : textOf l = (num l.length ++ l, 0) := by simp [textOf, h]
  rw [hv];have hlt : ¬ 4096 < (l.length : Int) := by omega
  have hn : (str (num l.length)).size <= 10 := by rw [zn]; exact zi _ (by omega) (by have := HL.out; omega)
  have happ := yS (num l.length) l;have HAPP := Lib.hid happ; clear happ
  clear hv h;go_enter Tryz.func119, Tryz.ntmps119;go_wp2_with (go_at_call 110; refine (zA _ _ (by omega) (by have := HL.out; omega)).mono ?_; rintro e w1 ⟨rfl, hb⟩)
  go_ret2;exact ⟨ret_two HAPP.out rfl, hb⟩
end Go.Proofs.YtaidhoepnefcpaaGreat.V
namespace Go.Proofs.YtaidhoepnefcpaaGreat.K
open Go Go.RowKit
theorem ownsRow_below {w w' : World} {base : Nat} {e : TypeId} {size : Nat} {v : Value} {n : Nat} {xs : List Value} (h : w.ownsRow base e size v n xs) (hb : Below w.heap.size w w') : w'.ownsRow base e size v n xs := by
 refine ⟨h.1, ?_⟩;rcases h.2 with h | ⟨g, cap, cur, hv, hg, hh, r⟩
 ·exact .inl h
 ·exact .inr ⟨g, cap, cur, hv, hg, (hb.block g (Array.getElem?_eq_some_iff.1 hh).1).trans hh, r⟩
theorem jD {T e : TypeId} {B b : Nat} {p : Value} {bs : List Value} {w w' : World} (h : Lib.BuilderAt T e B b p bs w) (hb : Below w.heap.size w w') : Lib.BuilderAt T e B b p bs w' := by
 obtain ⟨hB, v, hbk, hown, hne⟩ := h;exact ⟨hB, v, (hb.block b (Array.getElem?_eq_some_iff.1 hbk).1).trans hbk, ownsRow_below hown hb, hne⟩
theorem zQ {T e : TypeId} {B b : Nat} {bs : List Value} {w w' : World} (h : Lib.IsBuilder T e B b bs w) (hb : Below w.heap.size w w') : Lib.IsBuilder T e B b bs w' :=
 h.elim (fun h => .inl (jD h hb)) (fun h => .inr (jD h hb))
theorem yV (w : World) (T e : TypeId) : Lib.IsBuilder T e w.heap.size w.heap.size [] (w.alloc (.cells #[.pointer none, .slice none 0 0] T)) := by
 refine .inl ⟨Nat.le_refl _, .slice none 0 0, ?_, World.ownsRow_nil _ _ _ _, by simp [Value.ownBlock]⟩;show (w.heap.push _)[w.heap.size]? = _
 simp
end Go.Proofs.YtaidhoepnefcpaaGreat.K
