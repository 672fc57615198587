/-
  Layer 10, the document's answers: the bytes of records.
-/
import Derived.Test.YtaidhoepnefcpaaGreatVInv
import Derived.Deep.QuietTactic
import Derived.BigQuiet
import Derived.Deep.DeepCutAuto
import Derived.Deep.RegionHeld3
import Derived.Deep.RegionHeldLaw
namespace Go.Proofs.YtaidhoepnefcpaaGreat.C10
open Go Go.RowKit Go.Proofs B K P8
set_option linter.unusedVariables false
abbrev Rd (X : Type) := List UInt8 -> Int -> Option (X × Int)
def got {X : Type} (r : X × Int × Int) : Option (X × Int) := if r.2.2 = 0 then some (r.1, r.2.1) else none
def rNum : Rd Int := fun s p => got (V.rdAt s p)
def rTxt : Rd (List UInt8) := fun s p => got (V.txt s p)
def rNums : Rd (List Int) := fun s p => got (V.nums s p)
def rThen {X Y : Type} (f : Rd X) (g : X -> Rd Y) : Rd Y := fun s p => (f s p).bind fun r => g r.1 s r.2
def rEnd {X : Type} (ok : X -> Bool) (x : X) : Rd X := fun _ p => if ok x then some (x, p) else none
def rMany {X : Type} (item : Rd X) : Nat -> Rd (List X)
 | 0 => fun _ p => some ([], p)
 | n + 1 => rThen item fun x => rThen (rMany item n) fun l => fun _ p => some (x :: l, p)
def rList {X : Type} (item : Rd X) (most : Nat) : Rd (List X) := rThen rNum fun n => if n < 0 \/ (most : Int) < n then fun _ _ => none else rMany item n.toNat
def rEv : Rd Ev := rThen rNum fun a => rThen rNums fun v => rEnd (fun _ => true) ⟨a, v⟩
def rIt : Rd It := rThen rTxt fun t => rThen rNum fun a => rThen rNum fun b => rThen rNums fun v => rEnd (fun _ => true) ⟨t, ⟨a, b, v⟩⟩
def rVd : Rd Vd := rThen rNum fun a => rThen rNum fun b => rEnd (fun _ => true) ⟨a, b⟩
def rdCmd : Rd Cm := rThen rNum fun a => rThen rNum fun b => rThen rTxt fun t => rThen rNum fun r => rThen rNums fun v => rThen rNum fun e => rEnd cmdP ⟨a, b, t, r, v, e⟩
def rdEvs : Rd (List Ev) := rThen (rList rEv 3) fun l => rEnd evsP l
def rdItems : Rd (List It) := rThen (rList rIt 64) fun l => rEnd itemsP l
def rdVds : Rd (List Vd) := rThen (rList rVd 32) fun l => rEnd vdsP l
def rdFilt : Rd (List (List UInt8)) := rThen (rList rTxt 8) fun l => rEnd filtP l
def Back {X : Type} (f : Rd X) (x : X) (t : List UInt8) : Prop := ∀ A B : List UInt8, f (A ++ (t ++ B)) (A.length : Int) = some (x, (A.length : Int) + (t.length : Int))
theorem back_then {X Y : Type} {f : Rd X} {g : X -> Rd Y} {x : X} {y : Y} {t u : List UInt8} (h : Back f x t) (k : Back (g x) y u) : Back (rThen f g) y (t ++ u) := fun A B => by
 unfold rThen;rw [List.append_assoc, h A (u ++ B)];have := k (A ++ t) B;rw [List.append_assoc, List.length_append, Int.natCast_add] at this;simp only [Option.bind_some];rw [this, List.length_append, Int.natCast_add, Int.add_assoc]
theorem back_end {X : Type} {ok : X -> Bool} {x : X} (h : ok x = true) : Back (rEnd ok x) x [] := fun A B => by
 unfold rEnd;rw [if_pos h]; simp
theorem back_num (n : Int) (h : I64 n) : Back rNum n (num n) := fun A B => by
 unfold rNum got;rw [show num n = V.num n from rfl, V.rdAt_num A B n h.1 h.2]; simp
theorem back_text (s : List UInt8) (h : s.length <= 4096) : Back rTxt s (textL s) := fun A B => by
 unfold rTxt got;rw [show textL s = V.num (s.length : Int) ++ s from rfl, V.txt_text A B s h]; simp
theorem layAll_nums : ∀ l : List Int, V.layAll V.numOf l = (numsL l, 0)
 | [] => rfl
 | x :: l => by
  unfold V.layAll;rw [layAll_nums l, numsL_cons];simp [V.numOf, V.comb];rfl
theorem layList_nums (l : List Int) (h : l.length <= 256) : V.layList V.numOf l = (listL l, 0) := by
 unfold V.layList;rw [if_neg (by omega), layAll_nums];simp [V.comb];rfl
theorem back_nums (l : List Int) (h : ∀ x ∈ l, I64 x) (hl : l.length <= 256) : Back rNums l (listL l) := fun A B => by
 unfold rNums got;rw [V.nums_back l h (listL l) (layList_nums l hl) A B]; simp
theorem back_many {X : Type} (f : Rd X) (lay : X -> List UInt8) : ∀ l : List X, (∀ x ∈ l, Back f x (lay x)) -> Back (rMany f l.length) l (l.flatMap lay)
 | [], _ => fun A B => by simp [rMany]
 | x :: l, h => by
  have h1 := back_then (h x (List.mem_cons_self ..)) (g := fun x => rThen (rMany f l.length) fun l => fun _ p => some (x :: l, p)) (y := x :: l) (u := l.flatMap lay ++ []) (back_then (back_many f lay l fun y hy => h y (List.mem_cons_of_mem _ hy)) (fun A B => by simp));rw [List.append_nil] at h1;exact h1
theorem back_list {X : Type} (f : Rd X) (lay : X -> List UInt8) (most : Nat) (hm : most <= 1000) (l : List X) (hl : l.length <= most) (h : ∀ x ∈ l, Back f x (lay x)) : Back (rList f most) l (num (l.length : Int) ++ l.flatMap lay) := by
 unfold rList;refine back_then (back_num _ ⟨by omega, by omega⟩) ?_;rw [if_neg (by omega), Int.toNat_natCast];exact back_many f lay l h
theorem inn_iff {n a b : Int} : inn n a b = true ↔ a <= n /\ n <= b := by unfold inn; simp
theorem vals_facts {l : List Int} {m : Nat} (h : valsP l m = true) : (∀ x ∈ l, I64 x) /\ l.length <= m := by
 unfold valsP at h;rw [Bool.and_eq_true, List.all_eq_true, decide_eq_true_eq] at h;exact ⟨fun x hx => by have := inn_iff.1 (h.1 x hx); exact ⟨by omega, by omega⟩, h.2⟩
theorem stream_len {s : List UInt8} (h : streamP s = true) : s.length <= 32 := by
 unfold streamP rowOk at h;simp only [Bool.and_eq_true, decide_eq_true_eq] at h
 first | exact h.1 | exact h.1.1 | omega
theorem head_facts {c q : Int} {s : List UInt8} (h : headP c q s = true) : I64 c /\ I64 q /\ s.length <= 32 := by
 unfold headP at h;rw [Bool.and_eq_true, Bool.and_eq_true, inn_iff, inn_iff] at h;exact ⟨⟨by omega, by omega⟩, ⟨by omega, by omega⟩, stream_len h.2.2⟩
theorem cmd_back (c : Cm) (h : cmdP c = true) : Back rdCmd c (layCmd c) := by
 have h0 := h;obtain ⟨a, b, t, r, v, e⟩ := c;unfold cmdP at h;simp only [Bool.and_eq_true, inn_iff] at h;obtain ⟨hh, hr, hv, he⟩ := h;obtain ⟨h1, h2, h3⟩ := head_facts hh;obtain ⟨h4, h5⟩ := vals_facts hv;have e1 : layCmd ⟨a, b, t, r, v, e⟩ = num a ++ (num b ++ (textL t ++ (num r ++ (listL v ++ (num e ++ []))))) := by
  simp [layCmd, numsL]
 rw [e1];unfold rdCmd;refine back_then (back_num a h1) ?_;refine back_then (back_num b h2) ?_;refine back_then (back_text t (by omega)) ?_;refine back_then (back_num r ⟨by omega, by omega⟩) ?_;refine back_then (back_nums v h4 (by omega)) ?_;refine back_then (back_num e ⟨by omega, by omega⟩) ?_;exact back_end h0
theorem ev_back (x : Ev) (h : evP x = true) : Back rEv x (layEv x) := by
 obtain ⟨a, v⟩ := x;unfold evP at h;simp only [Bool.and_eq_true, inn_iff] at h;obtain ⟨h4, h5⟩ := vals_facts h.2;have e1 : layEv ⟨a, v⟩ = num a ++ (listL v ++ []) := by simp [layEv]
 rw [e1];unfold rEv;refine back_then (back_num a ⟨by omega, by omega⟩) ?_;refine back_then (back_nums v h4 (by omega)) ?_;exact back_end rfl
theorem evs_facts {l : List Ev} (h : evsP l = true) : (∀ x ∈ l, evP x = true) /\ l.length <= 3 := by
 unfold evsP at h;rw [Bool.and_eq_true, List.all_eq_true, decide_eq_true_eq] at h;exact h
theorem evs_list_back (l : List Ev) (h : evsP l = true) : Back (rList rEv 3) l (layEvs l) := by
 obtain ⟨h1, h2⟩ := evs_facts h;exact back_list rEv layEv 3 (by omega) l h2 fun x hx => ev_back x (h1 x hx)
theorem evs_back (l : List Ev) (h : evsP l = true) : Back rdEvs l (layEvs l) := by
 have := back_then (evs_list_back l h) (g := fun l => rEnd evsP l) (back_end h);rw [List.append_nil] at this;exact this
theorem it_back (x : It) (h1 : streamP x.stream = true) (h2 : stP x.st = true) : Back rIt x (layIt x) := by
 obtain ⟨t, a, b, v⟩ := x;have h3 := stream_len h1;unfold stP at h2;simp only [Bool.and_eq_true, inn_iff] at h2;obtain ⟨h4, h5⟩ := vals_facts h2.2.2;have e1 : layIt ⟨t, a, b, v⟩ = textL t ++ (num a ++ (num b ++ (listL v ++ []))) := by simp [layIt, numsL]
 rw [e1];unfold rIt;refine back_then (back_text t (by dsimp only at h3; omega)) ?_;refine back_then (back_num a ⟨by omega, by omega⟩) ?_;refine back_then (back_num b ⟨by omega, by omega⟩) ?_;refine back_then (back_nums v h4 (by omega)) ?_;exact back_end rfl
theorem itemsGo_facts (l : List It) : ∀ (r : List It) (k : Nat), itemsGo l k r = true -> ∀ x ∈ r, streamP x.stream = true /\ stP x.st = true
 | [], _, _, x, hx => by cases hx
 | y :: r, k, h, x, hx => by
  rw [itemsGo, Bool.and_eq_true] at h;rcases List.mem_cons.1 hx with rfl | hx
  ·have := h.1
   unfold itP at this;rw [Bool.and_eq_true, Bool.and_eq_true] at this;exact ⟨this.1, this.2.1⟩
  ·exact itemsGo_facts l r (k + 1) h.2 x hx
theorem items_back (l : List It) (h : itemsP l = true) : Back rdItems l (layItems l) := by
 have h0 := h;unfold itemsP at h;rw [Bool.and_eq_true, decide_eq_true_eq] at h;have h1 := itemsGo_facts l l 0 h.1;have := back_then (back_list rIt layIt 64 (by omega) l h.2 fun x hx => it_back x (h1 x hx).1 (h1 x hx).2) (g := fun l => rEnd itemsP l) (back_end h0);rw [List.append_nil] at this;exact this
theorem vd_back (x : Vd) (h : VdWf x) : Back rVd x (layVd x) := by
 obtain ⟨a, b⟩ := x;have e1 : layVd ⟨a, b⟩ = num a ++ (num b ++ []) := by simp [layVd, numsL]
 rw [e1];unfold rVd;refine back_then (back_num a h.1) ?_;refine back_then (back_num b h.2) ?_;exact back_end rfl
theorem vdsGo_facts (l : List Vd) : ∀ (r : List Vd) (k : Nat), vdsGo l k r = true -> ∀ x ∈ r, VdWf x
 | [], _, _, x, hx => by cases hx
 | y :: r, k, h, x, hx => by
  rw [vdsGo, Bool.and_eq_true] at h;rcases List.mem_cons.1 hx with rfl | hx
  ·have := h.1
   unfold vdP at this;simp only [Bool.and_eq_true, inn_iff] at this;exact ⟨⟨by omega, by omega⟩, ⟨by omega, by omega⟩⟩
  ·exact vdsGo_facts l r (k + 1) h.2 x hx
theorem vds_back (l : List Vd) (h : vdsP l = true) : Back rdVds l (layVds l) := by
 have h0 := h;unfold vdsP at h;rw [Bool.and_eq_true, decide_eq_true_eq] at h;have := back_then (back_list rVd layVd 32 (by omega) l h.2 fun x hx => vd_back x (vdsGo_facts l l 0 h.1 x hx)) (g := fun l => rEnd vdsP l) (back_end h0);rw [List.append_nil] at this;exact this
theorem pat_len {s : List UInt8} (h : patP s = true) : s.length <= 32 := by
 unfold patP rowOk at h;simp only [Bool.and_eq_true, decide_eq_true_eq] at h
 first | exact h.1 | exact h.1.1 | omega
theorem filt_back (l : List (List UInt8)) (h : filtP l = true) : Back rdFilt l (layFilt l) := by
 have h0 := h;unfold filtP at h;rw [Bool.and_eq_true, decide_eq_true_eq, List.all_eq_true] at h;have := back_then (back_list rTxt textL 8 (by omega) l h.1 fun x hx => back_text x (by have := pat_len (h.2 x hx); omega)) (g := fun l => rEnd filtP l) (back_end h0);rw [List.append_nil] at this;exact this
def Once {X : Type} (f : Rd X) (lay : X -> List UInt8) : Prop := ∀ (s : List UInt8) (p : Int) (x : X) (q : Int), f s p = some (x, q) -> lay x = V.cut s p q /\ 0 <= p /\ p <= q /\ q <= (s.length : Int)
theorem then_some {X Y : Type} {f : Rd X} {g : X -> Rd Y} {s : List UInt8} {p : Int} {y : Y} {q : Int} (h : rThen f g s p = some (y, q)) : ∃ x m, f s p = some (x, m) /\ g x s m = some (y, q) := by
 unfold rThen at h;cases hf : f s p with
 | none => rw [hf] at h; cases h
 | some r => exact ⟨r.1, r.2, rfl, by rw [hf] at h; exact h⟩
theorem end_some {X : Type} {ok : X -> Bool} {x y : X} {s : List UInt8} {p q : Int} (h : rEnd ok x s p = some (y, q)) : ok x = true /\ y = x /\ q = p := by
 unfold rEnd at h;split at h
 ·cases h; exact ⟨by assumption, rfl, rfl⟩
 ·cases h
theorem got_some {X : Type} {r : X × Int × Int} {x : X} {q : Int} (h : got r = some (x, q)) : r = (x, q, 0) := by
 unfold got at h;split at h
 ·cases h; obtain ⟨a, b, c⟩ := r; simp_all
 ·cases h
theorem once_num : Once rNum num := fun s p x q h => by
 have h := got_some h;have hk := V.rdAt_ok s p h;exact ⟨V.num_once s p h, hk.1, by omega, hk.2.2.1⟩
theorem once_text : Once rTxt textL := fun s p x q h => by
 obtain ⟨h1, h2⟩ := V.text_once s p (got_some h);refine ⟨?_, h2⟩;unfold V.textOf at h1;split at h1
 ·exact absurd (congrArg Prod.snd h1) (by simp)
 ·exact congrArg Prod.fst h1
theorem nums_len {s : List UInt8} {p : Int} {x : List Int} {q : Int} (h : rNums s p = some (x, q)) : x.length <= 256 := by
 have := V.nums_len s p;rw [got_some h] at this;exact this
theorem once_nums : Once rNums listL := fun s p x q h => by
 obtain ⟨h1, h2⟩ := V.nums_once s p (got_some h);rw [layList_nums x (nums_len h)] at h1;exact ⟨congrArg Prod.fst h1, h2⟩
theorem cut_two {s : List UInt8} {p m q : Int} {t u : List UInt8} (h1 : t = V.cut s p m) (h2 : u = V.cut s m q) (h0 : 0 <= p) (h3 : p <= m) (h4 : m <= q) : t ++ u = V.cut s p q := by
 rw [h1, h2, V.cut_cut s h0 h3 h4]
theorem once_many {X : Type} (f : Rd X) (lay : X -> List UInt8) (h : Once f lay) : ∀ (n : Nat) (s : List UInt8) (p : Int) (l : List X) (q : Int), 0 <= p -> p <= (s.length : Int) -> rMany f n s p = some (l, q) -> l.flatMap lay = V.cut s p q /\ p <= q /\ q <= (s.length : Int) /\ l.length = n
 | 0, s, p, l, q, h0, h1, hr => by
  cases hr
  exact ⟨by rw [V.cut_self]; rfl, by omega, h1, rfl⟩
 | n + 1, s, p, l, q, h0, h1, hr => by
  obtain ⟨x, m, hx, hr⟩ := then_some hr;obtain ⟨r, m', hr', he⟩ := then_some hr;cases he
  obtain ⟨k1, k2, k3, k4⟩ := h s p x m hx;obtain ⟨j1, j2, j3, j4⟩ := once_many f lay h n s m r q (by omega) k4 hr';exact ⟨by rw [List.flatMap_cons]; exact cut_two k1 j1 h0 k3 j2, by omega, j3, by rw [List.length_cons, j4]⟩
theorem once_list {X : Type} (f : Rd X) (lay : X -> List UInt8) (most : Nat) (h : Once f lay) : Once (rList f most) (fun l => num (l.length : Int) ++ l.flatMap lay) := fun s p l q hr => by
 obtain ⟨n, m, hn, hr⟩ := then_some hr;obtain ⟨k1, k2, k3, k4⟩ := once_num s p n m hn;by_cases hb : n < 0 \/ (most : Int) < n
 ·rw [if_pos hb] at hr; cases hr
 ·rw [if_neg hb] at hr
  obtain ⟨j1, j2, j3, j4⟩ := once_many f lay h n.toNat s m l q (by omega) k4 hr;have : (l.length : Int) = n := by omega
  exact ⟨by show num (l.length : Int) ++ l.flatMap lay = _; rw [this]; exact cut_two k1 j1 k2 k3 j2, k2, by omega, j3⟩
theorem once_ev : Once rEv layEv := fun s p x q h => by
 obtain ⟨a, m1, h1, h⟩ := then_some h;obtain ⟨v, m2, h2, h⟩ := then_some h;obtain ⟨_, rfl, rfl⟩ := end_some h;obtain ⟨k1, k2, k3, k4⟩ := once_num _ _ _ _ h1;obtain ⟨j1, j2, j3, j4⟩ := once_nums _ _ _ _ h2;exact ⟨cut_two k1 j1 k2 k3 j3, k2, by omega, j4⟩
theorem once_it : Once rIt layIt := fun s p x q h => by
 obtain ⟨t, m1, h1, h⟩ := then_some h;obtain ⟨a, m2, h2, h⟩ := then_some h;obtain ⟨b, m3, h3, h⟩ := then_some h;obtain ⟨v, m4, h4, h⟩ := then_some h;obtain ⟨_, rfl, rfl⟩ := end_some h;obtain ⟨k1, k2, k3, k4⟩ := once_text _ _ _ _ h1;obtain ⟨j1, j2, j3, j4⟩ := once_num _ _ _ _ h2;obtain ⟨i1, i2, i3, i4⟩ := once_num _ _ _ _ h3;obtain ⟨g1, g2, g3, g4⟩ := once_nums _ _ _ _ h4;refine ⟨?_, k2, by omega, g4⟩;have e := cut_two (cut_two k1 (cut_two j1 i1 j2 j3 i3) k2 k3 (by omega)) g1 k2 (by omega) g3;rw [<- e];simp [layIt, numsL]
theorem once_vd : Once rVd layVd := fun s p x q h => by
 obtain ⟨a, m1, h1, h⟩ := then_some h;obtain ⟨b, m2, h2, h⟩ := then_some h;obtain ⟨_, rfl, rfl⟩ := end_some h;obtain ⟨k1, k2, k3, k4⟩ := once_num _ _ _ _ h1;obtain ⟨j1, j2, j3, j4⟩ := once_num _ _ _ _ h2;refine ⟨?_, k2, by omega, j4⟩;rw [<- cut_two k1 j1 k2 k3 j3];simp [layVd, numsL]
def OnceP {X : Type} (f : Rd X) (ok : X -> Bool) (lay : X -> List UInt8) : Prop := ∀ (s : List UInt8) (p : Int) (x : X) (q : Int), f s p = some (x, q) -> ok x = true /\ lay x = V.cut s p q /\ 0 <= p /\ p <= q /\ q <= (s.length : Int)
theorem once_endP {X : Type} {f : Rd X} {ok : X -> Bool} {lay : X -> List UInt8} (h : Once f lay) : OnceP (rThen f fun x => rEnd ok x) ok lay := fun s p x q hr => by
 obtain ⟨y, m, h1, hr⟩ := then_some hr;obtain ⟨ho, rfl, rfl⟩ := end_some hr;exact ⟨ho, h _ _ _ _ h1⟩
theorem evs_once : OnceP rdEvs evsP layEvs := once_endP (once_list rEv layEv 3 once_ev)
theorem items_once : OnceP rdItems itemsP layItems := once_endP (once_list rIt layIt 64 once_it)
theorem vds_once : OnceP rdVds vdsP layVds := once_endP (once_list rVd layVd 32 once_vd)
theorem filt_once : OnceP rdFilt filtP layFilt := once_endP (once_list rTxt textL 8 once_text)
theorem cmd_once : OnceP rdCmd cmdP layCmd := fun s p x q h => by
 obtain ⟨a, m1, h1, h⟩ := then_some h;obtain ⟨b, m2, h2, h⟩ := then_some h;obtain ⟨t, m3, h3, h⟩ := then_some h;obtain ⟨r, m4, h4, h⟩ := then_some h;obtain ⟨v, m5, h5, h⟩ := then_some h;obtain ⟨e, m6, h6, h⟩ := then_some h;obtain ⟨ho, rfl, rfl⟩ := end_some h;obtain ⟨a1, a2, a3, a4⟩ := once_num _ _ _ _ h1;obtain ⟨b1, b2, b3, b4⟩ := once_num _ _ _ _ h2;obtain ⟨c1, c2, c3, c4⟩ := once_text _ _ _ _ h3;obtain ⟨d1, d2, d3, d4⟩ := once_num _ _ _ _ h4;obtain ⟨e1, e2, e3, e4⟩ := once_nums _ _ _ _ h5;obtain ⟨f1, f2, f3, f4⟩ := once_num _ _ _ _ h6;refine ⟨ho, ?_, a2, by omega, f4⟩;rw [<- cut_two (cut_two (cut_two (cut_two (cut_two a1 b1 a2 a3 b3) c1 a2 (by omega) c3) d1 a2 (by omega) d3) e1 a2 (by omega) e3) f1 a2 (by omega) f3];simp [layCmd, numsL]
set_option maxRecDepth 100000
theorem add_str (a b : List UInt8) (h : a.length + b.length <= 9223372036854775807) : ∀ W, (Op.stringOp .add (str a) (str b)).run Tryz.prog W = .ok (.string (str (a ++ b))) W := fun W => by
 rw [run_string_add_sum W _ _ (by rw [str_size, str_size]; omega), <- str_append]
theorem flat_take {X : Type} (f : X -> List UInt8) {m : List X} {x : X} {K : Nat} (h : m[K]? = some x) : (m.take (K + 1)).flatMap f = (m.take K).flatMap f ++ f x := by
 rw [List.take_add_one, List.flatMap_append, h];simp
set_option maxHeartbeats 1000000 in
theorem text_any (L : Low) (s : List UInt8) (w : World) (hs : TxWf s) :
 Calls Tryz.prog 32 #[.string (str s)] w fun e w' => e = .returned (.string (str (textL s))) /\ Below w.heap.size w w' := by
 have H1 := Lib.hid (fun W => L.number (s.length : Int) W (i64_len hs));have hl2 := num_len (s.length : Int) (i64_len hs);unfold TxWf at hs;have e1 := add_str (num (s.length : Int)) s (by omega);have HD := Lib.hid (show textL s = num (s.length : Int) ++ s from rfl);have hsz : (str s).size = s.length := str_size s;generalize textL s = R at HD ⊢
 generalize num (s.length : Int) = X at e1 HD H1
 obtain ⟨N, hN⟩ : ∃ N, s.length = N := ⟨_, rfl⟩;rw [hN] at H1 hsz hs;clear hl2 hN;go_enter Tryz.func32, Tryz.ntmps32;go_wp2_with fail;refine (H1.out _).mono ?_;rintro _ w1 ⟨rfl, hb1⟩;go_wp2_with fail;go_ret;exact ⟨by rw [HD.out]; rfl, hb1⟩
theorem flat_len {X : Type} (f : X -> List UInt8) (c : Nat) : ∀ (l : List X), (∀ x ∈ l, (f x).length <= c) -> (l.flatMap f).length <= c * l.length
 | [], _ => Nat.le_refl _
 | x :: l, h => by
  rw [List.flatMap_cons, List.length_append, List.length_cons, Nat.mul_succ];have h1 := h x (List.mem_cons_self ..);have h2 := flat_len f c l fun y hy => h y (List.mem_cons_of_mem _ hy)
  omega
end Go.Proofs.YtaidhoepnefcpaaGreat.C10
