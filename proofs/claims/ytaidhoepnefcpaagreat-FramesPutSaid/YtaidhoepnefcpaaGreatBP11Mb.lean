/-
  Layer 11, the program: which commands, which entries may be together.
-/
import Derived.Test.YtaidhoepnefcpaaGreatBP11Wf
namespace Go.Proofs.YtaidhoepnefcpaaGreat.C10
open Go Go.RowKit Go.Proofs B K P8
set_option linter.unusedVariables false
set_option maxRecDepth 100000
def mayCs (f : Fr) : Bool := inn (f.cmds.length : Int) 1 8 && (!(f.cmds.any fun x => !decide (x.client = f.client)) && riseL (fun a b => decide (a.seq < b.seq)) f.cmds)
def mayEs (f : Fr) : Bool := decide ((f.entries.length : Int) <= 16) && (!(f.entries.any (enBad f.src f.dst)) && riseL (fun a b => decide (a.index < b.index)) f.entries)
def mayK (f : Fr) : Bool :=
 if f.kind = 1 then inn f.src 0 1099511627776 && inn f.dst 1 1099511627776
 else if f.kind = 2 then mayCs f
 else if f.kind = 3 then inn f.dst 0 1099511627776
 else if f.kind = 4 then inn f.dst 0 1099511627776 && (inn f.src 0 f.dst && mayEs f)
 else if f.kind = 5 then inn f.dst 0 1099511627776 else false
def othF (f : Fr) : Fr :=
 if f.kind = 1 then ⟨0, 0, 0, 0, 0, [], f.cmds, f.entries, f.items, f.verdicts⟩
 else if f.kind = 2 then ⟨0, 0, 0, f.src, f.dst, f.filter, [], f.entries, f.items, f.verdicts⟩
 else if f.kind = 3 then ⟨0, 0, 0, f.src, 0, f.filter, f.cmds, f.entries, f.items, f.verdicts⟩
 else if f.kind = 4 then ⟨0, 0, 0, 0, 0, f.filter, f.cmds, [], f.items, f.verdicts⟩
 else if f.kind = 5 then ⟨0, 0, 0, f.src, 0, f.filter, f.cmds, f.entries, [], []⟩
 else ⟨0, 0, 0, f.src, f.dst, f.filter, f.cmds, f.entries, f.items, f.verdicts⟩
noncomputable def mayP (f : Fr) : Bool := inn f.client 0 5 && (inn f.epoch 1 1099511627776 && (mayK f && eqv (othF f) noFr))
theorem any_not {X : Type} (p : X -> Bool) (l : List X) : (!(l.any fun x => !p x)) = l.all p := by
 induction l with
 | nil => rfl
 | cons x l ih => rw [List.any_cons, List.all_cons, Bool.not_or, Bool.not_not, ih]
theorem ens_bad (s d : Int) (l : List En) : (!(l.any (enBad s d))) = l.all (fun x => decide (s <= x.index) && decide (x.index < d) && enMay x) := by
 induction l with
 | nil => rfl
 | cons x l ih =>
  rw [List.any_cons, List.all_cons, Bool.not_or, ih];congr 1
  unfold enBad;rw [Bool.not_or, Bool.not_not, Bool.not_not];congr 1
  rw [Bool.eq_iff_iff, zq];simp only [Bool.and_eq_true, decide_eq_true_eq];omega
theorem Zh (f : Fr) : rightP f = (mayP f && codP f) := by
 obtain ⟨k, c, e, a, b, l5, l6, l7, l8, l9⟩ := f;unfold rightP mayP codP mayK othF kindP noneP mayCs mayEs noFr;dsimp only;rw [ZH c l6 l6 0 rfl, ZP a b l7 l7 0 rfl, any_not, ens_bad];rw [show riseK (fun a b : Cm => decide (a.seq < b.seq)) l6 l6 0 = riseL (fun a b => decide (a.seq < b.seq)) l6 from rfl, show riseK (fun a b : En => decide (a.index < b.index)) l7 l7 0 = riseL (fun a b => decide (a.index < b.index)) l7 from rfl];by_cases h1 : k = 1
 ·subst h1
  rw [Bool.eq_iff_iff];simp only [Bool.and_eq_true, Bool.or_eq_true, decide_eq_true_eq, zq, if_true, yf, Fr.mk.injEq, List.length_eq_zero_iff, true_and, true_or];constructor
  ·rintro ⟨x1, x2, x3, x4, x5, x6, x7, x8⟩
   try simp at x4
   exact ⟨⟨x2, x3, ⟨x5, by omega⟩, x4.1, x4.2.1, x4.2.2.1, x4.2.2.2⟩, x8⟩
  ·rintro ⟨⟨x2, x3, ⟨x5, x6⟩, x4⟩, x8⟩; exact ⟨by omega, x2, x3, by simpa using x4, x5, by omega, by omega, x8⟩
 by_cases h2 : k = 2
 ·subst h2
  rw [Bool.eq_iff_iff];simp only [Bool.and_eq_true, Bool.or_eq_true, decide_eq_true_eq, zq, if_true, yf, Fr.mk.injEq, List.length_eq_zero_iff, true_and, true_or, show ¬ ((2 : Int) = 1) by decide, if_false, false_or];constructor
  ·rintro ⟨x1, x2, x3, x4, x5, x6, ⟨y1, y2, y3⟩, x8, x9, x10, x11⟩
   try simp at x4
   exact ⟨⟨x2, x3, ⟨⟨by omega, by omega⟩, y2, y3⟩, x8, x9, x4.1, x4.2.1, x4.2.2.1, x4.2.2.2⟩, y1⟩
  ·rintro ⟨⟨x2, x3, ⟨⟨x10, x11⟩, y2, y3⟩, x8, x9, x4⟩, y1⟩; exact ⟨by omega, x2, x3, by simpa using x4, by omega, by omega, ⟨y1, y2, y3⟩, x8, x9, by omega, by omega⟩
 by_cases h3 : k = 3
 ·subst h3
  rw [Bool.eq_iff_iff];simp only [Bool.and_eq_true, Bool.or_eq_true, decide_eq_true_eq, zq, if_true, yf, Fr.mk.injEq, List.length_eq_zero_iff, true_and, and_true, show ¬ ((3 : Int) = 1) by decide, show ¬ ((3 : Int) = 2) by decide, if_false, false_or];constructor
  ·rintro ⟨x1, x2, x3, x4, x5, x6, x7⟩
   try simp at x4
   exact ⟨x2, x3, x6, x7, x4.1, x4.2.1, x4.2.2.1, x4.2.2.2⟩
  ·rintro ⟨x2, x3, x6, x7, x4⟩; exact ⟨by omega, x2, x3, by simpa using x4, by omega, x6, x7⟩
 by_cases h4 : k = 4
 ·subst h4
  rw [Bool.eq_iff_iff];simp only [Bool.and_eq_true, Bool.or_eq_true, decide_eq_true_eq, zq, if_true, yf, Fr.mk.injEq, List.length_eq_zero_iff, true_and, true_or, show ¬ ((4 : Int) = 1) by decide, show ¬ ((4 : Int) = 2) by decide, show ¬ ((4 : Int) = 3) by decide, if_false, false_or];constructor
  ·rintro ⟨x1, x2, x3, x4, x5, x6, ⟨y1, y2, y3⟩, x8, x9⟩
   try simp at x4
   exact ⟨⟨x2, x3, ⟨x6, ⟨x5.1, x8⟩, by omega, y2, y3⟩, x4.1, x4.2.1, x4.2.2.1, x4.2.2.2⟩, y1⟩
  ·rintro ⟨⟨x2, x3, ⟨x6, ⟨x5, x8⟩, x9, y2, y3⟩, x4⟩, y1⟩; exact ⟨by omega, x2, x3, by simpa using x4, by omega, x6, ⟨y1, y2, y3⟩, x8, by omega⟩
 by_cases h5 : k = 5
 ·subst h5
  rw [Bool.eq_iff_iff];simp only [Bool.and_eq_true, Bool.or_eq_true, decide_eq_true_eq, zq, if_true, yf, Fr.mk.injEq, List.length_eq_zero_iff, true_and, true_or, and_true, show ¬ ((5 : Int) = 1) by decide, show ¬ ((5 : Int) = 2) by decide, show ¬ ((5 : Int) = 3) by decide, show ¬ ((5 : Int) = 4) by decide, if_false, false_or];constructor
  ·rintro ⟨x1, x2, x3, x4, x5, x6, x7, x8, x9⟩
   try simp at x4
   exact ⟨⟨x2, x3, x6, x7, x4.1, x4.2.1, x4.2.2⟩, x8, x9⟩
  ·rintro ⟨⟨x2, x3, x6, x7, x4⟩, x8, x9⟩; exact ⟨by omega, x2, x3, by simpa using x4, by omega, x6, x7, x8, x9⟩
 ·have hk : inn k 1 5 = false := by
   cases hi : inn k 1 5 with
   | false => rfl
   | true => have := zq.1 hi; omega
  rw [hk, Bool.false_and, if_neg h1, if_neg h2, if_neg h3, if_neg h4, if_neg h5];simp
def All {X : Type} (P : X -> Prop) (st : Stp X) : Prop := ∀ s p er, P (st s p er).1
theorem zS {X Y : Type} {P : X -> Prop} {Q : Y -> Prop} {f : Stp X} {g : X -> Stp Y} (hf : All P f) (hg : ∀ x, P x -> All Q (g x)) : All Q (sThen f g) := fun s p er => hg _ (hf s p er) _ _ _
theorem jM {X : Type} {P : X -> Prop} {x : X} (h : P x) : All P (sEnd x) := fun _ _ _ => h
theorem uh : I64 0 := ⟨by decide, by decide⟩
theorem no_mem {X : Type} {P : X -> Prop} : ∀ x ∈ ([] : List X), P x := fun x hx => by cases hx
theorem yD : All I64 sNum := fun s p er => by
 unfold sNum sOne;split
 ·obtain ⟨x, q, e, h⟩ : ∃ x q e, V.rdAt s p = (x, q, e) := ⟨_, _, _, rfl⟩
  rw [h];by_cases he : e = 0
  ·subst he
   exact V.rdAt_bounds s p h
  ·have h2 := h
   unfold V.rdAt at h2;split at h2
   ·simp only [Prod.mk.injEq] at h2
    rw [<- h2.1]; exact uh
   ·split at h2
    ·simp only [Prod.mk.injEq] at h2
     exact absurd h2.2.2.symm he
    ·simp only [Prod.mk.injEq] at h2
     rw [<- h2.1]; exact uh
 ·exact uh
theorem uY : All (fun x : List UInt8 => x.length <= 4096) sTxt := fun s p er => by
 unfold sTxt sOne;split
 ·unfold V.txt V.txtOf
  obtain ⟨n, q, e, hc⟩ : ∃ n q e, V.count s p 4096 = (n, q, e) := ⟨_, _, _, rfl⟩;rw [hc];by_cases he : e = 0
  ·subst he
   obtain ⟨c1, c2, -⟩ := V.qx _ _ _ hc;simp only [ne_eq, not_true, if_false];split
   ·simp
   ·dsimp only
    rw [List.length_take];omega
  ·simp only [ne_eq, he, not_false_eq_true, if_true]
   simp
 ·simp
theorem all_go {X : Type} {P : X -> Prop} {f : Stp X} (hf : All P f) : ∀ (n : Nat) (acc : List X), (∀ x ∈ acc, P x) -> All (fun l => (∀ x ∈ l, P x) /\ l.length = acc.length + n) (sGo f n acc)
 | 0, acc, h => jM ⟨h, rfl⟩
 | n + 1, acc, h => zS hf fun x hx => fun s p er => by
  have := all_go hf n (acc ++ [x]) (by
   intro y hy;rcases List.mem_append.1 hy with hy | hy
   ·exact h y hy
   ·rw [List.mem_singleton.1 hy]; exact hx) s p er
  rw [List.length_append, List.length_singleton] at this;exact ⟨this.1, by rw [this.2]; omega⟩
theorem jg {X : Type} {P : X -> Prop} {f : Stp X} (hf : All P f) (most : Nat) : All (fun l => (∀ x ∈ l, P x) /\ l.length <= most) (sList f most) :=
 zS (P := fun _ => True) (fun _ _ _ => trivial) fun n _ => fun s p er => by
  unfold sItems;split
  ·exact ⟨no_mem, Nat.zero_le _⟩
  ·split
   ·exact ⟨no_mem, Nat.zero_le _⟩
   ·have := all_go hf n.toNat [] no_mem s p 0
    refine ⟨this.1, ?_⟩;rw [this.2];simp only [List.length_nil];omega
theorem Zu (most : Nat) (hm : most <= 256) : All (fun l => NsWf l /\ l.length <= most) (sList sNum most) := fun s p er => by
 have := jg yD most s p er;exact ⟨⟨this.1, by have := this.2; omega⟩, this.2⟩
theorem all_ev : All (fun x : Ev => EvWf x /\ x.vars.length <= 256) sEv := zS yD fun a ha => zS (Zu 6 (by decide)) fun v hv => jM ⟨⟨ha, hv.1⟩, by have := hv.2; show v.length <= 256; omega⟩
theorem all_it : All (fun x : It => ItWf x /\ x.stream.length <= 4096 /\ x.st.vars.length <= 256) sIt :=
 zS uY fun t ht => zS yD fun a ha => zS yD fun b hb => zS (Zu 6 (by decide)) fun v hv => jM ⟨⟨by unfold TxWf; show t.length <= _; omega, ha, hb, hv.1⟩, ht, by have := hv.2; show v.length <= 256; omega⟩
theorem all_vd : All VdWf sVd := zS yD fun a ha => zS yD fun b hb => jM ⟨ha, hb⟩
theorem all_cmd : All CmWf sCmd :=
 zS yD fun a ha => zS yD fun b hb => zS uY fun t ht => zS yD fun r hr => zS (Zu 4 (by decide)) fun v hv => zS yD fun e he => jM ⟨ha, hb, by unfold TxWf; show t.length <= _; omega, hr, hv.1, he⟩
theorem all_evs : All EvsWf sEvs := fun s p er => by
 have := jg all_ev 3 s p er;exact ⟨fun x hx => (this.1 x hx).1, by have := this.2; unfold sEvs; omega⟩
theorem all_its : All ItsWf sIts := fun s p er => by
 have := jg all_it 64 s p er;exact ⟨fun x hx => (this.1 x hx).1, by have := this.2; unfold sIts; omega⟩
theorem all_vds : All VdsWf sVds := fun s p er => by
 have := jg all_vd 32 s p er;exact ⟨this.1, by have := this.2; unfold sVds; omega⟩
theorem all_filt : All FlWf sFilt := fun s p er => by
 have := jg uY 8 s p er;exact ⟨fun x hx => by have := this.1 x hx; unfold TxWf; omega, by have := this.2; unfold sFilt; omega⟩
theorem jr {X : Type} {ok : X -> Bool} {st : Stp X} {rd : Rd X} (H : Sim (fun _ => True) (sThen st (sOk ok)) rd) {s : List UInt8} {p : Int} {x : X} {q : Int} (h : st s p 0 = (x, q, 0)) (hk : ok x = true) : rd s p = some (x, q) := by
 have hs : sThen st (sOk ok) s p 0 = (x, q, 0) := by
  unfold sThen sOk;rw [h];dsimp only;rw [if_neg (by rw [hk]; simp)]
 cases hr : rd s p with
 | none =>
  have := H.bad s p (fun y r e => by rw [hr] at e; cases e);rw [hs] at this;exact absurd rfl this
 | some r =>
  have := H.got s p r.1 r.2 hr trivial;rw [hs] at this;simp only [Prod.mk.injEq, and_true] at this;rw [this.1, this.2]
theorem yM {X : Type} {ok : X -> Bool} {st : Stp X} {rd : Rd X} (H : Sim (fun _ => True) (sThen st (sOk ok)) rd) {s : List UInt8} {p : Int} {x : X} {q e : Int} (h : st s p 0 = (x, q, e)) (hk : e ≠ 0 \/ ok x = false) : rd s p = none := by
 have hs : (sThen st (sOk ok) s p 0).2.2 ≠ 0 := by
  unfold sThen sOk;rw [h];dsimp only;by_cases he : e = 0
  ·subst he
   rcases hk with hk | hk
   ·exact absurd rfl hk
   ·rw [if_pos ⟨rfl, hk⟩]; decide
  ·rw [if_neg (fun c => he c.1)]; exact he
 cases hr : rd s p with
 | none => rfl
 | some r =>
  have := H.got s p r.1 r.2 hr trivial;rw [this] at hs;exact absurd rfl hs
theorem yz {s : List UInt8} {p x q : Int} (h : rNum s p = some (x, q)) : I64 x := by
 have h1 := qa h;have h2 := yD s p 0;unfold sNum sOne at h2;rw [if_pos rfl, h1] at h2;exact h2
theorem txt_len {s : List UInt8} {p : Int} {x : List UInt8} {q : Int} (h : rTxt s p = some (x, q)) : x.length <= 4096 := by
 have h1 := qa h;have h2 := uY s p 0;unfold sTxt sOne at h2;rw [if_pos rfl, h1] at h2;exact h2
theorem many_all {X : Type} {P : X -> Prop} (rd : Rd X) (hP : ∀ s p x q, rd s p = some (x, q) -> P x) : ∀ (n : Nat) (s : List UInt8) (p : Int) (l : List X) (q : Int), rMany rd n s p = some (l, q) -> (∀ x ∈ l, P x) /\ l.length = n
 | 0, s, p, l, q, h => by
  unfold rMany at h;cases h
  exact ⟨fun x hx => (by cases hx), rfl⟩
 | n + 1, s, p, l, q, h => by
  rw [show rMany rd (n + 1) = rThen rd fun x => rThen (rMany rd n) fun l => fun _ p => some (x :: l, p) from rfl] at h;obtain ⟨x, m, h1, h⟩ := zh h;obtain ⟨r, m2, h2, h⟩ := zh h;cases h
  obtain ⟨a1, a2⟩ := many_all rd hP n s m r _ h2;exact ⟨fun y hy => (List.mem_cons.1 hy).elim (fun e => e ▸ hP _ _ _ _ h1) (fun hy => a1 y hy), by rw [List.length_cons, a2]⟩
theorem Zo {X : Type} {P : X -> Prop} {rd : Rd X} {most : Nat} (hP : ∀ s p x q, rd s p = some (x, q) -> P x) {s : List UInt8} {p : Int} {l : List X} {q : Int} (h : rList rd most s p = some (l, q)) : (∀ x ∈ l, P x) /\ l.length <= most := by
 unfold rList at h;obtain ⟨n, m, h1, h⟩ := zh h;by_cases hn : n < 0 \/ (most : Int) < n
 ·rw [if_pos hn] at h; cases h
 ·rw [if_neg hn] at h
  obtain ⟨a1, a2⟩ := many_all rd hP _ _ _ _ _ h;exact ⟨a1, by omega⟩
theorem ZY {l : List Int} {m : Nat} (hm : m <= 1000) (h : valsP l m = true) : NsWf l := by
 have := zZ h;exact ⟨this.1, by omega⟩
theorem uF {n a b : Int} (h : inn n a b = true) (ha : -9223372036854775808 <= a) (hb : b <= 9223372036854775807) : I64 n := by
 rw [zq] at h;exact ⟨by omega, by omega⟩
theorem cmd_wf {c : Cm} (h : cmdP c = true) : CmWf c := by
 unfold cmdP at h;simp only [Bool.and_eq_true] at h;obtain ⟨h1, h2, h3, h4⟩ := h;obtain ⟨a1, a2, a3⟩ := qX h1;exact ⟨a1, a2, by unfold TxWf; omega, uF h2 (by decide) (by decide), ZY (by decide) h3, uF h4 (by decide) (by decide)⟩
theorem evs_wf {l : List Ev} (h : evsP l = true) : EvsWf l := by
 obtain ⟨h1, h2⟩ := qg h;refine ⟨fun x hx => ?_, by omega⟩;have := h1 x hx;unfold evP at this;rw [Bool.and_eq_true] at this;exact ⟨uF this.1 (by decide) (by decide), ZY (by decide) this.2⟩
theorem its_wf {l : List It} (h : itemsP l = true) : ItsWf l := by
 unfold itemsP at h;rw [Bool.and_eq_true, decide_eq_true_eq] at h;refine ⟨fun x hx => ?_, by omega⟩;obtain ⟨a1, a2⟩ := yX l l 0 h.1 x hx;unfold stP at a2;simp only [Bool.and_eq_true] at a2;exact ⟨by have := yG a1; unfold TxWf; omega, uF a2.1 (by decide) (by decide), uF a2.2.1 (by decide) (by decide), ZY (by decide) a2.2.2⟩
theorem vds_wf {l : List Vd} (h : vdsP l = true) : VdsWf l := by
 unfold vdsP at h;rw [Bool.and_eq_true, decide_eq_true_eq] at h;exact ⟨fun x hx => qD l l 0 h.1 x hx, by omega⟩
theorem filt_wf {l : List (List UInt8)} (h : filtP l = true) : FlWf l := by
 unfold filtP at h;rw [Bool.and_eq_true, decide_eq_true_eq] at h;exact ⟨fun x hx => by have := uX (List.all_eq_true.1 h.2 x hx); unfold TxWf; omega, by omega⟩
theorem en_wf {s : List UInt8} {p : Int} {x : En} {q : Int} (h : rEn s p = some (x, q)) : EnWf x /\ evsP x.events = true := by
 obtain ⟨i, m1, h1, h⟩ := zh h;obtain ⟨t, m2, h2, h⟩ := zh h;obtain ⟨l, m3, h3, h⟩ := zh h;obtain ⟨a, m4, h4, h⟩ := zh h;obtain ⟨c, m5, h5, h⟩ := zh h;obtain ⟨_, rfl, rfl⟩ := zC h;obtain ⟨e1, -⟩ := evs_once _ _ _ _ h3;exact ⟨⟨yz h1, by have := txt_len h2; unfold TxWf; dsimp only; omega, evs_wf e1, yz h4, yz h5⟩, e1⟩
theorem ZT : (∀ x ∈ ([] : List Cm), CmWf x) /\ ([] : List Cm).length <= 17592186044416 := ⟨fun x h => (by cases h), by simp⟩
theorem ZN : (∀ x ∈ ([] : List En), EnWf x) /\ ([] : List En).length <= 17592186044416 := ⟨fun x h => (by cases h), by simp⟩
theorem ZA : ItsWf [] := ⟨fun x h => (by cases h), by simp⟩
theorem ZL : VdsWf [] := ⟨fun x h => (by cases h), by simp⟩
theorem no_fl : FlWf [] := ⟨fun x h => (by cases h), by simp⟩
theorem head_wf {s : List UInt8} {f : Fr} {q : Int} (h : rHead s 0 = some (f, q)) : FrWf f /\ codP f = true /\ q <= (s.length : Int) := by
 obtain ⟨k, m1, h1, h⟩ := zh h;obtain ⟨c, m2, h2, h⟩ := zh h;obtain ⟨e, m3, h3, h⟩ := zh h;have i1 := yz h1;have i2 := yz h2;have i3 := yz h3;have i0 : I64 0 := uh;obtain ⟨t, -, -, -, -, hq⟩ := body_once _ _ _ _ _ _ _ h;refine (fun (g : FrWf f /\ codP f = true) => ⟨g.1, g.2, hq⟩) ?_;unfold rBody at h;split at h
 ·rename_i hk; subst hk
  obtain ⟨a, m4, h4, h⟩ := zh h;obtain ⟨b, m5, h5, h⟩ := zh h;obtain ⟨l, m6, h6, h⟩ := zh h;obtain ⟨_, rfl, rfl⟩ := zC h;obtain ⟨o, -⟩ := Z7 _ _ _ _ h6;exact ⟨⟨i1, i2, i3, yz h4, yz h5, filt_wf o, ZT, ZN, ZA, ZL⟩, by simp [codP, o]⟩
 ·split at h
  ·rename_i hk; subst hk
   obtain ⟨l, m4, h4, h⟩ := zh h;obtain ⟨_, rfl, rfl⟩ := zC h;obtain ⟨o, ol⟩ := Zo (P := fun x => cmdP x = true) (fun s p x q hh => (cmd_once s p x q hh).1) h4;exact ⟨⟨i1, i2, i3, i0, i0, no_fl, ⟨fun x hx => cmd_wf (o x hx), by dsimp only; omega⟩, ZN, ZA, ZL⟩, by simp [codP]; exact o⟩
  ·split at h
   ·rename_i hk; subst hk
    obtain ⟨b, m4, h4, h⟩ := zh h;obtain ⟨_, rfl, rfl⟩ := zC h;exact ⟨⟨i1, i2, i3, i0, yz h4, no_fl, ZT, ZN, ZA, ZL⟩, by simp [codP]⟩
   ·split at h
    ·rename_i hk; subst hk
     obtain ⟨a, m4, h4, h⟩ := zh h;obtain ⟨b, m5, h5, h⟩ := zh h;obtain ⟨l, m6, h6, h⟩ := zh h;obtain ⟨_, rfl, rfl⟩ := zC h;obtain ⟨o, ol⟩ := Zo (P := fun x => EnWf x /\ evsP x.events = true) (fun s p x q hh => en_wf hh) h6;exact ⟨⟨i1, i2, i3, yz h4, yz h5, no_fl, ZT, ⟨fun x hx => (o x hx).1, by dsimp only; omega⟩, ZA, ZL⟩, by simp [codP]; exact fun x hx => (o x hx).2⟩
    ·split at h
     ·rename_i hk; subst hk
      obtain ⟨b, m4, h4, h⟩ := zh h;obtain ⟨l, m5, h5, h⟩ := zh h;obtain ⟨v, m6, h6, h⟩ := zh h;obtain ⟨_, rfl, rfl⟩ := zC h;obtain ⟨o, -⟩ := qm _ _ _ _ h5;obtain ⟨o2, -⟩ := vds_once _ _ _ _ h6;exact ⟨⟨i1, i2, i3, i0, yz h4, no_fl, ZT, ZN, its_wf o, vds_wf o2⟩, by simp [codP, o, o2]⟩
     ·cases h
theorem may_facts {f : Fr} (h : mayP f = true) : inn f.kind 1 5 = true /\ f.cmds.length <= 1000 /\ f.entries.length <= 1000 /\ ∀ x ∈ f.entries, x.stream.length <= 4096 := by
 obtain ⟨k, c, e, a, b, l5, l6, l7, l8, l9⟩ := f;unfold mayP at h;simp only [Bool.and_eq_true] at h;obtain ⟨-, -, hk, ho⟩ := h;rw [yf] at ho;unfold mayK at hk;unfold othF noFr at ho;dsimp only at hk ho ⊢;by_cases h1 : k = 1
 ·subst h1
  rw [if_pos rfl] at ho;simp only [Fr.mk.injEq] at ho;obtain ⟨-, -, -, -, -, -, r1, r2, -⟩ := ho;subst r1 r2;exact ⟨by decide, by simp, by simp, fun x hx => (by cases hx)⟩
 rw [if_neg h1] at hk ho;by_cases h2 : k = 2
 ·subst h2
  rw [if_pos rfl] at hk ho;simp only [Fr.mk.injEq] at ho;obtain ⟨-, -, -, -, -, -, -, r2, -⟩ := ho;subst r2;unfold mayCs at hk;simp only [Bool.and_eq_true, zq] at hk;exact ⟨by decide, by omega, by simp, fun x hx => (by cases hx)⟩
 rw [if_neg h2] at hk ho;by_cases h3 : k = 3
 ·subst h3
  rw [if_pos rfl] at ho;simp only [Fr.mk.injEq] at ho;obtain ⟨-, -, -, -, -, -, r1, r2, -⟩ := ho;subst r1 r2;exact ⟨by decide, by simp, by simp, fun x hx => (by cases hx)⟩
 rw [if_neg h3] at hk ho;by_cases h4 : k = 4
 ·subst h4
  rw [if_pos rfl] at hk ho;simp only [Fr.mk.injEq] at ho;obtain ⟨-, -, -, -, -, -, r1, -⟩ := ho;subst r1;unfold mayEs at hk;dsimp only at hk;rw [ens_bad] at hk;simp only [Bool.and_eq_true, decide_eq_true_eq] at hk;obtain ⟨-, -, e1, e2, -⟩ := hk;refine ⟨by decide, by simp, by omega, fun x hx => ?_⟩;have := List.all_eq_true.1 e2 x hx;unfold enMay at this;simp only [Bool.and_eq_true] at this;obtain ⟨-, -, -, hs⟩ := this;split at hs
  ·simp only [Bool.and_eq_true, decide_eq_true_eq] at hs
   rw [hs.1]; simp
  ·simp only [Bool.and_eq_true] at hs
   have := yG hs.1;omega
 rw [if_neg h4] at hk ho;by_cases h5 : k = 5
 ·subst h5
  rw [if_pos rfl] at ho;simp only [Fr.mk.injEq] at ho;obtain ⟨-, -, -, -, -, -, r1, r2, -⟩ := ho;subst r1 r2;exact ⟨by decide, by simp, by simp, fun x hx => (by cases hx)⟩
 ·rw [if_neg h5] at hk; cases hk
theorem num_some (n : Int) (h : I64 n) : num n ≠ [] := by
 intro e;have hb := zz n h [] [];rw [e] at hb;have h1 := qa hb;have h2 : (V.rdAt ([] ++ ([] ++ [])) (([] : List UInt8).length : Int)).2.2 = 0 := by rw [h1]
 exact absurd h2 (by decide +kernel)
theorem lay_some (f : Fr) (h : FrWf f) : layFr f ≠ [] := by
 intro e;have hk := num_some f.kind h.kind;have h1 : ∃ t, layFr f = num f.kind ++ t := by
  unfold layFr;split
  ·exact ⟨_, by simp only [yF, List.append_assoc]; rfl⟩
  split
  ·exact ⟨_, by simp only [yF, List.append_assoc]; rfl⟩
  split
  ·exact ⟨_, by simp only [yF, List.append_assoc]; rfl⟩
  split
  ·exact ⟨_, by simp only [yF, List.append_assoc]; rfl⟩
  ·exact ⟨_, by simp only [yF, List.append_assoc]; rfl⟩
 obtain ⟨t, ht⟩ := h1;rw [e] at ht;have := congrArg List.length ht;rw [List.length_nil, List.length_append] at this;exact hk (List.length_eq_zero_iff.1 (by omega))
set_option maxHeartbeats 4000000 in
theorem idxCmd_any (F : Nat) (bad : Cm -> Bool) (l : List Cm) (v : Value) (w : World) (h : CmsIs w v l) (hn : l.length <= 4611686018427387904) (HM : ∀ (W : World) (x : Cm) (au : Option Addr) (L cu : Nat), x ∈ l -> Below w.heap.size w W -> SlN W (.slice au L cu) x.args -> Calls Tryz.prog 152 #[.agg #[.int .i64 x.client, .int .i64 x.seq, .string (str x.stream), .int .i64 x.rule, .slice au L cu, .int .i64 x.expect], .pointer (some ⟨F, 0, none⟩)] W fun z w' => z = .returned (.bool (bad x)) /\ Below W.heap.size W w') :
 Calls Tryz.prog 203 #[v, .func (.func 152) #[] #[.pointer (some ⟨F, 0, none⟩)]] w fun z w' => z = .returned (.int .i64 (idxG bad l 0)) /\ Below w.heap.size w w' := by
 obtain ⟨a, cap, rfl, hc⟩ := h.open;obtain ⟨N, hN⟩ : ∃ N, l.length = N := ⟨_, rfl⟩;have HC := Lib.hid hc;have HN := Lib.hid hN;have HM := Lib.hid HM;rw [hN] at hn ⊢;clear hc h hN;go_enter Tryz.func203, Tryz.ntmps203;go_wp2_with fail;go_loopw [8] (fun i wr => ∃ K : Nat, i = .int .i64 (K : Int) /\ K <= N /\ Hid (idxG bad l 0 = idxG bad (l.drop K) K /\ Below w.heap.size w wr)) (fun i _ => N - (intOf i).toNat)
 case atStart => exact ⟨0, rfl, Nat.zero_le _, Lib.hid ⟨rfl, Below.refl _ _⟩⟩
 case round =>
  obtain ⟨K, rfl, hK, HJ⟩ := hrel;by_cases hlt : K < N
  ·have hltI : (K : Int) < (N : Int) := by omega
   have hk0 : 0 <= (K : Int) := by omega
   have hw1 : IntKind.i64.wrap ((K : Int) + 1) = (K : Int) + 1 := IntWalk.i64_in _ (by omega);obtain ⟨x, hx⟩ : ∃ x, l[K]? = some x := ⟨_, List.getElem?_eq_getElem (by rw [HN.out]; exact hlt)⟩;obtain ⟨b, off, ea, cs, -, ⟨u, rfl, hu⟩, hcell⟩ := HC.out K x hx;subst ea;obtain ⟨au, cu, rfl, -⟩ := id hu.open;obtain ⟨L, hL⟩ : ∃ L, x.args.length = L := ⟨_, rfl⟩;rw [hL] at hcell hu;have k0 : wr.cell? ⟨b, off + K * 6, none⟩ = some (.int .i64 x.client) := za HJ.out.2 (hcell 0 _ rfl);have k1 : wr.cell? ⟨b, off + K * 6 + 1, none⟩ = some (.int .i64 x.seq) := za HJ.out.2 (hcell 1 _ rfl);have k2 : wr.cell? ⟨b, off + K * 6 + 2, none⟩ = some (.string (str x.stream)) := za HJ.out.2 (hcell 2 _ rfl);have k3 : wr.cell? ⟨b, off + K * 6 + 3, none⟩ = some (.int .i64 x.rule) := za HJ.out.2 (hcell 3 _ rfl);have k4 : wr.cell? ⟨b, off + K * 6 + 4, none⟩ = some (.slice au L cu) := za HJ.out.2 (hcell 4 _ rfl);have k5 : wr.cell? ⟨b, off + K * 6 + 5, none⟩ = some (.int .i64 x.expect) := za HJ.out.2 (hcell 5 _ rfl);clear hcell;have hd := HJ.out.1.trans (qd (p := bad) hx);have HV := Lib.hid (HM.out wr x au L cu (List.mem_of_getElem? hx) HJ.out.2 (hu.below HJ.out.2));obtain ⟨c, hcv⟩ : ∃ c, bad x = c := ⟨_, rfl⟩;rw [hcv] at HV hd;have HD := Lib.hid hd;clear hd hx hcv hu hL;cases c with
   | true =>
    go_wp2_with (go_at_call 152; refine HV.out.mono ?_; rintro _ w1 ⟨rfl, hb1⟩; have HB1 := Lib.hid hb1; clear hb1)
    go_ret;exact ⟨by rw [HD.out]; rfl, HJ.out.2.trans (HB1.out.mono HJ.out.2.size)⟩
   | false =>
    go_wp2_with (go_at_call 152; refine HV.out.mono ?_; rintro _ w1 ⟨rfl, hb1⟩; have HB1 := Lib.hid hb1; clear hb1)
    go_roundw
    case rel => exact ⟨K + 1, by go_num, by omega, Lib.hid ⟨by rw [HD.out]; rfl, HJ.out.2.trans (HB1.out.mono HJ.out.2.size)⟩⟩
    case measure => simp [intOf]; omega
  ·have hltI : ¬ (K : Int) < (N : Int) := by omega
   have hd := HJ.out.1;rw [List.drop_of_length_le (i := K) (by rw [HN.out]; omega)] at hd;have HD := Lib.hid hd;clear hd;go_wp2_with fail;go_ret;exact ⟨by rw [HD.out]; rfl, HJ.out.2⟩
theorem hasCmd_any (F : Nat) (bad : Cm -> Bool) (l : List Cm) (v : Value) (w : World) (h : CmsIs w v l) (hn : l.length <= 4611686018427387904) (HM : ∀ (W : World) (x : Cm) (au : Option Addr) (L cu : Nat), x ∈ l -> Below w.heap.size w W -> SlN W (.slice au L cu) x.args -> Calls Tryz.prog 152 #[.agg #[.int .i64 x.client, .int .i64 x.seq, .string (str x.stream), .int .i64 x.rule, .slice au L cu, .int .i64 x.expect], .pointer (some ⟨F, 0, none⟩)] W fun z w' => z = .returned (.bool (bad x)) /\ Below W.heap.size W w') :
 Calls Tryz.prog 153 #[v, .func (.func 152) #[] #[.pointer (some ⟨F, 0, none⟩)]] w fun z w' => z = .returned (.bool (l.any bad)) /\ Below w.heap.size w w' := by
 have H := Lib.hid (idxCmd_any F bad l v w h hn HM);have HE := Lib.hid (yZ bad l 0);obtain ⟨a, cap, rfl, -⟩ := h.open;clear h hn HM;go_enter Tryz.func153, Tryz.ntmps153;go_wp2_with (go_at_call 203; refine H.out.mono ?_; rintro _ w1 ⟨rfl, hb1⟩; have HB1 := Lib.hid hb1; clear hb1)
 go_ret;exact ⟨by rw [<- HE.out]; rfl, HB1.out⟩
set_option maxHeartbeats 4000000 in
theorem idxEntry_any (F : Nat) (bad : En -> Bool) (l : List En) (v : Value) (w : World) (h : EnsIs w v l) (hn : l.length <= 4611686018427387904) (HM : ∀ (W : World) (x : En) (au : Option Addr) (L cu : Nat), x ∈ l -> Below w.heap.size w W -> EvsIs W (.slice au L cu) x.events -> Calls Tryz.prog 156 #[.agg #[.int .i64 x.index, .string (str x.stream), .slice au L cu, .int .i64 x.seq, .int .i64 x.code], .pointer (some ⟨F, 0, none⟩)] W fun z w' => z = .returned (.bool (bad x)) /\ Below W.heap.size W w') :
 Calls Tryz.prog 204 #[v, .func (.func 156) #[] #[.pointer (some ⟨F, 0, none⟩)]] w fun z w' => z = .returned (.int .i64 (idxG bad l 0)) /\ Below w.heap.size w w' := by
 obtain ⟨a, cap, rfl, hc⟩ := h.open;obtain ⟨N, hN⟩ : ∃ N, l.length = N := ⟨_, rfl⟩;have HC := Lib.hid hc;have HN := Lib.hid hN;have HM := Lib.hid HM;rw [hN] at hn ⊢;clear hc h hN;go_enter Tryz.func204, Tryz.ntmps204;go_wp2_with fail;go_loopw [8] (fun i wr => ∃ K : Nat, i = .int .i64 (K : Int) /\ K <= N /\ Hid (idxG bad l 0 = idxG bad (l.drop K) K /\ Below w.heap.size w wr)) (fun i _ => N - (intOf i).toNat)
 case atStart => exact ⟨0, rfl, Nat.zero_le _, Lib.hid ⟨rfl, Below.refl _ _⟩⟩
 case round =>
  obtain ⟨K, rfl, hK, HJ⟩ := hrel;by_cases hlt : K < N
  ·have hltI : (K : Int) < (N : Int) := by omega
   have hk0 : 0 <= (K : Int) := by omega
   have hw1 : IntKind.i64.wrap ((K : Int) + 1) = (K : Int) + 1 := IntWalk.i64_in _ (by omega);obtain ⟨x, hx⟩ : ∃ x, l[K]? = some x := ⟨_, List.getElem?_eq_getElem (by rw [HN.out]; exact hlt)⟩;obtain ⟨b, off, ea, cs, -, ⟨u, rfl, hu⟩, hcell⟩ := HC.out K x hx;subst ea;obtain ⟨au, cu, rfl, -⟩ := id hu.open;obtain ⟨L, hL⟩ : ∃ L, x.events.length = L := ⟨_, rfl⟩;rw [hL] at hcell hu;have k0 : wr.cell? ⟨b, off + K * 5, none⟩ = some (.int .i64 x.index) := za HJ.out.2 (hcell 0 _ rfl);have k1 : wr.cell? ⟨b, off + K * 5 + 1, none⟩ = some (.string (str x.stream)) := za HJ.out.2 (hcell 1 _ rfl);have k2 : wr.cell? ⟨b, off + K * 5 + 2, none⟩ = some (.slice au L cu) := za HJ.out.2 (hcell 2 _ rfl);have k3 : wr.cell? ⟨b, off + K * 5 + 3, none⟩ = some (.int .i64 x.seq) := za HJ.out.2 (hcell 3 _ rfl);have k4 : wr.cell? ⟨b, off + K * 5 + 4, none⟩ = some (.int .i64 x.code) := za HJ.out.2 (hcell 4 _ rfl);clear hcell;have hd := HJ.out.1.trans (qd (p := bad) hx);have HV := Lib.hid (HM.out wr x au L cu (List.mem_of_getElem? hx) HJ.out.2 (hu.below HJ.out.2));obtain ⟨c, hcv⟩ : ∃ c, bad x = c := ⟨_, rfl⟩;rw [hcv] at HV hd;have HD := Lib.hid hd;clear hd hx hcv hu hL;cases c with
   | true =>
    go_wp2_with (go_at_call 156; refine HV.out.mono ?_; rintro _ w1 ⟨rfl, hb1⟩; have HB1 := Lib.hid hb1; clear hb1)
    go_ret;exact ⟨by rw [HD.out]; rfl, HJ.out.2.trans (HB1.out.mono HJ.out.2.size)⟩
   | false =>
    go_wp2_with (go_at_call 156; refine HV.out.mono ?_; rintro _ w1 ⟨rfl, hb1⟩; have HB1 := Lib.hid hb1; clear hb1)
    go_roundw
    case rel => exact ⟨K + 1, by go_num, by omega, Lib.hid ⟨by rw [HD.out]; rfl, HJ.out.2.trans (HB1.out.mono HJ.out.2.size)⟩⟩
    case measure => simp [intOf]; omega
  ·have hltI : ¬ (K : Int) < (N : Int) := by omega
   have hd := HJ.out.1;rw [List.drop_of_length_le (i := K) (by rw [HN.out]; omega)] at hd;have HD := Lib.hid hd;clear hd;go_wp2_with fail;go_ret;exact ⟨by rw [HD.out]; rfl, HJ.out.2⟩
theorem hasEntry_any (F : Nat) (bad : En -> Bool) (l : List En) (v : Value) (w : World) (h : EnsIs w v l) (hn : l.length <= 4611686018427387904) (HM : ∀ (W : World) (x : En) (au : Option Addr) (L cu : Nat), x ∈ l -> Below w.heap.size w W -> EvsIs W (.slice au L cu) x.events -> Calls Tryz.prog 156 #[.agg #[.int .i64 x.index, .string (str x.stream), .slice au L cu, .int .i64 x.seq, .int .i64 x.code], .pointer (some ⟨F, 0, none⟩)] W fun z w' => z = .returned (.bool (bad x)) /\ Below W.heap.size W w') :
 Calls Tryz.prog 158 #[v, .func (.func 156) #[] #[.pointer (some ⟨F, 0, none⟩)]] w fun z w' => z = .returned (.bool (l.any bad)) /\ Below w.heap.size w w' := by
 have H := Lib.hid (idxEntry_any F bad l v w h hn HM);have HE := Lib.hid (yZ bad l 0);obtain ⟨a, cap, rfl, -⟩ := h.open;clear h hn HM;go_enter Tryz.func158, Tryz.ntmps158;go_wp2_with (go_at_call 204; refine H.out.mono ?_; rintro _ w1 ⟨rfl, hb1⟩; have HB1 := Lib.hid hb1; clear hb1)
 go_ret;exact ⟨by rw [<- HE.out]; rfl, HB1.out⟩
end Go.Proofs.YtaidhoepnefcpaaGreat.C10
