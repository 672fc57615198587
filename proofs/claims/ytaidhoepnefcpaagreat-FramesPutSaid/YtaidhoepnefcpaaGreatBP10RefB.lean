/-
  Layer 10, the document's answers: which commands, events, records and states may be laid.
-/
import Derived.Test.YtaidhoepnefcpaaGreatBVInv
import Derived.Deep.QuietTactic
import Derived.BigQuiet
import Derived.Deep.DeepCutAuto
import Derived.Deep.RegionHeld3
namespace Go.Proofs.YtaidhoepnefcpaaGreat.C10
open Go Go.RowKit Go.Proofs B K P8
set_option linter.unusedVariables false
abbrev Rd (X : Type) := List UInt8 -> Int -> Option (X × Int)
def got {X : Type} (r : X × Int × Int) : Option (X × Int) := if r.2.2 = 0 then some (r.1, r.2.1) else none
def rNum : Rd Int := fun s p => got (V.rdAt s p)
def rTxt : Rd (List UInt8) := fun s p => got (V.txt s p)
def rNums : Rd (List Int) := fun s p => got (V.nums s p)
def rThen {X Y : Type} (f : Rd X) (g : X -> Rd Y) : Rd Y := fun s p => (f s p).bind fun r => g r.1 s r.2
def rEnd {X : Type} (ok : X -> Bool) (x : X) : Rd X := fun _ p => if ok x then some (x, p) else none
def rMany {X : Type} (item : Rd X) : Nat -> Rd (List X)
 | 0 => fun _ p => some ([], p)
 | n + 1 => rThen item fun x => rThen (rMany item n) fun l => fun _ p => some (x :: l, p)
def rList {X : Type} (item : Rd X) (most : Nat) : Rd (List X) := rThen rNum fun n => if n < 0 \/ (most : Int) < n then fun _ _ => none else rMany item n.toNat
def rEv : Rd Ev := rThen rNum fun a => rThen rNums fun v => rEnd (fun _ => true) ⟨a, v⟩
def rIt : Rd It := rThen rTxt fun t => rThen rNum fun a => rThen rNum fun b => rThen rNums fun v => rEnd (fun _ => true) ⟨t, ⟨a, b, v⟩⟩
def rVd : Rd Vd := rThen rNum fun a => rThen rNum fun b => rEnd (fun _ => true) ⟨a, b⟩
def rdCmd : Rd Cm := rThen rNum fun a => rThen rNum fun b => rThen rTxt fun t => rThen rNum fun r => rThen rNums fun v => rThen rNum fun e => rEnd cmdP ⟨a, b, t, r, v, e⟩
def rdEvs : Rd (List Ev) := rThen (rList rEv 3) fun l => rEnd evsP l
def rdItems : Rd (List It) := rThen (rList rIt 64) fun l => rEnd itemsP l
def rdVds : Rd (List Vd) := rThen (rList rVd 32) fun l => rEnd vdsP l
def rdFilt : Rd (List (List UInt8)) := rThen (rList rTxt 8) fun l => rEnd filtP l
def Back {X : Type} (f : Rd X) (x : X) (t : List UInt8) : Prop := ∀ A B : List UInt8, f (A ++ (t ++ B)) (A.length : Int) = some (x, (A.length : Int) + (t.length : Int))
theorem zm {X Y : Type} {f : Rd X} {g : X -> Rd Y} {x : X} {y : Y} {t u : List UInt8} (h : Back f x t) (k : Back (g x) y u) : Back (rThen f g) y (t ++ u) := fun A B => by
 unfold rThen;rw [List.append_assoc, h A (u ++ B)];have := k (A ++ t) B;rw [List.append_assoc, List.length_append, Int.natCast_add] at this;simp only [Option.bind_some];rw [this, List.length_append, Int.natCast_add, Int.add_assoc]
theorem zX {X : Type} {ok : X -> Bool} {x : X} (h : ok x = true) : Back (rEnd ok x) x [] := fun A B => by
 unfold rEnd;rw [if_pos h]; simp
theorem zz (n : Int) (h : I64 n) : Back rNum n (num n) := fun A B => by
 unfold rNum got;rw [show num n = V.num n from rfl, V.Zp A B n h.1 h.2]; simp
theorem jF (s : List UInt8) (h : s.length <= 4096) : Back rTxt s (textL s) := fun A B => by
 unfold rTxt got;rw [show textL s = V.num (s.length : Int) ++ s from rfl, V.txt_text A B s h]; simp
theorem Zg : ∀ l : List Int, V.layAll V.numOf l = (numsL l, 0)
 | [] => rfl
 | x :: l => by
  unfold V.layAll;rw [Zg l, yF];simp [V.numOf, V.comb];rfl
theorem uI (l : List Int) (h : l.length <= 256) : V.layList V.numOf l = (listL l, 0) := by
 unfold V.layList;rw [if_neg (by omega), Zg];simp [V.comb];rfl
theorem uJ (l : List Int) (h : ∀ x ∈ l, I64 x) (hl : l.length <= 256) : Back rNums l (listL l) := fun A B => by
 unfold rNums got;rw [V.nums_back l h (listL l) (uI l hl) A B]; simp
theorem Yr {X : Type} (f : Rd X) (lay : X -> List UInt8) : ∀ l : List X, (∀ x ∈ l, Back f x (lay x)) -> Back (rMany f l.length) l (l.flatMap lay)
 | [], _ => fun A B => by simp [rMany]
 | x :: l, h => by
  have h1 := zm (h x (List.mem_cons_self ..)) (g := fun x => rThen (rMany f l.length) fun l => fun _ p => some (x :: l, p)) (y := x :: l) (u := l.flatMap lay ++ []) (zm (Yr f lay l fun y hy => h y (List.mem_cons_of_mem _ hy)) (fun A B => by simp));rw [List.append_nil] at h1;exact h1
theorem qh {X : Type} (f : Rd X) (lay : X -> List UInt8) (most : Nat) (hm : most <= 1000) (l : List X) (hl : l.length <= most) (h : ∀ x ∈ l, Back f x (lay x)) : Back (rList f most) l (num (l.length : Int) ++ l.flatMap lay) := by
 unfold rList;refine zm (zz _ ⟨by omega, by omega⟩) ?_;rw [if_neg (by omega), Int.toNat_natCast];exact Yr f lay l h
theorem zq {n a b : Int} : inn n a b = true ↔ a <= n /\ n <= b := by unfold inn; simp
theorem zZ {l : List Int} {m : Nat} (h : valsP l m = true) : (∀ x ∈ l, I64 x) /\ l.length <= m := by
 unfold valsP at h;rw [Bool.and_eq_true, List.all_eq_true, decide_eq_true_eq] at h;exact ⟨fun x hx => by have := zq.1 (h.1 x hx); exact ⟨by omega, by omega⟩, h.2⟩
theorem yG {s : List UInt8} (h : streamP s = true) : s.length <= 32 := by
 unfold streamP rowOk at h;simp only [Bool.and_eq_true, decide_eq_true_eq] at h
 first | exact h.1 | exact h.1.1 | omega
theorem qX {c q : Int} {s : List UInt8} (h : headP c q s = true) : I64 c /\ I64 q /\ s.length <= 32 := by
 unfold headP at h;rw [Bool.and_eq_true, Bool.and_eq_true, zq, zq] at h;exact ⟨⟨by omega, by omega⟩, ⟨by omega, by omega⟩, yG h.2.2⟩
theorem cmd_back (c : Cm) (h : cmdP c = true) : Back rdCmd c (layCmd c) := by
 have h0 := h;obtain ⟨a, b, t, r, v, e⟩ := c;unfold cmdP at h;simp only [Bool.and_eq_true, zq] at h;obtain ⟨hh, hr, hv, he⟩ := h;obtain ⟨h1, h2, h3⟩ := qX hh;obtain ⟨h4, h5⟩ := zZ hv;have e1 : layCmd ⟨a, b, t, r, v, e⟩ = num a ++ (num b ++ (textL t ++ (num r ++ (listL v ++ (num e ++ []))))) := by
  simp [layCmd, numsL]
 rw [e1];unfold rdCmd;refine zm (zz a h1) ?_;refine zm (zz b h2) ?_;refine zm (jF t (by omega)) ?_;refine zm (zz r ⟨by omega, by omega⟩) ?_;refine zm (uJ v h4 (by omega)) ?_;refine zm (zz e ⟨by omega, by omega⟩) ?_;exact zX h0
theorem ev_back (x : Ev) (h : evP x = true) : Back rEv x (layEv x) := by
 obtain ⟨a, v⟩ := x;unfold evP at h;simp only [Bool.and_eq_true, zq] at h;obtain ⟨h4, h5⟩ := zZ h.2;have e1 : layEv ⟨a, v⟩ = num a ++ (listL v ++ []) := by simp [layEv]
 rw [e1];unfold rEv;refine zm (zz a ⟨by omega, by omega⟩) ?_;refine zm (uJ v h4 (by omega)) ?_;exact zX rfl
theorem qg {l : List Ev} (h : evsP l = true) : (∀ x ∈ l, evP x = true) /\ l.length <= 3 := by
 unfold evsP at h;rw [Bool.and_eq_true, List.all_eq_true, decide_eq_true_eq] at h;exact h
theorem evs_list_back (l : List Ev) (h : evsP l = true) : Back (rList rEv 3) l (layEvs l) := by
 obtain ⟨h1, h2⟩ := qg h;exact qh rEv layEv 3 (by omega) l h2 fun x hx => ev_back x (h1 x hx)
theorem evs_back (l : List Ev) (h : evsP l = true) : Back rdEvs l (layEvs l) := by
 have := zm (evs_list_back l h) (g := fun l => rEnd evsP l) (zX h);rw [List.append_nil] at this;exact this
theorem it_back (x : It) (h1 : streamP x.stream = true) (h2 : stP x.st = true) : Back rIt x (layIt x) := by
 obtain ⟨t, a, b, v⟩ := x;have h3 := yG h1;unfold stP at h2;simp only [Bool.and_eq_true, zq] at h2;obtain ⟨h4, h5⟩ := zZ h2.2.2;have e1 : layIt ⟨t, a, b, v⟩ = textL t ++ (num a ++ (num b ++ (listL v ++ []))) := by simp [layIt, numsL]
 rw [e1];unfold rIt;refine zm (jF t (by dsimp only at h3; omega)) ?_;refine zm (zz a ⟨by omega, by omega⟩) ?_;refine zm (zz b ⟨by omega, by omega⟩) ?_;refine zm (uJ v h4 (by omega)) ?_;exact zX rfl
theorem yX (l : List It) : ∀ (r : List It) (k : Nat), itemsGo l k r = true -> ∀ x ∈ r, streamP x.stream = true /\ stP x.st = true
 | [], _, _, x, hx => by cases hx
 | y :: r, k, h, x, hx => by
  rw [itemsGo, Bool.and_eq_true] at h;rcases List.mem_cons.1 hx with rfl | hx
  ·have := h.1
   unfold itP at this;rw [Bool.and_eq_true, Bool.and_eq_true] at this;exact ⟨this.1, this.2.1⟩
  ·exact yX l r (k + 1) h.2 x hx
theorem qR (l : List It) (h : itemsP l = true) : Back rdItems l (layItems l) := by
 have h0 := h;unfold itemsP at h;rw [Bool.and_eq_true, decide_eq_true_eq] at h;have h1 := yX l l 0 h.1;have := zm (qh rIt layIt 64 (by omega) l h.2 fun x hx => it_back x (h1 x hx).1 (h1 x hx).2) (g := fun l => rEnd itemsP l) (zX h0);rw [List.append_nil] at this;exact this
theorem vd_back (x : Vd) (h : VdWf x) : Back rVd x (layVd x) := by
 obtain ⟨a, b⟩ := x;have e1 : layVd ⟨a, b⟩ = num a ++ (num b ++ []) := by simp [layVd, numsL]
 rw [e1];unfold rVd;refine zm (zz a h.1) ?_;refine zm (zz b h.2) ?_;exact zX rfl
theorem qD (l : List Vd) : ∀ (r : List Vd) (k : Nat), vdsGo l k r = true -> ∀ x ∈ r, VdWf x
 | [], _, _, x, hx => by cases hx
 | y :: r, k, h, x, hx => by
  rw [vdsGo, Bool.and_eq_true] at h;rcases List.mem_cons.1 hx with rfl | hx
  ·have := h.1
   unfold vdP at this;simp only [Bool.and_eq_true, zq] at this;exact ⟨⟨by omega, by omega⟩, ⟨by omega, by omega⟩⟩
  ·exact qD l r (k + 1) h.2 x hx
theorem vds_back (l : List Vd) (h : vdsP l = true) : Back rdVds l (layVds l) := by
 have h0 := h;unfold vdsP at h;rw [Bool.and_eq_true, decide_eq_true_eq] at h;have := zm (qh rVd layVd 32 (by omega) l h.2 fun x hx => vd_back x (qD l l 0 h.1 x hx)) (g := fun l => rEnd vdsP l) (zX h0);rw [List.append_nil] at this;exact this
theorem uX {s : List UInt8} (h : patP s = true) : s.length <= 32 := by
 unfold patP rowOk at h;simp only [Bool.and_eq_true, decide_eq_true_eq] at h
 first | exact h.1 | exact h.1.1 | omega
theorem filt_back (l : List (List UInt8)) (h : filtP l = true) : Back rdFilt l (layFilt l) := by
 have h0 := h;unfold filtP at h;rw [Bool.and_eq_true, decide_eq_true_eq, List.all_eq_true] at h;have := zm (qh rTxt textL 8 (by omega) l h.1 fun x hx => jF x (by have := uX (h.2 x hx); omega)) (g := fun l => rEnd filtP l) (zX h0);rw [List.append_nil] at this;exact this
def Once {X : Type} (f : Rd X) (lay : X -> List UInt8) : Prop := ∀ (s : List UInt8) (p : Int) (x : X) (q : Int), f s p = some (x, q) -> lay x = V.cut s p q /\ 0 <= p /\ p <= q /\ q <= (s.length : Int)
theorem zh {X Y : Type} {f : Rd X} {g : X -> Rd Y} {s : List UInt8} {p : Int} {y : Y} {q : Int} (h : rThen f g s p = some (y, q)) : ∃ x m, f s p = some (x, m) /\ g x s m = some (y, q) := by
 unfold rThen at h;cases hf : f s p with
 | none => rw [hf] at h; cases h
 | some r => exact ⟨r.1, r.2, rfl, by rw [hf] at h; exact h⟩
theorem zC {X : Type} {ok : X -> Bool} {x y : X} {s : List UInt8} {p q : Int} (h : rEnd ok x s p = some (y, q)) : ok x = true /\ y = x /\ q = p := by
 unfold rEnd at h;split at h
 ·cases h; exact ⟨by assumption, rfl, rfl⟩
 ·cases h
theorem qa {X : Type} {r : X × Int × Int} {x : X} {q : Int} (h : got r = some (x, q)) : r = (x, q, 0) := by
 unfold got at h;split at h
 ·cases h; obtain ⟨a, b, c⟩ := r; simp_all
 ·cases h
theorem zK : Once rNum num := fun s p x q h => by
 have h := qa h;have hk := V.qC s p h;exact ⟨V.ul s p h, hk.1, by omega, hk.2.2.1⟩
theorem jH : Once rTxt textL := fun s p x q h => by
 obtain ⟨h1, h2⟩ := V.text_once s p (qa h);refine ⟨?_, h2⟩;unfold V.textOf at h1;split at h1
 ·exact absurd (congrArg Prod.snd h1) (by simp)
 ·exact congrArg Prod.fst h1
theorem Zx {s : List UInt8} {p : Int} {x : List Int} {q : Int} (h : rNums s p = some (x, q)) : x.length <= 256 := by
 have := V.Zx s p;rw [qa h] at this;exact this
theorem uD : Once rNums listL := fun s p x q h => by
 obtain ⟨h1, h2⟩ := V.nums_once s p (qa h);rw [uI x (Zx h)] at h1;exact ⟨congrArg Prod.fst h1, h2⟩
theorem zJ {s : List UInt8} {p m q : Int} {t u : List UInt8} (h1 : t = V.cut s p m) (h2 : u = V.cut s m q) (h0 : 0 <= p) (h3 : p <= m) (h4 : m <= q) : t ++ u = V.cut s p q := by
 rw [h1, h2, V.uU s h0 h3 h4]
theorem Yq {X : Type} (f : Rd X) (lay : X -> List UInt8) (h : Once f lay) : ∀ (n : Nat) (s : List UInt8) (p : Int) (l : List X) (q : Int), 0 <= p -> p <= (s.length : Int) -> rMany f n s p = some (l, q) -> l.flatMap lay = V.cut s p q /\ p <= q /\ q <= (s.length : Int) /\ l.length = n
 | 0, s, p, l, q, h0, h1, hr => by
  cases hr
  exact ⟨by rw [V.cut_self]; rfl, by omega, h1, rfl⟩
 | n + 1, s, p, l, q, h0, h1, hr => by
  obtain ⟨x, m, hx, hr⟩ := zh hr;obtain ⟨r, m', hr', he⟩ := zh hr;cases he
  obtain ⟨k1, k2, k3, k4⟩ := h s p x m hx;obtain ⟨j1, j2, j3, j4⟩ := Yq f lay h n s m r q (by omega) k4 hr';exact ⟨by rw [List.flatMap_cons]; exact zJ k1 j1 h0 k3 j2, by omega, j3, by rw [List.length_cons, j4]⟩
theorem qi {X : Type} (f : Rd X) (lay : X -> List UInt8) (most : Nat) (h : Once f lay) : Once (rList f most) (fun l => num (l.length : Int) ++ l.flatMap lay) := fun s p l q hr => by
 obtain ⟨n, m, hn, hr⟩ := zh hr;obtain ⟨k1, k2, k3, k4⟩ := zK s p n m hn;by_cases hb : n < 0 \/ (most : Int) < n
 ·rw [if_pos hb] at hr; cases hr
 ·rw [if_neg hb] at hr
  obtain ⟨j1, j2, j3, j4⟩ := Yq f lay h n.toNat s m l q (by omega) k4 hr;have : (l.length : Int) = n := by omega
  exact ⟨by show num (l.length : Int) ++ l.flatMap lay = _; rw [this]; exact zJ k1 j1 k2 k3 j2, k2, by omega, j3⟩
theorem once_ev : Once rEv layEv := fun s p x q h => by
 obtain ⟨a, m1, h1, h⟩ := zh h;obtain ⟨v, m2, h2, h⟩ := zh h;obtain ⟨_, rfl, rfl⟩ := zC h;obtain ⟨k1, k2, k3, k4⟩ := zK _ _ _ _ h1;obtain ⟨j1, j2, j3, j4⟩ := uD _ _ _ _ h2;exact ⟨zJ k1 j1 k2 k3 j3, k2, by omega, j4⟩
theorem once_it : Once rIt layIt := fun s p x q h => by
 obtain ⟨t, m1, h1, h⟩ := zh h;obtain ⟨a, m2, h2, h⟩ := zh h;obtain ⟨b, m3, h3, h⟩ := zh h;obtain ⟨v, m4, h4, h⟩ := zh h;obtain ⟨_, rfl, rfl⟩ := zC h;obtain ⟨k1, k2, k3, k4⟩ := jH _ _ _ _ h1;obtain ⟨j1, j2, j3, j4⟩ := zK _ _ _ _ h2;obtain ⟨i1, i2, i3, i4⟩ := zK _ _ _ _ h3;obtain ⟨g1, g2, g3, g4⟩ := uD _ _ _ _ h4;refine ⟨?_, k2, by omega, g4⟩;have e := zJ (zJ k1 (zJ j1 i1 j2 j3 i3) k2 k3 (by omega)) g1 k2 (by omega) g3;rw [<- e];simp [layIt, numsL]
theorem once_vd : Once rVd layVd := fun s p x q h => by
 obtain ⟨a, m1, h1, h⟩ := zh h;obtain ⟨b, m2, h2, h⟩ := zh h;obtain ⟨_, rfl, rfl⟩ := zC h;obtain ⟨k1, k2, k3, k4⟩ := zK _ _ _ _ h1;obtain ⟨j1, j2, j3, j4⟩ := zK _ _ _ _ h2;refine ⟨?_, k2, by omega, j4⟩;rw [<- zJ k1 j1 k2 k3 j3];simp [layVd, numsL]
def OnceP {X : Type} (f : Rd X) (ok : X -> Bool) (lay : X -> List UInt8) : Prop := ∀ (s : List UInt8) (p : Int) (x : X) (q : Int), f s p = some (x, q) -> ok x = true /\ lay x = V.cut s p q /\ 0 <= p /\ p <= q /\ q <= (s.length : Int)
theorem jC {X : Type} {f : Rd X} {ok : X -> Bool} {lay : X -> List UInt8} (h : Once f lay) : OnceP (rThen f fun x => rEnd ok x) ok lay := fun s p x q hr => by
 obtain ⟨y, m, h1, hr⟩ := zh hr;obtain ⟨ho, rfl, rfl⟩ := zC hr;exact ⟨ho, h _ _ _ _ h1⟩
theorem evs_once : OnceP rdEvs evsP layEvs := jC (qi rEv layEv 3 once_ev)
theorem qm : OnceP rdItems itemsP layItems := jC (qi rIt layIt 64 once_it)
theorem vds_once : OnceP rdVds vdsP layVds := jC (qi rVd layVd 32 once_vd)
theorem Z7 : OnceP rdFilt filtP layFilt := jC (qi rTxt textL 8 jH)
theorem cmd_once : OnceP rdCmd cmdP layCmd := fun s p x q h => by
 obtain ⟨a, m1, h1, h⟩ := zh h;obtain ⟨b, m2, h2, h⟩ := zh h;obtain ⟨t, m3, h3, h⟩ := zh h;obtain ⟨r, m4, h4, h⟩ := zh h;obtain ⟨v, m5, h5, h⟩ := zh h;obtain ⟨e, m6, h6, h⟩ := zh h;obtain ⟨ho, rfl, rfl⟩ := zC h;obtain ⟨a1, a2, a3, a4⟩ := zK _ _ _ _ h1;obtain ⟨b1, b2, b3, b4⟩ := zK _ _ _ _ h2;obtain ⟨c1, c2, c3, c4⟩ := jH _ _ _ _ h3;obtain ⟨d1, d2, d3, d4⟩ := zK _ _ _ _ h4;obtain ⟨e1, e2, e3, e4⟩ := uD _ _ _ _ h5;obtain ⟨f1, f2, f3, f4⟩ := zK _ _ _ _ h6;refine ⟨ho, ?_, a2, by omega, f4⟩;rw [<- zJ (zJ (zJ (zJ (zJ a1 b1 a2 a3 b3) c1 a2 (by omega) c3) d1 a2 (by omega) d3) e1 a2 (by omega) e3) f1 a2 (by omega) f3];simp [layCmd, numsL]
set_option maxRecDepth 100000
theorem zu (a b : List UInt8) (h : a.length + b.length <= 9223372036854775807) : ∀ W, (Op.stringOp .add (str a) (str b)).run Tryz.prog W = .ok (.string (str (a ++ b))) W := fun W => by
 rw [run_string_add_sum W _ _ (by rw [zn, zn]; omega), <- yS]
theorem yn (n a b : Int) (w : World) : Calls Tryz.prog 70 #[.int .i64 n, .int .i64 a, .int .i64 b] w fun e w' => e = .returned (.bool (inn n a b)) /\ w = w' := by
 by_cases h1 : a <= n
 ·by_cases h2 : n <= b
  ·have hv : inn n a b = true := by unfold inn; simp [h1, h2]
   rw [hv]; clear hv
   go_enter Tryz.func70, Tryz.ntmps70;go_wp2_with fail;go_ret;exact ⟨rfl, rfl⟩
  ·have hv : inn n a b = false := by unfold inn; simp [h1, h2]
   rw [hv]; clear hv
   go_enter Tryz.func70, Tryz.ntmps70;go_wp2_with fail;go_ret;exact ⟨rfl, rfl⟩
 ·have hv : inn n a b = false := by unfold inn; simp [h1]
  rw [hv]; clear hv
  go_enter Tryz.func70, Tryz.ntmps70;go_wp2_with fail;go_ret;exact ⟨rfl, rfl⟩
theorem jX {X : Type} {m : List X} {x : X} {K : Nat} (f : X -> Bool) (h : m[K]? = some x) : (m.drop K).all f = (f x && (m.drop (K + 1)).all f) := by
 obtain ⟨hlt, rfl⟩ := List.getElem?_eq_some_iff.1 h;rw [List.drop_eq_getElem_cons hlt, List.all_cons]
set_option maxHeartbeats 1000000 in
theorem uo (L : Low) (l : List Int) (most : Nat) (v : Value) (w : World) (h : SlN w v l) (hn : l.length <= 4611686018427387904) :
 Calls Tryz.prog 71 #[v, .int .i64 (most : Int)] w fun e w' => e = .returned (.bool (valsP l most)) /\ w = w' := by
 obtain ⟨a, cap, rfl, hc⟩ := h.open;obtain ⟨N, hN⟩ : ∃ N, l.length = N := ⟨_, rfl⟩;have hv : valsP l most = ((l.drop 0).all valP && decide (N <= most)) := by unfold valsP; rw [hN]; rfl
 have HC := Lib.hid hc;have HN := Lib.hid hN;rw [hN] at hn ⊢;obtain ⟨r, hr⟩ : ∃ r, valsP l most = r := ⟨_, rfl⟩;rw [hr] at hv ⊢;have HV := Lib.hid hv;clear hc h hN hv hr;go_enter Tryz.func71, Tryz.ntmps71;go_wp2_with fail;go_loopw [5] (fun i wr => ∃ K : Nat, i = .int .i64 (K : Int) /\ K <= N /\ Hid (r = ((l.drop K).all valP && decide (N <= most))) /\ wr = w) (fun i _ => N - (intOf i).toNat)
 case atStart => exact ⟨0, rfl, Nat.zero_le _, HV, rfl⟩
 case round =>
  obtain ⟨K, rfl, hK, HJ, rfl⟩ := hrel;by_cases hlt : K < N
  ·have hltI : (K : Int) < (N : Int) := by omega
   have hk0 : 0 <= (K : Int) := by omega
   have hw1 : IntKind.i64.wrap ((K : Int) + 1) = (K : Int) + 1 := IntWalk.i64_in _ (by omega);obtain ⟨x, hx⟩ : ∃ x, l[K]? = some x := ⟨_, List.getElem?_eq_getElem (by rw [HN.out]; exact hlt)⟩;obtain ⟨b, off, rfl, hcell⟩ := HC.out K x hx;have hd := HJ.out;rw [jX _ hx] at hd;have HP := Lib.hid (fun W => L.value x W);obtain ⟨p, hp⟩ : ∃ p, valP x = p := ⟨_, rfl⟩;rw [hp] at HP hd;have HD := Lib.hid hd;clear hd hp hx;cases p with
   | true =>
    go_wp2_with (go_at_call 130; refine (HP.out _).mono ?_; rintro _ w1 ⟨rfl, rfl⟩)
    go_roundw
    case rel => exact ⟨K + 1, by go_num, by omega, HD, by first | rfl | trivial⟩
    case measure => simp [intOf]; omega
   | false =>
    go_wp2_with (go_at_call 130; refine (HP.out _).mono ?_; rintro _ w1 ⟨rfl, rfl⟩)
    go_ret;exact ⟨by rw [HD.out]; rfl, by first | rfl | trivial⟩
  ·have hltI : ¬ (K : Int) < (N : Int) := by omega
   have hd := HJ.out;rw [List.drop_of_length_le (i := K) (by rw [HN.out]; omega)] at hd;have HD := Lib.hid (show r = decide (N <= most) by rw [hd, List.all_nil, Bool.true_and]);clear hd;go_wp2_with fail;go_ret;exact ⟨by rw [HD.out]; rfl, by first | rfl | trivial⟩
set_option maxHeartbeats 1000000 in
theorem head_any (L : Low) (c q : Int) (s : List UInt8) (w : World) (hs : TxWf s) :
 Calls Tryz.prog 69 #[.int .i64 c, .int .i64 q, .string (str s)] w fun e w' => e = .returned (.bool (headP c q s)) /\ Below w.heap.size w w' := by
 have H1 := Lib.hid (fun W => yn c 0 5 W);have H2 := Lib.hid (fun W => yn q 1 1099511627776 W);have H3 := Lib.hid (fun W => L.stream s W (by unfold TxWf at hs; omega));have hh : headP c q s = (inn c 0 5 && (inn q 1 1099511627776 && streamP s)) := rfl;rw [hh];clear hh;obtain ⟨b1, e1⟩ : ∃ b, inn c 0 5 = b := ⟨_, rfl⟩;obtain ⟨b2, e2⟩ : ∃ b, inn q 1 1099511627776 = b := ⟨_, rfl⟩;obtain ⟨b3, e3⟩ : ∃ b, streamP s = b := ⟨_, rfl⟩;rw [e1] at H1; rw [e2] at H2; rw [e3] at H3
 rw [e1, e2, e3];clear e1 e2 e3 hs;go_enter Tryz.func69, Tryz.ntmps69;go_wp2_with fail;refine (H1.out _).mono ?_;rintro _ w1 ⟨rfl, rfl⟩;cases b1 with
 | false =>
  go_wp2_with fail;go_ret;exact ⟨rfl, Below.refl _ _⟩
 | true =>
  go_wp2_with fail;refine (H2.out _).mono ?_;rintro _ w1 ⟨rfl, rfl⟩;cases b2 with
  | false =>
   go_wp2_with fail;go_ret;exact ⟨rfl, Below.refl _ _⟩
  | true =>
   go_wp2_with fail;refine (H3.out _).mono ?_;rintro _ w1 ⟨rfl, hb⟩;go_wp2_with fail;go_ret;exact ⟨rfl, hb⟩
theorem zV {X : Type} (f : X -> List UInt8) {m : List X} {x : X} {K : Nat} (h : m[K]? = some x) : (m.take (K + 1)).flatMap f = (m.take K).flatMap f ++ f x := by
 rw [List.take_add_one, List.flatMap_append, h];simp
set_option maxHeartbeats 1000000 in
theorem zP (L : Low) (l : List Int) (v : Value) (w : World) (h : SlN w v l) (hw : NsWf l) :
 Calls Tryz.prog 28 #[v] w fun e w' => e = .returned (.string (str (numsL l))) /\ Below w.heap.size w w' := by
 obtain ⟨a, cap, rfl, hc⟩ := h.open;obtain ⟨N, hN⟩ : ∃ N, l.length = N := ⟨_, rfl⟩;have HC := Lib.hid hc;have HN := Lib.hid hN;have HW := Lib.hid hw;have hn : N <= 17592186044416 := by rw [<- hN]; exact hw.2
 rw [hN];clear hc h hN hw;go_enter Tryz.func28, Tryz.ntmps28;go_wp2_with fail;go_loopw [3, 4] (fun o i wr => ∃ K : Nat, i = .int .i64 (K : Int) /\ K <= N /\ o = .string (str (numsL (l.take K))) /\ Hid (Below w.heap.size w wr)) (fun _ i _ => N - (intOf i).toNat)
 case atStart => exact ⟨0, rfl, Nat.zero_le _, rfl, Lib.hid (Below.refl _ _)⟩
 case round =>
  obtain ⟨K, rfl, hK, rfl, HB⟩ := hrel;by_cases hlt : K < N
  ·have hltI : (K : Int) < (N : Int) := by omega
   have hk0 : 0 <= (K : Int) := by omega
   have hw1 : IntKind.i64.wrap ((K : Int) + 1) = (K : Int) + 1 := IntWalk.i64_in _ (by omega);obtain ⟨x, hx⟩ : ∃ x, l[K]? = some x := ⟨_, List.getElem?_eq_getElem (by rw [HN.out]; exact hlt)⟩;obtain ⟨b, off, rfl, hcell⟩ := HC.out K x hx;have hc1 := za HB.out hcell;have hxw := HW.out.1 x (List.mem_of_getElem? hx);have HP := Lib.hid (fun W => L.number x W hxw);have hl1 := zo (l.take K) fun y hy => HW.out.1 y (List.mem_of_mem_take hy)
   have hl2 := zi x hxw;rw [List.length_take] at hl1;have HD := Lib.hid (show numsL (l.take (K + 1)) = numsL (l.take K) ++ num x from zV num hx);have e1 := zu (numsL (l.take K)) (num x) (by omega);generalize numsL (l.take K) = T at e1 HD
   generalize num x = X at e1 HD HP
   clear hl1 hl2 hx hxw hcell;go_wp2_with (go_at_call 30; refine (HP.out _).mono ?_; rintro _ w1 ⟨rfl, hb1⟩; have HB1 := Lib.hid (HB.out.trans (hb1.mono HB.out.size)); clear hb1)
   go_roundw
   case rel => exact ⟨K + 1, by go_num, by omega, by rw [HD.out], HB1⟩
   case measure => simp [intOf]; omega
  ·have hltI : ¬ (K : Int) < (N : Int) := by omega
   have hd : numsL (l.take K) = numsL l := by rw [List.take_of_length_le (by rw [HN.out]; omega)]
   rw [hd];go_wp2_with fail;go_ret;exact ⟨rfl, HB.out⟩
set_option maxHeartbeats 1000000 in
theorem Zt (L : Low) (l : List Int) (v : Value) (w : World) (h : SlN w v l) (hw : NsWf l) :
 Calls Tryz.prog 78 #[v] w fun e w' => e = .returned (.string (str (listL l))) /\ Below w.heap.size w w' := by
 have HN := Lib.hid (fun W (hb : Below w.heap.size w W) => zP L l v W (h.below hb) hw);have H1 := Lib.hid (fun W => L.number (l.length : Int) W (jc (by have := hw.2; omega)));have hl1 := zo l hw.1;have hl2 := zi (l.length : Int) (jc (by have := hw.2; omega));have hn := hw.2;have e1 := zu (num (l.length : Int)) (numsL l) (by omega);have HD := Lib.hid (show listL l = num (l.length : Int) ++ numsL l from rfl);generalize listL l = R at HD ⊢
 generalize numsL l = T at e1 HD HN
 generalize num (l.length : Int) = X at e1 HD H1
 obtain ⟨a, cap, rfl, hc⟩ := h.open;obtain ⟨N, hN⟩ : ∃ N, l.length = N := ⟨_, rfl⟩;rw [hN] at HN H1 hn ⊢;clear hl1 hl2 hc hN h hw;go_enter Tryz.func78, Tryz.ntmps78;go_wp2_with fail;refine (H1.out _).mono ?_;rintro _ w1 ⟨rfl, hb1⟩;go_wp2_with fail;refine (HN.out _ hb1).mono ?_;rintro _ w2 ⟨rfl, hb2⟩;have hb := hb1.trans (hb2.mono hb1.size);go_wp2_with fail;go_ret;exact ⟨by rw [HD.out]; rfl, hb⟩
set_option maxHeartbeats 1000000 in
theorem yY (L : Low) (s : List UInt8) (w : World) (hs : TxWf s) :
 Calls Tryz.prog 32 #[.string (str s)] w fun e w' => e = .returned (.string (str (textL s))) /\ Below w.heap.size w w' := by
 have H1 := Lib.hid (fun W => L.number (s.length : Int) W (jc hs));have hl2 := zi (s.length : Int) (jc hs);unfold TxWf at hs;have e1 := zu (num (s.length : Int)) s (by omega);have HD := Lib.hid (show textL s = num (s.length : Int) ++ s from rfl);have hsz : (str s).size = s.length := zn s;generalize textL s = R at HD ⊢
 generalize num (s.length : Int) = X at e1 HD H1
 obtain ⟨N, hN⟩ : ∃ N, s.length = N := ⟨_, rfl⟩;rw [hN] at H1 hsz hs;clear hl2 hN;go_enter Tryz.func32, Tryz.ntmps32;go_wp2_with fail;refine (H1.out _).mono ?_;rintro _ w1 ⟨rfl, hb1⟩;go_wp2_with fail;go_ret;exact ⟨by rw [HD.out]; rfl, hb1⟩
set_option maxHeartbeats 2000000 in
theorem cmd_any (L : Low) (c : Cm) (u : Value) (w : World) (h : SlN w u c.args) (hw : CmWf c) :
 Calls Tryz.prog 23 #[.agg #[.int .i64 c.client, .int .i64 c.seq, .string (str c.stream), .int .i64 c.rule, u, .int .i64 c.expect]] w fun e w' => e = .returned (.bool (cmdP c)) /\ Below w.heap.size w w' := by
 obtain ⟨n0, n1, s, n3, ar, n5⟩ := c;obtain ⟨hw0, hw1, hw2, hw3, hw4, hw5⟩ := hw;dsimp only at h hw0 hw1 hw2 hw3 hw4 hw5 ⊢;obtain ⟨W0, hW0⟩ : ∃ W0, w.alloc (.cells #[.int .i64 n0, .int .i64 n1, .string (str s), .int .i64 n3, u, .int .i64 n5] 59) = W0 := ⟨_, rfl⟩;have hB0 : Below w.heap.size w W0 := by rw [<- hW0]; exact zf _ _
 have k0 : W0.cell? ⟨w.heap.size, 0, none⟩ = some (.int .i64 n0) := by rw [<- hW0]; exact ze w [_, _, _, _, _, _] _ 0 _ rfl
 have k1 : W0.cell? ⟨w.heap.size, 1, none⟩ = some (.int .i64 n1) := by rw [<- hW0]; exact ze w [_, _, _, _, _, _] _ 1 _ rfl
 have k2 : W0.cell? ⟨w.heap.size, 2, none⟩ = some (.string (str s)) := by rw [<- hW0]; exact ze w [_, _, _, _, _, _] _ 2 _ rfl
 have k3 : W0.cell? ⟨w.heap.size, 3, none⟩ = some (.int .i64 n3) := by rw [<- hW0]; exact ze w [_, _, _, _, _, _] _ 3 _ rfl
 have k4 : W0.cell? ⟨w.heap.size, 4, none⟩ = some u := by rw [<- hW0]; exact ze w [_, _, _, _, _, _] _ 4 _ rfl
 have k5 : W0.cell? ⟨w.heap.size, 5, none⟩ = some (.int .i64 n5) := by rw [<- hW0]; exact ze w [_, _, _, _, _, _] _ 5 _ rfl
 have HH := Lib.hid (fun W => head_any L n0 n1 s W hw2);have H3 := Lib.hid (fun W => yn n3 0 11 W);have H4 := Lib.hid (fun W (hb : Below w.heap.size w W) => uo L ar 4 u W (h.below hb) (by have := hw4.2; omega));have H5 := Lib.hid (fun W => yn n5 (-1) 1099511627776 W);have hp : cmdP ⟨n0, n1, s, n3, ar, n5⟩ = (headP n0 n1 s && (inn n3 0 11 && (valsP ar 4 && inn n5 (-1) 1099511627776))) := rfl;rw [hp];obtain ⟨b0, e0⟩ : ∃ b, headP n0 n1 s = b := ⟨_, rfl⟩;obtain ⟨b1, e1⟩ : ∃ b, inn n3 0 11 = b := ⟨_, rfl⟩;obtain ⟨b2, e2⟩ : ∃ b, valsP ar 4 = b := ⟨_, rfl⟩;obtain ⟨b3, e3⟩ : ∃ b, inn n5 (-1) 1099511627776 = b := ⟨_, rfl⟩;rw [e0] at HH; rw [e1] at H3; rw [e2] at H4; rw [e3] at H5
 rw [e0, e1, e2, e3];have HB0 := Lib.hid hB0;clear e0 e1 e2 e3 hp hw0 hw1 hw2 hw3 hw4 hw5 h hB0;go_enter Tryz.func23, Tryz.ntmps23;go_wp2_with fail;refine (HH.out _).mono ?_;rintro _ w1 ⟨rfl, hb1⟩;have k3 := za hb1 k3;have k4 := za hb1 k4;have k5 := za hb1 k5;have HB1 := Lib.hid (HB0.out.trans (hb1.mono HB0.out.size));clear hb1 k0 k1 k2 hW0;cases b0 with
 | false =>
  go_wp2_with fail;go_ret;exact ⟨rfl, HB1.out⟩
 | true =>
  go_wp2_with fail;refine (H3.out _).mono ?_;rintro _ w2 ⟨rfl, rfl⟩;cases b1 with
  | false =>
   go_wp2_with fail;go_ret;exact ⟨rfl, HB1.out⟩
  | true =>
   go_wp2_with fail;refine (H4.out _ HB1.out).mono ?_;rintro _ w2 ⟨rfl, rfl⟩;cases b2 with
   | false =>
    go_wp2_with fail;go_ret;exact ⟨rfl, HB1.out⟩
   | true =>
    go_wp2_with fail;refine (H5.out _).mono ?_;rintro _ w2 ⟨rfl, rfl⟩;go_wp2_with fail;go_ret;exact ⟨rfl, HB1.out⟩
set_option maxHeartbeats 2000000 in
theorem events_any (L : Low) (l : List Ev) (v : Value) (w : World) (h : EvsIs w v l) (hw : EvsWf l) :
 Calls Tryz.prog 73 #[v] w fun e w' => e = .returned (.bool (evsP l)) /\ w = w' := by
 obtain ⟨a, cap, rfl, hc⟩ := h.open;obtain ⟨N, hN⟩ : ∃ N, l.length = N := ⟨_, rfl⟩;have hv : evsP l = ((l.drop 0).all evP && decide (N <= 3)) := by unfold evsP; rw [hN]; rfl
 have HC := Lib.hid hc;have HN := Lib.hid hN;have HW := Lib.hid hw;have hn : N <= 17592186044416 := by rw [<- hN]; exact hw.2
 rw [hN];obtain ⟨r, hr⟩ : ∃ r, evsP l = r := ⟨_, rfl⟩;rw [hr] at hv ⊢;have HV := Lib.hid hv;clear hc h hN hv hr hw;go_enter Tryz.func73, Tryz.ntmps73;go_wp2_with fail;go_loopw [3] (fun i wr => ∃ K : Nat, i = .int .i64 (K : Int) /\ K <= N /\ Hid (r = ((l.drop K).all evP && decide (N <= 3))) /\ wr = w) (fun i _ => N - (intOf i).toNat)
 case atStart => exact ⟨0, rfl, Nat.zero_le _, HV, rfl⟩
 case round =>
  obtain ⟨K, rfl, hK, HJ, rfl⟩ := hrel;by_cases hlt : K < N
  ·have hltI : (K : Int) < (N : Int) := by omega
   have hk0 : 0 <= (K : Int) := by omega
   have hw1 : IntKind.i64.wrap ((K : Int) + 1) = (K : Int) + 1 := IntWalk.i64_in _ (by omega);obtain ⟨x, hx⟩ : ∃ x, l[K]? = some x := ⟨_, List.getElem?_eq_getElem (by rw [HN.out]; exact hlt)⟩;obtain ⟨b, off, rfl, cs, -, ⟨u, rfl, hu⟩, hcell⟩ := HC.out K x hx;have k0 : wr.cell? ⟨b, off + K * 2, none⟩ = some (.int .i64 x.pos) := hcell 0 _ rfl;have k1 : wr.cell? ⟨b, off + K * 2 + 1, none⟩ = some u := hcell 1 _ rfl;have hd := HJ.out;rw [jX _ hx] at hd;have hxw := HW.out.1 x (List.mem_of_getElem? hx);have H1 := Lib.hid (fun W => yn x.pos 0 7 W);have H2 := Lib.hid (uo L x.vars 6 u wr hu (by have := hxw.2.2; omega));rw [show evP x = (inn x.pos 0 7 && valsP x.vars 6) from rfl] at hd;obtain ⟨p, hp⟩ : ∃ p, inn x.pos 0 7 = p := ⟨_, rfl⟩;obtain ⟨q, hq⟩ : ∃ p, valsP x.vars 6 = p := ⟨_, rfl⟩;rw [hp] at H1 hd;rw [hq] at H2 hd;generalize x.pos = n0 at k0 H1
   have HD := Lib.hid hd;clear hd hp hq hx hcell hu hxw;cases p with
   | true =>
    cases q with
    | true =>
     go_wp2_with (first | (go_at_call 70; refine (H1.out _).mono ?_; rintro _ w1 ⟨rfl, rfl⟩) | (go_at_call 71; refine H2.out.mono ?_; rintro _ w1 ⟨rfl, rfl⟩))
     go_roundw
     case rel => exact ⟨K + 1, by go_num, by omega, HD, by first | rfl | trivial⟩
     case measure => simp [intOf]; omega
    | false =>
     go_wp2_with (first | (go_at_call 70; refine (H1.out _).mono ?_; rintro _ w1 ⟨rfl, rfl⟩) | (go_at_call 71; refine H2.out.mono ?_; rintro _ w1 ⟨rfl, rfl⟩))
     go_ret;exact ⟨by rw [HD.out]; rfl, by first | rfl | trivial⟩
   | false =>
    go_wp2_with (first | (go_at_call 70; refine (H1.out _).mono ?_; rintro _ w1 ⟨rfl, rfl⟩) | (go_at_call 71; refine H2.out.mono ?_; rintro _ w1 ⟨rfl, rfl⟩))
    go_ret;exact ⟨by rw [HD.out]; rfl, by first | rfl | trivial⟩
  ·have hltI : ¬ (K : Int) < (N : Int) := by omega
   have hd := HJ.out;rw [List.drop_of_length_le (i := K) (by rw [HN.out]; omega)] at hd;have HD := Lib.hid (show r = decide ((N : Int) <= 3) by rw [hd, List.all_nil, Bool.true_and]; exact decide_eq_decide.2 (by omega));clear hd;go_wp2_with fail;go_ret;exact ⟨by rw [HD.out]; rfl, by first | rfl | trivial⟩
set_option maxHeartbeats 2000000 in
theorem state_any (L : Low) (c : St) (u : Value) (w : World) (h : SlN w u c.vars) (hw : StWf c) :
 Calls Tryz.prog 74 #[.agg #[.int .i64 c.pos, .int .i64 c.ver, u]] w fun e w' => e = .returned (.bool (stP c)) /\ Below w.heap.size w w' := by
 obtain ⟨n0, n1, ar⟩ := c;obtain ⟨hw0, hw1, hw4⟩ := hw;dsimp only at h hw0 hw1 hw4 ⊢;obtain ⟨W0, hW0⟩ : ∃ W0, w.alloc (.cells #[.int .i64 n0, .int .i64 n1, u] 89) = W0 := ⟨_, rfl⟩;have hB0 : Below w.heap.size w W0 := by rw [<- hW0]; exact zf _ _
 have k0 : W0.cell? ⟨w.heap.size, 0, none⟩ = some (.int .i64 n0) := by rw [<- hW0]; exact ze w [_, _, _] _ 0 _ rfl
 have k1 : W0.cell? ⟨w.heap.size, 1, none⟩ = some (.int .i64 n1) := by rw [<- hW0]; exact ze w [_, _, _] _ 1 _ rfl
 have k2 : W0.cell? ⟨w.heap.size, 2, none⟩ = some u := by rw [<- hW0]; exact ze w [_, _, _] _ 2 _ rfl
 have H1 := Lib.hid (fun W => yn n0 0 7 W);have H2 := Lib.hid (fun W => yn n1 0 1099511627776 W);have H4 := Lib.hid (fun W (hb : Below w.heap.size w W) => uo L ar 6 u W (h.below hb) (by have := hw4.2; omega));have hp : stP ⟨n0, n1, ar⟩ = (inn n0 0 7 && (inn n1 0 1099511627776 && valsP ar 6)) := rfl;rw [hp];obtain ⟨b0, e0⟩ : ∃ b, inn n0 0 7 = b := ⟨_, rfl⟩;obtain ⟨b1, e1⟩ : ∃ b, inn n1 0 1099511627776 = b := ⟨_, rfl⟩;obtain ⟨b2, e2⟩ : ∃ b, valsP ar 6 = b := ⟨_, rfl⟩;rw [e0] at H1; rw [e1] at H2; rw [e2] at H4
 rw [e0, e1, e2];have HB0 := Lib.hid hB0;clear e0 e1 e2 hp hw0 hw1 hw4 h hB0;go_enter Tryz.func74, Tryz.ntmps74;go_wp2_with fail;refine (H1.out _).mono ?_;rintro _ w2 ⟨rfl, rfl⟩;cases b0 with
 | false =>
  go_wp2_with fail;go_ret;exact ⟨rfl, HB0.out⟩
 | true =>
  go_wp2_with fail;refine (H2.out _).mono ?_;rintro _ w2 ⟨rfl, rfl⟩;cases b1 with
  | false =>
   go_wp2_with fail;go_ret;exact ⟨rfl, HB0.out⟩
  | true =>
   go_wp2_with fail;refine (H4.out _ HB0.out).mono ?_;rintro _ w2 ⟨rfl, rfl⟩;go_wp2_with fail;go_ret;exact ⟨rfl, HB0.out⟩
end Go.Proofs.YtaidhoepnefcpaaGreat.C10
