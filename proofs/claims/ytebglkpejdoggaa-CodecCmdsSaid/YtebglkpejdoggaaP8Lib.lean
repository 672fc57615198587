/-
  Layer 10, plainly: reading field by field; what was laid is read as it was, and what was read is laid as the very bytes.
  Layer 10: what the program's functions answer (the laws are proved from this alone), and the laws' own helpers.
  Layer 8: strings.Cut at '/', strings.Compare, and the function that goes through a text part by part.
-/
import Derived.Test.YtebglkpejdoggaaP10Mem
import Derived.Test.YtebglkpejdoggaaVInv
import Derived.Test.YtebglkpejdoggaaP8Math
import Derived.Lib.Bytealg
import Derived.BigQuiet
namespace Go.Proofs.Ytebglkpejdoggaa.C10
open Go Go.RowKit Go.Proofs Go.Proofs.Ytebglkpejdoggaa.B Go.Proofs.Ytebglkpejdoggaa.K Go.Proofs.Ytebglkpejdoggaa.P8
set_option linter.unusedVariables false

/-- A reading: what was read, and the place behind it. -/
abbrev Rd (X : Type) := List UInt8 → Int → Option (X × Int)
def got {X : Type} (r : X × Int × Int) : Option (X × Int) := if r.2.2 = 0 then some (r.1, r.2.1) else none
def rNum : Rd Int := fun s p => got (V.rdAt s p)
def rTxt : Rd (List UInt8) := fun s p => got (V.txt s p)
def rNums : Rd (List Int) := fun s p => got (V.nums s p)
def rThen {X Y : Type} (f : Rd X) (g : X → Rd Y) : Rd Y := fun s p => (f s p).bind fun r => g r.1 s r.2
def rEnd {X : Type} (ok : X → Bool) (x : X) : Rd X := fun _ p => if ok x then some (x, p) else none
def rMany {X : Type} (item : Rd X) : Nat → Rd (List X)
  | 0 => fun _ p => some ([], p)
  | n + 1 => rThen item fun x => rThen (rMany item n) fun l => fun _ p => some (x :: l, p)
def rList {X : Type} (item : Rd X) (most : Nat) : Rd (List X) := rThen rNum fun n => if n < 0 ∨ (most : Int) < n then fun _ _ => none else rMany item n.toNat
def rEv : Rd Ev := rThen rNum fun a => rThen rNums fun v => rEnd (fun _ => true) ⟨a, v⟩
def rIt : Rd It := rThen rTxt fun t => rThen rNum fun a => rThen rNum fun b => rThen rNums fun v => rEnd (fun _ => true) ⟨t, ⟨a, b, v⟩⟩
def rVd : Rd Vd := rThen rNum fun a => rThen rNum fun b => rEnd (fun _ => true) ⟨a, b⟩
def rdCmd : Rd Cm := rThen rNum fun a => rThen rNum fun b => rThen rTxt fun t => rThen rNum fun r => rThen rNums fun v => rThen rNum fun e => rEnd cmdP ⟨a, b, t, r, v, e⟩
def rdRec : Rd Rc := rThen rNum fun a => rThen rNum fun b => rThen rTxt fun t => rThen rNum fun c => rThen (rList rEv 3) fun l => rEnd recP ⟨a, b, t, c, l⟩
def rdEvs : Rd (List Ev) := rThen (rList rEv 3) fun l => rEnd evsP l
def rdItems : Rd (List It) := rThen (rList rIt 64) fun l => rEnd itemsP l
def rdVds : Rd (List Vd) := rThen (rList rVd 32) fun l => rEnd vdsP l
def rdFilt : Rd (List (List UInt8)) := rThen (rList rTxt 8) fun l => rEnd filtP l

/-! ### What was laid is read as it was -/
def Back {X : Type} (f : Rd X) (x : X) (t : List UInt8) : Prop := ∀ A B : List UInt8, f (A ++ (t ++ B)) (A.length : Int) = some (x, (A.length : Int) + (t.length : Int))
theorem back_then {X Y : Type} {f : Rd X} {g : X → Rd Y} {x : X} {y : Y} {t u : List UInt8} (h : Back f x t) (k : Back (g x) y u) : Back (rThen f g) y (t ++ u) := fun A B => by
  unfold rThen
  rw [List.append_assoc, h A (u ++ B)]
  have := k (A ++ t) B
  rw [List.append_assoc, List.length_append, Int.natCast_add] at this
  simp only [Option.bind_some]
  rw [this, List.length_append, Int.natCast_add, Int.add_assoc]
theorem back_end {X : Type} {ok : X → Bool} {x : X} (h : ok x = true) : Back (rEnd ok x) x [] := fun A B => by
  unfold rEnd
  rw [if_pos h]; simp
theorem back_num (n : Int) (h : I64 n) : Back rNum n (num n) := fun A B => by
  unfold rNum got
  rw [show num n = V.num n from rfl, V.rdAt_num A B n h.1 h.2]; simp
theorem back_text (s : List UInt8) (h : s.length ≤ 4096) : Back rTxt s (textL s) := fun A B => by
  unfold rTxt got
  rw [show textL s = V.num (s.length : Int) ++ s from rfl, V.txt_text A B s h]; simp
theorem layAll_nums : ∀ l : List Int, V.layAll V.numOf l = (numsL l, 0)
  | [] => rfl
  | x :: l => by
    unfold V.layAll
    rw [layAll_nums l, numsL_cons]
    simp [V.numOf, V.comb]
    rfl
theorem layList_nums (l : List Int) (h : l.length ≤ 256) : V.layList V.numOf l = (listL l, 0) := by
  unfold V.layList
  rw [if_neg (by omega), layAll_nums]
  simp [V.comb]
  rfl
theorem back_nums (l : List Int) (h : ∀ x ∈ l, I64 x) (hl : l.length ≤ 256) : Back rNums l (listL l) := fun A B => by
  unfold rNums got
  rw [V.nums_back l h (listL l) (layList_nums l hl) A B]; simp
theorem back_many {X : Type} (f : Rd X) (lay : X → List UInt8) : ∀ l : List X, (∀ x ∈ l, Back f x (lay x)) → Back (rMany f l.length) l (l.flatMap lay)
  | [], _ => fun A B => by simp [rMany]
  | x :: l, h => by
    have h1 := back_then (h x (List.mem_cons_self ..)) (g := fun x => rThen (rMany f l.length) fun l => fun _ p => some (x :: l, p)) (y := x :: l) (u := l.flatMap lay ++ []) (back_then (back_many f lay l fun y hy => h y (List.mem_cons_of_mem _ hy)) (fun A B => by simp))
    rw [List.append_nil] at h1
    exact h1
theorem back_list {X : Type} (f : Rd X) (lay : X → List UInt8) (most : Nat) (hm : most ≤ 1000) (l : List X) (hl : l.length ≤ most) (h : ∀ x ∈ l, Back f x (lay x)) : Back (rList f most) l (num (l.length : Int) ++ l.flatMap lay) := by
  unfold rList
  refine back_then (back_num _ ⟨by omega, by omega⟩) ?_
  rw [if_neg (by omega), Int.toNat_natCast]
  exact back_many f lay l h

theorem inn_iff {n a b : Int} : inn n a b = true ↔ a ≤ n ∧ n ≤ b := by unfold inn; simp
theorem vals_facts {l : List Int} {m : Nat} (h : valsP l m = true) : (∀ x ∈ l, I64 x) ∧ l.length ≤ m := by
  unfold valsP at h
  rw [Bool.and_eq_true, List.all_eq_true, decide_eq_true_eq] at h
  exact ⟨fun x hx => by have := inn_iff.1 (h.1 x hx); exact ⟨by omega, by omega⟩, h.2⟩
theorem stream_len {s : List UInt8} (h : streamP s = true) : s.length ≤ 32 := by
  unfold streamP rowOk at h
  simp only [Bool.and_eq_true, decide_eq_true_eq] at h
  first | exact h.1 | exact h.1.1 | omega
theorem head_facts {c q : Int} {s : List UInt8} (h : headP c q s = true) : I64 c ∧ I64 q ∧ s.length ≤ 32 := by
  unfold headP at h
  rw [Bool.and_eq_true, Bool.and_eq_true, inn_iff, inn_iff] at h
  exact ⟨⟨by omega, by omega⟩, ⟨by omega, by omega⟩, stream_len h.2.2⟩
theorem cmd_back (c : Cm) (h : cmdP c = true) : Back rdCmd c (layCmd c) := by
  have h0 := h
  obtain ⟨a, b, t, r, v, e⟩ := c
  unfold cmdP at h
  simp only [Bool.and_eq_true, inn_iff] at h
  obtain ⟨hh, hr, hv, he⟩ := h
  obtain ⟨h1, h2, h3⟩ := head_facts hh
  obtain ⟨h4, h5⟩ := vals_facts hv
  have e1 : layCmd ⟨a, b, t, r, v, e⟩ = num a ++ (num b ++ (textL t ++ (num r ++ (listL v ++ (num e ++ []))))) := by
    simp [layCmd, numsL]
  rw [e1]
  unfold rdCmd
  refine back_then (back_num a h1) ?_
  refine back_then (back_num b h2) ?_
  refine back_then (back_text t (by omega)) ?_
  refine back_then (back_num r ⟨by omega, by omega⟩) ?_
  refine back_then (back_nums v h4 (by omega)) ?_
  refine back_then (back_num e ⟨by omega, by omega⟩) ?_
  exact back_end h0
theorem ev_back (x : Ev) (h : evP x = true) : Back rEv x (layEv x) := by
  obtain ⟨a, v⟩ := x
  unfold evP at h
  simp only [Bool.and_eq_true, inn_iff] at h
  obtain ⟨h4, h5⟩ := vals_facts h.2
  have e1 : layEv ⟨a, v⟩ = num a ++ (listL v ++ []) := by simp [layEv]
  rw [e1]
  unfold rEv
  refine back_then (back_num a ⟨by omega, by omega⟩) ?_
  refine back_then (back_nums v h4 (by omega)) ?_
  exact back_end rfl
theorem evs_facts {l : List Ev} (h : evsP l = true) : (∀ x ∈ l, evP x = true) ∧ l.length ≤ 3 := by
  unfold evsP at h
  rw [Bool.and_eq_true, List.all_eq_true, decide_eq_true_eq] at h
  exact h
theorem evs_list_back (l : List Ev) (h : evsP l = true) : Back (rList rEv 3) l (layEvs l) := by
  obtain ⟨h1, h2⟩ := evs_facts h
  exact back_list rEv layEv 3 (by omega) l h2 fun x hx => ev_back x (h1 x hx)
theorem evs_back (l : List Ev) (h : evsP l = true) : Back rdEvs l (layEvs l) := by
  have := back_then (evs_list_back l h) (g := fun l => rEnd evsP l) (back_end h)
  rw [List.append_nil] at this
  exact this
theorem rec_back (c : Rc) (h : recP c = true) : Back rdRec c (layRec c) := by
  have h0 := h
  obtain ⟨a, b, t, r, l⟩ := c
  unfold recP at h
  simp only [Bool.and_eq_true, inn_iff] at h
  obtain ⟨hh, hr, hv, he⟩ := h
  obtain ⟨h1, h2, h3⟩ := head_facts hh
  have e1 : layRec ⟨a, b, t, r, l⟩ = num a ++ (num b ++ (textL t ++ (num r ++ (layEvs l ++ [])))) := by
    simp [layRec, numsL]
  rw [e1]
  unfold rdRec
  refine back_then (back_num a h1) ?_
  refine back_then (back_num b h2) ?_
  refine back_then (back_text t (by omega)) ?_
  refine back_then (back_num r ⟨by omega, by omega⟩) ?_
  refine back_then (evs_list_back l hv) ?_
  exact back_end h0
theorem it_back (x : It) (h1 : streamP x.stream = true) (h2 : stP x.st = true) : Back rIt x (layIt x) := by
  obtain ⟨t, a, b, v⟩ := x
  have h3 := stream_len h1
  unfold stP at h2
  simp only [Bool.and_eq_true, inn_iff] at h2
  obtain ⟨h4, h5⟩ := vals_facts h2.2.2
  have e1 : layIt ⟨t, a, b, v⟩ = textL t ++ (num a ++ (num b ++ (listL v ++ []))) := by simp [layIt, numsL]
  rw [e1]
  unfold rIt
  refine back_then (back_text t (by dsimp only at h3; omega)) ?_
  refine back_then (back_num a ⟨by omega, by omega⟩) ?_
  refine back_then (back_num b ⟨by omega, by omega⟩) ?_
  refine back_then (back_nums v h4 (by omega)) ?_
  exact back_end rfl
theorem itemsGo_facts (l : List It) : ∀ (r : List It) (k : Nat), itemsGo l k r = true → ∀ x ∈ r, streamP x.stream = true ∧ stP x.st = true
  | [], _, _, x, hx => by cases hx
  | y :: r, k, h, x, hx => by
    rw [itemsGo, Bool.and_eq_true] at h
    rcases List.mem_cons.1 hx with rfl | hx
    · have := h.1
      unfold itP at this
      rw [Bool.and_eq_true, Bool.and_eq_true] at this
      exact ⟨this.1, this.2.1⟩
    · exact itemsGo_facts l r (k + 1) h.2 x hx
theorem items_back (l : List It) (h : itemsP l = true) : Back rdItems l (layItems l) := by
  have h0 := h
  unfold itemsP at h
  rw [Bool.and_eq_true, decide_eq_true_eq] at h
  have h1 := itemsGo_facts l l 0 h.1
  have := back_then (back_list rIt layIt 64 (by omega) l h.2 fun x hx => it_back x (h1 x hx).1 (h1 x hx).2) (g := fun l => rEnd itemsP l) (back_end h0)
  rw [List.append_nil] at this
  exact this
theorem vd_back (x : Vd) (h : VdWf x) : Back rVd x (layVd x) := by
  obtain ⟨a, b⟩ := x
  have e1 : layVd ⟨a, b⟩ = num a ++ (num b ++ []) := by simp [layVd, numsL]
  rw [e1]
  unfold rVd
  refine back_then (back_num a h.1) ?_
  refine back_then (back_num b h.2) ?_
  exact back_end rfl
theorem vdsGo_facts (l : List Vd) : ∀ (r : List Vd) (k : Nat), vdsGo l k r = true → ∀ x ∈ r, VdWf x
  | [], _, _, x, hx => by cases hx
  | y :: r, k, h, x, hx => by
    rw [vdsGo, Bool.and_eq_true] at h
    rcases List.mem_cons.1 hx with rfl | hx
    · have := h.1
      unfold vdP at this
      simp only [Bool.and_eq_true, inn_iff] at this
      exact ⟨⟨by omega, by omega⟩, ⟨by omega, by omega⟩⟩
    · exact vdsGo_facts l r (k + 1) h.2 x hx
theorem vds_back (l : List Vd) (h : vdsP l = true) : Back rdVds l (layVds l) := by
  have h0 := h
  unfold vdsP at h
  rw [Bool.and_eq_true, decide_eq_true_eq] at h
  have := back_then (back_list rVd layVd 32 (by omega) l h.2 fun x hx => vd_back x (vdsGo_facts l l 0 h.1 x hx)) (g := fun l => rEnd vdsP l) (back_end h0)
  rw [List.append_nil] at this
  exact this
theorem pat_len {s : List UInt8} (h : patP s = true) : s.length ≤ 32 := by
  unfold patP rowOk at h
  simp only [Bool.and_eq_true, decide_eq_true_eq] at h
  first | exact h.1 | exact h.1.1 | omega
theorem filt_back (l : List (List UInt8)) (h : filtP l = true) : Back rdFilt l (layFilt l) := by
  have h0 := h
  unfold filtP at h
  rw [Bool.and_eq_true, decide_eq_true_eq, List.all_eq_true] at h
  have := back_then (back_list rTxt textL 8 (by omega) l h.1 fun x hx => back_text x (by have := pat_len (h.2 x hx); omega)) (g := fun l => rEnd filtP l) (back_end h0)
  rw [List.append_nil] at this
  exact this

/-! ### What was read is laid as the very bytes -/
def Once {X : Type} (f : Rd X) (lay : X → List UInt8) : Prop := ∀ (s : List UInt8) (p : Int) (x : X) (q : Int), f s p = some (x, q) → lay x = V.cut s p q ∧ 0 ≤ p ∧ p ≤ q ∧ q ≤ (s.length : Int)
theorem then_some {X Y : Type} {f : Rd X} {g : X → Rd Y} {s : List UInt8} {p : Int} {y : Y} {q : Int} (h : rThen f g s p = some (y, q)) : ∃ x m, f s p = some (x, m) ∧ g x s m = some (y, q) := by
  unfold rThen at h
  cases hf : f s p with
  | none => rw [hf] at h; cases h
  | some r => exact ⟨r.1, r.2, rfl, by rw [hf] at h; exact h⟩
theorem end_some {X : Type} {ok : X → Bool} {x y : X} {s : List UInt8} {p q : Int} (h : rEnd ok x s p = some (y, q)) : ok x = true ∧ y = x ∧ q = p := by
  unfold rEnd at h
  split at h
  · cases h; exact ⟨by assumption, rfl, rfl⟩
  · cases h
theorem got_some {X : Type} {r : X × Int × Int} {x : X} {q : Int} (h : got r = some (x, q)) : r = (x, q, 0) := by
  unfold got at h
  split at h
  · cases h; obtain ⟨a, b, c⟩ := r; simp_all
  · cases h
theorem once_num : Once rNum num := fun s p x q h => by
  have h := got_some h
  have hk := V.rdAt_ok s p h
  exact ⟨V.num_once s p h, hk.1, by omega, hk.2.2.1⟩
theorem once_text : Once rTxt textL := fun s p x q h => by
  obtain ⟨h1, h2⟩ := V.text_once s p (got_some h)
  refine ⟨?_, h2⟩
  unfold V.textOf at h1
  split at h1
  · exact absurd (congrArg Prod.snd h1) (by simp)
  · exact congrArg Prod.fst h1
theorem nums_len {s : List UInt8} {p : Int} {x : List Int} {q : Int} (h : rNums s p = some (x, q)) : x.length ≤ 256 := by
  have := V.nums_len s p
  rw [got_some h] at this
  exact this
theorem once_nums : Once rNums listL := fun s p x q h => by
  obtain ⟨h1, h2⟩ := V.nums_once s p (got_some h)
  rw [layList_nums x (nums_len h)] at h1
  exact ⟨congrArg Prod.fst h1, h2⟩
theorem cut_two {s : List UInt8} {p m q : Int} {t u : List UInt8} (h1 : t = V.cut s p m) (h2 : u = V.cut s m q) (h0 : 0 ≤ p) (h3 : p ≤ m) (h4 : m ≤ q) : t ++ u = V.cut s p q := by
  rw [h1, h2, V.cut_cut s h0 h3 h4]
theorem once_many {X : Type} (f : Rd X) (lay : X → List UInt8) (h : Once f lay) : ∀ (n : Nat) (s : List UInt8) (p : Int) (l : List X) (q : Int), 0 ≤ p → p ≤ (s.length : Int) → rMany f n s p = some (l, q) → l.flatMap lay = V.cut s p q ∧ p ≤ q ∧ q ≤ (s.length : Int) ∧ l.length = n
  | 0, s, p, l, q, h0, h1, hr => by
    cases hr
    exact ⟨by rw [V.cut_self]; rfl, by omega, h1, rfl⟩
  | n + 1, s, p, l, q, h0, h1, hr => by
    obtain ⟨x, m, hx, hr⟩ := then_some hr
    obtain ⟨r, m', hr', he⟩ := then_some hr
    cases he
    obtain ⟨k1, k2, k3, k4⟩ := h s p x m hx
    obtain ⟨j1, j2, j3, j4⟩ := once_many f lay h n s m r q (by omega) k4 hr'
    exact ⟨by rw [List.flatMap_cons]; exact cut_two k1 j1 h0 k3 j2, by omega, j3, by rw [List.length_cons, j4]⟩
theorem once_list {X : Type} (f : Rd X) (lay : X → List UInt8) (most : Nat) (h : Once f lay) : Once (rList f most) (fun l => num (l.length : Int) ++ l.flatMap lay) := fun s p l q hr => by
  obtain ⟨n, m, hn, hr⟩ := then_some hr
  obtain ⟨k1, k2, k3, k4⟩ := once_num s p n m hn
  by_cases hb : n < 0 ∨ (most : Int) < n
  · rw [if_pos hb] at hr; cases hr
  · rw [if_neg hb] at hr
    obtain ⟨j1, j2, j3, j4⟩ := once_many f lay h n.toNat s m l q (by omega) k4 hr
    have : (l.length : Int) = n := by omega
    exact ⟨by show num (l.length : Int) ++ l.flatMap lay = _; rw [this]; exact cut_two k1 j1 k2 k3 j2, k2, by omega, j3⟩
theorem once_ev : Once rEv layEv := fun s p x q h => by
  obtain ⟨a, m1, h1, h⟩ := then_some h
  obtain ⟨v, m2, h2, h⟩ := then_some h
  obtain ⟨_, rfl, rfl⟩ := end_some h
  obtain ⟨k1, k2, k3, k4⟩ := once_num _ _ _ _ h1
  obtain ⟨j1, j2, j3, j4⟩ := once_nums _ _ _ _ h2
  exact ⟨cut_two k1 j1 k2 k3 j3, k2, by omega, j4⟩
theorem once_it : Once rIt layIt := fun s p x q h => by
  obtain ⟨t, m1, h1, h⟩ := then_some h
  obtain ⟨a, m2, h2, h⟩ := then_some h
  obtain ⟨b, m3, h3, h⟩ := then_some h
  obtain ⟨v, m4, h4, h⟩ := then_some h
  obtain ⟨_, rfl, rfl⟩ := end_some h
  obtain ⟨k1, k2, k3, k4⟩ := once_text _ _ _ _ h1
  obtain ⟨j1, j2, j3, j4⟩ := once_num _ _ _ _ h2
  obtain ⟨i1, i2, i3, i4⟩ := once_num _ _ _ _ h3
  obtain ⟨g1, g2, g3, g4⟩ := once_nums _ _ _ _ h4
  refine ⟨?_, k2, by omega, g4⟩
  have e := cut_two (cut_two k1 (cut_two j1 i1 j2 j3 i3) k2 k3 (by omega)) g1 k2 (by omega) g3
  rw [← e]
  simp [layIt, numsL]
theorem once_vd : Once rVd layVd := fun s p x q h => by
  obtain ⟨a, m1, h1, h⟩ := then_some h
  obtain ⟨b, m2, h2, h⟩ := then_some h
  obtain ⟨_, rfl, rfl⟩ := end_some h
  obtain ⟨k1, k2, k3, k4⟩ := once_num _ _ _ _ h1
  obtain ⟨j1, j2, j3, j4⟩ := once_num _ _ _ _ h2
  refine ⟨?_, k2, by omega, j4⟩
  rw [← cut_two k1 j1 k2 k3 j3]
  simp [layVd, numsL]
def OnceP {X : Type} (f : Rd X) (ok : X → Bool) (lay : X → List UInt8) : Prop := ∀ (s : List UInt8) (p : Int) (x : X) (q : Int), f s p = some (x, q) → ok x = true ∧ lay x = V.cut s p q ∧ 0 ≤ p ∧ p ≤ q ∧ q ≤ (s.length : Int)
theorem once_endP {X : Type} {f : Rd X} {ok : X → Bool} {lay : X → List UInt8} (h : Once f lay) : OnceP (rThen f fun x => rEnd ok x) ok lay := fun s p x q hr => by
  obtain ⟨y, m, h1, hr⟩ := then_some hr
  obtain ⟨ho, rfl, rfl⟩ := end_some hr
  exact ⟨ho, h _ _ _ _ h1⟩
theorem evs_once : OnceP rdEvs evsP layEvs := once_endP (once_list rEv layEv 3 once_ev)
theorem items_once : OnceP rdItems itemsP layItems := once_endP (once_list rIt layIt 64 once_it)
theorem vds_once : OnceP rdVds vdsP layVds := once_endP (once_list rVd layVd 32 once_vd)
theorem filt_once : OnceP rdFilt filtP layFilt := once_endP (once_list rTxt textL 8 once_text)
theorem cmd_once : OnceP rdCmd cmdP layCmd := fun s p x q h => by
  obtain ⟨a, m1, h1, h⟩ := then_some h
  obtain ⟨b, m2, h2, h⟩ := then_some h
  obtain ⟨t, m3, h3, h⟩ := then_some h
  obtain ⟨r, m4, h4, h⟩ := then_some h
  obtain ⟨v, m5, h5, h⟩ := then_some h
  obtain ⟨e, m6, h6, h⟩ := then_some h
  obtain ⟨ho, rfl, rfl⟩ := end_some h
  obtain ⟨a1, a2, a3, a4⟩ := once_num _ _ _ _ h1
  obtain ⟨b1, b2, b3, b4⟩ := once_num _ _ _ _ h2
  obtain ⟨c1, c2, c3, c4⟩ := once_text _ _ _ _ h3
  obtain ⟨d1, d2, d3, d4⟩ := once_num _ _ _ _ h4
  obtain ⟨e1, e2, e3, e4⟩ := once_nums _ _ _ _ h5
  obtain ⟨f1, f2, f3, f4⟩ := once_num _ _ _ _ h6
  refine ⟨ho, ?_, a2, by omega, f4⟩
  rw [← cut_two (cut_two (cut_two (cut_two (cut_two a1 b1 a2 a3 b3) c1 a2 (by omega) c3) d1 a2 (by omega) d3) e1 a2 (by omega) e3) f1 a2 (by omega) f3]
  simp [layCmd, numsL]
theorem rec_once : OnceP rdRec recP layRec := fun s p x q h => by
  obtain ⟨a, m1, h1, h⟩ := then_some h
  obtain ⟨b, m2, h2, h⟩ := then_some h
  obtain ⟨t, m3, h3, h⟩ := then_some h
  obtain ⟨r, m4, h4, h⟩ := then_some h
  obtain ⟨l, m5, h5, h⟩ := then_some h
  obtain ⟨ho, rfl, rfl⟩ := end_some h
  obtain ⟨a1, a2, a3, a4⟩ := once_num _ _ _ _ h1
  obtain ⟨b1, b2, b3, b4⟩ := once_num _ _ _ _ h2
  obtain ⟨c1, c2, c3, c4⟩ := once_text _ _ _ _ h3
  obtain ⟨d1, d2, d3, d4⟩ := once_num _ _ _ _ h4
  obtain ⟨e1, e2, e3, e4⟩ := once_list rEv layEv 3 once_ev _ _ _ _ h5
  refine ⟨ho, ?_, a2, by omega, e4⟩
  rw [← cut_two (cut_two (cut_two (cut_two a1 b1 a2 a3 b3) c1 a2 (by omega) c3) d1 a2 (by omega) d3) e1 a2 (by omega) e3]
  simp [layRec, layEvs, numsL]
end Go.Proofs.Ytebglkpejdoggaa.C10

namespace Go.Proofs.Ytebglkpejdoggaa.C10
open Go Go.RowKit Go.Proofs Go.Proofs.Ytebglkpejdoggaa.B Go.Proofs.Ytebglkpejdoggaa.K Go.Proofs.Ytebglkpejdoggaa.P8
set_option linter.unusedVariables false
set_option maxRecDepth 100000

def putS (ok : Bool) (t : List UInt8) : List UInt8 := if ok then t else []
def putE (ok : Bool) : Int := if ok then 0 else 2

/-- What the program's functions answer. -/
structure Cod : Prop where
  putCmd : ∀ (c : Cm) (u : Value) (w : World), SlN w u c.args → CmWf c → Calls Try.prog 4 #[.agg #[.int .i64 c.client, .int .i64 c.seq, .string (str c.stream), .int .i64 c.rule, u, .int .i64 c.expect]] w fun e w' => e = .returned (.tuple #[.string (str (putS (cmdP c) (layCmd c))), .int .i64 (putE (cmdP c))]) ∧ Below w.heap.size w w'
  putRec : ∀ (c : Rc) (u : Value) (w : World), EvsIs w u c.events → RcWf c → Calls Try.prog 5 #[.agg #[.int .i64 c.client, .int .i64 c.seq, .string (str c.stream), .int .i64 c.code, u]] w fun e w' => e = .returned (.tuple #[.string (str (putS (recP c) (layRec c))), .int .i64 (putE (recP c))]) ∧ Below w.heap.size w w'
  putEvs : ∀ (l : List Ev) (u : Value) (w : World), EvsIs w u l → EvsWf l → Calls Try.prog 6 #[u] w fun e w' => e = .returned (.tuple #[.string (str (putS (evsP l) (layEvs l))), .int .i64 (putE (evsP l))]) ∧ Below w.heap.size w w'
  readCmd : ∀ (s : List UInt8) (p : Int) (w : World), s.length ≤ 140737488355328 → I64 p → Calls Try.prog 25 #[.string (str s), .int .i64 p] w fun e w' => ∃ (c : Cm) (u : Value) (q er : Int), e = .returned (.tuple #[.agg #[.int .i64 c.client, .int .i64 c.seq, .string (str c.stream), .int .i64 c.rule, u, .int .i64 c.expect], .int .i64 q, .int .i64 er]) ∧ SlN w' u c.args ∧ Below w.heap.size w w' ∧ (match rdCmd s p with | some r => c = r.1 ∧ q = r.2 ∧ er = 0 | none => er ≠ 0)

theorem eq_refl_b (a : List UInt8) : ((str a).toList == (str a).toList) = true := beq_self_eq_true _
theorem laid_any (ok : Bool) (t : List UInt8) (w : World) : Calls Try.prog 9 #[.string (str (putS ok t)), .int .i64 (putE ok), .bool ok, .string (str t)] w fun e w' => e = .returned (.bool true) ∧ w = w' := by
  cases ok with
  | true =>
    unfold putS putE
    simp only [if_true]
    have hr := eq_refl_b t
    go_enter Try.func9, Try.ntmps9
    go_wp2_with fail
    go_ret
    exact ⟨rfl, rfl⟩
  | false =>
    unfold putS putE
    simp only [Bool.false_eq_true, if_false]
    have hr : (str []).toList = [] := str_toList []
    go_enter Try.func9, Try.ntmps9
    go_wp2_with fail
    go_ret
    exact ⟨rfl, rfl⟩

theorem c0_facts : cmdP ⟨1, 2, [97], 0, [], -1⟩ = true ∧ layCmd ⟨1, 2, [97], 0, [], -1⟩ = [2, 4, 2, 97, 0, 0, 1] := by decide +kernel
theorem c0_wf : CmWf ⟨1, 2, [97], 0, [], -1⟩ := by
  refine ⟨⟨by decide, by decide⟩, ⟨by decide, by decide⟩, ?_, ⟨by decide, by decide⟩, ⟨?_, by decide⟩, ⟨by decide, by decide⟩⟩
  · show (1 : Nat) ≤ _
    decide
  · intro x hx
    cases hx
theorem c0_read : rdCmd [2, 4, 2, 97, 0, 0, 1] 0 = some (⟨1, 2, [97], 0, [], -1⟩, 7) := by
  have h := cmd_back ⟨1, 2, [97], 0, [], -1⟩ c0_facts.1 [] []
  rw [c0_facts.2] at h
  exact h

set_option maxHeartbeats 2000000 in
/-- The laws' awake. -/
theorem awake10_any (F : Cod) (w : World) :
    Calls Try.prog 8 #[] w fun e w' => e = .returned (.bool true) ∧ Below w.heap.size w w' := by
  obtain ⟨f1, f2⟩ := c0_facts
  have h0 := Below.refl w.heap.size w
  have P1 := F.putCmd ⟨1, 2, [97], 0, [], -1⟩ (.slice none 0 0) w (Sl.nil w) c0_wf
  rw [f1, f2, show putS true [2, 4, 2, 97, 0, 0, 1] = [2, 4, 2, 97, 0, 0, 1] from rfl, show putE true = 0 from rfl] at P1
  go_enter Try.func8, Try.ntmps8
  go_wp2_with fail
  refine P1.mono ?_
  rintro _ w1 ⟨rfl, hb1⟩
  go_wp2_with fail
  refine (F.readCmd [2, 4, 2, 97, 0, 0, 1] 0 w1 (by decide) ⟨by decide, by decide⟩).mono ?_
  rintro _ w2 ⟨c, u, q, er, rfl, hu, hb2, hm⟩
  rw [c0_read] at hm
  obtain ⟨rfl, rfl, rfl⟩ := hm
  obtain ⟨au, cu, rfl, -⟩ := id hu.open
  have hr : (str [2, 4, 2, 97, 0, 0, 1]).toList = [2, 4, 2, 97, 0, 0, 1] := str_toList _
  have hb := hb1.trans (hb2.mono hb1.size)
  clear hb1 hb2 hu f1 f2 P1 h0
  go_wp2_with fail
  go_ret
  exact ⟨rfl, hb.trans ((below_alloc w2 _).mono hb.size)⟩

/-- Some Bool. -/
def IsB (e : Ending) : Prop := ∃ b, e = .returned (.bool b)
set_option maxHeartbeats 2000000 in
theorem light_any (c : Cm) (r : Rc) (u v : Value) (w : World) (hu : SlN w u c.args) :
    Calls Try.prog 7 #[.agg #[.int .i64 c.client, .int .i64 c.seq, .string (str c.stream), .int .i64 c.rule, u, .int .i64 c.expect], .agg #[.int .i64 r.client, .int .i64 r.seq, .string (str r.stream), .int .i64 r.code, v]] w fun e w' => IsB e ∧ Below w.heap.size w w' := by
  obtain ⟨n0, n1, s, n3, ar, n5⟩ := c
  obtain ⟨m0, m1, t, m3, ev⟩ := r
  dsimp only at hu ⊢
  obtain ⟨a, cap, rfl, -⟩ := hu.open
  obtain ⟨N, hN⟩ : ∃ N, ar.length = N := ⟨_, rfl⟩
  rw [hN]
  obtain ⟨W0, hW0⟩ : ∃ W0, w.alloc (.cells #[.int .i64 n0, .int .i64 n1, .string (str s), .int .i64 n3, .slice a N cap, .int .i64 n5] 24) = W0 := ⟨_, rfl⟩
  obtain ⟨g, hg⟩ : ∃ g, W0.heap.size = g := ⟨_, rfl⟩
  obtain ⟨W1, hW1⟩ : ∃ W1, W0.alloc (.cells #[.int .i64 m0, .int .i64 m1, .string (str t), .int .i64 m3, v] 27) = W1 := ⟨_, rfl⟩
  have hB0 : Below w.heap.size w W0 := by rw [← hW0]; exact below_alloc _ _
  have hB1 : Below W0.heap.size W0 W1 := by rw [← hW1]; exact below_alloc _ _
  have hb := hB0.trans (hB1.mono hB0.size)
  have k2 : W1.cell? ⟨w.heap.size, 2, none⟩ = some (.string (str s)) := kept_cell hB1 (by rw [← hW0]; exact alloc_cell w [_, _, _, _, _, _] _ 2 _ rfl)
  have k4 : W1.cell? ⟨w.heap.size, 4, none⟩ = some (.slice a N cap) := kept_cell hB1 (by rw [← hW0]; exact alloc_cell w [_, _, _, _, _, _] _ 4 _ rfl)
  have j2 : W1.cell? ⟨g, 2, none⟩ = some (.string (str t)) := by rw [← hW1, ← hg]; exact alloc_cell W0 [_, _, _, _, _] _ 2 _ rfl
  have hs : (str s).size = s.length := str_size s
  have ht : (str t).size = t.length := str_size t
  obtain ⟨S, hS⟩ : ∃ N, s.length = N := ⟨_, rfl⟩
  obtain ⟨T, hT⟩ : ∃ N, t.length = N := ⟨_, rfl⟩
  rw [hS] at hs
  rw [hT] at ht
  clear hB0 hB1 hN hS hT
  by_cases h1 : S < 5000
  · have i1 : (S : Int) < 5000 := by omega
    have d1 : decide ((S : Int) < 5000) = true := decide_eq_true i1
    by_cases h2 : T < 5000
    · have i2 : (T : Int) < 5000 := by omega
      have d2 : decide ((T : Int) < 5000) = true := decide_eq_true i2
      go_enter Try.func7, Try.ntmps7
      go_wp2_with fail
      go_ret
      exact ⟨⟨_, rfl⟩, hb⟩
    · have i2 : ¬ (T : Int) < 5000 := by omega
      have d2 : decide ((T : Int) < 5000) = false := decide_eq_false i2
      go_enter Try.func7, Try.ntmps7
      go_wp2_with fail
      go_ret
      exact ⟨⟨_, rfl⟩, hb⟩
  · have i1 : ¬ (S : Int) < 5000 := by omega
    have d1 : decide ((S : Int) < 5000) = false := decide_eq_false i1
    go_enter Try.func7, Try.ntmps7
    go_wp2_with fail
    go_ret
    exact ⟨⟨_, rfl⟩, hb⟩
end Go.Proofs.Ytebglkpejdoggaa.C10

namespace Go.Proofs.Ytebglkpejdoggaa.P8
open Go Go.RowKit Go.Proofs.Ytebglkpejdoggaa.B Go.Proofs.Ytebglkpejdoggaa.K
set_option linter.unusedVariables false

theorem cut_idx : ∀ l : List UInt8, (Lib.indexByte l 47 = -1 ∧ cutP l = (l, [], false)) ∨ ∃ i : Nat, Lib.indexByte l 47 = (i : Int) ∧ i < l.length ∧ cutP l = (l.take i, l.drop (i + 1), true)
  | [] => Or.inl ⟨rfl, rfl⟩
  | b :: l => by
    by_cases hb : (b == 47) = true
    · refine Or.inr ⟨0, ?_, by simp, ?_⟩
      · unfold Lib.indexByte; rw [if_pos hb]; rfl
      · unfold cutP; rw [if_pos hb]; rfl
    · rcases cut_idx l with ⟨h1, h2⟩ | ⟨i, h1, h2, h3⟩
      · refine Or.inl ⟨?_, ?_⟩
        · unfold Lib.indexByte; rw [if_neg hb, h1]; rfl
        · unfold cutP; rw [if_neg hb, h2]
      · refine Or.inr ⟨i + 1, ?_, by simp; omega, ?_⟩
        · unfold Lib.indexByte
          have : ¬ ((i : Int) == -1) = true := by simp
          rw [if_neg hb, h1, if_neg this]; rfl
        · unfold cutP; rw [if_neg hb, h3]; rfl

set_option maxHeartbeats 1000000 in
set_option maxRecDepth 100000 in
theorem indexByte_any (s : ByteArray) (c : Int) (w : World) :
    Calls Try.prog 90 #[.string s, .int .u8 c] w fun e w' => e = .returned (.int .i64 (Lib.indexByte s.data.toList c.toNat.toUInt8)) ∧ w = w' := by
  go_enter Try.func90, Try.ntmps90
  go_wp2
  rw [run_callFunc_extern Try.func94 (by kernel_rfl) (by kernel_rfl) (by kernel_rfl) (e := Extern.BytealgIndexByte.indexByte) (by kernel_rfl), Lib.run_indexByteString]
  simp only [Result.andThen]
  rw [Oper.upon_value]
  go_wp2
  go_ret
  exact ⟨rfl, rfl⟩

set_option maxHeartbeats 1000000 in
set_option maxRecDepth 100000 in
theorem index_any (l : List UInt8) (w : World) :
    Calls Try.prog 89 #[.string (str l), .string ⟨#[47]⟩] w fun e w' => e = .returned (.int .i64 (Lib.indexByte l 47)) ∧ w = w' := by
  go_enter Try.func89, Try.ntmps89
  go_wp2_with (go_at_call 90; refine (indexByte_any (str l) 47 _).mono ?_; rintro _ w1 ⟨rfl, rfl⟩)
  · have h : ([47] == (str l).toList) = true := by assumption
    go_ret
    rw [str_toList] at h
    obtain rfl := beq_iff_eq.1 h
    exact ⟨rfl, rfl⟩
  · go_ret
    rw [str_data]
    exact ⟨rfl, rfl⟩

theorem below_drewN (w : World) (n : Nat) : Below w.heap.size w (w.drewN n) := by
  induction n with
  | zero => exact Below.refl _ _
  | succ n ih => first | exact ih.drew | exact ih

set_option maxHeartbeats 1000000 in
set_option maxRecDepth 100000 in
theorem slite_cut_any (l : List UInt8) (hl : l.length ≤ 1000) (w : World) :
    Calls Try.prog 88 #[.string (str l), .string ⟨#[47]⟩] w fun e w' => e = .returned (.tuple #[sv (cutP l).1, sv (cutP l).2.1, .bool (cutP l).2.2]) ∧ Below w.heap.size w w' := by
  have hsz : (str l).size = l.length := str_size l
  rcases cut_idx l with ⟨h1, h2⟩ | ⟨i, h1, h2, h3⟩
  · rw [h2]
    go_enter Try.func88, Try.ntmps88
    go_wp2_with fail
    refine (index_any l _).mono ?_
    rintro _ w1 ⟨rfl, rfl⟩
    rw [h1]
    go_wp2_with fail
    go_ret3
    exact ⟨rfl, Below.refl _ _⟩
  · rw [h3]
    have c1 : (0 : Int) ≤ ↑i := by omega
    have c2 : (↑i : Int) ≤ ↑(str l).size := by omega
    have c3 : (0 : Int) ≤ ↑i + 1 := by omega
    have c4 : (↑i + 1 : Int) ≤ ↑(str l).size := by omega
    have c5 : wrap64 (↑i + 1) = ↑i + 1 := by unfold wrap64; omega
    have c6 : IntKind.i64.wrap (↑i + 1) = ↑i + 1 := by rw [IntKind.wrap_i64]; omega
    go_enter Try.func88, Try.ntmps88
    go_wp2_with fail
    refine (index_any l _).mono ?_
    rintro _ w1 ⟨rfl, rfl⟩
    rw [h1]
    go_wp2_with fail
    go_quiet (fail)
    go_wp2_with fail
    go_ret3
    have e1 : (str l).extract 0 i = str (l.take i) := str_take l i
    have e2 : (str l).extract (i + 1) l.length = str (l.drop (i + 1)) := by
      rw [str_extract, List.take_of_length_le (by rw [List.length_drop]; omega)]
    show Ending.returned (.tuple #[.string ((str l).extract 0 i), .string ((str l).extract (i + 1) l.length), .bool true]) = _ ∧ _
    rw [e1, e2]
    exact ⟨rfl, below_drewN w _⟩

/-- A cell that holds a text. -/
def Box (w : World) (B : Nat) (l : List UInt8) : Prop := w.heap[B]? = some (.cells #[sv l] 9 (0, 0))

theorem Box.cell {w : World} {B : Nat} {l : List UInt8} (h : Box w B l) : w.cell? ⟨B, 0, none⟩ = some (sv l) ∧ w.frozen? ⟨B, 0, none⟩ = false := by
  unfold Box at h
  exact ⟨by simp [World.cell?, h], by simp [World.frozen?, h]⟩
theorem Box.lt {w : World} {B : Nat} {l : List UInt8} (h : Box w B l) : B < w.heap.size := (Array.getElem?_eq_some_iff.1 h).1
theorem Box.below {w w' : World} {B : Nat} {l : List UInt8} (h : Box w B l) (hb : Below w.heap.size w w') : Box w' B l := (hb.block _ h.lt).trans h
theorem Box.set {w : World} {B : Nat} {l : List UInt8} (h : Box w B l) (m : List UInt8) : Box (w.setCell ⟨B, 0, none⟩ (.string (str m))) B m := by
  unfold Box at h ⊢
  rw [heap_setCell_same w B 0 _ _ _ h]
  rfl

/-- Nothing but block g has turned. -/
structure Tg (g : Nat) (W W' : World) : Prop where
  os : W'.os = W.os
  tape : W'.tape = W.tape
  output : W'.output = W.output
  size : W.heap.size ≤ W'.heap.size
  block : ∀ b, b < W.heap.size → b ≠ g → W'.heap[b]? = W.heap[b]?

theorem Tg.refl (g : Nat) (W : World) : Tg g W W := ⟨rfl, rfl, rfl, Nat.le_refl _, fun _ _ _ => rfl⟩
theorem Tg.trans {g : Nat} {a b c : World} (h : Tg g a b) (k : Tg g b c) : Tg g a c :=
  ⟨k.os.trans h.os, k.tape.trans h.tape, k.output.trans h.output, Nat.le_trans h.size k.size, fun i hi hne => (k.block i (Nat.lt_of_lt_of_le hi h.size) hne).trans (h.block i hi hne)⟩
theorem Tg.of_below {g : Nat} {a b : World} (h : Below a.heap.size a b) : Tg g a b := ⟨h.os, h.tape, h.output, h.size, fun i hi _ => h.block i hi⟩
theorem Tg.onto {g n : Nat} {w a b : World} (h : Below n w a) (hn : n ≤ w.heap.size) (hg : n ≤ g) (k : Tg g a b) : Below n w b :=
  ⟨k.os.trans h.os, k.tape.trans h.tape, k.output.trans h.output, Nat.le_trans h.size k.size, fun i hi => (k.block i (Nat.lt_of_lt_of_le hi (Nat.le_trans hn h.size)) (by omega)).trans (h.block i hi)⟩
theorem Tg.set (W : World) (g k : Nat) (v : Value) : Tg g W (W.setCell ⟨g, k, none⟩ v) := by
  have hb := (Below.refl g W).setCell (p := ⟨g, k, none⟩) (Nat.le_refl _) v
  refine ⟨hb.os, hb.tape, hb.output, hb.size, fun b hb hne => ?_⟩
  rw [heap_setCell_other W ⟨g, k, none⟩ b _ hne]
theorem Tg.box {g B : Nat} {W W' : World} {l : List UInt8} (h : Tg g W W') (hB : Box W B l) (hne : B ≠ g) : Box W' B l := (h.block B hB.lt hne).trans hB

set_option maxHeartbeats 1000000 in
set_option maxRecDepth 100000 in
theorem cut_any (l : List UInt8) (hl : l.length ≤ 1000) (w : World) :
    Calls Try.prog 86 #[.string (str l), .string ⟨#[47]⟩] w fun e w' => e = .returned (.tuple #[sv (cutP l).1, sv (cutP l).2.1, .bool (cutP l).2.2]) ∧ Below w.heap.size w w' := by
  obtain ⟨⟨a, b, m⟩, hc⟩ : ∃ t, cutP l = t := ⟨_, rfl⟩
  have hC := slite_cut_any l hl
  rw [hc] at hC ⊢
  go_enter Try.func86, Try.ntmps86
  go_wp2_with fail
  refine (hC _).mono ?_
  rintro _ w1 ⟨rfl, hb⟩
  simp only [sv]
  go_wp2_with fail
  go_ret3
  exact ⟨rfl, hb⟩

set_option maxHeartbeats 1000000 in
set_option maxRecDepth 100000 in
/-- The next part: the cell holds what is left. -/
theorem next_any {B : Nat} {l : List UInt8} {w : World} (hB : Box w B l) (hl : l.length ≤ 1000) :
    Calls Try.prog 85 #[.pointer (some ⟨B, 0, none⟩)] w fun e w' => e = .returned (.tuple #[sv (cutP l).1, .bool (!(cutP l).2.2)]) ∧ Box w' B (cutP l).2.1 ∧ Tg B w w' := by
  obtain ⟨⟨a, b, m⟩, hc⟩ : ∃ t, cutP l = t := ⟨_, rfl⟩
  have hC := cut_any l hl
  rw [hc] at hC ⊢
  obtain ⟨h1, h2⟩ := hB.cell
  simp only [sv] at h1
  go_enter Try.func85, Try.ntmps85
  go_wp2_with fail
  refine (hC _).mono ?_
  rintro _ w1 ⟨rfl, hb⟩
  simp only [sv]
  obtain ⟨h3, h4⟩ := (hB.below hb).cell
  simp only [sv] at h3
  go_wp2_with fail
  go_ret2
  refine ⟨?_, (hB.below hb).set b, (Tg.of_below hb).trans (Tg.set _ _ _ _)⟩
  cases m <;> rfl

set_option maxHeartbeats 1000000 in
set_option maxRecDepth 100000 in
/-- What goes through a text. -/
theorem walk_any (l : List UInt8) (w : World) :
    Calls Try.prog 78 #[.string (str l)] w fun e w' => e = .returned (.func (.func 85) #[] #[.pointer (some ⟨w.heap.size, 0, none⟩)]) ∧ Box w' w.heap.size l ∧ Below w.heap.size w w' := by
  go_enter Try.func78, Try.ntmps78
  go_wp2_with fail
  go_ret
  exact ⟨rfl, heap_alloc_at _ _, (Below.refl _ _).alloc (Nat.le_refl _) _⟩
end Go.Proofs.Ytebglkpejdoggaa.P8
