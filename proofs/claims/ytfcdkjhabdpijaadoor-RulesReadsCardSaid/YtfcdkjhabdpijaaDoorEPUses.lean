/-
  Contracts of the program of layer 3: named, Uses.
-/
import Derived.Test.YtfcdkjhabdpijaaDoorEUses
import Derived.Deep.AppendLies
import Derived.Laws.OwnMore
namespace Go.Proofs.YtfcdkjhabdpijaaDoor.E
open Go Go.RowKit Go.Proofs.YtfcdkjhabdpijaaDoor.B Go.Proofs.YtfcdkjhabdpijaaDoor.K
set_option linter.unusedVariables false

/-- A place of a list marked, which grows as far as it must. -/
def mark (xs : List Bool) (x lim : Int) : List Bool := if x < 0 ∨ lim ≤ x then xs else (xs ++ List.replicate (x.toNat + 1 - xs.length) false).set x.toNat true

theorem usesTop_snoc (o most : Int) (p : List In) (i : In) (t : Int) :
    usesTop o most (p ++ [i]) t = if i.1 = o ∧ 0 ≤ i.2 ∧ i.2 < most then max (usesTop o most p t) i.2 else usesTop o most p t := by
  induction p generalizing t with
  | nil => rfl
  | cons j r ih => simp only [List.cons_append, usesTop, ih]

theorem uses_at (o most : Int) (p : List In) (m : Nat) : (uses o most p)[m]? = if (m : Int) ≤ usesTop o most p (-1) then some (p.any (named o m)) else none := by
  unfold uses
  rw [List.getElem?_map]
  by_cases h : (m : Int) ≤ usesTop o most p (-1)
  · rw [if_pos h, List.getElem?_range (by omega)]; rfl
  · rw [if_neg h, List.getElem?_eq_none (by rw [List.length_range]; omega)]; rfl

theorem named_far (o most : Int) (p : List In) (m : Nat) (hm : (m : Int) < most) (h : usesTop o most p (-1) < (m : Int)) : p.any (named o m) = false := by
  rw [List.any_eq_false]
  intro i hi
  unfold named
  intro hd
  have hd' := of_decide_eq_true hd
  have := usesTop_named o most p (-1) i hi hd'.1 (by omega) (by omega)
  omega

theorem uses_snoc (o most : Int) (p : List In) (i : In) (h0 : 0 ≤ most) : uses o most (p ++ [i]) = if i.1 = o then mark (uses o most p) i.2 most else uses o most p := by
  have hge := usesTop_le o most p (-1)
  have hlt := usesTop_lt o most p (-1) (by omega)
  have hlen := uses_length o most p
  have hst := usesTop_snoc o most p i (-1)
  apply List.ext_getElem?
  intro m
  have hany : (p ++ [i]).any (named o m) = (p.any (named o m) || named o m i) := by rw [List.any_append]; simp
  by_cases ho : i.1 = o
  · rw [if_pos ho]
    unfold mark
    by_cases hr : i.2 < 0 ∨ most ≤ i.2
    · rw [if_neg (by omega)] at hst
      rw [if_pos hr, uses_at, uses_at, hst, hany]
      by_cases hm : (m : Int) ≤ usesTop o most p (-1)
      · rw [if_pos hm, if_pos hm, show named o m i = false from decide_eq_false (by omega), Bool.or_false]
      · rw [if_neg hm, if_neg hm]
    · rw [if_pos (by omega)] at hst
      rw [if_neg hr, uses_at, hst, hany, List.getElem?_set, List.length_append, List.length_replicate]
      by_cases hx : i.2.toNat = m
      · rw [if_pos (show (m : Int) ≤ _ by omega), if_pos hx, if_pos (by omega), show named o m i = true from decide_eq_true (by omega), Bool.or_true]
      · rw [if_neg hx, show named o m i = false from decide_eq_false (by omega), Bool.or_false, List.getElem?_append]
        by_cases hm : (m : Int) ≤ usesTop o most p (-1)
        · rw [if_pos (show (m : Int) ≤ max _ _ by omega), if_pos (by omega), uses_at, if_pos hm]
        · rw [if_neg (show ¬ m < (uses o most p).length by omega), List.getElem?_replicate]
          by_cases hm2 : (m : Int) ≤ i.2
          · rw [if_pos (show (m : Int) ≤ max _ _ by omega), if_pos (by omega), named_far o most p m (by omega) (by omega)]
          · rw [if_neg (show ¬ (m : Int) ≤ max _ _ by omega), if_neg (by omega)]
  · rw [if_neg (fun h => ho h.1)] at hst
    rw [if_neg ho, uses_at, uses_at, hst, hany, show named o m i = false from decide_eq_false (fun h => ho h.1), Bool.or_false]

/-- The marked list, in a row of its own or in the one that it had. -/
def MarkIs (base : Nat) (v : Value) (ys : List Bool) (w : World) (e : Ending) (w' : World) : Prop :=
  ∃ v', e = .returned v' ∧ w'.ownsRow base 4 1 v' ys.length (ys.map Value.bool) ∧ (v'.ownBlock = v.ownBlock ∨ ∃ g, v'.ownBlock = some g ∧ w.heap.size ≤ g) ∧ w.grownBy w' v.ownBlock

theorem grown_on {a b c : World} {r s : Option Nat} (h : a.grownBy b r) (k : b.grownBy c s) (hs : s = r ∨ ∃ g, s = some g ∧ a.heap.size ≤ g) : a.grownBy c r := by
  refine ⟨k.os.trans h.os, k.tape.trans h.tape, k.output.trans h.output, Nat.le_trans h.size k.size, fun i hi hn => (k.block i (Nat.lt_of_lt_of_le hi h.size) ?_).trans (h.block i hi hn)⟩
  rcases hs with rfl | ⟨g, rfl, hg⟩
  · exact hn
  · intro e; cases e; omega

theorem grown_new {a : World} (o : Obj) (r : Option Nat) : a.grownBy (a.alloc o) r := World.grownBy_alloc a o r

theorem owns_lt {w : World} {base : Nat} {e : TypeId} {size : Nat} {v : Value} {n : Nat} {xs : List Value} (h : w.ownsRow base e size v n xs) : ∀ g, v.ownBlock = some g → g < w.heap.size := by
  intro k hk
  rcases h.2 with ⟨rfl, _⟩ | ⟨g, cap, cur, rfl, hg, hb, _⟩
  · cases hk
  · simp only [Value.ownBlock, Option.some.injEq] at hk
    subst hk
    exact (Array.getElem?_eq_some_iff.1 hb).1

theorem owns_form_at {w : World} {base : Nat} {e : TypeId} {v : Value} {n : Nat} {xs : List Value} (h : w.ownsRow base e 1 v n xs) (j : Nat) (hj : j < n) :
    ∃ g cap, v = .slice (some ⟨g, 0, none⟩) n cap ∧ (∃ old, w.cell? ⟨g, j, none⟩ = some old) ∧ w.frozen? ⟨g, j, none⟩ = false := by
  obtain ⟨hl, h⟩ := h
  rcases h with ⟨rfl, rfl⟩ | ⟨g, cap, cur, rfl, hg, hb, hn, _, hs, _⟩
  · rw [Nat.zero_mul, List.length_eq_zero_iff] at hl
    omega
  · obtain ⟨old, h1, h2⟩ := row_cell hb (show j < cur.size by omega)
    exact ⟨g, cap, rfl, ⟨old, h1⟩, h2⟩

/-- How long a slice is. -/
def lenOf : Value → Nat | .slice _ n _ => n | _ => 0

theorem owns_shape {w : World} {base : Nat} {e : TypeId} {v : Value} {n : Nat} {xs : List Value} (h : w.ownsRow base e 1 v n xs) : ∃ a cap, v = .slice a n cap := by
  rcases h.2 with ⟨rfl, rfl⟩ | ⟨g, cap, cur, rfl, _⟩
  · exact ⟨none, 0, rfl⟩
  · exact ⟨_, cap, rfl⟩

/-- A list that has grown by places that are not marked. -/
def grow (xs : List Bool) (k : Nat) : List Bool := xs ++ List.replicate k false
theorem grow_length (xs : List Bool) (k : Nat) : (grow xs k).length = xs.length + k := by simp [grow]
theorem grow_succ (xs : List Bool) (k : Nat) : (grow xs k).map Value.bool ++ [Value.bool false] = (grow xs (k + 1)).map Value.bool := by
  unfold grow; rw [List.replicate_succ', ← List.append_assoc, List.map_append (l₂ := [false])]; rfl

theorem mark_set (xs : List Bool) (k n X : Nat) (u : Value) (h : (grow xs k).length = n) : ((grow xs k).map Value.bool).set X (.bool true) = ((grow xs k).set X true).map Value.bool := by rw [List.map_set]

theorem mark_done {w w' : World} {base g cap n k X : Nat} {v : Value} {xs : List Bool} (hn : (grow xs k).length = n) (h : w'.ownsRow base 4 1 (.slice (some ⟨g, 0, none⟩) n cap) n ((grow xs k).map Value.bool))
    (hb : (some g = v.ownBlock) ∨ ∃ g', some g = some g' ∧ w.heap.size ≤ g') (hg : w.grownBy w' v.ownBlock) :
    MarkIs base v ((grow xs k).set X true) w (.returned (.slice (some ⟨g, 0, none⟩) n cap)) (w'.setCell ⟨g, X, none⟩ (.bool true)) := by
  have hs := h.stored X (.bool true)
  refine ⟨_, rfl, ?_, hb, grown_on hg hs.2 hb⟩
  rw [List.length_set, hn, ← mark_set xs k n X (.bool true) hn]
  exact hs.1

theorem mark_grow {w wr w1 : World} {v u : Value} {g' n cap : Nat} {o : Obj} (HU : u.ownBlock = v.ownBlock ∨ ∃ g, u.ownBlock = some g ∧ w.heap.size ≤ g) (HG : w.grownBy wr v.ownBlock)
    (hgrow : (wr.alloc o).grownBy w1 u.ownBlock) (hblk : u.ownBlock = some g' ∨ g' = (wr.alloc o).heap.size) :
    ((Value.slice (some ⟨g', 0, none⟩) n cap).ownBlock = v.ownBlock ∨ ∃ g, (Value.slice (some ⟨g', 0, none⟩) n cap).ownBlock = some g ∧ w.heap.size ≤ g) ∧ w.grownBy w1 v.ownBlock := by
  refine ⟨?_, grown_on (grown_on HG (grown_new o v.ownBlock) (Or.inl rfl)) hgrow HU⟩
  rcases hblk with h | h
  · rw [h] at HU
    exact HU
  · refine Or.inr ⟨g', rfl, ?_⟩
    have h1 := HG.size
    rw [h]; simp; omega

set_option maxHeartbeats 1000000 in
theorem named_any (xs : List Bool) (v : Value) (x lim : Int) (base : Nat) (w : World) (hown : w.ownsRow base 4 1 v xs.length (xs.map Value.bool)) (hbase : base ≤ w.heap.size) (hx : xs.length ≤ 100) (hl : lim ≤ 100) :
    Calls Tryd.prog 62 #[v, .int .i64 x, .int .i64 lim] w (MarkIs base v (mark xs x lim) w) := by
  by_cases h0 : x < 0
  · have hm : mark xs x lim = xs := by unfold mark; rw [if_pos (Or.inl h0)]
    rw [hm]
    have bx : decide (x < 0) = true := decide_eq_true h0
    have HO := Lib.hid hown
    clear hown h0 hm
    go_enter Tryd.func62, Tryd.ntmps62
    go_wp2_with fail
    go_ret
    exact ⟨v, rfl, HO.out, Or.inl rfl, ⟨rfl, rfl, rfl, Nat.le_refl _, fun _ _ _ => rfl⟩⟩
  by_cases h1 : lim ≤ x
  · have hm : mark xs x lim = xs := by unfold mark; rw [if_pos (Or.inr h1)]
    rw [hm]
    have bx : decide (x < 0) = false := decide_eq_false h0
    have bl : decide (lim ≤ x) = true := decide_eq_true h1
    have HO := Lib.hid hown
    clear hown h0 hm
    go_enter Tryd.func62, Tryd.ntmps62
    go_wp2_with fail
    go_ret
    exact ⟨v, rfl, HO.out, Or.inl rfl, ⟨rfl, rfl, rfl, Nat.le_refl _, fun _ _ _ => rfl⟩⟩
  obtain ⟨X, rfl⟩ := Int.eq_ofNat_of_zero_le (show 0 ≤ x by omega)
  have hm : mark xs X lim = (grow xs (X + 1 - xs.length)).set X true := by unfold mark grow; rw [if_neg (by omega), Int.toNat_natCast]
  rw [hm]
  obtain ⟨i0, hi, hz0, hz1, hz2⟩ := info_parts Tryd.info4
  have bx : decide ((X : Int) < 0) = false := decide_eq_false h0
  have bl : decide (lim ≤ (X : Int)) = false := decide_eq_false h1
  have hX : X < 100 := by omega
  have HO := Lib.hid hown
  have HB := Lib.hid hbase
  obtain ⟨L, hL⟩ : ∃ L, xs.length = L := ⟨_, rfl⟩
  rw [hL] at hx
  have HL := Lib.hid hL
  have HV := Lib.hid (owns_lt hown)
  clear hown h0 h1 hm hbase hL
  go_enter Tryd.func62, Tryd.ntmps62
  go_wp2_with fail
  go_loopw [0] (fun u wr => ∃ k : Nat, L + k ≤ max L (X + 1) ∧ Hid (wr.ownsRow base 4 1 u (L + k) ((grow xs k).map Value.bool)) ∧ Hid (u.ownBlock = v.ownBlock ∨ ∃ g, u.ownBlock = some g ∧ w.heap.size ≤ g) ∧ Hid (w.grownBy wr v.ownBlock)) (fun u _ => 200 - lenOf u)
  case atStart => exact ⟨0, by omega, by show w.ownsRow _ _ _ _ _ _; unfold grow; rw [List.replicate_zero, List.append_nil, Nat.add_zero, ← HL.out]; exact HO.out, Or.inl rfl, ⟨rfl, rfl, rfl, Nat.le_refl _, fun _ _ _ => rfl⟩⟩
  case round =>
    obtain ⟨k, hk, HW, HU, HG⟩ := hrel
    obtain ⟨ua, ucap, rfl⟩ := owns_shape HW.out
    by_cases hc : L + k ≤ X
    · have hcI : (L : Int) + (k : Int) ≤ (X : Int) := by omega
      have HC5 := Lib.hid (show base ≤ (wr.alloc (.cells #[.bool false] 4)).heap.size by have h1 := HB.out; have h2 := HG.out.size; simp; omega)
      have HC4 := Lib.hid (show (L + k + 1) * 1 ≤ 140737488355328 by omega)
      have HC3 := Lib.hid (show L + k + 1 ≤ maxLen by unfold maxLen; omega)
      have HM := Lib.hid hk
      clear hk
      go_wp2_with (at_builtin; refine wpList_append_lies _ rfl _ _ 42 rfl base 4 i0 (.bool false) 1 1 Tryd.underlying42 hi hz0 hz1 hz2 rfl (by decide) _ _ _ rfl (HW.out.alloc _) ⟨wr.heap.size, 0, none⟩ 1 1 [.bool false] rfl rfl (one_newb _ _ _) (one_cellb _) (by decide) HC3.out HC4.out HC5.out _ rfl ?_; intro g' cap' w1 hown' hgrow hblk hlt')
      have hmg := mark_grow (n := L + k + 1) (cap := cap') HU.out HG.out hgrow hblk
      rw [grow_succ] at hown'
      have HMM := Lib.hid HM.out
      clear hgrow hblk hlt'
      go_roundw
      case rel => exact ⟨k + 1, by omega, hown', hmg.1, hmg.2⟩
      case measure => simp [lenOf]; omega
    · have hcI : ¬ (L : Int) + (k : Int) ≤ (X : Int) := by omega
      obtain ⟨g, cap, e, ⟨old, hold⟩, hfr⟩ := owns_form_at HW.out X (by omega)
      cases e
      have hXI : (X : Int) < (L : Int) + (k : Int) := by omega
      have HM := Lib.hid hk
      clear hk
      go_wp2_with fail
      go_ret
      rw [show X + 1 - xs.length = k by have h1 := HM.out; have h2 := HL.out; omega]
      exact mark_done (by rw [grow_length, HL.out]) HW.out HU.out HG.out
end Go.Proofs.YtfcdkjhabdpijaaDoor.E
