/-
  Layer 4, to show: what is put is the pieces of what instructions make of a row of expressions.
-/
import Derived.Test.YtbeidmkhpcnbbaaGreatDoorIPShE
namespace Go.Proofs.YtbeidmkhpcnbbaaGreatDoor.I
open Go Go.RowKit Go.Proofs.YtbeidmkhpcnbbaaGreatDoor.B Go.Proofs.YtbeidmkhpcnbbaaGreatDoor.K Go.Proofs.YtbeidmkhpcnbbaaGreatDoor.E
set_option linter.unusedVariables false

/-- An expression's level, as the program has it. -/
def lev : Ex → Int | .con n => if n < 0 then 2 else 0 | .var _ => 1 | .arg _ => 1 | .un o _ => lvl o | .bin o _ _ => lvl o | .ite _ _ _ => lvl 16
/-- An expression's piece. -/
def pc (vs : List Bs) (e : Ex) : Pc := (text vs e, lev e)

theorem lev_con (n : Int) : lev (.con n) = if n < 0 then 2 else 0 := rfl
theorem rank_con (n : Int) : rank (.con n) = if n < 0 then 6 else 7 := rfl

theorem lev_rank (nv na : Int) (e : Ex) (hw : WF nv na e) : lev e = 8 - (rank e : Int) ∨ (lev e = 0 ∧ rank e = 7) := by
  cases e with
  | con n =>
    rw [lev_con, rank_con]
    by_cases h : n < 0
    · rw [if_pos h, if_pos h]; left; rfl
    · rw [if_neg h, if_neg h]; right; exact ⟨rfl, rfl⟩
  | var k => left; rfl
  | arg k => left; rfl
  | un o a => left; rcases hw.1 with rfl | rfl <;> rfl
  | bin o a b =>
    left
    have ht := takes_is o
    have h2 : takes o = 2 := hw.1
    have ho : o = 6 ∨ o = 7 ∨ o = 8 ∨ o = 9 ∨ o = 10 ∨ o = 11 ∨ o = 12 ∨ o = 13 ∨ o = 14 ∨ o = 15 := by omega
    rcases ho with rfl | rfl | rfl | rfl | rfl | rfl | rfl | rfl | rfl | rfl <;> rfl
  | ite a b c => left; rfl

theorem upto_shw (vs : List Bs) (nv na : Int) (e : Ex) (hw : WF nv na e) (L : Int) (least : Nat) (h1 : 1 ≤ L) (hl : L = 8 - (least : Int)) : upto (pc vs e) L = shw vs e least := by
  unfold upto shw pc brk
  rcases lev_rank nv na e hw with h | ⟨h, hr⟩
  · by_cases hc : rank e < least
    · rw [if_pos (show L < (text vs e, lev e).2 by show L < lev e; omega), if_pos hc]
    · rw [if_neg (show ¬ L < (text vs e, lev e).2 by show ¬ L < lev e; omega), if_neg hc]
  · rw [if_neg (show ¬ L < (text vs e, lev e).2 by show ¬ L < lev e; omega), if_neg (by omega)]

theorem text_con (vs : List Bs) (n : Int) : itoa n = text vs (.con n) := by
  unfold itoa text pieces
  split
  · simp
  · rw [show n.toNat = n.natAbs by omega]; simp
theorem text_var (vs : List Bs) (k : Nat) (s : Bs) (h : vs[k]? = some s) : text vs (.var k) = s := by
  unfold text pieces; simp [List.getD_eq_getElem?_getD, h]
theorem text_arg (vs : List Bs) (k : Nat) : text vs (.arg k) = [36] ++ itoa (k : Int) := by
  unfold text pieces itoa; rw [if_neg (by omega)]; simp

theorem pieces_un (vs : List Bs) (o : Int) (a : Ex) : pieces vs (.un o a) = if o = 4 then (if plainCon a = true then [[45], [40]] ++ pieces vs a ++ [[41]] else [[45]] ++ wrap (rank a) 6 (pieces vs a)) else [[33]] ++ wrap (rank a) 6 (pieces vs a) := by
  rw [pieces]

theorem text_un (vs : List Bs) (nv na : Int) (o : Nat) (ho : o = 4 ∨ o = 5) (a : Ex) (hw : WF nv na a) :
    (o = 4 ∧ lev a = 0 ∧ text vs (.un (o : Int) a) = sg 4 ++ brk (text vs a)) ∨ ((o = 4 → lev a ≠ 0) ∧ text vs (.un (o : Int) a) = sg o ++ upto (pc vs a) 2) := by
  have hu := upto_shw vs nv na a hw 2 6 (by decide) (by decide)
  by_cases hc : o = 4 ∧ lev a = 0
  · left
    obtain ⟨rfl, h0⟩ := hc
    refine ⟨rfl, h0, ?_⟩
    have hp : plainCon a = true := by
      cases a with
      | con n =>
        rw [lev_con] at h0
        refine decide_eq_true ?_
        by_cases h : n < 0
        · rw [if_pos h] at h0; cases h0
        · omega
      | var => cases h0
      | arg => cases h0
      | un o2 a2 => rcases hw.1 with rfl | rfl <;> cases h0
      | bin o2 a2 b2 => exfalso; have h2 : lvl o2 = 0 := h0; unfold lvl at h2; (repeat' split at h2) <;> omega
      | ite => cases h0
    show (pieces vs (.un 4 a)).flatten = _
    rw [pieces_un, if_pos rfl, if_pos hp]
    unfold brk text
    simp [show sg 4 = [45] from rfl]
  · right
    refine ⟨fun h4 h0 => hc ⟨h4, h0⟩, ?_⟩
    rw [hu, ← shw_eq]
    show (pieces vs (.un (o : Int) a)).flatten = _
    rw [pieces_un]
    rcases ho with rfl | rfl
    · have hp : plainCon a = false := by
        cases a with
        | con n =>
          refine decide_eq_false (fun h => hc ⟨rfl, ?_⟩)
          rw [lev_con, if_neg (by omega)]
        | _ => rfl
      rw [if_pos (by decide), if_neg (by rw [hp]; decide)]
      simp [show sg 4 = [45] from rfl]
    · rw [if_neg (by decide)]
      simp [show sg 5 = [33] from rfl]

theorem text_two (vs : List Bs) (o : Nat) (ho : o = 9 ∨ o = 10) (a b : Ex) : text vs (.bin (o : Int) a b) = sg o ++ [40] ++ Lib.join ([pc vs a, pc vs b].map (·.1)) [44, 32] ++ [41] := by
  have hj : Lib.join ([pc vs a, pc vs b].map (·.1)) [44, 32] = text vs a ++ [44, 32] ++ text vs b := by
    simp [Lib.join, pc, List.intercalate]
  rw [hj]
  unfold text
  rcases ho with rfl | rfl
  · rw [pieces, if_pos (by decide)]; simp [show sg 9 = wmin from rfl]
  · rw [pieces, if_pos (by decide)]; simp [show sg 10 = wmax from rfl]

theorem text_three (vs : List Bs) (a b c : Ex) : text vs (.ite a b c) = sg 16 ++ [40] ++ Lib.join ([pc vs a, pc vs b, pc vs c].map (·.1)) [44, 32] ++ [41] := by
  have hj : Lib.join ([pc vs a, pc vs b, pc vs c].map (·.1)) [44, 32] = text vs a ++ [44, 32] ++ text vs b ++ [44, 32] ++ text vs c := by
    simp [Lib.join, pc, List.intercalate]
  rw [hj]
  unfold text
  rw [pieces]; simp [show sg 16 = wif from rfl]

theorem text_bin (vs : List Bs) (nv na : Int) (o : Nat) (ho : o = 6 ∨ o = 7 ∨ o = 8 ∨ o = 11 ∨ o = 12 ∨ o = 13 ∨ o = 14 ∨ o = 15) (a b : Ex) (ha : WF nv na a) (hb : WF nv na b) :
    text vs (.bin (o : Int) a b) = upto (pc vs a) (fst1 (o : Int)) ++ [32] ++ sg o ++ [32] ++ upto (pc vs b) (lvl (o : Int) - 1) := by
  have key : ∀ (L M : Int) (l m : Nat), 1 ≤ L → L = 8 - (l : Int) → 1 ≤ M → M = 8 - (m : Int) → upto (pc vs a) L ++ [32] ++ sg o ++ [32] ++ upto (pc vs b) M = (wrap (rank a) l (pieces vs a) ++ [[32], sg o, [32]] ++ wrap (rank b) m (pieces vs b)).flatten := by
    intro L M l m h1 h2 h3 h4
    rw [upto_shw vs nv na a ha L l h1 h2, upto_shw vs nv na b hb M m h3 h4, ← shw_eq, ← shw_eq]
    simp
  unfold text
  rcases ho with rfl | rfl | rfl | rfl | rfl | rfl | rfl | rfl
  · rw [key _ _ 4 5 (by decide) (by decide) (by decide) (by decide)]; rfl
  · rw [key _ _ 4 5 (by decide) (by decide) (by decide) (by decide)]; rfl
  · rw [key _ _ 5 6 (by decide) (by decide) (by decide) (by decide)]; rfl
  · rw [key _ _ 4 4 (by decide) (by decide) (by decide) (by decide)]; rfl
  · rw [key _ _ 4 4 (by decide) (by decide) (by decide) (by decide)]; rfl
  · rw [key _ _ 4 4 (by decide) (by decide) (by decide) (by decide)]; rfl
  · rw [key _ _ 2 3 (by decide) (by decide) (by decide) (by decide)]; rfl
  · rw [key _ _ 1 2 (by decide) (by decide) (by decide) (by decide)]; rfl
end Go.Proofs.YtbeidmkhpcnbbaaGreatDoor.I
