/-
  For the walks of layer 3: an instruction more, an instruction's number, a struct copied to a local. No program is named here.
-/
import Derived.Test.YtfcdkjhabdpijaaDoorKBase
import Derived.Test.YtfcdkjhabdpijaaDoorEFold
namespace Go.Proofs.YtfcdkjhabdpijaaDoor.E
open Go Go.RowKit Go.Proofs.YtfcdkjhabdpijaaDoor.B Go.Proofs.YtfcdkjhabdpijaaDoor.K
set_option linter.unusedVariables false

/-- How many numbers an instruction takes. -/
theorem takes_range (o : Int) : -1 ≤ takes o ∧ takes o ≤ 3 := by
  unfold takes; repeat' split
  all_goals omega

theorem depth_at (code : List In) (k : Nat) (i : In) (h : code[k]? = some i) (R M : Int) :
    depth (code.drop k) R M = if 0 ≤ takes i.1 ∧ R < takes i.1 then 0 else depth (code.drop (k + 1)) (if 0 ≤ takes i.1 then R - takes i.1 + 1 else R) (max M (if 0 ≤ takes i.1 then R - takes i.1 + 1 else R)) := by
  obtain ⟨hk, e⟩ := List.getElem?_eq_some_iff.1 h
  rw [List.drop_eq_getElem_cons hk, e]
  rfl

theorem chk_at (nv na : Int) (code : List In) (k : Nat) (i : In) (hi : code[k]? = some i) (h : Int) :
    chk nv na (code.drop k) k h = if takes i.1 < 0 then ((k : Int), 2) else if right i nv na = false then ((k : Int), 3) else if h < takes i.1 then ((k : Int), 5) else chk nv na (code.drop (k + 1)) (k + 1) (h - takes i.1 + 1) := by
  obtain ⟨hk, e⟩ := List.getElem?_eq_some_iff.1 hi
  rw [List.drop_eq_getElem_cons hk, e]
  rfl

theorem ret_pair {a a' b b' : Int} (h : (a, b) = (a', b')) : Ending.returned (.tuple #[.int .i64 a, .int .i64 b]) = .returned (.tuple #[.int .i64 a', .int .i64 b']) := by cases h; rfl

/-- A struct of two ints just laid, behind a call that leaves it alone. -/
theorem pair_after {wr w1 : World} {o x : Int} {T : TypeId} (hb : Below (wr.alloc (.cells #[.int .i64 o, .int .i64 x] T)).heap.size (wr.alloc (.cells #[.int .i64 o, .int .i64 x] T)) w1) :
    w1.cell? ⟨wr.heap.size, 0, none⟩ = some (.int .i64 o) ∧ w1.cell? ⟨wr.heap.size, 1, none⟩ = some (.int .i64 x) ∧ wr.heap.size < w1.heap.size ∧ Below wr.heap.size wr w1 := by
  have hsz : (wr.alloc (.cells #[.int .i64 o, .int .i64 x] T)).heap.size = wr.heap.size + 1 := by simp
  have hlt : wr.heap.size < (wr.alloc (.cells #[.int .i64 o, .int .i64 x] T)).heap.size := by omega
  refine ⟨((bcell hb).1 _ _ hlt).trans ?_, ((bcell hb).1 _ _ hlt).trans ?_, Nat.lt_of_lt_of_le hlt hb.size, ((Below.refl _ _).alloc (Nat.le_refl _) _).trans (hb.mono (by omega))⟩
  · rw [cell_of_row _ _ _ _ T (0, 0) (heap_alloc_at _ _)]; rfl
  · rw [cell_of_row _ _ _ _ T (0, 0) (heap_alloc_at _ _)]; rfl

theorem pair_next {B : Nat} {w1 w2 : World} {o x : Int} (c0 : w1.cell? ⟨B, 0, none⟩ = some (.int .i64 o)) (c1 : w1.cell? ⟨B, 1, none⟩ = some (.int .i64 x)) (hlt : B < w1.heap.size) (hb : Below w1.heap.size w1 w2) :
    w2.cell? ⟨B, 0, none⟩ = some (.int .i64 o) ∧ w2.cell? ⟨B, 1, none⟩ = some (.int .i64 x) ∧ B < w2.heap.size :=
  ⟨((bcell hb).1 _ _ hlt).trans c0, ((bcell hb).1 _ _ hlt).trans c1, Nat.lt_of_lt_of_le hlt hb.size⟩

theorem right_one (x nv na : Int) : right (1, x) nv na = isVal x := by unfold right; rw [if_pos rfl]
theorem right_two (x nv na : Int) : right (2, x) nv na = decide (0 ≤ x ∧ x < nv) := by unfold right; rw [if_neg (show ¬ (2 : Int) = 1 by decide), if_pos rfl]
theorem right_three (x nv na : Int) : right (3, x) nv na = decide (0 ≤ x ∧ x < na) := by unfold right; rw [if_neg (show ¬ (3 : Int) = 1 by decide), if_neg (show ¬ (3 : Int) = 2 by decide), if_pos rfl]
theorem right_other (o x nv na : Int) (h1 : o ≠ 1) (h2 : o ≠ 2) (h3 : o ≠ 3) : right (o, x) nv na = decide (x = 0) := by unfold right; rw [if_neg h1, if_neg h2, if_neg h3]

end Go.Proofs.YtfcdkjhabdpijaaDoor.E
