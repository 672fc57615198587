/-
  Contracts of the reference of layer 3: Takes, Value, one, Times.
-/
import Derived.Test.YtfcdkjhabdpijaaDoorKBase
import Derived.Test.YtfcdkjhabdpijaaDoorEAux
import Derived.Deep.QuietTactic
import Derived.BigQuiet
namespace Go.Proofs.YtfcdkjhabdpijaaDoor.E
open Go Go.RowKit Go.Proofs.YtfcdkjhabdpijaaDoor.B Go.Proofs.YtfcdkjhabdpijaaDoor.K
set_option linter.unusedVariables false

theorem takes_table (k : Nat) (h1 : 1 ≤ k) (h2 : k ≤ 16) :
    (#[Value.int .i64 (-1), .int .i64 0, .int .i64 0, .int .i64 0, .int .i64 1, .int .i64 1, .int .i64 2, .int .i64 2, .int .i64 2, .int .i64 2, .int .i64 2, .int .i64 2, .int .i64 2, .int .i64 2, .int .i64 2, .int .i64 2, .int .i64 3] : Array Value)[k]? = some (.int .i64 (takes (k : Int))) := by
  rcases (show k = 1 ∨ k = 2 ∨ k = 3 ∨ k = 4 ∨ k = 5 ∨ k = 6 ∨ k = 7 ∨ k = 8 ∨ k = 9 ∨ k = 10 ∨ k = 11 ∨ k = 12 ∨ k = 13 ∨ k = 14 ∨ k = 15 ∨ k = 16 by omega) with
    rfl | rfl | rfl | rfl | rfl | rfl | rfl | rfl | rfl | rfl | rfl | rfl | rfl | rfl | rfl | rfl <;> rfl

set_option maxHeartbeats 400000 in
theorem refTakes_any (o : Int) (w : World) :
    Calls Tryd.prog 89 #[.int .i64 o] w fun e w' => e = .returned (.int .i64 (takes o)) ∧ Below w.heap.size w w' := by
  by_cases hin : 1 ≤ o ∧ o ≤ 16
  · obtain ⟨k, rfl⟩ := Int.eq_ofNat_of_zero_le (show 0 ≤ o by omega)
    have ht := takes_table k (by omega) (by omega)
    have hc : (w.alloc (.cells #[Value.int .i64 (-1), .int .i64 0, .int .i64 0, .int .i64 0, .int .i64 1, .int .i64 1, .int .i64 2, .int .i64 2, .int .i64 2, .int .i64 2, .int .i64 2, .int .i64 2, .int .i64 2, .int .i64 2, .int .i64 2, .int .i64 2, .int .i64 3] 3)).cell? ⟨w.heap.size, k, none⟩ = some (.int .i64 (takes (k : Int))) := by
      rw [cell_of_row _ _ _ _ 3 (0, 0) (heap_alloc_at _ _)]; exact ht
    obtain ⟨T, hT⟩ : ∃ T, takes (k : Int) = T := ⟨_, rfl⟩
    rw [hT] at hc ⊢
    have h1 : ¬ (k : Int) < 1 := by omega
    have h2 : ¬ 16 < (k : Int) := by omega
    have h3 : (k : Int) < 17 := by omega
    clear ht hT hin
    go_enter Tryd.func89, Tryd.ntmps89
    go_wp2_with fail
    go_ret
    exact ⟨rfl, (Below.refl _ _).alloc (Nat.le_refl _) _⟩
  · have ht : takes o = -1 := by unfold takes; rw [if_pos (by omega)]
    rw [ht]
    by_cases h1 : o < 1
    · clear ht hin
      go_enter Tryd.func89, Tryd.ntmps89
      go_wp2_with fail
      go_ret
      exact ⟨rfl, (Below.refl _ _).alloc (Nat.le_refl _) _⟩
    · have h2 : 16 < o := by omega
      clear ht hin
      go_enter Tryd.func89, Tryd.ntmps89
      go_wp2_with fail
      go_ret
      exact ⟨rfl, (Below.refl _ _).alloc (Nat.le_refl _) _⟩

set_option maxHeartbeats 400000 in
theorem refValue_any (n : Int) (w : World) : Calls Tryd.prog 32 #[.int .i64 n] w fun e w' => e = .returned (.bool (isVal n)) ∧ w = w' := by
  by_cases h1 : -1099511627776 ≤ n
  · by_cases h2 : n ≤ 1099511627776
    · have hv : isVal n = true := (isVal_iff n).2 ⟨h1, h2⟩
      rw [hv]; clear hv
      go_enter Tryd.func32, Tryd.ntmps32
      go_wp2_with fail
      go_ret
      exact ⟨rfl, rfl⟩
    · have hv : isVal n = false := (isVal_not n).2 (by omega)
      rw [hv]; clear hv
      go_enter Tryd.func32, Tryd.ntmps32
      go_wp2_with fail
      go_ret
      exact ⟨rfl, rfl⟩
  · have hv : isVal n = false := (isVal_not n).2 (by omega)
    rw [hv]; clear hv
    go_enter Tryd.func32, Tryd.ntmps32
    go_wp2_with fail
    go_ret
    exact ⟨rfl, rfl⟩

end Go.Proofs.YtfcdkjhabdpijaaDoor.E
