/-
  Contracts of the program of layer 3: takes, isValue.
-/
import Derived.Test.YtfcdkjhabdpijaaDoorEAux
namespace Go.Proofs.YtfcdkjhabdpijaaDoor.E
open Go Go.RowKit Go.Proofs.YtfcdkjhabdpijaaDoor.B Go.Proofs.YtfcdkjhabdpijaaDoor.K
set_option linter.unusedVariables false

/-- Whether there is such an instruction, and how many numbers it takes. -/
def kn (o : Int) : Bool := decide (0 ≤ takes o)
def tk (o : Int) : Int := if 0 ≤ takes o then takes o else 0

theorem ops_all (o : Int) : (o = 1 ∨ o = 2 ∨ o = 3) ∨ (o = 4 ∨ o = 5) ∨ (o = 6 ∨ o = 7 ∨ o = 8 ∨ o = 9 ∨ o = 10 ∨ o = 11 ∨ o = 12 ∨ o = 13 ∨ o = 14 ∨ o = 15) ∨ o = 16 ∨ (o < 1 ∨ 16 < o) := by omega

set_option maxHeartbeats 400000 in
theorem takes_none (o : Int) (w : World) (h : o < 1 ∨ 16 < o) : Calls Tryd.prog 87 #[.int .i64 o] w fun e w' => e = .returned (.tuple #[.int .i64 0, .bool false]) ∧ w = w' := by
  have b1 : (o == 1) = false := by simp; omega
  have b2 : (o == 2) = false := by simp; omega
  have b3 : (o == 3) = false := by simp; omega
  have b4 : (o == 4) = false := by simp; omega
  have b5 : (o == 5) = false := by simp; omega
  have b6 : (o == 6) = false := by simp; omega
  have b7 : (o == 7) = false := by simp; omega
  have b8 : (o == 8) = false := by simp; omega
  have b9 : (o == 9) = false := by simp; omega
  have b10 : (o == 10) = false := by simp; omega
  have b11 : (o == 11) = false := by simp; omega
  have b12 : (o == 12) = false := by simp; omega
  have b13 : (o == 13) = false := by simp; omega
  have b14 : (o == 14) = false := by simp; omega
  have b15 : (o == 15) = false := by simp; omega
  have b16 : (o == 16) = false := by simp; omega
  clear h
  go_enter Tryd.func87, Tryd.ntmps87
  go_wp2_with fail
  go_ret2
  exact ⟨rfl, rfl⟩

set_option maxHeartbeats 1600000 in
theorem takes_any (o : Int) (w : World) : Calls Tryd.prog 87 #[.int .i64 o] w fun e w' => e = .returned (.tuple #[.int .i64 (tk o), .bool (kn o)]) ∧ w = w' := by
  rcases ops_all o with (rfl | rfl | rfl) | (rfl | rfl) | (rfl | rfl | rfl | rfl | rfl | rfl | rfl | rfl | rfl | rfl) | rfl | h
  all_goals first
    | (have ht : takes o = -1 := by (unfold takes; rw [if_pos h])
       have h1 : tk o = 0 := by (unfold tk; rw [ht]; rfl)
       have h2 : kn o = false := by (unfold kn; rw [ht]; rfl)
       rw [h1, h2]
       exact takes_none o w h)
    | (go_enter Tryd.func87, Tryd.ntmps87
       go_wp2_with fail
       go_ret2
       exact ⟨rfl, rfl⟩)

set_option maxHeartbeats 400000 in
theorem isValue_any (n : Int) (w : World) : Calls Tryd.prog 92 #[.int .i64 n] w fun e w' => e = .returned (.bool (isVal n)) ∧ w = w' := by
  by_cases h1 : -1099511627776 ≤ n
  · by_cases h2 : n ≤ 1099511627776
    · have hv : isVal n = true := (isVal_iff n).2 ⟨h1, h2⟩
      rw [hv]; clear hv
      go_enter Tryd.func92, Tryd.ntmps92
      go_wp2_with fail
      go_ret
      exact ⟨rfl, rfl⟩
    · have hv : isVal n = false := (isVal_not n).2 (by omega)
      have b2 : decide (n ≤ 1099511627776) = false := decide_eq_false h2
      rw [hv]; clear hv h2
      go_enter Tryd.func92, Tryd.ntmps92
      go_wp2_with fail
      go_ret
      exact ⟨rfl, rfl⟩
  · have hv : isVal n = false := (isVal_not n).2 (by omega)
    have b1 : decide (-1099511627776 ≤ n) = false := decide_eq_false h1
    rw [hv]; clear hv h1
    go_enter Tryd.func92, Tryd.ntmps92
    go_wp2_with fail
    go_ret
    exact ⟨rfl, rfl⟩

end Go.Proofs.YtfcdkjhabdpijaaDoor.E
