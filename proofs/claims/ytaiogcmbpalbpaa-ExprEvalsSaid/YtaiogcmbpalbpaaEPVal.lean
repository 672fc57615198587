/-
  Contracts of the program of layer 3: takes, isValue, truth, choice, size.
-/
import Derived.Test.YtaiogcmbpalbpaaEVal
import Derived.Test.YtaiogcmbpalbpaaEDepth
namespace Go.Proofs.Ytaiogcmbpalbpaa.E
open Go Go.RowKit Go.Proofs.Ytaiogcmbpalbpaa.B Go.Proofs.Ytaiogcmbpalbpaa.K
set_option linter.unusedVariables false

/-- Whether there is such an instruction, and how many numbers it takes. -/
def kn (o : Int) : Bool := decide (0 ≤ takes o)
def tk (o : Int) : Int := if 0 ≤ takes o then takes o else 0

theorem ops_all (o : Int) : (o = 1 ∨ o = 2 ∨ o = 3) ∨ (o = 4 ∨ o = 5) ∨ (o = 6 ∨ o = 7 ∨ o = 8 ∨ o = 9 ∨ o = 10 ∨ o = 11 ∨ o = 12 ∨ o = 13 ∨ o = 14 ∨ o = 15) ∨ o = 16 ∨ (o < 1 ∨ 16 < o) := by omega

set_option maxHeartbeats 400000 in
theorem takes_none (o : Int) (w : World) (h : o < 1 ∨ 16 < o) : Calls Try.prog 21 #[.int .i64 o] w fun e w' => e = .returned (.tuple #[.int .i64 0, .bool false]) ∧ w = w' := by
  have b1 : (o == 1) = false := by simp; omega
  have b2 : (o == 2) = false := by simp; omega
  have b3 : (o == 3) = false := by simp; omega
  have b4 : (o == 4) = false := by simp; omega
  have b5 : (o == 5) = false := by simp; omega
  have b6 : (o == 6) = false := by simp; omega
  have b7 : (o == 7) = false := by simp; omega
  have b8 : (o == 8) = false := by simp; omega
  have b9 : (o == 9) = false := by simp; omega
  have b10 : (o == 10) = false := by simp; omega
  have b11 : (o == 11) = false := by simp; omega
  have b12 : (o == 12) = false := by simp; omega
  have b13 : (o == 13) = false := by simp; omega
  have b14 : (o == 14) = false := by simp; omega
  have b15 : (o == 15) = false := by simp; omega
  have b16 : (o == 16) = false := by simp; omega
  clear h
  go_enter Try.func21, Try.ntmps21
  go_wp2_with fail
  go_ret2
  exact ⟨rfl, rfl⟩

set_option maxHeartbeats 1600000 in
theorem takes_any (o : Int) (w : World) : Calls Try.prog 21 #[.int .i64 o] w fun e w' => e = .returned (.tuple #[.int .i64 (tk o), .bool (kn o)]) ∧ w = w' := by
  rcases ops_all o with (rfl | rfl | rfl) | (rfl | rfl) | (rfl | rfl | rfl | rfl | rfl | rfl | rfl | rfl | rfl | rfl) | rfl | h
  all_goals first
    | (have ht : takes o = -1 := by (unfold takes; rw [if_pos h])
       have h1 : tk o = 0 := by (unfold tk; rw [ht]; rfl)
       have h2 : kn o = false := by (unfold kn; rw [ht]; rfl)
       rw [h1, h2]
       exact takes_none o w h)
    | (go_enter Try.func21, Try.ntmps21
       go_wp2_with fail
       go_ret2
       exact ⟨rfl, rfl⟩)

set_option maxHeartbeats 400000 in
theorem isValue_any (n : Int) (w : World) : Calls Try.prog 31 #[.int .i64 n] w fun e w' => e = .returned (.bool (isVal n)) ∧ w = w' := by
  by_cases h1 : -1099511627776 ≤ n
  · by_cases h2 : n ≤ 1099511627776
    · have hv : isVal n = true := (isVal_iff n).2 ⟨h1, h2⟩
      rw [hv]; clear hv
      go_enter Try.func31, Try.ntmps31
      go_wp2_with fail
      go_ret
      exact ⟨rfl, rfl⟩
    · have hv : isVal n = false := (isVal_not n).2 (by omega)
      have b2 : decide (n ≤ 1099511627776) = false := decide_eq_false h2
      rw [hv]; clear hv h2
      go_enter Try.func31, Try.ntmps31
      go_wp2_with fail
      go_ret
      exact ⟨rfl, rfl⟩
  · have hv : isVal n = false := (isVal_not n).2 (by omega)
    have b1 : decide (-1099511627776 ≤ n) = false := decide_eq_false h1
    rw [hv]; clear hv h1
    go_enter Try.func31, Try.ntmps31
    go_wp2_with fail
    go_ret
    exact ⟨rfl, rfl⟩

set_option maxHeartbeats 400000 in
theorem truth_any (b : Bool) (w : World) : Calls Try.prog 32 #[.bool b] w fun e w' => e = .returned (.int .i64 (one b)) ∧ w = w' := by
  cases b
  · show Calls Try.prog 32 #[.bool false] w fun e w' => e = .returned (.int .i64 0) ∧ w = w'
    go_enter Try.func32, Try.ntmps32
    go_wp2_with fail
    go_ret
    exact ⟨rfl, rfl⟩
  · show Calls Try.prog 32 #[.bool true] w fun e w' => e = .returned (.int .i64 1) ∧ w = w'
    go_enter Try.func32, Try.ntmps32
    go_wp2_with fail
    go_ret
    exact ⟨rfl, rfl⟩

/-- The third form of a choice. -/
def pickOf (a b c : Int) : Int := if a ≠ 0 then b else c

set_option maxHeartbeats 400000 in
theorem choice_any (a b c : Int) (w : World) : Calls Try.prog 33 #[.int .i64 a, .int .i64 b, .int .i64 c] w fun e w' => e = .returned (.int .i64 (pickOf a b c)) ∧ w = w' := by
  by_cases h : a = 0
  · have hv : pickOf a b c = c := by unfold pickOf; rw [if_neg (by omega)]
    have b0 : (a != 0) = false := by simp [h]
    rw [hv]; clear hv h
    go_enter Try.func33, Try.ntmps33
    go_wp2_with fail
    go_ret
    exact ⟨rfl, rfl⟩
  · have hv : pickOf a b c = b := by unfold pickOf; rw [if_pos h]
    have b0 : (a != 0) = true := by simp [h]
    rw [hv]; clear hv h
    go_enter Try.func33, Try.ntmps33
    go_wp2_with fail
    go_ret
    exact ⟨rfl, rfl⟩

set_option maxHeartbeats 400000 in
theorem size_any (n : Int) (w : World) (h : -1099511627776 ≤ n ∧ n ≤ 1099511627776) : Calls Try.prog 47 #[.int .i64 n] w fun e w' => e = .returned (.int .i64 ((n.natAbs : Nat) : Int)) ∧ w' = w := by
  have hneg : IntKind.i64.wrap (-n) = -n := IntWalk.i64_in _ (by omega)
  have hneg2 : wrap64 (-n) = -n := IntWalk.wrap64_in _ (by omega)
  clear h
  go_enter Try.func47, Try.ntmps47
  go_wp2_with fail
  all_goals
    go_ret
    exact ⟨ret_int (by omega), rfl⟩
end Go.Proofs.Ytaiogcmbpalbpaa.E
