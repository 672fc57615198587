/-
  Contract of the reference of layer 3: Times (a product in two halves).
-/
import Derived.Test.YtaiogcmbpalbpaaEVal
namespace Go.Proofs.Ytaiogcmbpalbpaa.E
open Go Go.RowKit Go.Proofs.Ytaiogcmbpalbpaa.B Go.Proofs.Ytaiogcmbpalbpaa.K
set_option linter.unusedVariables false

theorem abs_mul (a b : Int) (A B : Nat) (ha : a.natAbs ≤ A) (hb : b.natAbs ≤ B) : (a * b).natAbs ≤ A * B := by
  rw [Int.natAbs_mul]; exact Nat.mul_le_mul ha hb

theorem halves_of (b : Int) : ∃ q r : Int, b.tdiv 1048576 = q ∧ b.tmod 1048576 = r ∧ q * 1048576 + r = b ∧ r.natAbs < 1048576 ∧ (0 < q → 0 ≤ r) ∧ (q < 0 → r ≤ 0) := by
  have h := Int.mul_tdiv_add_tmod b 1048576
  have h1 : (b.tmod 1048576).natAbs < 1048576 := by
    rw [Int.natAbs_tmod]; exact Nat.mod_lt _ (by decide)
  refine ⟨_, _, rfl, rfl, by omega, h1, fun hq => ?_, fun hq => ?_⟩
  · rcases Int.le_total 0 b with hb | hb
    · exact Int.tmod_nonneg _ hb
    · have h2 : 0 ≤ (-b).tmod 1048576 := Int.tmod_nonneg _ (by omega)
      rw [Int.neg_tmod] at h2
      omega
  · rcases Int.le_total 0 b with hb | hb
    · have h2 : 0 ≤ b.tmod 1048576 := Int.tmod_nonneg _ hb
      omega
    · have h2 : 0 ≤ (-b).tmod 1048576 := Int.tmod_nonneg _ (by omega)
      rw [Int.neg_tmod] at h2
      omega

/-- Of the same sign. -/
theorem same_sign (a q r : Int) (h1 : 0 < q → 0 ≤ r) (h2 : q < 0 → r ≤ 0) : (0 < a * q → 0 ≤ a * r) ∧ (a * q < 0 → a * r ≤ 0) := by
  rcases Int.lt_trichotomy q 0 with hq | hq | hq
  · have hr := h2 hq
    rcases Int.lt_trichotomy a 0 with ha | ha | ha
    · have e1 : 0 ≤ (-a) * (-r) := Int.mul_nonneg (by omega) (by omega)
      have e2 : 0 < (-a) * (-q) := Int.mul_pos (by omega) (by omega)
      rw [Int.neg_mul_neg] at e1 e2
      exact ⟨fun _ => e1, fun h => by omega⟩
    · subst ha; simp
    · have e1 : 0 ≤ a * (-r) := Int.mul_nonneg (by omega) (by omega)
      have e2 : 0 < a * (-q) := Int.mul_pos (by omega) (by omega)
      rw [Int.mul_neg] at e1 e2
      exact ⟨fun h => by omega, fun _ => by omega⟩
  · subst hq; simp
  · have hr := h1 hq
    rcases Int.lt_trichotomy a 0 with ha | ha | ha
    · have e1 : 0 ≤ (-a) * r := Int.mul_nonneg (by omega) (by omega)
      have e2 : 0 < (-a) * q := Int.mul_pos (by omega) (by omega)
      rw [Int.neg_mul] at e1 e2
      exact ⟨fun h => by omega, fun _ => by omega⟩
    · subst ha; simp
    · have e1 : 0 ≤ a * r := Int.mul_nonneg (by omega) (by omega)
      have e2 : 0 < a * q := Int.mul_pos (by omega) (by omega)
      exact ⟨fun _ => e1, fun h => by omega⟩

/-- A product in two halves. -/
theorem halves (a b : Int) (ha : -1099511627776 ≤ a ∧ a ≤ 1099511627776) (hb : -1099511627776 ≤ b ∧ b ≤ 1099511627776) :
    ∃ q r H L : Int, b.tdiv 1048576 = q ∧ wrap64 q = q ∧ b.tmod 1048576 = r ∧ a * q = H ∧ a * r = L ∧ -1152921504606846976 ≤ H ∧ H ≤ 1152921504606846976 ∧ -1152921504606846976 ≤ L ∧ L ≤ 1152921504606846976 ∧ H * 1048576 + L = a * b ∧
      (2097152 < H → isVal (a * b) = false) ∧ (H < -2097152 → isVal (a * b) = false) := by
  obtain ⟨q, r, hq, hr, he, h1, h2, h3⟩ := halves_of b
  have hs := same_sign a q r h2 h3
  have hqa : q.natAbs ≤ 1048576 := by omega
  have H1 := abs_mul a q 1099511627776 1048576 (by omega) hqa
  have L1 := abs_mul a r 1099511627776 1048576 (by omega) (by omega)
  have hp : (a * q) * 1048576 + a * r = a * b := by rw [← he, Int.mul_add, Int.mul_assoc]
  refine ⟨q, r, a * q, a * r, hq, IntWalk.wrap64_in _ (by omega), hr, rfl, rfl, by omega, by omega, by omega, by omega, hp, fun h => ?_, fun h => ?_⟩
  · rw [isVal_not]; have := hs.1 (by omega); omega
  · rw [isVal_not]; have := hs.2 (by omega); omega

set_option maxHeartbeats 400000 in
theorem refTimes_any (a b : Int) (w : World) (ha : -1099511627776 ≤ a ∧ a ≤ 1099511627776) (hb : -1099511627776 ≤ b ∧ b ≤ 1099511627776) :
    Calls Try.prog 36 #[.int .i64 a, .int .i64 b] w fun e w' => (∃ x, e = .returned (.tuple #[.int .i64 x, .bool (isVal (a * b))]) ∧ (isVal (a * b) = true → x = a * b)) ∧ w = w' := by
  obtain ⟨q, r, H, L, hq, wQ, hr, hH, hL, b1, b2, b3, b4, hp, o1, o2⟩ := halves a b ha hb
  have wH : IntKind.i64.wrap (a * q) = H := by rw [hH]; exact IntWalk.i64_in _ (by omega)
  have wL : IntKind.i64.wrap (a * r) = L := by rw [hL]; exact IntWalk.i64_in _ (by omega)
  by_cases g1 : 2097152 < H
  · have hv := o1 g1
    rw [hv]
    clear hH hL hp o1 o2 hv b1 b2 b3 b4
    go_enter Try.func36, Try.ntmps36
    go_wp2_with fail
    go_ret2
    first | exact ⟨⟨_, rfl, fun h => by cases h⟩, rfl⟩ | exact ⟨⟨_, rfl⟩, rfl⟩
  by_cases g2 : H < -2097152
  · have hv := o2 g2
    rw [hv]
    clear hH hL hp o1 o2 hv b1 b2 b3 b4
    go_enter Try.func36, Try.ntmps36
    go_wp2_with fail
    go_ret2
    first | exact ⟨⟨_, rfl, fun h => by cases h⟩, rfl⟩ | exact ⟨⟨_, rfl⟩, rfl⟩
  have wP : IntKind.i64.wrap (H * 1048576) = H * 1048576 := IntWalk.i64_in _ (by omega)
  have wS : IntKind.i64.wrap (H * 1048576 + L) = a * b := by rw [← hp]; exact IntWalk.i64_in _ (by omega)
  clear hH hL hp o1 o2 b1 b2 b3 b4
  go_enter Try.func36, Try.ntmps36
  go_wp2_with (go_at_call 20; refine (refValue_any _ _).mono ?_; rintro _ w1 ⟨rfl, rfl⟩)
  go_ret2
  exact ⟨⟨_, rfl, fun _ => rfl⟩, rfl⟩
end Go.Proofs.Ytaiogcmbpalbpaa.E
