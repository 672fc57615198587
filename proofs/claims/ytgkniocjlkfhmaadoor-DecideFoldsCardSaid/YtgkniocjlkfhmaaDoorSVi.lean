/-
  Contracts of the program of layer 3: truth, choice, size.
  Contracts of the program of layer 3: what is done to two numbers, and which method is told.
-/
import Derived.Test.YtgkniocjlkfhmaaDoorSVg
import Derived.Test.YtgkniocjlkfhmaaDoorSVe
import Derived.Deep.QuietTactic
import Derived.BigQuiet
namespace Go.Proofs.YtgkniocjlkfhmaaDoor.E
open Go Go.RowKit Go.Proofs.YtgkniocjlkfhmaaDoor.B Go.Proofs.YtgkniocjlkfhmaaDoor.K
set_option linter.unusedVariables false

set_option maxHeartbeats 400000 in
theorem truth_any (b : Bool) (w : World) : Calls Tryd.prog 57 #[.bool b] w fun e w' => e = .returned (.int .i64 (one b)) ∧ w = w' := by
  cases b
  · show Calls Tryd.prog 57 #[.bool false] w fun e w' => e = .returned (.int .i64 0) ∧ w = w'
    go_enter Tryd.func57, Tryd.ntmps57
    go_wp2_with fail
    go_ret
    exact ⟨rfl, rfl⟩
  · show Calls Tryd.prog 57 #[.bool true] w fun e w' => e = .returned (.int .i64 1) ∧ w = w'
    go_enter Tryd.func57, Tryd.ntmps57
    go_wp2_with fail
    go_ret
    exact ⟨rfl, rfl⟩

/-- The third form of a choice. -/
def pickOf (a b c : Int) : Int := if a ≠ 0 then b else c

set_option maxHeartbeats 400000 in
theorem choice_any (a b c : Int) (w : World) : Calls Tryd.prog 58 #[.int .i64 a, .int .i64 b, .int .i64 c] w fun e w' => e = .returned (.int .i64 (pickOf a b c)) ∧ w = w' := by
  by_cases h : a = 0
  · have hv : pickOf a b c = c := by unfold pickOf; rw [if_neg (by omega)]
    have b0 : (a != 0) = false := by simp [h]
    rw [hv]; clear hv h
    go_enter Tryd.func58, Tryd.ntmps58
    go_wp2_with fail
    go_ret
    exact ⟨rfl, rfl⟩
  · have hv : pickOf a b c = b := by unfold pickOf; rw [if_pos h]
    have b0 : (a != 0) = true := by simp [h]
    rw [hv]; clear hv h
    go_enter Tryd.func58, Tryd.ntmps58
    go_wp2_with fail
    go_ret
    exact ⟨rfl, rfl⟩

set_option maxHeartbeats 400000 in
theorem size_any (n : Int) (w : World) (h : -1099511627776 ≤ n ∧ n ≤ 1099511627776) : Calls Tryd.prog 88 #[.int .i64 n] w fun e w' => e = .returned (.int .i64 ((n.natAbs : Nat) : Int)) ∧ w' = w := by
  have hneg : IntKind.i64.wrap (-n) = -n := IntWalk.i64_in _ (by omega)
  have hneg2 : wrap64 (-n) = -n := IntWalk.wrap64_in _ (by omega)
  clear h
  go_enter Tryd.func88, Tryd.ntmps88
  go_wp2_with fail
  all_goals
    go_ret
    exact ⟨ret_int (by omega), rfl⟩
end Go.Proofs.YtgkniocjlkfhmaaDoor.E

namespace Go.Proofs.YtgkniocjlkfhmaaDoor.E
open Go Go.RowKit Go.Proofs.YtgkniocjlkfhmaaDoor.B Go.Proofs.YtgkniocjlkfhmaaDoor.K
set_option linter.unusedVariables false

/-- An ending with a number that stands for what an instruction comes to. -/
def NumIs (m : Option Int) (e : Ending) : Prop := ∃ n, e = .returned (.int .i64 n) ∧ gv n = m

theorem gv_is (n : Int) (h : isVal n = true) : gv n = some n := by unfold gv; rw [if_pos h]
theorem gv_not (n : Int) (h : isVal n = false) : gv n = none := by unfold gv; rw [if_neg (by rw [h]; decide)]
theorem one_val (b : Bool) : isVal (one b) = true := by cases b <;> rfl

theorem ret_num {m : Option Int} {n : Int} {w w' : World} (h : gv n = m) (hb : Below w.heap.size w w') : NumIs m (.returned (.int .i64 n)) ∧ Below w.heap.size w w' := ⟨⟨n, rfl, h⟩, hb⟩

theorem num_one (p : Prop) [Decidable p] (b : Bool) (h : decide p = b) : gv (one b) = some (one (decide p)) := by rw [h]; exact gv_is _ (one_val b)

theorem gv_if (p : Prop) [Decidable p] (a b n : Int) (hv : isVal n = true) (h : (p ∧ n = a) ∨ (¬ p ∧ n = b)) : gv n = some (if p then a else b) := by
  rw [gv_is n hv]
  rcases h with ⟨h, rfl⟩ | ⟨h, rfl⟩
  · rw [if_pos h]
  · rw [if_neg h]

theorem box2 (w w' : World) (o : Obj) (h : Below (w.alloc o).heap.size (w.alloc o) w') : Below w.heap.size w w' := ((Below.refl _ _).alloc (Nat.le_refl _) _).trans (h.mono (by simp))

set_option maxHeartbeats 400000 in
set_option maxRecDepth 100000 in
theorem sum_any (a b : Int) (w : World) (ha : isVal a = true) (hb : isVal b = true) :
    Calls Tryd.prog 71 #[.agg #[.int .i64 a, .int .i64 b]] w fun e w' => NumIs (made 6 a b 0) e ∧ Below w.heap.size w w' := by
  have ha' := (isVal_iff a).1 ha
  have hb' := (isVal_iff b).1 hb
  have hadd : IntKind.i64.wrap (a + b) = a + b := IntWalk.i64_in _ (by omega)
  have hm : made 6 a b 0 = gv (a + b) := rfl
  have HM := Lib.hid hm
  clear ha hb hm ha' hb'
  go_enter Tryd.func71, Tryd.ntmps71
  go_wp2_with fail
  go_ret
  exact ret_num HM.out.symm ((Below.refl _ _).alloc (Nat.le_refl _) _)

set_option maxHeartbeats 400000 in
set_option maxRecDepth 100000 in
theorem difference_any (a b : Int) (w : World) (ha : isVal a = true) (hb : isVal b = true) :
    Calls Tryd.prog 72 #[.agg #[.int .i64 a, .int .i64 b]] w fun e w' => NumIs (made 7 a b 0) e ∧ Below w.heap.size w w' := by
  have ha' := (isVal_iff a).1 ha
  have hb' := (isVal_iff b).1 hb
  have hsub : IntKind.i64.wrap (a - b) = a - b := IntWalk.i64_in _ (by omega)
  have hm : made 7 a b 0 = gv (a - b) := rfl
  have HM := Lib.hid hm
  clear ha hb hm ha' hb'
  go_enter Tryd.func72, Tryd.ntmps72
  go_wp2_with fail
  go_ret
  exact ret_num HM.out.symm ((Below.refl _ _).alloc (Nat.le_refl _) _)

set_option maxHeartbeats 400000 in
set_option maxRecDepth 100000 in
theorem least_any (a b : Int) (w : World) (ha : isVal a = true) (hb : isVal b = true) :
    Calls Tryd.prog 74 #[.agg #[.int .i64 a, .int .i64 b]] w fun e w' => NumIs (made 9 a b 0) e ∧ Below w.heap.size w w' := by
  have hm : made 9 a b 0 = some (if a ≤ b then a else b) := rfl
  have HM := Lib.hid hm
  have HA := Lib.hid ha
  have HB := Lib.hid hb
  clear hm ha hb
  go_enter Tryd.func74, Tryd.ntmps74
  go_wp2_with fail
  all_goals
    go_ret
    refine ret_num ((gv_if _ _ _ _ ?_ ?_).trans HM.out.symm) ((Below.refl _ _).alloc (Nat.le_refl _) _)
    · first | exact HA.out | exact HB.out | (rw [Int.min_def]; split <;> first | exact HA.out | exact HB.out) | (rw [Int.max_def]; split <;> first | exact HA.out | exact HB.out)
    · first | omega | (rw [Int.min_def]; split <;> omega) | (rw [Int.max_def]; split <;> omega)

set_option maxHeartbeats 400000 in
set_option maxRecDepth 100000 in
theorem greatest_any (a b : Int) (w : World) (ha : isVal a = true) (hb : isVal b = true) :
    Calls Tryd.prog 75 #[.agg #[.int .i64 a, .int .i64 b]] w fun e w' => NumIs (made 10 a b 0) e ∧ Below w.heap.size w w' := by
  have hm : made 10 a b 0 = some (if a ≤ b then b else a) := rfl
  have HM := Lib.hid hm
  have HA := Lib.hid ha
  have HB := Lib.hid hb
  clear hm ha hb
  go_enter Tryd.func75, Tryd.ntmps75
  go_wp2_with fail
  all_goals
    go_ret
    refine ret_num ((gv_if _ _ _ _ ?_ ?_).trans HM.out.symm) ((Below.refl _ _).alloc (Nat.le_refl _) _)
    · first | exact HA.out | exact HB.out | (rw [Int.min_def]; split <;> first | exact HA.out | exact HB.out) | (rw [Int.max_def]; split <;> first | exact HA.out | exact HB.out)
    · first | omega | (rw [Int.min_def]; split <;> omega) | (rw [Int.max_def]; split <;> omega)

set_option maxHeartbeats 400000 in
set_option maxRecDepth 100000 in
theorem less_any (a b : Int) (w : World) (ha : isVal a = true) (hb : isVal b = true) :
    Calls Tryd.prog 76 #[.agg #[.int .i64 a, .int .i64 b]] w fun e w' => NumIs (made 11 a b 0) e ∧ Below w.heap.size w w' := by
  have hm : made 11 a b 0 = some (one (decide (a < b))) := rfl
  have HM := Lib.hid hm
  clear ha hb hm
  go_enter Tryd.func76, Tryd.ntmps76
  go_wp2_with (go_at_call 57; refine (truth_any _ _).mono ?_; rintro _ w1 ⟨rfl, rfl⟩)
  go_ret
  exact ret_num ((num_one (a < b) _ (by first | rfl | (rw [Bool.eq_iff_iff]; simp))).trans HM.out.symm) ((Below.refl _ _).alloc (Nat.le_refl _) _)

set_option maxHeartbeats 400000 in
set_option maxRecDepth 100000 in
theorem most_any (a b : Int) (w : World) (ha : isVal a = true) (hb : isVal b = true) :
    Calls Tryd.prog 77 #[.agg #[.int .i64 a, .int .i64 b]] w fun e w' => NumIs (made 12 a b 0) e ∧ Below w.heap.size w w' := by
  have hm : made 12 a b 0 = some (one (decide (a ≤ b))) := rfl
  have HM := Lib.hid hm
  clear ha hb hm
  go_enter Tryd.func77, Tryd.ntmps77
  go_wp2_with (go_at_call 57; refine (truth_any _ _).mono ?_; rintro _ w1 ⟨rfl, rfl⟩)
  go_ret
  exact ret_num ((num_one (a ≤ b) _ (by first | rfl | (rw [Bool.eq_iff_iff]; simp))).trans HM.out.symm) ((Below.refl _ _).alloc (Nat.le_refl _) _)

set_option maxHeartbeats 400000 in
set_option maxRecDepth 100000 in
theorem same_any (a b : Int) (w : World) (ha : isVal a = true) (hb : isVal b = true) :
    Calls Tryd.prog 78 #[.agg #[.int .i64 a, .int .i64 b]] w fun e w' => NumIs (made 13 a b 0) e ∧ Below w.heap.size w w' := by
  have hm : made 13 a b 0 = some (one (decide (a = b))) := rfl
  have HM := Lib.hid hm
  clear ha hb hm
  go_enter Tryd.func78, Tryd.ntmps78
  go_wp2_with (go_at_call 57; refine (truth_any _ _).mono ?_; rintro _ w1 ⟨rfl, rfl⟩)
  go_ret
  exact ret_num ((num_one (a = b) _ (by first | rfl | (rw [Bool.eq_iff_iff]; simp))).trans HM.out.symm) ((Below.refl _ _).alloc (Nat.le_refl _) _)

set_option maxHeartbeats 400000 in
set_option maxRecDepth 100000 in
theorem both_any (a b : Int) (w : World) (ha : isVal a = true) (hb : isVal b = true) :
    Calls Tryd.prog 79 #[.agg #[.int .i64 a, .int .i64 b]] w fun e w' => NumIs (made 14 a b 0) e ∧ Below w.heap.size w w' := by
  have hm : made 14 a b 0 = some (one (decide (a ≠ 0 ∧ b ≠ 0))) := rfl
  have HM := Lib.hid hm
  clear ha hb hm
  by_cases za : a = 0
  all_goals by_cases zb : b = 0
  all_goals
    have na : (a != 0) = !decide (a = 0) := by (rw [Bool.eq_iff_iff]; simp)
    have nb : (b != 0) = !decide (b = 0) := by (rw [Bool.eq_iff_iff]; simp)
    simp only [za, zb, decide_true, decide_false, Bool.not_true, Bool.not_false] at na nb
    have HZA := Lib.hid za
    have HZB := Lib.hid zb
    clear za zb
    go_enter Tryd.func79, Tryd.ntmps79
    go_wp2_with (go_at_call 57; refine (truth_any _ _).mono ?_; rintro _ w1 ⟨rfl, rfl⟩)
    go_ret
    exact ret_num ((num_one (a ≠ 0 ∧ b ≠ 0) _ (by have h1 := HZA.out; have h2 := HZB.out; simp [h1, h2])).trans HM.out.symm) ((Below.refl _ _).alloc (Nat.le_refl _) _)

set_option maxHeartbeats 400000 in
set_option maxRecDepth 100000 in
theorem either_any (a b : Int) (w : World) (ha : isVal a = true) (hb : isVal b = true) :
    Calls Tryd.prog 80 #[.agg #[.int .i64 a, .int .i64 b]] w fun e w' => NumIs (made 15 a b 0) e ∧ Below w.heap.size w w' := by
  have hm : made 15 a b 0 = some (one (decide (a ≠ 0 ∨ b ≠ 0))) := rfl
  have HM := Lib.hid hm
  clear ha hb hm
  by_cases za : a = 0
  all_goals by_cases zb : b = 0
  all_goals
    have na : (a != 0) = !decide (a = 0) := by (rw [Bool.eq_iff_iff]; simp)
    have nb : (b != 0) = !decide (b = 0) := by (rw [Bool.eq_iff_iff]; simp)
    simp only [za, zb, decide_true, decide_false, Bool.not_true, Bool.not_false] at na nb
    have HZA := Lib.hid za
    have HZB := Lib.hid zb
    clear za zb
    go_enter Tryd.func80, Tryd.ntmps80
    go_wp2_with (go_at_call 57; refine (truth_any _ _).mono ?_; rintro _ w1 ⟨rfl, rfl⟩)
    go_ret
    exact ret_num ((num_one (a ≠ 0 ∨ b ≠ 0) _ (by have h1 := HZA.out; have h2 := HZB.out; simp [h1, h2])).trans HM.out.symm) ((Below.refl _ _).alloc (Nat.le_refl _) _)


theorem prod_big (a b : Int) (h0 : a ≠ 0) : ((1099511627776 / a.natAbs < b.natAbs) → isVal (a * b) = false) ∧ (¬ (1099511627776 / a.natAbs < b.natAbs) → isVal (a * b) = true) := by
  have hA : 0 < a.natAbs := by omega
  have he : (a * b).natAbs = b.natAbs * a.natAbs := by rw [Int.natAbs_mul, Nat.mul_comm]
  rw [Nat.div_lt_iff_lt_mul hA]
  constructor
  · intro h; rw [isVal_not]; omega
  · intro h; rw [isVal_iff]; omega

theorem prod_zero (b : Int) : (0 : Int) * b = 0 := Int.zero_mul b

set_option maxHeartbeats 400000 in
set_option maxRecDepth 100000 in
theorem product_any (a b : Int) (w : World) (ha : isVal a = true) (hb : isVal b = true) :
    Calls Tryd.prog 73 #[.agg #[.int .i64 a, .int .i64 b]] w fun e w' => NumIs (made 8 a b 0) e ∧ Below w.heap.size w w' := by
  have ha' := (isVal_iff a).1 ha
  have hb' := (isVal_iff b).1 hb
  have hm : made 8 a b 0 = gv (a * b) := rfl
  have HM := Lib.hid hm
  have HSA := Lib.hid (fun W => size_any a W ha')
  have HSB := Lib.hid (fun W => size_any b W hb')
  clear ha hb hm
  by_cases h0 : a = 0
  · subst h0
    have hp : IntKind.i64.wrap (0 * b) = 0 := by rw [Int.zero_mul]; decide
    have hz : made 8 0 b 0 = gv 0 := by rw [HM.out, Int.zero_mul]
    have HZ := Lib.hid hz
    clear hz ha' hb'
    go_enter Tryd.func73, Tryd.ntmps73
    go_wp2_with fail
    go_quiet (fail)
    go_wp2_with fail
    go_ret
    exact ret_num HZ.out.symm (below_drewN ((Below.refl _ _).alloc (Nat.le_refl _) _) _)
  · have hA1 : 0 < a.natAbs := by omega
    have hA2 : a.natAbs ≤ 1099511627776 := by omega
    have hpb := prod_big a b h0
    have hne : (a != 0) = true := by simp [h0]
    have HH0 := Lib.hid h0
    obtain ⟨A, hA⟩ : ∃ A, a.natAbs = A := ⟨_, rfl⟩
    obtain ⟨B, hB⟩ : ∃ B, b.natAbs = B := ⟨_, rfl⟩
    have hsa := fun W => HSA.out W
    have hsb := fun W => HSB.out W
    rw [hA] at hpb hA1 hA2 hsa
    rw [hB] at hpb hsb
    have HSA := Lib.hid hsa
    have HSB := Lib.hid hsb
    have hq : (1099511627776 : Int).tdiv (A : Int) = ((1099511627776 / A : Nat) : Int) := by
      rw [Int.tdiv_eq_ediv_of_nonneg (by decide)]; rfl
    have hqle := Nat.div_le_self 1099511627776 A
    obtain ⟨Q, hQ⟩ : ∃ Q, 1099511627776 / A = Q := ⟨_, rfl⟩
    rw [hQ] at hq hpb hqle
    have hwq : IntKind.i64.wrap (Q : Int) = (Q : Int) := IntWalk.i64_in _ (by omega)
    have hwq2 : wrap64 (Q : Int) = (Q : Int) := IntWalk.wrap64_in _ (by omega)
    have HQLE := Lib.hid hqle
    clear hqle
    have hA0 : ((A : Int) == 0) = false := by simp; omega
    have hA0' : ¬ (A : Int) = 0 := by omega
    have HP := Lib.hid hpb
    have hw : isVal (a * b) = true → IntKind.i64.wrap (a * b) = a * b := fun h => IntWalk.i64_in _ (by have := (isVal_iff _).1 h; omega)
    have HW := Lib.hid hw
    clear hsa hsb hA hB hQ ha' hb' hA2 hpb h0 hw
    by_cases hg : Q < B
    · have hgI : decide ((Q : Int) < (B : Int)) = true := by simp; exact hg
      have hn := HP.out.1 hg
      have hz : made 8 a b 0 = gv 1099511627777 := by rw [HM.out, gv_not _ hn]; rfl
      have HZ := Lib.hid hz
      clear hz hn
      go_enter Tryd.func73, Tryd.ntmps73
      go_wp2_with fail
      go_quiet (first | (go_at_call 88; exact Calls.quiet_of_same (HSA.out _)) | (go_at_call 88; exact Calls.quiet_of_same (HSB.out _)))
      go_wp2_with fail
      go_ret
      exact ret_num HZ.out.symm (below_drewN ((Below.refl _ _).alloc (Nat.le_refl _) _) _)
    · have hgI : decide ((Q : Int) < (B : Int)) = false := by simp; omega
      have hp := HW.out (HP.out.2 hg)
      go_enter Tryd.func73, Tryd.ntmps73
      go_wp2_with fail
      go_quiet (first | (go_at_call 88; exact Calls.quiet_of_same (HSA.out _)) | (go_at_call 88; exact Calls.quiet_of_same (HSB.out _)))
      go_wp2_with fail
      go_ret
      exact ret_num HM.out.symm (below_drewN ((Below.refl _ _).alloc (Nat.le_refl _) _) _)


/-- Which method is told for an instruction. -/
def fnOf (o : Int) : Nat := if o = 6 then 71 else if o = 7 then 72 else if o = 8 then 73 else if o = 9 then 74 else if o = 10 then 75 else if o = 11 then 76 else if o = 12 then 77 else if o = 13 then 78 else if o = 14 then 79 else 80

set_option maxHeartbeats 1600000 in
set_option maxRecDepth 100000 in
theorem told_any (a b o : Int) (w : World) (h : o = 6 ∨ o = 7 ∨ o = 8 ∨ o = 9 ∨ o = 10 ∨ o = 11 ∨ o = 12 ∨ o = 13 ∨ o = 14 ∨ o = 15) :
    Calls Tryd.prog 59 #[.agg #[.int .i64 a, .int .i64 b], .int .i64 o] w fun e w' => e = .returned (.func (.func (fnOf o)) #[.agg #[.int .i64 a, .int .i64 b]] #[]) ∧ Below w.heap.size w w' := by
  rcases h with rfl | rfl | rfl | rfl | rfl | rfl | rfl | rfl | rfl | rfl
  all_goals
    go_enter Tryd.func59, Tryd.ntmps59
    go_wp2_with fail
    go_ret
    exact ⟨rfl, (Below.refl _ _).alloc (Nat.le_refl _) _⟩
end Go.Proofs.YtgkniocjlkfhmaaDoor.E
