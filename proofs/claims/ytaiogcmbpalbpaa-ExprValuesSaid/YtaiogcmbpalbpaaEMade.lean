/-
  Contract of the reference of layer 3: Made.
-/
import Derived.Test.YtaiogcmbpalbpaaETimes
import Derived.Test.YtaiogcmbpalbpaaKSl
namespace Go.Proofs.Ytaiogcmbpalbpaa.E
open Go Go.RowKit Go.Proofs.Ytaiogcmbpalbpaa.B Go.Proofs.Ytaiogcmbpalbpaa.K
set_option linter.unusedVariables false

/-- What Made answers says what an instruction comes to. -/
def Says (m : Option Int) (x : Int) (ok : Bool) : Prop := m = if ok = true then some x else none

theorem says_some (x : Int) : Says (some x) x true := rfl
theorem says_gv (n : Int) : Says (gv n) n (isVal n) := rfl
theorem says_times (n x : Int) (h : isVal n = true → x = n) : Says (gv n) x (isVal n) := by
  unfold Says gv
  cases hv : isVal n with
  | true => rw [h hv]
  | false => rfl

/-- An ending with a number and whether it is one. -/
def MadeIs (m : Option Int) (e : Ending) : Prop := ∃ x ok, e = .returned (.tuple #[.int .i64 x, .bool ok]) ∧ Says m x ok

theorem says_one (p : Prop) [Decidable p] (b : Bool) (h : decide p = b) : Says (some (one (decide p))) (one b) true := by rw [h]; rfl
theorem says_if (p : Prop) [Decidable p] (a b x : Int) (h : (p ∧ x = a) ∨ (¬ p ∧ x = b)) : Says (some (if p then a else b)) x true := by
  rcases h with ⟨h, rfl⟩ | ⟨h, rfl⟩
  · rw [if_pos h]; rfl
  · rw [if_neg h]; rfl

theorem ret_says {m : Option Int} {x : Int} {ok : Bool} {w w' : World} (h : Says m x ok) (hb : Below w.heap.size w w') :
    MadeIs m (.returned (.tuple #[.int .i64 x, .bool ok])) ∧ Below w.heap.size w w' := ⟨⟨x, ok, rfl, h⟩, hb⟩

theorem made_at (o a b c : Int) (m : Option Int) (h : made o a b c = m) {x : Int} {ok : Bool} (hs : Says m x ok) : Says (made o a b c) x ok := by rw [h]; exact hs

theorem sl_one {w : World} {v : Value} {a : Int} (h : Sl w v [.int .i64 a]) : ∃ b off cap, v = .slice (some ⟨b, off, none⟩) 1 cap ∧ w.cell? ⟨b, off, none⟩ = some (.int .i64 a) := by
  obtain ⟨ad, cap, rfl, hc⟩ := h
  obtain ⟨b, off, rfl, h0⟩ := hc 0 _ rfl
  exact ⟨b, off, cap, rfl, h0⟩
theorem sl_two {w : World} {v : Value} {a b : Int} (h : Sl w v [.int .i64 a, .int .i64 b]) : ∃ bk off cap, v = .slice (some ⟨bk, off, none⟩) 2 cap ∧ w.cell? ⟨bk, off, none⟩ = some (.int .i64 a) ∧ w.cell? ⟨bk, off + 1, none⟩ = some (.int .i64 b) := by
  obtain ⟨ad, cap, rfl, hc⟩ := h
  obtain ⟨bk, off, rfl, h0⟩ := hc 0 _ rfl
  obtain ⟨bk', off', e, h1⟩ := hc 1 _ rfl
  cases e
  exact ⟨bk, off, cap, rfl, h0, h1⟩
theorem sl_three {w : World} {v : Value} {a b c : Int} (h : Sl w v [.int .i64 a, .int .i64 b, .int .i64 c]) : ∃ bk off cap, v = .slice (some ⟨bk, off, none⟩) 3 cap ∧ w.cell? ⟨bk, off, none⟩ = some (.int .i64 a) ∧ w.cell? ⟨bk, off + 1, none⟩ = some (.int .i64 b) ∧ w.cell? ⟨bk, off + 2, none⟩ = some (.int .i64 c) := by
  obtain ⟨ad, cap, rfl, hc⟩ := h
  obtain ⟨bk, off, rfl, h0⟩ := hc 0 _ rfl
  obtain ⟨bk', off', e, h1⟩ := hc 1 _ rfl
  cases e
  obtain ⟨bk', off', e, h2⟩ := hc 2 _ rfl
  cases e
  exact ⟨bk, off, cap, rfl, h0, h1, h2⟩

set_option maxHeartbeats 400000 in
theorem refMade4_any (a : Int) (v : Value) (w : World) (hs : Sl w v [.int .i64 a]) (ha : -1099511627776 ≤ a ∧ a ≤ 1099511627776) :
    Calls Try.prog 29 #[.int .i64 4, v] w fun e w' => MadeIs (made 4 a 0 0) e ∧ Below w.heap.size w w' := by
  obtain ⟨bk, off, cap, rfl, h0⟩ := sl_one hs
  clear hs
  have hneg : IntKind.i64.wrap (-a) = -a := IntWalk.i64_in _ (by omega)
  go_enter Try.func29, Try.ntmps29
  go_wp2_with fail
  go_ret2
  exact ret_says (made_at _ _ _ _ _ rfl (says_some _)) (Below.refl _ _)

set_option maxHeartbeats 400000 in
theorem refMade5_any (a : Int) (v : Value) (w : World) (hs : Sl w v [.int .i64 a]) :
    Calls Try.prog 29 #[.int .i64 5, v] w fun e w' => MadeIs (made 5 a 0 0) e ∧ Below w.heap.size w w' := by
  obtain ⟨bk, off, cap, rfl, h0⟩ := sl_one hs
  clear hs
  go_enter Try.func29, Try.ntmps29
  go_wp2_with (go_at_call 35; refine (refOne_any _ _).mono ?_; rintro _ w1 ⟨rfl, rfl⟩)
  go_ret2
  exact ret_says (made_at _ _ _ _ _ rfl (says_one _ _ (by rw [Bool.eq_iff_iff]; simp))) (Below.refl _ _)

set_option maxHeartbeats 400000 in
theorem refMade6_any (a b : Int) (v : Value) (w : World) (hs : Sl w v [.int .i64 a, .int .i64 b]) (ha : -1099511627776 ≤ a ∧ a ≤ 1099511627776) (hb : -1099511627776 ≤ b ∧ b ≤ 1099511627776) :
    Calls Try.prog 29 #[.int .i64 6, v] w fun e w' => MadeIs (made 6 a b 0) e ∧ Below w.heap.size w w' := by
  obtain ⟨bk, off, cap, rfl, h0, h1⟩ := sl_two hs
  clear hs
  have hadd : IntKind.i64.wrap (a + b) = a + b := IntWalk.i64_in _ (by omega)
  go_enter Try.func29, Try.ntmps29
  go_wp2_with fail
  go_quiet (fail)
  go_wp2_with (go_at_call 20; refine (refValue_any _ _).mono ?_; rintro _ w1 ⟨rfl, rfl⟩)
  go_ret2
  exact ret_says (made_at _ _ _ _ _ rfl (says_gv _)) (below_drewN (Below.refl _ _) _)

set_option maxHeartbeats 400000 in
theorem refMade7_any (a b : Int) (v : Value) (w : World) (hs : Sl w v [.int .i64 a, .int .i64 b]) (ha : -1099511627776 ≤ a ∧ a ≤ 1099511627776) (hb : -1099511627776 ≤ b ∧ b ≤ 1099511627776) :
    Calls Try.prog 29 #[.int .i64 7, v] w fun e w' => MadeIs (made 7 a b 0) e ∧ Below w.heap.size w w' := by
  obtain ⟨bk, off, cap, rfl, h0, h1⟩ := sl_two hs
  clear hs
  have hsub : IntKind.i64.wrap (a - b) = a - b := IntWalk.i64_in _ (by omega)
  go_enter Try.func29, Try.ntmps29
  go_wp2_with fail
  go_quiet (fail)
  go_wp2_with (go_at_call 20; refine (refValue_any _ _).mono ?_; rintro _ w1 ⟨rfl, rfl⟩)
  go_ret2
  exact ret_says (made_at _ _ _ _ _ rfl (says_gv _)) (below_drewN (Below.refl _ _) _)

set_option maxHeartbeats 400000 in
theorem refMade8_any (a b : Int) (v : Value) (w : World) (hs : Sl w v [.int .i64 a, .int .i64 b]) (ha : -1099511627776 ≤ a ∧ a ≤ 1099511627776) (hb : -1099511627776 ≤ b ∧ b ≤ 1099511627776) :
    Calls Try.prog 29 #[.int .i64 8, v] w fun e w' => MadeIs (made 8 a b 0) e ∧ Below w.heap.size w w' := by
  obtain ⟨bk, off, cap, rfl, h0, h1⟩ := sl_two hs
  clear hs
  go_enter Try.func29, Try.ntmps29
  go_wp2_with fail
  go_quiet (fail)
  go_wp2_with (go_at_call 36; refine (refTimes_any _ _ _ ha hb).mono ?_; rintro _ w1 ⟨⟨x, rfl, hx⟩, rfl⟩)
  go_ret2
  exact ret_says (made_at _ _ _ _ _ rfl (says_times _ _ hx)) (below_drewN (Below.refl _ _) _)

set_option maxHeartbeats 400000 in
theorem refMade9_any (a b : Int) (v : Value) (w : World) (hs : Sl w v [.int .i64 a, .int .i64 b]) :
    Calls Try.prog 29 #[.int .i64 9, v] w fun e w' => MadeIs (made 9 a b 0) e ∧ Below w.heap.size w w' := by
  obtain ⟨bk, off, cap, rfl, h0, h1⟩ := sl_two hs
  clear hs
  by_cases hlt : b < a
  · skip
    go_enter Try.func29, Try.ntmps29
    go_wp2_with fail
    go_quiet (fail)
    go_wp2_with fail
    go_ret2
    exact ret_says (made_at _ _ _ _ _ rfl (says_if _ _ _ _ (by omega))) (below_drewN (Below.refl _ _) _)
  · skip
    go_enter Try.func29, Try.ntmps29
    go_wp2_with fail
    go_quiet (fail)
    go_wp2_with fail
    go_ret2
    exact ret_says (made_at _ _ _ _ _ rfl (says_if _ _ _ _ (by omega))) (below_drewN (Below.refl _ _) _)

set_option maxHeartbeats 400000 in
theorem refMade10_any (a b : Int) (v : Value) (w : World) (hs : Sl w v [.int .i64 a, .int .i64 b]) :
    Calls Try.prog 29 #[.int .i64 10, v] w fun e w' => MadeIs (made 10 a b 0) e ∧ Below w.heap.size w w' := by
  obtain ⟨bk, off, cap, rfl, h0, h1⟩ := sl_two hs
  clear hs
  by_cases hlt : a < b
  · skip
    go_enter Try.func29, Try.ntmps29
    go_wp2_with fail
    go_quiet (fail)
    go_wp2_with fail
    go_ret2
    exact ret_says (made_at _ _ _ _ _ rfl (says_if _ _ _ _ (by omega))) (below_drewN (Below.refl _ _) _)
  · skip
    go_enter Try.func29, Try.ntmps29
    go_wp2_with fail
    go_quiet (fail)
    go_wp2_with fail
    go_ret2
    exact ret_says (made_at _ _ _ _ _ rfl (says_if _ _ _ _ (by omega))) (below_drewN (Below.refl _ _) _)

set_option maxHeartbeats 400000 in
theorem refMade11_any (a b : Int) (v : Value) (w : World) (hs : Sl w v [.int .i64 a, .int .i64 b]) :
    Calls Try.prog 29 #[.int .i64 11, v] w fun e w' => MadeIs (made 11 a b 0) e ∧ Below w.heap.size w w' := by
  obtain ⟨bk, off, cap, rfl, h0, h1⟩ := sl_two hs
  clear hs
  go_enter Try.func29, Try.ntmps29
  go_wp2_with fail
  go_quiet (fail)
  go_wp2_with (go_at_call 35; refine (refOne_any _ _).mono ?_; rintro _ w1 ⟨rfl, rfl⟩)
  go_ret2
  exact ret_says (made_at _ _ _ _ _ rfl (says_one _ _ rfl)) (below_drewN (Below.refl _ _) _)

set_option maxHeartbeats 400000 in
theorem refMade12_any (a b : Int) (v : Value) (w : World) (hs : Sl w v [.int .i64 a, .int .i64 b]) :
    Calls Try.prog 29 #[.int .i64 12, v] w fun e w' => MadeIs (made 12 a b 0) e ∧ Below w.heap.size w w' := by
  obtain ⟨bk, off, cap, rfl, h0, h1⟩ := sl_two hs
  clear hs
  rcases Int.lt_trichotomy a b with hlt | heq | hgt
  · have hd : decide (a < b) = true := decide_eq_true hlt
    go_enter Try.func29, Try.ntmps29
    go_wp2_with fail
    go_quiet (fail)
    go_wp2_with (go_at_call 35; refine (refOne_any _ _).mono ?_; rintro _ w1 ⟨rfl, rfl⟩)
    go_ret2
    exact ret_says (made_at _ _ _ _ _ rfl (says_one _ _ (by simp; omega))) (below_drewN (Below.refl _ _) _)
  · have hd : decide (a < b) = false := decide_eq_false (by omega)
    have he : (a == b) = true := by simp [heq]
    go_enter Try.func29, Try.ntmps29
    go_wp2_with fail
    go_quiet (fail)
    go_wp2_with (go_at_call 35; refine (refOne_any _ _).mono ?_; rintro _ w1 ⟨rfl, rfl⟩)
    go_ret2
    exact ret_says (made_at _ _ _ _ _ rfl (says_one _ _ (by simp; omega))) (below_drewN (Below.refl _ _) _)
  · have hd : decide (a < b) = false := decide_eq_false (by omega)
    have he : (a == b) = false := by simp; omega
    go_enter Try.func29, Try.ntmps29
    go_wp2_with fail
    go_quiet (fail)
    go_wp2_with (go_at_call 35; refine (refOne_any _ _).mono ?_; rintro _ w1 ⟨rfl, rfl⟩)
    go_ret2
    exact ret_says (made_at _ _ _ _ _ rfl (says_one _ _ (by simp; omega))) (below_drewN (Below.refl _ _) _)

set_option maxHeartbeats 400000 in
theorem refMade13_any (a b : Int) (v : Value) (w : World) (hs : Sl w v [.int .i64 a, .int .i64 b]) :
    Calls Try.prog 29 #[.int .i64 13, v] w fun e w' => MadeIs (made 13 a b 0) e ∧ Below w.heap.size w w' := by
  obtain ⟨bk, off, cap, rfl, h0, h1⟩ := sl_two hs
  clear hs
  go_enter Try.func29, Try.ntmps29
  go_wp2_with fail
  go_quiet (fail)
  go_wp2_with (go_at_call 35; refine (refOne_any _ _).mono ?_; rintro _ w1 ⟨rfl, rfl⟩)
  go_ret2
  exact ret_says (made_at _ _ _ _ _ rfl (says_one _ _ (by rw [Bool.eq_iff_iff]; simp))) (below_drewN (Below.refl _ _) _)

set_option maxHeartbeats 400000 in
theorem refMade14_any (a b : Int) (v : Value) (w : World) (hs : Sl w v [.int .i64 a, .int .i64 b]) :
    Calls Try.prog 29 #[.int .i64 14, v] w fun e w' => MadeIs (made 14 a b 0) e ∧ Below w.heap.size w w' := by
  obtain ⟨bk, off, cap, rfl, h0, h1⟩ := sl_two hs
  clear hs
  by_cases za : a = 0
  · have na : (a != 0) = false := by simp [za]
    by_cases zb : b = 0
    · have nb : (b != 0) = false := by simp [zb]
      have HZA := Lib.hid za
      have HZB := Lib.hid zb
      clear za zb
      go_enter Try.func29, Try.ntmps29
      go_wp2_with fail
      go_quiet (fail)
      go_wp2_with (go_at_call 35; refine (refOne_any _ _).mono ?_; rintro _ w1 ⟨rfl, rfl⟩)
      go_ret2
      exact ret_says (made_at _ _ _ _ _ rfl (says_one _ _ (by have h1 := HZA.out; have h2 := HZB.out; simp [h1, h2]))) (below_drewN (Below.refl _ _) _)
    · have nb : (b != 0) = true := by simp [zb]
      have HZA := Lib.hid za
      have HZB := Lib.hid zb
      clear za zb
      go_enter Try.func29, Try.ntmps29
      go_wp2_with fail
      go_quiet (fail)
      go_wp2_with (go_at_call 35; refine (refOne_any _ _).mono ?_; rintro _ w1 ⟨rfl, rfl⟩)
      go_ret2
      exact ret_says (made_at _ _ _ _ _ rfl (says_one _ _ (by have h1 := HZA.out; have h2 := HZB.out; simp [h1, h2]))) (below_drewN (Below.refl _ _) _)
  · have na : (a != 0) = true := by simp [za]
    by_cases zb : b = 0
    · have nb : (b != 0) = false := by simp [zb]
      have HZA := Lib.hid za
      have HZB := Lib.hid zb
      clear za zb
      go_enter Try.func29, Try.ntmps29
      go_wp2_with fail
      go_quiet (fail)
      go_wp2_with (go_at_call 35; refine (refOne_any _ _).mono ?_; rintro _ w1 ⟨rfl, rfl⟩)
      go_ret2
      exact ret_says (made_at _ _ _ _ _ rfl (says_one _ _ (by have h1 := HZA.out; have h2 := HZB.out; simp [h1, h2]))) (below_drewN (Below.refl _ _) _)
    · have nb : (b != 0) = true := by simp [zb]
      have HZA := Lib.hid za
      have HZB := Lib.hid zb
      clear za zb
      go_enter Try.func29, Try.ntmps29
      go_wp2_with fail
      go_quiet (fail)
      go_wp2_with (go_at_call 35; refine (refOne_any _ _).mono ?_; rintro _ w1 ⟨rfl, rfl⟩)
      go_ret2
      exact ret_says (made_at _ _ _ _ _ rfl (says_one _ _ (by have h1 := HZA.out; have h2 := HZB.out; simp [h1, h2]))) (below_drewN (Below.refl _ _) _)

set_option maxHeartbeats 400000 in
theorem refMade15_any (a b : Int) (v : Value) (w : World) (hs : Sl w v [.int .i64 a, .int .i64 b]) :
    Calls Try.prog 29 #[.int .i64 15, v] w fun e w' => MadeIs (made 15 a b 0) e ∧ Below w.heap.size w w' := by
  obtain ⟨bk, off, cap, rfl, h0, h1⟩ := sl_two hs
  clear hs
  by_cases za : a = 0
  · have na : (a != 0) = false := by simp [za]
    by_cases zb : b = 0
    · have nb : (b != 0) = false := by simp [zb]
      have HZA := Lib.hid za
      have HZB := Lib.hid zb
      clear za zb
      go_enter Try.func29, Try.ntmps29
      go_wp2_with fail
      go_quiet (fail)
      go_wp2_with (go_at_call 35; refine (refOne_any _ _).mono ?_; rintro _ w1 ⟨rfl, rfl⟩)
      go_ret2
      exact ret_says (made_at _ _ _ _ _ rfl (says_one _ _ (by have h1 := HZA.out; have h2 := HZB.out; simp [h1, h2]))) (below_drewN (Below.refl _ _) _)
    · have nb : (b != 0) = true := by simp [zb]
      have HZA := Lib.hid za
      have HZB := Lib.hid zb
      clear za zb
      go_enter Try.func29, Try.ntmps29
      go_wp2_with fail
      go_quiet (fail)
      go_wp2_with (go_at_call 35; refine (refOne_any _ _).mono ?_; rintro _ w1 ⟨rfl, rfl⟩)
      go_ret2
      exact ret_says (made_at _ _ _ _ _ rfl (says_one _ _ (by have h1 := HZA.out; have h2 := HZB.out; simp [h1, h2]))) (below_drewN (Below.refl _ _) _)
  · have na : (a != 0) = true := by simp [za]
    by_cases zb : b = 0
    · have nb : (b != 0) = false := by simp [zb]
      have HZA := Lib.hid za
      have HZB := Lib.hid zb
      clear za zb
      go_enter Try.func29, Try.ntmps29
      go_wp2_with fail
      go_quiet (fail)
      go_wp2_with (go_at_call 35; refine (refOne_any _ _).mono ?_; rintro _ w1 ⟨rfl, rfl⟩)
      go_ret2
      exact ret_says (made_at _ _ _ _ _ rfl (says_one _ _ (by have h1 := HZA.out; have h2 := HZB.out; simp [h1, h2]))) (below_drewN (Below.refl _ _) _)
    · have nb : (b != 0) = true := by simp [zb]
      have HZA := Lib.hid za
      have HZB := Lib.hid zb
      clear za zb
      go_enter Try.func29, Try.ntmps29
      go_wp2_with fail
      go_quiet (fail)
      go_wp2_with (go_at_call 35; refine (refOne_any _ _).mono ?_; rintro _ w1 ⟨rfl, rfl⟩)
      go_ret2
      exact ret_says (made_at _ _ _ _ _ rfl (says_one _ _ (by have h1 := HZA.out; have h2 := HZB.out; simp [h1, h2]))) (below_drewN (Below.refl _ _) _)

set_option maxHeartbeats 400000 in
theorem refMade16_any (a b c : Int) (v : Value) (w : World) (hs : Sl w v [.int .i64 a, .int .i64 b, .int .i64 c]) :
    Calls Try.prog 29 #[.int .i64 16, v] w fun e w' => MadeIs (made 16 a b c) e ∧ Below w.heap.size w w' := by
  obtain ⟨bk, off, cap, rfl, h0, h1, h2⟩ := sl_three hs
  clear hs
  by_cases za : a = 0
  · have na : (a != 0) = false := by simp [za]
    have HZA := Lib.hid za
    clear za
    go_enter Try.func29, Try.ntmps29
    go_wp2_with fail
    go_quiet (fail)
    go_wp2_with fail
    go_ret2
    exact ret_says (made_at _ _ _ _ _ rfl (says_if _ _ _ _ (by have h1 := HZA.out; simp [h1]))) (below_drewN (Below.refl _ _) _)
  · have na : (a != 0) = true := by simp [za]
    have HZA := Lib.hid za
    clear za
    go_enter Try.func29, Try.ntmps29
    go_wp2_with fail
    go_quiet (fail)
    go_wp2_with fail
    go_ret2
    exact ret_says (made_at _ _ _ _ _ rfl (says_if _ _ _ _ (by have h1 := HZA.out; simp [h1]))) (below_drewN (Below.refl _ _) _)

theorem takes_cases (o : Int) : (takes o = 1 → o = 4 ∨ o = 5) ∧ (takes o = 2 → o = 6 ∨ o = 7 ∨ o = 8 ∨ o = 9 ∨ o = 10 ∨ o = 11 ∨ o = 12 ∨ o = 13 ∨ o = 14 ∨ o = 15) ∧ (takes o = 3 → o = 16) := by
  unfold takes
  refine ⟨fun h => ?_, fun h => ?_, fun h => ?_⟩
  all_goals (repeat' split at h)
  all_goals omega

theorem refMade1_any (o a : Int) (v : Value) (w : World) (hs : Sl w v [.int .i64 a]) (ht : takes o = 1) (ha : isVal a = true) :
    Calls Try.prog 29 #[.int .i64 o, v] w fun e w' => MadeIs (made o a 0 0) e ∧ Below w.heap.size w w' := by
  rcases (takes_cases o).1 ht with rfl | rfl
  · exact refMade4_any a v w hs ((isVal_iff a).1 ha)
  · exact refMade5_any a v w hs

theorem refMade2_any (o a b : Int) (v : Value) (w : World) (hs : Sl w v [.int .i64 a, .int .i64 b]) (ht : takes o = 2) (ha : isVal a = true) (hb : isVal b = true) :
    Calls Try.prog 29 #[.int .i64 o, v] w fun e w' => MadeIs (made o a b 0) e ∧ Below w.heap.size w w' := by
  have ha' := (isVal_iff a).1 ha
  have hb' := (isVal_iff b).1 hb
  rcases (takes_cases o).2.1 ht with rfl | rfl | rfl | rfl | rfl | rfl | rfl | rfl | rfl | rfl
  · exact refMade6_any a b v w hs ha' hb'
  · exact refMade7_any a b v w hs ha' hb'
  · exact refMade8_any a b v w hs ha' hb'
  · exact refMade9_any a b v w hs
  · exact refMade10_any a b v w hs
  · exact refMade11_any a b v w hs
  · exact refMade12_any a b v w hs
  · exact refMade13_any a b v w hs
  · exact refMade14_any a b v w hs
  · exact refMade15_any a b v w hs

theorem refMade3_any (o a b c : Int) (v : Value) (w : World) (hs : Sl w v [.int .i64 a, .int .i64 b, .int .i64 c]) (ht : takes o = 3) :
    Calls Try.prog 29 #[.int .i64 o, v] w fun e w' => MadeIs (made o a b c) e ∧ Below w.heap.size w w' := by
  obtain rfl := (takes_cases o).2.2 ht
  exact refMade16_any a b c v w hs

end Go.Proofs.Ytaiogcmbpalbpaa.E
