/-
  Layer 3's statements: sample, awake.
-/
import Derived.Test.YtaiogcmbpalbpaaECon
namespace Go.Proofs.Ytaiogcmbpalbpaa.E
open Go Go.RowKit Go.Proofs.Ytaiogcmbpalbpaa.B Go.Proofs.Ytaiogcmbpalbpaa.K
set_option linter.unusedVariables false

/-- a - b * 2. -/
def sample : List In := [(2, 0), (2, 1), (1, 2), (8, 0), (7, 0)]

theorem sample_wf : ∀ i ∈ sample, I64 i.1 ∧ I64 i.2 := by
  intro i hi
  simp only [sample, List.mem_cons, List.not_mem_nil, or_false] at hi
  rcases hi with rfl | rfl | rfl | rfl | rfl <;> exact ⟨⟨by decide, by decide⟩, ⟨by decide, by decide⟩⟩

theorem sample_eval : eval sample [7, 2] [] = (3, 0) := by decide +kernel
theorem sample_check : check sample 1 0 = (1, 3) := by decide +kernel
theorem sample_depth : depth sample 0 0 = 3 := by decide +kernel

theorem three_fold (B : Int) (h : 0 ≤ B) : fold B [(1, 1), (1, 2), (6, 0)] = [(1, 3)] := by
  have hc : (check [(1, 1), (1, 2), (6, 0)] B B).2 = 0 := by
    have e : check [(1, 1), (1, 2), (6, 0)] B B = chk B B [(1, 1), (1, 2), (6, 0)] 0 0 := by
      unfold check; rw [if_neg (by omega), if_neg (by simp)]
    rw [e]
    have r1 : right (1, 1) B B = true := by unfold right; rfl
    have r2 : right (1, 2) B B = true := by unfold right; rfl
    have r3 : right (6, 0) B B = true := by unfold right; rfl
    simp only [chk, r1, r2, r3]
    decide +kernel
  unfold fold
  rw [if_neg (by omega)]
  decide +kernel

set_option maxHeartbeats 400000 in
theorem sample_any (w : World) : Calls Try.prog 24 #[] w fun e w' => (∃ v, e = .returned v ∧ SlI w' v sample) ∧ Below w.heap.size w w' := by
  go_enter Try.func24, Try.ntmps24
  go_wp2_with fail
  go_ret
  exact ⟨⟨_, rfl, SlI.made (xs := sample) (heap_alloc_at _ _) rfl⟩, (Below.refl _ _).alloc (Nat.le_refl _) _⟩

theorem two_sl (w : World) (x y : Int) (T : TypeId) : Sl (w.alloc (.cells #[.int .i64 x, .int .i64 y] T)) (.slice (some ⟨w.heap.size, 0, none⟩) 2 2) ([x, y].map (Value.int .i64)) :=
  Sl.row (cap := 2) (xs := [.int .i64 x, .int .i64 y]) (heap_alloc_at w _) rfl

theorem three_sl (w : World) : SlI (w.alloc (.cells #[.int .i64 1, .int .i64 1, .int .i64 1, .int .i64 2, .int .i64 6, .int .i64 0] 47)) (.slice (some ⟨w.heap.size, 0, none⟩) 3 3) [(1, 1), (1, 2), (6, 0)] :=
  SlI.made (cap := 3) (xs := [(1, 1), (1, 2), (6, 0)]) (heap_alloc_at w _) rfl

set_option maxHeartbeats 2000000 in
theorem awake_any (C : Contracts) (w : World) : Calls Try.prog 10 #[] w fun e w' => e = .returned (.bool true) ∧ Below w.heap.size w w' := by
  obtain ⟨B, hB, hfold⟩ := C.fold_
  go_enter Try.func10, Try.ntmps10
  go_wp2_with fail
  refine (sample_any _).mono ?_
  rintro _ w1 ⟨⟨v1, rfl, s1⟩, b1⟩
  have B1 := Lib.hid b1
  have hev := C.eval_ sample [7, 2] [] v1 (.slice (some ⟨w1.heap.size, 0, none⟩) 2 2) (.slice none 0 0) _ (s1.below ((Below.refl _ _).alloc (Nat.le_refl _) _)) (two_sl w1 7 2 3) (Sl.nil _) sample_wf (by simp [I64]) (by simp) (by decide) (by decide) (by decide)
  rw [sample_eval] at hev
  have HEV := Lib.hid hev
  clear hev s1 b1
  go_wp2_with fail
  refine HEV.out.mono ?_
  rintro _ w2 ⟨rfl, b2⟩
  have B2 := Lib.hid ((B1.out.alloc B1.out.size _).trans (b2.mono (B1.out.alloc B1.out.size _).size))
  clear b2 HEV B1
  go_wp2_with fail
  refine (sample_any _).mono ?_
  rintro _ w3 ⟨⟨v3, rfl, s3⟩, b3⟩
  have B3 := Lib.hid (B2.out.trans (b3.mono B2.out.size))
  have hch := C.check_ sample v3 1 0 w3 s3 sample_wf (by decide) ⟨by decide, by decide⟩ ⟨by decide, by decide⟩
  rw [sample_check] at hch
  have HCH := Lib.hid hch
  clear hch s3 b3 B2
  go_wp2_with fail
  refine HCH.out.mono ?_
  rintro _ w4 ⟨rfl, b4⟩
  have B4 := Lib.hid (B3.out.trans (b4.mono B3.out.size))
  clear b4 HCH B3
  have hfo := hfold [(1, 1), (1, 2), (6, 0)] (.slice (some ⟨w4.heap.size, 0, none⟩) 3 3) (w4.alloc (.cells #[.int .i64 1, .int .i64 1, .int .i64 1, .int .i64 2, .int .i64 6, .int .i64 0] 47)) (three_sl w4) (by simp [I64]) (by decide)
  rw [three_fold B hB] at hfo
  have HFO := Lib.hid hfo
  clear hfo hfold
  go_wp2_with fail
  refine HFO.out.mono ?_
  rintro _ w5 ⟨⟨v5, rfl, s5⟩, b5⟩
  have B5 := Lib.hid ((B4.out.alloc B4.out.size _).trans (b5.mono (B4.out.alloc B4.out.size _).size))
  clear b5 HFO B4
  obtain ⟨a5, c5, rfl, hc5⟩ := s5
  obtain ⟨bb, off, rfl, h50, h51⟩ := hc5 0 _ rfl
  clear hc5
  simp only [Nat.zero_mul, Nat.add_zero] at h50 h51
  go_wp2_with fail
  refine (sample_any _).mono ?_
  rintro _ w6 ⟨⟨v6, rfl, s6⟩, b6⟩
  have B6 := Lib.hid (B5.out.trans (b6.mono B5.out.size))
  have hdp := C.depth_ sample v6 w6 s6 sample_wf (by decide)
  rw [sample_depth] at hdp
  have HDP := Lib.hid hdp
  clear hdp s6 b6 B5 h50 h51
  go_wp2_with fail
  refine HDP.out.mono ?_
  rintro _ w7 ⟨rfl, b7⟩
  have B7 := Lib.hid (B6.out.trans (b7.mono B6.out.size))
  clear b7 HDP B6
  go_wp2_with fail
  go_ret
  exact ⟨rfl, B7.out⟩
end Go.Proofs.Ytaiogcmbpalbpaa.E
