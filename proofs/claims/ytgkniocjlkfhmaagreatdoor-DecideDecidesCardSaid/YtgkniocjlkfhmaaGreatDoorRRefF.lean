/-
  Layer 5: the reference says for which states rules are.
-/
import Derived.Test.YtgkniocjlkfhmaaGreatDoorSVb
import Derived.Test.YtgkniocjlkfhmaaGreatDoorProg
import Derived.Deep.QuietTactic
import Derived.BigQuiet
import Derived.Test.YtgkniocjlkfhmaaGreatDoorSVd
namespace Go.Proofs.YtgkniocjlkfhmaaGreatDoor.R
open Go Go.RowKit Go.Proofs.YtgkniocjlkfhmaaGreatDoor.B Go.Proofs.YtgkniocjlkfhmaaGreatDoor.K Go.Proofs.YtgkniocjlkfhmaaGreatDoor.E
set_option linter.unusedVariables false

set_option maxHeartbeats 1000000 in
theorem refFor_any (t : Tb) (c0 c1 c2 c3 : Value) (n s : Int) (w : World) (h : TbIs w [c0, c1, c2, c3] t) (hw : TbWf t) :
    Calls Tryz.prog 55 #[.agg #[c0, c1, c2, c3], .int .i64 n, .int .i64 s] w fun e w' => e = .returned (.bool (isFor t n s)) ∧ Below w.heap.size w w' := by
  obtain ⟨d0, d1, d2, d3, e, h0, h1, h2, h3⟩ := h
  cases e
  obtain ⟨⟨-, hl0⟩, -, -, ⟨hr3, hl3⟩⟩ := hw
  have HR := Lib.hid h3
  have HRW := Lib.hid hr3
  obtain ⟨a0, cap0, rfl, -⟩ := h0
  obtain ⟨a3, cap3, rfl, -⟩ := h3
  rw [List.length_map]
  obtain ⟨S, hS⟩ : ∃ S, t.states.length = S := ⟨_, rfl⟩
  obtain ⟨N, hN⟩ : ∃ N, t.rules.length = N := ⟨_, rfl⟩
  rw [hS] at hl0 ⊢
  rw [hN] at hl3 HR ⊢
  have HB := Lib.hid ((Below.refl w.heap.size w).alloc (Nat.le_refl _) (.cells #[.slice a0 S cap0, c1, c2, .slice a3 N cap3] 26))
  by_cases hin : 0 ≤ n ∧ n < N ∧ 0 ≤ s ∧ s < S
  case neg =>
    rw [isFor_no t n s (by rw [hS, hN]; exact hin)]
    by_cases x0 : 0 ≤ n
    · by_cases x1 : n < N
      · by_cases x2 : 0 ≤ s
        · have x3 : ¬ s < S := by omega
          go_enter Tryz.func55, Tryz.ntmps55
          go_wp2_with fail
          go_ret
          exact ⟨rfl, HB.out⟩
        · go_enter Tryz.func55, Tryz.ntmps55
          go_wp2_with fail
          go_ret
          exact ⟨rfl, HB.out⟩
      · go_enter Tryz.func55, Tryz.ntmps55
        go_wp2_with fail
        go_ret
        exact ⟨rfl, HB.out⟩
    · go_enter Tryz.func55, Tryz.ntmps55
      go_wp2_with fail
      go_ret
      exact ⟨rfl, HB.out⟩
  obtain ⟨x0, x1, x2, x3⟩ := hin
  obtain ⟨m, rfl⟩ : ∃ m : Nat, n = m := ⟨n.toNat, by omega⟩
  obtain ⟨q, rfl⟩ : ∃ q : Nat, s = q := ⟨s.toNat, by omega⟩
  obtain ⟨r, hr⟩ : ∃ r, t.rules[m]? = some r := ⟨_, List.getElem?_eq_getElem (by omega)⟩
  rw [isFor_at t m q r (by omega) hr]
  obtain ⟨b, off, ea, cs, -, ⟨f, g, st, rfl, hf, -, -⟩, hc⟩ := HR.out.at hr
  subst ea
  have k2 := (kept_cell HB.out (hc 2 _ rfl))
  have HF := Lib.hid (Sl.below hf HB.out)
  have hfl : r.from_.length ≤ 9223372036854775807 := (HRW.out r (List.mem_of_getElem? hr)).2.2.1.2
  obtain ⟨af, capf, rfl, -⟩ := hf
  rw [List.length_map] at HF k2
  obtain ⟨F, hF⟩ : ∃ F, r.from_.length = F := ⟨_, rfl⟩
  rw [hF] at HF k2 hfl
  have HFF := Lib.hid hF
  have HW := Lib.hid hfl
  clear hc hS hN hF hfl hl0 hl3 h1 h2 hr3 hr
  go_enter Tryz.func55, Tryz.ntmps55
  go_wp2_with fail
  go_loopw [7, 8] (fun i1 i2 wr => ∃ (K : Nat) (B : Bool), i1 = .bool B ∧ i2 = .int .i64 (K : Int) ∧ K ≤ F ∧ wr = (w.alloc (.cells #[.slice a0 S cap0, c1, c2, .slice (some ⟨b, off, none⟩) N cap3] 26)) ∧ Hid (B = ((F : Int) == 0 || (r.from_.take K).contains (q : Int)))) (fun _ k _ => F - (intOf k).toNat)
  case atStart => exact ⟨0, _, rfl, rfl, Nat.zero_le _, rfl, Lib.hid (by simp)⟩
  case round =>
    obtain ⟨K, B, rfl, rfl, hK, rfl, HI⟩ := hrel
    by_cases hlt : K < F
    · have hltI : (K : Int) < (F : Int) := by omega
      obtain ⟨x, hx⟩ : ∃ x, r.from_[K]? = some x := ⟨_, List.getElem?_eq_getElem (by rw [HFF.out]; exact hlt)⟩
      have hm : (r.from_.map fun n => Value.int .i64 n)[K]? = some (.int .i64 x) := by rw [List.getElem?_map, hx]; rfl
      obtain ⟨b', off', ea, h1⟩ := HF.out.at hm
      subst ea
      have hwK : IntKind.i64.wrap ((K : Int) + 1) = (K : Int) + 1 := IntWalk.i64_in _ (by have := HW.out; omega)
      have HX := Lib.hid hx
      clear hm hx
      have hmN : m < N := by omega
      by_cases hq : x = (q : Int)
      · have hqb : (x == (q : Int)) = true := beq_iff_eq.2 hq
        cases B <;> go_wp2_with fail
        all_goals
          refine ⟨⟨K + 1, true, rfl, by go_num, by omega, trivial, Lib.hid ?_⟩, by simp [intOf]; omega⟩
          exact (for_step_yes r.from_ K F q x HX.out hq).symm
      · have hqb : (x == (q : Int)) = false := beq_eq_false_iff_ne.2 hq
        cases B <;> go_wp2_with fail
        · refine ⟨⟨K + 1, false, rfl, by go_num, by omega, trivial, Lib.hid ?_⟩, by simp [intOf]; omega⟩
          rw [for_step_no r.from_ K F q x HX.out hq]; exact HI.out
        · refine ⟨⟨K + 1, true, rfl, by go_num, by omega, trivial, Lib.hid ?_⟩, by simp [intOf]; omega⟩
          rw [for_step_no r.from_ K F q x HX.out hq]; exact HI.out
    · have hltI : ¬ (K : Int) < (F : Int) := by omega
      go_wp2_with fail
      go_ret
      refine ⟨ret_bool ?_, HB.out⟩
      have e : K = F := by omega
      rw [HI.out, e, ← HFF.out, List.take_length]
      exact for_end r q

end Go.Proofs.YtgkniocjlkfhmaaGreatDoor.R
