/-
  Contract of the reference of layer 3: Depth.
-/
import Derived.Test.YtaiogcmbpalbpaaEVal
import Derived.Test.YtaiogcmbpalbpaaKIns
namespace Go.Proofs.Ytaiogcmbpalbpaa.E
open Go Go.RowKit Go.Proofs.Ytaiogcmbpalbpaa.B Go.Proofs.Ytaiogcmbpalbpaa.K
set_option linter.unusedVariables false

/-- How many numbers an instruction takes. -/
theorem takes_range (o : Int) : -1 ≤ takes o ∧ takes o ≤ 3 := by
  unfold takes; repeat' split
  all_goals omega

theorem depth_at (code : List In) (k : Nat) (i : In) (h : code[k]? = some i) (R M : Int) :
    depth (code.drop k) R M = if 0 ≤ takes i.1 ∧ R < takes i.1 then 0 else depth (code.drop (k + 1)) (if 0 ≤ takes i.1 then R - takes i.1 + 1 else R) (max M (if 0 ≤ takes i.1 then R - takes i.1 + 1 else R)) := by
  obtain ⟨hk, e⟩ := List.getElem?_eq_some_iff.1 h
  rw [List.drop_eq_getElem_cons hk, e]
  rfl

set_option maxHeartbeats 400000 in
theorem refDepth_any (code : List In) (v : Value) (w : World) (hs : SlI w v code) (hl : code.length ≤ 9223372036854775807) :
    Calls Try.prog 19 #[v] w fun e w' => e = .returned (.int .i64 (depth code 0 0)) ∧ Below w.heap.size w w' := by
  have HS := Lib.hid hs
  obtain ⟨a, cap, rfl, -⟩ := hs
  have HL := Lib.hid hl; clear hl
  obtain ⟨n, hN⟩ : ∃ n, code.length = n := ⟨_, rfl⟩
  rw [hN] at HL
  have HN := Lib.hid hN
  rw [hN] at HS ⊢
  clear hN
  go_enter Try.func19, Try.ntmps19
  go_wp2_with fail
  go_loopw [3, 4, 5, 6] (fun r m k _ wr => ∃ (R M : Int) (K : Nat), r = .int .i64 R ∧ m = .int .i64 M ∧ k = .int .i64 (K : Int) ∧ K ≤ n ∧ 0 ≤ R ∧ R ≤ K ∧ 0 ≤ M ∧ M ≤ K ∧ Hid (depth (code.drop K) R M = depth code 0 0) ∧ Hid (Below w.heap.size w wr)) (fun _ _ k _ _ => n - (intOf k).toNat)
  case atStart => exact ⟨0, 0, 0, rfl, rfl, rfl, Nat.zero_le _, by omega, by omega, by omega, by omega, rfl, Below.refl _ _⟩
  case round =>
    obtain ⟨R, M, K, rfl, rfl, rfl, hK, hR0, hR1, hM0, hM1, HD, HBE⟩ := hrel
    by_cases hlt : K < n
    · obtain ⟨i, hi⟩ : ∃ i, code[K]? = some i := ⟨_, List.getElem?_eq_getElem (by rw [HN.out]; exact hlt)⟩
      have hsw := HS.out.below HBE.out
      obtain ⟨a', cap', e, hc⟩ := hsw
      obtain ⟨b, off, rfl, h1, h2⟩ := hc K i hi
      obtain ⟨T, hT⟩ : ∃ T, takes i.1 = T := ⟨_, rfl⟩
      have hr := takes_range i.1
      have hd := depth_at code K i hi R M
      have htk := fun W => refTakes_any i.1 W
      rw [hT] at hr hd htk
      rw [HD.out] at hd
      have HTK := Lib.hid htk
      have HDD := Lib.hid hd
      have hwK : IntKind.i64.wrap ((K : Int) + 1) = (K : Int) + 1 := IntWalk.i64_in _ (by have := HL.out; omega)
      have HCO := Lib.hid hi
      clear hT hd htk hi hc h2 HD
      go_wp2_with fail
      refine (HTK.out _).mono ?_
      rintro _ w1 ⟨rfl, hb1⟩
      have HBE1 := Lib.hid (HBE.out.trans (hb1.mono HBE.out.size))
      clear hb1
      by_cases hneg : T < 0
      · have hd2 := HDD.out
        rw [if_neg (by omega), if_neg (by omega)] at hd2
        have HD2 := Lib.hid hd2; clear hd2
        by_cases hm : M < R
        · rw [show max M R = R by omega] at HD2
          go_wp2_with fail
          go_roundw
          case rel => exact ⟨R, R, K + 1, rfl, rfl, by go_num, by omega, by omega, by omega, by omega, by omega, HD2.out.symm, HBE1.out⟩
          case measure => simp [intOf]; omega
        · rw [show max M R = M by omega] at HD2
          go_wp2_with fail
          go_roundw
          case rel => exact ⟨R, M, K + 1, rfl, rfl, by go_num, by omega, by omega, by omega, by omega, by omega, HD2.out.symm, HBE1.out⟩
          case measure => simp [intOf]; omega
      · have hn0 : 0 ≤ T := by omega
        by_cases hsh : R < T
        · have hd2 := HDD.out
          rw [if_pos ⟨hn0, hsh⟩] at hd2
          have HD2 := Lib.hid hd2; clear hd2
          go_wp2_with fail
          go_ret
          exact ⟨ret_int HD2.out.symm, HBE1.out⟩
        · have hd2 := HDD.out
          rw [if_neg (by omega), if_pos hn0] at hd2
          have HD2 := Lib.hid hd2; clear hd2
          have hw1 : IntKind.i64.wrap (R - T) = R - T := IntWalk.i64_in _ (by have := HL.out; omega)
          have hw2 : IntKind.i64.wrap (R - T + 1) = R - T + 1 := IntWalk.i64_in _ (by have := HL.out; omega)
          by_cases hm : M < R - T + 1
          · rw [show max M (R - T + 1) = R - T + 1 by omega] at HD2
            go_wp2_with fail
            go_roundw
            case rel => exact ⟨R - T + 1, R - T + 1, K + 1, rfl, rfl, by go_num, by omega, by omega, by omega, by omega, by omega, HD2.out.symm, HBE1.out⟩
            case measure => simp [intOf]; omega
          · rw [show max M (R - T + 1) = M by omega] at HD2
            go_wp2_with fail
            go_roundw
            case rel => exact ⟨R - T + 1, M, K + 1, rfl, rfl, by go_num, by omega, by omega, by omega, by omega, by omega, HD2.out.symm, HBE1.out⟩
            case measure => simp [intOf]; omega
    · have hend : M = depth code 0 0 := by
        rw [← HD.out, List.drop_eq_nil_of_le (by rw [HN.out]; omega)]; rfl
      have HE := Lib.hid hend; clear hend
      have hltI : ¬ (K : Int) < (n : Int) := by omega
      go_wp2_with fail
      go_ret
      exact ⟨ret_int HE.out, HBE.out⟩
end Go.Proofs.Ytaiogcmbpalbpaa.E
