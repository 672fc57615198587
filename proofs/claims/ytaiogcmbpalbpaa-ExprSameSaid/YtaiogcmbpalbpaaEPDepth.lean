/-
  Contract of the program of layer 3: Depth.
-/
import Derived.Test.YtaiogcmbpalbpaaEPVal
import Derived.WalkMore
namespace Go.Proofs.Ytaiogcmbpalbpaa.E
open Go Go.RowKit Go.Proofs.Ytaiogcmbpalbpaa.B Go.Proofs.Ytaiogcmbpalbpaa.K
set_option linter.unusedVariables false

set_option maxHeartbeats 1000000 in
theorem depth_any (code : List In) (v : Value) (w : World) (hs : SlI w v code) (hl : code.length ≤ 9223372036854775807) :
    Calls Try.prog 18 #[v] w fun e w' => e = .returned (.int .i64 (depth code 0 0)) ∧ Below w.heap.size w w' := by
  have HS := Lib.hid hs
  obtain ⟨a, cap, rfl, -⟩ := hs
  have HL := Lib.hid hl
  obtain ⟨n, hN⟩ : ∃ n, code.length = n := ⟨_, rfl⟩
  rw [hN] at HL hl
  have HN := Lib.hid hN
  rw [hN] at HS ⊢
  clear hN hl
  go_enter Try.func18, Try.ntmps18
  go_wp2_with fail
  go_step3
  go_wp2_with fail
  go_step3
  go_wp2_with fail
  go_loopw [3, 4, 6, 7, 8, 11] (fun r m _ _ _ k wr => ∃ (R M : Int) (K : Nat), r = .int .i64 R ∧ m = .int .i64 M ∧ k = .int .i64 (K : Int) ∧ K ≤ n ∧ 0 ≤ R ∧ R ≤ K ∧ R ≤ M ∧ M ≤ K ∧ Hid (depth (code.drop K) R M = depth code 0 0) ∧ Hid (Below w.heap.size w wr)) (fun _ _ _ _ _ k _ => n - (intOf k).toNat)
  case atStart => exact ⟨0, 0, 0, rfl, rfl, rfl, Nat.zero_le _, by omega, by omega, by omega, by omega, rfl, Below.refl _ _⟩
  case round =>
    obtain ⟨R, M, K, rfl, rfl, rfl, hK, hR0, hR1, hM0, hM1, HD, HBE⟩ := hrel
    by_cases hlt : K < n
    · obtain ⟨i, hi⟩ : ∃ i, code[K]? = some i := ⟨_, List.getElem?_eq_getElem (by rw [HN.out]; exact hlt)⟩
      obtain ⟨b, off, rfl, h1, h2⟩ := (HS.out.below HBE.out).at hi
      obtain ⟨T, hT⟩ : ∃ T, takes i.1 = T := ⟨_, rfl⟩
      have hr := takes_range i.1
      have hd := depth_at code K i hi R M
      rw [hT] at hr hd
      rw [HD.out] at hd
      have htk : tk i.1 = if 0 ≤ T then T else 0 := by unfold tk; rw [hT]
      have hkn : kn i.1 = decide (0 ≤ T) := by unfold kn; rw [hT]
      have HTK := Lib.hid htk
      have HKN := Lib.hid hkn
      have HDD := Lib.hid hd
      have hwK : IntKind.i64.wrap ((K : Int) + 1) = (K : Int) + 1 := IntWalk.i64_in _ (by have := HL.out; omega)
      have hltI : (K : Int) < (n : Int) := by omega
      have HBN := Lib.hid (fun o => (HBE.out.alloc HBE.out.size o : Below w.heap.size w (wr.alloc o)))
      obtain ⟨o, x⟩ := i
      clear hT hd htk hkn hi HD
      by_cases hneg : T < 0
      · have hd2 := HDD.out
        rw [if_neg (by omega), if_neg (by omega), show max M R = M by omega] at hd2
        have HD2 := Lib.hid hd2; clear hd2
        have HT := Lib.hid (fun W => (show Calls Try.prog 21 #[.int .i64 o] W fun e w' => e = .returned (.tuple #[.int .i64 0, .bool false]) ∧ W = w' by have h := takes_any o W; rw [HTK.out, HKN.out, if_neg (by omega), decide_eq_false (by omega)] at h; exact h))
        clear HDD HTK HKN
        go_wp2_with fail
        refine (HT.out _).mono ?_
        rintro _ w1 ⟨rfl, rfl⟩
        go_wp2_with fail
        go_roundw
        case rel => exact ⟨R, M, K + 1, rfl, rfl, by go_num, by omega, by omega, by omega, by omega, by omega, HD2.out.symm, HBN.out _⟩
        case measure => simp [intOf]; omega
      have hn0 : 0 ≤ T := by omega
      have HT := Lib.hid (fun W => (show Calls Try.prog 21 #[.int .i64 o] W fun e w' => e = .returned (.tuple #[.int .i64 T, .bool true]) ∧ W = w' by have h := takes_any o W; rw [HTK.out, HKN.out, if_pos hn0, decide_eq_true hn0] at h; exact h))
      clear HTK HKN
      go_wp2_with fail
      refine (HT.out _).mono ?_
      rintro _ w1 ⟨rfl, rfl⟩
      by_cases hsh : R < T
      · have hd2 := HDD.out
        rw [if_pos ⟨hn0, hsh⟩] at hd2
        have HD2 := Lib.hid hd2; clear hd2
        go_wp2_with fail
        try rw [Exit.noGoto_ret]
        go_ret
        exact ⟨ret_int HD2.out.symm, HBN.out _⟩
      · have hd2 := HDD.out
        rw [if_neg (by omega), if_pos hn0] at hd2
        have HD2 := Lib.hid hd2; clear hd2
        have hw1 : IntKind.i64.wrap (1 - T) = 1 - T := IntWalk.i64_in _ (by omega)
        have hw2 : IntKind.i64.wrap (R + (1 - T)) = R - T + 1 := by rw [show R + (1 - T) = R - T + 1 by omega]; exact IntWalk.i64_in _ (by have := HL.out; omega)
        clear HDD
        go_wp2_with fail
        go_roundw
        case rel => exact ⟨R - T + 1, max M (R - T + 1), K + 1, rfl, by rw [show (if M < R - T + 1 then R - T + 1 else M) = max M (R - T + 1) by split <;> omega], by go_num, by omega, by omega, by omega, by omega, by omega, HD2.out.symm, HBN.out _⟩
        case measure => simp [intOf]; omega
    · have hend : M = depth code 0 0 := by
        rw [← HD.out, List.drop_eq_nil_of_le (by rw [HN.out]; omega)]; rfl
      have HE := Lib.hid hend; clear hend
      have hltI : ¬ (K : Int) < (n : Int) := by omega
      go_wp2_with fail
      try rw [Exit.noGoto_ret]
      go_ret
      exact ⟨ret_int HE.out, HBE.out⟩
end Go.Proofs.Ytaiogcmbpalbpaa.E
