/-
  Contracts of the program's check: down, More, Sum.
-/
import Derived.Test.YtlfkbdfaacpjeaaCCon
import Derived.Test.YtlfkbdfaacpjeaaCRef
import Derived.Test.YtlfkbdfaacpjeaaCMat
import Derived.Laws.ShiftsVarLaws
namespace Go.Proofs.Ytlfkbdfaacpjeaa.C
open Go Go.RowKit Go.Proofs.Ytlfkbdfaacpjeaa.B Go.Proofs.Ytlfkbdfaacpjeaa.K

theorem u32_not (a : Nat) (ha : a < 4294967296) : bits .xor .u32 IntKind.u32.max (a : Int) = ((a ^^^ 4294967295 : Nat) : Int) := by
  rw [Nat.xor_comm]; exact u32_xor_nat 4294967295 a (by omega) ha

set_option maxHeartbeats 400000 in
theorem down_any (r : Nat) (w : World) (h : r < 4294967296) :
    Calls Try.prog 23 #[.int .u32 (r : Int)] w fun e w' => e = .returned (.int .u32 (zs 8 r : Nat)) ∧ w = w' := by
  go_enter Try.func23, Try.ntmps23
  go_wp2_with fail
  go_loop [0, 3, 4] (fun x _ i => ∃ R k : Nat, x = .int .u32 (R : Int) ∧ R < 4294967296 ∧ i = .int .i64 (k : Int) ∧ k ≤ 8 ∧ Hid (zs (8 - k) R = zs 8 r)) (fun _ _ i => 8 - (intOf i).toNat)
  case atStart => exact ⟨r, 0, rfl, h, rfl, by omega, rfl⟩
  case round =>
    obtain ⟨R, k, rfl, hR, rfl, hk, HR⟩ := hrel
    by_cases hlt : k < 8
    · have hltI : (k : Int) < 8 := by omega
      have hnx : zs (8 - (k + 1)) (bit R) = zs 8 r := by
        rw [← HR.out, ← zs_succ]; exact congrArg (fun j => zs j R) (by omega)
      have HNX := Lib.hid hnx; clear hnx
      have hbl := bit_lt R hR
      have hand := u32_and_nat R 1 hR (by omega)
      rw [Nat.and_one_is_mod] at hand
      have hx := u32_xor_nat (R / 2) 2197175160 (by omega) (by omega)
      rw [show ((R / 2 : Nat) : Int) = (R : Int) / 2 by omega] at hx
      by_cases hp : R % 2 = 1
      · have hb : bit R = (R / 2) ^^^ 2197175160 := by unfold bit; rw [if_pos hp]
        rw [← hb] at hx
        rw [hp] at hand
        have hand' : bits .and .u32 (R : Int) 1 = 1 := hand
        have hx' : bits .xor .u32 ((R : Int) / 2) 2197175160 = ((bit R : Nat) : Int) := hx
        have HBL := Lib.hid hbl
        clear hb hp hand hx hbl
        go_wp2_with fail
        go_round
        case rel => exact ⟨bit R, k + 1, rfl, HBL.out, by go_num, by omega, HNX.out⟩
        case measure => simp [intOf]; omega
      · have hb : bit R = R / 2 := by unfold bit; rw [if_neg hp]
        rw [show R % 2 = 0 by omega] at hand
        have hand' : bits .and .u32 (R : Int) 1 = 0 := hand
        have HB := Lib.hid hb
        have HBL := Lib.hid hbl
        clear hb hp hand hx hbl
        go_wp2_with fail
        go_round
        case rel => exact ⟨bit R, k + 1, by rw [HB.out]; go_num, HBL.out, by go_num, by omega, HNX.out⟩
        case measure => simp [intOf]; omega
    · obtain rfl : k = 8 := by omega
      have hend : R = zs 8 r := HR.out
      have HE := Lib.hid hend; clear hend
      go_wp2_with fail
      go_ret
      exact ⟨ret_int (congrArg _ HE.out), rfl⟩

set_option maxHeartbeats 400000 in
theorem more_any (x : Nat) (l : List UInt8) (w : World) (h : x < 4294967296) (hl : l.length ≤ 9223372036854775807) :
    Calls Try.prog 17 #[.int .u32 (x : Int), .string (str l)] w fun e w' => e = .returned (.int .u32 (more x l : Nat)) ∧ w = w' := by
  have hsz : (str l).size = l.length := str_size l
  have HL := Lib.hid hl; clear hl
  obtain ⟨n, hN⟩ : ∃ n, l.length = n := ⟨_, rfl⟩
  rw [hN] at hsz HL
  have HN := Lib.hid hN; clear hN
  obtain ⟨X, hX⟩ : ∃ X, x ^^^ 4294967295 = X := ⟨_, rfl⟩
  have hX1 : X < 4294967296 := by rw [← hX]; exact Nat.xor_lt_two_pow (n := 32) (by omega) (by omega)
  have hflip := u32_not x h
  rw [hX] at hflip
  have HX := Lib.hid hX; clear hX
  go_enter Try.func17, Try.ntmps17
  go_wp2_with fail
  go_loop [5, 6, 11] (fun x _ i => ∃ R k : Nat, x = .int .u32 (R : Int) ∧ R < 4294967296 ∧ i = .int .i64 (k : Int) ∧ k ≤ n ∧ Hid (thr R (l.drop k) = thr X l)) (fun _ _ i => n - (intOf i).toNat)
  case atStart => exact ⟨X, 0, rfl, hX1, rfl, Nat.zero_le _, rfl⟩
  case round =>
    obtain ⟨R, k, rfl, hR, rfl, hk, HR⟩ := hrel
    by_cases hlt : k < n
    · obtain ⟨b, hb0, hb1, hb2, hb3⟩ := thr_at l k (by rw [HN.out]; exact hlt)
      have hx := u32_xor_nat R b hR (by omega)
      obtain ⟨Q, hQ⟩ : ∃ Q, R ^^^ b = Q := ⟨_, rfl⟩
      have hQ1 : Q < 4294967296 := by rw [← hQ]; exact Nat.xor_lt_two_pow (n := 32) (by omega) (by omega)
      rw [hQ] at hx
      have hb4 := hb3 R
      rw [HR.out, hQ] at hb4
      have HB := Lib.hid hb4; clear hb4 hb3 hQ
      have hk1 : (k : Int) < 9223372036854775807 := by have := HL.out; omega
      have hltI : (k : Int) < (n : Int) := by omega
      go_wp2_with (go_at_call 23; refine (down_any _ _ hQ1).mono ?_; rintro _ w1 ⟨rfl, rfl⟩)
      go_round
      case rel => exact ⟨zs 8 Q, k + 1, rfl, zs_lt 8 Q hQ1, by go_num, by omega, HB.out.symm⟩
      case measure => simp [intOf]; omega
    · have hend : R = thr X l := by rw [← HR.out, List.drop_eq_nil_of_le (by rw [HN.out]; omega), thr_nil]
      have hltI : ¬ (k : Int) < (n : Int) := by omega
      have hfl := u32_not R hR
      rw [show R ^^^ 4294967295 = more x l by rw [more, HX.out, hend]] at hfl
      have HF := Lib.hid hfl; clear hfl hend
      go_wp2_with fail
      go_ret
      exact ⟨ret_int HF.out, rfl⟩

set_option maxHeartbeats 400000 in
theorem sum_any (l : List UInt8) (w : World) (hl : l.length ≤ 9223372036854775807) :
    Calls Try.prog 13 #[.string (str l)] w fun e w' => e = .returned (.int .u32 (sum l : Nat)) ∧ w = w' := by
  have hm := fun w => more_any 0 l w (by omega) hl
  rw [more_zero] at hm
  have HM := Lib.hid hm; clear hm hl
  go_enter Try.func13, Try.ntmps13
  go_wp2_with (go_at_call 17; refine (HM.out _).mono ?_; rintro _ w1 ⟨rfl, rfl⟩)
  go_ret
  exact ⟨rfl, rfl⟩
end Go.Proofs.Ytlfkbdfaacpjeaa.C
