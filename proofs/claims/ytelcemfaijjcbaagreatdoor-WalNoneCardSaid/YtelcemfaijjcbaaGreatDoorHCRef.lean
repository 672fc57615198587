/-
  Contracts of the reference of layer 2: bit, Through, Sum, Join.
-/
import Derived.Test.YtelcemfaijjcbaaGreatDoorHP12Rs
import Derived.Test.YtelcemfaijjcbaaGreatDoorHCMath
import Derived.Laws.BitsAllLaws
namespace Go.Proofs.YtelcemfaijjcbaaGreatDoor.C
open Go Go.RowKit Go.Proofs.YtelcemfaijjcbaaGreatDoor.B

theorem u32_flip (a : Nat) (ha : a < 4294967296) : bits .xor .u32 (a : Int) 4294967295 = ((a ^^^ 4294967295 : Nat) : Int) := u32_xor_nat a 4294967295 ha (by omega)

set_option maxHeartbeats 400000 in
theorem refBit_any (r : Nat) (w : World) (h : r < 4294967296) :
    Calls Tryz.prog 104 #[.int .u32 (r : Int)] w fun e w' => e = .returned (.int .u32 (bit r : Nat)) ∧ w = w' := by
  have hr : (r : Int) < 4294967296 := by omega
  have hx := u32_xor_nat (r / 2) 2197175160 (by omega) (by omega)
  rw [show ((r / 2 : Nat) : Int) = (r : Int) / 2 by omega] at hx
  by_cases hp : r % 2 = 1
  · have hb : bit r = (r / 2) ^^^ 2197175160 := by unfold bit; rw [if_pos hp]
    have hpb : ((r : Int) % 2 == 1) = true := by simp; omega
    rw [hb]
    clear hb hp
    go_enter Tryz.func104, Tryz.ntmps104
    go_wp2_with fail
    go_ret
    exact ⟨ret_int hx, rfl⟩
  · have hb : bit r = r / 2 := by unfold bit; rw [if_neg hp]
    have hpb : ((r : Int) % 2 == 1) = false := by simp; omega
    rw [hb]
    clear hb hp hx
    go_enter Tryz.func104, Tryz.ntmps104
    go_wp2_with fail
    go_ret
    exact ⟨ret_int (by omega), rfl⟩

/-- The byte of a text at a place, and what goes through from there. -/
theorem thr_at (l : List UInt8) (k : Nat) (h : k < l.length) : ∃ (b : Nat) (hk : k < (str l).size), ((str l)[k]'hk).toNat = b ∧ b < 256 ∧ ∀ R, thr R (l.drop k) = thr (zs 8 (R ^^^ b)) (l.drop (k + 1)) := by
  obtain ⟨hk, e⟩ := byte_at l k h
  refine ⟨_, hk, rfl, ((str l)[k]'hk).toNat_lt, fun R => ?_⟩
  rw [List.drop_eq_getElem_cons h, thr_cons, e]

set_option maxHeartbeats 400000 in
theorem refThrough_any (r : Nat) (l : List UInt8) (w : World) (h : r < 4294967296) (hl : l.length ≤ maxLen) :
    Calls Tryz.prog 92 #[.int .u32 (r : Int), .string (str l)] w fun e w' => e = .returned (.int .u32 (thr r l : Nat)) ∧ w = w' := by
  have hsz : (str l).size = l.length := str_size l
  have hl' : l.length ≤ 9223372036854775807 := hl
  have HL := Lib.hid hl'; clear hl hl'
  obtain ⟨n, hN⟩ : ∃ n, l.length = n := ⟨_, rfl⟩
  rw [hN] at hsz HL
  have HN := Lib.hid hN; clear hN
  go_enter Tryz.func92, Tryz.ntmps92
  go_wp2_with fail
  go_loop [0, 5, 6] (fun x i _ => ∃ R k : Nat, x = .int .u32 (R : Int) ∧ R < 4294967296 ∧ i = .int .i64 (k : Int) ∧ k ≤ n ∧ Hid (thr R (l.drop k) = thr r l)) (fun _ i _ => n - (intOf i).toNat)
  case atStart => exact ⟨r, 0, rfl, h, rfl, Nat.zero_le _, rfl⟩
  case round =>
    obtain ⟨R, k, rfl, hR, rfl, hk, HR⟩ := hrel
    by_cases hlt : k < n
    · obtain ⟨b, hb0, hb1, hb2, hb3⟩ := thr_at l k (by rw [HN.out]; exact hlt)
      have hx := u32_xor_nat R b hR (by omega)
      obtain ⟨Q, hQ⟩ : ∃ Q, R ^^^ b = Q := ⟨_, rfl⟩
      have hQ1 : Q < 4294967296 := by rw [← hQ]; exact Nat.xor_lt_two_pow (n := 32) (by omega) (by omega)
      rw [hQ] at hx
      have hb4 := hb3 R
      rw [HR.out, hQ] at hb4
      have HB := Lib.hid hb4; clear hb4 hb3 hQ
      have hk1 : (k : Int) < 9223372036854775807 := by have := HL.out; omega
      have hltI : (k : Int) < (n : Int) := by omega
      go_wp2_with fail
      go_loop [0, 6] (fun x j => ∃ T m : Nat, x = .int .u32 (T : Int) ∧ T < 4294967296 ∧ j = .int .i64 (m : Int) ∧ m ≤ 8 ∧ Hid (zs (8 - m) T = zs 8 Q)) (fun _ j => 8 - (intOf j).toNat)
      case atStart => exact ⟨Q, 0, rfl, hQ1, rfl, by omega, rfl⟩
      case round =>
        obtain ⟨T, m, rfl, hT, rfl, hm, HT⟩ := hrel
        by_cases hm8 : m < 8
        · have hmI : (m : Int) < 8 := by omega
          have hnx : zs (8 - (m + 1)) (bit T) = zs 8 Q := by
            rw [← HT.out, ← zs_succ]; exact congrArg (fun j => zs j T) (by omega)
          have HNX := Lib.hid hnx; clear hnx
          go_wp2_with (go_at_call 104; refine (refBit_any _ _ hT).mono ?_; rintro _ w1 ⟨rfl, rfl⟩)
          go_round
          case rel => exact ⟨bit T, m + 1, rfl, bit_lt T hT, by go_num, by omega, HNX.out⟩
          case measure => simp [intOf]; omega
        · obtain rfl : m = 8 := by omega
          have hend : thr T (l.drop (k + 1)) = thr r l := by rw [HB.out]; exact congrArg (fun x => thr x (l.drop (k + 1))) HT.out
          have HE := Lib.hid hend; clear hend
          go_wp2_with fail
          go_round
          case rel => exact ⟨T, k + 1, rfl, hT, by go_num, by omega, HE.out⟩
          case measure => simp [intOf]; omega
    · have hend : R = thr r l := by rw [← HR.out, List.drop_eq_nil_of_le (by rw [HN.out]; omega), thr_nil]
      have HE := Lib.hid hend; clear hend
      have hltI : ¬ (k : Int) < (n : Int) := by omega
      go_wp2_with fail
      go_ret
      exact ⟨ret_int (congrArg _ HE.out), rfl⟩

set_option maxHeartbeats 400000 in
theorem refSum_any (l : List UInt8) (w : World) (hl : l.length ≤ maxLen) :
    Calls Tryz.prog 74 #[.string (str l)] w fun e w' => e = .returned (.int .u32 (sum l : Nat)) ∧ w = w' := by
  have hx := u32_xor_nat (thr 4294967295 l) 4294967295 (thr_lt _ _ (by omega)) (by omega)
  have HX := Lib.hid hx; clear hx
  have HL := Lib.hid hl; clear hl
  go_enter Tryz.func74, Tryz.ntmps74
  go_wp2_with (go_at_call 92; refine (refThrough_any 4294967295 _ _ (by omega) HL.out).mono ?_; rintro _ w1 ⟨rfl, rfl⟩)
  go_ret
  exact ⟨ret_int HX.out, rfl⟩

end Go.Proofs.YtelcemfaijjcbaaGreatDoor.C
