/-
  Contracts: varint's unfold and ReadNumber, the reference's ReadNumber.
-/
import Derived.Test.YtaclkofkajehpaaVNum
import Derived.Test.YtaclkofkajehpaaVRead
import Derived.Deep.QuietTactic
import Derived.BigQuiet
namespace Go.Proofs.Ytaclkofkajehpaa.V
open Go.RowKit

theorem unfold_any (x : Int) (w : World) (h0 : 0 ≤ x) (h1 : x < 18446744073709551616) :
    Calls Try.prog 33 #[.int .u64 x] w fun e w' => e = .returned (.int .i64 (unzz x.toNat)) ∧ w = w' := by
  obtain ⟨u, rfl⟩ := Int.eq_ofNat_of_zero_le h0
  rw [Int.toNat_natCast]
  have hc : IntKind.i64.wrap ((u : Int) / 2) = (u : Int) / 2 := IntWalk.i64_in _ (by omega)
  have hl : (u : Int) / 2 ≤ 9223372036854775807 := by omega
  clear h1
  by_cases h : (u : Int) % 2 = 1
  · have hz : unzz u = -((u : Int) / 2) - 1 := by unfold unzz; rw [if_neg (by omega)]; omega
    have HZ := Lib.hid hz; clear hz
    have hb : ((u : Int) % 2 == 1) = true := by simp [h]
    clear h
    go_enter Try.func33, Try.ntmps33
    go_wp2
    go_ret
    exact ⟨ret_int HZ.out.symm, rfl⟩
  · have hz : unzz u = ((u : Int) / 2) := by unfold unzz; rw [if_pos (by omega)]; omega
    have HZ := Lib.hid hz; clear hz
    have hb : ((u : Int) % 2 == 1) = false := by simp [h]
    clear h
    go_enter Try.func33, Try.ntmps33
    go_wp2
    go_ret
    exact ⟨ret_int HZ.out.symm, rfl⟩

theorem pow_le56 {k : Nat} (hk : k < 9) : (128 : Nat) ^ k ≤ 72057594037927936 := by
  have e : (128 : Nat) ^ 8 = 72057594037927936 := by decide
  exact e ▸ Nat.pow_le_pow_right (by decide) (by omega)
theorem small_next (k A d : Nat) (hk : k < 9) (hA : A < 128 ^ k) (hd : d < 128) : A + 128 ^ k * d < 9223372036854775808 := by
  have h1 := pow_le56 hk
  have h2 : 128 ^ k * d ≤ 72057594037927936 * 127 := Nat.mul_le_mul h1 (by omega)
  omega
theorem or_wrap (k A b : Nat) (hk : k < 9) (hA : A < 128 ^ k) (hd : b % 128 < 128) :
    bits .or .u64 (A : Int) (IntKind.u64.wrap ((b : Int) % 128 * 2 ^ (k * 7))) = ((A + 128 ^ k * (b % 128) : Nat) : Int) := by
  have h1 := pow_le56 hk
  have e : (2 : Nat) ^ (k * 7) = 128 ^ k := by rw [show (128 : Nat) = 2 ^ 7 by decide, ← Nat.pow_mul, Nat.mul_comm]
  have h2 : b % 128 * 2 ^ (k * 7) ≤ 127 * 72057594037927936 := Nat.mul_le_mul (by omega) (by rw [e]; exact h1)
  have hc : (b : Int) % 128 * 2 ^ (k * 7) = ((b % 128 * 2 ^ (k * 7) : Nat) : Int) := by simp
  rw [hc, IntWalk.u64_in _ (by omega), bits_or_u64_nat _ _ (by omega) (by omega), lor_above k A _ hA]

theorem ret_three {k k' k'' : IntKind} {a a' b b' c c' : Int} (h : (a, b, c) = (a', b', c')) : Ending.returned (.tuple #[.int k a, .int k' b, .int k'' c]) = .returned (.tuple #[.int k a', .int k' b', .int k'' c']) := by
  obtain ⟨rfl, rfl, rfl⟩ : a = a' ∧ b = b' ∧ c = c' := by simpa using h
  rfl

set_option maxHeartbeats 1000000 in
set_option maxRecDepth 100000 in
/-- varint's ReadNumber, at a place out of range. -/
theorem readNumber_out (s : ByteArray) (p : Int) (w : World) (h : p < 0 ∨ (s.size : Int) < p) :
    Calls Try.prog 18 #[.string s, .int .i64 p] w fun e w' => e = .returned (.tuple #[.int .i64 0, .int .i64 0, .int .i64 3]) ∧ w = w' := by
  by_cases h0 : p < 0
  · go_enter Try.func18, Try.ntmps18
    go_wp2
    go_ret3
    exact ⟨rfl, rfl⟩
  · have h1 : (s.size : Int) < p := by omega
    go_enter Try.func18, Try.ntmps18
    go_wp2
    go_ret3
    exact ⟨rfl, rfl⟩

set_option maxHeartbeats 1000000 in
set_option maxRecDepth 100000 in
/-- varint's ReadNumber, at a place in range. -/
theorem readNumber_in (s : ByteArray) (p : Nat) (w : World) (h : p ≤ s.size) (hs : s.size ≤ 140737488355328) :
    Calls Try.prog 18 #[.string s, .int .i64 p] w fun e w' => 
      e = .returned (.tuple #[.int .i64 (rdAt s.data.toList p).1, .int .i64 (rdAt s.data.toList p).2.1, .int .i64 (rdAt s.data.toList p).2.2]) ∧ w = w' := by
  have h0 : ¬ (p : Int) < 0 := by omega
  have h1 : ¬ (s.size : Int) < (p : Int) := by omega
  have hfin : ∀ (e : Ending) (w' : World) (x : Int × Int × Int), rdAt s.data.toList p = x → e = .returned (.tuple #[.int .i64 x.1, .int .i64 x.2.1, .int .i64 x.2.2]) ∧ w = w' → e = .returned (.tuple #[.int .i64 (rdAt s.data.toList p).1, .int .i64 (rdAt s.data.toList p).2.1, .int .i64 (rdAt s.data.toList p).2.2]) ∧ w = w' := by
    intro e w' x hx h; rw [hx]; exact h
  have HFIN := Lib.hid hfin; clear hfin
  have hat := rdAt_in s.data.toList p (by rw [← size_list]; exact h)
  have HAT := Lib.hid hat; clear hat
  go_enter Try.func18, Try.ntmps18
  go_wp2
  go_loop [7, 8] (fun f i => ∃ k A : Nat, k ≤ 9 ∧ p + k ≤ s.size ∧ Hid (A = val ((s.data.toList.drop p).take k)) ∧ Hid (∀ j (hj : j < (s.data.toList.drop p).length), j < k → 128 ≤ (s.data.toList.drop p)[j].toNat) ∧ i = .int .i64 ((p + k : Nat) : Int) ∧ f = .int .u64 (A : Int)) (fun _ i => s.size - (intOf i).toNat)
  case atStart => exact ⟨0, 0, by omega, by omega, rfl, fun j hj h => by omega, rfl, rfl⟩
  case round =>
    obtain ⟨k, A, hk9, hk, HA, HHI, rfl, rfl⟩ := hrel
    by_cases hlt : p + k < s.size
    · obtain ⟨b, hb, hget⟩ := byte_at s p k hlt
      have HGET := Lib.hid hget; clear hget
      have hb256 : (b : Int) < 256 := by have := (s[p + k]'hlt).toNat_lt; omega
      have hb0 : 0 ≤ (b : Int) := by omega
      have hAlt : A < 128 ^ k := by rw [HA.out]; exact Nat.lt_of_lt_of_le (val_lt _) (Nat.pow_le_pow_right (by decide) (by simp; omega))
      have HALT := Lib.hid hAlt; clear hAlt
      by_cases hk9' : k = 9
      · subst hk9'
        by_cases hb1 : 1 < (b : Int)
        · have hv := rd_nine (s.data.toList.drop p) HHI.out HGET.out (by omega)
          have HV := Lib.hid hv; clear hv
          go_wp2_with fail
          go_ret3
          exact HFIN.out _ _ _ (HAT.out.trans (by rw [HV.out])) ⟨rfl, rfl⟩
        · by_cases hbz : (b : Int) = 0
          · obtain rfl : b = 0 := by omega
            have hv := rd_zero (s.data.toList.drop p) 9 (by omega) (by omega) HHI.out HGET.out
            have HV := Lib.hid hv; clear hv
            go_wp2_with fail
            go_ret3
            exact HFIN.out _ _ _ (HAT.out.trans (by rw [HV.out])) ⟨rfl, rfl⟩
          · obtain rfl : b = 1 := by omega
            have hv := rd_last (s.data.toList.drop p) 9 (by omega) HHI.out HGET.out (by omega) (by omega) (by omega)
            rw [← HA.out] at hv
            have e9 : (128 : Nat) ^ 9 = 9223372036854775808 := by decide
            have hA9 : A < 9223372036854775808 := by have := HALT.out; rw [e9] at this; exact this
            have hor : bits .or .u64 (A : Int) 9223372036854775808 = ((A + 128 ^ 9 * 1 : Nat) : Int) := by
              have := bits_or_u64_nat A 9223372036854775808 (by omega) (by omega)
              rw [← lor_above 9 A 1 HALT.out]
              exact this
            have hx : A + 128 ^ 9 * 1 < 18446744073709551616 := by rw [e9]; omega
            generalize hX : A + 128 ^ 9 * 1 = X at hv hor hx
            have HV := Lib.hid hv
            have HX := Lib.hid hx
            clear hv hx hX hA9 e9
            go_wp2_with (go_at_call 33; refine (unfold_any _ _ (Int.natCast_nonneg X) (by have := HX.out; omega)).mono ?_; rintro e w' ⟨rfl, rfl⟩)
            go_ret3
            exact HFIN.out _ _ _ (HAT.out.trans (by rw [HV.out])) ⟨rfl, rfl⟩
      · have hk9 : k < 9 := by omega
        have hne9 : ((k : Int) == 9) = false := by simp; omega
        have hpk : (p : Int) + (k : Int) - (p : Int) = (k : Int) := by omega
        have hor : ∃ X : Nat, X = A + 128 ^ k * (b % 128) ∧ X < 9223372036854775808 ∧ bits .or .u64 (A : Int) (IntKind.u64.wrap ((b : Int) % 128 * 2 ^ (k * 7))) = (X : Int) := by
          refine ⟨_, rfl, ?_, ?_⟩
          · exact small_next k A _ hk9 HALT.out (Nat.mod_lt _ (by decide))
          · exact or_wrap k A _ hk9 HALT.out (Nat.mod_lt _ (by decide))
        obtain ⟨X, hX, hXlt, hor⟩ := hor
        have HX := Lib.hid hX; clear hX
        have HXL := Lib.hid hXlt; clear hXlt
        by_cases h128 : 128 ≤ (b : Int)
        · go_wp2_with fail
          go_round
          case rel => exact ⟨k + 1, X, by omega, by omega, by rw [HX.out, HA.out]; exact (val_next _ _ HGET.out).symm, high_next _ _ HHI.out HGET.out (by omega), by go_num, rfl⟩
          case measure => simp [intOf]; omega
        · by_cases hbk : b = 0 ∧ 0 < k
          · have hbz : ((b : Int) == 0) = true := by simp; omega
            have hk0 : 0 < (k : Int) := by omega
            have hv := rd_zero (s.data.toList.drop p) k (by omega) hbk.2 HHI.out (by have := HGET.out; rw [hbk.1] at this; exact this)
            have HV := Lib.hid hv; clear hv hbk
            go_wp2_with fail
            go_ret3
            exact HFIN.out _ _ _ (HAT.out.trans (by rw [HV.out])) ⟨rfl, rfl⟩
          · have hv := rd_last (s.data.toList.drop p) k (by omega) HHI.out HGET.out (by omega) (by omega) hbk
            rw [← HA.out, show A + 128 ^ k * b = X by rw [HX.out, Nat.mod_eq_of_lt (by omega)]] at hv
            have HV := Lib.hid hv; clear hv
            by_cases hb0' : b = 0
            · have hbz : ((b : Int) == 0) = true := by simp; omega
              have hk0 : ¬ 0 < (k : Int) := by omega
              clear hbk hb0'
              go_wp2_with (go_at_call 33; refine (unfold_any _ _ (Int.natCast_nonneg X) (by have := HXL.out; omega)).mono ?_; rintro e w' ⟨rfl, rfl⟩)
              go_ret3
              exact HFIN.out _ _ _ (HAT.out.trans (by rw [HV.out])) ⟨rfl, rfl⟩
            · have hbz : ((b : Int) == 0) = false := by simp; omega
              clear hbk hb0'
              go_wp2_with (go_at_call 33; refine (unfold_any _ _ (Int.natCast_nonneg X) (by have := HXL.out; omega)).mono ?_; rintro e w' ⟨rfl, rfl⟩)
              go_ret3
              exact HFIN.out _ _ _ (HAT.out.trans (by rw [HV.out])) ⟨rfl, rfl⟩
    · have hv := rd_end (s.data.toList.drop p) k (by omega) HHI.out (by rw [List.length_drop, ← size_list]; omega)
      have HV := Lib.hid hv; clear hv
      go_wp2_with fail
      go_ret3
      exact HFIN.out _ _ _ (HAT.out.trans (by rw [HV.out])) ⟨rfl, rfl⟩
end Go.Proofs.Ytaclkofkajehpaa.V
