/-
  Contract: the reference's ReadNumber.
-/
import Derived.Test.YtaclkofkajehpaaVRdWalk
namespace Go.Proofs.Ytaclkofkajehpaa.V
open Go.RowKit

theorem refReadNumber_out (s : ByteArray) (p : Int) (w : World) (h : p < 0 ∨ (s.size : Int) < p) :
    Calls Try.prog 19 #[.string s, .int .i64 p] w fun e w' => e = .returned (.tuple #[.int .i64 0, .int .i64 0, .int .i64 3]) ∧ w = w' := by
  by_cases h0 : p < 0
  · go_enter Try.func19, Try.ntmps19
    go_wp2_with fail
    go_ret3
    exact ⟨rfl, rfl⟩
  · have h1 : (s.size : Int) < p := by omega
    go_enter Try.func19, Try.ntmps19
    go_wp2_with fail
    go_ret3
    exact ⟨rfl, rfl⟩

/-- What one step from the top does: at the place j of the digits. -/
theorem horner_of (s : ByteArray) (p k V : Nat) (hlt : p + k < s.size) (hV : val ((s.data.toList.drop p).take (k + 1)) = V) (hVL : V < 18446744073709551616) (_hs : s.size ≤ 140737488355328) :
    ∀ m, m ≤ k → ∃ (b U U' : Nat) (h : p + m < s.size), (s[p + m]'h).toNat = b ∧ b < 256 ∧ val (((s.data.toList.drop p).take (k + 1)).drop (m + 1)) = U ∧ val (((s.data.toList.drop p).take (k + 1)).drop m) = U' ∧
      IntKind.u64.wrap ((U : Int) * 128) = (U : Int) * 128 ∧ IntKind.u64.wrap ((U : Int) * 128 + (b : Int) % 128) = (U' : Int) := by
  intro m hm
  have hp : p + m < s.size := by omega
  have hlen : ((s.data.toList.drop p).take (k + 1)).length = k + 1 := by rw [List.length_take, List.length_drop, ← size_list]; omega
  have h1 := val_drop ((s.data.toList.drop p).take (k + 1)) m (by omega)
  have h2 := val_drop_le ((s.data.toList.drop p).take (k + 1)) m
  have hb : (((s.data.toList.drop p).take (k + 1))[m]'(by omega)).toNat = (s[p + m]'hp).toNat := by
    rw [List.getElem_take, List.getElem_drop]; rfl
  rw [hb] at h1
  rw [hV] at h2
  have hb256 := (s[p + m]'hp).toNat_lt
  refine ⟨_, _, _, hp, rfl, hb256, rfl, rfl, IntWalk.u64_in _ (by omega), ?_⟩
  rw [IntWalk.u64_in _ (by omega), h1]
  omega

set_option maxHeartbeats 1000000 in
set_option maxRecDepth 100000 in
theorem refReadNumber_in (s : ByteArray) (p : Nat) (w : World) (h : p ≤ s.size) (hs : s.size ≤ 140737488355328) :
    Calls Try.prog 19 #[.string s, .int .i64 p] w fun e w' => 
      e = .returned (.tuple #[.int .i64 (rdAt s.data.toList p).1, .int .i64 (rdAt s.data.toList p).2.1, .int .i64 (rdAt s.data.toList p).2.2]) ∧ w = w' := by
  have h0 : ¬ (p : Int) < 0 := by omega
  have h1 : ¬ (s.size : Int) < (p : Int) := by omega
  have hfin : ∀ (e : Ending) (w' : World) (x : Int × Int × Int), rdAt s.data.toList p = x → e = .returned (.tuple #[.int .i64 x.1, .int .i64 x.2.1, .int .i64 x.2.2]) ∧ w = w' → e = .returned (.tuple #[.int .i64 (rdAt s.data.toList p).1, .int .i64 (rdAt s.data.toList p).2.1, .int .i64 (rdAt s.data.toList p).2.2]) ∧ w = w' := by
    intro e w' x hx h; rw [hx]; exact h
  have HFIN := Lib.hid hfin; clear hfin
  have hat := rdAt_in s.data.toList p (by rw [← size_list]; exact h)
  have HAT := Lib.hid hat; clear hat
  go_enter Try.func19, Try.ntmps19
  go_wp2_with fail
  go_loop [7] (fun n => ∃ k : Nat, k ≤ 10 ∧ p + k ≤ s.size ∧ Hid (∀ j (hj : j < (s.data.toList.drop p).length), j < k → 128 ≤ (s.data.toList.drop p)[j].toNat) ∧ n = .int .i64 (k : Int)) (fun n => s.size - (intOf n).toNat)
  case atStart => exact ⟨0, by omega, by omega, fun j hj h => by omega, rfl⟩
  case round =>
    obtain ⟨k, hk10, hk, HHI, rfl⟩ := hrel
    have hlen : (s.data.toList.drop p).length = s.size - p := by rw [List.length_drop, ← size_list]
    have HLEN := Lib.hid hlen; clear hlen
    by_cases hk10' : k = 10
    · subst hk10'
      have hv := rd_ten (s.data.toList.drop p) HHI.out (by have := HLEN.out; omega)
      have HV := Lib.hid hv; clear hv
      have hge : decide ((10 : Int) ≤ 10) = true := by decide
      by_cases hlt : (p : Int) + 10 < (s.size : Int)
      all_goals
        go_wp2_with fail
        go_ret3
        exact HFIN.out _ _ _ (HAT.out.trans (by rw [HV.out])) ⟨rfl, rfl⟩
    · have hk9 : (k : Int) < 10 := by omega
      by_cases hlt : p + k < s.size
      · obtain ⟨b, hb, hget⟩ := byte_at s p k hlt
        have HGET := Lib.hid hget; clear hget
        have hb256 : (b : Int) < 256 := by have := (s[p + k]'hlt).toNat_lt; omega
        have hb0 : 0 ≤ (b : Int) := by omega
        by_cases h128 : 128 ≤ (b : Int)
        · go_wp2_with fail
          go_round
          case rel => exact ⟨k + 1, by omega, by omega, high_next _ _ HHI.out HGET.out (by omega), by go_num⟩
          case measure => simp [intOf]; omega
        · have hno : ¬ (b = 0 ∧ 0 < k) → ¬ (k = 9 ∧ 1 < b) → ∃ V : Nat, val ((s.data.toList.drop p).take (k + 1)) = V ∧ V < 18446744073709551616 ∧ rdAt s.data.toList p = (unzz V, (p : Int) + (k : Int) + 1, 0) := fun hz h9 => by
            have hv := rd_last (s.data.toList.drop p) k (by omega) HHI.out HGET.out (by omega) h9 hz
            have hvn := val_next (s.data.toList.drop p) k HGET.out
            rw [Nat.mod_eq_of_lt (show b < 128 by omega)] at hvn
            have hr : (rd (s.data.toList.drop p)).1 = 0 := by rw [hv]
            have hok := (rd_ok _ hr).2.2.2.1
            refine ⟨_, rfl, ?_, ?_⟩
            · rw [hvn]; rw [hv] at hok; exact hok
            · rw [HAT.out, hv, if_pos rfl, hvn]; simp; omega
          by_cases hzk : b = 0 ∧ 0 < k
          · have hv := rd_zero (s.data.toList.drop p) k (by omega) hzk.2 HHI.out (by have := HGET.out; rw [hzk.1] at this; exact this)
            have HV := Lib.hid hv; clear hv hno
            have hbz : ((b : Int) == 0) = true := by simp; omega
            have hb1 : ¬ 1 < (b : Int) := by omega
            have hk0 : 0 < (k : Int) := by omega
            by_cases h9 : k = 9
            · subst h9
              clear hzk
              go_wp2_with fail
              go_ret3
              exact HFIN.out _ _ _ (HAT.out.trans (by rw [HV.out])) ⟨rfl, rfl⟩
            · have h9' : ((k : Int) == 9) = false := by simp; omega
              clear hzk h9
              go_wp2_with fail
              go_ret3
              exact HFIN.out _ _ _ (HAT.out.trans (by rw [HV.out])) ⟨rfl, rfl⟩
          · by_cases h91 : k = 9 ∧ 1 < b
            · obtain ⟨rfl, h91⟩ := h91
              have hv := rd_nine (s.data.toList.drop p) HHI.out HGET.out h91
              have HV := Lib.hid hv; clear hv hno hzk
              have hb1 : 1 < (b : Int) := by omega
              go_wp2_with fail
              go_ret3
              exact HFIN.out _ _ _ (HAT.out.trans (by rw [HV.out])) ⟨rfl, rfl⟩
            · obtain ⟨V, hV, hVlt, hres⟩ := hno hzk h91
              clear hno
              have HV := Lib.hid hV; clear hV
              have HVL := Lib.hid hVlt; clear hVlt
              have HRES := Lib.hid hres; clear hres
              have HB := Lib.hid (And.intro hzk h91); clear hzk h91
              have hdb : decide (128 ≤ (b : Int)) = false := by simp; omega
              have hdk : decide (10 ≤ (k : Int)) = false := by simp; omega
              have hcase : (k = 9 ∧ ((k : Int) == 9) = true ∧ ((b : Int) == 0) = false) ∨ (((k : Int) == 9) = false ∧ ((b : Int) == 0) = true ∧ ¬ 0 < (k : Int)) ∨ (((k : Int) == 9) = false ∧ ((b : Int) == 0) = false) := by
                have := HB.out
                by_cases h9 : k = 9
                · left; refine ⟨h9, by simp [h9], by simp; omega⟩
                · right
                  by_cases hbz : b = 0
                  · left; refine ⟨by simp; omega, by simp [hbz], by omega⟩
                  · right; refine ⟨by simp; omega, by simp; omega⟩
              have horner := horner_of s p k V hlt HV.out HVL.out hs
              have HOR := Lib.hid horner; clear horner
              have hVi : IntKind.i64.wrap ((V : Int) / 2) = (V : Int) / 2 := IntWalk.i64_in _ (by have := HVL.out; omega)
              have hVh : (V : Int) / 2 ≤ 9223372036854775807 := by have := HVL.out; omega
              have hV0 : 0 ≤ (V : Int) := by omega
              rcases hcase with ⟨h9, hkn, hbn⟩ | ⟨hkn, hbn, hkz⟩ | ⟨hkn, hbn⟩
              · have hlt9 : p + 9 < s.size := by omega
                have hb9 : (s[p + 9]'hlt9).toNat = b := by rw [← hb]; congr 1; simp [h9]
                have hb1 : ¬ 1 < (b : Int) := by have := HB.out; omega
                have H9 := Lib.hid h9; clear h9
                go_wp2_with fail
                all_goals
                  clear hb
                  try clear hb9
                  go_loop [8, 9] (fun u i => ∃ I : Int, -1 ≤ I ∧ I ≤ k ∧ i = .int .i64 I ∧ ∃ U : Nat, u = .int .u64 (U : Int) ∧ Hid (val (((s.data.toList.drop p).take (k + 1)).drop (I + 1).toNat) = U)) (fun _ i => (intOf i + 1).toNat)
                  case atStart => exact ⟨k, by omega, by omega, rfl, 0, rfl, by show val (List.drop _ _) = 0; rw [List.drop_eq_nil_of_le (by rw [List.length_take]; omega)]; rfl⟩
                  case round =>
                    obtain ⟨I, hI1, hI2, rfl, U, rfl, HU⟩ := hrel
                    by_cases hI : 0 ≤ I
                    · obtain ⟨m, rfl⟩ := Int.eq_ofNat_of_zero_le hI
                      obtain ⟨b', U1, U', hm, hb', hb'1, hU1, hU', hw1, hw2⟩ := HOR.out m (by omega)
                      have hUU : U1 = U := by rw [← hU1, ← HU.out]; congr 2
                      subst hUU
                      have HU' := Lib.hid hU'; clear hU' hU1
                      have hb'0 : (b' : Int) < 256 := by omega
                      have hb'2 : 0 ≤ (b' : Int) := by omega
                      go_wp2_with fail
                      go_round
                      case rel => exact ⟨(m : Int) - 1, by omega, by omega, rfl, U', rfl, by show val _ = U'; rw [show ((m : Int) - 1 + 1).toNat = m by omega]; exact HU'.out⟩
                      case measure => simp [intOf] <;> omega
                    · have hIV : U = V := by rw [← HU.out, ← HV.out, show (I + 1).toNat = 0 by omega, List.drop_zero]
                      subst hIV
                      by_cases hpar : (U : Int) % 2 = 0
                      · have hpb : ((U : Int) % 2 == 0) = true := by simp [hpar]
                        have hun : unzz U = (U : Int) / 2 := by unfold unzz; rw [if_pos (by omega)]; omega
                        have HUN := Lib.hid hun; clear hun hpar
                        go_wp2_with fail
                        go_ret3
                        exact HFIN.out _ _ _ (HRES.out.trans (by rw [HUN.out])) ⟨rfl, rfl⟩
                      · have hpb : ((U : Int) % 2 == 0) = false := by simp [hpar]
                        have hun : unzz U = -((U : Int) / 2) - 1 := by unfold unzz; rw [if_neg (by omega)]; omega
                        have HUN := Lib.hid hun; clear hun hpar
                        go_wp2_with fail
                        go_ret3
                        exact HFIN.out _ _ _ (HRES.out.trans (by rw [HUN.out])) ⟨rfl, rfl⟩
              · have hkd : decide (0 < k) = false := by simp; omega
                go_wp2_with fail
                all_goals
                  clear hb
                  try clear hb9
                  go_loop [8, 9] (fun u i => ∃ I : Int, -1 ≤ I ∧ I ≤ k ∧ i = .int .i64 I ∧ ∃ U : Nat, u = .int .u64 (U : Int) ∧ Hid (val (((s.data.toList.drop p).take (k + 1)).drop (I + 1).toNat) = U)) (fun _ i => (intOf i + 1).toNat)
                  case atStart => exact ⟨k, by omega, by omega, rfl, 0, rfl, by show val (List.drop _ _) = 0; rw [List.drop_eq_nil_of_le (by rw [List.length_take]; omega)]; rfl⟩
                  case round =>
                    obtain ⟨I, hI1, hI2, rfl, U, rfl, HU⟩ := hrel
                    by_cases hI : 0 ≤ I
                    · obtain ⟨m, rfl⟩ := Int.eq_ofNat_of_zero_le hI
                      obtain ⟨b', U1, U', hm, hb', hb'1, hU1, hU', hw1, hw2⟩ := HOR.out m (by omega)
                      have hUU : U1 = U := by rw [← hU1, ← HU.out]; congr 2
                      subst hUU
                      have HU' := Lib.hid hU'; clear hU' hU1
                      have hb'0 : (b' : Int) < 256 := by omega
                      have hb'2 : 0 ≤ (b' : Int) := by omega
                      go_wp2_with fail
                      go_round
                      case rel => exact ⟨(m : Int) - 1, by omega, by omega, rfl, U', rfl, by show val _ = U'; rw [show ((m : Int) - 1 + 1).toNat = m by omega]; exact HU'.out⟩
                      case measure => simp [intOf] <;> omega
                    · have hIV : U = V := by rw [← HU.out, ← HV.out, show (I + 1).toNat = 0 by omega, List.drop_zero]
                      subst hIV
                      by_cases hpar : (U : Int) % 2 = 0
                      · have hpb : ((U : Int) % 2 == 0) = true := by simp [hpar]
                        have hun : unzz U = (U : Int) / 2 := by unfold unzz; rw [if_pos (by omega)]; omega
                        have HUN := Lib.hid hun; clear hun hpar
                        go_wp2_with fail
                        go_ret3
                        exact HFIN.out _ _ _ (HRES.out.trans (by rw [HUN.out])) ⟨rfl, rfl⟩
                      · have hpb : ((U : Int) % 2 == 0) = false := by simp [hpar]
                        have hun : unzz U = -((U : Int) / 2) - 1 := by unfold unzz; rw [if_neg (by omega)]; omega
                        have HUN := Lib.hid hun; clear hun hpar
                        go_wp2_with fail
                        go_ret3
                        exact HFIN.out _ _ _ (HRES.out.trans (by rw [HUN.out])) ⟨rfl, rfl⟩
              · go_wp2_with fail
                all_goals
                  clear hb
                  try clear hb9
                  go_loop [8, 9] (fun u i => ∃ I : Int, -1 ≤ I ∧ I ≤ k ∧ i = .int .i64 I ∧ ∃ U : Nat, u = .int .u64 (U : Int) ∧ Hid (val (((s.data.toList.drop p).take (k + 1)).drop (I + 1).toNat) = U)) (fun _ i => (intOf i + 1).toNat)
                  case atStart => exact ⟨k, by omega, by omega, rfl, 0, rfl, by show val (List.drop _ _) = 0; rw [List.drop_eq_nil_of_le (by rw [List.length_take]; omega)]; rfl⟩
                  case round =>
                    obtain ⟨I, hI1, hI2, rfl, U, rfl, HU⟩ := hrel
                    by_cases hI : 0 ≤ I
                    · obtain ⟨m, rfl⟩ := Int.eq_ofNat_of_zero_le hI
                      obtain ⟨b', U1, U', hm, hb', hb'1, hU1, hU', hw1, hw2⟩ := HOR.out m (by omega)
                      have hUU : U1 = U := by rw [← hU1, ← HU.out]; congr 2
                      subst hUU
                      have HU' := Lib.hid hU'; clear hU' hU1
                      have hb'0 : (b' : Int) < 256 := by omega
                      have hb'2 : 0 ≤ (b' : Int) := by omega
                      go_wp2_with fail
                      go_round
                      case rel => exact ⟨(m : Int) - 1, by omega, by omega, rfl, U', rfl, by show val _ = U'; rw [show ((m : Int) - 1 + 1).toNat = m by omega]; exact HU'.out⟩
                      case measure => simp [intOf] <;> omega
                    · have hIV : U = V := by rw [← HU.out, ← HV.out, show (I + 1).toNat = 0 by omega, List.drop_zero]
                      subst hIV
                      by_cases hpar : (U : Int) % 2 = 0
                      · have hpb : ((U : Int) % 2 == 0) = true := by simp [hpar]
                        have hun : unzz U = (U : Int) / 2 := by unfold unzz; rw [if_pos (by omega)]; omega
                        have HUN := Lib.hid hun; clear hun hpar
                        go_wp2_with fail
                        go_ret3
                        exact HFIN.out _ _ _ (HRES.out.trans (by rw [HUN.out])) ⟨rfl, rfl⟩
                      · have hpb : ((U : Int) % 2 == 0) = false := by simp [hpar]
                        have hun : unzz U = -((U : Int) / 2) - 1 := by unfold unzz; rw [if_neg (by omega)]; omega
                        have HUN := Lib.hid hun; clear hun hpar
                        go_wp2_with fail
                        go_ret3
                        exact HFIN.out _ _ _ (HRES.out.trans (by rw [HUN.out])) ⟨rfl, rfl⟩
      · have hv := rd_end (s.data.toList.drop p) k (by omega) HHI.out (by have := HLEN.out; omega)
        have HV := Lib.hid hv; clear hv
        have hkn : ((k : Int) == 9) = false ∨ k = 9 := by by_cases h : k = 9 <;> simp [h]; omega
        rcases hkn with hkn | hkn
        · go_wp2_with fail
          go_ret3
          exact HFIN.out _ _ _ (HAT.out.trans (by rw [HV.out])) ⟨rfl, rfl⟩
        · subst hkn
          go_wp2_with fail
          go_ret3
          exact HFIN.out _ _ _ (HAT.out.trans (by rw [HV.out])) ⟨rfl, rfl⟩
end Go.Proofs.Ytaclkofkajehpaa.V
