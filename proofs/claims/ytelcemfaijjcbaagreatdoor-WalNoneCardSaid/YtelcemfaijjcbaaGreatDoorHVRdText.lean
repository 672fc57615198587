/-
  Contract: the reference's ReadNumber.
  Contracts at any place; the statement's 'awake'.
  Plain mathematics: counts, texts and lists that stand in bytes. No program is named here.
  The library's strings.Builder (WriteString, String) and Clone at this dump: each one application of the shelf's own theorem.
  Contracts: counts and texts, the program's and the reference's.
-/
import Derived.Test.YtelcemfaijjcbaaGreatDoorHVRdWalk
import Derived.Shelf.Strings.Builder1
import Derived.Shelf.LaysM
import Derived.Shelf.Strconv.Clone
import Derived.Test.YtelcemfaijjcbaaGreatDoorProg
namespace Go.Proofs.YtelcemfaijjcbaaGreatDoor.V
open Go.RowKit

theorem refReadNumber_out (s : ByteArray) (p : Int) (w : World) (h : p < 0 ∨ (s.size : Int) < p) :
    Calls Tryz.prog 28 #[.string s, .int .i64 p] w fun e w' => e = .returned (.tuple #[.int .i64 0, .int .i64 0, .int .i64 3]) ∧ w = w' := by
  by_cases h0 : p < 0
  · go_enter Tryz.func28, Tryz.ntmps28
    go_wp2_with fail
    go_ret3
    exact ⟨rfl, rfl⟩
  · have h1 : (s.size : Int) < p := by omega
    go_enter Tryz.func28, Tryz.ntmps28
    go_wp2_with fail
    go_ret3
    exact ⟨rfl, rfl⟩

/-- What one step from the top does: at the place j of the digits. -/
theorem horner_of (s : ByteArray) (p k V : Nat) (hlt : p + k < s.size) (hV : val ((s.data.toList.drop p).take (k + 1)) = V) (hVL : V < 18446744073709551616) (_hs : s.size ≤ 140737488355328) :
    ∀ m, m ≤ k → ∃ (b U U' : Nat) (h : p + m < s.size), (s[p + m]'h).toNat = b ∧ b < 256 ∧ val (((s.data.toList.drop p).take (k + 1)).drop (m + 1)) = U ∧ val (((s.data.toList.drop p).take (k + 1)).drop m) = U' ∧
      IntKind.u64.wrap ((U : Int) * 128) = (U : Int) * 128 ∧ IntKind.u64.wrap ((U : Int) * 128 + (b : Int) % 128) = (U' : Int) := by
  intro m hm
  have hp : p + m < s.size := by omega
  have hlen : ((s.data.toList.drop p).take (k + 1)).length = k + 1 := by rw [List.length_take, List.length_drop, ← size_list]; omega
  have h1 := val_drop ((s.data.toList.drop p).take (k + 1)) m (by omega)
  have h2 := val_drop_le ((s.data.toList.drop p).take (k + 1)) m
  have hb : (((s.data.toList.drop p).take (k + 1))[m]'(by omega)).toNat = (s[p + m]'hp).toNat := by
    rw [List.getElem_take, List.getElem_drop]; rfl
  rw [hb] at h1
  rw [hV] at h2
  have hb256 := (s[p + m]'hp).toNat_lt
  refine ⟨_, _, _, hp, rfl, hb256, rfl, rfl, IntWalk.u64_in _ (by omega), ?_⟩
  rw [IntWalk.u64_in _ (by omega), h1]
  omega

set_option maxHeartbeats 1000000 in
set_option maxRecDepth 100000 in
theorem refReadNumber_in (s : ByteArray) (p : Nat) (w : World) (h : p ≤ s.size) (hs : s.size ≤ 140737488355328) :
    Calls Tryz.prog 28 #[.string s, .int .i64 p] w fun e w' => 
      e = .returned (.tuple #[.int .i64 (rdAt s.data.toList p).1, .int .i64 (rdAt s.data.toList p).2.1, .int .i64 (rdAt s.data.toList p).2.2]) ∧ w = w' := by
  have h0 : ¬ (p : Int) < 0 := by omega
  have h1 : ¬ (s.size : Int) < (p : Int) := by omega
  have hfin : ∀ (e : Ending) (w' : World) (x : Int × Int × Int), rdAt s.data.toList p = x → e = .returned (.tuple #[.int .i64 x.1, .int .i64 x.2.1, .int .i64 x.2.2]) ∧ w = w' → e = .returned (.tuple #[.int .i64 (rdAt s.data.toList p).1, .int .i64 (rdAt s.data.toList p).2.1, .int .i64 (rdAt s.data.toList p).2.2]) ∧ w = w' := by
    intro e w' x hx h; rw [hx]; exact h
  have HFIN := Lib.hid hfin; clear hfin
  have hat := rdAt_in s.data.toList p (by rw [← size_list]; exact h)
  have HAT := Lib.hid hat; clear hat
  go_enter Tryz.func28, Tryz.ntmps28
  go_wp2_with fail
  go_loop [7] (fun n => ∃ k : Nat, k ≤ 10 ∧ p + k ≤ s.size ∧ Hid (∀ j (hj : j < (s.data.toList.drop p).length), j < k → 128 ≤ (s.data.toList.drop p)[j].toNat) ∧ n = .int .i64 (k : Int)) (fun n => s.size - (intOf n).toNat)
  case atStart => exact ⟨0, by omega, by omega, fun j hj h => by omega, rfl⟩
  case round =>
    obtain ⟨k, hk10, hk, HHI, rfl⟩ := hrel
    have hlen : (s.data.toList.drop p).length = s.size - p := by rw [List.length_drop, ← size_list]
    have HLEN := Lib.hid hlen; clear hlen
    by_cases hk10' : k = 10
    · subst hk10'
      have hv := rd_ten (s.data.toList.drop p) HHI.out (by have := HLEN.out; omega)
      have HV := Lib.hid hv; clear hv
      have hge : decide ((10 : Int) ≤ 10) = true := by decide
      by_cases hlt : (p : Int) + 10 < (s.size : Int)
      all_goals
        go_wp2_with fail
        go_ret3
        exact HFIN.out _ _ _ (HAT.out.trans (by rw [HV.out])) ⟨rfl, rfl⟩
    · have hk9 : (k : Int) < 10 := by omega
      by_cases hlt : p + k < s.size
      · obtain ⟨b, hb, hget⟩ := byte_at s p k hlt
        have HGET := Lib.hid hget; clear hget
        have hb256 : (b : Int) < 256 := by have := (s[p + k]'hlt).toNat_lt; omega
        have hb0 : 0 ≤ (b : Int) := by omega
        by_cases h128 : 128 ≤ (b : Int)
        · go_wp2_with fail
          go_round
          case rel => exact ⟨k + 1, by omega, by omega, high_next _ _ HHI.out HGET.out (by omega), by go_num⟩
          case measure => simp [intOf]; omega
        · have hno : ¬ (b = 0 ∧ 0 < k) → ¬ (k = 9 ∧ 1 < b) → ∃ V : Nat, val ((s.data.toList.drop p).take (k + 1)) = V ∧ V < 18446744073709551616 ∧ rdAt s.data.toList p = (unzz V, (p : Int) + (k : Int) + 1, 0) := fun hz h9 => by
            have hv := rd_last (s.data.toList.drop p) k (by omega) HHI.out HGET.out (by omega) h9 hz
            have hvn := val_next (s.data.toList.drop p) k HGET.out
            rw [Nat.mod_eq_of_lt (show b < 128 by omega)] at hvn
            have hr : (rd (s.data.toList.drop p)).1 = 0 := by rw [hv]
            have hok := (rd_ok _ hr).2.2.2.1
            refine ⟨_, rfl, ?_, ?_⟩
            · rw [hvn]; rw [hv] at hok; exact hok
            · rw [HAT.out, hv, if_pos rfl, hvn]; simp; omega
          by_cases hzk : b = 0 ∧ 0 < k
          · have hv := rd_zero (s.data.toList.drop p) k (by omega) hzk.2 HHI.out (by have := HGET.out; rw [hzk.1] at this; exact this)
            have HV := Lib.hid hv; clear hv hno
            have hbz : ((b : Int) == 0) = true := by simp; omega
            have hb1 : ¬ 1 < (b : Int) := by omega
            have hk0 : 0 < (k : Int) := by omega
            by_cases h9 : k = 9
            · subst h9
              clear hzk
              go_wp2_with fail
              go_ret3
              exact HFIN.out _ _ _ (HAT.out.trans (by rw [HV.out])) ⟨rfl, rfl⟩
            · have h9' : ((k : Int) == 9) = false := by simp; omega
              clear hzk h9
              go_wp2_with fail
              go_ret3
              exact HFIN.out _ _ _ (HAT.out.trans (by rw [HV.out])) ⟨rfl, rfl⟩
          · by_cases h91 : k = 9 ∧ 1 < b
            · obtain ⟨rfl, h91⟩ := h91
              have hv := rd_nine (s.data.toList.drop p) HHI.out HGET.out h91
              have HV := Lib.hid hv; clear hv hno hzk
              have hb1 : 1 < (b : Int) := by omega
              go_wp2_with fail
              go_ret3
              exact HFIN.out _ _ _ (HAT.out.trans (by rw [HV.out])) ⟨rfl, rfl⟩
            · obtain ⟨V, hV, hVlt, hres⟩ := hno hzk h91
              clear hno
              have HV := Lib.hid hV; clear hV
              have HVL := Lib.hid hVlt; clear hVlt
              have HRES := Lib.hid hres; clear hres
              have HB := Lib.hid (And.intro hzk h91); clear hzk h91
              have hdb : decide (128 ≤ (b : Int)) = false := by simp; omega
              have hdk : decide (10 ≤ (k : Int)) = false := by simp; omega
              have hcase : (k = 9 ∧ ((k : Int) == 9) = true ∧ ((b : Int) == 0) = false) ∨ (((k : Int) == 9) = false ∧ ((b : Int) == 0) = true ∧ ¬ 0 < (k : Int)) ∨ (((k : Int) == 9) = false ∧ ((b : Int) == 0) = false) := by
                have := HB.out
                by_cases h9 : k = 9
                · left; refine ⟨h9, by simp [h9], by simp; omega⟩
                · right
                  by_cases hbz : b = 0
                  · left; refine ⟨by simp; omega, by simp [hbz], by omega⟩
                  · right; refine ⟨by simp; omega, by simp; omega⟩
              have horner := horner_of s p k V hlt HV.out HVL.out hs
              have HOR := Lib.hid horner; clear horner
              have hVi : IntKind.i64.wrap ((V : Int) / 2) = (V : Int) / 2 := IntWalk.i64_in _ (by have := HVL.out; omega)
              have hVh : (V : Int) / 2 ≤ 9223372036854775807 := by have := HVL.out; omega
              have hV0 : 0 ≤ (V : Int) := by omega
              rcases hcase with ⟨h9, hkn, hbn⟩ | ⟨hkn, hbn, hkz⟩ | ⟨hkn, hbn⟩
              · have hlt9 : p + 9 < s.size := by omega
                have hb9 : (s[p + 9]'hlt9).toNat = b := by rw [← hb]; congr 1; simp [h9]
                have hb1 : ¬ 1 < (b : Int) := by have := HB.out; omega
                have H9 := Lib.hid h9; clear h9
                go_wp2_with fail
                all_goals
                  clear hb
                  try clear hb9
                  go_loop [8, 9] (fun u i => ∃ I : Int, -1 ≤ I ∧ I ≤ k ∧ i = .int .i64 I ∧ ∃ U : Nat, u = .int .u64 (U : Int) ∧ Hid (val (((s.data.toList.drop p).take (k + 1)).drop (I + 1).toNat) = U)) (fun _ i => (intOf i + 1).toNat)
                  case atStart => exact ⟨k, by omega, by omega, rfl, 0, rfl, by show val (List.drop _ _) = 0; rw [List.drop_eq_nil_of_le (by rw [List.length_take]; omega)]; rfl⟩
                  case round =>
                    obtain ⟨I, hI1, hI2, rfl, U, rfl, HU⟩ := hrel
                    by_cases hI : 0 ≤ I
                    · obtain ⟨m, rfl⟩ := Int.eq_ofNat_of_zero_le hI
                      obtain ⟨b', U1, U', hm, hb', hb'1, hU1, hU', hw1, hw2⟩ := HOR.out m (by omega)
                      have hUU : U1 = U := by rw [← hU1, ← HU.out]; congr 2
                      subst hUU
                      have HU' := Lib.hid hU'; clear hU' hU1
                      have hb'0 : (b' : Int) < 256 := by omega
                      have hb'2 : 0 ≤ (b' : Int) := by omega
                      go_wp2_with fail
                      go_round
                      case rel => exact ⟨(m : Int) - 1, by omega, by omega, rfl, U', rfl, by show val _ = U'; rw [show ((m : Int) - 1 + 1).toNat = m by omega]; exact HU'.out⟩
                      case measure => simp [intOf] <;> omega
                    · have hIV : U = V := by rw [← HU.out, ← HV.out, show (I + 1).toNat = 0 by omega, List.drop_zero]
                      subst hIV
                      by_cases hpar : (U : Int) % 2 = 0
                      · have hpb : ((U : Int) % 2 == 0) = true := by simp [hpar]
                        have hun : unzz U = (U : Int) / 2 := by unfold unzz; rw [if_pos (by omega)]; omega
                        have HUN := Lib.hid hun; clear hun hpar
                        go_wp2_with fail
                        go_ret3
                        exact HFIN.out _ _ _ (HRES.out.trans (by rw [HUN.out])) ⟨rfl, rfl⟩
                      · have hpb : ((U : Int) % 2 == 0) = false := by simp [hpar]
                        have hun : unzz U = -((U : Int) / 2) - 1 := by unfold unzz; rw [if_neg (by omega)]; omega
                        have HUN := Lib.hid hun; clear hun hpar
                        go_wp2_with fail
                        go_ret3
                        exact HFIN.out _ _ _ (HRES.out.trans (by rw [HUN.out])) ⟨rfl, rfl⟩
              · have hkd : decide (0 < k) = false := by simp; omega
                go_wp2_with fail
                all_goals
                  clear hb
                  try clear hb9
                  go_loop [8, 9] (fun u i => ∃ I : Int, -1 ≤ I ∧ I ≤ k ∧ i = .int .i64 I ∧ ∃ U : Nat, u = .int .u64 (U : Int) ∧ Hid (val (((s.data.toList.drop p).take (k + 1)).drop (I + 1).toNat) = U)) (fun _ i => (intOf i + 1).toNat)
                  case atStart => exact ⟨k, by omega, by omega, rfl, 0, rfl, by show val (List.drop _ _) = 0; rw [List.drop_eq_nil_of_le (by rw [List.length_take]; omega)]; rfl⟩
                  case round =>
                    obtain ⟨I, hI1, hI2, rfl, U, rfl, HU⟩ := hrel
                    by_cases hI : 0 ≤ I
                    · obtain ⟨m, rfl⟩ := Int.eq_ofNat_of_zero_le hI
                      obtain ⟨b', U1, U', hm, hb', hb'1, hU1, hU', hw1, hw2⟩ := HOR.out m (by omega)
                      have hUU : U1 = U := by rw [← hU1, ← HU.out]; congr 2
                      subst hUU
                      have HU' := Lib.hid hU'; clear hU' hU1
                      have hb'0 : (b' : Int) < 256 := by omega
                      have hb'2 : 0 ≤ (b' : Int) := by omega
                      go_wp2_with fail
                      go_round
                      case rel => exact ⟨(m : Int) - 1, by omega, by omega, rfl, U', rfl, by show val _ = U'; rw [show ((m : Int) - 1 + 1).toNat = m by omega]; exact HU'.out⟩
                      case measure => simp [intOf] <;> omega
                    · have hIV : U = V := by rw [← HU.out, ← HV.out, show (I + 1).toNat = 0 by omega, List.drop_zero]
                      subst hIV
                      by_cases hpar : (U : Int) % 2 = 0
                      · have hpb : ((U : Int) % 2 == 0) = true := by simp [hpar]
                        have hun : unzz U = (U : Int) / 2 := by unfold unzz; rw [if_pos (by omega)]; omega
                        have HUN := Lib.hid hun; clear hun hpar
                        go_wp2_with fail
                        go_ret3
                        exact HFIN.out _ _ _ (HRES.out.trans (by rw [HUN.out])) ⟨rfl, rfl⟩
                      · have hpb : ((U : Int) % 2 == 0) = false := by simp [hpar]
                        have hun : unzz U = -((U : Int) / 2) - 1 := by unfold unzz; rw [if_neg (by omega)]; omega
                        have HUN := Lib.hid hun; clear hun hpar
                        go_wp2_with fail
                        go_ret3
                        exact HFIN.out _ _ _ (HRES.out.trans (by rw [HUN.out])) ⟨rfl, rfl⟩
              · go_wp2_with fail
                all_goals
                  clear hb
                  try clear hb9
                  go_loop [8, 9] (fun u i => ∃ I : Int, -1 ≤ I ∧ I ≤ k ∧ i = .int .i64 I ∧ ∃ U : Nat, u = .int .u64 (U : Int) ∧ Hid (val (((s.data.toList.drop p).take (k + 1)).drop (I + 1).toNat) = U)) (fun _ i => (intOf i + 1).toNat)
                  case atStart => exact ⟨k, by omega, by omega, rfl, 0, rfl, by show val (List.drop _ _) = 0; rw [List.drop_eq_nil_of_le (by rw [List.length_take]; omega)]; rfl⟩
                  case round =>
                    obtain ⟨I, hI1, hI2, rfl, U, rfl, HU⟩ := hrel
                    by_cases hI : 0 ≤ I
                    · obtain ⟨m, rfl⟩ := Int.eq_ofNat_of_zero_le hI
                      obtain ⟨b', U1, U', hm, hb', hb'1, hU1, hU', hw1, hw2⟩ := HOR.out m (by omega)
                      have hUU : U1 = U := by rw [← hU1, ← HU.out]; congr 2
                      subst hUU
                      have HU' := Lib.hid hU'; clear hU' hU1
                      have hb'0 : (b' : Int) < 256 := by omega
                      have hb'2 : 0 ≤ (b' : Int) := by omega
                      go_wp2_with fail
                      go_round
                      case rel => exact ⟨(m : Int) - 1, by omega, by omega, rfl, U', rfl, by show val _ = U'; rw [show ((m : Int) - 1 + 1).toNat = m by omega]; exact HU'.out⟩
                      case measure => simp [intOf] <;> omega
                    · have hIV : U = V := by rw [← HU.out, ← HV.out, show (I + 1).toNat = 0 by omega, List.drop_zero]
                      subst hIV
                      by_cases hpar : (U : Int) % 2 = 0
                      · have hpb : ((U : Int) % 2 == 0) = true := by simp [hpar]
                        have hun : unzz U = (U : Int) / 2 := by unfold unzz; rw [if_pos (by omega)]; omega
                        have HUN := Lib.hid hun; clear hun hpar
                        go_wp2_with fail
                        go_ret3
                        exact HFIN.out _ _ _ (HRES.out.trans (by rw [HUN.out])) ⟨rfl, rfl⟩
                      · have hpb : ((U : Int) % 2 == 0) = false := by simp [hpar]
                        have hun : unzz U = -((U : Int) / 2) - 1 := by unfold unzz; rw [if_neg (by omega)]; omega
                        have HUN := Lib.hid hun; clear hun hpar
                        go_wp2_with fail
                        go_ret3
                        exact HFIN.out _ _ _ (HRES.out.trans (by rw [HUN.out])) ⟨rfl, rfl⟩
      · have hv := rd_end (s.data.toList.drop p) k (by omega) HHI.out (by have := HLEN.out; omega)
        have HV := Lib.hid hv; clear hv
        have hkn : ((k : Int) == 9) = false ∨ k = 9 := by by_cases h : k = 9 <;> simp [h]; omega
        rcases hkn with hkn | hkn
        · go_wp2_with fail
          go_ret3
          exact HFIN.out _ _ _ (HAT.out.trans (by rw [HV.out])) ⟨rfl, rfl⟩
        · subst hkn
          go_wp2_with fail
          go_ret3
          exact HFIN.out _ _ _ (HAT.out.trans (by rw [HV.out])) ⟨rfl, rfl⟩
end Go.Proofs.YtelcemfaijjcbaaGreatDoor.V

namespace Go.Proofs.YtelcemfaijjcbaaGreatDoor.V
open Go.RowKit

theorem rdAt_out (l : List UInt8) (p : Int) (h : p < 0 ∨ (l.length : Int) < p) : rdAt l p = (0, 0, 3) := by unfold rdAt; rw [if_pos h]

theorem readNumber_any (s : ByteArray) (p : Int) (w : World) (hs : s.size ≤ 140737488355328) :
    Calls Tryz.prog 73 #[.string s, .int .i64 p] w fun e w' => 
      e = .returned (.tuple #[.int .i64 (rdAt s.data.toList p).1, .int .i64 (rdAt s.data.toList p).2.1, .int .i64 (rdAt s.data.toList p).2.2]) ∧ w = w' := by
  by_cases h : p < 0 ∨ (s.size : Int) < p
  · rw [rdAt_out _ _ (by rw [← size_list]; exact h)]
    exact readNumber_out s p w h
  · obtain ⟨k, rfl⟩ := Int.eq_ofNat_of_zero_le (show 0 ≤ p by omega)
    exact readNumber_in s k w (by omega) hs

theorem refReadNumber_any (s : ByteArray) (p : Int) (w : World) (hs : s.size ≤ 140737488355328) :
    Calls Tryz.prog 28 #[.string s, .int .i64 p] w fun e w' => 
      e = .returned (.tuple #[.int .i64 (rdAt s.data.toList p).1, .int .i64 (rdAt s.data.toList p).2.1, .int .i64 (rdAt s.data.toList p).2.2]) ∧ w = w' := by
  by_cases h : p < 0 ∨ (s.size : Int) < p
  · rw [rdAt_out _ _ (by rw [← size_list]; exact h)]
    exact refReadNumber_out s p w h
  · obtain ⟨k, rfl⟩ := Int.eq_ofNat_of_zero_le (show 0 ≤ p by omega)
    exact refReadNumber_in s k w (by omega) hs

theorem rd_first : rdAt [216, 4] 0 = (300, 2, 0) := by decide
theorem rd_second : rdAt [128, 0] 0 = (0, 0, 6) := by decide
theorem num_first : num (-1) = [1] := by
  unfold num
  rw [show Lib.zigzag (-1) = 1 by decide, Lib.uvarint_small (by decide)]
  rfl
theorem num_second : num 64 = [128, 1] := by
  unfold num
  rw [show Lib.zigzag 64 = 128 by decide, Lib.uvarint_big (by decide), Lib.uvarint_small (by decide)]
  rfl

end Go.Proofs.YtelcemfaijjcbaaGreatDoor.V

namespace Go.Proofs.YtelcemfaijjcbaaGreatDoor.V
open Go

/-- A number that says how many follow. -/
def countOf (r : Int × Int × Int) (most : Int) : Int × Int × Int :=
  if r.2.2 ≠ 0 then (0, 0, r.2.2) else if r.1 < 0 then (0, 0, 6) else if most < r.1 then (0, 0, 4) else (r.1, r.2.1, 0)
def count (s : List UInt8) (p most : Int) : Int × Int × Int := countOf (rdAt s p) most

/-- A text at a place. -/
def txtOf (s : List UInt8) (c : Int × Int × Int) : List UInt8 × Int × Int :=
  if c.2.2 ≠ 0 then ([], 0, c.2.2) else if (s.length : Int) - c.2.1 < c.1 then ([], 0, 5) else ((s.drop c.2.1.toNat).take c.1.toNat, c.2.1 + c.1, 0)
def txt (s : List UInt8) (p : Int) : List UInt8 × Int × Int := txtOf s (count s p 4096)

/-- So many items, one behind the other. -/
def app {α : Type} (pre : List α) (r : List α × Int × Int) : List α × Int × Int := if r.2.2 ≠ 0 then ([], 0, r.2.2) else (pre ++ r.1, r.2.1, 0)
def items {α : Type} (item : Int → α × Int × Int) : Nat → Int → List α × Int × Int
  | 0, p => ([], p, 0)
  | k + 1, p => if (item p).2.2 ≠ 0 then ([], 0, (item p).2.2) else app [(item p).1] (items item k (item p).2.1)
def listOf {α : Type} (item : Int → α × Int × Int) (c : Int × Int × Int) : List α × Int × Int := if c.2.2 ≠ 0 then ([], 0, c.2.2) else items item c.1.toNat c.2.1
def nums (s : List UInt8) (p : Int) : List Int × Int × Int := listOf (rdAt s) (count s p 256)
def txts (s : List UInt8) (p : Int) : List (List UInt8) × Int × Int := listOf (txt s) (count s p 256)

theorem app_app {α : Type} (a b : List α) (r : List α × Int × Int) : app a (app b r) = app (a ++ b) r := by
  unfold app
  by_cases h : r.2.2 = 0 <;> simp [h]
theorem app_err {α : Type} (a : List α) {e : Int} (h : e ≠ 0) : app a (([] : List α), (0 : Int), e) = ([], 0, e) := by simp [app, h]
theorem app_nil {α : Type} (a : List α) (q : Int) : app a (([] : List α), q, 0) = (a, q, 0) := by simp [app]
theorem items_err {α : Type} (item : Int → α × Int × Int) (k : Nat) (p : Int) {x : α} {q e : Int} (h : item p = (x, q, e)) (he : e ≠ 0) : items item (k + 1) p = ([], 0, e) := by
  simp [items, h, he]
theorem items_next {α : Type} (item : Int → α × Int × Int) (k : Nat) (p : Int) {x : α} {q : Int} (h : item p = (x, q, 0)) : items item (k + 1) p = app [x] (items item k q) := by
  simp [items, h]
/-- What an error's answer is. -/
theorem items_zero {α : Type} (item : Int → α × Int × Int) (k : Nat) (p : Int) : (items item k p).2.2 ≠ 0 → items item k p = ([], 0, (items item k p).2.2) := by
  cases k with
  | zero => intro h; exact absurd rfl h
  | succ k =>
    simp only [items]
    intro h
    split
    · rfl
    · rename_i h1
      simp only [h1, if_false] at h ⊢
      unfold app at h ⊢
      split
      · rfl
      · rename_i h2; simp [h2] at h

theorem app_id {α : Type} (r : List α × Int × Int) (h : r.2.2 ≠ 0 → r = ([], 0, r.2.2)) : app [] r = r := by
  unfold app
  by_cases h0 : r.2.2 = 0
  · rw [if_neg (by simp [h0])]; obtain ⟨l, q, e⟩ := r; simp at h0 ⊢; exact h0.symm
  · rw [if_pos h0]; exact (h h0).symm

theorem items_len {α : Type} (item : Int → α × Int × Int) : ∀ (k : Nat) (p : Int), (items item k p).1.length ≤ k
  | 0, p => Nat.le_refl _
  | k + 1, p => by
    have := items_len item k (item p).2.1
    simp only [items]
    split
    · simp
    · unfold app
      split
      · simp
      · simp; omega

theorem rdAt_ok (s : List UInt8) (p : Int) {x q : Int} (h : rdAt s p = (x, q, 0)) :
    0 ≤ p ∧ p < q ∧ q ≤ s.length ∧ q ≤ p + 10 ∧ x = unzz (rd (s.drop p.toNat)).2.1 ∧ q = p + (rd (s.drop p.toNat)).2.2 ∧ (rd (s.drop p.toNat)).1 = 0 := by
  unfold rdAt at h
  by_cases hp : p < 0 ∨ (s.length : Int) < p
  · rw [if_pos hp] at h; simp at h
  · rw [if_neg hp] at h
    by_cases h0 : (rd (s.drop p.toNat)).1 = 0
    · rw [if_pos h0] at h
      have hok := rd_ok _ h0
      simp only [Prod.mk.injEq, and_true] at h
      have h1 := hok.1
      rw [List.length_drop] at h1
      exact ⟨by omega, by omega, by omega, by omega, h.1.symm, h.2.symm, h0⟩
    · rw [if_neg h0] at h
      simp only [Prod.mk.injEq] at h
      omega

theorem rdAt_err (s : List UInt8) (p : Int) {x q e : Int} (h : rdAt s p = (x, q, e)) (he : e ≠ 0) : x = 0 ∧ q = 0 := by
  unfold rdAt at h
  split at h
  · simp only [Prod.mk.injEq] at h; exact ⟨h.1.symm, h.2.1.symm⟩
  · split at h
    · simp only [Prod.mk.injEq] at h; exact absurd h.2.2.symm he
    · simp only [Prod.mk.injEq] at h; exact ⟨h.1.symm, h.2.1.symm⟩

theorem unzz_bounds (u : Nat) (h : u < 18446744073709551616) : -9223372036854775808 ≤ unzz u ∧ unzz u ≤ 9223372036854775807 := by
  unfold unzz
  split <;> omega

theorem rdAt_bounds (s : List UInt8) (p : Int) {x q : Int} (h : rdAt s p = (x, q, 0)) : -9223372036854775808 ≤ x ∧ x ≤ 9223372036854775807 := by
  have h1 := rdAt_ok s p h
  rw [h1.2.2.2.2.1]
  exact unzz_bounds _ (rd_ok _ h1.2.2.2.2.2.2).2.2.2.1

theorem count_ok (s : List UInt8) (p most : Int) {n q : Int} (h : count s p most = (n, q, 0)) : 0 ≤ n ∧ n ≤ most ∧ p < q ∧ 0 ≤ q ∧ q ≤ s.length ∧ rdAt s p = (n, q, 0) := by
  unfold count countOf at h
  by_cases h0 : (rdAt s p).2.2 = 0
  · have hr : rdAt s p = ((rdAt s p).1, (rdAt s p).2.1, 0) := by rw [← h0]
    have hok := rdAt_ok s p hr
    simp only [h0, ne_eq, not_true, if_false] at h
    split at h
    · simp at h
    · split at h
      · simp at h
      · simp only [Prod.mk.injEq, and_true] at h
        obtain ⟨rfl, rfl⟩ := h
        exact ⟨by omega, by omega, hok.2.1, by omega, hok.2.2.1, hr⟩
  · simp only [ne_eq, h0, not_false_eq_true, if_true] at h
    simp only [Prod.mk.injEq] at h
    exact absurd h.2.2 h0

theorem listOf_len {α : Type} (item : Int → α × Int × Int) (s : List UInt8) (p : Int) : (listOf item (count s p 256)).1.length ≤ 256 := by
  obtain ⟨⟨n, q, e⟩, hr⟩ : ∃ t, count s p 256 = t := ⟨_, rfl⟩
  rw [hr]
  unfold listOf
  by_cases he : e = 0
  · subst he
    have hc := count_ok _ _ _ hr
    rw [if_neg (by simp)]
    have := items_len item n.toNat q
    simp only
    omega
  · rw [if_pos he]; simp
theorem nums_len (s : List UInt8) (p : Int) : (nums s p).1.length ≤ 256 := listOf_len _ _ _
theorem txts_len (s : List UInt8) (p : Int) : (txts s p).1.length ≤ 256 := listOf_len _ _ _

end Go.Proofs.YtelcemfaijjcbaaGreatDoor.V

namespace Go.Proofs.YtelcemfaijjcbaaGreatDoor.S
open Go.Shelf Go.RowKit Go.Proofs
def laysM316_ren : Go.Shelf.Ren := ⟨fun | 316 => 54 | n => n, fun | 0 => 0 | 3 => 3 | 4 => 4 | 9 => 9 | 37 => 66 | 127 => 108 | 5 => 5 | n => n, fun | n => n⟩
theorem laysM316 : Go.Proofs.LaysM.n316 Tryz.prog laysM316_ren := {
  mixed := by kernel_rfl
  f316 := Tryz.func54.trans (congrArg some (by kernel_rfl))
  t0 := Tryz.underlying0
  a0 := Tryz.isAgg0
  z0 := Tryz.sizeOf0
  v0 := Tryz.zeroValue0
  t3 := Tryz.underlying3
  a3 := Tryz.isAgg3
  z3 := Tryz.sizeOf3
  v3 := Tryz.zeroValue3
  t4 := Tryz.underlying4
  a4 := Tryz.isAgg4
  z4 := Tryz.sizeOf4
  v4 := Tryz.zeroValue4
  t9 := Tryz.underlying9
  a9 := Tryz.isAgg9
  z9 := Tryz.sizeOf9
  v9 := Tryz.zeroValue9
  t37 := Tryz.underlying66
  a37 := Tryz.isAgg66
  z37 := Tryz.sizeOf66
  v37 := Tryz.zeroValue66
  t127 := Tryz.underlying108
  a127 := Tryz.isAgg108
  z127 := Tryz.sizeOf108
  v127 := Tryz.zeroValue108
  t5 := Tryz.underlying5
  a5 := Tryz.isAgg5
  z5 := Tryz.sizeOf5
  v5 := Tryz.zeroValue5
  i0 := by kernel_rfl
  i3 := by kernel_rfl
  i4 := by kernel_rfl
  i5 := by kernel_rfl
  i9 := by kernel_rfl
  i37 := by kernel_rfl
  i127 := by kernel_rfl }
theorem clone_any (s : ByteArray) (w : World) (hlim : s.size ≤ 281474976710656) :
    Calls Tryz.prog 54 #[.string s] w fun e w' => e = .returned (.string s) ∧ Below w.heap.size w w' :=
  Any.stringslite_Clone laysM316 s w hlim
end Go.Proofs.YtelcemfaijjcbaaGreatDoor.S

namespace Go.Proofs.YtelcemfaijjcbaaGreatDoor.V
open Go.RowKit

theorem ret_three_eq {k k' k'' : IntKind} {r t : Int × Int × Int} (h : r = t) : Ending.returned (.tuple #[.int k r.1, .int k' r.2.1, .int k'' r.2.2]) = .returned (.tuple #[.int k t.1, .int k' t.2.1, .int k'' t.2.2]) := by rw [h]

/-- ReadNumber's contract where its answer has a name. -/
theorem readNumber_of {s : ByteArray} {p x q e : Int} (h : rdAt s.data.toList p = (x, q, e)) (w : World) (hs : s.size ≤ 140737488355328) :
    Calls Tryz.prog 73 #[.string s, .int .i64 p] w fun e' w' => e' = .returned (.tuple #[.int .i64 x, .int .i64 q, .int .i64 e]) ∧ w = w' := by
  have := readNumber_any s p w hs
  rw [h] at this
  exact this
theorem refReadNumber_of {s : ByteArray} {p x q e : Int} (h : rdAt s.data.toList p = (x, q, e)) (w : World) (hs : s.size ≤ 140737488355328) :
    Calls Tryz.prog 28 #[.string s, .int .i64 p] w fun e' w' => e' = .returned (.tuple #[.int .i64 x, .int .i64 q, .int .i64 e]) ∧ w = w' := by
  have := refReadNumber_any s p w hs
  rw [h] at this
  exact this

set_option maxHeartbeats 400000 in
theorem readCount_any (s : ByteArray) (p most : Int) (w : World) (hs : s.size ≤ 140737488355328) :
    Calls Tryz.prog 90 #[.string s, .int .i64 p, .int .i64 most] w fun e w' => e = .returned (.tuple #[.int .i64 (count s.data.toList p most).1, .int .i64 (count s.data.toList p most).2.1, .int .i64 (count s.data.toList p most).2.2]) ∧ w = w' := by
  obtain ⟨⟨x, q, e⟩, hr⟩ : ∃ t, rdAt s.data.toList p = t := ⟨_, rfl⟩
  have hc : count s.data.toList p most = countOf (x, q, e) most := by unfold count; rw [hr]
  rw [hc]
  clear hc
  have HR := Lib.hid hr; clear hr
  by_cases he : e = 0
  · subst he
    by_cases h1 : x < 0
    · have hv : countOf (x, q, 0) most = (0, 0, 6) := by simp [countOf, h1]
      rw [hv]
      clear hv
      go_enter Tryz.func90, Tryz.ntmps90
      go_wp2_with (go_at_call 73; refine (readNumber_of HR.out _ hs).mono ?_; rintro e w' ⟨rfl, rfl⟩)
      go_ret3
      exact ⟨rfl, rfl⟩
    · by_cases h2 : most < x
      · have hv : countOf (x, q, 0) most = (0, 0, 4) := by simp [countOf, h1, h2]
        rw [hv]
        clear hv
        go_enter Tryz.func90, Tryz.ntmps90
        go_wp2_with (go_at_call 73; refine (readNumber_of HR.out _ hs).mono ?_; rintro e w' ⟨rfl, rfl⟩)
        go_ret3
        exact ⟨rfl, rfl⟩
      · have hv : countOf (x, q, 0) most = (x, q, 0) := by simp [countOf, h1, h2]
        rw [hv]
        clear hv
        go_enter Tryz.func90, Tryz.ntmps90
        go_wp2_with (go_at_call 73; refine (readNumber_of HR.out _ hs).mono ?_; rintro e w' ⟨rfl, rfl⟩)
        go_ret3
        exact ⟨rfl, rfl⟩
  · have hv : countOf (x, q, e) most = (0, 0, e) := by simp [countOf, he]
    rw [hv]
    have hb : (e == 0) = false := by simp [he]
    clear hv he
    go_enter Tryz.func90, Tryz.ntmps90
    go_wp2_with (go_at_call 73; refine (readNumber_of HR.out _ hs).mono ?_; rintro e w' ⟨rfl, rfl⟩)
    go_ret3
    exact ⟨rfl, rfl⟩

theorem readCount_of {s : ByteArray} {p most x q e : Int} (h : count s.data.toList p most = (x, q, e)) (w : World) (hs : s.size ≤ 140737488355328) :
    Calls Tryz.prog 90 #[.string s, .int .i64 p, .int .i64 most] w fun e' w' => e' = .returned (.tuple #[.int .i64 x, .int .i64 q, .int .i64 e]) ∧ w = w' := by
  have := readCount_any s p most w hs
  rw [h] at this
  exact this
theorem clone_of (s : ByteArray) (w : World) (hs : s.size ≤ 281474976710656) :
    Calls Tryz.prog 35 #[.string s] w fun e w' => e = .returned (.string s) ∧ Below w.heap.size w w' := by
  go_enter Tryz.func35, Tryz.ntmps35
  go_wp2_with (go_at_call 54; refine (S.clone_any s _ hs).mono ?_; rintro e w' ⟨rfl, hb⟩)
  go_ret
  exact ⟨rfl, hb⟩

theorem count_err (s : List UInt8) (p most : Int) {x q e : Int} (h : count s p most = (x, q, e)) (he : e ≠ 0) : x = 0 ∧ q = 0 := by
  unfold count countOf at h
  split at h
  · simp only [Prod.mk.injEq] at h; exact ⟨h.1.symm, h.2.1.symm⟩
  · split at h
    · simp only [Prod.mk.injEq] at h; exact ⟨h.1.symm, h.2.1.symm⟩
    · split at h
      · simp only [Prod.mk.injEq] at h; exact ⟨h.1.symm, h.2.1.symm⟩
      · simp only [Prod.mk.injEq] at h; exact absurd h.2.2.symm he

theorem str_cut (s : ByteArray) (a n : Nat) : s.extract a (a + n) = str ((s.data.toList.drop a).take n) := by
  unfold str
  rw [Lib.extract_eq, Nat.add_sub_cancel_left]

set_option maxHeartbeats 400000 in
theorem readText_any (s : ByteArray) (p : Int) (w : World) (hs : s.size ≤ 140737488355328) :
    Calls Tryz.prog 71 #[.string s, .int .i64 p] w fun e w' => e = .returned (.tuple #[.string (str (txt s.data.toList p).1), .int .i64 (txt s.data.toList p).2.1, .int .i64 (txt s.data.toList p).2.2]) ∧ Below w.heap.size w w' := by
  obtain ⟨⟨x, q, e⟩, hr⟩ : ∃ t, count s.data.toList p 4096 = t := ⟨_, rfl⟩
  have hc : txt s.data.toList p = txtOf s.data.toList (x, q, e) := by unfold txt; rw [hr]
  rw [hc]
  clear hc
  by_cases he : e = 0
  · subst he
    obtain ⟨c1, c2, c3, c4, c5, _⟩ := count_ok _ _ _ hr
    rw [← size_list] at c5
    have HR := Lib.hid hr; clear hr
    by_cases h1 : (s.size : Int) - q < x
    · have hv : txtOf s.data.toList (x, q, 0) = ([], 0, 5) := by unfold txtOf; rw [if_neg (by simp), if_pos (by rw [← size_list]; exact h1)]
      rw [hv]
      clear hv c3
      go_enter Tryz.func71, Tryz.ntmps71
      go_wp2_with (go_at_call 90; refine (readCount_of HR.out _ hs).mono ?_; rintro e w' ⟨rfl, rfl⟩)
      go_ret3
      exact ⟨rfl, Below.refl _ _⟩
    · obtain ⟨n, rfl⟩ := Int.eq_ofNat_of_zero_le c1
      obtain ⟨a, rfl⟩ := Int.eq_ofNat_of_zero_le c4
      have hv : txtOf s.data.toList ((n : Int), (a : Int), 0) = ((s.data.toList.drop a).take n, (a : Int) + (n : Int), 0) := by unfold txtOf; rw [if_neg (by simp), if_neg (by rw [← size_list]; exact h1)]; simp
      rw [hv]
      have hcut := str_cut s a n
      have HC := Lib.hid hcut; clear hcut
      clear hv c3
      go_enter Tryz.func71, Tryz.ntmps71
      go_wp2_with (go_at_call 90; refine (readCount_of HR.out _ hs).mono ?_; rintro e w' ⟨rfl, rfl⟩)
      rw [HC.out]
      refine (clone_of _ _ (by rw [str_size, List.length_take]; omega)).mono ?_
      rintro e w1 ⟨rfl, hb1⟩
      go_wp2_with fail
      go_ret3
      exact ⟨rfl, hb1⟩
  · have hz := count_err _ _ _ hr he
    have hv : txtOf s.data.toList (x, q, e) = ([], 0, e) := by simp [txtOf, he]
    rw [hv]
    have HR := Lib.hid hr; clear hr
    have hb : (e == 0) = false := by simp [he]
    clear hv he hz
    go_enter Tryz.func71, Tryz.ntmps71
    go_wp2_with (go_at_call 90; refine (readCount_of HR.out _ hs).mono ?_; rintro e w' ⟨rfl, rfl⟩)
    go_ret3
    exact ⟨rfl, Below.refl _ _⟩
theorem readText_of {s : ByteArray} {p : Int} {x : List UInt8} {q e : Int} (h : txt s.data.toList p = (x, q, e)) (w : World) (hs : s.size ≤ 140737488355328) :
    Calls Tryz.prog 71 #[.string s, .int .i64 p] w fun e' w' => e' = .returned (.tuple #[.string (str x), .int .i64 q, .int .i64 e]) ∧ Below w.heap.size w w' := by
  have := readText_any s p w hs
  rw [h] at this
  exact this
end Go.Proofs.YtelcemfaijjcbaaGreatDoor.V
