/-
  Contracts at any place; the statement's 'awake'.
-/
import Derived.Test.YtaclkofkajehpaaVRefRd
namespace Go.Proofs.Ytaclkofkajehpaa.V
open Go.RowKit

theorem rdAt_out (l : List UInt8) (p : Int) (h : p < 0 ∨ (l.length : Int) < p) : rdAt l p = (0, 0, 3) := by unfold rdAt; rw [if_pos h]

theorem readNumber_any (s : ByteArray) (p : Int) (w : World) (hs : s.size ≤ 140737488355328) :
    Calls Try.prog 18 #[.string s, .int .i64 p] w fun e w' => 
      e = .returned (.tuple #[.int .i64 (rdAt s.data.toList p).1, .int .i64 (rdAt s.data.toList p).2.1, .int .i64 (rdAt s.data.toList p).2.2]) ∧ w = w' := by
  by_cases h : p < 0 ∨ (s.size : Int) < p
  · rw [rdAt_out _ _ (by rw [← size_list]; exact h)]
    exact readNumber_out s p w h
  · obtain ⟨k, rfl⟩ := Int.eq_ofNat_of_zero_le (show 0 ≤ p by omega)
    exact readNumber_in s k w (by omega) hs

theorem refReadNumber_any (s : ByteArray) (p : Int) (w : World) (hs : s.size ≤ 140737488355328) :
    Calls Try.prog 19 #[.string s, .int .i64 p] w fun e w' => 
      e = .returned (.tuple #[.int .i64 (rdAt s.data.toList p).1, .int .i64 (rdAt s.data.toList p).2.1, .int .i64 (rdAt s.data.toList p).2.2]) ∧ w = w' := by
  by_cases h : p < 0 ∨ (s.size : Int) < p
  · rw [rdAt_out _ _ (by rw [← size_list]; exact h)]
    exact refReadNumber_out s p w h
  · obtain ⟨k, rfl⟩ := Int.eq_ofNat_of_zero_le (show 0 ≤ p by omega)
    exact refReadNumber_in s k w (by omega) hs

theorem rd_first : rdAt [216, 4] 0 = (300, 2, 0) := by decide
theorem rd_second : rdAt [128, 0] 0 = (0, 0, 6) := by decide
theorem num_first : num (-1) = [1] := by
  unfold num
  rw [show Lib.zigzag (-1) = 1 by decide, Lib.uvarint_small (by decide)]
  rfl
theorem num_second : num 64 = [128, 1] := by
  unfold num
  rw [show Lib.zigzag 64 = 128 by decide, Lib.uvarint_big (by decide), Lib.uvarint_small (by decide)]
  rfl

set_option maxHeartbeats 1000000 in
theorem awake_any (w : World) : Calls Try.prog 9 #[] w fun e w' => e = .returned (.bool true) ∧ Below w.heap.size w w' := by
  have e1 : (str [1]).toList = [1] := str_toList _
  have e2 : (str [128, 1]).toList = [128, 1] := str_toList _
  go_enter Try.func9, Try.ntmps9
  go_wp2_with fail
  refine (readNumber_any ⟨#[216, 4]⟩ 0 _ (by decide)).mono ?_
  rw [show (⟨#[216, 4]⟩ : ByteArray).data.toList = [216, 4] from rfl, rd_first]
  rintro e w1 ⟨rfl, rfl⟩
  go_wp2_with fail
  refine (readNumber_any ⟨#[128, 0]⟩ 0 _ (by decide)).mono ?_
  rw [show (⟨#[128, 0]⟩ : ByteArray).data.toList = [128, 0] from rfl, rd_second]
  rintro e w1 ⟨rfl, rfl⟩
  go_wp2_with fail
  refine (number_any (-1) _ (by decide) (by decide)).mono ?_
  rw [num_first]
  rintro e w1 ⟨rfl, hb1⟩
  go_wp2_with fail
  refine (number_any 64 _ (by decide) (by decide)).mono ?_
  rw [num_second]
  rintro e w2 ⟨rfl, hb2⟩
  go_wp2_with fail
  go_ret
  exact ⟨rfl, hb1.trans (hb2.mono hb1.size)⟩
end Go.Proofs.Ytaclkofkajehpaa.V
