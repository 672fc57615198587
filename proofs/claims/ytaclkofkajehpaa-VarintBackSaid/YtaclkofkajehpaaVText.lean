/-
  Contracts: texts laid.
-/
import Derived.Test.YtaclkofkajehpaaVNum
import Derived.Test.YtaclkofkajehpaaVLayMath
namespace Go.Proofs.Ytaclkofkajehpaa.V
open Go.RowKit

theorem ret_two {a a' : ByteArray} {b b' : Int} (h : a = a') (h' : b = b') : Ending.returned (.tuple #[.string a, .int .i64 b]) = .returned (.tuple #[.string a', .int .i64 b']) := by rw [h, h']

set_option maxHeartbeats 400000 in
theorem text_any (l : List UInt8) (w : World) (hl : l.length ≤ maxLen) :
    Calls Try.prog 12 #[.string (str l)] w fun e w' => e = .returned (.tuple #[.string (str (textOf l).1), .int .i64 (textOf l).2]) ∧ Below w.heap.size w w' := by
  have hsz : (str l).size = l.length := str_size l
  have hl' : l.length ≤ 9223372036854775807 := hl
  have HL := Lib.hid hl'; clear hl hl'
  by_cases h : 4096 < l.length
  · have hv : textOf l = ([], 4) := by simp [textOf, h]
    rw [hv]
    have hlt : 4096 < (l.length : Int) := by omega
    clear hv h
    go_enter Try.func12, Try.ntmps12
    go_wp2_with fail
    go_ret2
    exact ⟨rfl, Below.refl _ _⟩
  · have hv : textOf l = (num l.length ++ l, 0) := by simp [textOf, h]
    rw [hv]
    have hlt : ¬ 4096 < (l.length : Int) := by omega
    have hn : (str (num l.length)).size ≤ 10 := by rw [str_size]; exact num_len _ (by omega) (by have := HL.out; omega)
    have happ := str_append (num l.length) l
    have HAPP := Lib.hid happ; clear happ
    clear hv h
    go_enter Try.func12, Try.ntmps12
    go_wp2_with (go_at_call 10; refine (number_any _ _ (by omega) (by have := HL.out; omega)).mono ?_; rintro e w1 ⟨rfl, hb⟩)
    go_ret2
    exact ⟨ret_two HAPP.out rfl, hb⟩

set_option maxHeartbeats 400000 in
theorem refText_any (l : List UInt8) (w : World) (hl : l.length ≤ maxLen) :
    Calls Try.prog 13 #[.string (str l)] w fun e w' => e = .returned (.tuple #[.string (str (textOf l).1), .int .i64 (textOf l).2]) ∧ Below w.heap.size w w' := by
  have hsz : (str l).size = l.length := str_size l
  have hl' : l.length ≤ 9223372036854775807 := hl
  have HL := Lib.hid hl'; clear hl hl'
  by_cases h : 4096 < l.length
  · have hv : textOf l = ([], 4) := by simp [textOf, h]
    rw [hv]
    have hlt : 4096 < (l.length : Int) := by omega
    clear hv h
    go_enter Try.func13, Try.ntmps13
    go_wp2_with fail
    go_ret2
    exact ⟨rfl, Below.refl _ _⟩
  · have hv : textOf l = (num l.length ++ l, 0) := by simp [textOf, h]
    rw [hv]
    have hlt : ¬ 4096 < (l.length : Int) := by omega
    have hn : (str (num l.length)).size ≤ 10 := by rw [str_size]; exact num_len _ (by omega) (by have := HL.out; omega)
    have happ := str_append (num l.length) l
    have HAPP := Lib.hid happ; clear happ
    clear hv h
    go_enter Try.func13, Try.ntmps13
    go_wp2_with (go_at_call 11; refine (refNumber_any _ _ (by omega) (by have := HL.out; omega)).mono ?_; rintro e w1 ⟨rfl, hb⟩)
    go_ret2
    exact ⟨ret_two HAPP.out rfl, hb⟩
end Go.Proofs.Ytaclkofkajehpaa.V
