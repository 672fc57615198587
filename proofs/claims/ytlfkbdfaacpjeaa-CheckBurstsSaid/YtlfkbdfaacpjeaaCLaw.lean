/-
  Layer 2's statements: few, awake.
-/
import Derived.Test.YtlfkbdfaacpjeaaCCon
namespace Go.Proofs.Ytlfkbdfaacpjeaa.C
open Go Go.RowKit Go.Proofs.Ytlfkbdfaacpjeaa.B Go.Proofs.Ytlfkbdfaacpjeaa.K

set_option maxHeartbeats 400000 in
theorem few_any (l : List UInt8) (w : World) (hl : l.length ≤ 9223372036854775807) :
    Calls Try.prog 9 #[.string (str l)] w fun e w' => e = .returned (.string (str (few l))) ∧ w = w' := by
  have hsz : (str l).size = l.length := str_size l
  have hex : (str l).extract 0 3000 = str (few l) := str_take l 3000
  have HL := Lib.hid hl; clear hl
  by_cases h : 3000 < l.length
  · have hI : 3000 < (l.length : Int) := by omega
    clear h
    go_enter Try.func9, Try.ntmps9
    go_wp2_with fail
    go_ret
    exact ⟨rfl, rfl⟩
  · have hI : ¬ 3000 < (l.length : Int) := by omega
    have hf : str l = str (few l) := by rw [few_short l (by omega)]
    have HF := Lib.hid hf; clear hf hex h
    go_enter Try.func9, Try.ntmps9
    go_wp2_with fail
    go_ret
    exact ⟨ret_str HF.out, rfl⟩

set_option maxHeartbeats 1000000 in
theorem awake_any (C : Contracts) (w : World) : Calls Try.prog 12 #[] w fun e w' => e = .returned (.bool true) ∧ Below w.heap.size w w' := by
  have hs1 := fun w => C.sum [49, 50, 51, 52] w (by decide)
  have hs2 := fun w => C.sum [53, 54, 55, 56, 57] w (by decide)
  have hs9 := fun w => C.sum [49, 50, 51, 52, 53, 54, 55, 56, 57] w (by decide)
  have hj := fun w => C.join (sum [49, 50, 51, 52]) (sum [53, 54, 55, 56, 57]) 5 w (sum_lt _) (sum_lt _) (by decide) (by decide)
  have ho := fun w => C.open_ [49, 50, 51, 52] w (by decide)
  rw [show joinOf (sum [49, 50, 51, 52]) (sum [53, 54, 55, 56, 57]) 5 = (3808858755, 0) from (joinOf_nat _ _ 5).trans (by rw [join9])] at hj
  rw [open4] at ho
  rw [sum9] at hs9
  have HS1 := Lib.hid hs1; clear hs1
  have HS2 := Lib.hid hs2; clear hs2
  have HS9 := Lib.hid hs9; clear hs9
  have HJ := Lib.hid hj; clear hj
  have HO := Lib.hid ho; clear ho
  go_enter Try.func12, Try.ntmps12
  go_wp2_with fail
  refine (HS1.out _).mono ?_
  rintro _ w1 ⟨rfl, h1⟩
  go_wp2_with fail
  refine (HS2.out _).mono ?_
  rintro _ w2 ⟨rfl, h2⟩
  go_wp2_with fail
  refine (HJ.out _).mono ?_
  rintro _ w3 ⟨rfl, h3⟩
  go_wp2_with fail
  refine (HO.out _).mono ?_
  rintro _ w4 ⟨rfl, h4⟩
  have h01 := h1.trans (h2.mono h1.size)
  have h02 := h01.trans (h3.mono h01.size)
  have h03 := h02.trans (h4.mono h02.size)
  clear h1 h2 h3 h4 h01 h02
  go_wp2_with fail
  refine (HS9.out _).mono ?_
  rintro _ w5 ⟨rfl, h5⟩
  have h04 := h03.trans (h5.mono h03.size)
  clear h03 h5
  go_wp2_with fail
  go_ret
  exact ⟨rfl, h04⟩
end Go.Proofs.Ytlfkbdfaacpjeaa.C
