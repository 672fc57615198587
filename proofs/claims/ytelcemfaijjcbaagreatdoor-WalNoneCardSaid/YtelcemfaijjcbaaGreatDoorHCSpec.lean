/-
  Plain mathematics of layer 2 (check), continued: what Join answers, few, and the numbers of 'awake'.
-/
import Derived.Test.YtelcemfaijjcbaaGreatDoorHCMath
namespace Go.Proofs.YtelcemfaijjcbaaGreatDoor.C
open Go

/-- What Join answers. -/
def joinOf (a b : Nat) (n : Int) : Nat × Int := if n < 0 then (0, 2) else (join a b n.toNat, 0)

theorem joinOf_nat (a b n : Nat) : joinOf a b (n : Int) = (join a b n, 0) := by
  unfold joinOf; rw [if_neg (by omega), Int.toNat_natCast]

theorem joinOf_neg (a b : Nat) (n : Int) (h : n < 0) : joinOf a b n = (0, 2) := by
  unfold joinOf; rw [if_pos h]

/-- At most 3000 bytes. -/
def few (l : List UInt8) : List UInt8 := l.take 3000
theorem few_length (l : List UInt8) : (few l).length ≤ 3000 := by unfold few; rw [List.length_take]; omega
theorem few_short (l : List UInt8) (h : l.length ≤ 3000) : few l = l := List.take_of_length_le h

theorem open_sealed (l : List UInt8) : openOf (sealed l) = (l, 0) := by
  have h : (sealed l).take ((sealed l).length - 4) = l := by rw [sealed_length]; simp [sealed]
  unfold openOf
  rw [if_neg (by rw [sealed_length]; omega), h, if_pos rfl]

/-- What is no sealed text is not opened. -/
theorem open_of_mark (l : List UInt8) (h4 : 4 ≤ l.length) (h : thr 4294967295 l ≠ zs 32 4294967295) : openOf l = ([], 7) := by
  unfold openOf
  rw [if_neg (by omega), if_neg]
  intro e
  apply h
  rw [← e]
  exact thr_sealed _

theorem sum9 : sum [49, 50, 51, 52, 53, 54, 55, 56, 57] = 3808858755 := by decide +kernel
theorem join9 : join (sum [49, 50, 51, 52]) (sum [53, 54, 55, 56, 57]) 5 = 3808858755 := by decide +kernel
theorem open4 : openOf [49, 50, 51, 52] = ([], 7) := by decide +kernel

end Go.Proofs.YtelcemfaijjcbaaGreatDoor.C
