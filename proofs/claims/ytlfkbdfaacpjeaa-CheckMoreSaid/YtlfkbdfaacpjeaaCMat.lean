/-
  Plain mathematics of layer 2 (check), continued: what n bits 0 do to a register, told bit by bit.
-/
import Derived.Test.YtlfkbdfaacpjeaaCMath
namespace Go.Proofs.Ytlfkbdfaacpjeaa.C
open Go

/-- The lowest bits of a number, one more. -/
theorem mod_bit_one (v i : Nat) (h : v / 2 ^ i % 2 = 1) : v % 2 ^ (i + 1) = (v % 2 ^ i) ^^^ 2 ^ i := by
  have e := Nat.mod_mul (a := 2 ^ i) (b := 2) (x := v)
  rw [h, Nat.mul_one] at e
  have hx := xor_parts i (v % 2 ^ i) 1 (Nat.mod_lt _ (Nat.two_pow_pos i))
  rw [Nat.mul_one] at hx
  rw [Nat.pow_succ, e, hx]

theorem mod_bit_zero (v i : Nat) (h : v / 2 ^ i % 2 = 0) : v % 2 ^ (i + 1) = v % 2 ^ i := by
  have e := Nat.mod_mul (a := 2 ^ i) (b := 2) (x := v)
  rw [h, Nat.mul_zero, Nat.add_zero] at e
  rw [Nat.pow_succ, e]

/-- A round of the sum over a register's bits. -/
theorem zs_bit_one (N v i : Nat) (h : v / 2 ^ i % 2 = 1) : zs N (v % 2 ^ (i + 1)) = zs N (v % 2 ^ i) ^^^ zs N (2 ^ i) := by
  rw [mod_bit_one v i h, zs_xor]

theorem zs_bit_zero (N v i : Nat) (h : v / 2 ^ i % 2 = 0) : zs N (v % 2 ^ (i + 1)) = zs N (v % 2 ^ i) := by
  rw [mod_bit_zero v i h]

theorem zs_all (N v : Nat) (h : v < 4294967296) : zs N (v % 2 ^ 32) = zs N v := by
  rw [Nat.mod_eq_of_lt (show v < 2 ^ 32 from h)]

/-- A square. -/
theorem zs_twice (N r : Nat) : zs N (zs N r) = zs (2 * N) r := by
  rw [← zs_add, Nat.two_mul]

/-- A round of going through m times N bits 0, by halves of m. -/
theorem zs_half_odd (N m r : Nat) (h : m % 2 = 1) : zs (2 * N * (m / 2)) (zs N r) = zs (N * m) r := by
  rw [← zs_add]
  have hm : m = 2 * (m / 2) + 1 := by omega
  exact congrArg (fun k => zs k r) (by
    show N + 2 * N * (m / 2) = N * m
    have e : N * m = N * (2 * (m / 2) + 1) := congrArg (fun z => N * z) hm
    rw [e, Nat.mul_add, Nat.mul_one, Nat.add_comm, ← Nat.mul_assoc, Nat.mul_comm N 2])

theorem zs_half_even (N m r : Nat) (h : m % 2 = 0) : zs (2 * N * (m / 2)) r = zs (N * m) r := by
  have hm : m = 2 * (m / 2) := by omega
  exact congrArg (fun k => zs k r) (by
    show 2 * N * (m / 2) = N * m
    have e : N * m = N * (2 * (m / 2)) := congrArg (fun z => N * z) hm
    rw [e, ← Nat.mul_assoc, Nat.mul_comm N 2])
end Go.Proofs.Ytlfkbdfaacpjeaa.C
