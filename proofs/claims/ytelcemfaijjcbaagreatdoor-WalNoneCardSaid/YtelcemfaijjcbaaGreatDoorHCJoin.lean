/-
  What is asked of the program's package check, call by call (contracts; they are proved elsewhere).
  Plain mathematics of layer 2 (check), continued: what n bits 0 do to a register, told bit by bit.
  Contracts of the program's check: down, More, Sum.
  Contracts of the program's check: of, twice, zero (an array of 32 images of a register's bits).
  Contracts of the program's check: zero (the turn by one byte 0).
  Contracts of the program's check: zeros and the function that it makes, Join.
-/
import Derived.Test.YtelcemfaijjcbaaGreatDoorHP12Rs
import Derived.Test.YtelcemfaijjcbaaGreatDoorHCSpec
import Derived.Test.YtelcemfaijjcbaaGreatDoorHCMath
import Derived.Test.YtelcemfaijjcbaaGreatDoorHCRef
import Derived.Laws.ShiftsVarLaws
import Derived.Deep.DeepCutAuto
import Derived.Deep.RegionHeld3
import Derived.Deep.MidRow
namespace Go.Proofs.YtelcemfaijjcbaaGreatDoor.C
open Go Go.RowKit Go.Proofs.YtelcemfaijjcbaaGreatDoor.B Go.Proofs.YtelcemfaijjcbaaGreatDoor.K

end Go.Proofs.YtelcemfaijjcbaaGreatDoor.C

namespace Go.Proofs.YtelcemfaijjcbaaGreatDoor.C
open Go

/-- The lowest bits of a number, one more. -/
theorem mod_bit_one (v i : Nat) (h : v / 2 ^ i % 2 = 1) : v % 2 ^ (i + 1) = (v % 2 ^ i) ^^^ 2 ^ i := by
  have e := Nat.mod_mul (a := 2 ^ i) (b := 2) (x := v)
  rw [h, Nat.mul_one] at e
  have hx := xor_parts i (v % 2 ^ i) 1 (Nat.mod_lt _ (Nat.two_pow_pos i))
  rw [Nat.mul_one] at hx
  rw [Nat.pow_succ, e, hx]

theorem mod_bit_zero (v i : Nat) (h : v / 2 ^ i % 2 = 0) : v % 2 ^ (i + 1) = v % 2 ^ i := by
  have e := Nat.mod_mul (a := 2 ^ i) (b := 2) (x := v)
  rw [h, Nat.mul_zero, Nat.add_zero] at e
  rw [Nat.pow_succ, e]

/-- A round of the sum over a register's bits. -/
theorem zs_bit_one (N v i : Nat) (h : v / 2 ^ i % 2 = 1) : zs N (v % 2 ^ (i + 1)) = zs N (v % 2 ^ i) ^^^ zs N (2 ^ i) := by
  rw [mod_bit_one v i h, zs_xor]

theorem zs_bit_zero (N v i : Nat) (h : v / 2 ^ i % 2 = 0) : zs N (v % 2 ^ (i + 1)) = zs N (v % 2 ^ i) := by
  rw [mod_bit_zero v i h]

theorem zs_all (N v : Nat) (h : v < 4294967296) : zs N (v % 2 ^ 32) = zs N v := by
  rw [Nat.mod_eq_of_lt (show v < 2 ^ 32 from h)]

/-- A square. -/
theorem zs_twice (N r : Nat) : zs N (zs N r) = zs (2 * N) r := by
  rw [← zs_add, Nat.two_mul]

/-- A round of going through m times N bits 0, by halves of m. -/
theorem zs_half_odd (N m r : Nat) (h : m % 2 = 1) : zs (2 * N * (m / 2)) (zs N r) = zs (N * m) r := by
  rw [← zs_add]
  have hm : m = 2 * (m / 2) + 1 := by omega
  exact congrArg (fun k => zs k r) (by
    show N + 2 * N * (m / 2) = N * m
    have e : N * m = N * (2 * (m / 2) + 1) := congrArg (fun z => N * z) hm
    rw [e, Nat.mul_add, Nat.mul_one, Nat.add_comm, ← Nat.mul_assoc, Nat.mul_comm N 2])

theorem zs_half_even (N m r : Nat) (h : m % 2 = 0) : zs (2 * N * (m / 2)) r = zs (N * m) r := by
  have hm : m = 2 * (m / 2) := by omega
  exact congrArg (fun k => zs k r) (by
    show 2 * N * (m / 2) = N * m
    have e : N * m = N * (2 * (m / 2)) := congrArg (fun z => N * z) hm
    rw [e, ← Nat.mul_assoc, Nat.mul_comm N 2])
end Go.Proofs.YtelcemfaijjcbaaGreatDoor.C

namespace Go.Proofs.YtelcemfaijjcbaaGreatDoor.C
open Go Go.RowKit Go.Proofs.YtelcemfaijjcbaaGreatDoor.B Go.Proofs.YtelcemfaijjcbaaGreatDoor.K

theorem u32_not (a : Nat) (ha : a < 4294967296) : bits .xor .u32 IntKind.u32.max (a : Int) = ((a ^^^ 4294967295 : Nat) : Int) := by
  rw [Nat.xor_comm]; exact u32_xor_nat 4294967295 a (by omega) ha

set_option maxHeartbeats 400000 in
theorem down_any (r : Nat) (w : World) (h : r < 4294967296) :
    Calls Tryz.prog 152 #[.int .u32 (r : Int)] w fun e w' => e = .returned (.int .u32 (zs 8 r : Nat)) ∧ w = w' := by
  go_enter Tryz.func152, Tryz.ntmps152
  go_wp2_with fail
  go_loop [0, 3, 4] (fun x _ i => ∃ R k : Nat, x = .int .u32 (R : Int) ∧ R < 4294967296 ∧ i = .int .i64 (k : Int) ∧ k ≤ 8 ∧ Hid (zs (8 - k) R = zs 8 r)) (fun _ _ i => 8 - (intOf i).toNat)
  case atStart => exact ⟨r, 0, rfl, h, rfl, by omega, rfl⟩
  case round =>
    obtain ⟨R, k, rfl, hR, rfl, hk, HR⟩ := hrel
    by_cases hlt : k < 8
    · have hltI : (k : Int) < 8 := by omega
      have hnx : zs (8 - (k + 1)) (bit R) = zs 8 r := by
        rw [← HR.out, ← zs_succ]; exact congrArg (fun j => zs j R) (by omega)
      have HNX := Lib.hid hnx; clear hnx
      have hbl := bit_lt R hR
      have hand := u32_and_nat R 1 hR (by omega)
      rw [Nat.and_one_is_mod] at hand
      have hx := u32_xor_nat (R / 2) 2197175160 (by omega) (by omega)
      rw [show ((R / 2 : Nat) : Int) = (R : Int) / 2 by omega] at hx
      by_cases hp : R % 2 = 1
      · have hb : bit R = (R / 2) ^^^ 2197175160 := by unfold bit; rw [if_pos hp]
        rw [← hb] at hx
        rw [hp] at hand
        have hand' : bits .and .u32 (R : Int) 1 = 1 := hand
        have hx' : bits .xor .u32 ((R : Int) / 2) 2197175160 = ((bit R : Nat) : Int) := hx
        have HBL := Lib.hid hbl
        clear hb hp hand hx hbl
        go_wp2_with fail
        go_round
        case rel => exact ⟨bit R, k + 1, rfl, HBL.out, by go_num, by omega, HNX.out⟩
        case measure => simp [intOf]; omega
      · have hb : bit R = R / 2 := by unfold bit; rw [if_neg hp]
        rw [show R % 2 = 0 by omega] at hand
        have hand' : bits .and .u32 (R : Int) 1 = 0 := hand
        have HB := Lib.hid hb
        have HBL := Lib.hid hbl
        clear hb hp hand hx hbl
        go_wp2_with fail
        go_round
        case rel => exact ⟨bit R, k + 1, by rw [HB.out]; go_num, HBL.out, by go_num, by omega, HNX.out⟩
        case measure => simp [intOf]; omega
    · obtain rfl : k = 8 := by omega
      have hend : R = zs 8 r := HR.out
      have HE := Lib.hid hend; clear hend
      go_wp2_with fail
      go_ret
      exact ⟨ret_int (congrArg _ HE.out), rfl⟩

set_option maxHeartbeats 400000 in
theorem more_any (x : Nat) (l : List UInt8) (w : World) (h : x < 4294967296) (hl : l.length ≤ 9223372036854775807) :
    Calls Tryz.prog 132 #[.int .u32 (x : Int), .string (str l)] w fun e w' => e = .returned (.int .u32 (more x l : Nat)) ∧ w = w' := by
  have hsz : (str l).size = l.length := str_size l
  have HL := Lib.hid hl; clear hl
  obtain ⟨n, hN⟩ : ∃ n, l.length = n := ⟨_, rfl⟩
  rw [hN] at hsz HL
  have HN := Lib.hid hN; clear hN
  obtain ⟨X, hX⟩ : ∃ X, x ^^^ 4294967295 = X := ⟨_, rfl⟩
  have hX1 : X < 4294967296 := by rw [← hX]; exact Nat.xor_lt_two_pow (n := 32) (by omega) (by omega)
  have hflip := u32_not x h
  rw [hX] at hflip
  have HX := Lib.hid hX; clear hX
  go_enter Tryz.func132, Tryz.ntmps132
  go_wp2_with fail
  go_loop [5, 6, 11] (fun x _ i => ∃ R k : Nat, x = .int .u32 (R : Int) ∧ R < 4294967296 ∧ i = .int .i64 (k : Int) ∧ k ≤ n ∧ Hid (thr R (l.drop k) = thr X l)) (fun _ _ i => n - (intOf i).toNat)
  case atStart => exact ⟨X, 0, rfl, hX1, rfl, Nat.zero_le _, rfl⟩
  case round =>
    obtain ⟨R, k, rfl, hR, rfl, hk, HR⟩ := hrel
    by_cases hlt : k < n
    · obtain ⟨b, hb0, hb1, hb2, hb3⟩ := thr_at l k (by rw [HN.out]; exact hlt)
      have hx := u32_xor_nat R b hR (by omega)
      obtain ⟨Q, hQ⟩ : ∃ Q, R ^^^ b = Q := ⟨_, rfl⟩
      have hQ1 : Q < 4294967296 := by rw [← hQ]; exact Nat.xor_lt_two_pow (n := 32) (by omega) (by omega)
      rw [hQ] at hx
      have hb4 := hb3 R
      rw [HR.out, hQ] at hb4
      have HB := Lib.hid hb4; clear hb4 hb3 hQ
      have hk1 : (k : Int) < 9223372036854775807 := by have := HL.out; omega
      have hltI : (k : Int) < (n : Int) := by omega
      go_wp2_with (go_at_call 152; refine (down_any _ _ hQ1).mono ?_; rintro _ w1 ⟨rfl, rfl⟩)
      go_round
      case rel => exact ⟨zs 8 Q, k + 1, rfl, zs_lt 8 Q hQ1, by go_num, by omega, HB.out.symm⟩
      case measure => simp [intOf]; omega
    · have hend : R = thr X l := by rw [← HR.out, List.drop_eq_nil_of_le (by rw [HN.out]; omega), thr_nil]
      have hltI : ¬ (k : Int) < (n : Int) := by omega
      have hfl := u32_not R hR
      rw [show R ^^^ 4294967295 = more x l by rw [more, HX.out, hend]] at hfl
      have HF := Lib.hid hfl; clear hfl hend
      go_wp2_with fail
      go_ret
      exact ⟨ret_int HF.out, rfl⟩

set_option maxHeartbeats 400000 in
theorem sum_any (l : List UInt8) (w : World) (hl : l.length ≤ 9223372036854775807) :
    Calls Tryz.prog 103 #[.string (str l)] w fun e w' => e = .returned (.int .u32 (sum l : Nat)) ∧ w = w' := by
  have hm := fun w => more_any 0 l w (by omega) hl
  rw [more_zero] at hm
  have HM := Lib.hid hm; clear hm hl
  go_enter Tryz.func103, Tryz.ntmps103
  go_wp2_with (go_at_call 132; refine (HM.out _).mono ?_; rintro _ w1 ⟨rfl, rfl⟩)
  go_ret
  exact ⟨rfl, rfl⟩
end Go.Proofs.YtelcemfaijjcbaaGreatDoor.C

namespace Go.Proofs.YtelcemfaijjcbaaGreatDoor.C
open Go Go.RowKit Go.Proofs.YtelcemfaijjcbaaGreatDoor.B Go.Proofs.YtelcemfaijjcbaaGreatDoor.K

/-- An array of 32 numbers: what N bits 0 do to each bit. -/
def IsMat (N : Nat) (cs : Array Value) : Prop := cs.size = 32 ∧ ∀ i, i < 32 → cs[i]? = some (.int .u32 (zs N (2 ^ i) : Nat))

theorem three (w : World) (A B C : Obj) : (((w.alloc A).alloc B).alloc C).heap[w.heap.size]? = some A ∧ (((w.alloc A).alloc B).alloc C).heap[w.heap.size + 1]? = some B ∧ (((w.alloc A).alloc B).alloc C).heap[w.heap.size + 1 + 1]? = some C ∧ Below w.heap.size w (((w.alloc A).alloc B).alloc C) := by
  have h1 : (w.alloc A).heap.size = w.heap.size + 1 := by simp
  have h2 : ((w.alloc A).alloc B).heap.size = w.heap.size + 1 + 1 := by simp
  have a1 := heap_alloc_at w A
  have a2 := heap_alloc_at (w.alloc A) B
  have a3 := heap_alloc_at ((w.alloc A).alloc B) C
  rw [h1] at a2
  rw [h2] at a3
  refine ⟨?_, ?_, a3, (((Below.refl _ _).alloc (Nat.le_refl _) _).alloc (by omega) _).alloc (by omega) _⟩
  · rw [Below.heap_alloc _ _ _ (by omega), Below.heap_alloc _ _ _ (by omega)]; exact a1
  · rw [Below.heap_alloc _ _ _ (by omega)]; exact a2

theorem keepS {W : World} {B k V : Nat} {csl : List Value} {v : Value} (h : W.rangeAt B 0 csl ∧ W.cell? ⟨B, k, none⟩ = some (.int .u32 (V : Int))) :
    (W.setCell ⟨B + 1 + 1, k, none⟩ v).rangeAt B 0 csl ∧ (W.setCell ⟨B + 1 + 1, k, none⟩ v).cell? ⟨B, k, none⟩ = some (.int .u32 (V : Int)) := by
  obtain ⟨h1, h2⟩ := h
  have hb : Below (B + 1) W (W.setCell ⟨B + 1 + 1, k, none⟩ v) := (Below.refl _ _).setCell (by show B + 1 ≤ B + 1 + 1; omega) v
  exact ⟨fun j u hj => (hb.cell (p := ⟨B, 0 + j, none⟩) (by show B < B + 1; omega)).trans (h1 j u hj), (hb.cell (p := ⟨B, k, none⟩) (by show B < B + 1; omega)).trans h2⟩

end Go.Proofs.YtelcemfaijjcbaaGreatDoor.C

namespace Go.Proofs.YtelcemfaijjcbaaGreatDoor.C
open Go Go.RowKit Go.Proofs.YtelcemfaijjcbaaGreatDoor.B Go.Proofs.YtelcemfaijjcbaaGreatDoor.K

theorem two (w : World) (A B : Obj) : ((w.alloc A).alloc B).heap[w.heap.size]? = some A ∧ ((w.alloc A).alloc B).heap[w.heap.size + 1]? = some B ∧ Below w.heap.size w ((w.alloc A).alloc B) := by
  have h1 : (w.alloc A).heap.size = w.heap.size + 1 := by simp
  have a1 := heap_alloc_at w A
  have a2 := heap_alloc_at (w.alloc A) B
  rw [h1] at a2
  refine ⟨?_, a2, ((Below.refl _ _).alloc (Nat.le_refl _) _).alloc (by omega) _⟩
  rw [Below.heap_alloc _ _ _ (by omega)]; exact a1

end Go.Proofs.YtelcemfaijjcbaaGreatDoor.C

namespace Go.Proofs.YtelcemfaijjcbaaGreatDoor.C
open Go Go.RowKit Go.Proofs.YtelcemfaijjcbaaGreatDoor.B Go.Proofs.YtelcemfaijjcbaaGreatDoor.K

theorem mat_one (N : Nat) (cs : Array Value) (h : IsMat N cs) : cs.all (·.oneCell') = true := by
  rw [Array.all_eq_true_iff_forall_mem]
  intro x hx
  obtain ⟨i, hi, e⟩ := Array.mem_iff_getElem.1 hx
  have h2 := h.2 i (by rw [← h.1]; exact hi)
  rw [Array.getElem?_eq_getElem hi, e] at h2
  cases h2; rfl

theorem row_below (W : World) (B g : Nat) (cs : Array Value) (hB : B ≤ W.heap.size) (hg : B ≤ g) : Below B W (W.setRow g cs) :=
  Below.grown (Below.refl B W) ⟨rfl, rfl, rfl, by simp, fun j _ hj => setRow_other W g j _ (fun e => hj (by rw [e]))⟩ hB (row := some g) (fun j hj => by cases hj; omega)

theorem ret_ui {a a' b : Int} (h : a = a') : Ending.returned (.tuple #[.int .u32 a, .int .i64 b]) = .returned (.tuple #[.int .u32 a', .int .i64 b]) := by rw [h]

end Go.Proofs.YtelcemfaijjcbaaGreatDoor.C
