/-
  Contracts of the reference of layer 2: Seal, Open.
-/
import Derived.Test.YtelcemfaijjcbaaGreatDoorHCRef
namespace Go.Proofs.YtelcemfaijjcbaaGreatDoor.C
open Go Go.RowKit Go.Proofs.YtelcemfaijjcbaaGreatDoor.B Go.Proofs.YtelcemfaijjcbaaGreatDoor.K

set_option maxHeartbeats 400000 in
theorem refSeal_any (l : List UInt8) (w : World) (hl : l.length ≤ 70368744177664) :
    Calls Tryz.prog 48 #[.string (str l)] w fun e w' => e = .returned (.string (str (sealed l))) ∧ Below w.heap.size w w' := by
  obtain ⟨i0, hi, hz0, hz1, hz2⟩ := info_parts Tryz.info5
  obtain ⟨S, hS⟩ : ∃ S, sum l = S := ⟨_, rfl⟩
  have hS1 : S < 4294967296 := by rw [← hS]; exact sum_lt l
  have hsealed : sealed l = l ++ le4 S := by rw [sealed, hS]
  have HSE := Lib.hid hsealed; clear hsealed
  have hHS := refSum_any l w (Nat.le_trans hl (by decide))
  rw [hS] at hHS
  have HSUM := Lib.hid hHS; clear hHS hS
  have HL := Lib.hid hl; clear hl
  have HS1 := Lib.hid hS1; clear hS1
  obtain ⟨v3, w3, hcv, how, hb3⟩ := conv_bytes (P := Tryz.prog) w 9 66 5 (str l) Tryz.underlying9 Tryz.underlying66 Tryz.underlying5 (by rw [str_size]; have := HL.out; unfold maxLen; omega)
  rw [strCells_str, str_size] at how
  have HOW := Lib.hid how
  have HB3 := Lib.hid hb3
  clear how hb3
  go_enter Tryz.func48, Tryz.ntmps48
  go_wp2_with (go_at_call 74; refine HSUM.out.mono ?_; rintro _ w1 ⟨rfl, rfl⟩)
  go_loopw [3, 4, 5] (fun x b i wr => ∃ k X : Nat, k ≤ 4 ∧ i = .int .i64 (k : Int) ∧ x = .int .u32 (X : Int) ∧ Hid (S / 256 ^ k = X) ∧
      Hid (OwnsG wr w.heap.size 5 b (l ++ (le4 S).take k).length (Lib.byteCells (l ++ (le4 S).take k))) ∧ Hid (Below w.heap.size w wr)) (fun _ _ i _ => 4 - (intOf i).toNat)
  case atStart => exact ⟨0, S, by omega, rfl, rfl, by show S / 1 = S; exact Nat.div_one S, by rw [List.take_zero, List.append_nil]; exact HOW.out, HB3.out⟩
  case round =>
    obtain ⟨k, X, hk, rfl, rfl, HX, HOWN, HBE⟩ := hrel
    by_cases hk4 : k < 4
    · have hX1 : X < 4294967296 := by rw [← HX.out]; exact Nat.lt_of_le_of_lt (Nat.div_le_self _ _) HS1.out
      have hkI : (k : Int) < 4 := by omega
      have hnx : S / 256 ^ (k + 1) = X / 256 := by rw [Nat.pow_succ, ← Nat.div_div_eq_div_mul, HX.out]
      have htk := le4_take S k hk4
      rw [HX.out] at htk
      have HTK := Lib.hid htk; clear htk
      have HNX := Lib.hid hnx; clear hnx
      have hm0 : IntKind.u8.wrap ((X : Int) % 256) = (X : Int) % 256 := IntWalk.u8_in _ (by omega)
      have hd1 : IntKind.u32.wrap ((X : Int) / 256) = (X : Int) / 256 := IntWalk.u32_in _ (by omega)
      have hlen : (l ++ (le4 S).take k).length + 1 ≤ 70368744177669 := by rw [List.length_append, List.length_take, le4_length]; have := HL.out; omega
      have HLEN := Lib.hid hlen; clear hlen
      clear hX1
      go_wp2_with (at_builtin; refine wpList_appendGs _ rfl _ _ 66 rfl w.heap.size 5 i0 Tryz.underlying66 hi hz0 hz1 hz2 _ _ _ rfl (HOWN.out.below ((Below.refl _ _).alloc (Nat.le_refl _) _)) ⟨wr.heap.size, 0, none⟩ 1 1 [.int .u8 ((X : Int) % 256)] rfl rfl (one_new _ _ _) (one_cell _ _) (by have := HLEN.out; unfold maxLen; omega) (by have := HLEN.out; omega) ((HBE.out.alloc HBE.out.size _).size) ?_; intro v' w5 hown' hgrow)
      have hb5 : Below w.heap.size w w5 := (HBE.out.alloc HBE.out.size _).grown hgrow (HBE.out.alloc HBE.out.size _).size HOWN.out.block
      rw [show (X : Int) % 256 = ((X % 256 : Nat) : Int) by omega, ← Lib.byteCells_snoc _ (show X % 256 < 256 by omega), List.append_assoc, ← HTK.out] at hown'
      have hown5 : OwnsG w5 w.heap.size 5 v' (l ++ (le4 S).take (k + 1)).length (Lib.byteCells (l ++ (le4 S).take (k + 1))) := by
        have := hown'.1
        rw [Lib.byteCells_length] at this
        rw [this]; exact hown'
      clear hgrow hown'
      go_wp2_with fail
      go_roundw
      case rel => exact ⟨k + 1, X / 256, by omega, by go_num, by go_num, HNX.out, hown5, hb5⟩
      case measure => simp [intOf]; omega
    · obtain rfl : k = 4 := by omega
      have hcv := run_strG (P := Tryz.prog) Tryz.underlying66 Tryz.underlying5 Tryz.underlying9 HOWN.out (dst := 9) (src := 66)
      rw [show (le4 S).take 4 = le4 S from rfl, ← HSE.out, show (⟨(sealed l).toArray⟩ : ByteArray) = str (sealed l) from rfl] at hcv
      go_wp2_with fail
      go_simp
      go_wp2_with fail
      go_ret
      exact ⟨rfl, HBE.out⟩

theorem ret_si {a a' : ByteArray} {b b' : Int} (h : a = a') (h' : b = b') : Ending.returned (.tuple #[.string a, .int .i64 b]) = .returned (.tuple #[.string a', .int .i64 b']) := by rw [h, h']

set_option maxHeartbeats 400000 in
theorem refOpen_any (l : List UInt8) (w : World) (hl : l.length ≤ 70368744177664) :
    Calls Tryz.prog 29 #[.string (str l)] w fun e w' => e = .returned (.tuple #[.string (str (openOf l).1), .int .i64 (openOf l).2]) ∧ Below w.heap.size w w' := by
  have hsz : (str l).size = l.length := str_size l
  by_cases h4 : l.length < 4
  · have hv : openOf l = ([], 5) := by unfold openOf; rw [if_pos h4]
    rw [hv]
    have hI : (l.length : Int) < 4 := by omega
    clear hv h4
    go_enter Tryz.func29, Tryz.ntmps29
    go_wp2_with fail
    go_ret2
    exact ⟨rfl, Below.refl _ _⟩
  · obtain ⟨n, hn⟩ : ∃ n, l.length = n + 4 := ⟨l.length - 4, by omega⟩
    have hI : ¬ (l.length : Int) < 4 := by omega
    have hex : (str l).extract 0 n = str (l.take n) := str_take l n
    have hseal := fun w => refSeal_any (l.take n) w (by rw [List.length_take]; omega)
    have HSEAL := Lib.hid hseal; clear hseal
    rw [hn] at hsz hI
    have hop : openOf l = if sealed (l.take n) = l then (l.take n, 0) else ([], 7) := by
      unfold openOf; rw [if_neg h4, show l.length - 4 = n by omega]
    by_cases hq : sealed (l.take n) = l
    · rw [if_pos hq] at hop
      rw [hop]
      have hb : str (sealed (l.take n)) = str l := congrArg str hq
      clear hop hq h4
      go_enter Tryz.func29, Tryz.ntmps29
      go_wp2_with fail
      refine (HSEAL.out _).mono ?_
      rintro _ w1 ⟨rfl, h1⟩
      go_wp2_with fail
      go_ret2
      exact ⟨rfl, h1⟩
    · rw [if_neg hq] at hop
      rw [hop]
      have hb : ((str (sealed (l.take n))).toList == (str l).toList) = false := str_ne hq
      clear hop hq h4
      go_enter Tryz.func29, Tryz.ntmps29
      go_wp2_with fail
      refine (HSEAL.out _).mono ?_
      rintro _ w1 ⟨rfl, h1⟩
      go_wp2_with fail
      go_ret2
      exact ⟨rfl, h1⟩
end Go.Proofs.YtelcemfaijjcbaaGreatDoor.C
