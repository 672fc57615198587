/-
  Contracts of the program's check: laidSum, Seal, Open.
-/
import Derived.Test.YtelcemfaijjcbaaGreatDoorHCJoin
import Derived.Test.YtelcemfaijjcbaaGreatDoorHCRefSeal
import Derived.Test.YtelcemfaijjcbaaGreatDoorHVRdText
import Derived.Deep.RegionHeld3
import Derived.Deep.DeepCutAuto
namespace Go.Proofs.YtelcemfaijjcbaaGreatDoor.C
open Go Go.RowKit Go.Proofs.YtelcemfaijjcbaaGreatDoor.B Go.Proofs.YtelcemfaijjcbaaGreatDoor.K

theorem le4_at (x j : Nat) (h : j < (le4 x).length) : ((le4 x)[j].toNat : Int) = ((x / 256 ^ j % 256 : Nat) : Int) := by
  have h4 : j < 4 := h
  rcases (show j = 0 ∨ j = 1 ∨ j = 2 ∨ j = 3 by omega) with rfl | rfl | rfl | rfl
  · show ((UInt8.ofNat (x % 256)).toNat : Int) = ((x / 1 % 256 : Nat) : Int)
    rw [UInt8.toNat_ofNat', Nat.div_one]; omega
  · show ((UInt8.ofNat (x / 256 % 256)).toNat : Int) = ((x / 256 % 256 : Nat) : Int)
    rw [UInt8.toNat_ofNat']; omega
  · show ((UInt8.ofNat (x / 65536 % 256)).toNat : Int) = ((x / 65536 % 256 : Nat) : Int)
    rw [UInt8.toNat_ofNat']; omega
  · show ((UInt8.ofNat (x / 16777216 % 256)).toNat : Int) = ((x / 16777216 % 256 : Nat) : Int)
    rw [UInt8.toNat_ofNat']; omega

set_option maxHeartbeats 400000 in
theorem laid_any (l : List UInt8) (w : World) (hl : l.length ≤ 70368744177664) :
    Calls Tryz.prog 87 #[.string (str l)] w fun e w' => e = .returned (.string (str (le4 (sum l)))) ∧ Below w.heap.size w w' := by
  obtain ⟨S, hS⟩ : ∃ S, sum l = S := ⟨_, rfl⟩
  have hS1 : S < 4294967296 := by rw [← hS]; exact sum_lt l
  have hHS := sum_any l w (Nat.le_trans hl (by decide))
  rw [hS] at hHS
  rw [hS]
  have HSUM := Lib.hid hHS; clear hHS hS hl
  have HS1 := Lib.hid hS1; clear hS1
  go_enter Tryz.func87, Tryz.ntmps87
  go_wp2_with (go_at_call 103; refine HSUM.out.mono ?_; rintro _ w1 ⟨rfl, rfl⟩)
  go_loopw [5, 8] (fun _ i wr => ∃ (k : Nat) (cur : Array Value), i = .int .i64 (k : Int) ∧ k ≤ 4 ∧ wr.heap[w.heap.size]? = some (.cells cur 135) ∧ cur.size = 4 ∧ cur.all (·.oneCell') = true ∧
      Hid (∀ j, j < k → cur[j]? = some (.int .u8 (S / 256 ^ j % 256 : Nat))) ∧ Hid (Below w.heap.size w wr)) (fun _ i _ => 4 - (intOf i).toNat)
  case atStart => exact ⟨0, _, rfl, by omega, heap_alloc_at _ _, rfl, by decide +kernel, fun j hj => by omega, (Below.refl _ _).alloc (Nat.le_refl _) _⟩
  case round =>
    obtain ⟨k, cur, rfl, hk, hC, hcur, hone, HC, HBE⟩ := hrel
    have HONE := Lib.hid hone; clear hone
    have HCUR := Lib.hid hcur
    clear hcur
    by_cases hk4 : k < 4
    · have hkI : (k : Int) < 4 := by omega
      obtain ⟨old, hold1, hold2⟩ := row_cell hC (show k < cur.size by rw [HCUR.out]; exact hk4)
      have hval : ((S : Int) / 2 ^ (k * 8) % 256) = ((S / 256 ^ k % 256 : Nat) : Int) := by
        have e : 2 ^ (k * 8) = 256 ^ k := by rw [Nat.mul_comm, Nat.pow_mul]
        rw [← e]; simp
      obtain ⟨V, hV⟩ : ∃ V, S / 256 ^ k % 256 = V := ⟨_, rfl⟩
      rw [hV] at hval
      have HV := Lib.hid hV; clear hV
      go_wp2_with fail
      go_roundw
      case rel =>
        have hb3 : Below w.heap.size wr (wr.setCell ⟨w.heap.size, k, none⟩ (.int .u8 (V : Int))) := (Below.refl _ _).setCell (by show w.heap.size ≤ w.heap.size; exact Nat.le_refl _) _
        refine ⟨k + 1, cur.setIfInBounds k (.int .u8 (V : Int)), by go_num, by omega, heap_setCell_same wr _ k cur 135 _ hC, by simpa using HCUR.out, ?_, ?_, HBE.out.trans hb3⟩
        · rw [Array.all_eq_true_iff_forall_mem]
          intro x hx
          rcases Array.mem_or_eq_of_mem_setIfInBounds hx with hx | hx
          · exact (Array.all_eq_true_iff_forall_mem.1 HONE.out) x hx
          · rw [hx]; rfl
        · intro j hj
          rw [Array.getElem?_setIfInBounds]
          by_cases hjk : k = j
          · subst hjk
            rw [if_pos rfl, if_pos (by rw [HCUR.out]; exact hk4), HV.out]
          · rw [if_neg hjk]
            exact HC.out j (by omega)
      case measure => simp [intOf]; omega
    · obtain rfl : k = 4 := by omega
      have hcv := run_convert_bytes_back (P := Tryz.prog) wr 66 9 5 ⟨w.heap.size, 0, none⟩ 4 (le4 S) Tryz.underlying66 Tryz.underlying5 Tryz.underlying9 (fun j hj => by
        rw [le4_at, show ((⟨w.heap.size, 0, none⟩ : Addr).add j) = ⟨w.heap.size, j, none⟩ by simp [Addr.add]; exact fun h => h.symm, cell_of_row _ _ _ cur 135 (0, 0) hC]
        exact HC.out j hj)
      rw [show (⟨(le4 S).toArray⟩ : ByteArray) = str (le4 S) from rfl, le4_length] at hcv
      go_wp2_with fail
      go_simp
      go_wp2_with fail
      go_ret
      exact ⟨rfl, HBE.out⟩

theorem ret_cat {a b c : ByteArray} (h : a ++ b = c) : Ending.returned (.string (a ++ b)) = .returned (.string c) := by rw [h]

set_option maxHeartbeats 400000 in
theorem seal_any (l : List UInt8) (w : World) (hl : l.length ≤ 70368744177664) :
    Calls Tryz.prog 65 #[.string (str l)] w fun e w' => e = .returned (.string (str (sealed l))) ∧ Below w.heap.size w w' := by
  have hsz : (str l).size ≤ 70368744177664 := by rw [str_size]; exact hl
  have hsz4 : (str (le4 (sum l))).size ≤ 4 := by rw [str_size, le4_length]; exact Nat.le_refl _
  have happ : str l ++ str (le4 (sum l)) = str (sealed l) := str_append _ _
  have hlaid := fun w => laid_any l w hl
  have HLAID := Lib.hid hlaid; clear hlaid hl
  go_enter Tryz.func65, Tryz.ntmps65
  go_wp2_with (go_at_call 87; refine (HLAID.out _).mono ?_; rintro _ w1 ⟨rfl, hb1⟩)
  go_ret
  exact ⟨rfl, hb1⟩

set_option maxHeartbeats 400000 in
theorem sclone_any (s : ByteArray) (w : World) (hlim : s.size ≤ 281474976710656) :
    Calls Tryz.prog 35 #[.string s] w fun e w' => e = .returned (.string s) ∧ Below w.heap.size w w' := by
  have HC := Lib.hid (S.clone_any s w hlim); clear hlim
  go_enter Tryz.func35, Tryz.ntmps35
  go_wp2_with (go_at_call 54; refine HC.out.mono ?_; rintro _ w1 ⟨rfl, hb1⟩)
  go_ret
  exact ⟨rfl, hb1⟩

theorem last_eq (l : List UInt8) (n : Nat) (x : List UInt8) : l.drop n = x ↔ l.take n ++ x = l := by
  constructor
  · intro h; rw [← h, List.take_append_drop]
  · intro h
    have h2 := congrArg (List.drop n) h
    by_cases hn : n ≤ l.length
    · rw [List.drop_append_of_le_length (by rw [List.length_take]; omega), List.drop_eq_nil_of_le (by rw [List.length_take]; omega), List.nil_append] at h2
      exact h2.symm
    · have hlt : l.take n = l := List.take_of_length_le (by omega)
      rw [hlt] at h
      have hx : x = [] := by
        have := congrArg List.length h
        rw [List.length_append] at this
        exact List.eq_nil_of_length_eq_zero (by omega)
      rw [hx, List.drop_eq_nil_of_le (by omega)]

set_option maxHeartbeats 400000 in
theorem open_any (l : List UInt8) (w : World) (hl : l.length ≤ 70368744177664) :
    Calls Tryz.prog 72 #[.string (str l)] w fun e w' => e = .returned (.tuple #[.string (str (openOf l).1), .int .i64 (openOf l).2]) ∧ Below w.heap.size w w' := by
  have hsz : (str l).size = l.length := str_size l
  by_cases h4 : l.length < 4
  · have hv : openOf l = ([], 5) := by unfold openOf; rw [if_pos h4]
    rw [hv]
    have hI : (l.length : Int) < 4 := by omega
    clear hv h4
    go_enter Tryz.func72, Tryz.ntmps72
    go_wp2_with fail
    go_ret2
    exact ⟨rfl, Below.refl _ _⟩
  · obtain ⟨n, hn⟩ : ∃ n, l.length = n + 4 := ⟨l.length - 4, by omega⟩
    have hex : (str l).extract 0 n = str (l.take n) := str_take l n
    have hex2 : (str l).extract n (n + 4) = str (l.drop n) := by
      rw [str_extract]; congr 1; exact List.take_of_length_le (by rw [List.length_drop]; omega)
    have HLAID := Lib.hid (fun w => laid_any (l.take n) w (by rw [List.length_take]; omega))
    have HCLONE := Lib.hid (fun w => sclone_any (str (l.take n)) w (by rw [str_size, List.length_take]; omega))
    have hiff := last_eq l n (le4 (sum (l.take n)))
    have hop : openOf l = if sealed (l.take n) = l then (l.take n, 0) else ([], 7) := by
      unfold openOf; rw [if_neg h4, show l.length - 4 = n by omega]
    have hI : ¬ (l.length : Int) < 4 := by omega
    have hw : wrap64 (n : Int) = (n : Int) := by unfold wrap64; omega
    have hn0 : (0 : Int) ≤ (n : Int) := by omega
    have hn1 : (n : Int) ≤ (n : Int) + 4 := by omega
    rw [hn] at hsz hI
    by_cases hq : sealed (l.take n) = l
    · rw [if_pos hq] at hop
      rw [hop]
      have hb : ((str (l.drop n)).toList == (str (le4 (sum (l.take n)))).toList) = true := by
        rw [hiff.2 hq]; exact beq_self_eq_true _
      clear hop hq h4 hiff hl hn
      go_enter Tryz.func72, Tryz.ntmps72
      go_upto_region 4 with fail
      have h0 : Below w.heap.size w w := Below.refl _ _
      go_region_held3 (fun W => Below w.heap.size w W) (first | exact h0 | exact h0.drew | assumption) (first | (go_at_call 87; refine (HLAID.out _).mono ?_; rintro _ w3 ⟨rfl, hb3⟩; have h3 : Below w.heap.size w w3 := h0.drew.trans (hb3.mono h0.size)))
      go_wp2_with (go_at_call 35; refine (HCLONE.out _).mono ?_; rintro _ w4 ⟨rfl, hb4⟩; have h4 := h3.trans (hb4.mono h3.size))
      go_ret2
      exact ⟨rfl, h4⟩
    · rw [if_neg hq] at hop
      rw [hop]
      have hb : ((str (l.drop n)).toList == (str (le4 (sum (l.take n)))).toList) = false := str_ne (fun e => hq (hiff.1 e))
      clear hop hq h4 hiff hl hn
      go_enter Tryz.func72, Tryz.ntmps72
      go_upto_region 4 with fail
      have h0 : Below w.heap.size w w := Below.refl _ _
      go_region_held3 (fun W => Below w.heap.size w W) (first | exact h0 | exact h0.drew | assumption) (first | (go_at_call 87; refine (HLAID.out _).mono ?_; rintro _ w3 ⟨rfl, hb3⟩; have h3 : Below w.heap.size w w3 := h0.drew.trans (hb3.mono h0.size)))
      go_wp2_with fail
      go_ret2
      exact ⟨rfl, h3⟩
end Go.Proofs.YtelcemfaijjcbaaGreatDoor.C
