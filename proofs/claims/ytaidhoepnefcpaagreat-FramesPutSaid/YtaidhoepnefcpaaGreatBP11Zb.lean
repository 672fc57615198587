/-
  Layer 11, the program: Put.
-/
import Derived.Laws.ShiftsVarLaws
import Derived.Deep.MidRow
import Derived.Test.YtaidhoepnefcpaaGreatBP11Mf
namespace Go.Proofs.YtaidhoepnefcpaaGreat.C
open Go
theorem Zc (l : List UInt8) : openOf (sealed l) = (l, 0) := by
 have h : (sealed l).take ((sealed l).length - 4) = l := by rw [yL]; simp [sealed]
 unfold openOf;rw [if_neg (by rw [yL]; omega), h, if_pos rfl]
open Go.RowKit B K
theorem u32_not (a : Nat) (ha : a < 4294967296) : bits .xor .u32 IntKind.u32.max (a : Int) = ((a ^^^ 4294967295 : Nat) : Int) := by
 rw [Nat.xor_comm]; exact u32_xor_nat 4294967295 a (by omega) ha
set_option maxHeartbeats 400000 in
theorem down_any (r : Nat) (w : World) (h : r < 4294967296) :
 Calls Tryz.prog 221 #[.int .u32 (r : Int)] w fun e w' => e = .returned (.int .u32 (zs 8 r : Nat)) /\ w = w' := by
 go_enter Tryz.func221, Tryz.ntmps221;go_wp2_with fail;go_loop [0, 3, 4] (fun x _ i => ∃ R k : Nat, x = .int .u32 (R : Int) /\ R < 4294967296 /\ i = .int .i64 (k : Int) /\ k <= 8 /\ Hid (zs (8 - k) R = zs 8 r)) (fun _ _ i => 8 - (intOf i).toNat)
 case atStart => exact ⟨r, 0, rfl, h, rfl, by omega, rfl⟩
 case round =>
  obtain ⟨R, k, rfl, hR, rfl, hk, HR⟩ := hrel;by_cases hlt : k < 8
  ·have hltI : (k : Int) < 8 := by omega
   have hnx : zs (8 - (k + 1)) (bit R) = zs 8 r := by
    rw [<- HR.out, <- zs_succ]; exact congrArg (fun j => zs j R) (by omega)
   have HNX := Lib.hid hnx; clear hnx
   have hbl := bit_lt R hR;have hand := u32_and_nat R 1 hR (by omega);rw [Nat.and_one_is_mod] at hand;have hx := u32_xor_nat (R / 2) 2197175160 (by omega) (by omega);rw [show ((R / 2 : Nat) : Int) = (R : Int) / 2 by omega] at hx;by_cases hp : R % 2 = 1
   ·have hb : bit R = (R / 2) ^^^ 2197175160 := by unfold bit; rw [if_pos hp]
    rw [<- hb] at hx;rw [hp] at hand;have hand' : bits .and .u32 (R : Int) 1 = 1 := hand;have hx' : bits .xor .u32 ((R : Int) / 2) 2197175160 = ((bit R : Nat) : Int) := hx;have HBL := Lib.hid hbl;clear hb hp hand hx hbl;go_wp2_with fail;go_round
    case rel => exact ⟨bit R, k + 1, rfl, HBL.out, by go_num, by omega, HNX.out⟩
    case measure => simp [intOf]; omega
   ·have hb : bit R = R / 2 := by unfold bit; rw [if_neg hp]
    rw [show R % 2 = 0 by omega] at hand;have hand' : bits .and .u32 (R : Int) 1 = 0 := hand;have HB := Lib.hid hb;have HBL := Lib.hid hbl;clear hb hp hand hx hbl;go_wp2_with fail;go_round
    case rel => exact ⟨bit R, k + 1, by rw [HB.out]; go_num, HBL.out, by go_num, by omega, HNX.out⟩
    case measure => simp [intOf]; omega
  ·obtain rfl : k = 8 := by omega
   have hend : R = zs 8 r := HR.out;have HE := Lib.hid hend; clear hend
   go_wp2_with fail;go_ret;exact ⟨yC (congrArg _ HE.out), rfl⟩
set_option maxHeartbeats 400000 in
theorem more_any (x : Nat) (l : List UInt8) (w : World) (h : x < 4294967296) (hl : l.length <= 9223372036854775807) :
 Calls Tryz.prog 189 #[.int .u32 (x : Int), .string (str l)] w fun e w' => e = .returned (.int .u32 (more x l : Nat)) /\ w = w' := by
 have hsz : (str l).size = l.length := zn l;have HL := Lib.hid hl; clear hl
 obtain ⟨n, hN⟩ : ∃ n, l.length = n := ⟨_, rfl⟩;rw [hN] at hsz HL;have HN := Lib.hid hN; clear hN
 obtain ⟨X, hX⟩ : ∃ X, x ^^^ 4294967295 = X := ⟨_, rfl⟩;have hX1 : X < 4294967296 := by rw [<- hX]; exact Nat.xor_lt_two_pow (n := 32) (by omega) (by omega)
 have hflip := u32_not x h;rw [hX] at hflip;have HX := Lib.hid hX; clear hX
 go_enter Tryz.func189, Tryz.ntmps189;go_wp2_with fail;go_loop [5, 6, 11] (fun x _ i => ∃ R k : Nat, x = .int .u32 (R : Int) /\ R < 4294967296 /\ i = .int .i64 (k : Int) /\ k <= n /\ Hid (thr R (l.drop k) = thr X l)) (fun _ _ i => n - (intOf i).toNat)
 case atStart => exact ⟨X, 0, rfl, hX1, rfl, Nat.zero_le _, rfl⟩
 case round =>
  obtain ⟨R, k, rfl, hR, rfl, hk, HR⟩ := hrel;by_cases hlt : k < n
  ·obtain ⟨b, hb0, hb1, hb2, hb3⟩ := thr_at l k (by rw [HN.out]; exact hlt)
   have hx := u32_xor_nat R b hR (by omega);obtain ⟨Q, hQ⟩ : ∃ Q, R ^^^ b = Q := ⟨_, rfl⟩;have hQ1 : Q < 4294967296 := by rw [<- hQ]; exact Nat.xor_lt_two_pow (n := 32) (by omega) (by omega)
   rw [hQ] at hx;have hb4 := hb3 R;rw [HR.out, hQ] at hb4;have HB := Lib.hid hb4; clear hb4 hb3 hQ
   have hk1 : (k : Int) < 9223372036854775807 := by have := HL.out; omega
   have hltI : (k : Int) < (n : Int) := by omega
   go_wp2_with (go_at_call 221; refine (down_any _ _ hQ1).mono ?_; rintro _ w1 ⟨rfl, rfl⟩)
   go_round
   case rel => exact ⟨zs 8 Q, k + 1, rfl, zs_lt 8 Q hQ1, by go_num, by omega, HB.out.symm⟩
   case measure => simp [intOf]; omega
  ·have hend : R = thr X l := by rw [<- HR.out, List.drop_eq_nil_of_le (by rw [HN.out]; omega), thr_nil]
   have hltI : ¬ (k : Int) < (n : Int) := by omega
   have hfl := u32_not R hR;rw [show R ^^^ 4294967295 = more x l by rw [more, HX.out, hend]] at hfl;have HF := Lib.hid hfl; clear hfl hend
   go_wp2_with fail;go_ret;exact ⟨yC HF.out, rfl⟩
set_option maxHeartbeats 400000 in
theorem sum_any (l : List UInt8) (w : World) (hl : l.length <= 9223372036854775807) :
 Calls Tryz.prog 128 #[.string (str l)] w fun e w' => e = .returned (.int .u32 (sum l : Nat)) /\ w = w' := by
 have hm := fun w => more_any 0 l w (by omega) hl
 rw [more_zero] at hm;have HM := Lib.hid hm; clear hm hl
 go_enter Tryz.func128, Tryz.ntmps128;go_wp2_with (go_at_call 189; refine (HM.out _).mono ?_; rintro _ w1 ⟨rfl, rfl⟩)
 go_ret;exact ⟨rfl, rfl⟩
theorem le4_at (x j : Nat) (h : j < (le4 x).length) : ((le4 x)[j].toNat : Int) = ((x / 256 ^ j % 256 : Nat) : Int) := by
 have h4 : j < 4 := h;rcases (show j = 0 \/ j = 1 \/ j = 2 \/ j = 3 by omega) with rfl | rfl | rfl | rfl
 ·show ((UInt8.ofNat (x % 256)).toNat : Int) = ((x / 1 % 256 : Nat) : Int)
  rw [UInt8.toNat_ofNat', Nat.div_one]; omega
 ·show ((UInt8.ofNat (x / 256 % 256)).toNat : Int) = ((x / 256 % 256 : Nat) : Int)
  rw [UInt8.toNat_ofNat']; omega
 ·show ((UInt8.ofNat (x / 65536 % 256)).toNat : Int) = ((x / 65536 % 256 : Nat) : Int)
  rw [UInt8.toNat_ofNat']; omega
 ·show ((UInt8.ofNat (x / 16777216 % 256)).toNat : Int) = ((x / 16777216 % 256 : Nat) : Int)
  rw [UInt8.toNat_ofNat']; omega
set_option maxHeartbeats 400000 in
theorem laid_any (l : List UInt8) (w : World) (hl : l.length <= 70368744177664) :
 Calls Tryz.prog 67 #[.string (str l)] w fun e w' => e = .returned (.string (str (le4 (sum l)))) /\ Below w.heap.size w w' := by
 obtain ⟨S, hS⟩ : ∃ S, sum l = S := ⟨_, rfl⟩;have hS1 : S < 4294967296 := by rw [<- hS]; exact sum_lt l
 have hHS := sum_any l w (Nat.le_trans hl (by decide));rw [hS] at hHS;rw [hS];have HSUM := Lib.hid hHS; clear hHS hS hl
 have HS1 := Lib.hid hS1; clear hS1
 go_enter Tryz.func67, Tryz.ntmps67;go_wp2_with (go_at_call 128; refine HSUM.out.mono ?_; rintro _ w1 ⟨rfl, rfl⟩)
 go_loopw [5, 8] (fun _ i wr => ∃ (k : Nat) (cur : Array Value), i = .int .i64 (k : Int) /\ k <= 4 /\ wr.heap[w.heap.size]? = some (.cells cur 155) /\ cur.size = 4 /\ cur.all (·.oneCell') = true /\
  Hid (∀ j, j < k -> cur[j]? = some (.int .u8 (S / 256 ^ j % 256 : Nat))) /\ Hid (Below w.heap.size w wr)) (fun _ i _ => 4 - (intOf i).toNat)
 case atStart => exact ⟨0, _, rfl, by omega, zg _ _, rfl, by decide +kernel, fun j hj => by omega, (Below.refl _ _).alloc (Nat.le_refl _) _⟩
 case round =>
  obtain ⟨k, cur, rfl, hk, hC, hcur, hone, HC, HBE⟩ := hrel;have HONE := Lib.hid hone; clear hone
  have HCUR := Lib.hid hcur;clear hcur;by_cases hk4 : k < 4
  ·have hkI : (k : Int) < 4 := by omega
   obtain ⟨old, hold1, hold2⟩ := zB hC (show k < cur.size by rw [HCUR.out]; exact hk4);have hval : ((S : Int) / 2 ^ (k * 8) % 256) = ((S / 256 ^ k % 256 : Nat) : Int) := by
    have e : 2 ^ (k * 8) = 256 ^ k := by rw [Nat.mul_comm, Nat.pow_mul]
    rw [<- e]; simp
   obtain ⟨V, hV⟩ : ∃ V, S / 256 ^ k % 256 = V := ⟨_, rfl⟩;rw [hV] at hval;have HV := Lib.hid hV; clear hV
   go_wp2_with fail;go_roundw
   case rel =>
    have hb3 : Below w.heap.size wr (wr.setCell ⟨w.heap.size, k, none⟩ (.int .u8 (V : Int))) := (Below.refl _ _).setCell (by show w.heap.size <= w.heap.size; exact Nat.le_refl _) _;refine ⟨k + 1, cur.setIfInBounds k (.int .u8 (V : Int)), by go_num, by omega, heap_setCell_same wr _ k cur 155 _ hC, by simpa using HCUR.out, ?_, ?_, HBE.out.trans hb3⟩
    ·rw [Array.all_eq_true_iff_forall_mem]
     intro x hx;rcases Array.mem_or_eq_of_mem_setIfInBounds hx with hx | hx
     ·exact (Array.all_eq_true_iff_forall_mem.1 HONE.out) x hx
     ·rw [hx]; rfl
    ·intro j hj
     rw [Array.getElem?_setIfInBounds];by_cases hjk : k = j
     ·subst hjk
      rw [if_pos rfl, if_pos (by rw [HCUR.out]; exact hk4), HV.out]
     ·rw [if_neg hjk]
      exact HC.out j (by omega)
   case measure => simp [intOf]; omega
  ·obtain rfl : k = 4 := by omega
   have hcv := run_convert_bytes_back (P := Tryz.prog) wr 41 9 5 ⟨w.heap.size, 0, none⟩ 4 (le4 S) Tryz.underlying41 Tryz.underlying5 Tryz.underlying9 (fun j hj => by
    rw [le4_at, show ((⟨w.heap.size, 0, none⟩ : Addr).add j) = ⟨w.heap.size, j, none⟩ by simp [Addr.add]; exact fun h => h.symm, cell_of_row _ _ _ cur 155 (0, 0) hC];exact HC.out j hj)
   rw [show (⟨(le4 S).toArray⟩ : ByteArray) = str (le4 S) from rfl, qW] at hcv;go_wp2_with fail;go_simp
   go_wp2_with fail;go_ret;exact ⟨rfl, HBE.out⟩
set_option maxHeartbeats 400000 in
theorem seal_any (l : List UInt8) (w : World) (hl : l.length <= 70368744177664) :
 Calls Tryz.prog 18 #[.string (str l)] w fun e w' => e = .returned (.string (str (sealed l))) /\ Below w.heap.size w w' := by
 have hsz : (str l).size <= 70368744177664 := by rw [zn]; exact hl
 have hsz4 : (str (le4 (sum l))).size <= 4 := by rw [zn, qW]; exact Nat.le_refl _
 have happ : str l ++ str (le4 (sum l)) = str (sealed l) := yS _ _;have hlaid := fun w => laid_any l w hl
 have HLAID := Lib.hid hlaid; clear hlaid hl
 go_enter Tryz.func18, Tryz.ntmps18;go_wp2_with (go_at_call 67; refine (HLAID.out _).mono ?_; rintro _ w1 ⟨rfl, hb1⟩)
 go_ret;exact ⟨rfl, hb1⟩
set_option maxHeartbeats 400000 in
theorem sclone_any (s : ByteArray) (w : World) (hlim : s.size <= 281474976710656) :
 Calls Tryz.prog 79 #[.string s] w fun e w' => e = .returned (.string s) /\ Below w.heap.size w w' := by
 have HC := Lib.hid (S.Ya s w hlim); clear hlim
 go_enter Tryz.func79, Tryz.ntmps79;go_wp2_with (go_at_call 134; refine HC.out.mono ?_; rintro _ w1 ⟨rfl, hb1⟩)
 go_ret;exact ⟨rfl, hb1⟩
theorem last_eq (l : List UInt8) (n : Nat) (x : List UInt8) : l.drop n = x ↔ l.take n ++ x = l := by
 constructor
 ·intro h; rw [<- h, List.take_append_drop]
 ·intro h
  have h2 := congrArg (List.drop n) h;by_cases hn : n <= l.length
  ·rw [List.drop_append_of_le_length (by rw [List.length_take]; omega), List.drop_eq_nil_of_le (by rw [List.length_take]; omega), List.nil_append] at h2
   exact h2.symm
  ·have hlt : l.take n = l := List.take_of_length_le (by omega)
   rw [hlt] at h;have hx : x = [] := by
    have := congrArg List.length h;rw [List.length_append] at this;exact List.eq_nil_of_length_eq_zero (by omega)
   rw [hx, List.drop_eq_nil_of_le (by omega)]
set_option maxHeartbeats 400000 in
theorem open_any (l : List UInt8) (w : World) (hl : l.length <= 70368744177664) :
 Calls Tryz.prog 36 #[.string (str l)] w fun e w' => e = .returned (.tuple #[.string (str (openOf l).1), .int .i64 (openOf l).2]) /\ Below w.heap.size w w' := by
 have hsz : (str l).size = l.length := zn l;by_cases h4 : l.length < 4
 ·have hv : openOf l = ([], 5) := by unfold openOf; rw [if_pos h4]
  rw [hv];have hI : (l.length : Int) < 4 := by omega
  clear hv h4;go_enter Tryz.func36, Tryz.ntmps36;go_wp2_with fail;go_ret2;exact ⟨rfl, Below.refl _ _⟩
 ·obtain ⟨n, hn⟩ : ∃ n, l.length = n + 4 := ⟨l.length - 4, by omega⟩
  have hex : (str l).extract 0 n = str (l.take n) := str_take l n;have hex2 : (str l).extract n (n + 4) = str (l.drop n) := by
   rw [qE]; congr 1; exact List.take_of_length_le (by rw [List.length_drop]; omega)
  have HLAID := Lib.hid (fun w => laid_any (l.take n) w (by rw [List.length_take]; omega));have HCLONE := Lib.hid (fun w => sclone_any (str (l.take n)) w (by rw [zn, List.length_take]; omega));have hiff := last_eq l n (le4 (sum (l.take n)));have hop : openOf l = if sealed (l.take n) = l then (l.take n, 0) else ([], 7) := by
   unfold openOf; rw [if_neg h4, show l.length - 4 = n by omega]
  have hI : ¬ (l.length : Int) < 4 := by omega
  have hw : wrap64 (n : Int) = (n : Int) := by unfold wrap64; omega
  have hn0 : (0 : Int) <= (n : Int) := by omega
  have hn1 : (n : Int) <= (n : Int) + 4 := by omega
  rw [hn] at hsz hI;by_cases hq : sealed (l.take n) = l
  ·rw [if_pos hq] at hop
   rw [hop];have hb : ((str (l.drop n)).toList == (str (le4 (sum (l.take n)))).toList) = true := by
    rw [hiff.2 hq]; exact beq_self_eq_true _
   clear hop hq h4 hiff hl hn;go_enter Tryz.func36, Tryz.ntmps36;go_upto_region 4 with fail
   have h0 : Below w.heap.size w w := Below.refl _ _;go_region_held3 (fun W => Below w.heap.size w W) (first | exact h0 | exact h0.drew | assumption) (first | (go_at_call 67; refine (HLAID.out _).mono ?_; rintro _ w3 ⟨rfl, hb3⟩; have h3 : Below w.heap.size w w3 := h0.drew.trans (hb3.mono h0.size)))
   go_wp2_with (go_at_call 79; refine (HCLONE.out _).mono ?_; rintro _ w4 ⟨rfl, hb4⟩; have h4 := h3.trans (hb4.mono h3.size))
   go_ret2;exact ⟨rfl, h4⟩
  ·rw [if_neg hq] at hop
   rw [hop];have hb : ((str (l.drop n)).toList == (str (le4 (sum (l.take n)))).toList) = false := str_ne (fun e => hq (hiff.1 e));clear hop hq h4 hiff hl hn;go_enter Tryz.func36, Tryz.ntmps36;go_upto_region 4 with fail
   have h0 : Below w.heap.size w w := Below.refl _ _;go_region_held3 (fun W => Below w.heap.size w W) (first | exact h0 | exact h0.drew | assumption) (first | (go_at_call 67; refine (HLAID.out _).mono ?_; rintro _ w3 ⟨rfl, hb3⟩; have h3 : Below w.heap.size w w3 := h0.drew.trans (hb3.mono h0.size)))
   go_wp2_with fail;go_ret2;exact ⟨rfl, h3⟩
end Go.Proofs.YtaidhoepnefcpaaGreat.C
namespace Go.Proofs.YtaidhoepnefcpaaGreat.C10
open Go Go.RowKit Go.Proofs B K P8
set_option linter.unusedVariables false
set_option maxRecDepth 100000
set_option maxHeartbeats 8000000 in
theorem pPut_any (f : Fr) (v5 v6 v7 v8 v9 : Value) (w : World) (h : FrIs w f v5 v6 v7 v8 v9) (hw : FrWf f) :
 Calls Tryz.prog 7 #[.agg (frCells f v5 v6 v7 v8 v9).toArray] w fun e w' => e = .returned (.tuple #[.string (str (putS11 (rightP f) (C.sealed (layFr f)))), .int .i64 (putE11 (rightP f))]) /\ Below w.heap.size w w' := by
 have HM := Lib.hid (fun W (hb : Below w.heap.size w W) => Yb f v5 v6 v7 v8 v9 W (h.below hb) hw);have hsp := Zh f;obtain ⟨m, hm⟩ : ∃ m, mayP f = m := ⟨_, rfl⟩;rw [hm] at HM hsp;have HF := Lib.hid (show m = true -> ∀ (b : Nat) (W : World), Wr w.heap.size b true [] W -> Below w.heap.size w W -> Calls Tryz.prog 17 #[.pointer (some ⟨b, 0, none⟩), .agg (frCells f v5 v6 v7 v8 v9).toArray] W (WPost w.heap.size b (codP f) (layFr f) W) from fun hmt b W hW hB => by
  obtain ⟨g1, g2, g3, g4⟩ := may_facts (hm.trans hmt);exact wframe_any w b f v5 v6 v7 v8 v9 W hW hB h hw g1 g2 g3 g4)
 have hne := lay_some f hw;have hlen : rightP f = true -> (layFr f).length <= 20000 := fun hr => Yh hr
 obtain ⟨c, hc⟩ : ∃ c, codP f = c := ⟨_, rfl⟩;obtain ⟨t, ht⟩ : ∃ t, layFr f = t := ⟨_, rfl⟩;rw [hc, ht] at HF;rw [hc] at hsp;rw [ht] at hne hlen ⊢;rw [hsp] at hlen ⊢;clear h hw hm hsp hc ht;obtain ⟨n0, n1, n2, n3, n4, l5, l6, l7, l8, l9⟩ := f;have HM := Lib.hid (show ∀ W, Below w.heap.size w W -> Calls Tryz.prog 16 #[.agg #[.int .i64 n0, .int .i64 n1, .int .i64 n2, .int .i64 n3, .int .i64 n4, v5, v6, v7, v8, v9]] W _ from fun W hb => HM.out W hb);have HF := Lib.hid (show m = true -> ∀ (b : Nat) (W : World), Wr w.heap.size b true [] W -> Below w.heap.size w W -> Calls Tryz.prog 17 #[.pointer (some ⟨b, 0, none⟩), .agg #[.int .i64 n0, .int .i64 n1, .int .i64 n2, .int .i64 n3, .int .i64 n4, v5, v6, v7, v8, v9]] W _ from fun hmt b W hW hB => HF.out hmt b W hW hB);show Calls Tryz.prog 7 #[.agg #[.int .i64 n0, .int .i64 n1, .int .i64 n2, .int .i64 n3, .int .i64 n4, v5, v6, v7, v8, v9]] w _
 obtain ⟨F, hF⟩ : ∃ n, w.heap.size = n := ⟨_, rfl⟩;obtain ⟨W0, hW0⟩ : ∃ W0, w.alloc (.cells #[.int .i64 n0, .int .i64 n1, .int .i64 n2, .int .i64 n3, .int .i64 n4, v5, v6, v7, v8, v9] 28) = W0 := ⟨_, rfl⟩;have hb0 : Below w.heap.size w W0 := by rw [<- hW0]; exact zf _ _
 have hz0 : W0.heap[F]? = some (.cells #[.int .i64 n0, .int .i64 n1, .int .i64 n2, .int .i64 n3, .int .i64 n4, v5, v6, v7, v8, v9] 28 (0, 0)) := by rw [<- hW0, <- hF]; exact zg _ _
 have HB0 := Lib.hid hb0;have HZ0 := Lib.hid hz0;have k0 := (zb hz0 0 _ rfl).1;have k1 := (zb hz0 1 _ rfl).1;have k2 := (zb hz0 2 _ rfl).1;have k3 := (zb hz0 3 _ rfl).1;have k4 := (zb hz0 4 _ rfl).1;have k5 := (zb hz0 5 _ rfl).1;have k6 := (zb hz0 6 _ rfl).1;have k7 := (zb hz0 7 _ rfl).1;have k8 := (zb hz0 8 _ rfl).1;have k9 := (zb hz0 9 _ rfl).1;clear hb0 hz0;cases m with
 | false =>
  go_enter Tryz.func7, Tryz.ntmps7;go_wp2_with fail;refine (HM.out _ HB0.out).mono ?_;rintro _ w1 ⟨rfl, hb1⟩;have HB1 := Lib.hid (HB0.out.trans (hb1.mono HB0.out.size));clear hb1;go_wp2_with fail;go_ret2;exact ⟨rfl, HB1.out⟩
 | true =>
 have HFR := Lib.hid (HF.out rfl);clear HF;rw [Bool.true_and] at hlen ⊢;go_enter Tryz.func7, Tryz.ntmps7;go_wp2_with fail;refine (HM.out _ HB0.out).mono ?_;rintro _ w1 ⟨rfl, hb1⟩;have hz1 := (hb1.block F (Array.getElem?_eq_some_iff.1 HZ0.out).1).trans HZ0.out;have hB1 := HB0.out.trans (hb1.mono HB0.out.size);obtain ⟨b, hb⟩ : ∃ n, w1.heap.size = n := ⟨_, rfl⟩;obtain ⟨W2, hW2⟩ : ∃ W2, w1.alloc (.cells #[.pointer none, .slice none 0 0, .int .i64 0] 48) = W2 := ⟨_, rfl⟩;have hb2 : Below w1.heap.size w1 W2 := by rw [<- hW2]; exact zf _ _
 have hz2 := (hb2.block F (Array.getElem?_eq_some_iff.1 hz1).1).trans hz1;have hzb : W2.heap[b]? = some (.cells #[.pointer none, .slice none 0 0, .int .i64 0] 48 (0, 0)) := by rw [<- hW2, <- hb]; exact zg _ _
 have hB2 := hB1.trans (hb2.mono hB1.size);have HWR := Lib.hid (show Wr w.heap.size b true [] W2 from ⟨.pointer none, .slice none 0 0, 0, [], ⟨by rw [<- hb]; exact hB1.size, hzb, World.ownsRow_nil _ _ _ _, Or.inl rfl⟩, fun _ => ⟨rfl, rfl⟩, fun e => (by cases e)⟩);have HB2 := Lib.hid hB2;have hbF : F ≠ b := by have := (Array.getElem?_eq_some_iff.1 hz1).1; omega
 clear k0 k1 k2 k3 k4 k5 k6 k7 k8 k9;have k0 := (zb hz2 0 _ rfl).1;have k1 := (zb hz2 1 _ rfl).1;have k2 := (zb hz2 2 _ rfl).1;have k3 := (zb hz2 3 _ rfl).1;have k4 := (zb hz2 4 _ rfl).1;have k5 := (zb hz2 5 _ rfl).1;have k6 := (zb hz2 6 _ rfl).1;have k7 := (zb hz2 7 _ rfl).1;have k8 := (zb hz2 8 _ rfl).1;have k9 := (zb hz2 9 _ rfl).1;clear hz1 hB1 hb1 hb2 hz2 hzb hB2 hW0;go_wp2_with fail;refine (HFR.out b W2 HWR.out HB2.out).mono ?_;rintro _ w3 ⟨rfl, ⟨p, v, er, l, hA, hg1, hg2⟩, hb3, hn3⟩;have d2 := (zb hA.2.1 2 _ rfl).1;have HB3 := Lib.hid (HB2.out.trans hb3);have HA := Lib.hid hA;clear hA hb3 hn3;cases c with
 | false =>
  have he := hg2 rfl;subst he;clear hg1 hg2 hlen hne;go_wp2_with fail;go_quiet (fail)
  go_wp2_with fail;go_ret2;exact ⟨rfl, HB3.out.trans ((P8.below_drewN _ _).mono HB3.out.size)⟩
 | true =>
  obtain ⟨rfl, rfl⟩ := hg1 rfl;have HS := Lib.hid (fun W => C.seal_any l W (Nat.le_trans (hlen rfl) (by decide)));have HT := Lib.hid (wstring_any w.heap.size b p v 0 l w3 HA.out hne);clear hg1 hg2 hlen hne;go_wp2_with fail;refine HT.out.mono ?_;rintro _ w4 ⟨rfl, hb4⟩;have HB4 := Lib.hid (HB3.out.trans hb4);clear hb4;go_wp2_with fail;refine (HS.out _).mono ?_;rintro _ w5 ⟨rfl, hb5⟩;have HB5 := Lib.hid (HB4.out.trans (hb5.mono HB4.out.size));clear hb5;go_wp2_with fail;go_ret2;exact ⟨rfl, HB5.out⟩
end Go.Proofs.YtaidhoepnefcpaaGreat.C10
