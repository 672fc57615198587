/-
  Layer 11, the law FramesSpoilt: its walk.
-/
import Derived.Test.YtaidhoepnefcpaaGreatP11LPut
import Derived.StillTailTactics
import Derived.Test.YtaidhoepnefcpaaGreatKLaw
namespace Go.Proofs.YtaidhoepnefcpaaGreat.C10
open Go.ChangeShapes Go.WideShapes Go.ChangeAt
open Go Go.RowKit Go.Proofs B K P8 C
set_option linter.unusedVariables false
set_option maxRecDepth 100000
theorem open_of_mark (l : List UInt8) (h4 : 4 <= l.length) (h : thr 4294967295 l ≠ zs 32 4294967295) : openOf l = ([], 7) := by
 unfold openOf;rw [if_neg (by omega), if_neg];intro e;apply h
 rw [<- e];exact thr_sealed _
theorem byteCells_set (u : List UInt8) (i : Nat) (y : UInt8) : (Lib.byteCells u).set i (.int .u8 (y.toNat : Int)) = Lib.byteCells (u.set i y) := by
 simp only [Lib.byteCells, List.map_set]
set_option maxHeartbeats 2000000 in
theorem walkSpoilt (L0 : Low) (F : Frm) (f : Fr) (v5 v6 v7 v8 v9 : Value) (at' : Int) (B : Nat) (ha0 : -9223372036854775808 <= at') (ha1 : at' <= 9223372036854775807) (hB : B < 4294967296) (w : World) (h : FrIs w f v5 v6 v7 v8 v9) (hw : FrWf f) :
 Calls Tryz.prog 6 #[.agg (frCells f v5 v6 v7 v8 v9).toArray, .int .i64 at', .int .u32 (B : Int)] w fun e w' => e = .returned (.bool true) /\ Below w.heap.size w w' := by
 have hPut := fun (W : World) (hb : Below w.heap.size w W) => F.put f v5 v6 v7 v8 v9 W (h.below hb) hw
 have hA := fun W => awake11_any F W
 have hrl := fun (h1 : rightP f = true) => right_len h1
 have hcl := sealed_length (layFr f);have hmark := thr_sealed (layFr f);obtain ⟨c, hc⟩ : ∃ c, sealed (layFr f) = c := ⟨_, rfl⟩;rw [hc] at hPut hcl hmark;generalize rightP f = R at *
 generalize layFr f = Y at *
 clear hc;have hM : zs 32 4294967295 = thr 4294967295 c := hmark.symm;obtain ⟨L, hL⟩ : ∃ L, c.length = L := ⟨_, rfl⟩;have hL4 : 4 <= L := by omega
 have hrl2 : R = true -> L <= 20004 := fun e => by have := hrl e; omega
 have HM := Lib.hid hM; clear hM hmark hcl hrl
 have HB := Lib.hid hB; clear hB
 have hsz : (str c).size = L := by rw [str_size, hL]
 have HGET := Lib.hid (fun u W => F.get u W);have HSAME := Lib.hid (fun (a5 a6 a7 a8 a9 : Option Addr) (c5 c6 c7 c8 c9 : Nat) W => sameG L0 noFr noFr (.slice a5 0 c5) (.slice a6 0 c6) (.slice a7 0 c7) (.slice a8 0 c8) (.slice a9 0 c9) (.slice none 0 0) (.slice none 0 0) (.slice none 0 0) (.slice none 0 0) (.slice none 0 0) W (nil_is _ _ _ _ _ _ _ _ _ _ _ _ ⟨rfl, rfl, rfl, rfl, rfl⟩) (nil_is _ _ _ _ _ _ _ _ _ _ _ _ ⟨rfl, rfl, rfl, rfl, rfl⟩) (wf_sh no_wf));rw [show eqv noFr noFr = true from eqv_self _] at HSAME;obtain ⟨n0, n1, n2, n3, n4, fl, cl, el, il, vl⟩ := f;dsimp only [frCells] at hPut ⊢;clear h hw;have HP := Lib.hid hPut;have HA := Lib.hid hA;clear hPut hA F L0;obtain ⟨W0, hW0⟩ : ∃ W0, w.alloc (.cells #[.int .i64 n0, .int .i64 n1, .int .i64 n2, .int .i64 n3, .int .i64 n4, v5, v6, v7, v8, v9] 28) = W0 := ⟨_, rfl⟩;have HB0 := Lib.hid (show Below w.heap.size w W0 by rw [<- hW0]; exact below_alloc _ _);have k0 : W0.cell? ⟨w.heap.size, 0, none⟩ = some (.int .i64 n0) := by rw [<- hW0]; exact alloc_cell w [_, _, _, _, _, _, _, _, _, _] _ 0 _ rfl
 have k1 : W0.cell? ⟨w.heap.size, 1, none⟩ = some (.int .i64 n1) := by rw [<- hW0]; exact alloc_cell w [_, _, _, _, _, _, _, _, _, _] _ 1 _ rfl
 have k2 : W0.cell? ⟨w.heap.size, 2, none⟩ = some (.int .i64 n2) := by rw [<- hW0]; exact alloc_cell w [_, _, _, _, _, _, _, _, _, _] _ 2 _ rfl
 have k3 : W0.cell? ⟨w.heap.size, 3, none⟩ = some (.int .i64 n3) := by rw [<- hW0]; exact alloc_cell w [_, _, _, _, _, _, _, _, _, _] _ 3 _ rfl
 have k4 : W0.cell? ⟨w.heap.size, 4, none⟩ = some (.int .i64 n4) := by rw [<- hW0]; exact alloc_cell w [_, _, _, _, _, _, _, _, _, _] _ 4 _ rfl
 have k5 : W0.cell? ⟨w.heap.size, 5, none⟩ = some (v5) := by rw [<- hW0]; exact alloc_cell w [_, _, _, _, _, _, _, _, _, _] _ 5 _ rfl
 have k6 : W0.cell? ⟨w.heap.size, 6, none⟩ = some (v6) := by rw [<- hW0]; exact alloc_cell w [_, _, _, _, _, _, _, _, _, _] _ 6 _ rfl
 have k7 : W0.cell? ⟨w.heap.size, 7, none⟩ = some (v7) := by rw [<- hW0]; exact alloc_cell w [_, _, _, _, _, _, _, _, _, _] _ 7 _ rfl
 have k8 : W0.cell? ⟨w.heap.size, 8, none⟩ = some (v8) := by rw [<- hW0]; exact alloc_cell w [_, _, _, _, _, _, _, _, _, _] _ 8 _ rfl
 have k9 : W0.cell? ⟨w.heap.size, 9, none⟩ = some (v9) := by rw [<- hW0]; exact alloc_cell w [_, _, _, _, _, _, _, _, _, _] _ 9 _ rfl
 cases R with
 | false =>
  rw [putS_f, putE_f] at HP;go_enter Tryz.func6, Tryz.ntmps6;go_wp2_with fail;refine (HP.out _ HB0.out).mono ?_;rintro _ w1 ⟨rfl, hb1⟩;have HB1 := Lib.hid (HB0.out.trans (hb1.mono HB0.out.size));clear hb1;go_wp2_with fail;refine (HA.out _).mono ?_;rintro _ w2 ⟨rfl, hb2⟩;have HB2 := Lib.hid (HB1.out.trans (hb2.mono HB1.out.size));clear hb2;go_wp2_with fail;refine (HA.out _).mono ?_;rintro _ w3 ⟨rfl, hb3⟩;go_wp2_with fail;go_ret;exact ⟨rfl, HB2.out.trans (hb3.mono HB2.out.size)⟩
 | true =>
  rw [putS_t, putE_t] at HP;have hL3 : L <= 20004 := hrl2 rfl;have hconv := fun w => conv_bytes (P := Tryz.prog) w 9 41 5 (str c) Tryz.underlying9 Tryz.underlying41 Tryz.underlying5 (by rw [hsz]; unfold maxLen; omega)
  rw [strCells_str, hsz] at hconv;have HCO := Lib.hid hconv; clear hconv hrl2
  have hLI : (L : Int) <= 20004 := by omega
  have HL3 := Lib.hid hL3; clear hL3
  go_enter Tryz.func6, Tryz.ntmps6;go_wp2_with fail;refine (HP.out _ HB0.out).mono ?_;rintro _ w1 ⟨rfl, hb1⟩;have HB1 := Lib.hid (HB0.out.trans (hb1.mono HB0.out.size));clear hb1;go_wp2_with fail;refine (HA.out _).mono ?_;rintro _ w2 ⟨rfl, hb2⟩;have h2 := HB1.out.trans (hb2.mono HB1.out.size);clear hb2 HP;by_cases hneg : at' < 0
  ·go_wp2_with fail
   refine (HA.out _).mono ?_;rintro _ w5 ⟨rfl, g5⟩;go_wp2_with fail;go_ret;exact ⟨rfl, h2.trans (g5.mono h2.size)⟩
  ·obtain ⟨A, rfl⟩ := Int.eq_ofNat_of_zero_le (show 0 <= at' by omega)
   by_cases hbig : 8 * L <= A
   ·have hbI : 8 * (L : Int) <= (A : Int) := by omega
    clear hbig hneg;go_wp2_with fail;refine (HA.out _).mono ?_;rintro _ w5 ⟨rfl, g5⟩;go_wp2_with fail;go_ret;exact ⟨rfl, h2.trans (g5.mono h2.size)⟩
   ·have hbI : ¬ 8 * (L : Int) <= (A : Int) := by omega
    have hA : A < 8 * L := by omega
    clear hbig hneg;obtain ⟨v, w3, hcv, how, hb3⟩ := HCO.out w2;obtain ⟨g, cap, rfl, hg0, hg1, hcell, hset⟩ := how.opened (by omega);have HOW4 := Lib.hid (how.mono h2.size); clear how hcell hset hg0 hg1
    have h4 := h2.trans (hb3.mono h2.size);clear h2 hb3;go_wp2_with fail;go_simp
    clear hcv;go_wp2_with fail;go_loopw [10, 11] (fun t i wr => ∃ (tb : Bool) (k W : Nat) (u : List UInt8), t = .bool tb /\ i = .int .i64 (k : Int) /\ k <= 32 /\ A + k <= 8 * L /\ u.length = L /\ Hid (tb = true ↔ W ≠ 0) /\ Hid (W < 2 ^ k) /\
     Hid (zs 32 (thr 4294967295 u) = zs 32 (thr 4294967295 c) ^^^ zs (8 * L - A) (zs 32 W)) /\ Hid (OwnsG wr w.heap.size 5 (.slice (some ⟨g, 0, none⟩) L cap) L (Lib.byteCells u)) /\ Hid (Below w.heap.size w wr)) (fun _ i _ => 32 - (intOf i).toNat)
    case atStart => exact ⟨false, 0, 0, c, rfl, rfl, by omega, by omega, hL, by show _ ↔ _; simp, by show 0 < 2 ^ 0; decide, by show _ = _; rw [zs_zero, zs_zero, Nat.xor_zero], HOW4.out, h4⟩
    case round =>
     obtain ⟨tb, k, W, u, rfl, rfl, hk, hAk, hu, HTB, HW, HZ, HOWN, HBE⟩ := hrel;by_cases hgo : k < 32 /\ A + k < 8 * L
     ·obtain ⟨hk32, hAkL⟩ := hgo
      have hkI : (k : Int) < 32 := by omega
      have hkN : (k : Int) < 8 * (L : Int) - (A : Int) := by omega
      have hAI : (A : Int) < 8 * (L : Int) := by omega
      have HK := Lib.hid (And.intro hk32 (And.intro hAkL (And.intro hA (And.intro hL (And.intro hu hL4)))));clear hk32 hAkL hA hL hu hL4 hAk hk hbI;go_upto_region 9 with fail
      obtain ⟨D, hD⟩ : ∃ D, B / 2 ^ k = D := ⟨_, rfl⟩;have hDI : (B : Int) / 2 ^ k = (D : Int) := by rw [<- hD]; simp
      have hD1 : D < 4294967296 := by rw [<- hD]; have := Nat.div_le_self B (2 ^ k); have := HB.out; omega
      have hand := u32_and_nat D 1 hD1 (by omega);rw [Nat.and_one_is_mod, <- hDI] at hand;clear hD hDI hD1;by_cases hbit : D % 2 = 1
      ·rw [hbit] at hand
       have hand' : bits .and .u32 ((B : Int) / 2 ^ k) 1 = 1 := hand;clear hand hbit;obtain ⟨hk32, hAkL, hA, hL, hu, hL4⟩ := HK.out;obtain ⟨q, hq⟩ : ∃ q, (A + k) / 8 = q := ⟨_, rfl⟩;obtain ⟨j, hj⟩ : ∃ j, (A + k) % 8 = j := ⟨_, rfl⟩;have hj8 : j < 8 := by omega
       have hqL : q < L := by omega
       have hqu : q < u.length := by omega
       obtain ⟨z, hz⟩ : ∃ z, u[q]? = some z := ⟨_, List.getElem?_eq_getElem hqu⟩;obtain ⟨x, hx⟩ : ∃ x, z.toNat = x := ⟨_, rfl⟩;have hx8 : x < 256 := by rw [<- hx]; exact z.toNat_lt
       obtain ⟨P, hP⟩ : ∃ P, 2 ^ j = P := ⟨_, rfl⟩;have hP8 : P < 256 := by rw [<- hP]; exact Nat.pow_lt_pow_right (by omega) (show j < 8 from hj8)
       obtain ⟨y, hy⟩ : ∃ y, x ^^^ P = y := ⟨_, rfl⟩;have hy8 : y < 256 := by rw [<- hy]; exact Nat.xor_lt_two_pow (n := 8) (by omega) (by omega)
       have hxor := u8_xor_nat x P hx8 hP8;rw [hy] at hxor;have hpw : (2 : Int) ^ j = (P : Int) := by rw [<- hP]; simp
       have hpI : (P : Int) < 256 := by omega
       have hqd : ((A : Int) + (k : Int)).tdiv 8 = (q : Int) := by rw [Int.tdiv_eq_ediv_of_nonneg (by omega)]; omega
       have hjm : ((A : Int) + (k : Int)).tmod 8 = (j : Int) := by rw [Int.tmod_eq_emod_of_nonneg (by omega)]; omega
       have hqd' : ((A : Int) + (k : Int)) / 8 = (q : Int) := by omega
       have hjm' : ((A : Int) + (k : Int)) % 8 = (j : Int) := by omega
       have hpw2 : IntKind.u8.wrap ((2 : Int) ^ j) = (P : Int) := by rw [hpw]; exact IntWalk.u8_in _ (by omega)
       have hw1 : IntKind.i64.wrap ((A : Int) + (k : Int)) = (A : Int) + (k : Int) := IntWalk.i64_in _ (by omega);have hw2 : IntKind.i64.wrap (q : Int) = (q : Int) := IntWalk.i64_in _ (by omega);have hpw4 : IntKind.u8.wrap (P : Int) = (P : Int) := IntWalk.u8_in _ (by omega);have hw3 : IntKind.i64.wrap (j : Int) = (j : Int) := IntWalk.i64_in _ (by omega);have hqI : (q : Int) < (L : Int) := by omega
       have hjI : (j : Int) < 8 := by omega
       obtain ⟨g', cap', hv', hg0, hg1, hcell, hset⟩ := HOWN.out.opened (show 0 < L by omega);simp only [Value.slice.injEq, Option.some.injEq, Addr.mk.injEq, true_and, and_true] at hv';obtain ⟨rfl, rfl⟩ := hv';obtain ⟨hc1, hc2⟩ := hcell q (.int .u8 (x : Int)) (by rw [Lib.byteCells, List.getElem?_map, hz, <- hx]; rfl);have hown' := hset q (.int .u8 (y : Int)) hqL;have HOWN' := Lib.hid hown';have HBE' := Lib.hid (HBE.out.setCell (p := ⟨g, q, none⟩) hg0 (.int .u8 (y : Int)));have HX := Lib.hid hx;have HZZ := Lib.hid hz;have HY8 := Lib.hid hy8;have HJ8 := Lib.hid hj8;have HQL := Lib.hid hqL;have HY := Lib.hid hy;have HQ := Lib.hid hq;have HJ := Lib.hid hj;have HP := Lib.hid hP;clear hown' hset hcell hx hz hy hq hj hP hy8 hP8 hx8 hqL hqu hj8 hk32 hAkL hA hL hu hL4;go_wp2_with fail;go_still_tail 13, (by kernel_rfl)
       change wpList _ _ _ _ _ wr.drew
       go_wp2_with fail;go_roundw
       case rel =>
        obtain ⟨hk32, hAkL, hA, hL, hu, hL4⟩ := HK.out;have hqu : q < u.length := by have := HQL.out; omega
        have hyz : (UInt8.ofNat y).toNat = y := by rw [UInt8.toNat_ofNat']; exact Nat.mod_eq_of_lt HY8.out
        have hut : u.set q (UInt8.ofNat y) = u.set ((A + k) / 8) (UInt8.ofNat y) := by rw [HQ.out]
        have hzu : u[(A + k) / 8]'(by omega) = z := by
         have h1 := HZZ.out;rw [<- HQ.out] at h1;exact (List.getElem?_eq_some_iff.1 h1).2
        have ht := turn_at 4294967295 u (A + k) (by omega) (UInt8.ofNat y) (by rw [hyz, hzu, HX.out, HJ.out, HP.out, HY.out]);rw [<- hut, hu] at ht;have hr := turn_round (thr 4294967295 u) (thr 4294967295 c) A (8 * L) k W hk32 hAkL HZ.out;rw [<- ht] at hr;have hWk : W < 2 ^ k := HW.out;have hne : W ^^^ 2 ^ k ≠ 0 := fun e => by have := xor_eq_zero _ _ e; omega
        have hlt : W ^^^ 2 ^ k < 2 ^ (k + 1) := Nat.xor_lt_two_pow (Nat.lt_of_lt_of_le hWk (Nat.pow_le_pow_right (by omega) (by omega))) (Nat.pow_lt_pow_right (by omega) (by omega));have hown5 := HOWN'.out;have hbs := byteCells_set u q (UInt8.ofNat y);rw [hyz] at hbs;rw [hbs] at hown5;exact ⟨true, k + 1, W ^^^ 2 ^ k, u.set q (UInt8.ofNat y), rfl, by go_num, by omega, by omega, by rw [List.length_set]; exact hu, by show _ ↔ _; simp [hne], hlt, hr, hown5, HBE'.out.drew⟩
       case measure => simp [intOf]; have := HK.out; omega
      ·rw [show D % 2 = 0 by omega] at hand
       have hand' : bits .and .u32 ((B : Int) / 2 ^ k) 1 = 0 := hand;clear hand hbit;go_wp2_with fail;go_roundw
       case rel => exact ⟨tb, k + 1, W, u, rfl, by go_num, by have := HK.out; omega, by have := HK.out; omega, HK.out.2.2.2.2.1, HTB.out, Nat.lt_of_lt_of_le HW.out (Nat.pow_le_pow_right (by omega) (by omega)), HZ.out, HOWN.out, HBE.out⟩
       case measure => simp [intOf]; have := HK.out; omega
     ·have hcond : ¬ (k : Int) < 32 \/ ((k : Int) < 32 /\ ¬ (k : Int) < 8 * (L : Int) - (A : Int)) := by omega
      have hW32 : W < 4294967296 := Nat.lt_of_lt_of_le HW.out (by have : (2 : Nat) ^ k <= 2 ^ 32 := Nat.pow_le_pow_right (by omega) (by omega); omega);have hopen : tb = true -> openOf u = ([], 7) := fun e => open_of_mark u (by omega) (by
       rw [HM.out];exact told _ _ _ W hW32 (HTB.out.1 e) HZ.out)
      have hcv := run_strG (P := Tryz.prog) Tryz.underlying41 Tryz.underlying5 Tryz.underlying9 HOWN.out (dst := 9) (src := 41);rw [show (⟨u.toArray⟩ : ByteArray) = str u from rfl] at hcv;have HOPEN := Lib.hid hopen; clear hopen hW32
      have HUL := Lib.hid (show u.length <= L by omega);have hAI : (A : Int) < 8 * (L : Int) := by omega
      clear hgo hk hAk hu hA hL hL4 hbI;have HCV := Lib.hid hcv; clear hcv
      rcases hcond with hc1 | ⟨hc0, hc1⟩
      ·have hcv := HCV.out
       go_wp2_with fail;go_simp
       go_wp2_with fail;refine (HGET.out u _ (by have := HL3.out; have := HUL.out; omega)).mono ?_;rintro _ w6 ⟨g6, u5, u6, u7, u8, u9, er, rfl, hI, -, gb6, hm⟩;have h6 := HBE.out.trans (gb6.mono HBE.out.size);obtain ⟨a5, c5, rfl, -⟩ := hI.filter.open;obtain ⟨a6, c6, rfl, -⟩ := hI.cmds.open;obtain ⟨a7, c7, rfl, -⟩ := hI.entries.open;obtain ⟨a8, c8, rfl, -⟩ := hI.items.open;obtain ⟨a9, c9, rfl, -⟩ := hI.verdicts.open;clear hI gb6;cases tb
       ·obtain ⟨m0, m1, m2, m3, m4, fl2, cl2, el2, il2, vl2⟩ := g6
        clear hm;dsimp only [frCells];go_wp2_with fail;go_ret;exact ⟨rfl, h6.trans ((below_alloc w6 _).mono h6.size)⟩
       ·have hop := HOPEN.out rfl
        rw [hop, if_neg (by decide)] at hm;obtain ⟨rfl, rfl⟩ := hm;dsimp only [frCells, noFr, List.length_nil];go_wp2_with fail;refine (HSAME.out a5 a6 a7 a8 a9 c5 c6 c7 c8 c9 _).mono ?_;rintro _ w7 ⟨rfl, g7⟩;go_wp2_with fail;go_ret;exact ⟨rfl, h6.trans (((below_alloc w6 _).trans (g7.mono (below_alloc w6 _).size)).mono h6.size)⟩
      ·have hcv := HCV.out
       go_wp2_with fail;go_simp
       go_wp2_with fail;refine (HGET.out u _ (by have := HL3.out; have := HUL.out; omega)).mono ?_;rintro _ w6 ⟨g6, u5, u6, u7, u8, u9, er, rfl, hI, -, gb6, hm⟩;have h6 := HBE.out.trans (gb6.mono HBE.out.size);obtain ⟨a5, c5, rfl, -⟩ := hI.filter.open;obtain ⟨a6, c6, rfl, -⟩ := hI.cmds.open;obtain ⟨a7, c7, rfl, -⟩ := hI.entries.open;obtain ⟨a8, c8, rfl, -⟩ := hI.items.open;obtain ⟨a9, c9, rfl, -⟩ := hI.verdicts.open;clear hI gb6;cases tb
       ·obtain ⟨m0, m1, m2, m3, m4, fl2, cl2, el2, il2, vl2⟩ := g6
        clear hm;dsimp only [frCells];go_wp2_with fail;go_ret;exact ⟨rfl, h6.trans ((below_alloc w6 _).mono h6.size)⟩
       ·have hop := HOPEN.out rfl
        rw [hop, if_neg (by decide)] at hm;obtain ⟨rfl, rfl⟩ := hm;dsimp only [frCells, noFr, List.length_nil];go_wp2_with fail;refine (HSAME.out a5 a6 a7 a8 a9 c5 c6 c7 c8 c9 _).mono ?_;rintro _ w7 ⟨rfl, g7⟩;go_wp2_with fail;go_ret;exact ⟨rfl, h6.trans (((below_alloc w6 _).trans (g7.mono (below_alloc w6 _).size)).mono h6.size)⟩
end Go.Proofs.YtaidhoepnefcpaaGreat.C10
