/-
  Layer 11, the program: whether two commands, two events, two items are the same.
-/
import Derived.Test.YtaidhoepnefcpaaGreatBP11SameE
import Derived.Laws.StructEq
namespace Go.Proofs.YtaidhoepnefcpaaGreat.C10
open Go Go.RowKit Go.Proofs B K P8
set_option linter.unusedVariables false
set_option maxRecDepth 100000
set_option maxHeartbeats 2000000 in
theorem uN (l m : List Int) (v v' : Value) (w : World) (h : SlN w v l) (h' : SlN w v' m) (hl : l.length <= 4611686018427387904) :
 Calls Tryz.prog 99 #[v, v'] w fun z w' => z = .returned (.bool (eqv l m)) /\ Below w.heap.size w w' := by
 obtain ⟨a, cap, rfl, hz⟩ := h.open;obtain ⟨a', cap', rfl, hz'⟩ := h'.open;by_cases hlm : l.length = m.length
 ·have HS := Lib.hid hz
  have HS' := Lib.hid hz';obtain ⟨N, hN⟩ : ∃ N, l.length = N := ⟨_, rfl⟩;have hM : m.length = N := by rw [<- hlm, hN]
  obtain ⟨r, hr⟩ : ∃ r, eqv l m = r := ⟨_, rfl⟩;have HR := Lib.hid (show r = eqv (l.drop 0) (m.drop 0) from hr.symm);rw [hr];rw [hN] at hl;rw [hN, hM];have hnn : ((N : Int) != (N : Int)) = false := by simp
  have HL := Lib.hid hl;have HN := Lib.hid hN;have HM := Lib.hid hM;clear hN hM hl h h' hz hz' hlm hr;go_enter Tryz.func99, Tryz.ntmps99;go_wp2_with fail;go_loopw [13] (fun k wr => ∃ (K : Nat), k = .int .i64 (K : Int) /\ K <= N /\ Hid (r = eqv (l.drop K) (m.drop K)) /\ Hid (Below w.heap.size w wr)) (fun k _ => N - (intOf k).toNat)
  case atStart => exact ⟨0, rfl, Nat.zero_le _, HR, Lib.hid (Below.refl _ _)⟩
  case round =>
   obtain ⟨K, rfl, hK, HJ, HB⟩ := hrel;by_cases hlt : K < N
   ·have hltI : (K : Int) < (N : Int) := by omega
    have hk0 : 0 <= (K : Int) := by omega
    have hwK := yc K (by have := HL.out; omega);obtain ⟨x, hx⟩ : ∃ e, l[K]? = some e := ⟨_, List.getElem?_eq_getElem (by rw [HN.out]; exact hlt)⟩;obtain ⟨y, hy⟩ : ∃ e, m[K]? = some e := ⟨_, List.getElem?_eq_getElem (by rw [HM.out]; exact hlt)⟩;obtain ⟨b, off, ea, hc⟩ := HS.out K x hx;obtain ⟨b', off', ea', hc'⟩ := HS'.out K y hy;subst ea ea';have k0 : wr.cell? ⟨b, off + K, none⟩ = some (.int .i64 x) := za HB.out hc;have j0 : wr.cell? ⟨b', off' + K, none⟩ = some (.int .i64 y) := za HB.out hc';have hd := HJ.out;rw [yP hx hy] at hd;clear hc hc' hx hy;by_cases hxy : x = y
    ·subst hxy
     have hxx : (x != x) = false := by simp
     rw [zN, Bool.true_and] at hd;have HD := Lib.hid hd;clear hd;go_wp2_with fail;go_quiet (fail)
     go_wp2_with fail;go_roundw
     case rel => exact ⟨K + 1, by go_num, by omega, HD, Lib.hid (below_drewN HB.out _)⟩
     case measure => simp [intOf]; omega
    ·have hxx : (x != y) = true := by simpa using hxy
     rw [zI hxy, Bool.false_and] at hd;subst hd;go_wp2_with fail;go_quiet (fail)
     go_wp2_with fail;go_ret;exact ⟨rfl, below_drewN HB.out _⟩
   ·have hltI : ¬ (K : Int) < (N : Int) := by omega
    have hd := HJ.out;rw [qb (by rw [HN.out]; omega) (by rw [HM.out]; omega)] at hd;subst hd;go_wp2_with fail;go_ret;exact ⟨rfl, HB.out⟩
 ·rw [yO hlm]
  obtain ⟨N, hN⟩ : ∃ N, l.length = N := ⟨_, rfl⟩;obtain ⟨M, hM⟩ : ∃ M, m.length = M := ⟨_, rfl⟩;rw [hN, hM] at hlm ⊢;have hnn : ((N : Int) != (M : Int)) = true := by simpa using fun e => hlm (by omega)
  clear hN hM hz hz' h h';go_enter Tryz.func99, Tryz.ntmps99;go_wp2_with fail;go_ret;exact ⟨rfl, Below.refl _ _⟩
set_option maxHeartbeats 2000000 in
theorem ptexts_any (l m : List (List UInt8)) (v v' : Value) (w : World) (h : SlT w v l) (h' : SlT w v' m) (hl : l.length <= 4611686018427387904) :
 Calls Tryz.prog 43 #[v, v'] w fun z w' => z = .returned (.bool (eqv l m)) /\ Below w.heap.size w w' := by
 obtain ⟨a, cap, rfl, hz⟩ := h.open;obtain ⟨a', cap', rfl, hz'⟩ := h'.open;by_cases hlm : l.length = m.length
 ·have HS := Lib.hid hz
  have HS' := Lib.hid hz';obtain ⟨N, hN⟩ : ∃ N, l.length = N := ⟨_, rfl⟩;have hM : m.length = N := by rw [<- hlm, hN]
  obtain ⟨r, hr⟩ : ∃ r, eqv l m = r := ⟨_, rfl⟩;have HR := Lib.hid (show r = eqv (l.drop 0) (m.drop 0) from hr.symm);rw [hr];rw [hN] at hl;rw [hN, hM];have hnn : ((N : Int) != (N : Int)) = false := by simp
  have HL := Lib.hid hl;have HN := Lib.hid hN;have HM := Lib.hid hM;clear hN hM hl h h' hz hz' hlm hr;go_enter Tryz.func43, Tryz.ntmps43;go_wp2_with fail;go_loopw [13] (fun k wr => ∃ (K : Nat), k = .int .i64 (K : Int) /\ K <= N /\ Hid (r = eqv (l.drop K) (m.drop K)) /\ Hid (Below w.heap.size w wr)) (fun k _ => N - (intOf k).toNat)
  case atStart => exact ⟨0, rfl, Nat.zero_le _, HR, Lib.hid (Below.refl _ _)⟩
  case round =>
   obtain ⟨K, rfl, hK, HJ, HB⟩ := hrel;by_cases hlt : K < N
   ·have hltI : (K : Int) < (N : Int) := by omega
    have hk0 : 0 <= (K : Int) := by omega
    have hwK := yc K (by have := HL.out; omega);obtain ⟨x, hx⟩ : ∃ e, l[K]? = some e := ⟨_, List.getElem?_eq_getElem (by rw [HN.out]; exact hlt)⟩;obtain ⟨y, hy⟩ : ∃ e, m[K]? = some e := ⟨_, List.getElem?_eq_getElem (by rw [HM.out]; exact hlt)⟩;obtain ⟨b, off, ea, hc⟩ := HS.out K x hx;obtain ⟨b', off', ea', hc'⟩ := HS'.out K y hy;subst ea ea';have k0 : wr.cell? ⟨b, off + K, none⟩ = some (.string (str x)) := za HB.out hc;have j0 : wr.cell? ⟨b', off' + K, none⟩ = some (.string (str y)) := za HB.out hc';have hd := HJ.out;rw [yP hx hy] at hd;clear hc hc' hx hy;by_cases hxy : x = y
    ·subst hxy
     have hxx : (!(str x).toList == (str x).toList) = false := tx_eq x;rw [zN, Bool.true_and] at hd;have HD := Lib.hid hd;clear hd;go_wp2_with fail;go_quiet (fail)
     go_wp2_with fail;go_roundw
     case rel => exact ⟨K + 1, by go_num, by omega, HD, Lib.hid (below_drewN HB.out _)⟩
     case measure => simp [intOf]; omega
    ·have hxx : (!(str x).toList == (str y).toList) = true := tx_ne hxy
     rw [zI hxy, Bool.false_and] at hd;subst hd;go_wp2_with fail;go_quiet (fail)
     go_wp2_with fail;go_ret;exact ⟨rfl, below_drewN HB.out _⟩
   ·have hltI : ¬ (K : Int) < (N : Int) := by omega
    have hd := HJ.out;rw [qb (by rw [HN.out]; omega) (by rw [HM.out]; omega)] at hd;subst hd;go_wp2_with fail;go_ret;exact ⟨rfl, HB.out⟩
 ·rw [yO hlm]
  obtain ⟨N, hN⟩ : ∃ N, l.length = N := ⟨_, rfl⟩;obtain ⟨M, hM⟩ : ∃ M, m.length = M := ⟨_, rfl⟩;rw [hN, hM] at hlm ⊢;have hnn : ((N : Int) != (M : Int)) = true := by simpa using fun e => hlm (by omega)
  clear hN hM hz hz' h h';go_enter Tryz.func43, Tryz.ntmps43;go_wp2_with fail;go_ret;exact ⟨rfl, Below.refl _ _⟩
theorem vd_neq {x y : Vd} (h : ¬ x = y) (w : World) : (binOp .neq 82 (.agg #[.int .i64 x.seq, .int .i64 x.code]) (.agg #[.int .i64 y.seq, .int .i64 y.code])).run Tryz.prog w = .ok (.bool true) w := by
 obtain ⟨x0, x1⟩ := x;obtain ⟨y0, y1⟩ := y;have hh : ¬ (x0 = y0 /\ x1 = y1) := fun ⟨e, e'⟩ => h (by rw [e, e'])
 go_simp
 exact fun e e' => hh ⟨e, e'⟩
theorem vd_neq_self (x : Vd) (w : World) : (binOp .neq 82 (.agg #[.int .i64 x.seq, .int .i64 x.code]) (.agg #[.int .i64 x.seq, .int .i64 x.code])).run Tryz.prog w = .ok (.bool false) w := by
 obtain ⟨x0, x1⟩ := x;go_simp
set_option maxHeartbeats 2000000 in
theorem pverdicts_any (l m : List Vd) (v v' : Value) (w : World) (h : VdsIs w v l) (h' : VdsIs w v' m) (hl : l.length <= 4611686018427387904) :
 Calls Tryz.prog 44 #[v, v'] w fun z w' => z = .returned (.bool (eqv l m)) /\ Below w.heap.size w w' := by
 obtain ⟨a, cap, rfl, hz⟩ := h.open;obtain ⟨a', cap', rfl, hz'⟩ := h'.open;by_cases hlm : l.length = m.length
 ·have HS := Lib.hid hz
  have HS' := Lib.hid hz';obtain ⟨N, hN⟩ : ∃ N, l.length = N := ⟨_, rfl⟩;have hM : m.length = N := by rw [<- hlm, hN]
  obtain ⟨r, hr⟩ : ∃ r, eqv l m = r := ⟨_, rfl⟩;have HR := Lib.hid (show r = eqv (l.drop 0) (m.drop 0) from hr.symm);rw [hr];rw [hN] at hl;rw [hN, hM];have hnn : ((N : Int) != (N : Int)) = false := by simp
  have HL := Lib.hid hl;have HN := Lib.hid hN;have HM := Lib.hid hM;clear hN hM hl h h' hz hz' hlm hr;go_enter Tryz.func44, Tryz.ntmps44;go_wp2_with fail;go_loopw [13] (fun k wr => ∃ (K : Nat), k = .int .i64 (K : Int) /\ K <= N /\ Hid (r = eqv (l.drop K) (m.drop K)) /\ Hid (Below w.heap.size w wr)) (fun k _ => N - (intOf k).toNat)
  case atStart => exact ⟨0, rfl, Nat.zero_le _, HR, Lib.hid (Below.refl _ _)⟩
  case round =>
   obtain ⟨K, rfl, hK, HJ, HB⟩ := hrel;by_cases hlt : K < N
   ·have hltI : (K : Int) < (N : Int) := by omega
    have hk0 : 0 <= (K : Int) := by omega
    have hwK := yc K (by have := HL.out; omega);obtain ⟨x, hx⟩ : ∃ e, l[K]? = some e := ⟨_, List.getElem?_eq_getElem (by rw [HN.out]; exact hlt)⟩;obtain ⟨y, hy⟩ : ∃ e, m[K]? = some e := ⟨_, List.getElem?_eq_getElem (by rw [HM.out]; exact hlt)⟩;obtain ⟨b, off, ea, cs, -, rfl, hc⟩ := HS.out K x hx;obtain ⟨b', off', ea', cs', -, rfl, hc'⟩ := HS'.out K y hy;subst ea ea';have k0 : wr.cell? ⟨b, off + K * 2, none⟩ = some (.int .i64 x.seq) := za HB.out (hc 0 _ rfl);have k1 : wr.cell? ⟨b, off + K * 2 + 1, none⟩ = some (.int .i64 x.code) := za HB.out (hc 1 _ rfl);have j0 : wr.cell? ⟨b', off' + K * 2, none⟩ = some (.int .i64 y.seq) := za HB.out (hc' 0 _ rfl);have j1 : wr.cell? ⟨b', off' + K * 2 + 1, none⟩ = some (.int .i64 y.code) := za HB.out (hc' 1 _ rfl);have hd := HJ.out;rw [yP hx hy] at hd;clear hc hc' hx hy;by_cases hxy : x = y
    ·subst hxy
     have HX := vd_neq_self x;rw [zN, Bool.true_and] at hd;have HD := Lib.hid hd;clear hd;go_wp2_with fail;go_quiet (fail)
     go_wp2_with fail;go_roundw
     case rel => exact ⟨K + 1, by go_num, by omega, HD, Lib.hid (below_drewN HB.out _)⟩
     case measure => simp [intOf]; omega
    ·have HX := vd_neq hxy
     rw [zI hxy, Bool.false_and] at hd;subst hd;go_wp2_with fail;go_quiet (fail)
     go_wp2_with fail;go_ret;exact ⟨rfl, below_drewN HB.out _⟩
   ·have hltI : ¬ (K : Int) < (N : Int) := by omega
    have hd := HJ.out;rw [qb (by rw [HN.out]; omega) (by rw [HM.out]; omega)] at hd;subst hd;go_wp2_with fail;go_ret;exact ⟨rfl, HB.out⟩
 ·rw [yO hlm]
  obtain ⟨N, hN⟩ : ∃ N, l.length = N := ⟨_, rfl⟩;obtain ⟨M, hM⟩ : ∃ M, m.length = M := ⟨_, rfl⟩;rw [hN, hM] at hlm ⊢;have hnn : ((N : Int) != (M : Int)) = true := by simpa using fun e => hlm (by omega)
  clear hN hM hz hz' h h';go_enter Tryz.func44, Tryz.ntmps44;go_wp2_with fail;go_ret;exact ⟨rfl, Below.refl _ _⟩
theorem psameCmd_eqv (n0 : Int) (n1 : Int) (n2 : List UInt8) (n3 : Int) (n4 : List Int) (n5 : Int) (m0 : Int) (m1 : Int) (m2 : List UInt8) (m3 : Int) (m4 : List Int) (m5 : Int) : eqv (⟨n0, n1, n2, n3, n4, n5⟩ : Cm) ⟨m0, m1, m2, m3, m4, m5⟩ = (eqv n0 m0 && (eqv n1 m1 && (eqv n2 m2 && (eqv n3 m3 && (eqv n4 m4 && (eqv n5 m5)))))) := by
 rw [Bool.eq_iff_iff];simp only [Bool.and_eq_true, yf, Cm.mk.injEq]
set_option maxHeartbeats 4000000 in
theorem psameCmd (c d : Cm) (vn vm : Value) (w : World) (h : SlN w vn c.args) (h' : SlN w vm d.args) (hl : c.args.length <= 4611686018427387904) :
 Calls Tryz.prog 46 #[.agg #[.int .i64 c.client, .int .i64 c.seq, .string (str c.stream), .int .i64 c.rule, vn, .int .i64 c.expect], .agg #[.int .i64 d.client, .int .i64 d.seq, .string (str d.stream), .int .i64 d.rule, vm, .int .i64 d.expect]] w fun z w' => z = .returned (.bool (eqv c d)) /\ Below w.heap.size w w' := by
 obtain ⟨n0, n1, n2, n3, n4, n5⟩ := c;obtain ⟨m0, m1, m2, m3, m4, m5⟩ := d;dsimp only at h h' hl ⊢;rw [psameCmd_eqv];have HE := Lib.hid (eqv_int n5 m5);have HI := Lib.hid (fun (W : World) (hb : Below w.heap.size w W) => uN n4 m4 vn vm W (h.below hb) (h'.below hb) hl);obtain ⟨W0, hW0⟩ : ∃ W0, w.alloc (.cells #[.int .i64 n0, .int .i64 n1, .string (str n2), .int .i64 n3, vn, .int .i64 n5] 59) = W0 := ⟨_, rfl⟩;obtain ⟨g, hg⟩ : ∃ g, W0.heap.size = g := ⟨_, rfl⟩;obtain ⟨W1, hW1⟩ : ∃ W1, W0.alloc (.cells #[.int .i64 m0, .int .i64 m1, .string (str m2), .int .i64 m3, vm, .int .i64 m5] 59) = W1 := ⟨_, rfl⟩;have hB0 : Below w.heap.size w W0 := by rw [<- hW0]; exact zf _ _
 have hB1 : Below W0.heap.size W0 W1 := by rw [<- hW1]; exact zf _ _
 have k0 : W1.cell? ⟨w.heap.size, 0, none⟩ = some (.int .i64 n0) := za hB1 (by rw [<- hW0]; exact ze w [_, _, _, _, _, _] _ 0 _ rfl);have k1 : W1.cell? ⟨w.heap.size, 1, none⟩ = some (.int .i64 n1) := za hB1 (by rw [<- hW0]; exact ze w [_, _, _, _, _, _] _ 1 _ rfl);have k2 : W1.cell? ⟨w.heap.size, 2, none⟩ = some (.string (str n2)) := za hB1 (by rw [<- hW0]; exact ze w [_, _, _, _, _, _] _ 2 _ rfl);have k3 : W1.cell? ⟨w.heap.size, 3, none⟩ = some (.int .i64 n3) := za hB1 (by rw [<- hW0]; exact ze w [_, _, _, _, _, _] _ 3 _ rfl);have k4 : W1.cell? ⟨w.heap.size, 4, none⟩ = some (vn) := za hB1 (by rw [<- hW0]; exact ze w [_, _, _, _, _, _] _ 4 _ rfl);have k5 : W1.cell? ⟨w.heap.size, 5, none⟩ = some (.int .i64 n5) := za hB1 (by rw [<- hW0]; exact ze w [_, _, _, _, _, _] _ 5 _ rfl);have j0 : W1.cell? ⟨g, 0, none⟩ = some (.int .i64 m0) := by rw [<- hW1, <- hg]; exact ze W0 [_, _, _, _, _, _] _ 0 _ rfl
 have j1 : W1.cell? ⟨g, 1, none⟩ = some (.int .i64 m1) := by rw [<- hW1, <- hg]; exact ze W0 [_, _, _, _, _, _] _ 1 _ rfl
 have j2 : W1.cell? ⟨g, 2, none⟩ = some (.string (str m2)) := by rw [<- hW1, <- hg]; exact ze W0 [_, _, _, _, _, _] _ 2 _ rfl
 have j3 : W1.cell? ⟨g, 3, none⟩ = some (.int .i64 m3) := by rw [<- hW1, <- hg]; exact ze W0 [_, _, _, _, _, _] _ 3 _ rfl
 have j4 : W1.cell? ⟨g, 4, none⟩ = some (vm) := by rw [<- hW1, <- hg]; exact ze W0 [_, _, _, _, _, _] _ 4 _ rfl
 have j5 : W1.cell? ⟨g, 5, none⟩ = some (.int .i64 m5) := by rw [<- hW1, <- hg]; exact ze W0 [_, _, _, _, _, _] _ 5 _ rfl
 have hb := hB0.trans (hB1.mono hB0.size);have HB := Lib.hid hb;have HH := Lib.hid (HI.out W1 hb);clear hB0 hB1 hb HI h h';obtain ⟨bi, hbi⟩ : ∃ b, eqv n4 m4 = b := ⟨_, rfl⟩;rw [hbi] at HH ⊢;clear hbi;by_cases h0 : n0 = m0
 rotate_left 1
 ·have e0 : (n0 == m0) = false := by simpa using h0
  rw [zI h0, Bool.false_and];clear h0;go_enter Tryz.func46, Tryz.ntmps46;go_wp2_with fail;go_ret;exact ⟨rfl, HB.out⟩
 subst h0;rw [zN, Bool.true_and];by_cases h1 : n1 = m1
 rotate_left 1
 ·have e1 : (n1 == m1) = false := by simpa using h1
  rw [zI h1, Bool.false_and];clear h1;go_enter Tryz.func46, Tryz.ntmps46;go_wp2_with fail;go_ret;exact ⟨rfl, HB.out⟩
 subst h1;rw [zN, Bool.true_and];by_cases h2 : n2 = m2
 rotate_left 1
 ·have e2 := tx_ne2 h2
  rw [zI h2, Bool.false_and];clear h2;go_enter Tryz.func46, Tryz.ntmps46;go_wp2_with fail;go_ret;exact ⟨rfl, HB.out⟩
 subst h2;rw [zN, Bool.true_and];by_cases h3 : n3 = m3
 rotate_left 1
 ·have e3 : (n3 == m3) = false := by simpa using h3
  rw [zI h3, Bool.false_and];clear h3;go_enter Tryz.func46, Tryz.ntmps46;go_wp2_with fail;go_ret;exact ⟨rfl, HB.out⟩
 subst h3;rw [zN, Bool.true_and];go_enter Tryz.func46, Tryz.ntmps46;go_wp2_with fail;refine HH.out.mono ?_;rintro _ w2 ⟨rfl, hb2⟩;have k5 := za hb2 k5;have j5 := za hb2 j5;have HB2 := Lib.hid (HB.out.trans (hb2.mono HB.out.size));clear hb2;cases bi with
 | false =>
  go_wp2_with fail;go_ret;exact ⟨rfl, HB2.out⟩
 | true =>
  go_wp2_with fail;go_ret;exact ⟨by rw [HE.out]; rfl, HB2.out⟩
theorem psameEvent_eqv (n0 : Int) (n1 : List Int) (m0 : Int) (m1 : List Int) : eqv (⟨n0, n1⟩ : Ev) ⟨m0, m1⟩ = (eqv n0 m0 && (eqv n1 m1)) := by
 rw [Bool.eq_iff_iff];simp only [Bool.and_eq_true, yf, Ev.mk.injEq]
set_option maxHeartbeats 4000000 in
theorem psameEvent (c d : Ev) (vn vm : Value) (w : World) (h : SlN w vn c.vars) (h' : SlN w vm d.vars) (hl : c.vars.length <= 4611686018427387904) :
 Calls Tryz.prog 103 #[.agg #[.int .i64 c.pos, vn], .agg #[.int .i64 d.pos, vm]] w fun z w' => z = .returned (.bool (eqv c d)) /\ Below w.heap.size w w' := by
 obtain ⟨n0, n1⟩ := c;obtain ⟨m0, m1⟩ := d;dsimp only at h h' hl ⊢;rw [psameEvent_eqv];have HI := Lib.hid (fun (W : World) (hb : Below w.heap.size w W) => uN n1 m1 vn vm W (h.below hb) (h'.below hb) hl);obtain ⟨W0, hW0⟩ : ∃ W0, w.alloc (.cells #[.int .i64 n0, vn] 120) = W0 := ⟨_, rfl⟩;obtain ⟨g, hg⟩ : ∃ g, W0.heap.size = g := ⟨_, rfl⟩;obtain ⟨W1, hW1⟩ : ∃ W1, W0.alloc (.cells #[.int .i64 m0, vm] 120) = W1 := ⟨_, rfl⟩;have hB0 : Below w.heap.size w W0 := by rw [<- hW0]; exact zf _ _
 have hB1 : Below W0.heap.size W0 W1 := by rw [<- hW1]; exact zf _ _
 have k0 : W1.cell? ⟨w.heap.size, 0, none⟩ = some (.int .i64 n0) := za hB1 (by rw [<- hW0]; exact ze w [_, _] _ 0 _ rfl);have k1 : W1.cell? ⟨w.heap.size, 1, none⟩ = some (vn) := za hB1 (by rw [<- hW0]; exact ze w [_, _] _ 1 _ rfl);have j0 : W1.cell? ⟨g, 0, none⟩ = some (.int .i64 m0) := by rw [<- hW1, <- hg]; exact ze W0 [_, _] _ 0 _ rfl
 have j1 : W1.cell? ⟨g, 1, none⟩ = some (vm) := by rw [<- hW1, <- hg]; exact ze W0 [_, _] _ 1 _ rfl
 have hb := hB0.trans (hB1.mono hB0.size);have HB := Lib.hid hb;have HH := Lib.hid (HI.out W1 hb);clear hB0 hB1 hb HI h h';obtain ⟨bi, hbi⟩ : ∃ b, eqv n1 m1 = b := ⟨_, rfl⟩;rw [hbi] at HH ⊢;clear hbi;by_cases h0 : n0 = m0
 rotate_left 1
 ·have e0 : (n0 == m0) = false := by simpa using h0
  rw [zI h0, Bool.false_and];clear h0;go_enter Tryz.func103, Tryz.ntmps103;go_wp2_with fail;go_ret;exact ⟨rfl, HB.out⟩
 subst h0;rw [zN, Bool.true_and];go_enter Tryz.func103, Tryz.ntmps103;go_wp2_with fail;refine HH.out.mono ?_;rintro _ w2 ⟨rfl, hb2⟩;have HB2 := Lib.hid (HB.out.trans (hb2.mono HB.out.size));clear hb2;go_wp2_with fail;go_ret;exact ⟨rfl, HB2.out⟩
theorem psameItem_eqv (n0 : List UInt8) (n1 : Int) (n2 : Int) (n3 : List Int) (m0 : List UInt8) (m1 : Int) (m2 : Int) (m3 : List Int) : eqv (⟨n0, ⟨n1, n2, n3⟩⟩ : It) ⟨m0, ⟨m1, m2, m3⟩⟩ = (eqv n0 m0 && (eqv n1 m1 && (eqv n2 m2 && (eqv n3 m3)))) := by
 rw [Bool.eq_iff_iff];simp only [Bool.and_eq_true, yf, It.mk.injEq, St.mk.injEq]
set_option maxHeartbeats 4000000 in
theorem psameItem (c d : It) (vn vm : Value) (w : World) (h : SlN w vn c.st.vars) (h' : SlN w vm d.st.vars) (hl : c.st.vars.length <= 4611686018427387904) :
 Calls Tryz.prog 50 #[.agg #[.string (str c.stream), .int .i64 c.st.pos, .int .i64 c.st.ver, vn], .agg #[.string (str d.stream), .int .i64 d.st.pos, .int .i64 d.st.ver, vm]] w fun z w' => z = .returned (.bool (eqv c d)) /\ Below w.heap.size w w' := by
 obtain ⟨n0, ⟨n1, n2, n3⟩⟩ := c;obtain ⟨m0, ⟨m1, m2, m3⟩⟩ := d;dsimp only at h h' hl ⊢;rw [psameItem_eqv];have HI := Lib.hid (fun (W : World) (hb : Below w.heap.size w W) => uN n3 m3 vn vm W (h.below hb) (h'.below hb) hl);obtain ⟨W0, hW0⟩ : ∃ W0, w.alloc (.cells #[.string (str n0), .int .i64 n1, .int .i64 n2, vn] 91) = W0 := ⟨_, rfl⟩;obtain ⟨g, hg⟩ : ∃ g, W0.heap.size = g := ⟨_, rfl⟩;obtain ⟨W1, hW1⟩ : ∃ W1, W0.alloc (.cells #[.string (str m0), .int .i64 m1, .int .i64 m2, vm] 91) = W1 := ⟨_, rfl⟩;have hB0 : Below w.heap.size w W0 := by rw [<- hW0]; exact zf _ _
 have hB1 : Below W0.heap.size W0 W1 := by rw [<- hW1]; exact zf _ _
 have k0 : W1.cell? ⟨w.heap.size, 0, none⟩ = some (.string (str n0)) := za hB1 (by rw [<- hW0]; exact ze w [_, _, _, _] _ 0 _ rfl);have k1 : W1.cell? ⟨w.heap.size, 1, none⟩ = some (.int .i64 n1) := za hB1 (by rw [<- hW0]; exact ze w [_, _, _, _] _ 1 _ rfl);have k2 : W1.cell? ⟨w.heap.size, 2, none⟩ = some (.int .i64 n2) := za hB1 (by rw [<- hW0]; exact ze w [_, _, _, _] _ 2 _ rfl);have k3 : W1.cell? ⟨w.heap.size, 3, none⟩ = some (vn) := za hB1 (by rw [<- hW0]; exact ze w [_, _, _, _] _ 3 _ rfl);have j0 : W1.cell? ⟨g, 0, none⟩ = some (.string (str m0)) := by rw [<- hW1, <- hg]; exact ze W0 [_, _, _, _] _ 0 _ rfl
 have j1 : W1.cell? ⟨g, 1, none⟩ = some (.int .i64 m1) := by rw [<- hW1, <- hg]; exact ze W0 [_, _, _, _] _ 1 _ rfl
 have j2 : W1.cell? ⟨g, 2, none⟩ = some (.int .i64 m2) := by rw [<- hW1, <- hg]; exact ze W0 [_, _, _, _] _ 2 _ rfl
 have j3 : W1.cell? ⟨g, 3, none⟩ = some (vm) := by rw [<- hW1, <- hg]; exact ze W0 [_, _, _, _] _ 3 _ rfl
 have hb := hB0.trans (hB1.mono hB0.size);have HB := Lib.hid hb;have HH := Lib.hid (HI.out W1 hb);clear hB0 hB1 hb HI h h';obtain ⟨bi, hbi⟩ : ∃ b, eqv n3 m3 = b := ⟨_, rfl⟩;rw [hbi] at HH ⊢;clear hbi;by_cases h0 : n0 = m0
 rotate_left 1
 ·have e0 := tx_ne2 h0
  rw [zI h0, Bool.false_and];clear h0;go_enter Tryz.func50, Tryz.ntmps50;go_wp2_with fail;go_ret;exact ⟨rfl, HB.out⟩
 subst h0;rw [zN, Bool.true_and];by_cases h1 : n1 = m1
 rotate_left 1
 ·have e1 : (n1 == m1) = false := by simpa using h1
  rw [zI h1, Bool.false_and];clear h1;go_enter Tryz.func50, Tryz.ntmps50;go_wp2_with fail;go_ret;exact ⟨rfl, HB.out⟩
 subst h1;rw [zN, Bool.true_and];by_cases h2 : n2 = m2
 rotate_left 1
 ·have e2 : (n2 == m2) = false := by simpa using h2
  rw [zI h2, Bool.false_and];clear h2;go_enter Tryz.func50, Tryz.ntmps50;go_wp2_with fail;go_ret;exact ⟨rfl, HB.out⟩
 subst h2;rw [zN, Bool.true_and];go_enter Tryz.func50, Tryz.ntmps50;go_wp2_with fail;refine HH.out.mono ?_;rintro _ w2 ⟨rfl, hb2⟩;have HB2 := Lib.hid (HB.out.trans (hb2.mono HB.out.size));clear hb2;go_wp2_with fail;go_ret;exact ⟨rfl, HB2.out⟩
end Go.Proofs.YtaidhoepnefcpaaGreat.C10
