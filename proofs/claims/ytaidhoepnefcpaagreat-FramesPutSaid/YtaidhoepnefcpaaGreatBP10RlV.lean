/-
  Layer 10, the program: lists of surmise/api.Verdict read.
-/
import Derived.Test.YtaidhoepnefcpaaGreatBP11Mb
import Derived.Test.YtaidhoepnefcpaaGreatBP11Mc
namespace Go.Proofs.YtaidhoepnefcpaaGreat.C10
open Go Go.RowKit Go.Proofs B K P8
set_option linter.unusedVariables false
set_option maxRecDepth 100000
set_option maxHeartbeats 8000000 in
theorem mayCs_any (n0 n1 n2 n3 n4 : Int) (l6 : List Cm) (v5 v6 v7 v8 v9 : Value) (w : World) (h : CmsIs w v6 l6) (hn : l6.length <= 17592186044416) :
 Calls Tryz.prog 106 #[.agg #[.int .i64 n0, .int .i64 n1, .int .i64 n2, .int .i64 n3, .int .i64 n4, v5, v6, v7, v8, v9]] w fun z w' => z = .returned (.bool (inn (l6.length : Int) 1 8 && (!(l6.any (fun x => !decide (x.client = n1))) && riseL (fun a b => decide (a.seq < b.seq)) l6))) /\ Below w.heap.size w w' := by
 obtain ⟨a, cap, rfl, -⟩ := h.open;obtain ⟨N, hN⟩ : ∃ N, l6.length = N := ⟨_, rfl⟩;obtain ⟨c, hc⟩ : ∃ c, inn (l6.length : Int) 1 8 = c := ⟨_, rfl⟩;obtain ⟨p, hp⟩ : ∃ p, l6.any (fun x => !decide (x.client = n1)) = p := ⟨_, rfl⟩;obtain ⟨q, hq⟩ : ∃ q, riseL (fun a b => decide (a.seq < b.seq)) l6 = q := ⟨_, rfl⟩;rw [hc, hp, hq];rw [hN] at h hc hn ⊢;have hh := h;obtain ⟨W0, hW0⟩ : ∃ W0, w.alloc (.cells #[.int .i64 n0, .int .i64 n1, .int .i64 n2, .int .i64 n3, .int .i64 n4, v5, .slice a N cap, v7, v8, v9] 28) = W0 := ⟨_, rfl⟩;have hB0 : Below w.heap.size w W0 := by rw [<- hW0]; exact zf _ _
 have k0 : W0.cell? ⟨w.heap.size, 0, none⟩ = some (.int .i64 n0) := by rw [<- hW0]; exact ze w [_, _, _, _, _, _, _, _, _, _] _ 0 _ rfl
 have k1 : W0.cell? ⟨w.heap.size, 1, none⟩ = some (.int .i64 n1) := by rw [<- hW0]; exact ze w [_, _, _, _, _, _, _, _, _, _] _ 1 _ rfl
 have k2 : W0.cell? ⟨w.heap.size, 2, none⟩ = some (.int .i64 n2) := by rw [<- hW0]; exact ze w [_, _, _, _, _, _, _, _, _, _] _ 2 _ rfl
 have k3 : W0.cell? ⟨w.heap.size, 3, none⟩ = some (.int .i64 n3) := by rw [<- hW0]; exact ze w [_, _, _, _, _, _, _, _, _, _] _ 3 _ rfl
 have k4 : W0.cell? ⟨w.heap.size, 4, none⟩ = some (.int .i64 n4) := by rw [<- hW0]; exact ze w [_, _, _, _, _, _, _, _, _, _] _ 4 _ rfl
 have k5 : W0.cell? ⟨w.heap.size, 5, none⟩ = some (v5) := by rw [<- hW0]; exact ze w [_, _, _, _, _, _, _, _, _, _] _ 5 _ rfl
 have k6 : W0.cell? ⟨w.heap.size, 6, none⟩ = some (.slice a N cap) := by rw [<- hW0]; exact ze w [_, _, _, _, _, _, _, _, _, _] _ 6 _ rfl
 have k7 : W0.cell? ⟨w.heap.size, 7, none⟩ = some (v7) := by rw [<- hW0]; exact ze w [_, _, _, _, _, _, _, _, _, _] _ 7 _ rfl
 have k8 : W0.cell? ⟨w.heap.size, 8, none⟩ = some (v8) := by rw [<- hW0]; exact ze w [_, _, _, _, _, _, _, _, _, _] _ 8 _ rfl
 have k9 : W0.cell? ⟨w.heap.size, 9, none⟩ = some (v9) := by rw [<- hW0]; exact ze w [_, _, _, _, _, _, _, _, _, _] _ 9 _ rfl
 have j1 := k1;have j3 := k3;have j4 := k4;have H1 := Lib.hid (fun W (hb : Below W0.heap.size W0 W) => hasCmd_any w.heap.size (fun x => !decide (x.client = n1)) l6 (.slice a N cap) W ((hh.below hB0).below hb) (by omega) (fun W' x au L cu hx hb' hu => (cmBad_any w.heap.size n1 x au L cu W' (za (hb.trans (hb'.mono hb.size)) j1))));have H2 := Lib.hid (fun W (hb : Below W0.heap.size W0 W) => riseCmd_any l6 (.slice a N cap) W ((hh.below hB0).below hb) (by omega));rw [hp] at H1;rw [hq] at H2;have HB0 := Lib.hid hB0;clear hp hq h hh hB0 j1 j3 j4 hN;have HW := Lib.hid (fun W => zO (N : Int) 1 8 W);rw [hc] at HW;clear hc;cases c with
 | false =>
 go_enter Tryz.func106, Tryz.ntmps106;go_wp2_with (go_at_call 51; (with_reducible refine (HW.out _).mono ?_); rintro _ w9 ⟨rfl, rfl⟩)
 go_ret;exact ⟨rfl, HB0.out⟩
 | true =>
 go_enter Tryz.func106, Tryz.ntmps106;go_wp2_with (go_at_call 51; (with_reducible refine (HW.out _).mono ?_); rintro _ w9 ⟨rfl, rfl⟩)
 refine (H1.out _ (Below.refl _ _)).mono ?_;rintro _ w1 ⟨rfl, hb1⟩;have m6 := za hb1 k6;have HB1 := Lib.hid hb1;clear hb1 hW0 k0 k1 k2 k3 k4 k5 k6 k7 k8 k9;cases p with
 | true =>
  go_wp2_with fail;go_ret;exact ⟨rfl, HB0.out.trans (HB1.out.mono HB0.out.size)⟩
 | false =>
 go_wp2_with fail;refine (H2.out _ HB1.out).mono ?_;rintro _ w2 ⟨rfl, hb2⟩;have HB2 := Lib.hid (HB0.out.trans ((HB1.out.trans (hb2.mono HB1.out.size)).mono HB0.out.size));clear hb2;go_wp2_with fail;go_ret;exact ⟨rfl, HB2.out⟩
set_option maxHeartbeats 8000000 in
theorem mayEs_any (n0 n1 n2 n3 n4 : Int) (l7 : List En) (v5 v6 v7 v8 v9 : Value) (w : World) (h : EnsIs w v7 l7) (hn : l7.length <= 17592186044416) (hd0 : 0 <= n4) (hd1 : n4 <= 1099511627776) (hs : ∀ x ∈ l7, TxWf x.stream) :
 Calls Tryz.prog 107 #[.agg #[.int .i64 n0, .int .i64 n1, .int .i64 n2, .int .i64 n3, .int .i64 n4, v5, v6, v7, v8, v9]] w fun z w' => z = .returned (.bool (decide ((l7.length : Int) <= 16) && (!(l7.any (enBad n3 n4)) && riseL (fun a b => decide (a.index < b.index)) l7))) /\ Below w.heap.size w w' := by
 obtain ⟨a, cap, rfl, -⟩ := h.open;obtain ⟨N, hN⟩ : ∃ N, l7.length = N := ⟨_, rfl⟩;obtain ⟨c, hc⟩ : ∃ c, decide ((l7.length : Int) <= 16) = c := ⟨_, rfl⟩;obtain ⟨p, hp⟩ : ∃ p, l7.any (enBad n3 n4) = p := ⟨_, rfl⟩;obtain ⟨q, hq⟩ : ∃ q, riseL (fun a b => decide (a.index < b.index)) l7 = q := ⟨_, rfl⟩;rw [hc, hp, hq];rw [hN] at h hc hn ⊢;have hh := h;obtain ⟨W0, hW0⟩ : ∃ W0, w.alloc (.cells #[.int .i64 n0, .int .i64 n1, .int .i64 n2, .int .i64 n3, .int .i64 n4, v5, v6, .slice a N cap, v8, v9] 28) = W0 := ⟨_, rfl⟩;have hB0 : Below w.heap.size w W0 := by rw [<- hW0]; exact zf _ _
 have k0 : W0.cell? ⟨w.heap.size, 0, none⟩ = some (.int .i64 n0) := by rw [<- hW0]; exact ze w [_, _, _, _, _, _, _, _, _, _] _ 0 _ rfl
 have k1 : W0.cell? ⟨w.heap.size, 1, none⟩ = some (.int .i64 n1) := by rw [<- hW0]; exact ze w [_, _, _, _, _, _, _, _, _, _] _ 1 _ rfl
 have k2 : W0.cell? ⟨w.heap.size, 2, none⟩ = some (.int .i64 n2) := by rw [<- hW0]; exact ze w [_, _, _, _, _, _, _, _, _, _] _ 2 _ rfl
 have k3 : W0.cell? ⟨w.heap.size, 3, none⟩ = some (.int .i64 n3) := by rw [<- hW0]; exact ze w [_, _, _, _, _, _, _, _, _, _] _ 3 _ rfl
 have k4 : W0.cell? ⟨w.heap.size, 4, none⟩ = some (.int .i64 n4) := by rw [<- hW0]; exact ze w [_, _, _, _, _, _, _, _, _, _] _ 4 _ rfl
 have k5 : W0.cell? ⟨w.heap.size, 5, none⟩ = some (v5) := by rw [<- hW0]; exact ze w [_, _, _, _, _, _, _, _, _, _] _ 5 _ rfl
 have k6 : W0.cell? ⟨w.heap.size, 6, none⟩ = some (v6) := by rw [<- hW0]; exact ze w [_, _, _, _, _, _, _, _, _, _] _ 6 _ rfl
 have k7 : W0.cell? ⟨w.heap.size, 7, none⟩ = some (.slice a N cap) := by rw [<- hW0]; exact ze w [_, _, _, _, _, _, _, _, _, _] _ 7 _ rfl
 have k8 : W0.cell? ⟨w.heap.size, 8, none⟩ = some (v8) := by rw [<- hW0]; exact ze w [_, _, _, _, _, _, _, _, _, _] _ 8 _ rfl
 have k9 : W0.cell? ⟨w.heap.size, 9, none⟩ = some (v9) := by rw [<- hW0]; exact ze w [_, _, _, _, _, _, _, _, _, _] _ 9 _ rfl
 have j1 := k1;have j3 := k3;have j4 := k4;have H1 := Lib.hid (fun W (hb : Below W0.heap.size W0 W) => hasEntry_any w.heap.size (enBad n3 n4) l7 (.slice a N cap) W ((hh.below hB0).below hb) (by omega) (fun W' x au L cu hx hb' hu => (enBad_any w.heap.size n3 n4 x _ W' hu (hs x hx) (za (hb.trans (hb'.mono hb.size)) j3) (za (hb.trans (hb'.mono hb.size)) j4) hd0 hd1)));have H2 := Lib.hid (fun W (hb : Below W0.heap.size W0 W) => riseEntry_any l7 (.slice a N cap) W ((hh.below hB0).below hb) (by omega));rw [hp] at H1;rw [hq] at H2;have HB0 := Lib.hid hB0;clear hp hq h hh hB0 j1 j3 j4 hN;cases c with
 | false =>
 have hle : ¬ (N : Int) <= 16 := of_decide_eq_false hc;go_enter Tryz.func107, Tryz.ntmps107;go_wp2_with fail;go_ret;exact ⟨rfl, HB0.out⟩
 | true =>
 have hle : (N : Int) <= 16 := of_decide_eq_true hc;go_enter Tryz.func107, Tryz.ntmps107;go_wp2_with fail;refine (H1.out _ (Below.refl _ _)).mono ?_;rintro _ w1 ⟨rfl, hb1⟩;have m7 := za hb1 k7;have HB1 := Lib.hid hb1;clear hb1 hW0 k0 k1 k2 k3 k4 k5 k6 k7 k8 k9;cases p with
 | true =>
  go_wp2_with fail;go_ret;exact ⟨rfl, HB0.out.trans (HB1.out.mono HB0.out.size)⟩
 | false =>
 go_wp2_with fail;refine (H2.out _ HB1.out).mono ?_;rintro _ w2 ⟨rfl, hb2⟩;have HB2 := Lib.hid (HB0.out.trans ((HB1.out.trans (hb2.mono HB1.out.size)).mono HB0.out.size));clear hb2;go_wp2_with fail;go_ret;exact ⟨rfl, HB2.out⟩
set_option maxHeartbeats 8000000 in
theorem mayK_any (f : Fr) (v5 v6 v7 v8 v9 : Value) (w : World) (h : FrIs w f v5 v6 v7 v8 v9) (hw : FrWf f) :
 Calls Tryz.prog 52 #[.agg (frCells f v5 v6 v7 v8 v9).toArray] w fun z w' => z = .returned (.bool (mayK f)) /\ Below w.heap.size w w' := by
 obtain ⟨n0, n1, n2, n3, n4, l5, l6, l7, l8, l9⟩ := f;obtain ⟨h5, h6, h7, h8, h9⟩ := h;obtain ⟨i0, i1, i2, i3, i4, f5, f6, f7, f8, f9⟩ := hw;dsimp only at h5 h6 h7 h8 h9 i0 i1 i2 i3 i4 f5 f6 f7 f8 f9;obtain ⟨r, hr⟩ : ∃ r, mayK ⟨n0, n1, n2, n3, n4, l5, l6, l7, l8, l9⟩ = r := ⟨_, rfl⟩;rw [hr];unfold mayK at hr;dsimp only at hr;show Calls Tryz.prog 52 #[.agg #[.int .i64 n0, .int .i64 n1, .int .i64 n2, .int .i64 n3, .int .i64 n4, v5, v6, v7, v8, v9]] w _
 obtain ⟨W0, hW0⟩ : ∃ W0, w.alloc (.cells #[.int .i64 n0, .int .i64 n1, .int .i64 n2, .int .i64 n3, .int .i64 n4, v5, v6, v7, v8, v9] 28) = W0 := ⟨_, rfl⟩;have hB0 : Below w.heap.size w W0 := by rw [<- hW0]; exact zf _ _
 have k0 : W0.cell? ⟨w.heap.size, 0, none⟩ = some (.int .i64 n0) := by rw [<- hW0]; exact ze w [_, _, _, _, _, _, _, _, _, _] _ 0 _ rfl
 have k1 : W0.cell? ⟨w.heap.size, 1, none⟩ = some (.int .i64 n1) := by rw [<- hW0]; exact ze w [_, _, _, _, _, _, _, _, _, _] _ 1 _ rfl
 have k2 : W0.cell? ⟨w.heap.size, 2, none⟩ = some (.int .i64 n2) := by rw [<- hW0]; exact ze w [_, _, _, _, _, _, _, _, _, _] _ 2 _ rfl
 have k3 : W0.cell? ⟨w.heap.size, 3, none⟩ = some (.int .i64 n3) := by rw [<- hW0]; exact ze w [_, _, _, _, _, _, _, _, _, _] _ 3 _ rfl
 have k4 : W0.cell? ⟨w.heap.size, 4, none⟩ = some (.int .i64 n4) := by rw [<- hW0]; exact ze w [_, _, _, _, _, _, _, _, _, _] _ 4 _ rfl
 have k5 : W0.cell? ⟨w.heap.size, 5, none⟩ = some (v5) := by rw [<- hW0]; exact ze w [_, _, _, _, _, _, _, _, _, _] _ 5 _ rfl
 have k6 : W0.cell? ⟨w.heap.size, 6, none⟩ = some (v6) := by rw [<- hW0]; exact ze w [_, _, _, _, _, _, _, _, _, _] _ 6 _ rfl
 have k7 : W0.cell? ⟨w.heap.size, 7, none⟩ = some (v7) := by rw [<- hW0]; exact ze w [_, _, _, _, _, _, _, _, _, _] _ 7 _ rfl
 have k8 : W0.cell? ⟨w.heap.size, 8, none⟩ = some (v8) := by rw [<- hW0]; exact ze w [_, _, _, _, _, _, _, _, _, _] _ 8 _ rfl
 have k9 : W0.cell? ⟨w.heap.size, 9, none⟩ = some (v9) := by rw [<- hW0]; exact ze w [_, _, _, _, _, _, _, _, _, _] _ 9 _ rfl
 have H6 := Lib.hid (fun W (hb : Below w.heap.size w W) => mayCs_any n0 n1 n2 n3 n4 l6 v5 v6 v7 v8 v9 W (h6.below hb) f6.2);have H7 := Lib.hid (fun W (hb : Below w.heap.size w W) h0 h1 => mayEs_any n0 n1 n2 n3 n4 l7 v5 v6 v7 v8 v9 W (h7.below hb) f7.2 h0 h1 (fun x hx => (f7.1 x hx).2.1));have HB0 := Lib.hid hB0;clear hB0 h5 h6 h7 h8 h9 i0 i1 i2 i3 i4 f5 f6 f7 f8 f9;have HW := Lib.hid (fun a b c W => zO a b c W);by_cases h1 : n0 = 1
 ·subst h1
  rw [if_pos rfl] at hr;obtain ⟨b1, e1⟩ : ∃ c, inn n3 0 1099511627776 = c := ⟨_, rfl⟩;obtain ⟨b2, e2⟩ : ∃ c, inn n4 1 1099511627776 = c := ⟨_, rfl⟩;have G1 := Lib.hid (fun W => HW.out n3 0 1099511627776 W);have G2 := Lib.hid (fun W => HW.out n4 1 1099511627776 W);rw [e1] at G1 hr;rw [e2] at G2 hr;clear e1 e2 H6 H7;subst hr;cases b1 with
  | false =>
   go_enter Tryz.func52, Tryz.ntmps52;go_wp2_with (go_at_call 51; refine (G1.out _).mono ?_; rintro _ w1 ⟨rfl, rfl⟩)
   go_ret;exact ⟨rfl, HB0.out⟩
  | true =>
   go_enter Tryz.func52, Tryz.ntmps52;go_wp2_with (first | (go_at_call 51; (with_reducible refine (G1.out _).mono ?_); rintro _ w1 ⟨rfl, rfl⟩) | (go_at_call 51; (with_reducible refine (G2.out _).mono ?_); rintro _ w1 ⟨rfl, rfl⟩))
   go_ret;exact ⟨rfl, HB0.out⟩
 have d1 : (n0 == 1) = false := by simpa using h1
 rw [if_neg h1] at hr;by_cases h2 : n0 = 2
 ·subst h2
  rw [if_pos rfl] at hr;have G := Lib.hid (show ∀ W, Below w.heap.size w W -> Calls Tryz.prog 106 #[.agg #[.int .i64 2, .int .i64 n1, .int .i64 n2, .int .i64 n3, .int .i64 n4, v5, v6, v7, v8, v9]] W fun z w' => z = .returned (.bool r) /\ Below W.heap.size W w' from fun W hb => by rw [<- hr]; exact H6.out W hb);clear hr H6 H7 h1;go_enter Tryz.func52, Tryz.ntmps52;go_wp2_with fail;refine (G.out _ HB0.out).mono ?_;rintro _ w1 ⟨rfl, hb⟩;have HB1 := Lib.hid (HB0.out.trans (hb.mono HB0.out.size));clear hb;go_wp2_with fail;go_ret;exact ⟨rfl, HB1.out⟩
 have d2 : (n0 == 2) = false := by simpa using h2
 rw [if_neg h2] at hr;by_cases h3 : n0 = 3
 ·subst h3
  rw [if_pos rfl] at hr;have G := Lib.hid (fun W => HW.out n4 0 1099511627776 W);rw [hr] at G;clear hr H6 H7 h1 h2;go_enter Tryz.func52, Tryz.ntmps52;go_wp2_with (go_at_call 51; refine (G.out _).mono ?_; rintro _ w1 ⟨rfl, rfl⟩)
  go_ret;exact ⟨rfl, HB0.out⟩
 have d3 : (n0 == 3) = false := by simpa using h3
 rw [if_neg h3] at hr;by_cases h4 : n0 = 4
 ·subst h4
  rw [if_pos rfl] at hr;have d5 : ((4 : Int) == 5) = false := rfl;obtain ⟨b1, e1⟩ : ∃ c, inn n4 0 1099511627776 = c := ⟨_, rfl⟩;obtain ⟨b2, e2⟩ : ∃ c, inn n3 0 n4 = c := ⟨_, rfl⟩;have G1 := Lib.hid (fun W => HW.out n4 0 1099511627776 W);have G2 := Lib.hid (fun W => HW.out n3 0 n4 W);have he1 := e1;rw [e1] at G1 hr;rw [e2] at G2 hr;clear e2 H6 h1 h2 h3;cases b1 with
  | false =>
   rw [Bool.false_and] at hr;subst hr;clear H7 e1 he1;go_enter Tryz.func52, Tryz.ntmps52;go_wp2_with (go_at_call 51; refine (G1.out _).mono ?_; rintro _ w1 ⟨rfl, rfl⟩)
   go_ret;exact ⟨rfl, HB0.out⟩
  | true =>
   rw [Bool.true_and] at hr;have hh := zq.1 he1;cases b2 with
   | false =>
    rw [Bool.false_and] at hr;subst hr;clear H7 e1 he1 hh;go_enter Tryz.func52, Tryz.ntmps52;go_wp2_with (first | (go_at_call 51; (with_reducible refine (G1.out _).mono ?_); rintro _ w1 ⟨rfl, rfl⟩) | (go_at_call 51; (with_reducible refine (G2.out _).mono ?_); rintro _ w1 ⟨rfl, rfl⟩))
    go_ret;exact ⟨rfl, HB0.out⟩
   | true =>
    rw [Bool.true_and] at hr;have G := Lib.hid (show ∀ W, Below w.heap.size w W -> Calls Tryz.prog 107 #[.agg #[.int .i64 4, .int .i64 n1, .int .i64 n2, .int .i64 n3, .int .i64 n4, v5, v6, v7, v8, v9]] W fun z w' => z = .returned (.bool r) /\ Below W.heap.size W w' from fun W hb => by rw [<- hr]; exact H7.out W hb hh.1 hh.2);clear hr H7 e1 he1 hh;go_enter Tryz.func52, Tryz.ntmps52;go_wp2_with (first | (go_at_call 51; (with_reducible refine (G1.out _).mono ?_); rintro _ w1 ⟨rfl, rfl⟩) | (go_at_call 51; (with_reducible refine (G2.out _).mono ?_); rintro _ w1 ⟨rfl, rfl⟩))
    refine (G.out _ HB0.out).mono ?_;rintro _ w1 ⟨rfl, hb⟩;have HB1 := Lib.hid (HB0.out.trans (hb.mono HB0.out.size));clear hb;go_wp2_with fail;go_ret;exact ⟨rfl, HB1.out⟩
 have d4 : (n0 == 4) = false := by simpa using h4
 rw [if_neg h4] at hr;by_cases h5 : n0 = 5
 ·subst h5
  rw [if_pos rfl] at hr;have G := Lib.hid (fun W => HW.out n4 0 1099511627776 W);rw [hr] at G;clear hr H6 H7 h1 h2 h3 h4;go_enter Tryz.func52, Tryz.ntmps52;go_wp2_with (go_at_call 51; refine (G.out _).mono ?_; rintro _ w1 ⟨rfl, rfl⟩)
  go_ret;exact ⟨rfl, HB0.out⟩
 have d5 : (n0 == 5) = false := by simpa using h5
 rw [if_neg h5] at hr;subst hr;clear H6 H7 h1 h2 h3 h4 h5;go_enter Tryz.func52, Tryz.ntmps52;go_wp2_with fail;go_ret;exact ⟨rfl, HB0.out⟩
theorem info_I : ∃ i z, Tryz.prog.info? 3 = some i /\ i.zero = some z /\ i.size = 1 /\ i.bytes = 8 := by
 have h : (Tryz.prog.info? 3).map (fun i => (i.zero.isSome, i.size, i.bytes)) = some (true, 1, 8) := by kernel_rfl
 obtain ⟨i, hi, e⟩ := Option.map_eq_some_iff.1 h;simp only [Prod.mk.injEq] at e;obtain ⟨z, hz⟩ := Option.isSome_iff_exists.1 e.1;exact ⟨i, z, hi, hz, e.2.1, e.2.2⟩
set_option maxHeartbeats 4000000 in
theorem readList_I (b : Nat) (s : List UInt8) (most : Nat) (hm : most <= 256) (hs : s.length <= 140737488355328)
 (HI : ∀ (p er : Int) (W : World), Rdr W b s p er -> Calls Tryz.prog 194 #[.pointer (some ⟨b, 0, none⟩)] W fun e w' => ∃ x q er', sNum s p er = (x, q, er') /\ (e = .returned (.int .i64 x) /\  Rdr w' b s q er' /\ Tg b W w'))
 (p er : Int) (w : World) (h : Rdr w b s p er) :
 Calls Tryz.prog 224 #[.pointer (some ⟨b, 0, none⟩), .int .i64 (most : Int), .func (.func 194) #[.pointer (some ⟨b, 0, none⟩)] #[]] w fun e w' => ∃ v, e = .returned v /\ LsIs 1 QI w.heap.size w' v (sList sNum most s p er).1 /\ Rdr w' b s (sList sNum most s p er).2.1 (sList sNum most s p er).2.2 /\ Tg b w w' := by
 obtain ⟨c, p1, e1, hc⟩ : ∃ x q e, sNum s p er = (x, q, e) := ⟨_, _, _, rfl⟩;have hd : sList sNum most s p er = sItems sNum most c s p1 e1 := by
  unfold sList sThen;rw [hc]
 rw [hd];have C0 := Lib.hid (zA b s p er w h hs);rw [hc] at C0;dsimp only at C0;have hblt := h.lt;clear hd hc;by_cases he : e1 = 0
 ·subst he
  obtain ⟨ok, hok⟩ : ∃ ok, inn c 0 (most : Int) = ok := ⟨_, rfl⟩;have CW := Lib.hid (fun W => zG c 0 (most : Int) W);rw [hok] at CW;cases ok with
  | false =>
   rw [qo _ _ _ _ _ hok];clear hok HI;go_enter Tryz.func224, Tryz.ntmps224;go_wp2_with (go_at_call 194; refine C0.out.mono ?_; rintro _ w1 ⟨rfl, hr1, ht1⟩; have g2 := hr1.cells.2.2.1; have g4 := hr1.cells.2.2.2.2; have HR1 := Lib.hid hr1; have HT1 := Lib.hid ht1; clear hr1 ht1)
   go_wp2_with (go_at_call 167; refine (CW.out _).mono ?_; rintro _ w2 ⟨rfl, rfl⟩)
   have HR2 := Lib.hid (HR1.out.err 6);have g2' := HR2.out.cells.2.2.1;go_wp2_with fail;go_ret;exact ⟨_, rfl, LsIs.nil _ _ _ _, HR2.out, HT1.out.trans (Tg.set _ _ _ _)⟩
  | true =>
   obtain ⟨N, rfl⟩ : ∃ N : Nat, c = (N : Int) := ⟨c.toNat, by have := (zq.1 hok).1; omega⟩
   have hN : N <= 256 := by have := (zq.1 hok).2; omega
   rw [qI _ _ _ _ _ hok];obtain ⟨i0, z0, hi0, hz0, hsz, hby⟩ := info_I;have HMK := Lib.hid (fun W => yH (P := Tryz.prog) W 57 3 i0 z0 Tryz.underlying57 hi0 hz0 N (by rw [hby]; omega) hN);clear hok;go_enter Tryz.func224, Tryz.ntmps224;go_wp2_with (go_at_call 194; refine C0.out.mono ?_; rintro _ w1 ⟨rfl, hr1, ht1⟩; have g2 := hr1.cells.2.2.1; have HR1 := Lib.hid hr1; have HT1 := Lib.hid ht1; clear hr1 ht1)
   obtain ⟨cur0, hcs0, hmk⟩ := HMK.out w1;rw [hsz] at hcs0;have HCS0 := Lib.hid hcs0;clear hcs0 HMK;go_wp2_with (go_at_call 167; refine (CW.out _).mono ?_; rintro _ w2 ⟨rfl, rfl⟩)
   clear hmk;obtain ⟨g, hg⟩ : ∃ g, w1.heap.size = g := ⟨_, rfl⟩;have hwg : w.heap.size <= g := by rw [<- hg]; exact HT1.out.size
   have hrow0 : (w1.alloc (.cells cur0 3)).heap[g]? = some (.cells cur0 3 (0, 0)) := by rw [<- hg]; exact zg _ _
   have hr0 : Rdr (w1.alloc (.cells cur0 3)) b s p1 0 := HR1.out.below (zf _ _);have ht0 : Tg b w (w1.alloc (.cells cur0 3)) := HT1.out.trans (Tg.of_below (zf _ _));rw [hg];have hgs : g < (w1.alloc (.cells cur0 3)).heap.size := (Array.getElem?_eq_some_iff.1 hrow0).1;go_loopw [35] (fun i wr => ∃ (K : Nat) (q er : Int) (xs : List (Int)) (cs : List Value) (cur : Array Value), i = .int .i64 (K : Int) /\ K <= N /\ Hid (sGo sNum N [] s p1 0 = sGo sNum (N - K) xs s q er) /\ Hid (xs.length = K) /\ Hid (Rdr wr b s q er) /\
    Hid (wr.heap[g]? = some (.cells cur 3 (0, 0))) /\ Hid (cur.size = N * 1) /\ Hid (cur.toList.take (K * 1) = cs) /\ Hid (Lie 1 (QI (g + 1) wr) cs xs) /\ Hid (Tg b w wr)) (fun i _ => N - (intOf i).toNat)
   case atStart => exact ⟨0, p1, 0, [], [], cur0, rfl, Nat.zero_le _, Lib.hid (by rw [Nat.sub_zero]), Lib.hid rfl, Lib.hid hr0, Lib.hid hrow0, HCS0, Lib.hid (by simp), Lib.hid (Lie.nil _ _), Lib.hid ht0⟩
   case round =>
    obtain ⟨K, q, er1, xs, cs, cur, rfl, hK, HG, HL, HR, HROW, HCS, HTK, HLIE, HT⟩ := hrel;by_cases hlt : K < N
    ·have hltI : (K : Int) < (N : Int) := by omega
     have hk0 : 0 <= (K : Int) := by omega
     have hw1 : IntKind.i64.wrap ((K : Int) + 1) = (K : Int) + 1 := IntWalk.i64_in _ (by omega);have CI := Lib.hid (HI q er1 wr HR.out);go_wp2_with (go_at_call 194; refine CI.out.mono ?_; rintro _ w3 ⟨x, q2, e2, hst, rfl, hr2, ht2⟩; have HST := Lib.hid hst; have HR2 := Lib.hid hr2; have HT2 := Lib.hid ht2; have hrow3 : w3.heap[g]? = some (.cells cur 3 (0, 0)) := (ht2.block g (Array.getElem?_eq_some_iff.1 HROW.out).1 (by omega)).trans HROW.out; obtain ⟨old0, hold0, hfz0⟩ := zB hrow3 (k := K) (by rw [HCS.out]; omega); have HROW3 := Lib.hid hrow3; clear hrow3 hst hr2 ht2)
     try simp only [Nat.zero_add]
     obtain ⟨cur1, hrow4, hcs0, htk0⟩ := zD (k := K) HROW3.out (by rw [HCS.out]; omega) (xs := cs) (by have := HTK.out; rw [Nat.mul_one] at this; exact this) (.int .i64 x);have htg : Tg g w3 (w3.setCell ⟨g, K, none⟩ (.int .i64 x)) := (Tg.set _ _ _ _);have hLie : Lie 1 (QI (g + 1) (w3.setCell ⟨g, K, none⟩ (.int .i64 x))) (cs ++ [.int .i64 x]) (xs ++ [x]) := by
      have h1 : Lie 1 (QI (g + 1) (w3.setCell ⟨g, K, none⟩ (.int .i64 x))) cs xs := HLIE.out.imp fun ds y hq => (hq.tg HT2.out (by omega)).tg htg (by omega)
      have h2 := h1.snoc (ds := [.int .i64 x]) (x := x) rfl (show QI (g + 1) (w3.setCell ⟨g, K, none⟩ (.int .i64 x)) [.int .i64 x] x from rfl);simpa using h2
     go_roundw
     case rel =>
      refine ⟨K + 1, q2, e2, xs ++ [x], cs ++ [.int .i64 x], cur1, by go_num, by omega, Lib.hid ?_, Lib.hid ?_, Lib.hid ?_, Lib.hid hrow4, Lib.hid (by rw [hcs0, HCS.out]), Lib.hid ?_, Lib.hid hLie, Lib.hid (Tg.above (HT.out.trans HT2.out) hwg htg)⟩
      ·rw [HG.out, show N - K = (N - (K + 1)) + 1 by omega, jl _ _ _ _ _ _ HST.out]
      ·rw [List.length_append, HL.out]; rfl
      ·exact HR2.out.tg htg (by omega)
      ·rw [show (K + 1) * 1 = K + 1 by omega]; exact htk0
     case measure => simp [intOf]; omega
    ·have hltI : ¬ (K : Int) < (N : Int) := by omega
     have hKN : K = N := by omega
     subst hKN;have hend : sGo sNum K [] s p1 0 = (xs, q, er1) := by rw [HG.out, Nat.sub_self]; rfl
     rw [hend];go_wp2_with fail;go_ret;refine ⟨_, rfl, ⟨?_, FrV.new _ _ _ _ hwg⟩, HR.out, HT.out⟩;have h1 := HLIE.out.slice (cap := K) HROW.out (by rw [HLIE.out.1, HL.out]; exact HTK.out);rw [HL.out] at h1;exact h1.imp fun ds y hq => hq.mono (by omega)
 ·rw [ql _ _ _ _ _ _ he]
  have hb : (e1 == 0) = false := beq_eq_false_iff_ne.2 he;clear HI;go_enter Tryz.func224, Tryz.ntmps224;go_wp2_with (go_at_call 194; refine C0.out.mono ?_; rintro _ w1 ⟨rfl, hr1, ht1⟩; have g2 := hr1.cells.2.2.1; have HR1 := Lib.hid hr1; have HT1 := Lib.hid ht1; clear hr1 ht1)
  go_ret;exact ⟨_, rfl, LsIs.nil _ _ _ _, HR1.out, HT1.out⟩
theorem info_S : ∃ i z, Tryz.prog.info? 9 = some i /\ i.zero = some z /\ i.size = 1 /\ i.bytes = 16 := by
 have h : (Tryz.prog.info? 9).map (fun i => (i.zero.isSome, i.size, i.bytes)) = some (true, 1, 16) := by kernel_rfl
 obtain ⟨i, hi, e⟩ := Option.map_eq_some_iff.1 h;simp only [Prod.mk.injEq] at e;obtain ⟨z, hz⟩ := Option.isSome_iff_exists.1 e.1;exact ⟨i, z, hi, hz, e.2.1, e.2.2⟩
set_option maxHeartbeats 4000000 in
theorem readList_S (b : Nat) (s : List UInt8) (most : Nat) (hm : most <= 256) (hs : s.length <= 140737488355328)
 (HI : ∀ (p er : Int) (W : World), Rdr W b s p er -> Calls Tryz.prog 193 #[.pointer (some ⟨b, 0, none⟩)] W fun e w' => ∃ x q er', sTxt s p er = (x, q, er') /\ (e = .returned (.string (str x)) /\  Rdr w' b s q er' /\ Tg b W w'))
 (p er : Int) (w : World) (h : Rdr w b s p er) :
 Calls Tryz.prog 192 #[.pointer (some ⟨b, 0, none⟩), .int .i64 (most : Int), .func (.func 193) #[.pointer (some ⟨b, 0, none⟩)] #[]] w fun e w' => ∃ v, e = .returned v /\ LsIs 1 QS w.heap.size w' v (sList sTxt most s p er).1 /\ Rdr w' b s (sList sTxt most s p er).2.1 (sList sTxt most s p er).2.2 /\ Tg b w w' := by
 obtain ⟨c, p1, e1, hc⟩ : ∃ x q e, sNum s p er = (x, q, e) := ⟨_, _, _, rfl⟩;have hd : sList sTxt most s p er = sItems sTxt most c s p1 e1 := by
  unfold sList sThen;rw [hc]
 rw [hd];have C0 := Lib.hid (zA b s p er w h hs);rw [hc] at C0;dsimp only at C0;have hblt := h.lt;clear hd hc;by_cases he : e1 = 0
 ·subst he
  obtain ⟨ok, hok⟩ : ∃ ok, inn c 0 (most : Int) = ok := ⟨_, rfl⟩;have CW := Lib.hid (fun W => zG c 0 (most : Int) W);rw [hok] at CW;cases ok with
  | false =>
   rw [qo _ _ _ _ _ hok];clear hok HI;go_enter Tryz.func192, Tryz.ntmps192;go_wp2_with (go_at_call 194; refine C0.out.mono ?_; rintro _ w1 ⟨rfl, hr1, ht1⟩; have g2 := hr1.cells.2.2.1; have g4 := hr1.cells.2.2.2.2; have HR1 := Lib.hid hr1; have HT1 := Lib.hid ht1; clear hr1 ht1)
   go_wp2_with (go_at_call 167; refine (CW.out _).mono ?_; rintro _ w2 ⟨rfl, rfl⟩)
   have HR2 := Lib.hid (HR1.out.err 6);have g2' := HR2.out.cells.2.2.1;go_wp2_with fail;go_ret;exact ⟨_, rfl, LsIs.nil _ _ _ _, HR2.out, HT1.out.trans (Tg.set _ _ _ _)⟩
  | true =>
   obtain ⟨N, rfl⟩ : ∃ N : Nat, c = (N : Int) := ⟨c.toNat, by have := (zq.1 hok).1; omega⟩
   have hN : N <= 256 := by have := (zq.1 hok).2; omega
   rw [qI _ _ _ _ _ hok];obtain ⟨i0, z0, hi0, hz0, hsz, hby⟩ := info_S;have HMK := Lib.hid (fun W => yH (P := Tryz.prog) W 22 9 i0 z0 Tryz.underlying22 hi0 hz0 N (by rw [hby]; omega) hN);clear hok;go_enter Tryz.func192, Tryz.ntmps192;go_wp2_with (go_at_call 194; refine C0.out.mono ?_; rintro _ w1 ⟨rfl, hr1, ht1⟩; have g2 := hr1.cells.2.2.1; have HR1 := Lib.hid hr1; have HT1 := Lib.hid ht1; clear hr1 ht1)
   obtain ⟨cur0, hcs0, hmk⟩ := HMK.out w1;rw [hsz] at hcs0;have HCS0 := Lib.hid hcs0;clear hcs0 HMK;go_wp2_with (go_at_call 167; refine (CW.out _).mono ?_; rintro _ w2 ⟨rfl, rfl⟩)
   clear hmk;obtain ⟨g, hg⟩ : ∃ g, w1.heap.size = g := ⟨_, rfl⟩;have hwg : w.heap.size <= g := by rw [<- hg]; exact HT1.out.size
   have hrow0 : (w1.alloc (.cells cur0 9)).heap[g]? = some (.cells cur0 9 (0, 0)) := by rw [<- hg]; exact zg _ _
   have hr0 : Rdr (w1.alloc (.cells cur0 9)) b s p1 0 := HR1.out.below (zf _ _);have ht0 : Tg b w (w1.alloc (.cells cur0 9)) := HT1.out.trans (Tg.of_below (zf _ _));rw [hg];have hgs : g < (w1.alloc (.cells cur0 9)).heap.size := (Array.getElem?_eq_some_iff.1 hrow0).1;go_loopw [35] (fun i wr => ∃ (K : Nat) (q er : Int) (xs : List (List UInt8)) (cs : List Value) (cur : Array Value), i = .int .i64 (K : Int) /\ K <= N /\ Hid (sGo sTxt N [] s p1 0 = sGo sTxt (N - K) xs s q er) /\ Hid (xs.length = K) /\ Hid (Rdr wr b s q er) /\
    Hid (wr.heap[g]? = some (.cells cur 9 (0, 0))) /\ Hid (cur.size = N * 1) /\ Hid (cur.toList.take (K * 1) = cs) /\ Hid (Lie 1 (QS (g + 1) wr) cs xs) /\ Hid (Tg b w wr)) (fun i _ => N - (intOf i).toNat)
   case atStart => exact ⟨0, p1, 0, [], [], cur0, rfl, Nat.zero_le _, Lib.hid (by rw [Nat.sub_zero]), Lib.hid rfl, Lib.hid hr0, Lib.hid hrow0, HCS0, Lib.hid (by simp), Lib.hid (Lie.nil _ _), Lib.hid ht0⟩
   case round =>
    obtain ⟨K, q, er1, xs, cs, cur, rfl, hK, HG, HL, HR, HROW, HCS, HTK, HLIE, HT⟩ := hrel;by_cases hlt : K < N
    ·have hltI : (K : Int) < (N : Int) := by omega
     have hk0 : 0 <= (K : Int) := by omega
     have hw1 : IntKind.i64.wrap ((K : Int) + 1) = (K : Int) + 1 := IntWalk.i64_in _ (by omega);have CI := Lib.hid (HI q er1 wr HR.out);go_wp2_with (go_at_call 193; refine CI.out.mono ?_; rintro _ w3 ⟨x, q2, e2, hst, rfl, hr2, ht2⟩; have HST := Lib.hid hst; have HR2 := Lib.hid hr2; have HT2 := Lib.hid ht2; have hrow3 : w3.heap[g]? = some (.cells cur 9 (0, 0)) := (ht2.block g (Array.getElem?_eq_some_iff.1 HROW.out).1 (by omega)).trans HROW.out; obtain ⟨old0, hold0, hfz0⟩ := zB hrow3 (k := K) (by rw [HCS.out]; omega); have HROW3 := Lib.hid hrow3; clear hrow3 hst hr2 ht2)
     try simp only [Nat.zero_add]
     obtain ⟨cur1, hrow4, hcs0, htk0⟩ := zD (k := K) HROW3.out (by rw [HCS.out]; omega) (xs := cs) (by have := HTK.out; rw [Nat.mul_one] at this; exact this) (.string (str x));have htg : Tg g w3 (w3.setCell ⟨g, K, none⟩ (.string (str x))) := (Tg.set _ _ _ _);have hLie : Lie 1 (QS (g + 1) (w3.setCell ⟨g, K, none⟩ (.string (str x)))) (cs ++ [.string (str x)]) (xs ++ [x]) := by
      have h1 : Lie 1 (QS (g + 1) (w3.setCell ⟨g, K, none⟩ (.string (str x)))) cs xs := HLIE.out.imp fun ds y hq => (hq.tg HT2.out (by omega)).tg htg (by omega)
      have h2 := h1.snoc (ds := [.string (str x)]) (x := x) rfl (show QS (g + 1) (w3.setCell ⟨g, K, none⟩ (.string (str x))) [.string (str x)] x from rfl);simpa using h2
     go_roundw
     case rel =>
      refine ⟨K + 1, q2, e2, xs ++ [x], cs ++ [.string (str x)], cur1, by go_num, by omega, Lib.hid ?_, Lib.hid ?_, Lib.hid ?_, Lib.hid hrow4, Lib.hid (by rw [hcs0, HCS.out]), Lib.hid ?_, Lib.hid hLie, Lib.hid (Tg.above (HT.out.trans HT2.out) hwg htg)⟩
      ·rw [HG.out, show N - K = (N - (K + 1)) + 1 by omega, jl _ _ _ _ _ _ HST.out]
      ·rw [List.length_append, HL.out]; rfl
      ·exact HR2.out.tg htg (by omega)
      ·rw [show (K + 1) * 1 = K + 1 by omega]; exact htk0
     case measure => simp [intOf]; omega
    ·have hltI : ¬ (K : Int) < (N : Int) := by omega
     have hKN : K = N := by omega
     subst hKN;have hend : sGo sTxt K [] s p1 0 = (xs, q, er1) := by rw [HG.out, Nat.sub_self]; rfl
     rw [hend];go_wp2_with fail;go_ret;refine ⟨_, rfl, ⟨?_, FrV.new _ _ _ _ hwg⟩, HR.out, HT.out⟩;have h1 := HLIE.out.slice (cap := K) HROW.out (by rw [HLIE.out.1, HL.out]; exact HTK.out);rw [HL.out] at h1;exact h1.imp fun ds y hq => hq.mono (by omega)
 ·rw [ql _ _ _ _ _ _ he]
  have hb : (e1 == 0) = false := beq_eq_false_iff_ne.2 he;clear HI;go_enter Tryz.func192, Tryz.ntmps192;go_wp2_with (go_at_call 194; refine C0.out.mono ?_; rintro _ w1 ⟨rfl, hr1, ht1⟩; have g2 := hr1.cells.2.2.1; have HR1 := Lib.hid hr1; have HT1 := Lib.hid ht1; clear hr1 ht1)
  go_ret;exact ⟨_, rfl, LsIs.nil _ _ _ _, HR1.out, HT1.out⟩
theorem info_V : ∃ i z, Tryz.prog.info? 82 = some i /\ i.zero = some z /\ i.size = 2 /\ i.bytes = 16 := by
 have h : (Tryz.prog.info? 82).map (fun i => (i.zero.isSome, i.size, i.bytes)) = some (true, 2, 16) := by kernel_rfl
 obtain ⟨i, hi, e⟩ := Option.map_eq_some_iff.1 h;simp only [Prod.mk.injEq] at e;obtain ⟨z, hz⟩ := Option.isSome_iff_exists.1 e.1;exact ⟨i, z, hi, hz, e.2.1, e.2.2⟩
set_option maxHeartbeats 4000000 in
theorem readList_V (A b : Nat) (s : List UInt8) (most : Nat) (hm : most <= 256) (hs : s.length <= 140737488355328)
 (HI : ∀ (p er : Int) (W : World), Rdr W b s p er -> W.cell? ⟨A, 0, none⟩ = some (.pointer (some ⟨b, 0, none⟩)) -> Calls Tryz.prog 202 #[.pointer (some ⟨A, 0, none⟩)] W fun e w' => ∃ x q er', sVd s p er = (x, q, er') /\ (e = .returned (.agg #[.int .i64 x.seq, .int .i64 x.code]) /\  Rdr w' b s q er' /\ Tg b W w'))
 (p er : Int) (w : World) (h : Rdr w b s p er) (hA : w.cell? ⟨A, 0, none⟩ = some (.pointer (some ⟨b, 0, none⟩))) (hne : A ≠ b) :
 Calls Tryz.prog 201 #[.pointer (some ⟨b, 0, none⟩), .int .i64 (most : Int), .func (.func 202) #[] #[.pointer (some ⟨A, 0, none⟩)]] w fun e w' => ∃ v, e = .returned v /\ LsIs 2 QV w.heap.size w' v (sList sVd most s p er).1 /\ Rdr w' b s (sList sVd most s p er).2.1 (sList sVd most s p er).2.2 /\ Tg b w w' := by
 obtain ⟨c, p1, e1, hc⟩ : ∃ x q e, sNum s p er = (x, q, e) := ⟨_, _, _, rfl⟩;have hd : sList sVd most s p er = sItems sVd most c s p1 e1 := by
  unfold sList sThen;rw [hc]
 rw [hd];have C0 := Lib.hid (zA b s p er w h hs);rw [hc] at C0;dsimp only at C0;have hblt := h.lt;clear hd hc;by_cases he : e1 = 0
 ·subst he
  obtain ⟨ok, hok⟩ : ∃ ok, inn c 0 (most : Int) = ok := ⟨_, rfl⟩;have CW := Lib.hid (fun W => zG c 0 (most : Int) W);rw [hok] at CW;cases ok with
  | false =>
   rw [qo _ _ _ _ _ hok];clear hok HI;go_enter Tryz.func201, Tryz.ntmps201;go_wp2_with (go_at_call 194; refine C0.out.mono ?_; rintro _ w1 ⟨rfl, hr1, ht1⟩; have g2 := hr1.cells.2.2.1; have g4 := hr1.cells.2.2.2.2; have HR1 := Lib.hid hr1; have HT1 := Lib.hid ht1; clear hr1 ht1)
   go_wp2_with (go_at_call 167; refine (CW.out _).mono ?_; rintro _ w2 ⟨rfl, rfl⟩)
   have HR2 := Lib.hid (HR1.out.err 6);have g2' := HR2.out.cells.2.2.1;go_wp2_with fail;go_ret;exact ⟨_, rfl, LsIs.nil _ _ _ _, HR2.out, HT1.out.trans (Tg.set _ _ _ _)⟩
  | true =>
   obtain ⟨N, rfl⟩ : ∃ N : Nat, c = (N : Int) := ⟨c.toNat, by have := (zq.1 hok).1; omega⟩
   have hN : N <= 256 := by have := (zq.1 hok).2; omega
   rw [qI _ _ _ _ _ hok];obtain ⟨i0, z0, hi0, hz0, hsz, hby⟩ := info_V;have HMK := Lib.hid (fun W => yH (P := Tryz.prog) W 26 82 i0 z0 Tryz.underlying26 hi0 hz0 N (by rw [hby]; omega) hN);clear hok;go_enter Tryz.func201, Tryz.ntmps201;go_wp2_with (go_at_call 194; refine C0.out.mono ?_; rintro _ w1 ⟨rfl, hr1, ht1⟩; have g2 := hr1.cells.2.2.1; have HR1 := Lib.hid hr1; have HT1 := Lib.hid ht1; clear hr1 ht1)
   obtain ⟨cur0, hcs0, hmk⟩ := HMK.out w1;rw [hsz] at hcs0;have HCS0 := Lib.hid hcs0;clear hcs0 HMK;go_wp2_with (go_at_call 167; refine (CW.out _).mono ?_; rintro _ w2 ⟨rfl, rfl⟩)
   clear hmk;obtain ⟨g, hg⟩ : ∃ g, w1.heap.size = g := ⟨_, rfl⟩;have hwg : w.heap.size <= g := by rw [<- hg]; exact HT1.out.size
   have hrow0 : (w1.alloc (.cells cur0 82)).heap[g]? = some (.cells cur0 82 (0, 0)) := by rw [<- hg]; exact zg _ _
   have hr0 : Rdr (w1.alloc (.cells cur0 82)) b s p1 0 := HR1.out.below (zf _ _);have ht0 : Tg b w (w1.alloc (.cells cur0 82)) := HT1.out.trans (Tg.of_below (zf _ _));rw [hg];have hgs : g < (w1.alloc (.cells cur0 82)).heap.size := (Array.getElem?_eq_some_iff.1 hrow0).1;go_loopw [35] (fun i wr => ∃ (K : Nat) (q er : Int) (xs : List (Vd)) (cs : List Value) (cur : Array Value), i = .int .i64 (K : Int) /\ K <= N /\ Hid (sGo sVd N [] s p1 0 = sGo sVd (N - K) xs s q er) /\ Hid (xs.length = K) /\ Hid (Rdr wr b s q er) /\
    Hid (wr.heap[g]? = some (.cells cur 82 (0, 0))) /\ Hid (cur.size = N * 2) /\ Hid (cur.toList.take (K * 2) = cs) /\ Hid (Lie 2 (QV (g + 1) wr) cs xs) /\ Hid (Tg b w wr)) (fun i _ => N - (intOf i).toNat)
   case atStart => exact ⟨0, p1, 0, [], [], cur0, rfl, Nat.zero_le _, Lib.hid (by rw [Nat.sub_zero]), Lib.hid rfl, Lib.hid hr0, Lib.hid hrow0, HCS0, Lib.hid (by simp), Lib.hid (Lie.nil _ _), Lib.hid ht0⟩
   case round =>
    obtain ⟨K, q, er1, xs, cs, cur, rfl, hK, HG, HL, HR, HROW, HCS, HTK, HLIE, HT⟩ := hrel;by_cases hlt : K < N
    ·have hltI : (K : Int) < (N : Int) := by omega
     have hk0 : 0 <= (K : Int) := by omega
     have hw1 : IntKind.i64.wrap ((K : Int) + 1) = (K : Int) + 1 := IntWalk.i64_in _ (by omega);have hAr := yu HT.out hne hA;have CI := Lib.hid (HI q er1 wr HR.out hAr);go_wp2_with (go_at_call 202; refine CI.out.mono ?_; rintro _ w3 ⟨x, q2, e2, hst, rfl, hr2, ht2⟩; have HST := Lib.hid hst; have HR2 := Lib.hid hr2; have HT2 := Lib.hid ht2; have hrow3 : w3.heap[g]? = some (.cells cur 82 (0, 0)) := (ht2.block g (Array.getElem?_eq_some_iff.1 HROW.out).1 (by omega)).trans HROW.out; obtain ⟨old0, hold0, hfz0⟩ := zB hrow3 (k := K * 2) (by rw [HCS.out]; omega); obtain ⟨old1, hold1, hfz1⟩ := zB hrow3 (k := K * 2 + 1) (by rw [HCS.out]; omega); have HROW3 := Lib.hid hrow3; clear hrow3 hst hr2 ht2)
     try simp only [Nat.zero_add]
     obtain ⟨cur1, hrow4, hcs0, htk0⟩ := zD (k := K * 2) HROW3.out (by rw [HCS.out]; omega) HTK.out (.int .i64 x.seq);obtain ⟨cur2, hrow5, hcs1, htk1⟩ := zD (k := K * 2 + 1) hrow4 (by rw [hcs0, HCS.out]; omega) htk0 (.int .i64 x.code);have htg : Tg g w3 ((w3.setCell ⟨g, K * 2, none⟩ (.int .i64 x.seq)).setCell ⟨g, K * 2 + 1, none⟩ (.int .i64 x.code)) := ((Tg.set _ _ _ _).trans (Tg.set _ _ _ _));have hLie : Lie 2 (QV (g + 1) ((w3.setCell ⟨g, K * 2, none⟩ (.int .i64 x.seq)).setCell ⟨g, K * 2 + 1, none⟩ (.int .i64 x.code))) (cs ++ [.int .i64 x.seq] ++ [.int .i64 x.code]) (xs ++ [x]) := by
      have h1 : Lie 2 (QV (g + 1) ((w3.setCell ⟨g, K * 2, none⟩ (.int .i64 x.seq)).setCell ⟨g, K * 2 + 1, none⟩ (.int .i64 x.code))) cs xs := HLIE.out.imp fun ds y hq => (hq.tg HT2.out (by omega)).tg htg (by omega)
      have h2 := h1.snoc (ds := [.int .i64 x.seq, .int .i64 x.code]) (x := x) rfl (show QV (g + 1) ((w3.setCell ⟨g, K * 2, none⟩ (.int .i64 x.seq)).setCell ⟨g, K * 2 + 1, none⟩ (.int .i64 x.code)) [.int .i64 x.seq, .int .i64 x.code] x from rfl);simpa using h2
     go_roundw
     case rel =>
      refine ⟨K + 1, q2, e2, xs ++ [x], cs ++ [.int .i64 x.seq] ++ [.int .i64 x.code], cur2, by go_num, by omega, Lib.hid ?_, Lib.hid ?_, Lib.hid ?_, Lib.hid hrow5, Lib.hid (by rw [hcs1, hcs0, HCS.out]), Lib.hid ?_, Lib.hid hLie, Lib.hid (Tg.above (HT.out.trans HT2.out) hwg htg)⟩
      ·rw [HG.out, show N - K = (N - (K + 1)) + 1 by omega, jl _ _ _ _ _ _ HST.out]
      ·rw [List.length_append, HL.out]; rfl
      ·exact HR2.out.tg htg (by omega)
      ·rw [show (K + 1) * 2 = K * 2 + 1 + 1 by omega]; exact htk1
     case measure => simp [intOf]; omega
    ·have hltI : ¬ (K : Int) < (N : Int) := by omega
     have hKN : K = N := by omega
     subst hKN;have hend : sGo sVd K [] s p1 0 = (xs, q, er1) := by rw [HG.out, Nat.sub_self]; rfl
     rw [hend];go_wp2_with fail;go_ret;refine ⟨_, rfl, ⟨?_, FrV.new _ _ _ _ hwg⟩, HR.out, HT.out⟩;have h1 := HLIE.out.slice (cap := K) HROW.out (by rw [HLIE.out.1, HL.out]; exact HTK.out);rw [HL.out] at h1;exact h1.imp fun ds y hq => hq.mono (by omega)
 ·rw [ql _ _ _ _ _ _ he]
  have hb : (e1 == 0) = false := beq_eq_false_iff_ne.2 he;clear HI;go_enter Tryz.func201, Tryz.ntmps201;go_wp2_with (go_at_call 194; refine C0.out.mono ?_; rintro _ w1 ⟨rfl, hr1, ht1⟩; have g2 := hr1.cells.2.2.1; have HR1 := Lib.hid hr1; have HT1 := Lib.hid ht1; clear hr1 ht1)
  go_ret;exact ⟨_, rfl, LsIs.nil _ _ _ _, HR1.out, HT1.out⟩
end Go.Proofs.YtaidhoepnefcpaaGreat.C10
