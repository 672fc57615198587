/-
  Layer 11, the law FramesPut: its walk.
-/
import Derived.Test.YtaidhoepnefcpaaGreatBP11Len
namespace Go.Proofs.YtaidhoepnefcpaaGreat.C10
open Go Go.RowKit Go.Proofs B K P8
set_option linter.unusedVariables false
set_option maxRecDepth 100000
structure Sea : Prop where
 sl : ∀ (s : List UInt8) (w : World), s.length <= 70368744177664 -> Calls Tryz.prog 11 #[.string (str s)] w fun e w' => e = .returned (.string (str (C.sealed s))) /\ Below w.heap.size w w'
theorem putS_f (t : List UInt8) : putS11 false t = [] := rfl
theorem putS_t (t : List UInt8) : putS11 true t = t := rfl
theorem putE_f : putE11 false = 2 := rfl
theorem putE_t : putE11 true = 0 := rfl
theorem tl_refl (a : List UInt8) : ((str a).toList == (str a).toList) = true := by simp
set_option maxHeartbeats 8000000 in
theorem walkPut (L : Low) (F : Frm) (Z : Sea) (f : Fr) (v5 v6 v7 v8 v9 : Value) (w : World) (h : FrIs w f v5 v6 v7 v8 v9) (hw : FrWf f) :
 Calls Tryz.prog 3 #[.agg (frCells f v5 v6 v7 v8 v9).toArray] w fun z w' => z = .returned (.bool true) /\ Below w.heap.size w w' := by
 have hPut := fun (W : World) (hb : Below w.heap.size w W) => F.put f v5 v6 v7 v8 v9 W (h.below hb) hw
 have hLight := fun (W : World) (hb : Below w.heap.size w W) => light11_any f v5 v6 v7 v8 v9 W (h.below hb) hw
 have hRight := fun (W : World) (hb : Below w.heap.size w W) => right_any L f v5 v6 v7 v8 v9 W (h.below hb) hw
 have hLay := fun (h1 : rightP f = true) (W : World) (hb : Below w.heap.size w W) => lay_any L f v5 v6 v7 v8 v9 W (h.below hb) hw (light_lt (Zj h1)) (qP h1)
 have hSeal := fun (h1 : rightP f = true) (W : World) => Z.sl (layFr f) W (by have := Yh h1; omega)
 have hA := fun W => awake11_any F W
 have hrl : rightP f = true -> lightF f = true := Zj;generalize rightP f = R at *
 generalize lightF f = G at *
 generalize C.sealed (layFr f) = X at *
 generalize layFr f = Y at *
 obtain ⟨n0, n1, n2, n3, n4, fl, cl, el, il, vl⟩ := f;dsimp only [frCells] at hPut hLight hRight hLay ⊢;clear h hw;obtain ⟨W0, hW0⟩ : ∃ W0, w.alloc (.cells #[.int .i64 n0, .int .i64 n1, .int .i64 n2, .int .i64 n3, .int .i64 n4, v5, v6, v7, v8, v9] 28) = W0 := ⟨_, rfl⟩;have HB := Lib.hid (show Below w.heap.size w W0 by rw [<- hW0]; exact zf _ _);have k0 : W0.cell? ⟨w.heap.size, 0, none⟩ = some (.int .i64 n0) := by rw [<- hW0]; exact ze w [_, _, _, _, _, _, _, _, _, _] _ 0 _ rfl
 have k1 : W0.cell? ⟨w.heap.size, 1, none⟩ = some (.int .i64 n1) := by rw [<- hW0]; exact ze w [_, _, _, _, _, _, _, _, _, _] _ 1 _ rfl
 have k2 : W0.cell? ⟨w.heap.size, 2, none⟩ = some (.int .i64 n2) := by rw [<- hW0]; exact ze w [_, _, _, _, _, _, _, _, _, _] _ 2 _ rfl
 have k3 : W0.cell? ⟨w.heap.size, 3, none⟩ = some (.int .i64 n3) := by rw [<- hW0]; exact ze w [_, _, _, _, _, _, _, _, _, _] _ 3 _ rfl
 have k4 : W0.cell? ⟨w.heap.size, 4, none⟩ = some (.int .i64 n4) := by rw [<- hW0]; exact ze w [_, _, _, _, _, _, _, _, _, _] _ 4 _ rfl
 have k5 : W0.cell? ⟨w.heap.size, 5, none⟩ = some (v5) := by rw [<- hW0]; exact ze w [_, _, _, _, _, _, _, _, _, _] _ 5 _ rfl
 have k6 : W0.cell? ⟨w.heap.size, 6, none⟩ = some (v6) := by rw [<- hW0]; exact ze w [_, _, _, _, _, _, _, _, _, _] _ 6 _ rfl
 have k7 : W0.cell? ⟨w.heap.size, 7, none⟩ = some (v7) := by rw [<- hW0]; exact ze w [_, _, _, _, _, _, _, _, _, _] _ 7 _ rfl
 have k8 : W0.cell? ⟨w.heap.size, 8, none⟩ = some (v8) := by rw [<- hW0]; exact ze w [_, _, _, _, _, _, _, _, _, _] _ 8 _ rfl
 have k9 : W0.cell? ⟨w.heap.size, 9, none⟩ = some (v9) := by rw [<- hW0]; exact ze w [_, _, _, _, _, _, _, _, _, _] _ 9 _ rfl
 have hr := tl_refl X;have hr0 : (str ([] : List UInt8)).toList = [] := yj [];have HP := Lib.hid hPut;have HL := Lib.hid hLight;have HR := Lib.hid hRight;have HY := Lib.hid hLay;have HS := Lib.hid hSeal;have HA := Lib.hid hA;clear hPut hLight hRight hLay hSeal hA F Z L;cases R with
 | false =>
  rw [putS_f, putE_f] at HP;go_enter Tryz.func3, Tryz.ntmps3;go_wp2_with fail;refine (HP.out _ HB.out).mono ?_;rintro _ w1 ⟨rfl, hb⟩;have k0 := za hb k0;have k1 := za hb k1;have k2 := za hb k2;have k3 := za hb k3;have k4 := za hb k4;have k5 := za hb k5;have k6 := za hb k6;have k7 := za hb k7;have k8 := za hb k8;have k9 := za hb k9;have HB := Lib.hid (HB.out.trans (hb.mono HB.out.size));clear hb;go_wp2_with fail;refine (HL.out _ HB.out).mono ?_;rintro _ w2 ⟨rfl, hb⟩;have k0 := za hb k0;have k1 := za hb k1;have k2 := za hb k2;have k3 := za hb k3;have k4 := za hb k4;have k5 := za hb k5;have k6 := za hb k6;have k7 := za hb k7;have k8 := za hb k8;have k9 := za hb k9;have HB := Lib.hid (HB.out.trans (hb.mono HB.out.size));clear hb;cases G with
  | false =>
   go_wp2_with fail;refine (HA.out _).mono ?_;rintro _ w3 ⟨rfl, hb⟩;have HB := Lib.hid (HB.out.trans (hb.mono HB.out.size));clear hb;go_wp2_with fail;go_ret;exact ⟨rfl, HB.out⟩
  | true =>
   go_wp2_with fail;refine (HR.out _ HB.out).mono ?_;rintro _ w3 ⟨rfl, hb⟩;have HB := Lib.hid (HB.out.trans (hb.mono HB.out.size));clear hb;go_wp2_with fail;refine (HA.out _).mono ?_;rintro _ w4 ⟨rfl, hb⟩;have HB := Lib.hid (HB.out.trans (hb.mono HB.out.size));clear hb;go_wp2_with fail;go_ret;exact ⟨rfl, HB.out⟩
 | true =>
  rw [putS_t, putE_t] at HP;obtain rfl : G = true := hrl rfl;go_enter Tryz.func3, Tryz.ntmps3;go_wp2_with fail;refine (HP.out _ HB.out).mono ?_;rintro _ w1 ⟨rfl, hb⟩;have k0 := za hb k0;have k1 := za hb k1;have k2 := za hb k2;have k3 := za hb k3;have k4 := za hb k4;have k5 := za hb k5;have k6 := za hb k6;have k7 := za hb k7;have k8 := za hb k8;have k9 := za hb k9;have HB := Lib.hid (HB.out.trans (hb.mono HB.out.size));clear hb;go_wp2_with fail;refine (HL.out _ HB.out).mono ?_;rintro _ w2 ⟨rfl, hb⟩;have k0 := za hb k0;have k1 := za hb k1;have k2 := za hb k2;have k3 := za hb k3;have k4 := za hb k4;have k5 := za hb k5;have k6 := za hb k6;have k7 := za hb k7;have k8 := za hb k8;have k9 := za hb k9;have HB := Lib.hid (HB.out.trans (hb.mono HB.out.size));clear hb;go_wp2_with fail;refine (HR.out _ HB.out).mono ?_;rintro _ w3 ⟨rfl, hb⟩;have k0 := za hb k0;have k1 := za hb k1;have k2 := za hb k2;have k3 := za hb k3;have k4 := za hb k4;have k5 := za hb k5;have k6 := za hb k6;have k7 := za hb k7;have k8 := za hb k8;have k9 := za hb k9;have HB := Lib.hid (HB.out.trans (hb.mono HB.out.size));clear hb;go_wp2_with fail;refine (HA.out _).mono ?_;rintro _ w4 ⟨rfl, hb⟩;have k0 := za hb k0;have k1 := za hb k1;have k2 := za hb k2;have k3 := za hb k3;have k4 := za hb k4;have k5 := za hb k5;have k6 := za hb k6;have k7 := za hb k7;have k8 := za hb k8;have k9 := za hb k9;have HB := Lib.hid (HB.out.trans (hb.mono HB.out.size));clear hb;go_wp2_with fail;refine (HY.out (by first | rfl | trivial) _ HB.out).mono ?_;rintro _ w5 ⟨rfl, hb⟩;have k0 := za hb k0;have k1 := za hb k1;have k2 := za hb k2;have k3 := za hb k3;have k4 := za hb k4;have k5 := za hb k5;have k6 := za hb k6;have k7 := za hb k7;have k8 := za hb k8;have k9 := za hb k9;have HB := Lib.hid (HB.out.trans (hb.mono HB.out.size));clear hb;go_wp2_with fail;refine (HS.out (by first | rfl | trivial) _).mono ?_;rintro _ w6 ⟨rfl, hb⟩;have HB := Lib.hid (HB.out.trans (hb.mono HB.out.size));clear hb;go_wp2_with fail;go_ret;exact ⟨rfl, HB.out⟩
end Go.Proofs.YtaidhoepnefcpaaGreat.C10
