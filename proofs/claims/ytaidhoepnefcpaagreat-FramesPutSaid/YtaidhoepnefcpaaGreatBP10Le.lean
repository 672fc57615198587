/-
  Layer 10, the program: what is put.
-/
import Derived.Test.YtaidhoepnefcpaaGreatBP10Lc
namespace Go.Proofs.YtaidhoepnefcpaaGreat.C10
open Go Go.RowKit Go.Proofs B K P8
set_option linter.unusedVariables false
set_option maxRecDepth 100000
theorem layCmd_eq (c : Cm) : layCmd c = layHd c.client c.seq c.stream ++ num c.rule ++ listL c.args ++ num c.expect := by
 unfold layCmd layHd numsL;simp
set_option maxHeartbeats 4000000 in
theorem layCmdP_any (c : Cm) (u : Value) (w : World) (hu : SlN w u c.args) (h : CmWf c) (hs : c.stream.length <= 4096) (hl : c.args.length <= 256) :
 Calls Tryz.prog 117 #[.agg #[.int .i64 c.client, .int .i64 c.seq, .string (str c.stream), .int .i64 c.rule, u, .int .i64 c.expect]] w fun e w' => e = .returned (.string (str (layCmd c))) /\ Below w.heap.size w w' := by
 rw [layCmd_eq];obtain ⟨n0, n1, t, n3, vs, n5⟩ := c;obtain ⟨h0, h1, -, h3, ⟨h4, -⟩, h5⟩ := h;dsimp only at h0 h1 h3 h4 h5 hs hu hl ⊢;have l0 := layHd_len n0 n1 t h0 h1 hs;have l1 := zi n3 h3;have l2 := yg vs ⟨h4, by omega⟩;have l3 := zi n5 h5;have e1 := zu (layHd n0 n1 t) (num n3) (by omega);have e2 := zu (layHd n0 n1 t ++ num n3) (listL vs) (by rw [List.length_append]; omega);have e3 := zu (layHd n0 n1 t ++ num n3 ++ listL vs) (num n5) (by rw [List.length_append, List.length_append]; omega);obtain ⟨au, cu, rfl, -⟩ := id hu.open;have P0 := fun W => layHead_any n0 n1 t W h0 h1 hs
 have P1 := fun W => zR n3 W h3
 have P2 := fun W (hb : Below w.heap.size w W) => qL vs _ W (hu.below hb) h4 hl
 have P3 := fun W => zR n5 W h5
 generalize layHd n0 n1 t = X0 at *
 generalize num n3 = X1 at *
 generalize listL vs = X2 at *
 generalize num n5 = X3 at *
 obtain ⟨L, hL⟩ : ∃ L, vs.length = L := ⟨_, rfl⟩;rw [hL] at P2 ⊢;generalize X0 ++ X1 = U1 at *
 generalize U1 ++ X2 = U2 at *
 generalize U2 ++ X3 = U3 at *
 clear l0 l1 l2 l3 hL hu h4;obtain ⟨W0, hW0⟩ : ∃ W0, w.alloc (.cells #[.int .i64 n0, .int .i64 n1, .string (str t), .int .i64 n3, .slice au L cu, .int .i64 n5] 59) = W0 := ⟨_, rfl⟩;obtain ⟨g, hg⟩ : ∃ g, w.heap.size = g := ⟨_, rfl⟩;have hB0 : Below w.heap.size w W0 := by rw [<- hW0]; exact zf _ _
 have k0 : W0.cell? ⟨g, 0, none⟩ = some (.int .i64 n0) := by rw [<- hW0, <- hg]; exact ze w [_, _, _, _, _, _] _ 0 _ rfl
 have k1 : W0.cell? ⟨g, 1, none⟩ = some (.int .i64 n1) := by rw [<- hW0, <- hg]; exact ze w [_, _, _, _, _, _] _ 1 _ rfl
 have k2 : W0.cell? ⟨g, 2, none⟩ = some (.string (str t)) := by rw [<- hW0, <- hg]; exact ze w [_, _, _, _, _, _] _ 2 _ rfl
 have k3 : W0.cell? ⟨g, 3, none⟩ = some (.int .i64 n3) := by rw [<- hW0, <- hg]; exact ze w [_, _, _, _, _, _] _ 3 _ rfl
 have k4 : W0.cell? ⟨g, 4, none⟩ = some (.slice au L cu) := by rw [<- hW0, <- hg]; exact ze w [_, _, _, _, _, _] _ 4 _ rfl
 have k5 : W0.cell? ⟨g, 5, none⟩ = some (.int .i64 n5) := by rw [<- hW0, <- hg]; exact ze w [_, _, _, _, _, _] _ 5 _ rfl
 have G1 := Lib.hid (fun (W : World) (hS : (W.cell? ⟨g, 0, none⟩ = some (Value.int .i64 n0) /\ W.cell? ⟨g, 1, none⟩ = some (Value.int .i64 n1) /\ W.cell? ⟨g, 2, none⟩ = some (Value.string (str t)) /\ W.cell? ⟨g, 3, none⟩ = some (Value.int .i64 n3) /\ W.cell? ⟨g, 4, none⟩ = some (Value.slice au L cu) /\ W.cell? ⟨g, 5, none⟩ = some (Value.int .i64 n5) /\ Below w.heap.size w W)) => (show Calls Tryz.prog 169 #[.int .i64 n0, .int .i64 n1, .string (str t)] W (fun e w' => e = .returned (.string (str X0)) /\ Below W.heap.size W w') from P0 W).mono (fun e (w2 : World) hh => (⟨hh.1, ⟨za hh.2 hS.1, za hh.2 hS.2.1, za hh.2 hS.2.2.1, za hh.2 hS.2.2.2.1, za hh.2 hS.2.2.2.2.1, za hh.2 hS.2.2.2.2.2.1, hS.2.2.2.2.2.2.trans (hh.2.mono hS.2.2.2.2.2.2.size)⟩⟩ : e = Ending.returned (Value.string (str X0)) /\ (w2.cell? ⟨g, 0, none⟩ = some (Value.int .i64 n0) /\ w2.cell? ⟨g, 1, none⟩ = some (Value.int .i64 n1) /\ w2.cell? ⟨g, 2, none⟩ = some (Value.string (str t)) /\ w2.cell? ⟨g, 3, none⟩ = some (Value.int .i64 n3) /\ w2.cell? ⟨g, 4, none⟩ = some (Value.slice au L cu) /\ w2.cell? ⟨g, 5, none⟩ = some (Value.int .i64 n5) /\ Below w.heap.size w w2))));have G2 := Lib.hid (fun (W : World) (hS : (W.cell? ⟨g, 0, none⟩ = some (Value.int .i64 n0) /\ W.cell? ⟨g, 1, none⟩ = some (Value.int .i64 n1) /\ W.cell? ⟨g, 2, none⟩ = some (Value.string (str t)) /\ W.cell? ⟨g, 3, none⟩ = some (Value.int .i64 n3) /\ W.cell? ⟨g, 4, none⟩ = some (Value.slice au L cu) /\ W.cell? ⟨g, 5, none⟩ = some (Value.int .i64 n5) /\ Below w.heap.size w W)) => (show Calls Tryz.prog 110 #[.int .i64 n3] W (fun e w' => e = .returned (.string (str X1)) /\ Below W.heap.size W w') from P1 W).mono (fun e (w2 : World) hh => (⟨hh.1, ⟨za hh.2 hS.1, za hh.2 hS.2.1, za hh.2 hS.2.2.1, za hh.2 hS.2.2.2.1, za hh.2 hS.2.2.2.2.1, za hh.2 hS.2.2.2.2.2.1, hS.2.2.2.2.2.2.trans (hh.2.mono hS.2.2.2.2.2.2.size)⟩⟩ : e = Ending.returned (Value.string (str X1)) /\ (w2.cell? ⟨g, 0, none⟩ = some (Value.int .i64 n0) /\ w2.cell? ⟨g, 1, none⟩ = some (Value.int .i64 n1) /\ w2.cell? ⟨g, 2, none⟩ = some (Value.string (str t)) /\ w2.cell? ⟨g, 3, none⟩ = some (Value.int .i64 n3) /\ w2.cell? ⟨g, 4, none⟩ = some (Value.slice au L cu) /\ w2.cell? ⟨g, 5, none⟩ = some (Value.int .i64 n5) /\ Below w.heap.size w w2))));have G3 := Lib.hid (fun (W : World) (hS : (W.cell? ⟨g, 0, none⟩ = some (Value.int .i64 n0) /\ W.cell? ⟨g, 1, none⟩ = some (Value.int .i64 n1) /\ W.cell? ⟨g, 2, none⟩ = some (Value.string (str t)) /\ W.cell? ⟨g, 3, none⟩ = some (Value.int .i64 n3) /\ W.cell? ⟨g, 4, none⟩ = some (Value.slice au L cu) /\ W.cell? ⟨g, 5, none⟩ = some (Value.int .i64 n5) /\ Below w.heap.size w W)) => (show Calls Tryz.prog 170 #[.slice au L cu] W (fun e w' => e = .returned (.string (str X2)) /\ Below W.heap.size W w') from P2 W hS.2.2.2.2.2.2).mono (fun e (w2 : World) hh => (⟨hh.1, ⟨za hh.2 hS.1, za hh.2 hS.2.1, za hh.2 hS.2.2.1, za hh.2 hS.2.2.2.1, za hh.2 hS.2.2.2.2.1, za hh.2 hS.2.2.2.2.2.1, hS.2.2.2.2.2.2.trans (hh.2.mono hS.2.2.2.2.2.2.size)⟩⟩ : e = Ending.returned (Value.string (str X2)) /\ (w2.cell? ⟨g, 0, none⟩ = some (Value.int .i64 n0) /\ w2.cell? ⟨g, 1, none⟩ = some (Value.int .i64 n1) /\ w2.cell? ⟨g, 2, none⟩ = some (Value.string (str t)) /\ w2.cell? ⟨g, 3, none⟩ = some (Value.int .i64 n3) /\ w2.cell? ⟨g, 4, none⟩ = some (Value.slice au L cu) /\ w2.cell? ⟨g, 5, none⟩ = some (Value.int .i64 n5) /\ Below w.heap.size w w2))));have G4 := Lib.hid (fun (W : World) (hS : (W.cell? ⟨g, 0, none⟩ = some (Value.int .i64 n0) /\ W.cell? ⟨g, 1, none⟩ = some (Value.int .i64 n1) /\ W.cell? ⟨g, 2, none⟩ = some (Value.string (str t)) /\ W.cell? ⟨g, 3, none⟩ = some (Value.int .i64 n3) /\ W.cell? ⟨g, 4, none⟩ = some (Value.slice au L cu) /\ W.cell? ⟨g, 5, none⟩ = some (Value.int .i64 n5) /\ Below w.heap.size w W)) => (show Calls Tryz.prog 110 #[.int .i64 n5] W (fun e w' => e = .returned (.string (str X3)) /\ Below W.heap.size W w') from P3 W).mono (fun e (w2 : World) hh => (⟨hh.1, ⟨za hh.2 hS.1, za hh.2 hS.2.1, za hh.2 hS.2.2.1, za hh.2 hS.2.2.2.1, za hh.2 hS.2.2.2.2.1, za hh.2 hS.2.2.2.2.2.1, hS.2.2.2.2.2.2.trans (hh.2.mono hS.2.2.2.2.2.2.size)⟩⟩ : e = Ending.returned (Value.string (str X3)) /\ (w2.cell? ⟨g, 0, none⟩ = some (Value.int .i64 n0) /\ w2.cell? ⟨g, 1, none⟩ = some (Value.int .i64 n1) /\ w2.cell? ⟨g, 2, none⟩ = some (Value.string (str t)) /\ w2.cell? ⟨g, 3, none⟩ = some (Value.int .i64 n3) /\ w2.cell? ⟨g, 4, none⟩ = some (Value.slice au L cu) /\ w2.cell? ⟨g, 5, none⟩ = some (Value.int .i64 n5) /\ Below w.heap.size w w2))));have hS0 : (W0.drew.cell? ⟨g, 0, none⟩ = some (Value.int .i64 n0) /\ W0.drew.cell? ⟨g, 1, none⟩ = some (Value.int .i64 n1) /\ W0.drew.cell? ⟨g, 2, none⟩ = some (Value.string (str t)) /\ W0.drew.cell? ⟨g, 3, none⟩ = some (Value.int .i64 n3) /\ W0.drew.cell? ⟨g, 4, none⟩ = some (Value.slice au L cu) /\ W0.drew.cell? ⟨g, 5, none⟩ = some (Value.int .i64 n5) /\ Below w.heap.size w W0.drew) := ⟨k0, k1, k2, k3, k4, k5, hB0.drew⟩;clear hB0 k0 k1 k2 k3 k4 k5;go_enter Tryz.func117, Tryz.ntmps117;go_upto_region 1 with fail
 clear hW0;go_region_held_law (fun W => (W.cell? ⟨g, 0, none⟩ = some (Value.int .i64 n0) /\ W.cell? ⟨g, 1, none⟩ = some (Value.int .i64 n1) /\ W.cell? ⟨g, 2, none⟩ = some (Value.string (str t)) /\ W.cell? ⟨g, 3, none⟩ = some (Value.int .i64 n3) /\ W.cell? ⟨g, 4, none⟩ = some (Value.slice au L cu) /\ W.cell? ⟨g, 5, none⟩ = some (Value.int .i64 n5) /\ Below w.heap.size w W)) (first | exact hS0 | assumption) (first | (go_at_call 169; ((with_reducible refine (G1.out _ ?_).mono ?_); (first | exact hS0 | assumption)); rintro _ w1 ⟨rfl, hS1⟩) | (go_at_call 110; ((with_reducible refine (G2.out _ ?_).mono ?_); (first | exact hS0 | assumption)); rintro _ w2 ⟨rfl, hS2⟩) | (go_at_call 170; ((with_reducible refine (G3.out _ ?_).mono ?_); (first | exact hS0 | assumption)); rintro _ w3 ⟨rfl, hS3⟩) | (go_at_call 110; ((with_reducible refine (G4.out _ ?_).mono ?_); (first | exact hS0 | assumption)); rintro _ w4 ⟨rfl, hS4⟩))
 go_wp2_with fail;go_ret;exact ⟨rfl, hS4.2.2.2.2.2.2⟩
def putS (ok : Bool) (t : List UInt8) : List UInt8 := if ok then t else []
def putE (ok : Bool) : Int := if ok then 0 else 2
theorem Yp {c : Cm} (h : cmdP c = true) : c.stream.length <= 4096 /\ c.args.length <= 256 := by
 unfold cmdP at h;simp only [Bool.and_eq_true] at h;have h1 := (qX h.1).2.2;have h2 := (zZ h.2.2.1).2;omega
theorem Yk {l : List Ev} (h : evsP l = true) : l.length <= 256 /\ ∀ x ∈ l, x.vars.length <= 256 := by
 obtain ⟨h1, h2⟩ := qg h;refine ⟨by omega, fun x hx => ?_⟩;have := h1 x hx;unfold evP at this;rw [Bool.and_eq_true] at this;have := (zZ this.2).2;omega
theorem Z6 {l : List It} (h : itemsP l = true) : l.length <= 256 /\ ∀ x ∈ l, x.stream.length <= 4096 /\ x.st.vars.length <= 256 := by
 unfold itemsP at h;rw [Bool.and_eq_true, decide_eq_true_eq] at h;refine ⟨by omega, fun x hx => ?_⟩;obtain ⟨h1, h2⟩ := uj l 0 l h.1 x hx;unfold stP at h2;simp only [Bool.and_eq_true] at h2;have h3 := yG h1;have h4 := (zZ h2.2.2).2;omega
theorem vds_small {l : List Vd} (h : vdsP l = true) : l.length <= 256 := by
 unfold vdsP at h;rw [Bool.and_eq_true, decide_eq_true_eq] at h;omega
theorem ZI {l : List (List UInt8)} (h : filtP l = true) : l.length <= 256 /\ ∀ x ∈ l, x.length <= 4096 := by
 unfold filtP at h;rw [Bool.and_eq_true, decide_eq_true_eq, List.all_eq_true] at h;exact ⟨by omega, fun x hx => by have := uX (h.2 x hx); omega⟩
set_option maxHeartbeats 2000000 in
theorem pPutEvents_any (l : List Ev) (v : Value) (w : World) (h : EvsIs w v l) (hw : EvsWf l) :
 Calls Tryz.prog 121 #[v] w fun e w' => e = .returned (.tuple #[.string (str (putS (evsP l) (layEvs l))), .int .i64 (putE (evsP l))]) /\ Below w.heap.size w w' := by
 have HP : Calls Tryz.prog 171 #[v, .func (.func 172) #[] #[], .func (.func 173) #[] #[]] w fun e w' => e = .returned (.tuple #[.string (str (putS (evsP l) (layEvs l))), .int .i64 (putE (evsP l))]) /\ Below w.heap.size w w' := by
  have H0 := Lib.hid (fun W (hv : EvsIs W v l) => uw l v W hv hw);have H1 := Lib.hid (fun (hp : evsP l = true) W (hv : EvsIs W v l) => playEvents_any l v W hv (fun x hx => ⟨hw.1 x hx, (Yk hp).2 x hx⟩) (Yk hp).1);obtain ⟨b, hb⟩ : ∃ b, evsP l = b := ⟨_, rfl⟩;rw [hb] at H0 H1 ⊢;clear hb hw;have HV := Lib.hid (fun W (hb : Below w.heap.size w W) => h.below hb);have HV0 := Lib.hid h;obtain ⟨a, cap, rfl, -⟩ := h.open;generalize layEvs l = R at H1 ⊢
  go_enter Tryz.func171, Tryz.ntmps171;go_wp2_with fail;refine (H0.out _ HV0.out).mono ?_;rintro _ w1 ⟨rfl, hb1⟩;have HB1 := Lib.hid hb1;clear hb1;cases b with
  | false =>
   go_wp2_with fail;go_ret2;exact ⟨rfl, HB1.out⟩
  | true =>
   go_wp2_with fail;refine (H1.out (by simp) _ (HV.out _ HB1.out)).mono ?_;rintro _ w2 ⟨rfl, hb2⟩;have HB2 := Lib.hid hb2;clear hb2;go_wp2_with fail;go_ret2;exact ⟨rfl, HB1.out.trans (HB2.out.mono HB1.out.size)⟩
 obtain ⟨a, cap, rfl, -⟩ := h.open;generalize putS (evsP l) (layEvs l) = R at HP ⊢
 generalize putE (evsP l) = E at HP ⊢
 have HP := Lib.hid HP;clear h hw;go_enter Tryz.func121, Tryz.ntmps121;go_wp2_with (go_at_call 171; refine HP.out.mono ?_; rintro _ w1 ⟨rfl, hb1⟩; have HB1 := Lib.hid hb1; clear hb1)
 go_ret2;exact ⟨rfl, HB1.out⟩
set_option maxHeartbeats 2000000 in
theorem pPutItems_any (l : List It) (v : Value) (w : World) (h : ItsIs w v l) (hw : ItsWf l) :
 Calls Tryz.prog 64 #[v] w fun e w' => e = .returned (.tuple #[.string (str (putS (itemsP l) (layItems l))), .int .i64 (putE (itemsP l))]) /\ Below w.heap.size w w' := by
 have HP : Calls Tryz.prog 122 #[v, .func (.func 123) #[] #[], .func (.func 124) #[] #[]] w fun e w' => e = .returned (.tuple #[.string (str (putS (itemsP l) (layItems l))), .int .i64 (putE (itemsP l))]) /\ Below w.heap.size w w' := by
  have H0 := Lib.hid (fun W (hv : ItsIs W v l) => uG l v W hv hw);have H1 := Lib.hid (fun (hp : itemsP l = true) W (hv : ItsIs W v l) => playItems_any l v W hv (fun x hx => ⟨(hw.1 x hx).2, (Z6 hp).2 x hx⟩) (Z6 hp).1);obtain ⟨b, hb⟩ : ∃ b, itemsP l = b := ⟨_, rfl⟩;rw [hb] at H0 H1 ⊢;clear hb hw;have HV := Lib.hid (fun W (hb : Below w.heap.size w W) => h.below hb);have HV0 := Lib.hid h;obtain ⟨a, cap, rfl, -⟩ := h.open;generalize layItems l = R at H1 ⊢
  go_enter Tryz.func122, Tryz.ntmps122;go_wp2_with fail;refine (H0.out _ HV0.out).mono ?_;rintro _ w1 ⟨rfl, hb1⟩;have HB1 := Lib.hid hb1;clear hb1;cases b with
  | false =>
   go_wp2_with fail;go_ret2;exact ⟨rfl, HB1.out⟩
  | true =>
   go_wp2_with fail;refine (H1.out (by simp) _ (HV.out _ HB1.out)).mono ?_;rintro _ w2 ⟨rfl, hb2⟩;have HB2 := Lib.hid hb2;clear hb2;go_wp2_with fail;go_ret2;exact ⟨rfl, HB1.out.trans (HB2.out.mono HB1.out.size)⟩
 obtain ⟨a, cap, rfl, -⟩ := h.open;generalize putS (itemsP l) (layItems l) = R at HP ⊢
 generalize putE (itemsP l) = E at HP ⊢
 have HP := Lib.hid HP;clear h hw;go_enter Tryz.func64, Tryz.ntmps64;go_wp2_with (go_at_call 122; refine HP.out.mono ?_; rintro _ w1 ⟨rfl, hb1⟩; have HB1 := Lib.hid hb1; clear hb1)
 go_ret2;exact ⟨rfl, HB1.out⟩
set_option maxHeartbeats 2000000 in
theorem pPutVerdicts_any (l : List Vd) (v : Value) (w : World) (h : VdsIs w v l) (hw : VdsWf l) :
 Calls Tryz.prog 66 #[v] w fun e w' => e = .returned (.tuple #[.string (str (putS (vdsP l) (layVds l))), .int .i64 (putE (vdsP l))]) /\ Below w.heap.size w w' := by
 have HP : Calls Tryz.prog 125 #[v, .func (.func 126) #[] #[], .func (.func 127) #[] #[]] w fun e w' => e = .returned (.tuple #[.string (str (putS (vdsP l) (layVds l))), .int .i64 (putE (vdsP l))]) /\ Below w.heap.size w w' := by
  have H0 := Lib.hid (fun W (hv : VdsIs W v l) => jy l v W hv hw);have H1 := Lib.hid (fun (hp : vdsP l = true) W (hv : VdsIs W v l) => playVerdicts_any l v W hv (fun x hx => hw.1 x hx) (vds_small hp));obtain ⟨b, hb⟩ : ∃ b, vdsP l = b := ⟨_, rfl⟩;rw [hb] at H0 H1 ⊢;clear hb hw;have HV := Lib.hid (fun W (hb : Below w.heap.size w W) => h.below hb);have HV0 := Lib.hid h;obtain ⟨a, cap, rfl, -⟩ := h.open;generalize layVds l = R at H1 ⊢
  go_enter Tryz.func125, Tryz.ntmps125;go_wp2_with fail;refine (H0.out _ HV0.out).mono ?_;rintro _ w1 ⟨rfl, hb1⟩;have HB1 := Lib.hid hb1;clear hb1;cases b with
  | false =>
   go_wp2_with fail;go_ret2;exact ⟨rfl, HB1.out⟩
  | true =>
   go_wp2_with fail;refine (H1.out (by simp) _ (HV.out _ HB1.out)).mono ?_;rintro _ w2 ⟨rfl, hb2⟩;have HB2 := Lib.hid hb2;clear hb2;go_wp2_with fail;go_ret2;exact ⟨rfl, HB1.out.trans (HB2.out.mono HB1.out.size)⟩
 obtain ⟨a, cap, rfl, -⟩ := h.open;generalize putS (vdsP l) (layVds l) = R at HP ⊢
 generalize putE (vdsP l) = E at HP ⊢
 have HP := Lib.hid HP;clear h hw;go_enter Tryz.func66, Tryz.ntmps66;go_wp2_with (go_at_call 125; refine HP.out.mono ?_; rintro _ w1 ⟨rfl, hb1⟩; have HB1 := Lib.hid hb1; clear hb1)
 go_ret2;exact ⟨rfl, HB1.out⟩
set_option maxHeartbeats 2000000 in
theorem pPutFilter_any (l : List (List UInt8)) (v : Value) (w : World) (h : SlT w v l) (hw : FlWf l) :
 Calls Tryz.prog 56 #[v] w fun e w' => e = .returned (.tuple #[.string (str (putS (filtP l) (layFilt l))), .int .i64 (putE (filtP l))]) /\ Below w.heap.size w w' := by
 have HP : Calls Tryz.prog 112 #[v, .func (.func 113) #[] #[], .func (.func 114) #[] #[]] w fun e w' => e = .returned (.tuple #[.string (str (putS (filtP l) (layFilt l))), .int .i64 (putE (filtP l))]) /\ Below w.heap.size w w' := by
  have H0 := Lib.hid (fun W (hv : SlT W v l) => uy l v W hv hw);have H1 := Lib.hid (fun (hp : filtP l = true) W (hv : SlT W v l) => layFilter_any l v W hv (ZI hp).2 (ZI hp).1);obtain ⟨b, hb⟩ : ∃ b, filtP l = b := ⟨_, rfl⟩;rw [hb] at H0 H1 ⊢;clear hb hw;have HV := Lib.hid (fun W (hb : Below w.heap.size w W) => h.below hb);have HV0 := Lib.hid h;obtain ⟨a, cap, rfl, -⟩ := h.open;generalize layFilt l = R at H1 ⊢
  go_enter Tryz.func112, Tryz.ntmps112;go_wp2_with fail;refine (H0.out _ HV0.out).mono ?_;rintro _ w1 ⟨rfl, hb1⟩;have HB1 := Lib.hid hb1;clear hb1;cases b with
  | false =>
   go_wp2_with fail;go_ret2;exact ⟨rfl, HB1.out⟩
  | true =>
   go_wp2_with fail;refine (H1.out (by simp) _ (HV.out _ HB1.out)).mono ?_;rintro _ w2 ⟨rfl, hb2⟩;have HB2 := Lib.hid hb2;clear hb2;go_wp2_with fail;go_ret2;exact ⟨rfl, HB1.out.trans (HB2.out.mono HB1.out.size)⟩
 obtain ⟨a, cap, rfl, -⟩ := h.open;generalize putS (filtP l) (layFilt l) = R at HP ⊢
 generalize putE (filtP l) = E at HP ⊢
 have HP := Lib.hid HP;clear h hw;go_enter Tryz.func56, Tryz.ntmps56;go_wp2_with (go_at_call 112; refine HP.out.mono ?_; rintro _ w1 ⟨rfl, hb1⟩; have HB1 := Lib.hid hb1; clear hb1)
 go_ret2;exact ⟨rfl, HB1.out⟩
set_option maxHeartbeats 2000000 in
theorem pPutCmd_any (c : Cm) (v : Value) (w : World) (h : SlN w v c.args) (hw : CmWf c) :
 Calls Tryz.prog 60 #[.agg #[.int .i64 c.client, .int .i64 c.seq, .string (str c.stream), .int .i64 c.rule, v, .int .i64 c.expect]] w fun e w' => e = .returned (.tuple #[.string (str (putS (cmdP c) (layCmd c))), .int .i64 (putE (cmdP c))]) /\ Below w.heap.size w w' := by
 have M0 := fun W (hv : SlN W v c.args) => ZE c v W hv hw
 have M1 := fun (hp : cmdP c = true) W (hv : SlN W v c.args) => layCmdP_any c v W hv hw (Yp hp).1 (Yp hp).2
 obtain ⟨b, hb⟩ : ∃ b, cmdP c = b := ⟨_, rfl⟩;rw [hb] at M0 M1 ⊢;generalize layCmd c = R at M1 ⊢
 obtain ⟨n0, n1, t, n3, sl, n5⟩ := c;dsimp only at h M0 M1 ⊢;clear hb hw;have HV := Lib.hid (fun W (hb : Below w.heap.size w W) => h.below hb);obtain ⟨a, cap, rfl, -⟩ := h.open;obtain ⟨L, hL⟩ : ∃ L, sl.length = L := ⟨_, rfl⟩;rw [hL] at HV M0 M1 ⊢;have H0 := Lib.hid M0;have H1 := Lib.hid M1;clear M0 M1 hL;have HP : ∀ w : World, (∀ W, Below w.heap.size w W -> SlN W (.slice a L cap) sl) -> Calls Tryz.prog 115 #[.agg #[.int .i64 n0, .int .i64 n1, .string (str t), .int .i64 n3, .slice a L cap, .int .i64 n5], .func (.func 116) #[] #[], .func (.func 117) #[] #[]] w fun e w' => e = .returned (.tuple #[.string (str (putS b R)), .int .i64 (putE b)]) /\ Below w.heap.size w w' := by
  intro w HV;have HV := Lib.hid HV;obtain ⟨W0, hW0⟩ : ∃ W0, w.alloc (.cells #[.int .i64 n0, .int .i64 n1, .string (str t), .int .i64 n3, .slice a L cap, .int .i64 n5] 59) = W0 := ⟨_, rfl⟩;have hB0 : Below w.heap.size w W0 := by rw [<- hW0]; exact zf _ _
  have k0 : W0.cell? ⟨w.heap.size, 0, none⟩ = some (.int .i64 n0) := by rw [<- hW0]; exact ze w [_, _, _, _, _, _] _ 0 _ rfl
  have k1 : W0.cell? ⟨w.heap.size, 1, none⟩ = some (.int .i64 n1) := by rw [<- hW0]; exact ze w [_, _, _, _, _, _] _ 1 _ rfl
  have k2 : W0.cell? ⟨w.heap.size, 2, none⟩ = some (.string (str t)) := by rw [<- hW0]; exact ze w [_, _, _, _, _, _] _ 2 _ rfl
  have k3 : W0.cell? ⟨w.heap.size, 3, none⟩ = some (.int .i64 n3) := by rw [<- hW0]; exact ze w [_, _, _, _, _, _] _ 3 _ rfl
  have k4 : W0.cell? ⟨w.heap.size, 4, none⟩ = some (.slice a L cap) := by rw [<- hW0]; exact ze w [_, _, _, _, _, _] _ 4 _ rfl
  have k5 : W0.cell? ⟨w.heap.size, 5, none⟩ = some (.int .i64 n5) := by rw [<- hW0]; exact ze w [_, _, _, _, _, _] _ 5 _ rfl
  have HB0 := Lib.hid hB0;clear hB0;go_enter Tryz.func115, Tryz.ntmps115;go_wp2_with fail;refine (H0.out _ (HV.out _ HB0.out)).mono ?_;rintro _ w1 ⟨rfl, hb1⟩;have k0 := za hb1 k0;have k1 := za hb1 k1;have k2 := za hb1 k2;have k3 := za hb1 k3;have k4 := za hb1 k4;have k5 := za hb1 k5;have HB1 := Lib.hid (HB0.out.trans (hb1.mono HB0.out.size));clear hb1 hW0;cases b with
  | false =>
   go_wp2_with fail;go_ret2;exact ⟨rfl, HB1.out⟩
  | true =>
   go_wp2_with fail;refine (H1.out (by simp) _ (HV.out _ HB1.out)).mono ?_;rintro _ w2 ⟨rfl, hb2⟩;have HB2 := Lib.hid hb2;clear hb2;go_wp2_with fail;go_ret2;exact ⟨rfl, HB1.out.trans (HB2.out.mono HB1.out.size)⟩
 obtain ⟨W0, hW0⟩ : ∃ W0, w.alloc (.cells #[.int .i64 n0, .int .i64 n1, .string (str t), .int .i64 n3, .slice a L cap, .int .i64 n5] 59) = W0 := ⟨_, rfl⟩;have hB0 : Below w.heap.size w W0 := by rw [<- hW0]; exact zf _ _
 have k0 : W0.cell? ⟨w.heap.size, 0, none⟩ = some (.int .i64 n0) := by rw [<- hW0]; exact ze w [_, _, _, _, _, _] _ 0 _ rfl
 have k1 : W0.cell? ⟨w.heap.size, 1, none⟩ = some (.int .i64 n1) := by rw [<- hW0]; exact ze w [_, _, _, _, _, _] _ 1 _ rfl
 have k2 : W0.cell? ⟨w.heap.size, 2, none⟩ = some (.string (str t)) := by rw [<- hW0]; exact ze w [_, _, _, _, _, _] _ 2 _ rfl
 have k3 : W0.cell? ⟨w.heap.size, 3, none⟩ = some (.int .i64 n3) := by rw [<- hW0]; exact ze w [_, _, _, _, _, _] _ 3 _ rfl
 have k4 : W0.cell? ⟨w.heap.size, 4, none⟩ = some (.slice a L cap) := by rw [<- hW0]; exact ze w [_, _, _, _, _, _] _ 4 _ rfl
 have k5 : W0.cell? ⟨w.heap.size, 5, none⟩ = some (.int .i64 n5) := by rw [<- hW0]; exact ze w [_, _, _, _, _, _] _ 5 _ rfl
 have HPP := Lib.hid (HP W0 (fun W hb => HV.out W (hB0.trans (hb.mono hB0.size))));have HB0 := Lib.hid hB0;clear hB0 HP;generalize putS b R = R1 at HPP ⊢
 generalize putE b = E1 at HPP ⊢
 go_enter Tryz.func60, Tryz.ntmps60;go_wp2_with fail;refine HPP.out.mono ?_;rintro _ w1 ⟨rfl, hb1⟩;have HB1 := Lib.hid (HB0.out.trans (hb1.mono HB0.out.size));clear hb1 hW0;go_wp2_with fail;go_ret2;exact ⟨rfl, HB1.out⟩
end Go.Proofs.YtaidhoepnefcpaaGreat.C10
