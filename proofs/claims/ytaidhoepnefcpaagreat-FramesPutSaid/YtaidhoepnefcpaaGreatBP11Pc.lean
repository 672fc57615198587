/-
  Layer 11, the program: slices.EqualFunc, and listsBy.
-/
import Derived.Test.YtaidhoepnefcpaaGreatBP11Pb
namespace Go.Proofs.YtaidhoepnefcpaaGreat.C10
open Go Go.RowKit Go.Proofs B K P8
set_option linter.unusedVariables false
set_option maxRecDepth 100000
set_option maxHeartbeats 4000000 in
theorem eqfEvent_any (l m : List Ev) (v v' : Value) (w : World) (h : EvsIs w v l) (h' : EvsIs w v' m) (hl : l.length <= 17592186044416) (hv8 : ∀ x ∈ l, x.vars.length <= 4611686018427387904) :
 Calls Tryz.prog 151 #[v, v', .func (.func 103) #[] #[]] w fun z w' => z = .returned (.bool (eqv l m)) /\ Below w.heap.size w w' := by
 obtain ⟨a, cap, rfl, hz⟩ := h.open;obtain ⟨a', cap', rfl, hz'⟩ := h'.open;by_cases hlm : l.length = m.length
 ·have HS := Lib.hid hz
  have HS' := Lib.hid hz';have HV := Lib.hid hv8;obtain ⟨N, hN⟩ : ∃ N, l.length = N := ⟨_, rfl⟩;have hM : m.length = N := by rw [<- hlm, hN]
  obtain ⟨r, hr⟩ : ∃ r, eqv l m = r := ⟨_, rfl⟩;have HR := Lib.hid (show r = eqv (l.drop 0) (m.drop 0) from hr.symm);rw [hr];rw [hN] at hl;rw [hN, hM];have hnn : ((N : Int) != (N : Int)) = false := by simp
  have HL := Lib.hid hl;have HN := Lib.hid hN;have HM := Lib.hid hM;clear hN hM hl h h' hz hz' hlm hr hv8;go_enter Tryz.func151, Tryz.ntmps151;go_wp2_with fail;go_loopw [17] (fun k wr => ∃ (K : Nat), k = .int .i64 (K : Int) /\ K <= N /\ Hid (r = eqv (l.drop K) (m.drop K)) /\ Hid (Below w.heap.size w wr)) (fun k _ => N - (intOf k).toNat)
  case atStart => exact ⟨0, rfl, Nat.zero_le _, HR, Lib.hid (Below.refl _ _)⟩
  case round =>
   obtain ⟨K, rfl, hK, HJ, HB⟩ := hrel;by_cases hlt : K < N
   ·have hltI : (K : Int) < (N : Int) := by omega
    have hk0 : 0 <= (K : Int) := by omega
    have hwK := yc K (by have := HL.out; omega);obtain ⟨x, hx⟩ : ∃ e, l[K]? = some e := ⟨_, List.getElem?_eq_getElem (by rw [HN.out]; exact hlt)⟩;obtain ⟨y, hy⟩ : ∃ e, m[K]? = some e := ⟨_, List.getElem?_eq_getElem (by rw [HM.out]; exact hlt)⟩;have hin := HV.out x (List.mem_of_getElem? hx);have hd := HJ.out;rw [yP hx hy] at hd;obtain ⟨b, off, ea, cs, -, ⟨x1, rfl, hx1⟩, hc⟩ := HS.out K x hx;obtain ⟨b', off', ea', cs', -, ⟨y1, rfl, hy1⟩, hc'⟩ := HS'.out K y hy;subst ea ea';have hx2 := hx1.below HB.out;have hy2 := hy1.below HB.out;obtain ⟨au, cu, rfl, -⟩ := id hx1.open;obtain ⟨av, cv, rfl, -⟩ := id hy1.open;obtain ⟨nu, hnu⟩ : ∃ n, x.vars.length = n := ⟨_, rfl⟩;obtain ⟨nv, hnv⟩ : ∃ n, y.vars.length = n := ⟨_, rfl⟩;rw [hnu] at hx2 hc;rw [hnv] at hy2 hc';obtain ⟨W0, hW0⟩ : ∃ W0, wr.alloc (.cells #[.int .i64 x.pos, .slice au nu cu] 120) = W0 := ⟨_, rfl⟩;obtain ⟨g0, hg0⟩ : ∃ g, wr.heap.size = g := ⟨_, rfl⟩;obtain ⟨W1, hW1⟩ : ∃ W1, W0.alloc (.cells #[.int .i64 y.pos, .slice av nv cv] 120) = W1 := ⟨_, rfl⟩;obtain ⟨g1, hg1⟩ : ∃ g, W0.heap.size = g := ⟨_, rfl⟩;have hB0 : Below wr.heap.size wr W0 := by rw [<- hW0]; exact zf _ _
    have hB1 : Below W0.heap.size W0 W1 := by rw [<- hW1]; exact zf _ _
    have k0 : wr.cell? ⟨b, off + K * 2, none⟩ = some (.int .i64 x.pos) := za HB.out (hc 0 _ rfl);have k1 : wr.cell? ⟨b, off + K * 2 + 1, none⟩ = some (.slice au nu cu) := za HB.out (hc 1 _ rfl);have j0 : W0.cell? ⟨b', off' + K * 2, none⟩ = some (.int .i64 y.pos) := za hB0 (za HB.out (hc' 0 _ rfl));have j1 : W0.cell? ⟨b', off' + K * 2 + 1, none⟩ = some (.slice av nv cv) := za hB0 (za HB.out (hc' 1 _ rfl));have p0 : W1.cell? ⟨g0, 0, none⟩ = some (.int .i64 x.pos) := za hB1 (by rw [<- hW0, <- hg0]; exact ze wr [_, _] _ 0 _ rfl);have p1 : W1.cell? ⟨g0, 1, none⟩ = some (.slice au nu cu) := za hB1 (by rw [<- hW0, <- hg0]; exact ze wr [_, _] _ 1 _ rfl);have q0 : W1.cell? ⟨g1, 0, none⟩ = some (.int .i64 y.pos) := by rw [<- hW1, <- hg1]; exact ze W0 [_, _] _ 0 _ rfl
    have q1 : W1.cell? ⟨g1, 1, none⟩ = some (.slice av nv cv) := by rw [<- hW1, <- hg1]; exact ze W0 [_, _] _ 1 _ rfl
    have hB2 : Below wr.heap.size wr W1 := hB0.trans (hB1.mono hB0.size);have HC := Lib.hid (psameEvent x y _ _ W1 (hx2.below hB2) (hy2.below hB2) hin);have HB1 := Lib.hid (HB.out.trans (hB2.mono HB.out.size));clear hc hc' hx hy hx1 hy1 hx2 hy2 hin hB0 hB1 hB2;obtain ⟨bi, hbi⟩ : ∃ bi, eqv x y = bi := ⟨_, rfl⟩;rw [hbi] at HC hd;have HD := Lib.hid hd;clear hd hbi hnu hnv;go_wp2_with fail;cases bi with
    | true =>
     refine HC.out.mono ?_;rintro _ w2 ⟨rfl, hb2⟩;have HB2 := Lib.hid (HB1.out.trans (hb2.mono HB1.out.size));clear hb2;go_wp2_with fail;go_roundw
     case rel => exact ⟨K + 1, by go_num, by omega, HD, HB2⟩
     case measure => simp [intOf]; omega
    | false =>
     refine HC.out.mono ?_;rintro _ w2 ⟨rfl, hb2⟩;have HB2 := Lib.hid (HB1.out.trans (hb2.mono HB1.out.size));clear hb2;go_wp2_with fail;go_ret;exact ⟨by rw [HD.out]; rfl, HB2.out⟩
   ·have hltI : ¬ (K : Int) < (N : Int) := by omega
    have hd := HJ.out;rw [qb (by rw [HN.out]; omega) (by rw [HM.out]; omega)] at hd;subst hd;go_wp2_with fail;go_ret;exact ⟨rfl, HB.out⟩
 ·rw [yO hlm]
  obtain ⟨N, hN⟩ : ∃ N, l.length = N := ⟨_, rfl⟩;obtain ⟨M, hM⟩ : ∃ M, m.length = M := ⟨_, rfl⟩;rw [hN, hM] at hlm ⊢;have hnn : ((N : Int) != (M : Int)) = true := by simpa using fun e => hlm (by omega)
  clear hN hM hz hz' h h';go_enter Tryz.func151, Tryz.ntmps151;go_wp2_with fail;go_ret;exact ⟨rfl, Below.refl _ _⟩
theorem listsEvent_any (w : World) : Calls Tryz.prog 102 #[.func (.func 103) #[] #[]] w fun z w' => ∃ A, z = .returned (.func (.func 150) #[] #[.pointer (some ⟨A, 0, none⟩)]) /\ w'.cell? ⟨A, 0, none⟩ = some (.func (.func 103) #[] #[]) /\ Below w.heap.size w w' := by
 go_enter Tryz.func102, Tryz.ntmps102;go_wp2_with fail;go_ret;exact ⟨_, rfl, ze w [_] _ 0 _ rfl, zf _ _⟩
theorem byEvent_any (l m : List Ev) (v v' : Value) (A : Nat) (w : World) (h : EvsIs w v l) (h' : EvsIs w v' m) (hl : l.length <= 17592186044416) (hv8 : ∀ x ∈ l, x.vars.length <= 4611686018427387904) (hA : w.cell? ⟨A, 0, none⟩ = some (.func (.func 103) #[] #[])) :
 Calls Tryz.prog 150 #[v, v', .pointer (some ⟨A, 0, none⟩)] w fun z w' => z = .returned (.bool (eqv l m)) /\ Below w.heap.size w w' := by
 have H := Lib.hid (eqfEvent_any l m v v' w h h' hl hv8);clear h h' hl hv8;go_enter Tryz.func150, Tryz.ntmps150;go_wp2_with fail;refine H.out.mono ?_;rintro _ w1 ⟨rfl, hb⟩;have HB := Lib.hid hb;clear hb;go_wp2_with fail;go_ret;exact ⟨rfl, HB.out⟩
set_option maxHeartbeats 4000000 in
theorem eqfCmd_any (l m : List Cm) (v v' : Value) (w : World) (h : CmsIs w v l) (h' : CmsIs w v' m) (hl : l.length <= 17592186044416) (hv8 : ∀ x ∈ l, x.args.length <= 4611686018427387904) :
 Calls Tryz.prog 98 #[v, v', .func (.func 46) #[] #[]] w fun z w' => z = .returned (.bool (eqv l m)) /\ Below w.heap.size w w' := by
 obtain ⟨a, cap, rfl, hz⟩ := h.open;obtain ⟨a', cap', rfl, hz'⟩ := h'.open;by_cases hlm : l.length = m.length
 ·have HS := Lib.hid hz
  have HS' := Lib.hid hz';have HV := Lib.hid hv8;obtain ⟨N, hN⟩ : ∃ N, l.length = N := ⟨_, rfl⟩;have hM : m.length = N := by rw [<- hlm, hN]
  obtain ⟨r, hr⟩ : ∃ r, eqv l m = r := ⟨_, rfl⟩;have HR := Lib.hid (show r = eqv (l.drop 0) (m.drop 0) from hr.symm);rw [hr];rw [hN] at hl;rw [hN, hM];have hnn : ((N : Int) != (N : Int)) = false := by simp
  have HL := Lib.hid hl;have HN := Lib.hid hN;have HM := Lib.hid hM;clear hN hM hl h h' hz hz' hlm hr hv8;go_enter Tryz.func98, Tryz.ntmps98;go_wp2_with fail;go_loopw [17] (fun k wr => ∃ (K : Nat), k = .int .i64 (K : Int) /\ K <= N /\ Hid (r = eqv (l.drop K) (m.drop K)) /\ Hid (Below w.heap.size w wr)) (fun k _ => N - (intOf k).toNat)
  case atStart => exact ⟨0, rfl, Nat.zero_le _, HR, Lib.hid (Below.refl _ _)⟩
  case round =>
   obtain ⟨K, rfl, hK, HJ, HB⟩ := hrel;by_cases hlt : K < N
   ·have hltI : (K : Int) < (N : Int) := by omega
    have hk0 : 0 <= (K : Int) := by omega
    have hwK := yc K (by have := HL.out; omega);obtain ⟨x, hx⟩ : ∃ e, l[K]? = some e := ⟨_, List.getElem?_eq_getElem (by rw [HN.out]; exact hlt)⟩;obtain ⟨y, hy⟩ : ∃ e, m[K]? = some e := ⟨_, List.getElem?_eq_getElem (by rw [HM.out]; exact hlt)⟩;have hin := HV.out x (List.mem_of_getElem? hx);have hd := HJ.out;rw [yP hx hy] at hd;obtain ⟨b, off, ea, cs, -, ⟨x1, rfl, hx1⟩, hc⟩ := HS.out K x hx;obtain ⟨b', off', ea', cs', -, ⟨y1, rfl, hy1⟩, hc'⟩ := HS'.out K y hy;subst ea ea';have hx2 := hx1.below HB.out;have hy2 := hy1.below HB.out;obtain ⟨au, cu, rfl, -⟩ := id hx1.open;obtain ⟨av, cv, rfl, -⟩ := id hy1.open;obtain ⟨nu, hnu⟩ : ∃ n, x.args.length = n := ⟨_, rfl⟩;obtain ⟨nv, hnv⟩ : ∃ n, y.args.length = n := ⟨_, rfl⟩;rw [hnu] at hx2 hc;rw [hnv] at hy2 hc';obtain ⟨W0, hW0⟩ : ∃ W0, wr.alloc (.cells #[.int .i64 x.client, .int .i64 x.seq, .string (str x.stream), .int .i64 x.rule, .slice au nu cu, .int .i64 x.expect] 59) = W0 := ⟨_, rfl⟩;obtain ⟨g0, hg0⟩ : ∃ g, wr.heap.size = g := ⟨_, rfl⟩;obtain ⟨W1, hW1⟩ : ∃ W1, W0.alloc (.cells #[.int .i64 y.client, .int .i64 y.seq, .string (str y.stream), .int .i64 y.rule, .slice av nv cv, .int .i64 y.expect] 59) = W1 := ⟨_, rfl⟩;obtain ⟨g1, hg1⟩ : ∃ g, W0.heap.size = g := ⟨_, rfl⟩;have hB0 : Below wr.heap.size wr W0 := by rw [<- hW0]; exact zf _ _
    have hB1 : Below W0.heap.size W0 W1 := by rw [<- hW1]; exact zf _ _
    have k0 : wr.cell? ⟨b, off + K * 6, none⟩ = some (.int .i64 x.client) := za HB.out (hc 0 _ rfl);have k1 : wr.cell? ⟨b, off + K * 6 + 1, none⟩ = some (.int .i64 x.seq) := za HB.out (hc 1 _ rfl);have k2 : wr.cell? ⟨b, off + K * 6 + 2, none⟩ = some (.string (str x.stream)) := za HB.out (hc 2 _ rfl);have k3 : wr.cell? ⟨b, off + K * 6 + 3, none⟩ = some (.int .i64 x.rule) := za HB.out (hc 3 _ rfl);have k4 : wr.cell? ⟨b, off + K * 6 + 4, none⟩ = some (.slice au nu cu) := za HB.out (hc 4 _ rfl);have k5 : wr.cell? ⟨b, off + K * 6 + 5, none⟩ = some (.int .i64 x.expect) := za HB.out (hc 5 _ rfl);have j0 : W0.cell? ⟨b', off' + K * 6, none⟩ = some (.int .i64 y.client) := za hB0 (za HB.out (hc' 0 _ rfl));have j1 : W0.cell? ⟨b', off' + K * 6 + 1, none⟩ = some (.int .i64 y.seq) := za hB0 (za HB.out (hc' 1 _ rfl));have j2 : W0.cell? ⟨b', off' + K * 6 + 2, none⟩ = some (.string (str y.stream)) := za hB0 (za HB.out (hc' 2 _ rfl));have j3 : W0.cell? ⟨b', off' + K * 6 + 3, none⟩ = some (.int .i64 y.rule) := za hB0 (za HB.out (hc' 3 _ rfl));have j4 : W0.cell? ⟨b', off' + K * 6 + 4, none⟩ = some (.slice av nv cv) := za hB0 (za HB.out (hc' 4 _ rfl));have j5 : W0.cell? ⟨b', off' + K * 6 + 5, none⟩ = some (.int .i64 y.expect) := za hB0 (za HB.out (hc' 5 _ rfl));have p0 : W1.cell? ⟨g0, 0, none⟩ = some (.int .i64 x.client) := za hB1 (by rw [<- hW0, <- hg0]; exact ze wr [_, _, _, _, _, _] _ 0 _ rfl);have p1 : W1.cell? ⟨g0, 1, none⟩ = some (.int .i64 x.seq) := za hB1 (by rw [<- hW0, <- hg0]; exact ze wr [_, _, _, _, _, _] _ 1 _ rfl);have p2 : W1.cell? ⟨g0, 2, none⟩ = some (.string (str x.stream)) := za hB1 (by rw [<- hW0, <- hg0]; exact ze wr [_, _, _, _, _, _] _ 2 _ rfl);have p3 : W1.cell? ⟨g0, 3, none⟩ = some (.int .i64 x.rule) := za hB1 (by rw [<- hW0, <- hg0]; exact ze wr [_, _, _, _, _, _] _ 3 _ rfl);have p4 : W1.cell? ⟨g0, 4, none⟩ = some (.slice au nu cu) := za hB1 (by rw [<- hW0, <- hg0]; exact ze wr [_, _, _, _, _, _] _ 4 _ rfl);have p5 : W1.cell? ⟨g0, 5, none⟩ = some (.int .i64 x.expect) := za hB1 (by rw [<- hW0, <- hg0]; exact ze wr [_, _, _, _, _, _] _ 5 _ rfl);have q0 : W1.cell? ⟨g1, 0, none⟩ = some (.int .i64 y.client) := by rw [<- hW1, <- hg1]; exact ze W0 [_, _, _, _, _, _] _ 0 _ rfl
    have q1 : W1.cell? ⟨g1, 1, none⟩ = some (.int .i64 y.seq) := by rw [<- hW1, <- hg1]; exact ze W0 [_, _, _, _, _, _] _ 1 _ rfl
    have q2 : W1.cell? ⟨g1, 2, none⟩ = some (.string (str y.stream)) := by rw [<- hW1, <- hg1]; exact ze W0 [_, _, _, _, _, _] _ 2 _ rfl
    have q3 : W1.cell? ⟨g1, 3, none⟩ = some (.int .i64 y.rule) := by rw [<- hW1, <- hg1]; exact ze W0 [_, _, _, _, _, _] _ 3 _ rfl
    have q4 : W1.cell? ⟨g1, 4, none⟩ = some (.slice av nv cv) := by rw [<- hW1, <- hg1]; exact ze W0 [_, _, _, _, _, _] _ 4 _ rfl
    have q5 : W1.cell? ⟨g1, 5, none⟩ = some (.int .i64 y.expect) := by rw [<- hW1, <- hg1]; exact ze W0 [_, _, _, _, _, _] _ 5 _ rfl
    have hB2 : Below wr.heap.size wr W1 := hB0.trans (hB1.mono hB0.size);have HC := Lib.hid (psameCmd x y _ _ W1 (hx2.below hB2) (hy2.below hB2) hin);have HB1 := Lib.hid (HB.out.trans (hB2.mono HB.out.size));clear hc hc' hx hy hx1 hy1 hx2 hy2 hin hB0 hB1 hB2;obtain ⟨bi, hbi⟩ : ∃ bi, eqv x y = bi := ⟨_, rfl⟩;rw [hbi] at HC hd;have HD := Lib.hid hd;clear hd hbi hnu hnv;go_wp2_with fail;cases bi with
    | true =>
     refine HC.out.mono ?_;rintro _ w2 ⟨rfl, hb2⟩;have HB2 := Lib.hid (HB1.out.trans (hb2.mono HB1.out.size));clear hb2;go_wp2_with fail;go_roundw
     case rel => exact ⟨K + 1, by go_num, by omega, HD, HB2⟩
     case measure => simp [intOf]; omega
    | false =>
     refine HC.out.mono ?_;rintro _ w2 ⟨rfl, hb2⟩;have HB2 := Lib.hid (HB1.out.trans (hb2.mono HB1.out.size));clear hb2;go_wp2_with fail;go_ret;exact ⟨by rw [HD.out]; rfl, HB2.out⟩
   ·have hltI : ¬ (K : Int) < (N : Int) := by omega
    have hd := HJ.out;rw [qb (by rw [HN.out]; omega) (by rw [HM.out]; omega)] at hd;subst hd;go_wp2_with fail;go_ret;exact ⟨rfl, HB.out⟩
 ·rw [yO hlm]
  obtain ⟨N, hN⟩ : ∃ N, l.length = N := ⟨_, rfl⟩;obtain ⟨M, hM⟩ : ∃ M, m.length = M := ⟨_, rfl⟩;rw [hN, hM] at hlm ⊢;have hnn : ((N : Int) != (M : Int)) = true := by simpa using fun e => hlm (by omega)
  clear hN hM hz hz' h h';go_enter Tryz.func98, Tryz.ntmps98;go_wp2_with fail;go_ret;exact ⟨rfl, Below.refl _ _⟩
theorem listsCmd_any (w : World) : Calls Tryz.prog 45 #[.func (.func 46) #[] #[]] w fun z w' => ∃ A, z = .returned (.func (.func 97) #[] #[.pointer (some ⟨A, 0, none⟩)]) /\ w'.cell? ⟨A, 0, none⟩ = some (.func (.func 46) #[] #[]) /\ Below w.heap.size w w' := by
 go_enter Tryz.func45, Tryz.ntmps45;go_wp2_with fail;go_ret;exact ⟨_, rfl, ze w [_] _ 0 _ rfl, zf _ _⟩
theorem byCmd_any (l m : List Cm) (v v' : Value) (A : Nat) (w : World) (h : CmsIs w v l) (h' : CmsIs w v' m) (hl : l.length <= 17592186044416) (hv8 : ∀ x ∈ l, x.args.length <= 4611686018427387904) (hA : w.cell? ⟨A, 0, none⟩ = some (.func (.func 46) #[] #[])) :
 Calls Tryz.prog 97 #[v, v', .pointer (some ⟨A, 0, none⟩)] w fun z w' => z = .returned (.bool (eqv l m)) /\ Below w.heap.size w w' := by
 have H := Lib.hid (eqfCmd_any l m v v' w h h' hl hv8);clear h h' hl hv8;go_enter Tryz.func97, Tryz.ntmps97;go_wp2_with fail;refine H.out.mono ?_;rintro _ w1 ⟨rfl, hb⟩;have HB := Lib.hid hb;clear hb;go_wp2_with fail;go_ret;exact ⟨rfl, HB.out⟩
set_option maxHeartbeats 4000000 in
theorem eqfItem_any (l m : List It) (v v' : Value) (w : World) (h : ItsIs w v l) (h' : ItsIs w v' m) (hl : l.length <= 17592186044416) (hv8 : ∀ x ∈ l, x.st.vars.length <= 4611686018427387904) :
 Calls Tryz.prog 105 #[v, v', .func (.func 50) #[] #[]] w fun z w' => z = .returned (.bool (eqv l m)) /\ Below w.heap.size w w' := by
 obtain ⟨a, cap, rfl, hz⟩ := h.open;obtain ⟨a', cap', rfl, hz'⟩ := h'.open;by_cases hlm : l.length = m.length
 ·have HS := Lib.hid hz
  have HS' := Lib.hid hz';have HV := Lib.hid hv8;obtain ⟨N, hN⟩ : ∃ N, l.length = N := ⟨_, rfl⟩;have hM : m.length = N := by rw [<- hlm, hN]
  obtain ⟨r, hr⟩ : ∃ r, eqv l m = r := ⟨_, rfl⟩;have HR := Lib.hid (show r = eqv (l.drop 0) (m.drop 0) from hr.symm);rw [hr];rw [hN] at hl;rw [hN, hM];have hnn : ((N : Int) != (N : Int)) = false := by simp
  have HL := Lib.hid hl;have HN := Lib.hid hN;have HM := Lib.hid hM;clear hN hM hl h h' hz hz' hlm hr hv8;go_enter Tryz.func105, Tryz.ntmps105;go_wp2_with fail;go_loopw [17] (fun k wr => ∃ (K : Nat), k = .int .i64 (K : Int) /\ K <= N /\ Hid (r = eqv (l.drop K) (m.drop K)) /\ Hid (Below w.heap.size w wr)) (fun k _ => N - (intOf k).toNat)
  case atStart => exact ⟨0, rfl, Nat.zero_le _, HR, Lib.hid (Below.refl _ _)⟩
  case round =>
   obtain ⟨K, rfl, hK, HJ, HB⟩ := hrel;by_cases hlt : K < N
   ·have hltI : (K : Int) < (N : Int) := by omega
    have hk0 : 0 <= (K : Int) := by omega
    have hwK := yc K (by have := HL.out; omega);obtain ⟨x, hx⟩ : ∃ e, l[K]? = some e := ⟨_, List.getElem?_eq_getElem (by rw [HN.out]; exact hlt)⟩;obtain ⟨y, hy⟩ : ∃ e, m[K]? = some e := ⟨_, List.getElem?_eq_getElem (by rw [HM.out]; exact hlt)⟩;have hin := HV.out x (List.mem_of_getElem? hx);have hd := HJ.out;rw [yP hx hy] at hd;obtain ⟨b, off, ea, cs, -, ⟨x1, rfl, hx1⟩, hc⟩ := HS.out K x hx;obtain ⟨b', off', ea', cs', -, ⟨y1, rfl, hy1⟩, hc'⟩ := HS'.out K y hy;subst ea ea';have hx2 := hx1.below HB.out;have hy2 := hy1.below HB.out;obtain ⟨au, cu, rfl, -⟩ := id hx1.open;obtain ⟨av, cv, rfl, -⟩ := id hy1.open;obtain ⟨nu, hnu⟩ : ∃ n, x.st.vars.length = n := ⟨_, rfl⟩;obtain ⟨nv, hnv⟩ : ∃ n, y.st.vars.length = n := ⟨_, rfl⟩;rw [hnu] at hx2 hc;rw [hnv] at hy2 hc';obtain ⟨W0, hW0⟩ : ∃ W0, wr.alloc (.cells #[.string (str x.stream), .int .i64 x.st.pos, .int .i64 x.st.ver, .slice au nu cu] 91) = W0 := ⟨_, rfl⟩;obtain ⟨g0, hg0⟩ : ∃ g, wr.heap.size = g := ⟨_, rfl⟩;obtain ⟨W1, hW1⟩ : ∃ W1, W0.alloc (.cells #[.string (str y.stream), .int .i64 y.st.pos, .int .i64 y.st.ver, .slice av nv cv] 91) = W1 := ⟨_, rfl⟩;obtain ⟨g1, hg1⟩ : ∃ g, W0.heap.size = g := ⟨_, rfl⟩;have hB0 : Below wr.heap.size wr W0 := by rw [<- hW0]; exact zf _ _
    have hB1 : Below W0.heap.size W0 W1 := by rw [<- hW1]; exact zf _ _
    have k0 : wr.cell? ⟨b, off + K * 4, none⟩ = some (.string (str x.stream)) := za HB.out (hc 0 _ rfl);have k1 : wr.cell? ⟨b, off + K * 4 + 1, none⟩ = some (.int .i64 x.st.pos) := za HB.out (hc 1 _ rfl);have k2 : wr.cell? ⟨b, off + K * 4 + 2, none⟩ = some (.int .i64 x.st.ver) := za HB.out (hc 2 _ rfl);have k3 : wr.cell? ⟨b, off + K * 4 + 3, none⟩ = some (.slice au nu cu) := za HB.out (hc 3 _ rfl);have j0 : W0.cell? ⟨b', off' + K * 4, none⟩ = some (.string (str y.stream)) := za hB0 (za HB.out (hc' 0 _ rfl));have j1 : W0.cell? ⟨b', off' + K * 4 + 1, none⟩ = some (.int .i64 y.st.pos) := za hB0 (za HB.out (hc' 1 _ rfl));have j2 : W0.cell? ⟨b', off' + K * 4 + 2, none⟩ = some (.int .i64 y.st.ver) := za hB0 (za HB.out (hc' 2 _ rfl));have j3 : W0.cell? ⟨b', off' + K * 4 + 3, none⟩ = some (.slice av nv cv) := za hB0 (za HB.out (hc' 3 _ rfl));have p0 : W1.cell? ⟨g0, 0, none⟩ = some (.string (str x.stream)) := za hB1 (by rw [<- hW0, <- hg0]; exact ze wr [_, _, _, _] _ 0 _ rfl);have p1 : W1.cell? ⟨g0, 1, none⟩ = some (.int .i64 x.st.pos) := za hB1 (by rw [<- hW0, <- hg0]; exact ze wr [_, _, _, _] _ 1 _ rfl);have p2 : W1.cell? ⟨g0, 2, none⟩ = some (.int .i64 x.st.ver) := za hB1 (by rw [<- hW0, <- hg0]; exact ze wr [_, _, _, _] _ 2 _ rfl);have p3 : W1.cell? ⟨g0, 3, none⟩ = some (.slice au nu cu) := za hB1 (by rw [<- hW0, <- hg0]; exact ze wr [_, _, _, _] _ 3 _ rfl);have q0 : W1.cell? ⟨g1, 0, none⟩ = some (.string (str y.stream)) := by rw [<- hW1, <- hg1]; exact ze W0 [_, _, _, _] _ 0 _ rfl
    have q1 : W1.cell? ⟨g1, 1, none⟩ = some (.int .i64 y.st.pos) := by rw [<- hW1, <- hg1]; exact ze W0 [_, _, _, _] _ 1 _ rfl
    have q2 : W1.cell? ⟨g1, 2, none⟩ = some (.int .i64 y.st.ver) := by rw [<- hW1, <- hg1]; exact ze W0 [_, _, _, _] _ 2 _ rfl
    have q3 : W1.cell? ⟨g1, 3, none⟩ = some (.slice av nv cv) := by rw [<- hW1, <- hg1]; exact ze W0 [_, _, _, _] _ 3 _ rfl
    have hB2 : Below wr.heap.size wr W1 := hB0.trans (hB1.mono hB0.size);have HC := Lib.hid (psameItem x y _ _ W1 (hx2.below hB2) (hy2.below hB2) hin);have HB1 := Lib.hid (HB.out.trans (hB2.mono HB.out.size));clear hc hc' hx hy hx1 hy1 hx2 hy2 hin hB0 hB1 hB2;obtain ⟨bi, hbi⟩ : ∃ bi, eqv x y = bi := ⟨_, rfl⟩;rw [hbi] at HC hd;have HD := Lib.hid hd;clear hd hbi hnu hnv;go_wp2_with fail;cases bi with
    | true =>
     refine HC.out.mono ?_;rintro _ w2 ⟨rfl, hb2⟩;have HB2 := Lib.hid (HB1.out.trans (hb2.mono HB1.out.size));clear hb2;go_wp2_with fail;go_roundw
     case rel => exact ⟨K + 1, by go_num, by omega, HD, HB2⟩
     case measure => simp [intOf]; omega
    | false =>
     refine HC.out.mono ?_;rintro _ w2 ⟨rfl, hb2⟩;have HB2 := Lib.hid (HB1.out.trans (hb2.mono HB1.out.size));clear hb2;go_wp2_with fail;go_ret;exact ⟨by rw [HD.out]; rfl, HB2.out⟩
   ·have hltI : ¬ (K : Int) < (N : Int) := by omega
    have hd := HJ.out;rw [qb (by rw [HN.out]; omega) (by rw [HM.out]; omega)] at hd;subst hd;go_wp2_with fail;go_ret;exact ⟨rfl, HB.out⟩
 ·rw [yO hlm]
  obtain ⟨N, hN⟩ : ∃ N, l.length = N := ⟨_, rfl⟩;obtain ⟨M, hM⟩ : ∃ M, m.length = M := ⟨_, rfl⟩;rw [hN, hM] at hlm ⊢;have hnn : ((N : Int) != (M : Int)) = true := by simpa using fun e => hlm (by omega)
  clear hN hM hz hz' h h';go_enter Tryz.func105, Tryz.ntmps105;go_wp2_with fail;go_ret;exact ⟨rfl, Below.refl _ _⟩
theorem listsItem_any (w : World) : Calls Tryz.prog 49 #[.func (.func 50) #[] #[]] w fun z w' => ∃ A, z = .returned (.func (.func 104) #[] #[.pointer (some ⟨A, 0, none⟩)]) /\ w'.cell? ⟨A, 0, none⟩ = some (.func (.func 50) #[] #[]) /\ Below w.heap.size w w' := by
 go_enter Tryz.func49, Tryz.ntmps49;go_wp2_with fail;go_ret;exact ⟨_, rfl, ze w [_] _ 0 _ rfl, zf _ _⟩
theorem byItem_any (l m : List It) (v v' : Value) (A : Nat) (w : World) (h : ItsIs w v l) (h' : ItsIs w v' m) (hl : l.length <= 17592186044416) (hv8 : ∀ x ∈ l, x.st.vars.length <= 4611686018427387904) (hA : w.cell? ⟨A, 0, none⟩ = some (.func (.func 50) #[] #[])) :
 Calls Tryz.prog 104 #[v, v', .pointer (some ⟨A, 0, none⟩)] w fun z w' => z = .returned (.bool (eqv l m)) /\ Below w.heap.size w w' := by
 have H := Lib.hid (eqfItem_any l m v v' w h h' hl hv8);clear h h' hl hv8;go_enter Tryz.func104, Tryz.ntmps104;go_wp2_with fail;refine H.out.mono ?_;rintro _ w1 ⟨rfl, hb⟩;have HB := Lib.hid hb;clear hb;go_wp2_with fail;go_ret;exact ⟨rfl, HB.out⟩
end Go.Proofs.YtaidhoepnefcpaaGreat.C10
