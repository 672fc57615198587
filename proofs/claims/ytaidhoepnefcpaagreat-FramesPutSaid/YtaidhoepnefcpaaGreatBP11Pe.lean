/-
  Layer 11, the program: slices.EqualFunc of entries.
-/
import Derived.Test.YtaidhoepnefcpaaGreatBP11Pd
import Derived.Test.YtaidhoepnefcpaaGreatBP11RefB
namespace Go.Proofs.YtaidhoepnefcpaaGreat.C10
open Go Go.RowKit Go.Proofs B K P8
set_option linter.unusedVariables false
set_option maxRecDepth 100000
set_option maxHeartbeats 4000000 in
theorem eqfEntry_any (l m : List En) (v v' : Value) (w : World) (h : EnsIs w v l) (h' : EnsIs w v' m) (hl : l.length <= 17592186044416) (hv8 : ∀ x ∈ l, x.events.length <= 17592186044416 /\ ∀ y ∈ x.events, y.vars.length <= 4611686018427387904) :
 Calls Tryz.prog 101 #[v, v', .func (.func 48) #[] #[]] w fun z w' => z = .returned (.bool (eqv l m)) /\ Below w.heap.size w w' := by
 obtain ⟨a, cap, rfl, hz⟩ := h.open;obtain ⟨a', cap', rfl, hz'⟩ := h'.open;by_cases hlm : l.length = m.length
 ·have HS := Lib.hid hz
  have HS' := Lib.hid hz';have HV := Lib.hid hv8;obtain ⟨N, hN⟩ : ∃ N, l.length = N := ⟨_, rfl⟩;have hM : m.length = N := by rw [<- hlm, hN]
  obtain ⟨r, hr⟩ : ∃ r, eqv l m = r := ⟨_, rfl⟩;have HR := Lib.hid (show r = eqv (l.drop 0) (m.drop 0) from hr.symm);rw [hr];rw [hN] at hl;rw [hN, hM];have hnn : ((N : Int) != (N : Int)) = false := by simp
  have HL := Lib.hid hl;have HN := Lib.hid hN;have HM := Lib.hid hM;clear hN hM hl h h' hz hz' hlm hr hv8;go_enter Tryz.func101, Tryz.ntmps101;go_wp2_with fail;go_loopw [17] (fun k wr => ∃ (K : Nat), k = .int .i64 (K : Int) /\ K <= N /\ Hid (r = eqv (l.drop K) (m.drop K)) /\ Hid (Below w.heap.size w wr)) (fun k _ => N - (intOf k).toNat)
  case atStart => exact ⟨0, rfl, Nat.zero_le _, HR, Lib.hid (Below.refl _ _)⟩
  case round =>
   obtain ⟨K, rfl, hK, HJ, HB⟩ := hrel;by_cases hlt : K < N
   ·have hltI : (K : Int) < (N : Int) := by omega
    have hk0 : 0 <= (K : Int) := by omega
    have hwK := yc K (by have := HL.out; omega);obtain ⟨x, hx⟩ : ∃ e, l[K]? = some e := ⟨_, List.getElem?_eq_getElem (by rw [HN.out]; exact hlt)⟩;obtain ⟨y, hy⟩ : ∃ e, m[K]? = some e := ⟨_, List.getElem?_eq_getElem (by rw [HM.out]; exact hlt)⟩;have hin := HV.out x (List.mem_of_getElem? hx);have hd := HJ.out;rw [yP hx hy] at hd;obtain ⟨b, off, ea, cs, -, ⟨x1, rfl, hx1⟩, hc⟩ := HS.out K x hx;obtain ⟨b', off', ea', cs', -, ⟨y1, rfl, hy1⟩, hc'⟩ := HS'.out K y hy;subst ea ea';have hx2 := hx1.below HB.out;have hy2 := hy1.below HB.out;obtain ⟨au, cu, rfl, -⟩ := id hx1.open;obtain ⟨av, cv, rfl, -⟩ := id hy1.open;obtain ⟨nu, hnu⟩ : ∃ n, x.events.length = n := ⟨_, rfl⟩;obtain ⟨nv, hnv⟩ : ∃ n, y.events.length = n := ⟨_, rfl⟩;rw [hnu] at hx2 hc;rw [hnv] at hy2 hc';obtain ⟨W0, hW0⟩ : ∃ W0, wr.alloc (.cells #[.int .i64 x.index, .string (str x.stream), .slice au nu cu, .int .i64 x.seq, .int .i64 x.code] 53) = W0 := ⟨_, rfl⟩;obtain ⟨g0, hg0⟩ : ∃ g, wr.heap.size = g := ⟨_, rfl⟩;obtain ⟨W1, hW1⟩ : ∃ W1, W0.alloc (.cells #[.int .i64 y.index, .string (str y.stream), .slice av nv cv, .int .i64 y.seq, .int .i64 y.code] 53) = W1 := ⟨_, rfl⟩;obtain ⟨g1, hg1⟩ : ∃ g, W0.heap.size = g := ⟨_, rfl⟩;have hB0 : Below wr.heap.size wr W0 := by rw [<- hW0]; exact zf _ _
    have hB1 : Below W0.heap.size W0 W1 := by rw [<- hW1]; exact zf _ _
    have k0 : wr.cell? ⟨b, off + K * 5, none⟩ = some (.int .i64 x.index) := za HB.out (hc 0 _ rfl);have k1 : wr.cell? ⟨b, off + K * 5 + 1, none⟩ = some (.string (str x.stream)) := za HB.out (hc 1 _ rfl);have k2 : wr.cell? ⟨b, off + K * 5 + 2, none⟩ = some (.slice au nu cu) := za HB.out (hc 2 _ rfl);have k3 : wr.cell? ⟨b, off + K * 5 + 3, none⟩ = some (.int .i64 x.seq) := za HB.out (hc 3 _ rfl);have k4 : wr.cell? ⟨b, off + K * 5 + 4, none⟩ = some (.int .i64 x.code) := za HB.out (hc 4 _ rfl);have j0 : W0.cell? ⟨b', off' + K * 5, none⟩ = some (.int .i64 y.index) := za hB0 (za HB.out (hc' 0 _ rfl));have j1 : W0.cell? ⟨b', off' + K * 5 + 1, none⟩ = some (.string (str y.stream)) := za hB0 (za HB.out (hc' 1 _ rfl));have j2 : W0.cell? ⟨b', off' + K * 5 + 2, none⟩ = some (.slice av nv cv) := za hB0 (za HB.out (hc' 2 _ rfl));have j3 : W0.cell? ⟨b', off' + K * 5 + 3, none⟩ = some (.int .i64 y.seq) := za hB0 (za HB.out (hc' 3 _ rfl));have j4 : W0.cell? ⟨b', off' + K * 5 + 4, none⟩ = some (.int .i64 y.code) := za hB0 (za HB.out (hc' 4 _ rfl));have p0 : W1.cell? ⟨g0, 0, none⟩ = some (.int .i64 x.index) := za hB1 (by rw [<- hW0, <- hg0]; exact ze wr [_, _, _, _, _] _ 0 _ rfl);have p1 : W1.cell? ⟨g0, 1, none⟩ = some (.string (str x.stream)) := za hB1 (by rw [<- hW0, <- hg0]; exact ze wr [_, _, _, _, _] _ 1 _ rfl);have p2 : W1.cell? ⟨g0, 2, none⟩ = some (.slice au nu cu) := za hB1 (by rw [<- hW0, <- hg0]; exact ze wr [_, _, _, _, _] _ 2 _ rfl);have p3 : W1.cell? ⟨g0, 3, none⟩ = some (.int .i64 x.seq) := za hB1 (by rw [<- hW0, <- hg0]; exact ze wr [_, _, _, _, _] _ 3 _ rfl);have p4 : W1.cell? ⟨g0, 4, none⟩ = some (.int .i64 x.code) := za hB1 (by rw [<- hW0, <- hg0]; exact ze wr [_, _, _, _, _] _ 4 _ rfl);have q0 : W1.cell? ⟨g1, 0, none⟩ = some (.int .i64 y.index) := by rw [<- hW1, <- hg1]; exact ze W0 [_, _, _, _, _] _ 0 _ rfl
    have q1 : W1.cell? ⟨g1, 1, none⟩ = some (.string (str y.stream)) := by rw [<- hW1, <- hg1]; exact ze W0 [_, _, _, _, _] _ 1 _ rfl
    have q2 : W1.cell? ⟨g1, 2, none⟩ = some (.slice av nv cv) := by rw [<- hW1, <- hg1]; exact ze W0 [_, _, _, _, _] _ 2 _ rfl
    have q3 : W1.cell? ⟨g1, 3, none⟩ = some (.int .i64 y.seq) := by rw [<- hW1, <- hg1]; exact ze W0 [_, _, _, _, _] _ 3 _ rfl
    have q4 : W1.cell? ⟨g1, 4, none⟩ = some (.int .i64 y.code) := by rw [<- hW1, <- hg1]; exact ze W0 [_, _, _, _, _] _ 4 _ rfl
    have hB2 : Below wr.heap.size wr W1 := hB0.trans (hB1.mono hB0.size);have HC := Lib.hid (psameEntry x y _ _ W1 (hx2.below hB2) (hy2.below hB2) hin.1 hin.2);have HB1 := Lib.hid (HB.out.trans (hB2.mono HB.out.size));clear hc hc' hx hy hx1 hy1 hx2 hy2 hin hB0 hB1 hB2;obtain ⟨bi, hbi⟩ : ∃ bi, eqv x y = bi := ⟨_, rfl⟩;rw [hbi] at HC hd;have HD := Lib.hid hd;clear hd hbi hnu hnv;go_wp2_with fail;cases bi with
    | true =>
     refine HC.out.mono ?_;rintro _ w2 ⟨rfl, hb2⟩;have HB2 := Lib.hid (HB1.out.trans (hb2.mono HB1.out.size));clear hb2;go_wp2_with fail;go_roundw
     case rel => exact ⟨K + 1, by go_num, by omega, HD, HB2⟩
     case measure => simp [intOf]; omega
    | false =>
     refine HC.out.mono ?_;rintro _ w2 ⟨rfl, hb2⟩;have HB2 := Lib.hid (HB1.out.trans (hb2.mono HB1.out.size));clear hb2;go_wp2_with fail;go_ret;exact ⟨by rw [HD.out]; rfl, HB2.out⟩
   ·have hltI : ¬ (K : Int) < (N : Int) := by omega
    have hd := HJ.out;rw [qb (by rw [HN.out]; omega) (by rw [HM.out]; omega)] at hd;subst hd;go_wp2_with fail;go_ret;exact ⟨rfl, HB.out⟩
 ·rw [yO hlm]
  obtain ⟨N, hN⟩ : ∃ N, l.length = N := ⟨_, rfl⟩;obtain ⟨M, hM⟩ : ∃ M, m.length = M := ⟨_, rfl⟩;rw [hN, hM] at hlm ⊢;have hnn : ((N : Int) != (M : Int)) = true := by simpa using fun e => hlm (by omega)
  clear hN hM hz hz' h h';go_enter Tryz.func101, Tryz.ntmps101;go_wp2_with fail;go_ret;exact ⟨rfl, Below.refl _ _⟩
theorem listsEntry_any (w : World) : Calls Tryz.prog 47 #[.func (.func 48) #[] #[]] w fun z w' => ∃ A, z = .returned (.func (.func 100) #[] #[.pointer (some ⟨A, 0, none⟩)]) /\ w'.cell? ⟨A, 0, none⟩ = some (.func (.func 48) #[] #[]) /\ Below w.heap.size w w' := by
 go_enter Tryz.func47, Tryz.ntmps47;go_wp2_with fail;go_ret;exact ⟨_, rfl, ze w [_] _ 0 _ rfl, zf _ _⟩
theorem byEntry_any (l m : List En) (v v' : Value) (A : Nat) (w : World) (h : EnsIs w v l) (h' : EnsIs w v' m) (hl : l.length <= 17592186044416) (hv8 : ∀ x ∈ l, x.events.length <= 17592186044416 /\ ∀ y ∈ x.events, y.vars.length <= 4611686018427387904) (hA : w.cell? ⟨A, 0, none⟩ = some (.func (.func 48) #[] #[])) :
 Calls Tryz.prog 100 #[v, v', .pointer (some ⟨A, 0, none⟩)] w fun z w' => z = .returned (.bool (eqv l m)) /\ Below w.heap.size w w' := by
 have H := Lib.hid (eqfEntry_any l m v v' w h h' hl hv8);clear h h' hl hv8;go_enter Tryz.func100, Tryz.ntmps100;go_wp2_with fail;refine H.out.mono ?_;rintro _ w1 ⟨rfl, hb⟩;have HB := Lib.hid hb;clear hb;go_wp2_with fail;go_ret;exact ⟨rfl, HB.out⟩
end Go.Proofs.YtaidhoepnefcpaaGreat.C10
