/-
  CodecCmds: which commands and records may be laid, and their bytes: the program answers as the document says. No condition.
-/
import Derived.Test.YtebglkpejdoggaaRows
import Derived.Test.YtebglkpejdoggaaP10Arg
import Derived.Test.YtebglkpejdoggaaKLaw
import Derived.SizedLaws
import Derived.BigQuiet
import Derived.Deep.RegionHeld3
import Derived.Deep.DeepCutAuto
namespace Go.Proofs.Ytebglkpejdoggaa.codecCmds
open Go.ChangeShapes Go.WideShapes Go.ChangeAt Go.RowKit Go.Proofs
open Go.ChangeMaps (open_string shut_string)
open Go.Proofs.Ytebglkpejdoggaa.C10 Go.Proofs.Ytebglkpejdoggaa.P8 Go.Proofs.Ytebglkpejdoggaa.K Go.Proofs.Ytebglkpejdoggaa.B
set_option linter.unusedVariables false
set_option maxRecDepth 100000

theorem own : ownKnob Try.prog.godebug = none := by kernel_rfl
theorem laidOut : laidOutB Try.prog = true := by kernel_rfl


set_option maxHeartbeats 16000000 in
theorem walk (L : Low) (F : Cod) (c : Cm) (r : Rc) (u v : Value) (w : World) (hu : SlN w u c.args) (hwc : CmWf c) (hv : EvsIs w v r.events) (hwr : RcWf r) :
    Calls Try.prog 3 #[.agg #[.int .i64 c.client, .int .i64 c.seq, .string (str c.stream), .int .i64 c.rule, u, .int .i64 c.expect], .agg #[.int .i64 r.client, .int .i64 r.seq, .string (str r.stream), .int .i64 r.code, v]] w fun e w' => e = .returned (.bool true) ∧ Below w.heap.size w w' := by
  obtain ⟨n0, n1, s, n3, ar, n5⟩ := c
  obtain ⟨m0, m1, t, m3, ev⟩ := r
  have hw5 := hwc.2.2.2.2.1
  have hv5 := hwr.2.2.2.2
  dsimp only at hu hv hw5 hv5 ⊢
  have P1 := fun W (hb : Below w.heap.size w W) => F.putCmd ⟨n0, n1, s, n3, ar, n5⟩ u W (hu.below hb) hwc
  have P2 := fun W (hb : Below w.heap.size w W) => F.putRec ⟨m0, m1, t, m3, ev⟩ v W (hv.below hb) hwr
  have P3 := fun W (hb : Below w.heap.size w W) => F.putEvs ev v W (hv.below hb) hv5
  have PL := fun W (hb : Below w.heap.size w W) => light_any ⟨n0, n1, s, n3, ar, n5⟩ ⟨m0, m1, t, m3, ev⟩ u v W (hu.below hb)
  have R1 := fun W (hb : Below w.heap.size w W) => cmd_any L ⟨n0, n1, s, n3, ar, n5⟩ u W (hu.below hb) hwc
  have R2 := fun W (hb : Below w.heap.size w W) => layCmd_any L ⟨n0, n1, s, n3, ar, n5⟩ u W (hu.below hb) hwc
  have R3 := fun W (hb : Below w.heap.size w W) => record_any L ⟨m0, m1, t, m3, ev⟩ v W (hv.below hb) hwr
  have R4 := fun (h50 : ev.length ≤ 40000) W (hb : Below w.heap.size w W) => layRec_any L ⟨m0, m1, t, m3, ev⟩ v W (hv.below hb) hwr h50
  have R5 := fun W (hb : Below w.heap.size w W) => events_any L ev v W (hv.below hb) hv5
  have R6 := fun (h50 : ev.length ≤ 40000) W (hb : Below w.heap.size w W) => layEvs_any L ev v W (hv.below hb) hv5 h50
  have A := fun W => awake10_any F W
  obtain ⟨av, cv, rfl, -⟩ := id hv.open
  dsimp only at P1 P2 P3 PL R1 R2 R3 R4 R5 R6
  have D1 := fun W => laid_any (cmdP ⟨n0, n1, s, n3, ar, n5⟩) (layCmd ⟨n0, n1, s, n3, ar, n5⟩) W
  have D2 := fun W => laid_any (recP ⟨m0, m1, t, m3, ev⟩) (layRec ⟨m0, m1, t, m3, ev⟩) W
  have D3 := fun W => laid_any (evsP ev) (layEvs ev) W
  generalize cmdP ⟨n0, n1, s, n3, ar, n5⟩ = b1 at *
  generalize layCmd ⟨n0, n1, s, n3, ar, n5⟩ = t1 at *
  generalize recP ⟨m0, m1, t, m3, ev⟩ = b2 at *
  generalize layRec ⟨m0, m1, t, m3, ev⟩ = t2 at *
  generalize evsP ev = b3 at *
  generalize layEvs ev = t3 at *
  generalize putS b1 t1 = s1 at *
  generalize putS b2 t2 = s2 at *
  generalize putS b3 t3 = s3 at *
  generalize putE b1 = e1 at *
  generalize putE b2 = e2 at *
  generalize putE b3 = e3 at *
  obtain ⟨N, hN⟩ : ∃ N, ev.length = N := ⟨_, rfl⟩
  rw [hN] at P2 P3 PL R3 R4 R5 R6 ⊢
  obtain ⟨W0, hW0⟩ : ∃ W0, w.alloc (.cells #[.int .i64 n0, .int .i64 n1, .string (str s), .int .i64 n3, u, .int .i64 n5] 24) = W0 := ⟨_, rfl⟩
  obtain ⟨h, hh⟩ : ∃ g, w.heap.size = g := ⟨_, rfl⟩
  obtain ⟨g, hg⟩ : ∃ g, W0.heap.size = g := ⟨_, rfl⟩
  obtain ⟨W1, hW1⟩ : ∃ W1, W0.alloc (.cells #[.int .i64 m0, .int .i64 m1, .string (str t), .int .i64 m3, .slice av N cv] 27) = W1 := ⟨_, rfl⟩
  have hB0 : Below w.heap.size w W0 := by rw [← hW0]; exact below_alloc _ _
  have hB1 : Below W0.heap.size W0 W1 := by rw [← hW1]; exact below_alloc _ _
  have hB := hB0.trans (hB1.mono hB0.size)
  have k0 : W1.cell? ⟨h, 0, none⟩ = some (.int .i64 n0) := kept_cell hB1 (by rw [← hW0, ← hh]; exact alloc_cell w [_, _, _, _, _, _] _ 0 _ rfl)
  have k1 : W1.cell? ⟨h, 1, none⟩ = some (.int .i64 n1) := kept_cell hB1 (by rw [← hW0, ← hh]; exact alloc_cell w [_, _, _, _, _, _] _ 1 _ rfl)
  have k2 : W1.cell? ⟨h, 2, none⟩ = some (.string (str s)) := kept_cell hB1 (by rw [← hW0, ← hh]; exact alloc_cell w [_, _, _, _, _, _] _ 2 _ rfl)
  have k3 : W1.cell? ⟨h, 3, none⟩ = some (.int .i64 n3) := kept_cell hB1 (by rw [← hW0, ← hh]; exact alloc_cell w [_, _, _, _, _, _] _ 3 _ rfl)
  have k4 : W1.cell? ⟨h, 4, none⟩ = some (u) := kept_cell hB1 (by rw [← hW0, ← hh]; exact alloc_cell w [_, _, _, _, _, _] _ 4 _ rfl)
  have k5 : W1.cell? ⟨h, 5, none⟩ = some (.int .i64 n5) := kept_cell hB1 (by rw [← hW0, ← hh]; exact alloc_cell w [_, _, _, _, _, _] _ 5 _ rfl)
  have k6 : W1.cell? ⟨g, 0, none⟩ = some (.int .i64 m0) := by rw [← hW1, ← hg]; exact alloc_cell W0 [_, _, _, _, _] _ 0 _ rfl
  have k7 : W1.cell? ⟨g, 1, none⟩ = some (.int .i64 m1) := by rw [← hW1, ← hg]; exact alloc_cell W0 [_, _, _, _, _] _ 1 _ rfl
  have k8 : W1.cell? ⟨g, 2, none⟩ = some (.string (str t)) := by rw [← hW1, ← hg]; exact alloc_cell W0 [_, _, _, _, _] _ 2 _ rfl
  have k9 : W1.cell? ⟨g, 3, none⟩ = some (.int .i64 m3) := by rw [← hW1, ← hg]; exact alloc_cell W0 [_, _, _, _, _] _ 3 _ rfl
  have k10 : W1.cell? ⟨g, 4, none⟩ = some (.slice av N cv) := by rw [← hW1, ← hg]; exact alloc_cell W0 [_, _, _, _, _] _ 4 _ rfl
  have HKP := Lib.hid (fun (W : World) (hb : Below W1.heap.size W1 W) => (⟨kept_cell hb k0, kept_cell hb k1, kept_cell hb k2, kept_cell hb k3, kept_cell hb k4, kept_cell hb k5, kept_cell hb k6, kept_cell hb k7, kept_cell hb k8, kept_cell hb k9, kept_cell hb k10, hB.trans (hb.mono hB.size)⟩ : (W.cell? ⟨h, 0, none⟩ = some (Value.int .i64 n0) ∧ W.cell? ⟨h, 1, none⟩ = some (Value.int .i64 n1) ∧ W.cell? ⟨h, 2, none⟩ = some (Value.string (str s)) ∧ W.cell? ⟨h, 3, none⟩ = some (Value.int .i64 n3) ∧ W.cell? ⟨h, 4, none⟩ = some (u) ∧ W.cell? ⟨h, 5, none⟩ = some (Value.int .i64 n5) ∧ W.cell? ⟨g, 0, none⟩ = some (Value.int .i64 m0) ∧ W.cell? ⟨g, 1, none⟩ = some (Value.int .i64 m1) ∧ W.cell? ⟨g, 2, none⟩ = some (Value.string (str t)) ∧ W.cell? ⟨g, 3, none⟩ = some (Value.int .i64 m3) ∧ W.cell? ⟨g, 4, none⟩ = some (Value.slice av N cv) ∧ Below w.heap.size w W)))
  clear hB0 hB1 hu hv hwc hwr hw5 hv5
  have h1 := Below.refl W1.heap.size W1
  go_enter Try.func3, Try.ntmps3
  go_wp2_with fail
  refine (P1 _ hB).mono ?_
  rintro _ w2 ⟨rfl, hb2⟩
  have h2 := h1.trans (hb2.mono h1.size)
  clear hb2 h1 hW0 hW1 k0 k1 k2 k3 k4 k5 k6 k7 k8 k9 k10
  obtain ⟨k0, k1, k2, k3, k4, k5, k6, k7, k8, k9, k10, hB⟩ := HKP.out _ h2
  go_wp2_with fail
  refine (P2 _ hB).mono ?_
  rintro _ w3 ⟨rfl, hb3⟩
  have h3 := h2.trans (hb3.mono h2.size)
  clear hb3 h2 k0 k1 k2 k3 k4 k5 k6 k7 k8 k9 k10 hB
  obtain ⟨k0, k1, k2, k3, k4, k5, k6, k7, k8, k9, k10, hB⟩ := HKP.out _ h3
  go_wp2_with fail
  refine (P3 _ hB).mono ?_
  rintro _ w4 ⟨rfl, hb4⟩
  have h4 := h3.trans (hb4.mono h3.size)
  clear hb4 h3 k0 k1 k2 k3 k4 k5 k6 k7 k8 k9 k10 hB
  obtain ⟨k0, k1, k2, k3, k4, k5, k6, k7, k8, k9, k10, hB⟩ := HKP.out _ h4
  go_wp2_with fail
  refine (PL _ hB).mono ?_
  rintro _ w5 ⟨⟨b, rfl⟩, hb5⟩
  have h5 := h4.trans (hb5.mono h4.size)
  clear hb5 h4 k0 k1 k2 k3 k4 k5 k6 k7 k8 k9 k10 hB
  obtain ⟨k0, k1, k2, k3, k4, k5, k6, k7, k8, k9, k10, hB⟩ := HKP.out _ h5
  cases b with
  | false =>
    go_wp2_with fail
    refine (A _).mono ?_
    rintro _ w6 ⟨rfl, hb6⟩
    go_wp2_with fail
    go_ret
    exact ⟨rfl, hB.trans (hb6.mono hB.size)⟩
  | true =>
    by_cases h50 : 50 < N
    · have i50 : (50 : Int) < (N : Int) := by omega
      go_wp2_with fail
      refine (A _).mono ?_
      rintro _ w6 ⟨rfl, hb6⟩
      go_wp2_with fail
      go_ret
      exact ⟨rfl, hB.trans (hb6.mono hB.size)⟩
    · have i50 : ¬ (50 : Int) < (N : Int) := by omega
      have R4' := R4 (by omega)
      have R6' := R6 (by omega)
      have hS0 : (w5.drew.cell? ⟨h, 0, none⟩ = some (Value.int .i64 n0) ∧ w5.drew.cell? ⟨h, 1, none⟩ = some (Value.int .i64 n1) ∧ w5.drew.cell? ⟨h, 2, none⟩ = some (Value.string (str s)) ∧ w5.drew.cell? ⟨h, 3, none⟩ = some (Value.int .i64 n3) ∧ w5.drew.cell? ⟨h, 4, none⟩ = some (u) ∧ w5.drew.cell? ⟨h, 5, none⟩ = some (Value.int .i64 n5) ∧ w5.drew.cell? ⟨g, 0, none⟩ = some (Value.int .i64 m0) ∧ w5.drew.cell? ⟨g, 1, none⟩ = some (Value.int .i64 m1) ∧ w5.drew.cell? ⟨g, 2, none⟩ = some (Value.string (str t)) ∧ w5.drew.cell? ⟨g, 3, none⟩ = some (Value.int .i64 m3) ∧ w5.drew.cell? ⟨g, 4, none⟩ = some (Value.slice av N cv) ∧ Below w.heap.size w w5.drew) := ⟨k0, k1, k2, k3, k4, k5, k6, k7, k8, k9, k10, hB.drew⟩
      have GA := Lib.hid (fun (W : World) (hS : (W.cell? ⟨h, 0, none⟩ = some (Value.int .i64 n0) ∧ W.cell? ⟨h, 1, none⟩ = some (Value.int .i64 n1) ∧ W.cell? ⟨h, 2, none⟩ = some (Value.string (str s)) ∧ W.cell? ⟨h, 3, none⟩ = some (Value.int .i64 n3) ∧ W.cell? ⟨h, 4, none⟩ = some (u) ∧ W.cell? ⟨h, 5, none⟩ = some (Value.int .i64 n5) ∧ W.cell? ⟨g, 0, none⟩ = some (Value.int .i64 m0) ∧ W.cell? ⟨g, 1, none⟩ = some (Value.int .i64 m1) ∧ W.cell? ⟨g, 2, none⟩ = some (Value.string (str t)) ∧ W.cell? ⟨g, 3, none⟩ = some (Value.int .i64 m3) ∧ W.cell? ⟨g, 4, none⟩ = some (Value.slice av N cv) ∧ Below w.heap.size w W)) => (A W).mono (fun e (w' : World) ⟨h1, h2⟩ => (⟨h1, kept_cell h2 hS.1, kept_cell h2 hS.2.1, kept_cell h2 hS.2.2.1, kept_cell h2 hS.2.2.2.1, kept_cell h2 hS.2.2.2.2.1, kept_cell h2 hS.2.2.2.2.2.1, kept_cell h2 hS.2.2.2.2.2.2.1, kept_cell h2 hS.2.2.2.2.2.2.2.1, kept_cell h2 hS.2.2.2.2.2.2.2.2.1, kept_cell h2 hS.2.2.2.2.2.2.2.2.2.1, kept_cell h2 hS.2.2.2.2.2.2.2.2.2.2.1, hS.2.2.2.2.2.2.2.2.2.2.2.trans (h2.mono hS.2.2.2.2.2.2.2.2.2.2.2.size)⟩ : e = Ending.returned (Value.bool true) ∧ (w'.cell? ⟨h, 0, none⟩ = some (Value.int .i64 n0) ∧ w'.cell? ⟨h, 1, none⟩ = some (Value.int .i64 n1) ∧ w'.cell? ⟨h, 2, none⟩ = some (Value.string (str s)) ∧ w'.cell? ⟨h, 3, none⟩ = some (Value.int .i64 n3) ∧ w'.cell? ⟨h, 4, none⟩ = some (u) ∧ w'.cell? ⟨h, 5, none⟩ = some (Value.int .i64 n5) ∧ w'.cell? ⟨g, 0, none⟩ = some (Value.int .i64 m0) ∧ w'.cell? ⟨g, 1, none⟩ = some (Value.int .i64 m1) ∧ w'.cell? ⟨g, 2, none⟩ = some (Value.string (str t)) ∧ w'.cell? ⟨g, 3, none⟩ = some (Value.int .i64 m3) ∧ w'.cell? ⟨g, 4, none⟩ = some (Value.slice av N cv) ∧ Below w.heap.size w w'))))
      have G1 := Lib.hid (fun (W : World) (hS : (W.cell? ⟨h, 0, none⟩ = some (Value.int .i64 n0) ∧ W.cell? ⟨h, 1, none⟩ = some (Value.int .i64 n1) ∧ W.cell? ⟨h, 2, none⟩ = some (Value.string (str s)) ∧ W.cell? ⟨h, 3, none⟩ = some (Value.int .i64 n3) ∧ W.cell? ⟨h, 4, none⟩ = some (u) ∧ W.cell? ⟨h, 5, none⟩ = some (Value.int .i64 n5) ∧ W.cell? ⟨g, 0, none⟩ = some (Value.int .i64 m0) ∧ W.cell? ⟨g, 1, none⟩ = some (Value.int .i64 m1) ∧ W.cell? ⟨g, 2, none⟩ = some (Value.string (str t)) ∧ W.cell? ⟨g, 3, none⟩ = some (Value.int .i64 m3) ∧ W.cell? ⟨g, 4, none⟩ = some (Value.slice av N cv) ∧ Below w.heap.size w W)) => (R1 W hS.2.2.2.2.2.2.2.2.2.2.2).mono (fun e (w' : World) ⟨h1, h2⟩ => (⟨h1, kept_cell h2 hS.1, kept_cell h2 hS.2.1, kept_cell h2 hS.2.2.1, kept_cell h2 hS.2.2.2.1, kept_cell h2 hS.2.2.2.2.1, kept_cell h2 hS.2.2.2.2.2.1, kept_cell h2 hS.2.2.2.2.2.2.1, kept_cell h2 hS.2.2.2.2.2.2.2.1, kept_cell h2 hS.2.2.2.2.2.2.2.2.1, kept_cell h2 hS.2.2.2.2.2.2.2.2.2.1, kept_cell h2 hS.2.2.2.2.2.2.2.2.2.2.1, hS.2.2.2.2.2.2.2.2.2.2.2.trans (h2.mono hS.2.2.2.2.2.2.2.2.2.2.2.size)⟩ : e = Ending.returned (Value.bool b1) ∧ (w'.cell? ⟨h, 0, none⟩ = some (Value.int .i64 n0) ∧ w'.cell? ⟨h, 1, none⟩ = some (Value.int .i64 n1) ∧ w'.cell? ⟨h, 2, none⟩ = some (Value.string (str s)) ∧ w'.cell? ⟨h, 3, none⟩ = some (Value.int .i64 n3) ∧ w'.cell? ⟨h, 4, none⟩ = some (u) ∧ w'.cell? ⟨h, 5, none⟩ = some (Value.int .i64 n5) ∧ w'.cell? ⟨g, 0, none⟩ = some (Value.int .i64 m0) ∧ w'.cell? ⟨g, 1, none⟩ = some (Value.int .i64 m1) ∧ w'.cell? ⟨g, 2, none⟩ = some (Value.string (str t)) ∧ w'.cell? ⟨g, 3, none⟩ = some (Value.int .i64 m3) ∧ w'.cell? ⟨g, 4, none⟩ = some (Value.slice av N cv) ∧ Below w.heap.size w w'))))
      have G2 := Lib.hid (fun (W : World) (hS : (W.cell? ⟨h, 0, none⟩ = some (Value.int .i64 n0) ∧ W.cell? ⟨h, 1, none⟩ = some (Value.int .i64 n1) ∧ W.cell? ⟨h, 2, none⟩ = some (Value.string (str s)) ∧ W.cell? ⟨h, 3, none⟩ = some (Value.int .i64 n3) ∧ W.cell? ⟨h, 4, none⟩ = some (u) ∧ W.cell? ⟨h, 5, none⟩ = some (Value.int .i64 n5) ∧ W.cell? ⟨g, 0, none⟩ = some (Value.int .i64 m0) ∧ W.cell? ⟨g, 1, none⟩ = some (Value.int .i64 m1) ∧ W.cell? ⟨g, 2, none⟩ = some (Value.string (str t)) ∧ W.cell? ⟨g, 3, none⟩ = some (Value.int .i64 m3) ∧ W.cell? ⟨g, 4, none⟩ = some (Value.slice av N cv) ∧ Below w.heap.size w W)) => (R2 W hS.2.2.2.2.2.2.2.2.2.2.2).mono (fun e (w' : World) ⟨h1, h2⟩ => (⟨h1, kept_cell h2 hS.1, kept_cell h2 hS.2.1, kept_cell h2 hS.2.2.1, kept_cell h2 hS.2.2.2.1, kept_cell h2 hS.2.2.2.2.1, kept_cell h2 hS.2.2.2.2.2.1, kept_cell h2 hS.2.2.2.2.2.2.1, kept_cell h2 hS.2.2.2.2.2.2.2.1, kept_cell h2 hS.2.2.2.2.2.2.2.2.1, kept_cell h2 hS.2.2.2.2.2.2.2.2.2.1, kept_cell h2 hS.2.2.2.2.2.2.2.2.2.2.1, hS.2.2.2.2.2.2.2.2.2.2.2.trans (h2.mono hS.2.2.2.2.2.2.2.2.2.2.2.size)⟩ : e = Ending.returned (Value.string (str t1)) ∧ (w'.cell? ⟨h, 0, none⟩ = some (Value.int .i64 n0) ∧ w'.cell? ⟨h, 1, none⟩ = some (Value.int .i64 n1) ∧ w'.cell? ⟨h, 2, none⟩ = some (Value.string (str s)) ∧ w'.cell? ⟨h, 3, none⟩ = some (Value.int .i64 n3) ∧ w'.cell? ⟨h, 4, none⟩ = some (u) ∧ w'.cell? ⟨h, 5, none⟩ = some (Value.int .i64 n5) ∧ w'.cell? ⟨g, 0, none⟩ = some (Value.int .i64 m0) ∧ w'.cell? ⟨g, 1, none⟩ = some (Value.int .i64 m1) ∧ w'.cell? ⟨g, 2, none⟩ = some (Value.string (str t)) ∧ w'.cell? ⟨g, 3, none⟩ = some (Value.int .i64 m3) ∧ w'.cell? ⟨g, 4, none⟩ = some (Value.slice av N cv) ∧ Below w.heap.size w w'))))
      have G3 := Lib.hid (fun (W : World) (hS : (W.cell? ⟨h, 0, none⟩ = some (Value.int .i64 n0) ∧ W.cell? ⟨h, 1, none⟩ = some (Value.int .i64 n1) ∧ W.cell? ⟨h, 2, none⟩ = some (Value.string (str s)) ∧ W.cell? ⟨h, 3, none⟩ = some (Value.int .i64 n3) ∧ W.cell? ⟨h, 4, none⟩ = some (u) ∧ W.cell? ⟨h, 5, none⟩ = some (Value.int .i64 n5) ∧ W.cell? ⟨g, 0, none⟩ = some (Value.int .i64 m0) ∧ W.cell? ⟨g, 1, none⟩ = some (Value.int .i64 m1) ∧ W.cell? ⟨g, 2, none⟩ = some (Value.string (str t)) ∧ W.cell? ⟨g, 3, none⟩ = some (Value.int .i64 m3) ∧ W.cell? ⟨g, 4, none⟩ = some (Value.slice av N cv) ∧ Below w.heap.size w W)) => (R3 W hS.2.2.2.2.2.2.2.2.2.2.2).mono (fun e (w' : World) ⟨h1, h2⟩ => (⟨h1, kept_cell h2 hS.1, kept_cell h2 hS.2.1, kept_cell h2 hS.2.2.1, kept_cell h2 hS.2.2.2.1, kept_cell h2 hS.2.2.2.2.1, kept_cell h2 hS.2.2.2.2.2.1, kept_cell h2 hS.2.2.2.2.2.2.1, kept_cell h2 hS.2.2.2.2.2.2.2.1, kept_cell h2 hS.2.2.2.2.2.2.2.2.1, kept_cell h2 hS.2.2.2.2.2.2.2.2.2.1, kept_cell h2 hS.2.2.2.2.2.2.2.2.2.2.1, hS.2.2.2.2.2.2.2.2.2.2.2.trans (h2.mono hS.2.2.2.2.2.2.2.2.2.2.2.size)⟩ : e = Ending.returned (Value.bool b2) ∧ (w'.cell? ⟨h, 0, none⟩ = some (Value.int .i64 n0) ∧ w'.cell? ⟨h, 1, none⟩ = some (Value.int .i64 n1) ∧ w'.cell? ⟨h, 2, none⟩ = some (Value.string (str s)) ∧ w'.cell? ⟨h, 3, none⟩ = some (Value.int .i64 n3) ∧ w'.cell? ⟨h, 4, none⟩ = some (u) ∧ w'.cell? ⟨h, 5, none⟩ = some (Value.int .i64 n5) ∧ w'.cell? ⟨g, 0, none⟩ = some (Value.int .i64 m0) ∧ w'.cell? ⟨g, 1, none⟩ = some (Value.int .i64 m1) ∧ w'.cell? ⟨g, 2, none⟩ = some (Value.string (str t)) ∧ w'.cell? ⟨g, 3, none⟩ = some (Value.int .i64 m3) ∧ w'.cell? ⟨g, 4, none⟩ = some (Value.slice av N cv) ∧ Below w.heap.size w w'))))
      have G4 := Lib.hid (fun (W : World) (hS : (W.cell? ⟨h, 0, none⟩ = some (Value.int .i64 n0) ∧ W.cell? ⟨h, 1, none⟩ = some (Value.int .i64 n1) ∧ W.cell? ⟨h, 2, none⟩ = some (Value.string (str s)) ∧ W.cell? ⟨h, 3, none⟩ = some (Value.int .i64 n3) ∧ W.cell? ⟨h, 4, none⟩ = some (u) ∧ W.cell? ⟨h, 5, none⟩ = some (Value.int .i64 n5) ∧ W.cell? ⟨g, 0, none⟩ = some (Value.int .i64 m0) ∧ W.cell? ⟨g, 1, none⟩ = some (Value.int .i64 m1) ∧ W.cell? ⟨g, 2, none⟩ = some (Value.string (str t)) ∧ W.cell? ⟨g, 3, none⟩ = some (Value.int .i64 m3) ∧ W.cell? ⟨g, 4, none⟩ = some (Value.slice av N cv) ∧ Below w.heap.size w W)) => (R4' W hS.2.2.2.2.2.2.2.2.2.2.2).mono (fun e (w' : World) ⟨h1, h2⟩ => (⟨h1, kept_cell h2 hS.1, kept_cell h2 hS.2.1, kept_cell h2 hS.2.2.1, kept_cell h2 hS.2.2.2.1, kept_cell h2 hS.2.2.2.2.1, kept_cell h2 hS.2.2.2.2.2.1, kept_cell h2 hS.2.2.2.2.2.2.1, kept_cell h2 hS.2.2.2.2.2.2.2.1, kept_cell h2 hS.2.2.2.2.2.2.2.2.1, kept_cell h2 hS.2.2.2.2.2.2.2.2.2.1, kept_cell h2 hS.2.2.2.2.2.2.2.2.2.2.1, hS.2.2.2.2.2.2.2.2.2.2.2.trans (h2.mono hS.2.2.2.2.2.2.2.2.2.2.2.size)⟩ : e = Ending.returned (Value.string (str t2)) ∧ (w'.cell? ⟨h, 0, none⟩ = some (Value.int .i64 n0) ∧ w'.cell? ⟨h, 1, none⟩ = some (Value.int .i64 n1) ∧ w'.cell? ⟨h, 2, none⟩ = some (Value.string (str s)) ∧ w'.cell? ⟨h, 3, none⟩ = some (Value.int .i64 n3) ∧ w'.cell? ⟨h, 4, none⟩ = some (u) ∧ w'.cell? ⟨h, 5, none⟩ = some (Value.int .i64 n5) ∧ w'.cell? ⟨g, 0, none⟩ = some (Value.int .i64 m0) ∧ w'.cell? ⟨g, 1, none⟩ = some (Value.int .i64 m1) ∧ w'.cell? ⟨g, 2, none⟩ = some (Value.string (str t)) ∧ w'.cell? ⟨g, 3, none⟩ = some (Value.int .i64 m3) ∧ w'.cell? ⟨g, 4, none⟩ = some (Value.slice av N cv) ∧ Below w.heap.size w w'))))
      have G6 := Lib.hid (fun (W : World) (hS : (W.cell? ⟨h, 0, none⟩ = some (Value.int .i64 n0) ∧ W.cell? ⟨h, 1, none⟩ = some (Value.int .i64 n1) ∧ W.cell? ⟨h, 2, none⟩ = some (Value.string (str s)) ∧ W.cell? ⟨h, 3, none⟩ = some (Value.int .i64 n3) ∧ W.cell? ⟨h, 4, none⟩ = some (u) ∧ W.cell? ⟨h, 5, none⟩ = some (Value.int .i64 n5) ∧ W.cell? ⟨g, 0, none⟩ = some (Value.int .i64 m0) ∧ W.cell? ⟨g, 1, none⟩ = some (Value.int .i64 m1) ∧ W.cell? ⟨g, 2, none⟩ = some (Value.string (str t)) ∧ W.cell? ⟨g, 3, none⟩ = some (Value.int .i64 m3) ∧ W.cell? ⟨g, 4, none⟩ = some (Value.slice av N cv) ∧ Below w.heap.size w W)) => (R6' W hS.2.2.2.2.2.2.2.2.2.2.2).mono (fun e (w' : World) ⟨h1, h2⟩ => (⟨h1, kept_cell h2 hS.1, kept_cell h2 hS.2.1, kept_cell h2 hS.2.2.1, kept_cell h2 hS.2.2.2.1, kept_cell h2 hS.2.2.2.2.1, kept_cell h2 hS.2.2.2.2.2.1, kept_cell h2 hS.2.2.2.2.2.2.1, kept_cell h2 hS.2.2.2.2.2.2.2.1, kept_cell h2 hS.2.2.2.2.2.2.2.2.1, kept_cell h2 hS.2.2.2.2.2.2.2.2.2.1, kept_cell h2 hS.2.2.2.2.2.2.2.2.2.2.1, hS.2.2.2.2.2.2.2.2.2.2.2.trans (h2.mono hS.2.2.2.2.2.2.2.2.2.2.2.size)⟩ : e = Ending.returned (Value.string (str t3)) ∧ (w'.cell? ⟨h, 0, none⟩ = some (Value.int .i64 n0) ∧ w'.cell? ⟨h, 1, none⟩ = some (Value.int .i64 n1) ∧ w'.cell? ⟨h, 2, none⟩ = some (Value.string (str s)) ∧ w'.cell? ⟨h, 3, none⟩ = some (Value.int .i64 n3) ∧ w'.cell? ⟨h, 4, none⟩ = some (u) ∧ w'.cell? ⟨h, 5, none⟩ = some (Value.int .i64 n5) ∧ w'.cell? ⟨g, 0, none⟩ = some (Value.int .i64 m0) ∧ w'.cell? ⟨g, 1, none⟩ = some (Value.int .i64 m1) ∧ w'.cell? ⟨g, 2, none⟩ = some (Value.string (str t)) ∧ w'.cell? ⟨g, 3, none⟩ = some (Value.int .i64 m3) ∧ w'.cell? ⟨g, 4, none⟩ = some (Value.slice av N cv) ∧ Below w.heap.size w w'))))
      have G5 := Lib.hid (fun (W : World) (hS : (W.cell? ⟨h, 0, none⟩ = some (Value.int .i64 n0) ∧ W.cell? ⟨h, 1, none⟩ = some (Value.int .i64 n1) ∧ W.cell? ⟨h, 2, none⟩ = some (Value.string (str s)) ∧ W.cell? ⟨h, 3, none⟩ = some (Value.int .i64 n3) ∧ W.cell? ⟨h, 4, none⟩ = some (u) ∧ W.cell? ⟨h, 5, none⟩ = some (Value.int .i64 n5) ∧ W.cell? ⟨g, 0, none⟩ = some (Value.int .i64 m0) ∧ W.cell? ⟨g, 1, none⟩ = some (Value.int .i64 m1) ∧ W.cell? ⟨g, 2, none⟩ = some (Value.string (str t)) ∧ W.cell? ⟨g, 3, none⟩ = some (Value.int .i64 m3) ∧ W.cell? ⟨g, 4, none⟩ = some (Value.slice av N cv) ∧ Below w.heap.size w W)) => (R5 W hS.2.2.2.2.2.2.2.2.2.2.2).mono (fun e (w' : World) ⟨h1, h2⟩ => (⟨h1, h2 ▸ hS⟩ : e = Ending.returned (Value.bool b3) ∧ (w'.cell? ⟨h, 0, none⟩ = some (Value.int .i64 n0) ∧ w'.cell? ⟨h, 1, none⟩ = some (Value.int .i64 n1) ∧ w'.cell? ⟨h, 2, none⟩ = some (Value.string (str s)) ∧ w'.cell? ⟨h, 3, none⟩ = some (Value.int .i64 n3) ∧ w'.cell? ⟨h, 4, none⟩ = some (u) ∧ w'.cell? ⟨h, 5, none⟩ = some (Value.int .i64 n5) ∧ w'.cell? ⟨g, 0, none⟩ = some (Value.int .i64 m0) ∧ w'.cell? ⟨g, 1, none⟩ = some (Value.int .i64 m1) ∧ w'.cell? ⟨g, 2, none⟩ = some (Value.string (str t)) ∧ w'.cell? ⟨g, 3, none⟩ = some (Value.int .i64 m3) ∧ w'.cell? ⟨g, 4, none⟩ = some (Value.slice av N cv) ∧ Below w.heap.size w w'))))
      have GD1 := Lib.hid (fun (W : World) (hS : (W.cell? ⟨h, 0, none⟩ = some (Value.int .i64 n0) ∧ W.cell? ⟨h, 1, none⟩ = some (Value.int .i64 n1) ∧ W.cell? ⟨h, 2, none⟩ = some (Value.string (str s)) ∧ W.cell? ⟨h, 3, none⟩ = some (Value.int .i64 n3) ∧ W.cell? ⟨h, 4, none⟩ = some (u) ∧ W.cell? ⟨h, 5, none⟩ = some (Value.int .i64 n5) ∧ W.cell? ⟨g, 0, none⟩ = some (Value.int .i64 m0) ∧ W.cell? ⟨g, 1, none⟩ = some (Value.int .i64 m1) ∧ W.cell? ⟨g, 2, none⟩ = some (Value.string (str t)) ∧ W.cell? ⟨g, 3, none⟩ = some (Value.int .i64 m3) ∧ W.cell? ⟨g, 4, none⟩ = some (Value.slice av N cv) ∧ Below w.heap.size w W)) => (D1 W).mono (fun e (w' : World) ⟨h1, h2⟩ => (⟨h1, h2 ▸ hS⟩ : e = Ending.returned (Value.bool true) ∧ (w'.cell? ⟨h, 0, none⟩ = some (Value.int .i64 n0) ∧ w'.cell? ⟨h, 1, none⟩ = some (Value.int .i64 n1) ∧ w'.cell? ⟨h, 2, none⟩ = some (Value.string (str s)) ∧ w'.cell? ⟨h, 3, none⟩ = some (Value.int .i64 n3) ∧ w'.cell? ⟨h, 4, none⟩ = some (u) ∧ w'.cell? ⟨h, 5, none⟩ = some (Value.int .i64 n5) ∧ w'.cell? ⟨g, 0, none⟩ = some (Value.int .i64 m0) ∧ w'.cell? ⟨g, 1, none⟩ = some (Value.int .i64 m1) ∧ w'.cell? ⟨g, 2, none⟩ = some (Value.string (str t)) ∧ w'.cell? ⟨g, 3, none⟩ = some (Value.int .i64 m3) ∧ w'.cell? ⟨g, 4, none⟩ = some (Value.slice av N cv) ∧ Below w.heap.size w w'))))
      have GD2 := Lib.hid (fun (W : World) (hS : (W.cell? ⟨h, 0, none⟩ = some (Value.int .i64 n0) ∧ W.cell? ⟨h, 1, none⟩ = some (Value.int .i64 n1) ∧ W.cell? ⟨h, 2, none⟩ = some (Value.string (str s)) ∧ W.cell? ⟨h, 3, none⟩ = some (Value.int .i64 n3) ∧ W.cell? ⟨h, 4, none⟩ = some (u) ∧ W.cell? ⟨h, 5, none⟩ = some (Value.int .i64 n5) ∧ W.cell? ⟨g, 0, none⟩ = some (Value.int .i64 m0) ∧ W.cell? ⟨g, 1, none⟩ = some (Value.int .i64 m1) ∧ W.cell? ⟨g, 2, none⟩ = some (Value.string (str t)) ∧ W.cell? ⟨g, 3, none⟩ = some (Value.int .i64 m3) ∧ W.cell? ⟨g, 4, none⟩ = some (Value.slice av N cv) ∧ Below w.heap.size w W)) => (D2 W).mono (fun e (w' : World) ⟨h1, h2⟩ => (⟨h1, h2 ▸ hS⟩ : e = Ending.returned (Value.bool true) ∧ (w'.cell? ⟨h, 0, none⟩ = some (Value.int .i64 n0) ∧ w'.cell? ⟨h, 1, none⟩ = some (Value.int .i64 n1) ∧ w'.cell? ⟨h, 2, none⟩ = some (Value.string (str s)) ∧ w'.cell? ⟨h, 3, none⟩ = some (Value.int .i64 n3) ∧ w'.cell? ⟨h, 4, none⟩ = some (u) ∧ w'.cell? ⟨h, 5, none⟩ = some (Value.int .i64 n5) ∧ w'.cell? ⟨g, 0, none⟩ = some (Value.int .i64 m0) ∧ w'.cell? ⟨g, 1, none⟩ = some (Value.int .i64 m1) ∧ w'.cell? ⟨g, 2, none⟩ = some (Value.string (str t)) ∧ w'.cell? ⟨g, 3, none⟩ = some (Value.int .i64 m3) ∧ w'.cell? ⟨g, 4, none⟩ = some (Value.slice av N cv) ∧ Below w.heap.size w w'))))
      have GD3 := Lib.hid (fun (W : World) (hS : (W.cell? ⟨h, 0, none⟩ = some (Value.int .i64 n0) ∧ W.cell? ⟨h, 1, none⟩ = some (Value.int .i64 n1) ∧ W.cell? ⟨h, 2, none⟩ = some (Value.string (str s)) ∧ W.cell? ⟨h, 3, none⟩ = some (Value.int .i64 n3) ∧ W.cell? ⟨h, 4, none⟩ = some (u) ∧ W.cell? ⟨h, 5, none⟩ = some (Value.int .i64 n5) ∧ W.cell? ⟨g, 0, none⟩ = some (Value.int .i64 m0) ∧ W.cell? ⟨g, 1, none⟩ = some (Value.int .i64 m1) ∧ W.cell? ⟨g, 2, none⟩ = some (Value.string (str t)) ∧ W.cell? ⟨g, 3, none⟩ = some (Value.int .i64 m3) ∧ W.cell? ⟨g, 4, none⟩ = some (Value.slice av N cv) ∧ Below w.heap.size w W)) => (D3 W).mono (fun e (w' : World) ⟨h1, h2⟩ => (⟨h1, h2 ▸ hS⟩ : e = Ending.returned (Value.bool true) ∧ (w'.cell? ⟨h, 0, none⟩ = some (Value.int .i64 n0) ∧ w'.cell? ⟨h, 1, none⟩ = some (Value.int .i64 n1) ∧ w'.cell? ⟨h, 2, none⟩ = some (Value.string (str s)) ∧ w'.cell? ⟨h, 3, none⟩ = some (Value.int .i64 n3) ∧ w'.cell? ⟨h, 4, none⟩ = some (u) ∧ w'.cell? ⟨h, 5, none⟩ = some (Value.int .i64 n5) ∧ w'.cell? ⟨g, 0, none⟩ = some (Value.int .i64 m0) ∧ w'.cell? ⟨g, 1, none⟩ = some (Value.int .i64 m1) ∧ w'.cell? ⟨g, 2, none⟩ = some (Value.string (str t)) ∧ w'.cell? ⟨g, 3, none⟩ = some (Value.int .i64 m3) ∧ w'.cell? ⟨g, 4, none⟩ = some (Value.slice av N cv) ∧ Below w.heap.size w w'))))
      clear P1 P2 P3 PL R1 R2 R3 R4 R5 R6 R4' R6' A D1 D2 D3 h5
      go_upto_region 6 with fail
      clear k0 k1 k2 k3 k4 k5 k6 k7 k8 k9 k10
      go_region_held3 (fun W => (W.cell? ⟨h, 0, none⟩ = some (Value.int .i64 n0) ∧ W.cell? ⟨h, 1, none⟩ = some (Value.int .i64 n1) ∧ W.cell? ⟨h, 2, none⟩ = some (Value.string (str s)) ∧ W.cell? ⟨h, 3, none⟩ = some (Value.int .i64 n3) ∧ W.cell? ⟨h, 4, none⟩ = some (u) ∧ W.cell? ⟨h, 5, none⟩ = some (Value.int .i64 n5) ∧ W.cell? ⟨g, 0, none⟩ = some (Value.int .i64 m0) ∧ W.cell? ⟨g, 1, none⟩ = some (Value.int .i64 m1) ∧ W.cell? ⟨g, 2, none⟩ = some (Value.string (str t)) ∧ W.cell? ⟨g, 3, none⟩ = some (Value.int .i64 m3) ∧ W.cell? ⟨g, 4, none⟩ = some (Value.slice av N cv) ∧ Below w.heap.size w W)) (first | exact hS0 | assumption) (first | (go_at_call 8; ((with_reducible refine (GA.out _ ?_).mono ?_); (first | exact hS0 | assumption)); rintro _ wGA ⟨rfl, hSGA⟩) | (go_at_call 10; ((with_reducible refine (G1.out _ ?_).mono ?_); (first | exact hS0 | assumption)); rintro _ wG1 ⟨rfl, hSG1⟩) | (go_at_call 11; ((with_reducible refine (G2.out _ ?_).mono ?_); (first | exact hS0 | assumption)); rintro _ wG2 ⟨rfl, hSG2⟩) | (go_at_call 12; ((with_reducible refine (G3.out _ ?_).mono ?_); (first | exact hS0 | assumption)); rintro _ wG3 ⟨rfl, hSG3⟩) | (go_at_call 13; ((with_reducible refine (G4.out _ ?_).mono ?_); (first | exact hS0 | assumption)); rintro _ wG4 ⟨rfl, hSG4⟩) | (go_at_call 15; ((with_reducible refine (G6.out _ ?_).mono ?_); (first | exact hS0 | assumption)); rintro _ wG6 ⟨rfl, hSG6⟩) | (go_at_call 14; ((with_reducible refine (G5.out _ ?_).mono ?_); (first | exact hS0 | assumption)); rintro _ wG5 ⟨rfl, hSG5⟩) | (go_at_call 9; ((with_reducible refine (GD1.out _ ?_).mono ?_); (first | exact hS0 | assumption)); rintro _ wGD1 ⟨rfl, hSGD1⟩) | (go_at_call 9; ((with_reducible refine (GD2.out _ ?_).mono ?_); (first | exact hS0 | assumption)); rintro _ wGD2 ⟨rfl, hSGD2⟩) | (go_at_call 9; ((with_reducible refine (GD3.out _ ?_).mono ?_); (first | exact hS0 | assumption)); rintro _ wGD3 ⟨rfl, hSGD3⟩))
      go_wp2_with fail
      go_ret
      exact ⟨rfl, by first | exact hSGD3.2.2.2.2.2.2.2.2.2.2.2 | assumption⟩

theorem lifted (os : Os) (started : os.Started) (H : Type) (enc : TypeId × Value → H) :
    ReturnsInHanded {} Try.checked os 3 .any (Rows.codecCmdsSpec.pre6 enc Try.prog Try.f3 Rows.codecCmdsRow.domain false) (Rows.codecCmdsSpec.post enc Try.prog Try.f3 false true false false) := by
  refine returnsInHanded_of_change_sized (C := Try.checked) own started (by kernel_rfl) Try.func3
    (ChangeSpec.witness6 (enc := enc) (C := Try.checked) false ⟨#[], #[.agg #[.int .i64 0, .int .i64 0, .string ⟨#[]⟩, .int .i64 0, .slice none 0 0, .int .i64 0], .agg #[.int .i64 0, .int .i64 0, .string ⟨#[]⟩, .int .i64 0, .slice none 0 0]], []⟩ 8 (by kernel_rfl) (by kernel_rfl) (by kernel_rfl) (by kernel_rfl)) ?_
  intro W base args ds gs before hval0 hW hcnd hsz0 _
  have hsz : (DataW.weightsEach Try.prog (Try.f3.params.toList ++ Rows.codecCmdsSpec.plain.varTypes Try.prog) (ds ++ gs)).all (· ≤ reachBytes) = true := hsz0
  clear hsz0
  have hval : ∀ (j : Nat) t v, Try.f3.params[j]? = some t → args[j]? = some v → Value.okWide Try.prog W .any base t v := hval0
  have hW' := hW
  obtain ⟨p, q, hA0, hV, rfl, hfz, hnd⟩ := hW
  have hA : DataW.TrodAll enc Try.prog W 0 (fun _ => true) true Try.f3.params.toList args.toList ds p := hA0
  rw [Try.params3] at hA hval hsz
  obtain ⟨v0, vs0, d0, ds0, p0, q0, hargs, rfl, rfl, h0, r0⟩ := trodAll_cons hA
  obtain ⟨v1, vs1, d1, ds1, p1, q1, rfl, rfl, rfl, h1, r1⟩ := trodAll_cons r0
  obtain ⟨rfl, rfl, rfl⟩ := trodAll_nil r1
  obtain rfl : args = #[v0, v1] := by cases args; simp_all
  have hb0 : Fits (P := Try.prog) 24 d0 := fun m hm => by
    have h := List.all_eq_true.1 hsz m (DataW.weights_mem_each (j := 0) (t := 24) rfl rfl m hm)
    simpa using h
  obtain ⟨cs0, rfl, hcs0⟩ := okWide_struct Try.underlying24 (hval 0 24 v0 rfl rfl)
  obtain ⟨fuel0, hf0⟩ := h0
  obtain ⟨c0, u0, hc0, hu0, hw0⟩ := cm_el (show DataW.trod enc Try.prog W 0 (fun _ => true) true fuel0 24 cs0.toList = some (d0, p0) from hf0) hb0
  obtain ⟨ls0⟩ := cs0
  obtain rfl : ls0 = _ := hc0
  have hb1 : Fits (P := Try.prog) 27 d1 := fun m hm => by
    have h := List.all_eq_true.1 hsz m (DataW.weights_mem_each (j := 1) (t := 27) rfl rfl m hm)
    simpa using h
  obtain ⟨cs1, rfl, hcs1⟩ := okWide_struct Try.underlying27 (hval 1 27 v1 rfl rfl)
  obtain ⟨fuel1, hf1⟩ := h1
  obtain ⟨c1, u1, hc1, hu1, hw1⟩ := rc_el (show DataW.trod enc Try.prog W 0 (fun _ => true) true fuel1 27 cs1.toList = some (d1, p1) from hf1) hb1
  obtain ⟨ls1⟩ := cs1
  obtain rfl : ls1 = _ := hc1
  have hw := walk low cod c0 c1 u0 u1 W hu0 hw0 hu1 hw1
  refine hw.mono fun e W' ⟨he, hb⟩ => ?_
  subst he
  exact ⟨_, rfl, post_law hW' hb laidOut rfl rfl rfl Try.underlying4 (by rw [Try.params3]; decide +kernel)⟩

theorem over : Rows.codecCmdsRow.holds Try.pinned (OpenSpec.ofChange Rows.codecCmdsSpec) :=
  OpenClaim.holds_of_wide 3 Try.f3 rfl rfl rfl rfl rfl rfl rfl ⟨rfl, rfl, rfl, rfl, rfl⟩ rfl rfl rfl rfl rfl (by kernel_rfl) Try.func3 (by kernel_rfl)
    (of_decide_eq_true (by kernel_rfl)) (by unfold Func.isWrapper; first | (rw [if_pos (by decide +kernel)]; kernel_rfl) | (rw [if_neg (by decide +kernel)]; exact ⟨rfl, rfl⟩))
    (fun os started H enc _ => lifted os started H enc)

theorem proved : Rows.CodecCmdsSaid := over
#print axioms proved
end Go.Proofs.Ytebglkpejdoggaa.codecCmds
