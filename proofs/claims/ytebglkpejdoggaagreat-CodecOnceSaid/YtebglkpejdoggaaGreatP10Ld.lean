/-
  Layer 10, the program: commands and records laid.
-/
import Derived.Test.YtebglkpejdoggaaGreatP10Lc
namespace Go.Proofs.YtebglkpejdoggaaGreat.C10
open Go Go.RowKit Go.Proofs Go.Proofs.YtebglkpejdoggaaGreat.B Go.Proofs.YtebglkpejdoggaaGreat.K Go.Proofs.YtebglkpejdoggaaGreat.P8
set_option linter.unusedVariables false
set_option maxRecDepth 100000

theorem layCmd_eq (c : Cm) : layCmd c = layHd c.client c.seq c.stream ++ num c.rule ++ listL c.args ++ num c.expect := by
  unfold layCmd layHd numsL
  simp
theorem layRec_eq (c : Rc) : layRec c = layHd c.client c.seq c.stream ++ num c.code ++ layEvs c.events := by
  unfold layRec layHd numsL
  simp

set_option maxHeartbeats 4000000 in
theorem layCmdP_any (c : Cm) (u : Value) (w : World) (hu : SlN w u c.args) (h : CmWf c) (hs : c.stream.length ≤ 4096) (hl : c.args.length ≤ 256) :
    Calls Tryz.prog 49 #[.agg #[.int .i64 c.client, .int .i64 c.seq, .string (str c.stream), .int .i64 c.rule, u, .int .i64 c.expect]] w fun e w' => e = .returned (.string (str (layCmd c))) ∧ Below w.heap.size w w' := by
  rw [layCmd_eq]
  obtain ⟨n0, n1, t, n3, vs, n5⟩ := c
  obtain ⟨h0, h1, -, h3, ⟨h4, -⟩, h5⟩ := h
  dsimp only at h0 h1 h3 h4 h5 hs hu hl ⊢
  have l0 := layHd_len n0 n1 t h0 h1 hs
  have l1 := num_len n3 h3
  have l2 := listL_len vs ⟨h4, by omega⟩
  have l3 := num_len n5 h5
  have e1 := add_str (layHd n0 n1 t) (num n3) (by omega)
  have e2 := add_str (layHd n0 n1 t ++ num n3) (listL vs) (by rw [List.length_append]; omega)
  have e3 := add_str (layHd n0 n1 t ++ num n3 ++ listL vs) (num n5) (by rw [List.length_append, List.length_append]; omega)
  obtain ⟨au, cu, rfl, -⟩ := id hu.open
  have P0 := fun W => layHead_any n0 n1 t W h0 h1 hs
  have P1 := fun W => pnum_any n3 W h3
  have P2 := fun W (hb : Below w.heap.size w W) => layValues_any vs _ W (hu.below hb) h4 hl
  have P3 := fun W => pnum_any n5 W h5
  generalize layHd n0 n1 t = X0 at *
  generalize num n3 = X1 at *
  generalize listL vs = X2 at *
  generalize num n5 = X3 at *
  obtain ⟨L, hL⟩ : ∃ L, vs.length = L := ⟨_, rfl⟩
  rw [hL] at P2 ⊢
  generalize X0 ++ X1 = U1 at *
  generalize U1 ++ X2 = U2 at *
  generalize U2 ++ X3 = U3 at *
  clear l0 l1 l2 l3 hL hu h4
  obtain ⟨W0, hW0⟩ : ∃ W0, w.alloc (.cells #[.int .i64 n0, .int .i64 n1, .string (str t), .int .i64 n3, .slice au L cu, .int .i64 n5] 41) = W0 := ⟨_, rfl⟩
  obtain ⟨g, hg⟩ : ∃ g, w.heap.size = g := ⟨_, rfl⟩
  have hB0 : Below w.heap.size w W0 := by rw [← hW0]; exact below_alloc _ _
  have k0 : W0.cell? ⟨g, 0, none⟩ = some (.int .i64 n0) := by rw [← hW0, ← hg]; exact alloc_cell w [_, _, _, _, _, _] _ 0 _ rfl
  have k1 : W0.cell? ⟨g, 1, none⟩ = some (.int .i64 n1) := by rw [← hW0, ← hg]; exact alloc_cell w [_, _, _, _, _, _] _ 1 _ rfl
  have k2 : W0.cell? ⟨g, 2, none⟩ = some (.string (str t)) := by rw [← hW0, ← hg]; exact alloc_cell w [_, _, _, _, _, _] _ 2 _ rfl
  have k3 : W0.cell? ⟨g, 3, none⟩ = some (.int .i64 n3) := by rw [← hW0, ← hg]; exact alloc_cell w [_, _, _, _, _, _] _ 3 _ rfl
  have k4 : W0.cell? ⟨g, 4, none⟩ = some (.slice au L cu) := by rw [← hW0, ← hg]; exact alloc_cell w [_, _, _, _, _, _] _ 4 _ rfl
  have k5 : W0.cell? ⟨g, 5, none⟩ = some (.int .i64 n5) := by rw [← hW0, ← hg]; exact alloc_cell w [_, _, _, _, _, _] _ 5 _ rfl
  have G1 := Lib.hid (fun (W : World) (hS : (W.cell? ⟨g, 0, none⟩ = some (Value.int .i64 n0) ∧ W.cell? ⟨g, 1, none⟩ = some (Value.int .i64 n1) ∧ W.cell? ⟨g, 2, none⟩ = some (Value.string (str t)) ∧ W.cell? ⟨g, 3, none⟩ = some (Value.int .i64 n3) ∧ W.cell? ⟨g, 4, none⟩ = some (Value.slice au L cu) ∧ W.cell? ⟨g, 5, none⟩ = some (Value.int .i64 n5) ∧ Below w.heap.size w W)) => (show Calls Tryz.prog 93 #[.int .i64 n0, .int .i64 n1, .string (str t)] W (fun e w' => e = .returned (.string (str X0)) ∧ Below W.heap.size W w') from P0 W).mono (fun e (w2 : World) hh => (⟨hh.1, ⟨kept_cell hh.2 hS.1, kept_cell hh.2 hS.2.1, kept_cell hh.2 hS.2.2.1, kept_cell hh.2 hS.2.2.2.1, kept_cell hh.2 hS.2.2.2.2.1, kept_cell hh.2 hS.2.2.2.2.2.1, hS.2.2.2.2.2.2.trans (hh.2.mono hS.2.2.2.2.2.2.size)⟩⟩ : e = Ending.returned (Value.string (str X0)) ∧ (w2.cell? ⟨g, 0, none⟩ = some (Value.int .i64 n0) ∧ w2.cell? ⟨g, 1, none⟩ = some (Value.int .i64 n1) ∧ w2.cell? ⟨g, 2, none⟩ = some (Value.string (str t)) ∧ w2.cell? ⟨g, 3, none⟩ = some (Value.int .i64 n3) ∧ w2.cell? ⟨g, 4, none⟩ = some (Value.slice au L cu) ∧ w2.cell? ⟨g, 5, none⟩ = some (Value.int .i64 n5) ∧ Below w.heap.size w w2))))
  have G2 := Lib.hid (fun (W : World) (hS : (W.cell? ⟨g, 0, none⟩ = some (Value.int .i64 n0) ∧ W.cell? ⟨g, 1, none⟩ = some (Value.int .i64 n1) ∧ W.cell? ⟨g, 2, none⟩ = some (Value.string (str t)) ∧ W.cell? ⟨g, 3, none⟩ = some (Value.int .i64 n3) ∧ W.cell? ⟨g, 4, none⟩ = some (Value.slice au L cu) ∧ W.cell? ⟨g, 5, none⟩ = some (Value.int .i64 n5) ∧ Below w.heap.size w W)) => (show Calls Tryz.prog 83 #[.int .i64 n3] W (fun e w' => e = .returned (.string (str X1)) ∧ Below W.heap.size W w') from P1 W).mono (fun e (w2 : World) hh => (⟨hh.1, ⟨kept_cell hh.2 hS.1, kept_cell hh.2 hS.2.1, kept_cell hh.2 hS.2.2.1, kept_cell hh.2 hS.2.2.2.1, kept_cell hh.2 hS.2.2.2.2.1, kept_cell hh.2 hS.2.2.2.2.2.1, hS.2.2.2.2.2.2.trans (hh.2.mono hS.2.2.2.2.2.2.size)⟩⟩ : e = Ending.returned (Value.string (str X1)) ∧ (w2.cell? ⟨g, 0, none⟩ = some (Value.int .i64 n0) ∧ w2.cell? ⟨g, 1, none⟩ = some (Value.int .i64 n1) ∧ w2.cell? ⟨g, 2, none⟩ = some (Value.string (str t)) ∧ w2.cell? ⟨g, 3, none⟩ = some (Value.int .i64 n3) ∧ w2.cell? ⟨g, 4, none⟩ = some (Value.slice au L cu) ∧ w2.cell? ⟨g, 5, none⟩ = some (Value.int .i64 n5) ∧ Below w.heap.size w w2))))
  have G3 := Lib.hid (fun (W : World) (hS : (W.cell? ⟨g, 0, none⟩ = some (Value.int .i64 n0) ∧ W.cell? ⟨g, 1, none⟩ = some (Value.int .i64 n1) ∧ W.cell? ⟨g, 2, none⟩ = some (Value.string (str t)) ∧ W.cell? ⟨g, 3, none⟩ = some (Value.int .i64 n3) ∧ W.cell? ⟨g, 4, none⟩ = some (Value.slice au L cu) ∧ W.cell? ⟨g, 5, none⟩ = some (Value.int .i64 n5) ∧ Below w.heap.size w W)) => (show Calls Tryz.prog 94 #[.slice au L cu] W (fun e w' => e = .returned (.string (str X2)) ∧ Below W.heap.size W w') from P2 W hS.2.2.2.2.2.2).mono (fun e (w2 : World) hh => (⟨hh.1, ⟨kept_cell hh.2 hS.1, kept_cell hh.2 hS.2.1, kept_cell hh.2 hS.2.2.1, kept_cell hh.2 hS.2.2.2.1, kept_cell hh.2 hS.2.2.2.2.1, kept_cell hh.2 hS.2.2.2.2.2.1, hS.2.2.2.2.2.2.trans (hh.2.mono hS.2.2.2.2.2.2.size)⟩⟩ : e = Ending.returned (Value.string (str X2)) ∧ (w2.cell? ⟨g, 0, none⟩ = some (Value.int .i64 n0) ∧ w2.cell? ⟨g, 1, none⟩ = some (Value.int .i64 n1) ∧ w2.cell? ⟨g, 2, none⟩ = some (Value.string (str t)) ∧ w2.cell? ⟨g, 3, none⟩ = some (Value.int .i64 n3) ∧ w2.cell? ⟨g, 4, none⟩ = some (Value.slice au L cu) ∧ w2.cell? ⟨g, 5, none⟩ = some (Value.int .i64 n5) ∧ Below w.heap.size w w2))))
  have G4 := Lib.hid (fun (W : World) (hS : (W.cell? ⟨g, 0, none⟩ = some (Value.int .i64 n0) ∧ W.cell? ⟨g, 1, none⟩ = some (Value.int .i64 n1) ∧ W.cell? ⟨g, 2, none⟩ = some (Value.string (str t)) ∧ W.cell? ⟨g, 3, none⟩ = some (Value.int .i64 n3) ∧ W.cell? ⟨g, 4, none⟩ = some (Value.slice au L cu) ∧ W.cell? ⟨g, 5, none⟩ = some (Value.int .i64 n5) ∧ Below w.heap.size w W)) => (show Calls Tryz.prog 83 #[.int .i64 n5] W (fun e w' => e = .returned (.string (str X3)) ∧ Below W.heap.size W w') from P3 W).mono (fun e (w2 : World) hh => (⟨hh.1, ⟨kept_cell hh.2 hS.1, kept_cell hh.2 hS.2.1, kept_cell hh.2 hS.2.2.1, kept_cell hh.2 hS.2.2.2.1, kept_cell hh.2 hS.2.2.2.2.1, kept_cell hh.2 hS.2.2.2.2.2.1, hS.2.2.2.2.2.2.trans (hh.2.mono hS.2.2.2.2.2.2.size)⟩⟩ : e = Ending.returned (Value.string (str X3)) ∧ (w2.cell? ⟨g, 0, none⟩ = some (Value.int .i64 n0) ∧ w2.cell? ⟨g, 1, none⟩ = some (Value.int .i64 n1) ∧ w2.cell? ⟨g, 2, none⟩ = some (Value.string (str t)) ∧ w2.cell? ⟨g, 3, none⟩ = some (Value.int .i64 n3) ∧ w2.cell? ⟨g, 4, none⟩ = some (Value.slice au L cu) ∧ w2.cell? ⟨g, 5, none⟩ = some (Value.int .i64 n5) ∧ Below w.heap.size w w2))))
  have hS0 : (W0.drew.cell? ⟨g, 0, none⟩ = some (Value.int .i64 n0) ∧ W0.drew.cell? ⟨g, 1, none⟩ = some (Value.int .i64 n1) ∧ W0.drew.cell? ⟨g, 2, none⟩ = some (Value.string (str t)) ∧ W0.drew.cell? ⟨g, 3, none⟩ = some (Value.int .i64 n3) ∧ W0.drew.cell? ⟨g, 4, none⟩ = some (Value.slice au L cu) ∧ W0.drew.cell? ⟨g, 5, none⟩ = some (Value.int .i64 n5) ∧ Below w.heap.size w W0.drew) := ⟨k0, k1, k2, k3, k4, k5, hB0.drew⟩
  clear hB0 k0 k1 k2 k3 k4 k5
  go_enter Tryz.func49, Tryz.ntmps49
  go_upto_region 1 with fail
  clear hW0
  go_region_held_law (fun W => (W.cell? ⟨g, 0, none⟩ = some (Value.int .i64 n0) ∧ W.cell? ⟨g, 1, none⟩ = some (Value.int .i64 n1) ∧ W.cell? ⟨g, 2, none⟩ = some (Value.string (str t)) ∧ W.cell? ⟨g, 3, none⟩ = some (Value.int .i64 n3) ∧ W.cell? ⟨g, 4, none⟩ = some (Value.slice au L cu) ∧ W.cell? ⟨g, 5, none⟩ = some (Value.int .i64 n5) ∧ Below w.heap.size w W)) (first | exact hS0 | assumption) (first | (go_at_call 93; ((with_reducible refine (G1.out _ ?_).mono ?_); (first | exact hS0 | assumption)); rintro _ w1 ⟨rfl, hS1⟩) | (go_at_call 83; ((with_reducible refine (G2.out _ ?_).mono ?_); (first | exact hS0 | assumption)); rintro _ w2 ⟨rfl, hS2⟩) | (go_at_call 94; ((with_reducible refine (G3.out _ ?_).mono ?_); (first | exact hS0 | assumption)); rintro _ w3 ⟨rfl, hS3⟩) | (go_at_call 83; ((with_reducible refine (G4.out _ ?_).mono ?_); (first | exact hS0 | assumption)); rintro _ w4 ⟨rfl, hS4⟩))
  go_wp2_with fail
  go_ret
  exact ⟨rfl, hS4.2.2.2.2.2.2⟩

set_option maxHeartbeats 4000000 in
theorem layRecP_any (c : Rc) (u : Value) (w : World) (hu : EvsIs w u c.events) (h : RcWf c) (hs : c.stream.length ≤ 4096) (hl : c.events.length ≤ 256) (hv : ∀ x ∈ c.events, x.vars.length ≤ 256) :
    Calls Tryz.prog 55 #[.agg #[.int .i64 c.client, .int .i64 c.seq, .string (str c.stream), .int .i64 c.code, u]] w fun e w' => e = .returned (.string (str (layRec c))) ∧ Below w.heap.size w w' := by
  rw [layRec_eq]
  obtain ⟨n0, n1, t, n3, ev⟩ := c
  obtain ⟨h0, h1, -, h3, h4, -⟩ := h
  dsimp only at h0 h1 h3 h4 hs hu hl hv ⊢
  have l0 := layHd_len n0 n1 t h0 h1 hs
  have l1 := num_len n3 h3
  have l2 : (layEvs ev).length ≤ 2000000 := by
    unfold layEvs
    rw [List.length_append]
    have h5 := num_len (ev.length : Int) ⟨by omega, by omega⟩
    have h6 := flat_len layEv 3000 ev fun y hy => layEv_len8 y (h4 y hy) (hv y hy)
    omega
  have e1 := add_str (layHd n0 n1 t) (num n3) (by omega)
  have e2 := add_str (layHd n0 n1 t ++ num n3) (layEvs ev) (by rw [List.length_append]; omega)
  obtain ⟨au, cu, rfl, -⟩ := id hu.open
  have P0 := fun W => layHead_any n0 n1 t W h0 h1 hs
  have P1 := fun W => pnum_any n3 W h3
  have P2 := fun W (hb : Below w.heap.size w W) => playEvents_any ev _ W (hu.below hb) (fun x hx => ⟨h4 x hx, hv x hx⟩) hl
  generalize layHd n0 n1 t = X0 at *
  generalize num n3 = X1 at *
  generalize layEvs ev = X2 at *
  obtain ⟨L, hL⟩ : ∃ L, ev.length = L := ⟨_, rfl⟩
  rw [hL] at P2 ⊢
  generalize X0 ++ X1 = U1 at *
  generalize U1 ++ X2 = U2 at *
  clear l0 l1 l2 hL hu h4 hv
  obtain ⟨W0, hW0⟩ : ∃ W0, w.alloc (.cells #[.int .i64 n0, .int .i64 n1, .string (str t), .int .i64 n3, .slice au L cu] 44) = W0 := ⟨_, rfl⟩
  obtain ⟨g, hg⟩ : ∃ g, w.heap.size = g := ⟨_, rfl⟩
  have hB0 : Below w.heap.size w W0 := by rw [← hW0]; exact below_alloc _ _
  have k0 : W0.cell? ⟨g, 0, none⟩ = some (.int .i64 n0) := by rw [← hW0, ← hg]; exact alloc_cell w [_, _, _, _, _] _ 0 _ rfl
  have k1 : W0.cell? ⟨g, 1, none⟩ = some (.int .i64 n1) := by rw [← hW0, ← hg]; exact alloc_cell w [_, _, _, _, _] _ 1 _ rfl
  have k2 : W0.cell? ⟨g, 2, none⟩ = some (.string (str t)) := by rw [← hW0, ← hg]; exact alloc_cell w [_, _, _, _, _] _ 2 _ rfl
  have k3 : W0.cell? ⟨g, 3, none⟩ = some (.int .i64 n3) := by rw [← hW0, ← hg]; exact alloc_cell w [_, _, _, _, _] _ 3 _ rfl
  have k4 : W0.cell? ⟨g, 4, none⟩ = some (.slice au L cu) := by rw [← hW0, ← hg]; exact alloc_cell w [_, _, _, _, _] _ 4 _ rfl
  have G1 := Lib.hid (fun (W : World) (hS : (W.cell? ⟨g, 0, none⟩ = some (Value.int .i64 n0) ∧ W.cell? ⟨g, 1, none⟩ = some (Value.int .i64 n1) ∧ W.cell? ⟨g, 2, none⟩ = some (Value.string (str t)) ∧ W.cell? ⟨g, 3, none⟩ = some (Value.int .i64 n3) ∧ W.cell? ⟨g, 4, none⟩ = some (Value.slice au L cu) ∧ Below w.heap.size w W)) => (show Calls Tryz.prog 93 #[.int .i64 n0, .int .i64 n1, .string (str t)] W (fun e w' => e = .returned (.string (str X0)) ∧ Below W.heap.size W w') from P0 W).mono (fun e (w2 : World) hh => (⟨hh.1, ⟨kept_cell hh.2 hS.1, kept_cell hh.2 hS.2.1, kept_cell hh.2 hS.2.2.1, kept_cell hh.2 hS.2.2.2.1, kept_cell hh.2 hS.2.2.2.2.1, hS.2.2.2.2.2.trans (hh.2.mono hS.2.2.2.2.2.size)⟩⟩ : e = Ending.returned (Value.string (str X0)) ∧ (w2.cell? ⟨g, 0, none⟩ = some (Value.int .i64 n0) ∧ w2.cell? ⟨g, 1, none⟩ = some (Value.int .i64 n1) ∧ w2.cell? ⟨g, 2, none⟩ = some (Value.string (str t)) ∧ w2.cell? ⟨g, 3, none⟩ = some (Value.int .i64 n3) ∧ w2.cell? ⟨g, 4, none⟩ = some (Value.slice au L cu) ∧ Below w.heap.size w w2))))
  have G2 := Lib.hid (fun (W : World) (hS : (W.cell? ⟨g, 0, none⟩ = some (Value.int .i64 n0) ∧ W.cell? ⟨g, 1, none⟩ = some (Value.int .i64 n1) ∧ W.cell? ⟨g, 2, none⟩ = some (Value.string (str t)) ∧ W.cell? ⟨g, 3, none⟩ = some (Value.int .i64 n3) ∧ W.cell? ⟨g, 4, none⟩ = some (Value.slice au L cu) ∧ Below w.heap.size w W)) => (show Calls Tryz.prog 83 #[.int .i64 n3] W (fun e w' => e = .returned (.string (str X1)) ∧ Below W.heap.size W w') from P1 W).mono (fun e (w2 : World) hh => (⟨hh.1, ⟨kept_cell hh.2 hS.1, kept_cell hh.2 hS.2.1, kept_cell hh.2 hS.2.2.1, kept_cell hh.2 hS.2.2.2.1, kept_cell hh.2 hS.2.2.2.2.1, hS.2.2.2.2.2.trans (hh.2.mono hS.2.2.2.2.2.size)⟩⟩ : e = Ending.returned (Value.string (str X1)) ∧ (w2.cell? ⟨g, 0, none⟩ = some (Value.int .i64 n0) ∧ w2.cell? ⟨g, 1, none⟩ = some (Value.int .i64 n1) ∧ w2.cell? ⟨g, 2, none⟩ = some (Value.string (str t)) ∧ w2.cell? ⟨g, 3, none⟩ = some (Value.int .i64 n3) ∧ w2.cell? ⟨g, 4, none⟩ = some (Value.slice au L cu) ∧ Below w.heap.size w w2))))
  have G3 := Lib.hid (fun (W : World) (hS : (W.cell? ⟨g, 0, none⟩ = some (Value.int .i64 n0) ∧ W.cell? ⟨g, 1, none⟩ = some (Value.int .i64 n1) ∧ W.cell? ⟨g, 2, none⟩ = some (Value.string (str t)) ∧ W.cell? ⟨g, 3, none⟩ = some (Value.int .i64 n3) ∧ W.cell? ⟨g, 4, none⟩ = some (Value.slice au L cu) ∧ Below w.heap.size w W)) => (show Calls Tryz.prog 99 #[.slice au L cu] W (fun e w' => e = .returned (.string (str X2)) ∧ Below W.heap.size W w') from P2 W hS.2.2.2.2.2).mono (fun e (w2 : World) hh => (⟨hh.1, ⟨kept_cell hh.2 hS.1, kept_cell hh.2 hS.2.1, kept_cell hh.2 hS.2.2.1, kept_cell hh.2 hS.2.2.2.1, kept_cell hh.2 hS.2.2.2.2.1, hS.2.2.2.2.2.trans (hh.2.mono hS.2.2.2.2.2.size)⟩⟩ : e = Ending.returned (Value.string (str X2)) ∧ (w2.cell? ⟨g, 0, none⟩ = some (Value.int .i64 n0) ∧ w2.cell? ⟨g, 1, none⟩ = some (Value.int .i64 n1) ∧ w2.cell? ⟨g, 2, none⟩ = some (Value.string (str t)) ∧ w2.cell? ⟨g, 3, none⟩ = some (Value.int .i64 n3) ∧ w2.cell? ⟨g, 4, none⟩ = some (Value.slice au L cu) ∧ Below w.heap.size w w2))))
  have hS0 : (W0.drew.cell? ⟨g, 0, none⟩ = some (Value.int .i64 n0) ∧ W0.drew.cell? ⟨g, 1, none⟩ = some (Value.int .i64 n1) ∧ W0.drew.cell? ⟨g, 2, none⟩ = some (Value.string (str t)) ∧ W0.drew.cell? ⟨g, 3, none⟩ = some (Value.int .i64 n3) ∧ W0.drew.cell? ⟨g, 4, none⟩ = some (Value.slice au L cu) ∧ Below w.heap.size w W0.drew) := ⟨k0, k1, k2, k3, k4, hB0.drew⟩
  clear hB0 k0 k1 k2 k3 k4
  go_enter Tryz.func55, Tryz.ntmps55
  go_upto_region 1 with fail
  clear hW0
  go_region_held_law (fun W => (W.cell? ⟨g, 0, none⟩ = some (Value.int .i64 n0) ∧ W.cell? ⟨g, 1, none⟩ = some (Value.int .i64 n1) ∧ W.cell? ⟨g, 2, none⟩ = some (Value.string (str t)) ∧ W.cell? ⟨g, 3, none⟩ = some (Value.int .i64 n3) ∧ W.cell? ⟨g, 4, none⟩ = some (Value.slice au L cu) ∧ Below w.heap.size w W)) (first | exact hS0 | assumption) (first | (go_at_call 93; ((with_reducible refine (G1.out _ ?_).mono ?_); (first | exact hS0 | assumption)); rintro _ w1 ⟨rfl, hS1⟩) | (go_at_call 83; ((with_reducible refine (G2.out _ ?_).mono ?_); (first | exact hS0 | assumption)); rintro _ w2 ⟨rfl, hS2⟩) | (go_at_call 99; ((with_reducible refine (G3.out _ ?_).mono ?_); (first | exact hS0 | assumption)); rintro _ w3 ⟨rfl, hS3⟩))
  go_wp2_with fail
  go_ret
  exact ⟨rfl, hS3.2.2.2.2.2⟩
end Go.Proofs.YtebglkpejdoggaaGreat.C10
