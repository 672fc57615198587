/-
  Layer 10, the program: one verdict, event, state, item laid; the head of commands and records.
  Layer 10, the program: lists of verdicts, events, items laid.
-/
import Derived.Test.YtebglkpejdoggaaGreatP10La
import Derived.Deep.RegionHeldLaw
namespace Go.Proofs.YtebglkpejdoggaaGreat.C10
open Go Go.RowKit Go.Proofs Go.Proofs.YtebglkpejdoggaaGreat.B Go.Proofs.YtebglkpejdoggaaGreat.K Go.Proofs.YtebglkpejdoggaaGreat.P8
set_option linter.unusedVariables false
set_option maxRecDepth 100000

theorem playVd_len (x : Vd) (h : VdWf x) : (layVd x).length ≤ 20 := numsL_len [x.seq, x.code] (by intro y hy; simp at hy; rcases hy with rfl | rfl; exact h.1; exact h.2)
theorem layVd_eq (x : Vd) : layVd x = num x.seq ++ num x.code := by unfold layVd numsL; simp

set_option maxHeartbeats 4000000 in
theorem layVd1_any (x : Vd) (w : World) (h : VdWf x) :
    Calls Tryz.prog 82 #[.agg #[.int .i64 x.seq, .int .i64 x.code]] w fun e w' => e = .returned (.string (str (layVd x))) ∧ Below w.heap.size w w' := by
  rw [layVd_eq]
  obtain ⟨n0, n1⟩ := x
  obtain ⟨h0, h1⟩ := h
  dsimp only at h0 h1 ⊢
  have l0 := num_len n0 h0
  have l1 := num_len n1 h1
  have e1 := add_str (num n0) (num n1) (by omega)
  obtain ⟨X0, hX0⟩ : ∃ X, num n0 = X := ⟨_, rfl⟩
  obtain ⟨X1, hX1⟩ : ∃ X, num n1 = X := ⟨_, rfl⟩
  rw [hX0, hX1] at e1 ⊢
  have pnum0 := fun W => pnum_any n0 W h0
  have pnum1 := fun W => pnum_any n1 W h1
  rw [hX0] at pnum0
  rw [hX1] at pnum1
  generalize X0 ++ X1 = U1 at *
  clear l0 l1 hX0 hX1
  obtain ⟨W0, hW0⟩ : ∃ W0, w.alloc (.cells #[.int .i64 n0, .int .i64 n1] 81) = W0 := ⟨_, rfl⟩
  obtain ⟨g, hg⟩ : ∃ g, w.heap.size = g := ⟨_, rfl⟩
  have hB0 : Below w.heap.size w W0 := by rw [← hW0]; exact below_alloc _ _
  have k0 : W0.cell? ⟨g, 0, none⟩ = some (.int .i64 n0) := by rw [← hW0, ← hg]; exact alloc_cell w [_, _] _ 0 _ rfl
  have k1 : W0.cell? ⟨g, 1, none⟩ = some (.int .i64 n1) := by rw [← hW0, ← hg]; exact alloc_cell w [_, _] _ 1 _ rfl
  have G1 := Lib.hid (fun (W : World) (hS : (W.cell? ⟨g, 0, none⟩ = some (Value.int .i64 n0) ∧ W.cell? ⟨g, 1, none⟩ = some (Value.int .i64 n1) ∧ Below w.heap.size w W)) => (show Calls Tryz.prog 83 #[.int .i64 n0] W (fun e w' => e = .returned (.string (str X0)) ∧ Below W.heap.size W w') from pnum0 W).mono (fun e (w2 : World) hh => (⟨hh.1, ⟨kept_cell hh.2 hS.1, kept_cell hh.2 hS.2.1, hS.2.2.trans (hh.2.mono hS.2.2.size)⟩⟩ : e = Ending.returned (Value.string (str X0)) ∧ (w2.cell? ⟨g, 0, none⟩ = some (Value.int .i64 n0) ∧ w2.cell? ⟨g, 1, none⟩ = some (Value.int .i64 n1) ∧ Below w.heap.size w w2))))
  have G2 := Lib.hid (fun (W : World) (hS : (W.cell? ⟨g, 0, none⟩ = some (Value.int .i64 n0) ∧ W.cell? ⟨g, 1, none⟩ = some (Value.int .i64 n1) ∧ Below w.heap.size w W)) => (show Calls Tryz.prog 83 #[.int .i64 n1] W (fun e w' => e = .returned (.string (str X1)) ∧ Below W.heap.size W w') from pnum1 W).mono (fun e (w2 : World) hh => (⟨hh.1, ⟨kept_cell hh.2 hS.1, kept_cell hh.2 hS.2.1, hS.2.2.trans (hh.2.mono hS.2.2.size)⟩⟩ : e = Ending.returned (Value.string (str X1)) ∧ (w2.cell? ⟨g, 0, none⟩ = some (Value.int .i64 n0) ∧ w2.cell? ⟨g, 1, none⟩ = some (Value.int .i64 n1) ∧ Below w.heap.size w w2))))
  have hS0 : (W0.drew.cell? ⟨g, 0, none⟩ = some (Value.int .i64 n0) ∧ W0.drew.cell? ⟨g, 1, none⟩ = some (Value.int .i64 n1) ∧ Below w.heap.size w W0.drew) := ⟨k0, k1, hB0.drew⟩
  clear hB0 k0 k1
  go_enter Tryz.func82, Tryz.ntmps82
  go_upto_region 1 with fail
  clear hW0
  go_region_held_law (fun W => (W.cell? ⟨g, 0, none⟩ = some (Value.int .i64 n0) ∧ W.cell? ⟨g, 1, none⟩ = some (Value.int .i64 n1) ∧ Below w.heap.size w W)) (first | exact hS0 | assumption) (first | (go_at_call 83; ((with_reducible refine (G1.out _ ?_).mono ?_); (first | exact hS0 | assumption)); rintro _ w1 ⟨rfl, hS1⟩) | (go_at_call 83; ((with_reducible refine (G2.out _ ?_).mono ?_); (first | exact hS0 | assumption)); rintro _ w2 ⟨rfl, hS2⟩))
  go_wp2_with fail
  go_ret
  exact ⟨rfl, hS2.2.2⟩

theorem layEv_eq (x : Ev) : layEv x = num x.pos ++ listL x.vars := rfl
theorem layEv_len8 (x : Ev) (h : EvWf x) (hl : x.vars.length ≤ 256) : (layEv x).length ≤ 3000 := by
  rw [layEv_eq, List.length_append]
  have h1 := num_len x.pos h.1
  have h2 := listL_len x.vars h.2
  omega

set_option maxHeartbeats 4000000 in
theorem layEv1_any (x : Ev) (u : Value) (w : World) (hu : SlN w u x.vars) (h : EvWf x) (hl : x.vars.length ≤ 256) :
    Calls Tryz.prog 131 #[.agg #[.int .i64 x.pos, u]] w fun e w' => e = .returned (.string (str (layEv x))) ∧ Below w.heap.size w w' := by
  rw [layEv_eq]
  obtain ⟨n0, vs⟩ := x
  obtain ⟨h0, h1, -⟩ := h
  dsimp only at h0 h1 hu hl ⊢
  have l0 := num_len n0 h0
  have l1 := listL_len vs ⟨h1, by omega⟩
  have e1 := add_str (num n0) (listL vs) (by omega)
  obtain ⟨X0, hX0⟩ : ∃ X, num n0 = X := ⟨_, rfl⟩
  obtain ⟨X1, hX1⟩ : ∃ X, listL vs = X := ⟨_, rfl⟩
  rw [hX0, hX1] at e1 ⊢
  obtain ⟨au, cu, rfl, -⟩ := id hu.open
  have P0 := fun W => pnum_any n0 W h0
  have P1 := fun W (hb : Below w.heap.size w W) => layValues_any vs _ W (hu.below hb) h1 hl
  rw [hX0] at P0
  rw [hX1] at P1
  obtain ⟨L, hL⟩ : ∃ L, vs.length = L := ⟨_, rfl⟩
  rw [hL] at P1 ⊢
  generalize X0 ++ X1 = U1 at *
  clear l0 l1 hX0 hX1 hL hu
  obtain ⟨W0, hW0⟩ : ∃ W0, w.alloc (.cells #[.int .i64 n0, .slice au L cu] 133) = W0 := ⟨_, rfl⟩
  obtain ⟨g, hg⟩ : ∃ g, w.heap.size = g := ⟨_, rfl⟩
  have hB0 : Below w.heap.size w W0 := by rw [← hW0]; exact below_alloc _ _
  have k0 : W0.cell? ⟨g, 0, none⟩ = some (.int .i64 n0) := by rw [← hW0, ← hg]; exact alloc_cell w [_, _] _ 0 _ rfl
  have k1 : W0.cell? ⟨g, 1, none⟩ = some (.slice au L cu) := by rw [← hW0, ← hg]; exact alloc_cell w [_, _] _ 1 _ rfl
  have G1 := Lib.hid (fun (W : World) (hS : (W.cell? ⟨g, 0, none⟩ = some (Value.int .i64 n0) ∧ W.cell? ⟨g, 1, none⟩ = some (Value.slice au L cu) ∧ Below w.heap.size w W)) => (show Calls Tryz.prog 83 #[.int .i64 n0] W (fun e w' => e = .returned (.string (str X0)) ∧ Below W.heap.size W w') from P0 W).mono (fun e (w2 : World) hh => (⟨hh.1, ⟨kept_cell hh.2 hS.1, kept_cell hh.2 hS.2.1, hS.2.2.trans (hh.2.mono hS.2.2.size)⟩⟩ : e = Ending.returned (Value.string (str X0)) ∧ (w2.cell? ⟨g, 0, none⟩ = some (Value.int .i64 n0) ∧ w2.cell? ⟨g, 1, none⟩ = some (Value.slice au L cu) ∧ Below w.heap.size w w2))))
  have G2 := Lib.hid (fun (W : World) (hS : (W.cell? ⟨g, 0, none⟩ = some (Value.int .i64 n0) ∧ W.cell? ⟨g, 1, none⟩ = some (Value.slice au L cu) ∧ Below w.heap.size w W)) => (show Calls Tryz.prog 94 #[.slice au L cu] W (fun e w' => e = .returned (.string (str X1)) ∧ Below W.heap.size W w') from P1 W hS.2.2).mono (fun e (w2 : World) hh => (⟨hh.1, ⟨kept_cell hh.2 hS.1, kept_cell hh.2 hS.2.1, hS.2.2.trans (hh.2.mono hS.2.2.size)⟩⟩ : e = Ending.returned (Value.string (str X1)) ∧ (w2.cell? ⟨g, 0, none⟩ = some (Value.int .i64 n0) ∧ w2.cell? ⟨g, 1, none⟩ = some (Value.slice au L cu) ∧ Below w.heap.size w w2))))
  have hS0 : (W0.drew.cell? ⟨g, 0, none⟩ = some (Value.int .i64 n0) ∧ W0.drew.cell? ⟨g, 1, none⟩ = some (Value.slice au L cu) ∧ Below w.heap.size w W0.drew) := ⟨k0, k1, hB0.drew⟩
  clear hB0 k0 k1
  go_enter Tryz.func131, Tryz.ntmps131
  go_upto_region 1 with fail
  clear hW0
  go_region_held_law (fun W => (W.cell? ⟨g, 0, none⟩ = some (Value.int .i64 n0) ∧ W.cell? ⟨g, 1, none⟩ = some (Value.slice au L cu) ∧ Below w.heap.size w W)) (first | exact hS0 | assumption) (first | (go_at_call 83; ((with_reducible refine (G1.out _ ?_).mono ?_); (first | exact hS0 | assumption)); rintro _ w1 ⟨rfl, hS1⟩) | (go_at_call 94; ((with_reducible refine (G2.out _ ?_).mono ?_); (first | exact hS0 | assumption)); rintro _ w2 ⟨rfl, hS2⟩))
  go_wp2_with fail
  go_ret
  exact ⟨rfl, hS2.2.2⟩

def laySt (s : St) : List UInt8 := num s.pos ++ num s.ver ++ listL s.vars
theorem layIt_eq (x : It) : layIt x = textL x.stream ++ laySt x.st := by
  unfold layIt laySt numsL
  simp
theorem laySt_len (x : St) (h : StWf x) (hl : x.vars.length ≤ 256) : (laySt x).length ≤ 3000 := by
  unfold laySt
  rw [List.length_append, List.length_append]
  have h1 := num_len x.pos h.1
  have h3 := num_len x.ver h.2.1
  have h2 := listL_len x.vars h.2.2
  omega
theorem layIt_len8 (x : It) (h : StWf x.st) (hs : x.stream.length ≤ 4096) (hl : x.st.vars.length ≤ 256) : (layIt x).length ≤ 8000 := by
  rw [layIt_eq, List.length_append]
  have h1 := textL_len x.stream (by unfold TxWf; omega)
  have h2 := laySt_len x.st h hl
  omega

set_option maxHeartbeats 4000000 in
theorem laySt_any (x : St) (u : Value) (w : World) (hu : SlN w u x.vars) (h : StWf x) (hl : x.vars.length ≤ 256) :
    Calls Tryz.prog 76 #[.agg #[.int .i64 x.pos, .int .i64 x.ver, u]] w fun e w' => e = .returned (.string (str (laySt x))) ∧ Below w.heap.size w w' := by
  unfold laySt
  obtain ⟨n0, n1, vs⟩ := x
  obtain ⟨h0, h1, h2, -⟩ := h
  dsimp only at h0 h1 h2 hu hl ⊢
  have l0 := num_len n0 h0
  have l1 := num_len n1 h1
  have l2 := listL_len vs ⟨h2, by omega⟩
  have e1 := add_str (num n0) (num n1) (by omega)
  have e2 := add_str (num n0 ++ num n1) (listL vs) (by rw [List.length_append]; omega)
  obtain ⟨X0, hX0⟩ : ∃ X, num n0 = X := ⟨_, rfl⟩
  obtain ⟨X1, hX1⟩ : ∃ X, num n1 = X := ⟨_, rfl⟩
  obtain ⟨X2, hX2⟩ : ∃ X, listL vs = X := ⟨_, rfl⟩
  rw [hX0, hX1] at e1 e2 ⊢
  rw [hX2] at e2 ⊢
  obtain ⟨au, cu, rfl, -⟩ := id hu.open
  have P0 := fun W => pnum_any n0 W h0
  have P1 := fun W => pnum_any n1 W h1
  have P2 := fun W (hb : Below w.heap.size w W) => layValues_any vs _ W (hu.below hb) h2 hl
  rw [hX0] at P0
  rw [hX1] at P1
  rw [hX2] at P2
  obtain ⟨L, hL⟩ : ∃ L, vs.length = L := ⟨_, rfl⟩
  rw [hL] at P2 ⊢
  generalize X0 ++ X1 = U1 at *
  generalize U1 ++ X2 = U2 at *
  clear l0 l1 l2 hX0 hX1 hX2 hL hu
  obtain ⟨W0, hW0⟩ : ∃ W0, w.alloc (.cells #[.int .i64 n0, .int .i64 n1, .slice au L cu] 71) = W0 := ⟨_, rfl⟩
  obtain ⟨g, hg⟩ : ∃ g, w.heap.size = g := ⟨_, rfl⟩
  have hB0 : Below w.heap.size w W0 := by rw [← hW0]; exact below_alloc _ _
  have k0 : W0.cell? ⟨g, 0, none⟩ = some (.int .i64 n0) := by rw [← hW0, ← hg]; exact alloc_cell w [_, _, _] _ 0 _ rfl
  have k1 : W0.cell? ⟨g, 1, none⟩ = some (.int .i64 n1) := by rw [← hW0, ← hg]; exact alloc_cell w [_, _, _] _ 1 _ rfl
  have k2 : W0.cell? ⟨g, 2, none⟩ = some (.slice au L cu) := by rw [← hW0, ← hg]; exact alloc_cell w [_, _, _] _ 2 _ rfl
  have G1 := Lib.hid (fun (W : World) (hS : (W.cell? ⟨g, 0, none⟩ = some (Value.int .i64 n0) ∧ W.cell? ⟨g, 1, none⟩ = some (Value.int .i64 n1) ∧ W.cell? ⟨g, 2, none⟩ = some (Value.slice au L cu) ∧ Below w.heap.size w W)) => (show Calls Tryz.prog 83 #[.int .i64 n0] W (fun e w' => e = .returned (.string (str X0)) ∧ Below W.heap.size W w') from P0 W).mono (fun e (w2 : World) hh => (⟨hh.1, ⟨kept_cell hh.2 hS.1, kept_cell hh.2 hS.2.1, kept_cell hh.2 hS.2.2.1, hS.2.2.2.trans (hh.2.mono hS.2.2.2.size)⟩⟩ : e = Ending.returned (Value.string (str X0)) ∧ (w2.cell? ⟨g, 0, none⟩ = some (Value.int .i64 n0) ∧ w2.cell? ⟨g, 1, none⟩ = some (Value.int .i64 n1) ∧ w2.cell? ⟨g, 2, none⟩ = some (Value.slice au L cu) ∧ Below w.heap.size w w2))))
  have G2 := Lib.hid (fun (W : World) (hS : (W.cell? ⟨g, 0, none⟩ = some (Value.int .i64 n0) ∧ W.cell? ⟨g, 1, none⟩ = some (Value.int .i64 n1) ∧ W.cell? ⟨g, 2, none⟩ = some (Value.slice au L cu) ∧ Below w.heap.size w W)) => (show Calls Tryz.prog 83 #[.int .i64 n1] W (fun e w' => e = .returned (.string (str X1)) ∧ Below W.heap.size W w') from P1 W).mono (fun e (w2 : World) hh => (⟨hh.1, ⟨kept_cell hh.2 hS.1, kept_cell hh.2 hS.2.1, kept_cell hh.2 hS.2.2.1, hS.2.2.2.trans (hh.2.mono hS.2.2.2.size)⟩⟩ : e = Ending.returned (Value.string (str X1)) ∧ (w2.cell? ⟨g, 0, none⟩ = some (Value.int .i64 n0) ∧ w2.cell? ⟨g, 1, none⟩ = some (Value.int .i64 n1) ∧ w2.cell? ⟨g, 2, none⟩ = some (Value.slice au L cu) ∧ Below w.heap.size w w2))))
  have G3 := Lib.hid (fun (W : World) (hS : (W.cell? ⟨g, 0, none⟩ = some (Value.int .i64 n0) ∧ W.cell? ⟨g, 1, none⟩ = some (Value.int .i64 n1) ∧ W.cell? ⟨g, 2, none⟩ = some (Value.slice au L cu) ∧ Below w.heap.size w W)) => (show Calls Tryz.prog 94 #[.slice au L cu] W (fun e w' => e = .returned (.string (str X2)) ∧ Below W.heap.size W w') from P2 W hS.2.2.2).mono (fun e (w2 : World) hh => (⟨hh.1, ⟨kept_cell hh.2 hS.1, kept_cell hh.2 hS.2.1, kept_cell hh.2 hS.2.2.1, hS.2.2.2.trans (hh.2.mono hS.2.2.2.size)⟩⟩ : e = Ending.returned (Value.string (str X2)) ∧ (w2.cell? ⟨g, 0, none⟩ = some (Value.int .i64 n0) ∧ w2.cell? ⟨g, 1, none⟩ = some (Value.int .i64 n1) ∧ w2.cell? ⟨g, 2, none⟩ = some (Value.slice au L cu) ∧ Below w.heap.size w w2))))
  have hS0 : (W0.drew.cell? ⟨g, 0, none⟩ = some (Value.int .i64 n0) ∧ W0.drew.cell? ⟨g, 1, none⟩ = some (Value.int .i64 n1) ∧ W0.drew.cell? ⟨g, 2, none⟩ = some (Value.slice au L cu) ∧ Below w.heap.size w W0.drew) := ⟨k0, k1, k2, hB0.drew⟩
  clear hB0 k0 k1 k2
  go_enter Tryz.func76, Tryz.ntmps76
  go_upto_region 1 with fail
  clear hW0
  go_region_held_law (fun W => (W.cell? ⟨g, 0, none⟩ = some (Value.int .i64 n0) ∧ W.cell? ⟨g, 1, none⟩ = some (Value.int .i64 n1) ∧ W.cell? ⟨g, 2, none⟩ = some (Value.slice au L cu) ∧ Below w.heap.size w W)) (first | exact hS0 | assumption) (first | (go_at_call 83; ((with_reducible refine (G1.out _ ?_).mono ?_); (first | exact hS0 | assumption)); rintro _ w1 ⟨rfl, hS1⟩) | (go_at_call 83; ((with_reducible refine (G2.out _ ?_).mono ?_); (first | exact hS0 | assumption)); rintro _ w2 ⟨rfl, hS2⟩) | (go_at_call 94; ((with_reducible refine (G3.out _ ?_).mono ?_); (first | exact hS0 | assumption)); rintro _ w3 ⟨rfl, hS3⟩))
  go_wp2_with fail
  go_ret
  exact ⟨rfl, hS3.2.2.2⟩

set_option maxHeartbeats 4000000 in
theorem layIt1_any (x : It) (u : Value) (w : World) (hu : SlN w u x.st.vars) (h : StWf x.st) (hs : x.stream.length ≤ 4096) (hl : x.st.vars.length ≤ 256) :
    Calls Tryz.prog 74 #[.agg #[.string (str x.stream), .int .i64 x.st.pos, .int .i64 x.st.ver, u]] w fun e w' => e = .returned (.string (str (layIt x))) ∧ Below w.heap.size w w' := by
  rw [layIt_eq]
  obtain ⟨t, n0, n1, vs⟩ := x
  dsimp only at h hs hu hl ⊢
  have l0 := textL_len t (by unfold TxWf; omega)
  have l1 := laySt_len ⟨n0, n1, vs⟩ h hl
  have e1 := add_str (textL t) (laySt ⟨n0, n1, vs⟩) (by omega)
  obtain ⟨X0, hX0⟩ : ∃ X, textL t = X := ⟨_, rfl⟩
  obtain ⟨X1, hX1⟩ : ∃ X, laySt ⟨n0, n1, vs⟩ = X := ⟨_, rfl⟩
  rw [hX0, hX1] at e1 ⊢
  obtain ⟨au, cu, rfl, -⟩ := id hu.open
  have P0 := fun W => layText_any t W hs
  have P1 := fun W (hb : Below w.heap.size w W) => laySt_any ⟨n0, n1, vs⟩ _ W (hu.below hb) h hl
  rw [hX0] at P0
  rw [hX1] at P1
  dsimp only at P1
  obtain ⟨L, hL⟩ : ∃ L, vs.length = L := ⟨_, rfl⟩
  rw [hL] at P1 ⊢
  generalize X0 ++ X1 = U1 at *
  clear l0 l1 hX0 hX1 hL hu
  obtain ⟨W0, hW0⟩ : ∃ W0, w.alloc (.cells #[.string (str t), .int .i64 n0, .int .i64 n1, .slice au L cu] 73) = W0 := ⟨_, rfl⟩
  obtain ⟨g, hg⟩ : ∃ g, w.heap.size = g := ⟨_, rfl⟩
  have hB0 : Below w.heap.size w W0 := by rw [← hW0]; exact below_alloc _ _
  have k0 : W0.cell? ⟨g, 0, none⟩ = some (.string (str t)) := by rw [← hW0, ← hg]; exact alloc_cell w [_, _, _, _] _ 0 _ rfl
  have k1 : W0.cell? ⟨g, 1, none⟩ = some (.int .i64 n0) := by rw [← hW0, ← hg]; exact alloc_cell w [_, _, _, _] _ 1 _ rfl
  have k2 : W0.cell? ⟨g, 2, none⟩ = some (.int .i64 n1) := by rw [← hW0, ← hg]; exact alloc_cell w [_, _, _, _] _ 2 _ rfl
  have k3 : W0.cell? ⟨g, 3, none⟩ = some (.slice au L cu) := by rw [← hW0, ← hg]; exact alloc_cell w [_, _, _, _] _ 3 _ rfl
  have G1 := Lib.hid (fun (W : World) (hS : (W.cell? ⟨g, 0, none⟩ = some (Value.string (str t)) ∧ W.cell? ⟨g, 1, none⟩ = some (Value.int .i64 n0) ∧ W.cell? ⟨g, 2, none⟩ = some (Value.int .i64 n1) ∧ W.cell? ⟨g, 3, none⟩ = some (Value.slice au L cu) ∧ Below w.heap.size w W)) => (show Calls Tryz.prog 75 #[.string (str t)] W (fun e w' => e = .returned (.string (str X0)) ∧ Below W.heap.size W w') from P0 W).mono (fun e (w2 : World) hh => (⟨hh.1, ⟨kept_cell hh.2 hS.1, kept_cell hh.2 hS.2.1, kept_cell hh.2 hS.2.2.1, kept_cell hh.2 hS.2.2.2.1, hS.2.2.2.2.trans (hh.2.mono hS.2.2.2.2.size)⟩⟩ : e = Ending.returned (Value.string (str X0)) ∧ (w2.cell? ⟨g, 0, none⟩ = some (Value.string (str t)) ∧ w2.cell? ⟨g, 1, none⟩ = some (Value.int .i64 n0) ∧ w2.cell? ⟨g, 2, none⟩ = some (Value.int .i64 n1) ∧ w2.cell? ⟨g, 3, none⟩ = some (Value.slice au L cu) ∧ Below w.heap.size w w2))))
  have G2 := Lib.hid (fun (W : World) (hS : (W.cell? ⟨g, 0, none⟩ = some (Value.string (str t)) ∧ W.cell? ⟨g, 1, none⟩ = some (Value.int .i64 n0) ∧ W.cell? ⟨g, 2, none⟩ = some (Value.int .i64 n1) ∧ W.cell? ⟨g, 3, none⟩ = some (Value.slice au L cu) ∧ Below w.heap.size w W)) => (show Calls Tryz.prog 76 #[.agg #[.int .i64 n0, .int .i64 n1, .slice au L cu]] W (fun e w' => e = .returned (.string (str X1)) ∧ Below W.heap.size W w') from P1 W hS.2.2.2.2).mono (fun e (w2 : World) hh => (⟨hh.1, ⟨kept_cell hh.2 hS.1, kept_cell hh.2 hS.2.1, kept_cell hh.2 hS.2.2.1, kept_cell hh.2 hS.2.2.2.1, hS.2.2.2.2.trans (hh.2.mono hS.2.2.2.2.size)⟩⟩ : e = Ending.returned (Value.string (str X1)) ∧ (w2.cell? ⟨g, 0, none⟩ = some (Value.string (str t)) ∧ w2.cell? ⟨g, 1, none⟩ = some (Value.int .i64 n0) ∧ w2.cell? ⟨g, 2, none⟩ = some (Value.int .i64 n1) ∧ w2.cell? ⟨g, 3, none⟩ = some (Value.slice au L cu) ∧ Below w.heap.size w w2))))
  have hS0 : (W0.drew.cell? ⟨g, 0, none⟩ = some (Value.string (str t)) ∧ W0.drew.cell? ⟨g, 1, none⟩ = some (Value.int .i64 n0) ∧ W0.drew.cell? ⟨g, 2, none⟩ = some (Value.int .i64 n1) ∧ W0.drew.cell? ⟨g, 3, none⟩ = some (Value.slice au L cu) ∧ Below w.heap.size w W0.drew) := ⟨k0, k1, k2, k3, hB0.drew⟩
  clear hB0 k0 k1 k2 k3
  go_enter Tryz.func74, Tryz.ntmps74
  go_upto_region 1 with fail
  clear hW0
  go_region_held_law (fun W => (W.cell? ⟨g, 0, none⟩ = some (Value.string (str t)) ∧ W.cell? ⟨g, 1, none⟩ = some (Value.int .i64 n0) ∧ W.cell? ⟨g, 2, none⟩ = some (Value.int .i64 n1) ∧ W.cell? ⟨g, 3, none⟩ = some (Value.slice au L cu) ∧ Below w.heap.size w W)) (first | exact hS0 | assumption) (first | (go_at_call 75; ((with_reducible refine (G1.out _ ?_).mono ?_); (first | exact hS0 | assumption)); rintro _ w1 ⟨rfl, hS1⟩) | (go_at_call 76; ((with_reducible refine (G2.out _ ?_).mono ?_); (first | exact hS0 | assumption)); rintro _ w2 ⟨rfl, hS2⟩))
  go_wp2_with fail
  go_ret
  exact ⟨rfl, hS2.2.2.2.2⟩

def layHd (c q : Int) (s : List UInt8) : List UInt8 := num c ++ num q ++ textL s
theorem layHd_len (c q : Int) (s : List UInt8) (hc : I64 c) (hq : I64 q) (hs : s.length ≤ 4096) : (layHd c q s).length ≤ 5000 := by
  unfold layHd
  rw [List.length_append, List.length_append]
  have h1 := num_len c hc
  have h2 := num_len q hq
  have h3 := textL_len s (by unfold TxWf; omega)
  omega
set_option maxHeartbeats 1000000 in
theorem layHead_any (c q : Int) (s : List UInt8) (w : World) (hc : I64 c) (hq : I64 q) (hs : s.length ≤ 4096) :
    Calls Tryz.prog 93 #[.int .i64 c, .int .i64 q, .string (str s)] w fun e w' => e = .returned (.string (str (layHd c q s))) ∧ Below w.heap.size w w' := by
  unfold layHd
  have l0 := num_len c hc
  have l1 := num_len q hq
  have l2 := textL_len s (by unfold TxWf; omega)
  have e1 := add_str (num c) (num q) (by omega)
  have e2 := add_str (num c ++ num q) (textL s) (by rw [List.length_append]; omega)
  have P0 := Lib.hid (fun W => pnum_any c W hc)
  have P1 := Lib.hid (fun W => pnum_any q W hq)
  have P2 := Lib.hid (fun W => layText_any s W hs)
  generalize num c = X0 at *
  generalize num q = X1 at *
  generalize textL s = X2 at *
  generalize X0 ++ X1 = U1 at *
  generalize U1 ++ X2 = U2 at *
  clear l0 l1 l2
  go_enter Tryz.func93, Tryz.ntmps93
  go_wp2_with fail
  refine (P0.out _).mono ?_
  rintro _ w1 ⟨rfl, hb1⟩
  go_wp2_with fail
  refine (P1.out _).mono ?_
  rintro _ w2 ⟨rfl, hb2⟩
  have HB2 := Lib.hid (hb1.trans (hb2.mono hb1.size))
  clear hb1 hb2
  go_wp2_with fail
  refine (P2.out _).mono ?_
  rintro _ w3 ⟨rfl, hb3⟩
  have HB3 := Lib.hid (HB2.out.trans (hb3.mono HB2.out.size))
  clear hb3
  go_wp2_with fail
  go_ret
  exact ⟨rfl, HB3.out⟩
end Go.Proofs.YtebglkpejdoggaaGreat.C10

namespace Go.Proofs.YtebglkpejdoggaaGreat.C10
open Go Go.RowKit Go.Proofs Go.Proofs.YtebglkpejdoggaaGreat.B Go.Proofs.YtebglkpejdoggaaGreat.K Go.Proofs.YtebglkpejdoggaaGreat.P8
set_option linter.unusedVariables false
set_option maxRecDepth 100000

set_option maxHeartbeats 4000000 in
theorem lays_V (l : List Vd) (HM : ∀ (W : World) (v : Value) (x : Vd), x ∈ l → (v = .agg #[.int .i64 x.seq, .int .i64 x.code]) → Calls Tryz.prog 82 #[v] W fun e w' => e = .returned (.string (str (layVd x))) ∧ Below W.heap.size W w')
    (hb : ∀ x ∈ l, (layVd x).length ≤ 8000) (v : Value) (w : World) (h : VdsIs w v l) (hl : l.length ≤ 256) :
    Calls Tryz.prog 81 #[v, .func (.func 82) #[] #[]] w fun e w' => e = .returned (.string (str (num (l.length : Int) ++ l.flatMap layVd))) ∧ Below w.heap.size w w' := by
  obtain ⟨a, cap, rfl, hc⟩ := h.open
  obtain ⟨N, hN⟩ : ∃ N, l.length = N := ⟨_, rfl⟩
  have HC := Lib.hid hc
  have HN := Lib.hid hN
  have HM := Lib.hid HM
  have HBD := Lib.hid hb
  rw [hN] at hl ⊢
  have H0 := Lib.hid (fun W => pnum_any (N : Int) W ⟨by omega, by omega⟩)
  have hz := num_len (N : Int) ⟨by omega, by omega⟩
  have HX0 := Lib.hid (show num (N : Int) = num (N : Int) from rfl)
  generalize num (N : Int) = X0 at *
  have HBN := Lib.hid (builder_new w 145 5)
  clear hc h hN hb HX0
  go_enter Tryz.func81, Tryz.ntmps81
  go_wp2_with fail
  refine (H0.out _).mono ?_
  rintro _ w1 ⟨rfl, hb1⟩
  have hbl1 := builder_below HBN.out hb1
  have h1 : Below w.heap.size w w1 := ((Below.refl _ _).alloc (Nat.le_refl _) _).trans (hb1.mono (by simp))
  clear hb1 HBN
  go_wp2_with fail
  refine (S.write_any w.heap.size w.heap.size [] _ _ hbl1 (by rw [str_size, List.length_nil]; omega) h1.size).mono ?_
  rintro _ w2 ⟨rfl, hbl2, hb2⟩
  rw [List.nil_append, show Lib.strCells (str X0) = Lib.byteCells X0 from rfl] at hbl2
  have HBL2 := Lib.hid (Or.inr hbl2 : Lib.IsBuilder 145 5 w.heap.size w.heap.size (Lib.byteCells X0) w2)
  have h2 : Below w.heap.size w w2 := h1.trans hb2
  clear h1 hb2 hbl1 hbl2
  go_wp2_with fail
  go_loopw [14] (fun i wr => ∃ K : Nat, K ≤ N ∧ i = .int .i64 (K : Int) ∧
      Hid (Lib.IsBuilder 145 5 w.heap.size w.heap.size (Lib.byteCells (X0 ++ (l.take K).flatMap layVd)) wr) ∧ Hid (Below w.heap.size w2 wr)) (fun i _ => N - (intOf i).toNat)
  case atStart => exact ⟨0, Nat.zero_le _, rfl, Lib.hid (by rw [List.take_zero, List.flatMap_nil, List.append_nil]; exact HBL2.out), Lib.hid (Below.refl _ _)⟩
  case round =>
    obtain ⟨K, hK, rfl, HBL, HBE⟩ := hrel
    by_cases hlt : K < N
    · obtain ⟨x, hx⟩ : ∃ x, l[K]? = some x := ⟨_, List.getElem?_eq_getElem (by rw [HN.out]; exact hlt)⟩
      have hbw : Below w.heap.size w wr := h2.trans HBE.out
      obtain ⟨b, off, ea, cs, -, rfl, hcell⟩ := HC.out K x hx
      subst ea
      have k0 : wr.cell? ⟨b, off + K * 2, none⟩ = some (.int .i64 x.seq) := kept_cell hbw (hcell 0 _ rfl)
      have k1 : wr.cell? ⟨b, off + K * 2 + 1, none⟩ = some (.int .i64 x.code) := kept_cell hbw (hcell 1 _ rfl)
      have hltI : (K : Int) < (N : Int) := by omega
      have hk0 : 0 ≤ (K : Int) := by omega
      have hw1 : IntKind.i64.wrap ((K : Int) + 1) = (K : Int) + 1 := IntWalk.i64_in _ (by omega)
      have hfl := flat_len layVd 8000 (l.take K) fun y hy => HBD.out y (List.mem_of_mem_take hy)
      rw [List.length_take] at hfl
      have hxl := HBD.out x (List.mem_of_getElem? hx)
      have HD := Lib.hid (show (l.take (K + 1)).flatMap layVd = (l.take K).flatMap layVd ++ layVd x from flat_take layVd hx)
      have HV := Lib.hid (fun W => HM.out W _ x (List.mem_of_getElem? hx) rfl)
      clear hcell hx hbw
      obtain ⟨W3, hW3⟩ : ∃ W3, wr.alloc (.cells #[.int .i64 x.seq, .int .i64 x.code] 81) = W3 := ⟨_, rfl⟩
      have hB3 : Below wr.heap.size wr W3 := by rw [← hW3]; exact below_alloc _ _
      have HB3 := Lib.hid hB3
      clear hB3
      have m0 : W3.cell? ⟨wr.heap.size, 0, none⟩ = some (.int .i64 x.seq) := by rw [← hW3]; exact alloc_cell wr [_, _] _ 0 _ rfl
      have m1 : W3.cell? ⟨wr.heap.size, 1, none⟩ = some (.int .i64 x.code) := by rw [← hW3]; exact alloc_cell wr [_, _] _ 1 _ rfl
      go_wp2_with fail
      refine (HV.out _).mono ?_
      rintro _ w3 ⟨rfl, hb3'⟩
      have hb3 : Below wr.heap.size wr w3 := HB3.out.trans (hb3'.mono HB3.out.size)
      have hbl3 := builder_below HBL.out hb3
      have h3 : Below w.heap.size w2 w3 := HBE.out.trans (hb3.mono (Nat.le_trans h2.size HBE.out.size))
      go_wp2_with fail
      refine (S.write_any w.heap.size w.heap.size _ _ _ hbl3 (by rw [str_size, Lib.byteCells_length, List.length_append]; omega) (Nat.le_trans h2.size h3.size)).mono ?_
      rintro _ w4 ⟨rfl, hbl4, hb4⟩
      rw [show Lib.strCells (str (layVd x)) = Lib.byteCells (layVd x) from rfl, ← Lib.byteCells_append, List.append_assoc] at hbl4
      have h4 : Below w.heap.size w2 w4 := h3.trans hb4
      have HBL4 := Lib.hid hbl4
      have HB4 := Lib.hid h4
      clear hbl3 hbl4 h3 h4 hb4 hb3
      go_wp2_with fail
      go_roundw
      case rel => exact ⟨K + 1, by omega, by go_num, Lib.hid (Or.inr (by rw [HD.out]; exact HBL4.out)), HB4⟩
      case measure => simp [intOf]; omega
    · have hltI : ¬ (K : Int) < (N : Int) := by omega
      have hd : X0 ++ (l.take K).flatMap layVd = X0 ++ l.flatMap layVd := by rw [List.take_of_length_le (by rw [HN.out]; omega)]
      have hbl := HBL.out
      rw [hd] at hbl
      have HBL5 := Lib.hid hbl
      have hbw : Below w.heap.size w wr := h2.trans HBE.out
      clear hbl hd
      go_wp2_with (go_at_call 112; refine (S.string_any w.heap.size w.heap.size _ _ HBL5.out hbw.size).mono ?_; rintro _ w5 ⟨rfl, hb5⟩; have HB5 := Lib.hid hb5; clear hb5)
      go_ret
      exact ⟨rfl, hbw.trans HB5.out⟩

set_option maxHeartbeats 4000000 in
theorem lays_E (l : List Ev) (HM : ∀ (W : World) (v : Value) (x : Ev), x ∈ l → (∃ u, v = .agg #[.int .i64 x.pos, u] ∧ SlN W u x.vars) → Calls Tryz.prog 131 #[v] W fun e w' => e = .returned (.string (str (layEv x))) ∧ Below W.heap.size W w')
    (hb : ∀ x ∈ l, (layEv x).length ≤ 8000) (v : Value) (w : World) (h : EvsIs w v l) (hl : l.length ≤ 256) :
    Calls Tryz.prog 130 #[v, .func (.func 131) #[] #[]] w fun e w' => e = .returned (.string (str (num (l.length : Int) ++ l.flatMap layEv))) ∧ Below w.heap.size w w' := by
  obtain ⟨a, cap, rfl, hc⟩ := h.open
  obtain ⟨N, hN⟩ : ∃ N, l.length = N := ⟨_, rfl⟩
  have HC := Lib.hid hc
  have HN := Lib.hid hN
  have HM := Lib.hid HM
  have HBD := Lib.hid hb
  rw [hN] at hl ⊢
  have H0 := Lib.hid (fun W => pnum_any (N : Int) W ⟨by omega, by omega⟩)
  have hz := num_len (N : Int) ⟨by omega, by omega⟩
  have HX0 := Lib.hid (show num (N : Int) = num (N : Int) from rfl)
  generalize num (N : Int) = X0 at *
  have HBN := Lib.hid (builder_new w 145 5)
  clear hc h hN hb HX0
  go_enter Tryz.func130, Tryz.ntmps130
  go_wp2_with fail
  refine (H0.out _).mono ?_
  rintro _ w1 ⟨rfl, hb1⟩
  have hbl1 := builder_below HBN.out hb1
  have h1 : Below w.heap.size w w1 := ((Below.refl _ _).alloc (Nat.le_refl _) _).trans (hb1.mono (by simp))
  clear hb1 HBN
  go_wp2_with fail
  refine (S.write_any w.heap.size w.heap.size [] _ _ hbl1 (by rw [str_size, List.length_nil]; omega) h1.size).mono ?_
  rintro _ w2 ⟨rfl, hbl2, hb2⟩
  rw [List.nil_append, show Lib.strCells (str X0) = Lib.byteCells X0 from rfl] at hbl2
  have HBL2 := Lib.hid (Or.inr hbl2 : Lib.IsBuilder 145 5 w.heap.size w.heap.size (Lib.byteCells X0) w2)
  have h2 : Below w.heap.size w w2 := h1.trans hb2
  clear h1 hb2 hbl1 hbl2
  go_wp2_with fail
  go_loopw [14] (fun i wr => ∃ K : Nat, K ≤ N ∧ i = .int .i64 (K : Int) ∧
      Hid (Lib.IsBuilder 145 5 w.heap.size w.heap.size (Lib.byteCells (X0 ++ (l.take K).flatMap layEv)) wr) ∧ Hid (Below w.heap.size w2 wr)) (fun i _ => N - (intOf i).toNat)
  case atStart => exact ⟨0, Nat.zero_le _, rfl, Lib.hid (by rw [List.take_zero, List.flatMap_nil, List.append_nil]; exact HBL2.out), Lib.hid (Below.refl _ _)⟩
  case round =>
    obtain ⟨K, hK, rfl, HBL, HBE⟩ := hrel
    by_cases hlt : K < N
    · obtain ⟨x, hx⟩ : ∃ x, l[K]? = some x := ⟨_, List.getElem?_eq_getElem (by rw [HN.out]; exact hlt)⟩
      have hbw : Below w.heap.size w wr := h2.trans HBE.out
      obtain ⟨b, off, ea, cs, -, ⟨u, rfl, hu⟩, hcell⟩ := HC.out K x hx
      subst ea
      obtain ⟨au, cu, rfl, -⟩ := id hu.open
      have k0 : wr.cell? ⟨b, off + K * 2, none⟩ = some (.int .i64 x.pos) := kept_cell hbw (hcell 0 _ rfl)
      have k1 : wr.cell? ⟨b, off + K * 2 + 1, none⟩ = some (.slice au x.vars.length cu) := kept_cell hbw (hcell 1 _ rfl)
      have hltI : (K : Int) < (N : Int) := by omega
      have hk0 : 0 ≤ (K : Int) := by omega
      have hw1 : IntKind.i64.wrap ((K : Int) + 1) = (K : Int) + 1 := IntWalk.i64_in _ (by omega)
      have hfl := flat_len layEv 8000 (l.take K) fun y hy => HBD.out y (List.mem_of_mem_take hy)
      rw [List.length_take] at hfl
      have hxl := HBD.out x (List.mem_of_getElem? hx)
      have HD := Lib.hid (show (l.take (K + 1)).flatMap layEv = (l.take K).flatMap layEv ++ layEv x from flat_take layEv hx)
      have HV := Lib.hid (fun W (hb : Below w.heap.size w W) => HM.out W _ x (List.mem_of_getElem? hx) ⟨_, rfl, hu.below hb⟩)
      clear hcell hx hbw hu
      obtain ⟨W3, hW3⟩ : ∃ W3, wr.alloc (.cells #[.int .i64 x.pos, .slice au x.vars.length cu] 133) = W3 := ⟨_, rfl⟩
      have hB3 : Below wr.heap.size wr W3 := by rw [← hW3]; exact below_alloc _ _
      have HB3 := Lib.hid hB3
      clear hB3
      have m0 : W3.cell? ⟨wr.heap.size, 0, none⟩ = some (.int .i64 x.pos) := by rw [← hW3]; exact alloc_cell wr [_, _] _ 0 _ rfl
      have m1 : W3.cell? ⟨wr.heap.size, 1, none⟩ = some (.slice au x.vars.length cu) := by rw [← hW3]; exact alloc_cell wr [_, _] _ 1 _ rfl
      go_wp2_with fail
      refine (HV.out _ ((h2.trans HBE.out).trans (HB3.out.mono (Nat.le_trans h2.size HBE.out.size)))).mono ?_
      rintro _ w3 ⟨rfl, hb3'⟩
      have hb3 : Below wr.heap.size wr w3 := HB3.out.trans (hb3'.mono HB3.out.size)
      have hbl3 := builder_below HBL.out hb3
      have h3 : Below w.heap.size w2 w3 := HBE.out.trans (hb3.mono (Nat.le_trans h2.size HBE.out.size))
      go_wp2_with fail
      refine (S.write_any w.heap.size w.heap.size _ _ _ hbl3 (by rw [str_size, Lib.byteCells_length, List.length_append]; omega) (Nat.le_trans h2.size h3.size)).mono ?_
      rintro _ w4 ⟨rfl, hbl4, hb4⟩
      rw [show Lib.strCells (str (layEv x)) = Lib.byteCells (layEv x) from rfl, ← Lib.byteCells_append, List.append_assoc] at hbl4
      have h4 : Below w.heap.size w2 w4 := h3.trans hb4
      have HBL4 := Lib.hid hbl4
      have HB4 := Lib.hid h4
      clear hbl3 hbl4 h3 h4 hb4 hb3
      go_wp2_with fail
      go_roundw
      case rel => exact ⟨K + 1, by omega, by go_num, Lib.hid (Or.inr (by rw [HD.out]; exact HBL4.out)), HB4⟩
      case measure => simp [intOf]; omega
    · have hltI : ¬ (K : Int) < (N : Int) := by omega
      have hd : X0 ++ (l.take K).flatMap layEv = X0 ++ l.flatMap layEv := by rw [List.take_of_length_le (by rw [HN.out]; omega)]
      have hbl := HBL.out
      rw [hd] at hbl
      have HBL5 := Lib.hid hbl
      have hbw : Below w.heap.size w wr := h2.trans HBE.out
      clear hbl hd
      go_wp2_with (go_at_call 112; refine (S.string_any w.heap.size w.heap.size _ _ HBL5.out hbw.size).mono ?_; rintro _ w5 ⟨rfl, hb5⟩; have HB5 := Lib.hid hb5; clear hb5)
      go_ret
      exact ⟨rfl, hbw.trans HB5.out⟩

set_option maxHeartbeats 4000000 in
theorem lays_T (l : List It) (HM : ∀ (W : World) (v : Value) (x : It), x ∈ l → (∃ u, v = .agg #[.string (str x.stream), .int .i64 x.st.pos, .int .i64 x.st.ver, u] ∧ SlN W u x.st.vars) → Calls Tryz.prog 74 #[v] W fun e w' => e = .returned (.string (str (layIt x))) ∧ Below W.heap.size W w')
    (hb : ∀ x ∈ l, (layIt x).length ≤ 8000) (v : Value) (w : World) (h : ItsIs w v l) (hl : l.length ≤ 256) :
    Calls Tryz.prog 73 #[v, .func (.func 74) #[] #[]] w fun e w' => e = .returned (.string (str (num (l.length : Int) ++ l.flatMap layIt))) ∧ Below w.heap.size w w' := by
  obtain ⟨a, cap, rfl, hc⟩ := h.open
  obtain ⟨N, hN⟩ : ∃ N, l.length = N := ⟨_, rfl⟩
  have HC := Lib.hid hc
  have HN := Lib.hid hN
  have HM := Lib.hid HM
  have HBD := Lib.hid hb
  rw [hN] at hl ⊢
  have H0 := Lib.hid (fun W => pnum_any (N : Int) W ⟨by omega, by omega⟩)
  have hz := num_len (N : Int) ⟨by omega, by omega⟩
  have HX0 := Lib.hid (show num (N : Int) = num (N : Int) from rfl)
  generalize num (N : Int) = X0 at *
  have HBN := Lib.hid (builder_new w 145 5)
  clear hc h hN hb HX0
  go_enter Tryz.func73, Tryz.ntmps73
  go_wp2_with fail
  refine (H0.out _).mono ?_
  rintro _ w1 ⟨rfl, hb1⟩
  have hbl1 := builder_below HBN.out hb1
  have h1 : Below w.heap.size w w1 := ((Below.refl _ _).alloc (Nat.le_refl _) _).trans (hb1.mono (by simp))
  clear hb1 HBN
  go_wp2_with fail
  refine (S.write_any w.heap.size w.heap.size [] _ _ hbl1 (by rw [str_size, List.length_nil]; omega) h1.size).mono ?_
  rintro _ w2 ⟨rfl, hbl2, hb2⟩
  rw [List.nil_append, show Lib.strCells (str X0) = Lib.byteCells X0 from rfl] at hbl2
  have HBL2 := Lib.hid (Or.inr hbl2 : Lib.IsBuilder 145 5 w.heap.size w.heap.size (Lib.byteCells X0) w2)
  have h2 : Below w.heap.size w w2 := h1.trans hb2
  clear h1 hb2 hbl1 hbl2
  go_wp2_with fail
  go_loopw [14] (fun i wr => ∃ K : Nat, K ≤ N ∧ i = .int .i64 (K : Int) ∧
      Hid (Lib.IsBuilder 145 5 w.heap.size w.heap.size (Lib.byteCells (X0 ++ (l.take K).flatMap layIt)) wr) ∧ Hid (Below w.heap.size w2 wr)) (fun i _ => N - (intOf i).toNat)
  case atStart => exact ⟨0, Nat.zero_le _, rfl, Lib.hid (by rw [List.take_zero, List.flatMap_nil, List.append_nil]; exact HBL2.out), Lib.hid (Below.refl _ _)⟩
  case round =>
    obtain ⟨K, hK, rfl, HBL, HBE⟩ := hrel
    by_cases hlt : K < N
    · obtain ⟨x, hx⟩ : ∃ x, l[K]? = some x := ⟨_, List.getElem?_eq_getElem (by rw [HN.out]; exact hlt)⟩
      have hbw : Below w.heap.size w wr := h2.trans HBE.out
      obtain ⟨b, off, ea, cs, -, ⟨u, rfl, hu⟩, hcell⟩ := HC.out K x hx
      subst ea
      obtain ⟨au, cu, rfl, -⟩ := id hu.open
      have k0 : wr.cell? ⟨b, off + K * 4, none⟩ = some (.string (str x.stream)) := kept_cell hbw (hcell 0 _ rfl)
      have k1 : wr.cell? ⟨b, off + K * 4 + 1, none⟩ = some (.int .i64 x.st.pos) := kept_cell hbw (hcell 1 _ rfl)
      have k2 : wr.cell? ⟨b, off + K * 4 + 2, none⟩ = some (.int .i64 x.st.ver) := kept_cell hbw (hcell 2 _ rfl)
      have k3 : wr.cell? ⟨b, off + K * 4 + 3, none⟩ = some (.slice au x.st.vars.length cu) := kept_cell hbw (hcell 3 _ rfl)
      have hltI : (K : Int) < (N : Int) := by omega
      have hk0 : 0 ≤ (K : Int) := by omega
      have hw1 : IntKind.i64.wrap ((K : Int) + 1) = (K : Int) + 1 := IntWalk.i64_in _ (by omega)
      have hfl := flat_len layIt 8000 (l.take K) fun y hy => HBD.out y (List.mem_of_mem_take hy)
      rw [List.length_take] at hfl
      have hxl := HBD.out x (List.mem_of_getElem? hx)
      have HD := Lib.hid (show (l.take (K + 1)).flatMap layIt = (l.take K).flatMap layIt ++ layIt x from flat_take layIt hx)
      have HV := Lib.hid (fun W (hb : Below w.heap.size w W) => HM.out W _ x (List.mem_of_getElem? hx) ⟨_, rfl, hu.below hb⟩)
      clear hcell hx hbw hu
      obtain ⟨W3, hW3⟩ : ∃ W3, wr.alloc (.cells #[.string (str x.stream), .int .i64 x.st.pos, .int .i64 x.st.ver, .slice au x.st.vars.length cu] 73) = W3 := ⟨_, rfl⟩
      have hB3 : Below wr.heap.size wr W3 := by rw [← hW3]; exact below_alloc _ _
      have HB3 := Lib.hid hB3
      clear hB3
      have m0 : W3.cell? ⟨wr.heap.size, 0, none⟩ = some (.string (str x.stream)) := by rw [← hW3]; exact alloc_cell wr [_, _, _, _] _ 0 _ rfl
      have m1 : W3.cell? ⟨wr.heap.size, 1, none⟩ = some (.int .i64 x.st.pos) := by rw [← hW3]; exact alloc_cell wr [_, _, _, _] _ 1 _ rfl
      have m2 : W3.cell? ⟨wr.heap.size, 2, none⟩ = some (.int .i64 x.st.ver) := by rw [← hW3]; exact alloc_cell wr [_, _, _, _] _ 2 _ rfl
      have m3 : W3.cell? ⟨wr.heap.size, 3, none⟩ = some (.slice au x.st.vars.length cu) := by rw [← hW3]; exact alloc_cell wr [_, _, _, _] _ 3 _ rfl
      go_wp2_with fail
      refine (HV.out _ ((h2.trans HBE.out).trans (HB3.out.mono (Nat.le_trans h2.size HBE.out.size)))).mono ?_
      rintro _ w3 ⟨rfl, hb3'⟩
      have hb3 : Below wr.heap.size wr w3 := HB3.out.trans (hb3'.mono HB3.out.size)
      have hbl3 := builder_below HBL.out hb3
      have h3 : Below w.heap.size w2 w3 := HBE.out.trans (hb3.mono (Nat.le_trans h2.size HBE.out.size))
      go_wp2_with fail
      refine (S.write_any w.heap.size w.heap.size _ _ _ hbl3 (by rw [str_size, Lib.byteCells_length, List.length_append]; omega) (Nat.le_trans h2.size h3.size)).mono ?_
      rintro _ w4 ⟨rfl, hbl4, hb4⟩
      rw [show Lib.strCells (str (layIt x)) = Lib.byteCells (layIt x) from rfl, ← Lib.byteCells_append, List.append_assoc] at hbl4
      have h4 : Below w.heap.size w2 w4 := h3.trans hb4
      have HBL4 := Lib.hid hbl4
      have HB4 := Lib.hid h4
      clear hbl3 hbl4 h3 h4 hb4 hb3
      go_wp2_with fail
      go_roundw
      case rel => exact ⟨K + 1, by omega, by go_num, Lib.hid (Or.inr (by rw [HD.out]; exact HBL4.out)), HB4⟩
      case measure => simp [intOf]; omega
    · have hltI : ¬ (K : Int) < (N : Int) := by omega
      have hd : X0 ++ (l.take K).flatMap layIt = X0 ++ l.flatMap layIt := by rw [List.take_of_length_le (by rw [HN.out]; omega)]
      have hbl := HBL.out
      rw [hd] at hbl
      have HBL5 := Lib.hid hbl
      have hbw : Below w.heap.size w wr := h2.trans HBE.out
      clear hbl hd
      go_wp2_with (go_at_call 112; refine (S.string_any w.heap.size w.heap.size _ _ HBL5.out hbw.size).mono ?_; rintro _ w5 ⟨rfl, hb5⟩; have HB5 := Lib.hid hb5; clear hb5)
      go_ret
      exact ⟨rfl, hbw.trans HB5.out⟩

theorem playVerdicts_any (l : List Vd) (v : Value) (w : World) (h : VdsIs w v l) (hx : ∀ x ∈ l, VdWf x) (hl : l.length ≤ 256) : Calls Tryz.prog 34 #[v] w fun e w' => e = .returned (.string (str (layVds l))) ∧ Below w.heap.size w w' := by
  have H := Lib.hid (lays_V l (fun W v x hm hv => by subst hv; exact layVd1_any x W (hx x hm)) (fun x hm => by have := playVd_len x (hx x hm); omega) v w h hl)
  have hd : layVds l = num (l.length : Int) ++ l.flatMap layVd := rfl
  rw [hd]
  generalize num (l.length : Int) ++ l.flatMap layVd = R at H ⊢
  obtain ⟨a, cap, rfl, -⟩ := h.open
  clear h hx hd
  go_enter Tryz.func34, Tryz.ntmps34
  go_wp2_with (go_at_call 81; refine H.out.mono ?_; rintro _ w1 ⟨rfl, hb1⟩; have HB1 := Lib.hid hb1; clear hb1)
  go_ret
  exact ⟨rfl, HB1.out⟩

theorem playEvents_any (l : List Ev) (v : Value) (w : World) (h : EvsIs w v l) (hx : ∀ x ∈ l, EvWf x ∧ x.vars.length ≤ 256) (hl : l.length ≤ 256) : Calls Tryz.prog 99 #[v] w fun e w' => e = .returned (.string (str (layEvs l))) ∧ Below w.heap.size w w' := by
  have H := Lib.hid (lays_E l (fun W v x hm hv => by obtain ⟨u, rfl, hu⟩ := hv; exact layEv1_any x u W hu (hx x hm).1 (hx x hm).2) (fun x hm => by have := layEv_len8 x (hx x hm).1 (hx x hm).2; omega) v w h hl)
  have hd : layEvs l = num (l.length : Int) ++ l.flatMap layEv := rfl
  rw [hd]
  generalize num (l.length : Int) ++ l.flatMap layEv = R at H ⊢
  obtain ⟨a, cap, rfl, -⟩ := h.open
  clear h hx hd
  go_enter Tryz.func99, Tryz.ntmps99
  go_wp2_with (go_at_call 130; refine H.out.mono ?_; rintro _ w1 ⟨rfl, hb1⟩; have HB1 := Lib.hid hb1; clear hb1)
  go_ret
  exact ⟨rfl, HB1.out⟩

theorem playItems_any (l : List It) (v : Value) (w : World) (h : ItsIs w v l) (hx : ∀ x ∈ l, StWf x.st ∧ x.stream.length ≤ 4096 ∧ x.st.vars.length ≤ 256) (hl : l.length ≤ 256) : Calls Tryz.prog 31 #[v] w fun e w' => e = .returned (.string (str (layItems l))) ∧ Below w.heap.size w w' := by
  have H := Lib.hid (lays_T l (fun W v x hm hv => by obtain ⟨u, rfl, hu⟩ := hv; exact layIt1_any x u W hu (hx x hm).1 (hx x hm).2.1 (hx x hm).2.2) (fun x hm => by exact layIt_len8 x (hx x hm).1 (hx x hm).2.1 (hx x hm).2.2) v w h hl)
  have hd : layItems l = num (l.length : Int) ++ l.flatMap layIt := rfl
  rw [hd]
  generalize num (l.length : Int) ++ l.flatMap layIt = R at H ⊢
  obtain ⟨a, cap, rfl, -⟩ := h.open
  clear h hx hd
  go_enter Tryz.func31, Tryz.ntmps31
  go_wp2_with (go_at_call 73; refine H.out.mono ?_; rintro _ w1 ⟨rfl, hb1⟩; have HB1 := Lib.hid hb1; clear hb1)
  go_ret
  exact ⟨rfl, HB1.out⟩
end Go.Proofs.YtebglkpejdoggaaGreat.C10
