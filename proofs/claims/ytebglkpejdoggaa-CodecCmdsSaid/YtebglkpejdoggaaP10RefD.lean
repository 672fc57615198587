/-
  Layer 10, the document's answers: the bytes of records.
-/
import Derived.Test.YtebglkpejdoggaaP10RefC
namespace Go.Proofs.Ytebglkpejdoggaa.C10
open Go Go.RowKit Go.Proofs Go.Proofs.Ytebglkpejdoggaa.B Go.Proofs.Ytebglkpejdoggaa.K Go.Proofs.Ytebglkpejdoggaa.P8
set_option linter.unusedVariables false
set_option maxRecDepth 100000

theorem layEvs_len (l : List Ev) (h : EvsWf l) (hl : l.length ≤ 40000) : (layEvs l).length ≤ 8000000000000000010 := by
  unfold layEvs
  rw [List.length_append]
  have h1 := num_len (l.length : Int) ⟨by omega, by omega⟩
  have h2 := flat_len layEv 200000000000000 l fun y hy => layEv_len y (h.1 y hy)
  omega

set_option maxHeartbeats 4000000 in
theorem layRec_any (L : Low) (c : Rc) (u : Value) (w : World) (h : EvsIs w u c.events) (hw : RcWf c) (hl : c.events.length ≤ 40000) :
    Calls Try.prog 13 #[.agg #[.int .i64 c.client, .int .i64 c.seq, .string (str c.stream), .int .i64 c.code, u]] w fun e w' => e = .returned (.string (str (layRec c))) ∧ Below w.heap.size w w' := by
  obtain ⟨n0, n1, s, n3, ar⟩ := c
  obtain ⟨hw0, hw1, hw2, hw3, hw4⟩ := hw
  dsimp only at h hw0 hw1 hw2 hw3 hw4 hl ⊢
  obtain ⟨W0, hW0⟩ : ∃ W0, w.alloc (.cells #[.int .i64 n0, .int .i64 n1, .string (str s), .int .i64 n3, u] 27) = W0 := ⟨_, rfl⟩
  obtain ⟨g, hg⟩ : ∃ g, w.heap.size = g := ⟨_, rfl⟩
  have hB0 : Below w.heap.size w W0 := by rw [← hW0]; exact below_alloc _ _
  have k0 : W0.cell? ⟨g, 0, none⟩ = some (.int .i64 n0) := by rw [← hW0, ← hg]; exact alloc_cell w [_, _, _, _, _] _ 0 _ rfl
  have k1 : W0.cell? ⟨g, 1, none⟩ = some (.int .i64 n1) := by rw [← hW0, ← hg]; exact alloc_cell w [_, _, _, _, _] _ 1 _ rfl
  have k2 : W0.cell? ⟨g, 2, none⟩ = some (.string (str s)) := by rw [← hW0, ← hg]; exact alloc_cell w [_, _, _, _, _] _ 2 _ rfl
  have k3 : W0.cell? ⟨g, 3, none⟩ = some (.int .i64 n3) := by rw [← hW0, ← hg]; exact alloc_cell w [_, _, _, _, _] _ 3 _ rfl
  have k4 : W0.cell? ⟨g, 4, none⟩ = some u := by rw [← hW0, ← hg]; exact alloc_cell w [_, _, _, _, _] _ 4 _ rfl
  have hl1 := numsL_len [n0, n1] (by intro x hx; simp at hx; rcases hx with rfl | rfl <;> assumption)
  have hl2 := textL_len s hw2
  have hl3 := num_len n3 hw3
  have hl4 := layEvs_len ar hw4 hl
  unfold TxWf at hw2
  simp only [List.length_cons, List.length_nil] at hl1
  have hD : layRec ⟨n0, n1, s, n3, ar⟩ = numsL [n0, n1] ++ textL s ++ num n3 ++ layEvs ar := rfl
  rw [hD]
  have C1 := Lib.hid (fun (W : World) => numbers_any L [n0, n1] _ _ (sln_built W [n0, n1] #[.int .i64 n0, .int .i64 n1] 3 2 2 rfl rfl) ⟨by intro x hx; simp at hx; rcases hx with rfl | rfl <;> assumption, by simp⟩)
  have C2 := Lib.hid (fun W => text_any L s W hw2)
  have C3 := Lib.hid (fun W => L.number n3 W hw3)
  have C4 := Lib.hid (fun W (hb : Below w.heap.size w W) => layEvs_any L ar u W (h.below hb) hw4 hl)
  have e1 := add_str (numsL [n0, n1]) (textL s) (by omega)
  have e2 := add_str (numsL [n0, n1] ++ textL s) (num n3) (by rw [List.length_append]; omega)
  have e3 := add_str (numsL [n0, n1] ++ textL s ++ num n3) (layEvs ar) (by rw [List.length_append, List.length_append]; omega)
  generalize hX1 : numsL [n0, n1] = X1 at *
  generalize hX2 : textL s = X2 at *
  generalize hX3 : num n3 = X3 at *
  generalize hX4 : layEvs ar = X4 at *
  generalize hU1 : X1 ++ X2 = U1 at *
  generalize hU2 : U1 ++ X3 = U2 at *
  generalize hU3 : U2 ++ X4 = U3 at *
  clear hX1 hX2 hX3 hX4 hU1 hU2 hU3 hl1 hl2 hl3 hl4 hD hw0 hw1 hw2 hw3 hw4 h
  have hS0 : (W0.drew.cell? ⟨g, 2, none⟩ = some (Value.string (str s)) ∧ W0.drew.cell? ⟨g, 3, none⟩ = some (Value.int .i64 n3) ∧ W0.drew.cell? ⟨g, 4, none⟩ = some u ∧ W0.drew.cell? ⟨g, 0, none⟩ = some (Value.int .i64 n0) ∧ W0.drew.cell? ⟨g, 1, none⟩ = some (Value.int .i64 n1) ∧ Below w.heap.size w W0.drew) := ⟨k2, k3, k4, k0, k1, hB0.drew⟩
  have hSA : ((W0.drew.alloc (.cells #[.int .i64 n0, .int .i64 n1] 3)).cell? ⟨g, 2, none⟩ = some (Value.string (str s)) ∧ (W0.drew.alloc (.cells #[.int .i64 n0, .int .i64 n1] 3)).cell? ⟨g, 3, none⟩ = some (Value.int .i64 n3) ∧ (W0.drew.alloc (.cells #[.int .i64 n0, .int .i64 n1] 3)).cell? ⟨g, 4, none⟩ = some u ∧ (W0.drew.alloc (.cells #[.int .i64 n0, .int .i64 n1] 3)).cell? ⟨g, 0, none⟩ = some (Value.int .i64 n0) ∧ (W0.drew.alloc (.cells #[.int .i64 n0, .int .i64 n1] 3)).cell? ⟨g, 1, none⟩ = some (Value.int .i64 n1) ∧ Below w.heap.size w (W0.drew.alloc (.cells #[.int .i64 n0, .int .i64 n1] 3))) := ⟨cell_alloc k2, cell_alloc k3, cell_alloc k4, cell_alloc k0, cell_alloc k1, hB0.drew.trans ((below_alloc _ _).mono hB0.size)⟩
  have G1 := Lib.hid (fun (hS : ((W0.drew.alloc (.cells #[.int .i64 n0, .int .i64 n1] 3)).cell? ⟨g, 2, none⟩ = some (Value.string (str s)) ∧ (W0.drew.alloc (.cells #[.int .i64 n0, .int .i64 n1] 3)).cell? ⟨g, 3, none⟩ = some (Value.int .i64 n3) ∧ (W0.drew.alloc (.cells #[.int .i64 n0, .int .i64 n1] 3)).cell? ⟨g, 4, none⟩ = some u ∧ (W0.drew.alloc (.cells #[.int .i64 n0, .int .i64 n1] 3)).cell? ⟨g, 0, none⟩ = some (Value.int .i64 n0) ∧ (W0.drew.alloc (.cells #[.int .i64 n0, .int .i64 n1] 3)).cell? ⟨g, 1, none⟩ = some (Value.int .i64 n1) ∧ Below w.heap.size w (W0.drew.alloc (.cells #[.int .i64 n0, .int .i64 n1] 3)))) => (C1.out W0.drew).mono (fun e (w' : World) ⟨h1, h2⟩ => (⟨h1, kept_cell h2 hS.1, kept_cell h2 hS.2.1, kept_cell h2 hS.2.2.1, kept_cell h2 hS.2.2.2.1, kept_cell h2 hS.2.2.2.2.1, hS.2.2.2.2.2.trans (h2.mono hS.2.2.2.2.2.size)⟩ : e = Ending.returned (Value.string (str X1)) ∧ (w'.cell? ⟨g, 2, none⟩ = some (Value.string (str s)) ∧ w'.cell? ⟨g, 3, none⟩ = some (Value.int .i64 n3) ∧ w'.cell? ⟨g, 4, none⟩ = some u ∧ w'.cell? ⟨g, 0, none⟩ = some (Value.int .i64 n0) ∧ w'.cell? ⟨g, 1, none⟩ = some (Value.int .i64 n1) ∧ Below w.heap.size w w'))))
  have G2 := Lib.hid (fun (W : World) (hS : (W.cell? ⟨g, 2, none⟩ = some (Value.string (str s)) ∧ W.cell? ⟨g, 3, none⟩ = some (Value.int .i64 n3) ∧ W.cell? ⟨g, 4, none⟩ = some u ∧ W.cell? ⟨g, 0, none⟩ = some (Value.int .i64 n0) ∧ W.cell? ⟨g, 1, none⟩ = some (Value.int .i64 n1) ∧ Below w.heap.size w W)) => (C2.out W).mono (fun e (w' : World) ⟨h1, h2⟩ => (⟨h1, kept_cell h2 hS.1, kept_cell h2 hS.2.1, kept_cell h2 hS.2.2.1, kept_cell h2 hS.2.2.2.1, kept_cell h2 hS.2.2.2.2.1, hS.2.2.2.2.2.trans (h2.mono hS.2.2.2.2.2.size)⟩ : e = Ending.returned (Value.string (str X2)) ∧ (w'.cell? ⟨g, 2, none⟩ = some (Value.string (str s)) ∧ w'.cell? ⟨g, 3, none⟩ = some (Value.int .i64 n3) ∧ w'.cell? ⟨g, 4, none⟩ = some u ∧ w'.cell? ⟨g, 0, none⟩ = some (Value.int .i64 n0) ∧ w'.cell? ⟨g, 1, none⟩ = some (Value.int .i64 n1) ∧ Below w.heap.size w w'))))
  have G3 := Lib.hid (fun (W : World) (hS : (W.cell? ⟨g, 2, none⟩ = some (Value.string (str s)) ∧ W.cell? ⟨g, 3, none⟩ = some (Value.int .i64 n3) ∧ W.cell? ⟨g, 4, none⟩ = some u ∧ W.cell? ⟨g, 0, none⟩ = some (Value.int .i64 n0) ∧ W.cell? ⟨g, 1, none⟩ = some (Value.int .i64 n1) ∧ Below w.heap.size w W)) => (C3.out W).mono (fun e (w' : World) ⟨h1, h2⟩ => (⟨h1, kept_cell h2 hS.1, kept_cell h2 hS.2.1, kept_cell h2 hS.2.2.1, kept_cell h2 hS.2.2.2.1, kept_cell h2 hS.2.2.2.2.1, hS.2.2.2.2.2.trans (h2.mono hS.2.2.2.2.2.size)⟩ : e = Ending.returned (Value.string (str X3)) ∧ (w'.cell? ⟨g, 2, none⟩ = some (Value.string (str s)) ∧ w'.cell? ⟨g, 3, none⟩ = some (Value.int .i64 n3) ∧ w'.cell? ⟨g, 4, none⟩ = some u ∧ w'.cell? ⟨g, 0, none⟩ = some (Value.int .i64 n0) ∧ w'.cell? ⟨g, 1, none⟩ = some (Value.int .i64 n1) ∧ Below w.heap.size w w'))))
  have G4 := Lib.hid (fun (W : World) (hS : (W.cell? ⟨g, 2, none⟩ = some (Value.string (str s)) ∧ W.cell? ⟨g, 3, none⟩ = some (Value.int .i64 n3) ∧ W.cell? ⟨g, 4, none⟩ = some u ∧ W.cell? ⟨g, 0, none⟩ = some (Value.int .i64 n0) ∧ W.cell? ⟨g, 1, none⟩ = some (Value.int .i64 n1) ∧ Below w.heap.size w W)) => (C4.out W hS.2.2.2.2.2).mono (fun e (w' : World) ⟨h1, h2⟩ => (⟨h1, kept_cell h2 hS.1, kept_cell h2 hS.2.1, kept_cell h2 hS.2.2.1, kept_cell h2 hS.2.2.2.1, kept_cell h2 hS.2.2.2.2.1, hS.2.2.2.2.2.trans (h2.mono hS.2.2.2.2.2.size)⟩ : e = Ending.returned (Value.string (str X4)) ∧ (w'.cell? ⟨g, 2, none⟩ = some (Value.string (str s)) ∧ w'.cell? ⟨g, 3, none⟩ = some (Value.int .i64 n3) ∧ w'.cell? ⟨g, 4, none⟩ = some u ∧ w'.cell? ⟨g, 0, none⟩ = some (Value.int .i64 n0) ∧ w'.cell? ⟨g, 1, none⟩ = some (Value.int .i64 n1) ∧ Below w.heap.size w w'))))
  clear k0 k1 k2 k3 k4 C1 C2 C3 C4
  go_enter Try.func13, Try.ntmps13
  go_upto_region 1 with fail
  clear hW0
  go_region_held_law (fun W => (W.cell? ⟨g, 2, none⟩ = some (Value.string (str s)) ∧ W.cell? ⟨g, 3, none⟩ = some (Value.int .i64 n3) ∧ W.cell? ⟨g, 4, none⟩ = some u ∧ W.cell? ⟨g, 0, none⟩ = some (Value.int .i64 n0) ∧ W.cell? ⟨g, 1, none⟩ = some (Value.int .i64 n1) ∧ Below w.heap.size w W)) (first | exact hS0 | exact hSA | assumption) (first | (go_at_call 29; refine (G1.out hSA).mono ?_; rintro _ w1 ⟨rfl, hS1⟩) | (go_at_call 30; ((with_reducible refine (G2.out _ ?_).mono ?_); (first | exact hS0 | exact hSA | assumption)); rintro _ w2 ⟨rfl, hS2⟩) | (go_at_call 31; ((with_reducible refine (G3.out _ ?_).mono ?_); (first | exact hS0 | exact hSA | assumption)); rintro _ w3 ⟨rfl, hS3⟩) | (go_at_call 15; ((with_reducible refine (G4.out _ ?_).mono ?_); (first | exact hS0 | exact hSA | assumption)); rintro _ w4 ⟨rfl, hS4⟩))
  go_wp2_with fail
  go_ret
  exact ⟨rfl, hS4.2.2.2.2.2⟩
end Go.Proofs.Ytebglkpejdoggaa.C10
