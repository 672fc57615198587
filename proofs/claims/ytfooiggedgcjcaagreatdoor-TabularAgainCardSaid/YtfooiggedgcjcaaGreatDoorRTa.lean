/-
  Layer 5: the law's own table.
-/
import Derived.Test.YtfooiggedgcjcaaGreatDoorESame
namespace Go.Proofs.YtfooiggedgcjcaaGreatDoor.R
open Go Go.RowKit Go.Proofs.YtfooiggedgcjcaaGreatDoor.B Go.Proofs.YtfooiggedgcjcaaGreatDoor.K Go.Proofs.YtfooiggedgcjcaaGreatDoor.E
set_option linter.unusedVariables false

theorem ins_info : (Tryz.prog.info? 83).map (·.size) = some 2 := by kernel_rfl
theorem table_info : (Tryz.prog.info? 26).map (·.size) = some 4 := by kernel_rfl

theorem law_c (n : Int) (w : World) : Calls Tryz.prog 37 #[.int .i64 n] w fun z w' => z = .returned (.agg #[.int .i64 1, .int .i64 n]) ∧ Below w.heap.size w w' := by
  obtain ⟨W0, hW0⟩ : ∃ W0, w.alloc (.cells #[.int .i64 1, .int .i64 n] 83) = W0 := ⟨_, rfl⟩
  have hB0 : Below w.heap.size w W0 := by rw [← hW0]; exact below_alloc _ _
  have hh : W0.heap[w.heap.size]? = some (.cells #[.int .i64 1, .int .i64 n] 83 (0, 0)) := by rw [← hW0]; exact heap_alloc_at _ _
  go_enter Tryz.func37, Tryz.ntmps37
  go_wp2_with fail
  exact bodyPost_ret (v := .agg #[.int .i64 1, .int .i64 n]) (results_cell_row rfl _ _ w.heap.size 83 _ (0, 0) _ rfl hh Tryz.underlying83 rfl ins_info) rfl ⟨rfl, hB0⟩

theorem law_a (n : Int) (w : World) : Calls Tryz.prog 38 #[.int .i64 n] w fun z w' => z = .returned (.agg #[.int .i64 3, .int .i64 n]) ∧ Below w.heap.size w w' := by
  obtain ⟨W0, hW0⟩ : ∃ W0, w.alloc (.cells #[.int .i64 3, .int .i64 n] 83) = W0 := ⟨_, rfl⟩
  have hB0 : Below w.heap.size w W0 := by rw [← hW0]; exact below_alloc _ _
  have hh : W0.heap[w.heap.size]? = some (.cells #[.int .i64 3, .int .i64 n] 83 (0, 0)) := by rw [← hW0]; exact heap_alloc_at _ _
  go_enter Tryz.func38, Tryz.ntmps38
  go_wp2_with fail
  exact bodyPost_ret (v := .agg #[.int .i64 3, .int .i64 n]) (results_cell_row rfl _ _ w.heap.size 83 _ (0, 0) _ rfl hh Tryz.underlying83 rfl ins_info) rfl ⟨rfl, hB0⟩

/-- A table's own cells, empty; filled. -/
def F4T' (w : World) (g : Nat) (a b c d : Value) : Prop := w.heap[g]? = some (.cells #[a, b, c, d] 26 (0, 0))
def F4T (w : World) (g : Nat) : Prop := w.heap[g]? = some (.cells #[.slice none 0 0, .slice none 0 0, .slice none 0 0, .slice none 0 0] 26 (0, 0))
theorem F4T.cells {w : World} {g : Nat} (h : F4T w g) : (w.cell? ⟨g, 0, none⟩ = some (.slice none 0 0) ∧ w.frozen? ⟨g, 0, none⟩ = false) ∧ (w.cell? ⟨g, 1, none⟩ = some (.slice none 0 0) ∧ w.frozen? ⟨g, 1, none⟩ = false) ∧
    (w.cell? ⟨g, 2, none⟩ = some (.slice none 0 0) ∧ w.frozen? ⟨g, 2, none⟩ = false) ∧ (w.cell? ⟨g, 3, none⟩ = some (.slice none 0 0) ∧ w.frozen? ⟨g, 3, none⟩ = false) := by
  unfold F4T at h
  refine ⟨⟨?_, ?_⟩, ⟨?_, ?_⟩, ⟨?_, ?_⟩, ⟨?_, ?_⟩⟩ <;> simp [World.cell?, World.frozen?, h]
theorem F4T.set {w : World} {g : Nat} (h : F4T w g) (a b c d : Value) : F4T' ((((w.setCell ⟨g, 0, none⟩ a).setCell ⟨g, 1, none⟩ b).setCell ⟨g, 2, none⟩ c).setCell ⟨g, 3, none⟩ d) g a b c d :=
  heap_setCell_same _ g 3 _ 26 _ (heap_setCell_same _ g 2 _ 26 _ (heap_setCell_same _ g 1 _ 26 _ (heap_setCell_same _ g 0 _ 26 _ h)))

theorem law_v (n : Int) (w : World) : Calls Tryz.prog 40 #[.int .i64 n] w fun z w' => z = .returned (.agg #[.int .i64 2, .int .i64 n]) ∧ Below w.heap.size w w' := by
  obtain ⟨W0, hW0⟩ : ∃ W0, w.alloc (.cells #[.int .i64 2, .int .i64 n] 83) = W0 := ⟨_, rfl⟩
  have hB0 : Below w.heap.size w W0 := by rw [← hW0]; exact below_alloc _ _
  have hh : W0.heap[w.heap.size]? = some (.cells #[.int .i64 2, .int .i64 n] 83 (0, 0)) := by rw [← hW0]; exact heap_alloc_at _ _
  go_enter Tryz.func40, Tryz.ntmps40
  go_wp2_with fail
  exact bodyPost_ret (v := .agg #[.int .i64 2, .int .i64 n]) (results_cell_row rfl _ _ w.heap.size 83 _ (0, 0) _ rfl hh Tryz.underlying83 rfl ins_info) rfl ⟨rfl, hB0⟩

theorem law_o (n : Int) (w : World) : Calls Tryz.prog 39 #[.int .i64 n] w fun z w' => z = .returned (.agg #[.int .i64 n, .int .i64 0]) ∧ Below w.heap.size w w' := by
  obtain ⟨W0, hW0⟩ : ∃ W0, w.alloc (.cells #[.int .i64 n, .int .i64 0] 83) = W0 := ⟨_, rfl⟩
  have hB0 : Below w.heap.size w W0 := by rw [← hW0]; exact below_alloc _ _
  have hh : W0.heap[w.heap.size]? = some (.cells #[.int .i64 n, .int .i64 0] 83 (0, 0)) := by rw [← hW0]; exact heap_alloc_at _ _
  have hc : W0.cell? ⟨w.heap.size, 1, none⟩ = some (.int .i64 0) := by unfold World.cell?; rw [hh]; rfl
  have hf : W0.frozen? ⟨w.heap.size, 1, none⟩ = false := by unfold World.frozen?; rw [hh]; rfl
  have h1 := heap_setCell_same W0 w.heap.size 1 _ 83 (.int .i64 0) hh
  have hB1 : Below w.heap.size w (W0.setCell ⟨w.heap.size, 1, none⟩ (.int .i64 0)) := hB0.setCell (p := ⟨w.heap.size, 1, none⟩) (Nat.le_refl _) _
  have H1 := Lib.hid h1
  have HB1 := Lib.hid hB1
  clear h1 hB1 hh hB0
  go_enter Tryz.func39, Tryz.ntmps39
  go_wp2_with fail
  exact bodyPost_ret (v := .agg #[.int .i64 n, .int .i64 0]) (results_cell_row rfl _ _ w.heap.size 83 _ (0, 0) _ rfl H1.out Tryz.underlying83 rfl ins_info) rfl ⟨rfl, HB1.out⟩

/-- Where the law's own table lies: the blocks by the slots of the function that makes it; vF is what the second rule is for. -/
def SampAt (W : World) (G : Nat → Nat) (vF : Value) : Prop :=
  W.heap[G 1]? = some (.cells #[.string ⟨#[100, 114, 97, 102, 116]⟩, .string ⟨#[111, 112, 101, 110]⟩, .string ⟨#[100, 111, 110, 101]⟩] 9 (0, 0)) ∧
  W.heap[G 2]? = some (.cells #[.string ⟨#[116, 111, 116, 97, 108]⟩, .string ⟨#[109, 97, 110, 121]⟩] 9 (0, 0)) ∧
  W.heap[G 3]? = some (.cells #[.int .i64 0, .int .i64 0] 3 (0, 0)) ∧
  W.heap[G 4]? = some (.cells #[.int .i64 0, .int .i64 1] 3 (0, 0)) ∧
  W.heap[G 8]? = some (.cells #[.int .i64 1, .int .i64 0, .int .i64 3, .int .i64 0, .int .i64 11, .int .i64 0] 83 (0, 0)) ∧
  W.heap[G 13]? = some (.cells #[.int .i64 2, .int .i64 1, .int .i64 1, .int .i64 5, .int .i64 11, .int .i64 0] 83 (0, 0)) ∧
  W.heap[G 15]? = some (.cells #[.int .i64 16, .slice (some ⟨G 8, 0, none⟩) 3 3, .int .i64 17, .slice (some ⟨G 13, 0, none⟩) 3 3] 76 (0, 0)) ∧
  W.heap[G 19]? = some (.cells #[.int .i64 2, .int .i64 0, .int .i64 3, .int .i64 0, .int .i64 6, .int .i64 0] 83 (0, 0)) ∧
  W.heap[G 24]? = some (.cells #[.int .i64 2, .int .i64 1, .int .i64 1, .int .i64 1, .int .i64 6, .int .i64 0] 83 (0, 0)) ∧
  W.heap[G 26]? = some (.cells #[.int .i64 0, .slice (some ⟨G 19, 0, none⟩) 3 3, .int .i64 1, .slice (some ⟨G 24, 0, none⟩) 3 3] 86 (0, 0)) ∧
  W.heap[G 28]? = some (.cells #[.slice (some ⟨G 26, 0, none⟩) 2 2, .int .i64 1] 80 (0, 0)) ∧
  W.heap[G 30]? = some (.cells #[.int .i64 1] 3 (0, 0)) ∧
  W.heap[G 34]? = some (.cells #[.int .i64 2, .int .i64 0, .int .i64 1, .int .i64 2, .int .i64 8, .int .i64 0] 83 (0, 0)) ∧
  W.heap[G 36]? = some (.cells #[.int .i64 0, .slice (some ⟨G 34, 0, none⟩) 3 3] 86 (0, 0)) ∧
  W.heap[G 41]? = some (.cells #[.int .i64 2, .int .i64 0, .int .i64 1, .int .i64 9, .int .i64 9, .int .i64 0] 83 (0, 0)) ∧
  W.heap[G 43]? = some (.cells #[.int .i64 1, .slice (some ⟨G 41, 0, none⟩) 3 3] 86 (0, 0)) ∧
  W.heap[G 45]? = some (.cells #[.slice (some ⟨G 36, 0, none⟩) 1 1, .int .i64 (-1), .slice (some ⟨G 43, 0, none⟩) 1 1, .int .i64 (-1)] 80 (0, 0)) ∧
  W.heap[G 47]? = some (.cells #[.int .i64 1] 3 (0, 0)) ∧
  W.heap[G 51]? = some (.cells #[.int .i64 1, .int .i64 3, .int .i64 2, .int .i64 0, .int .i64 12, .int .i64 0] 83 (0, 0)) ∧
  W.heap[G 53]? = some (.cells #[.int .i64 20, .slice (some ⟨G 51, 0, none⟩) 3 3] 76 (0, 0)) ∧
  W.heap[G 55]? = some (.cells #[.slice none 0 0, .int .i64 2] 80 (0, 0)) ∧
  W.heap[G 60]? = some (.cells #[.int .i64 3, .int .i64 0, .int .i64 3, .int .i64 1, .int .i64 7, .int .i64 0] 83 (0, 0)) ∧
  W.heap[G 62]? = some (.cells #[.int .i64 0, .slice (some ⟨G 60, 0, none⟩) 3 3] 86 (0, 0)) ∧
  W.heap[G 64]? = some (.cells #[.slice (some ⟨G 62, 0, none⟩) 1 1, .int .i64 0] 80 (0, 0)) ∧
  W.heap[G 66]? = some (.cells #[.string ⟨#[97, 100, 100]⟩, .int .i64 1, .slice (some ⟨G 4, 0, none⟩) 2 2, .slice (some ⟨G 15, 0, none⟩) 2 2, .slice (some ⟨G 28, 0, none⟩) 1 1, .string ⟨#[100, 111, 117, 98, 108, 101]⟩, .int .i64 0, vF, .slice none 0 0, .slice (some ⟨G 45, 0, none⟩) 2 2, .string ⟨#[99, 108, 111, 115, 101]⟩, .int .i64 0, .slice (some ⟨G 47, 0, none⟩) 1 1, .slice (some ⟨G 53, 0, none⟩) 1 1, .slice (some ⟨G 55, 0, none⟩) 1 1, .string ⟨#[97, 103, 97, 105, 110]⟩, .int .i64 2, .slice none 0 0, .slice none 0 0, .slice (some ⟨G 64, 0, none⟩) 1 1] 58 (0, 0))

def sampSlots : List Nat := [1, 2, 3, 4, 8, 13, 15, 19, 24, 26, 28, 30, 34, 36, 41, 43, 45, 47, 51, 53, 55, 60, 62, 64, 66]

def sampVal (G : Nat → Nat) : Value := .agg #[.slice (some ⟨G 1, 0, none⟩) 3 3, .slice (some ⟨G 2, 0, none⟩) 2 2, .slice (some ⟨G 3, 0, none⟩) 2 2, .slice (some ⟨G 66, 0, none⟩) 4 4]

/-- What Sample hands out. -/
def SampIs (w : World) (z : Ending) (w' : World) : Prop := ∃ G : Nat → Nat, z = .returned (sampVal G) ∧ SampAt w' G (.slice (some ⟨G 30, 0, none⟩) 1 1) ∧ (∀ i ∈ sampSlots, w.heap.size ≤ G i ∧ (i ≠ 66 → G i < G 66)) ∧ G 66 < w'.heap.size

theorem fin4 {A L : World} {g gT : Nat} {o : Obj} (hX : A.heap[g]? = some o) (hT : Below A.heap.size A L) (hne : g ≠ gT) (a b c d : Value) : ((((L.setCell ⟨gT, 0, none⟩ a).setCell ⟨gT, 1, none⟩ b).setCell ⟨gT, 2, none⟩ c).setCell ⟨gT, 3, none⟩ d).heap[g]? = some o := by
  rw [heap_setCell_other _ ⟨gT, 3, none⟩ _ _ hne, heap_setCell_other _ ⟨gT, 2, none⟩ _ _ hne, heap_setCell_other _ ⟨gT, 1, none⟩ _ _ hne, heap_setCell_other _ ⟨gT, 0, none⟩ _ _ hne]
  exact (hT.block _ (Array.getElem?_eq_some_iff.1 hX).1).trans hX

set_option maxHeartbeats 8000000 in
set_option maxRecDepth 100000 in
theorem sample_any (w : World) : Calls Tryz.prog 17 #[] w fun z w' => SampIs w z w' ∧ Below w.heap.size w w' := by
  obtain ⟨g0, hg0⟩ : ∃ g, w.heap.size = g := ⟨_, rfl⟩
  obtain ⟨A1, hA1⟩ : ∃ A, w.alloc (.cells #[.slice none 0 0, .slice none 0 0, .slice none 0 0, .slice none 0 0] 26) = A := ⟨_, rfl⟩
  have X0 : Hid (A1.heap[g0]? = some (.cells #[.slice none 0 0, .slice none 0 0, .slice none 0 0, .slice none 0 0] 26 (0, 0))) := Lib.hid (by rw [← hA1, ← hg0]; exact heap_alloc_at _ _)
  have B1 : Hid (Below w.heap.size w A1) := Lib.hid (by rw [← hA1]; exact below_alloc _ _)
  have HG0 := Lib.hid hg0
  obtain ⟨g1, hg1⟩ : ∃ g, A1.heap.size = g := ⟨_, rfl⟩
  obtain ⟨A2, hA2⟩ : ∃ A, A1.alloc (.cells #[.string ⟨#[100, 114, 97, 102, 116]⟩, .string ⟨#[111, 112, 101, 110]⟩, .string ⟨#[100, 111, 110, 101]⟩] 9) = A := ⟨_, rfl⟩
  have X1 : Hid (A2.heap[g1]? = some (.cells #[.string ⟨#[100, 114, 97, 102, 116]⟩, .string ⟨#[111, 112, 101, 110]⟩, .string ⟨#[100, 111, 110, 101]⟩] 9 (0, 0))) := Lib.hid (by rw [← hA2, ← hg1]; exact heap_alloc_at _ _)
  have B2 : Hid (Below A1.heap.size A1 A2) := Lib.hid (by rw [← hA2]; exact below_alloc _ _)
  have HG1 := Lib.hid hg1
  obtain ⟨g2, hg2⟩ : ∃ g, A2.heap.size = g := ⟨_, rfl⟩
  obtain ⟨A3, hA3⟩ : ∃ A, A2.alloc (.cells #[.string ⟨#[116, 111, 116, 97, 108]⟩, .string ⟨#[109, 97, 110, 121]⟩] 9) = A := ⟨_, rfl⟩
  have X2 : Hid (A3.heap[g2]? = some (.cells #[.string ⟨#[116, 111, 116, 97, 108]⟩, .string ⟨#[109, 97, 110, 121]⟩] 9 (0, 0))) := Lib.hid (by rw [← hA3, ← hg2]; exact heap_alloc_at _ _)
  have B3 : Hid (Below A2.heap.size A2 A3) := Lib.hid (by rw [← hA3]; exact below_alloc _ _)
  have HG2 := Lib.hid hg2
  obtain ⟨g3, hg3⟩ : ∃ g, A3.heap.size = g := ⟨_, rfl⟩
  obtain ⟨A4, hA4⟩ : ∃ A, A3.alloc (.cells #[.int .i64 0, .int .i64 0] 3) = A := ⟨_, rfl⟩
  have X3 : Hid (A4.heap[g3]? = some (.cells #[.int .i64 0, .int .i64 0] 3 (0, 0))) := Lib.hid (by rw [← hA4, ← hg3]; exact heap_alloc_at _ _)
  have B4 : Hid (Below A3.heap.size A3 A4) := Lib.hid (by rw [← hA4]; exact below_alloc _ _)
  have HG3 := Lib.hid hg3
  obtain ⟨g4, hg4⟩ : ∃ g, A4.heap.size = g := ⟨_, rfl⟩
  obtain ⟨A5, hA5⟩ : ∃ A, A4.alloc (.cells #[.int .i64 0, .int .i64 1] 3) = A := ⟨_, rfl⟩
  have X4 : Hid (A5.heap[g4]? = some (.cells #[.int .i64 0, .int .i64 1] 3 (0, 0))) := Lib.hid (by rw [← hA5, ← hg4]; exact heap_alloc_at _ _)
  have B5 : Hid (Below A4.heap.size A4 A5) := Lib.hid (by rw [← hA5]; exact below_alloc _ _)
  have HG4 := Lib.hid hg4
  have HT := Lib.hid (show F4T A1 g0 from X0.out)
  go_enter Tryz.func17, Tryz.ntmps17
  go_wp2_with fail
  refine (law_c 0 A5).mono ?_
  rintro _ A6 ⟨rfl, hb⟩
  have B6 := Lib.hid hb
  clear hb hA5 hg4 hA4 hg3 hA3 hg2 hA2 hg1 hA1 hg0
  go_wp2_with fail
  refine (law_a 0 A6).mono ?_
  rintro _ A7 ⟨rfl, hb⟩
  have B7 := Lib.hid hb
  clear hb
  go_wp2_with fail
  refine (law_o 11 A7).mono ?_
  rintro _ A8 ⟨rfl, hb⟩
  have B8 := Lib.hid hb
  clear hb
  obtain ⟨g8, hg8⟩ : ∃ g, A8.heap.size = g := ⟨_, rfl⟩
  obtain ⟨A9, hA9⟩ : ∃ A, A8.alloc (.cells #[.int .i64 1, .int .i64 0, .int .i64 3, .int .i64 0, .int .i64 11, .int .i64 0] 83) = A := ⟨_, rfl⟩
  have X8 : Hid (A9.heap[g8]? = some (.cells #[.int .i64 1, .int .i64 0, .int .i64 3, .int .i64 0, .int .i64 11, .int .i64 0] 83 (0, 0))) := Lib.hid (by rw [← hA9, ← hg8]; exact heap_alloc_at _ _)
  have B9 : Hid (Below A8.heap.size A8 A9) := Lib.hid (by rw [← hA9]; exact below_alloc _ _)
  have HG8 := Lib.hid hg8
  go_wp2_with fail
  refine (law_v 1 A9).mono ?_
  rintro _ A10 ⟨rfl, hb⟩
  have B10 := Lib.hid hb
  clear hb hA9 hg8
  go_wp2_with fail
  refine (law_c 5 A10).mono ?_
  rintro _ A11 ⟨rfl, hb⟩
  have B11 := Lib.hid hb
  clear hb
  go_wp2_with fail
  refine (law_o 11 A11).mono ?_
  rintro _ A12 ⟨rfl, hb⟩
  have B12 := Lib.hid hb
  clear hb
  obtain ⟨g13, hg13⟩ : ∃ g, A12.heap.size = g := ⟨_, rfl⟩
  obtain ⟨A13, hA13⟩ : ∃ A, A12.alloc (.cells #[.int .i64 2, .int .i64 1, .int .i64 1, .int .i64 5, .int .i64 11, .int .i64 0] 83) = A := ⟨_, rfl⟩
  have X13 : Hid (A13.heap[g13]? = some (.cells #[.int .i64 2, .int .i64 1, .int .i64 1, .int .i64 5, .int .i64 11, .int .i64 0] 83 (0, 0))) := Lib.hid (by rw [← hA13, ← hg13]; exact heap_alloc_at _ _)
  have B13 : Hid (Below A12.heap.size A12 A13) := Lib.hid (by rw [← hA13]; exact below_alloc _ _)
  have HG13 := Lib.hid hg13
  obtain ⟨g15, hg15⟩ : ∃ g, A13.heap.size = g := ⟨_, rfl⟩
  obtain ⟨A14, hA14⟩ : ∃ A, A13.alloc (.cells #[.int .i64 16, .slice (some ⟨g8, 0, none⟩) 3 3, .int .i64 17, .slice (some ⟨g13, 0, none⟩) 3 3] 76) = A := ⟨_, rfl⟩
  have X15 : Hid (A14.heap[g15]? = some (.cells #[.int .i64 16, .slice (some ⟨g8, 0, none⟩) 3 3, .int .i64 17, .slice (some ⟨g13, 0, none⟩) 3 3] 76 (0, 0))) := Lib.hid (by rw [← hA14, ← hg15]; exact heap_alloc_at _ _)
  have B14 : Hid (Below A13.heap.size A13 A14) := Lib.hid (by rw [← hA14]; exact below_alloc _ _)
  have HG15 := Lib.hid hg15
  go_wp2_with fail
  refine (law_v 0 A14).mono ?_
  rintro _ A15 ⟨rfl, hb⟩
  have B15 := Lib.hid hb
  clear hb hA14 hg15 hA13 hg13
  go_wp2_with fail
  refine (law_a 0 A15).mono ?_
  rintro _ A16 ⟨rfl, hb⟩
  have B16 := Lib.hid hb
  clear hb
  go_wp2_with fail
  refine (law_o 6 A16).mono ?_
  rintro _ A17 ⟨rfl, hb⟩
  have B17 := Lib.hid hb
  clear hb
  obtain ⟨g19, hg19⟩ : ∃ g, A17.heap.size = g := ⟨_, rfl⟩
  obtain ⟨A18, hA18⟩ : ∃ A, A17.alloc (.cells #[.int .i64 2, .int .i64 0, .int .i64 3, .int .i64 0, .int .i64 6, .int .i64 0] 83) = A := ⟨_, rfl⟩
  have X19 : Hid (A18.heap[g19]? = some (.cells #[.int .i64 2, .int .i64 0, .int .i64 3, .int .i64 0, .int .i64 6, .int .i64 0] 83 (0, 0))) := Lib.hid (by rw [← hA18, ← hg19]; exact heap_alloc_at _ _)
  have B18 : Hid (Below A17.heap.size A17 A18) := Lib.hid (by rw [← hA18]; exact below_alloc _ _)
  have HG19 := Lib.hid hg19
  go_wp2_with fail
  refine (law_v 1 A18).mono ?_
  rintro _ A19 ⟨rfl, hb⟩
  have B19 := Lib.hid hb
  clear hb hA18 hg19
  go_wp2_with fail
  refine (law_c 1 A19).mono ?_
  rintro _ A20 ⟨rfl, hb⟩
  have B20 := Lib.hid hb
  clear hb
  go_wp2_with fail
  refine (law_o 6 A20).mono ?_
  rintro _ A21 ⟨rfl, hb⟩
  have B21 := Lib.hid hb
  clear hb
  obtain ⟨g24, hg24⟩ : ∃ g, A21.heap.size = g := ⟨_, rfl⟩
  obtain ⟨A22, hA22⟩ : ∃ A, A21.alloc (.cells #[.int .i64 2, .int .i64 1, .int .i64 1, .int .i64 1, .int .i64 6, .int .i64 0] 83) = A := ⟨_, rfl⟩
  have X24 : Hid (A22.heap[g24]? = some (.cells #[.int .i64 2, .int .i64 1, .int .i64 1, .int .i64 1, .int .i64 6, .int .i64 0] 83 (0, 0))) := Lib.hid (by rw [← hA22, ← hg24]; exact heap_alloc_at _ _)
  have B22 : Hid (Below A21.heap.size A21 A22) := Lib.hid (by rw [← hA22]; exact below_alloc _ _)
  have HG24 := Lib.hid hg24
  obtain ⟨g26, hg26⟩ : ∃ g, A22.heap.size = g := ⟨_, rfl⟩
  obtain ⟨A23, hA23⟩ : ∃ A, A22.alloc (.cells #[.int .i64 0, .slice (some ⟨g19, 0, none⟩) 3 3, .int .i64 1, .slice (some ⟨g24, 0, none⟩) 3 3] 86) = A := ⟨_, rfl⟩
  have X26 : Hid (A23.heap[g26]? = some (.cells #[.int .i64 0, .slice (some ⟨g19, 0, none⟩) 3 3, .int .i64 1, .slice (some ⟨g24, 0, none⟩) 3 3] 86 (0, 0))) := Lib.hid (by rw [← hA23, ← hg26]; exact heap_alloc_at _ _)
  have B23 : Hid (Below A22.heap.size A22 A23) := Lib.hid (by rw [← hA23]; exact below_alloc _ _)
  have HG26 := Lib.hid hg26
  obtain ⟨g28, hg28⟩ : ∃ g, A23.heap.size = g := ⟨_, rfl⟩
  obtain ⟨A24, hA24⟩ : ∃ A, A23.alloc (.cells #[.slice (some ⟨g26, 0, none⟩) 2 2, .int .i64 1] 80) = A := ⟨_, rfl⟩
  have X28 : Hid (A24.heap[g28]? = some (.cells #[.slice (some ⟨g26, 0, none⟩) 2 2, .int .i64 1] 80 (0, 0))) := Lib.hid (by rw [← hA24, ← hg28]; exact heap_alloc_at _ _)
  have B24 : Hid (Below A23.heap.size A23 A24) := Lib.hid (by rw [← hA24]; exact below_alloc _ _)
  have HG28 := Lib.hid hg28
  obtain ⟨g30, hg30⟩ : ∃ g, A24.heap.size = g := ⟨_, rfl⟩
  obtain ⟨A25, hA25⟩ : ∃ A, A24.alloc (.cells #[.int .i64 1] 3) = A := ⟨_, rfl⟩
  have X30 : Hid (A25.heap[g30]? = some (.cells #[.int .i64 1] 3 (0, 0))) := Lib.hid (by rw [← hA25, ← hg30]; exact heap_alloc_at _ _)
  have B25 : Hid (Below A24.heap.size A24 A25) := Lib.hid (by rw [← hA25]; exact below_alloc _ _)
  have HG30 := Lib.hid hg30
  go_wp2_with fail
  refine (law_v 0 A25).mono ?_
  rintro _ A26 ⟨rfl, hb⟩
  have B26 := Lib.hid hb
  clear hb hA25 hg30 hA24 hg28 hA23 hg26 hA22 hg24
  go_wp2_with fail
  refine (law_c 2 A26).mono ?_
  rintro _ A27 ⟨rfl, hb⟩
  have B27 := Lib.hid hb
  clear hb
  go_wp2_with fail
  refine (law_o 8 A27).mono ?_
  rintro _ A28 ⟨rfl, hb⟩
  have B28 := Lib.hid hb
  clear hb
  obtain ⟨g34, hg34⟩ : ∃ g, A28.heap.size = g := ⟨_, rfl⟩
  obtain ⟨A29, hA29⟩ : ∃ A, A28.alloc (.cells #[.int .i64 2, .int .i64 0, .int .i64 1, .int .i64 2, .int .i64 8, .int .i64 0] 83) = A := ⟨_, rfl⟩
  have X34 : Hid (A29.heap[g34]? = some (.cells #[.int .i64 2, .int .i64 0, .int .i64 1, .int .i64 2, .int .i64 8, .int .i64 0] 83 (0, 0))) := Lib.hid (by rw [← hA29, ← hg34]; exact heap_alloc_at _ _)
  have B29 : Hid (Below A28.heap.size A28 A29) := Lib.hid (by rw [← hA29]; exact below_alloc _ _)
  have HG34 := Lib.hid hg34
  obtain ⟨g36, hg36⟩ : ∃ g, A29.heap.size = g := ⟨_, rfl⟩
  obtain ⟨A30, hA30⟩ : ∃ A, A29.alloc (.cells #[.int .i64 0, .slice (some ⟨g34, 0, none⟩) 3 3] 86) = A := ⟨_, rfl⟩
  have X36 : Hid (A30.heap[g36]? = some (.cells #[.int .i64 0, .slice (some ⟨g34, 0, none⟩) 3 3] 86 (0, 0))) := Lib.hid (by rw [← hA30, ← hg36]; exact heap_alloc_at _ _)
  have B30 : Hid (Below A29.heap.size A29 A30) := Lib.hid (by rw [← hA30]; exact below_alloc _ _)
  have HG36 := Lib.hid hg36
  go_wp2_with fail
  refine (law_v 0 A30).mono ?_
  rintro _ A31 ⟨rfl, hb⟩
  have B31 := Lib.hid hb
  clear hb hA30 hg36 hA29 hg34
  go_wp2_with fail
  refine (law_c 9 A31).mono ?_
  rintro _ A32 ⟨rfl, hb⟩
  have B32 := Lib.hid hb
  clear hb
  go_wp2_with fail
  refine (law_o 9 A32).mono ?_
  rintro _ A33 ⟨rfl, hb⟩
  have B33 := Lib.hid hb
  clear hb
  obtain ⟨g41, hg41⟩ : ∃ g, A33.heap.size = g := ⟨_, rfl⟩
  obtain ⟨A34, hA34⟩ : ∃ A, A33.alloc (.cells #[.int .i64 2, .int .i64 0, .int .i64 1, .int .i64 9, .int .i64 9, .int .i64 0] 83) = A := ⟨_, rfl⟩
  have X41 : Hid (A34.heap[g41]? = some (.cells #[.int .i64 2, .int .i64 0, .int .i64 1, .int .i64 9, .int .i64 9, .int .i64 0] 83 (0, 0))) := Lib.hid (by rw [← hA34, ← hg41]; exact heap_alloc_at _ _)
  have B34 : Hid (Below A33.heap.size A33 A34) := Lib.hid (by rw [← hA34]; exact below_alloc _ _)
  have HG41 := Lib.hid hg41
  obtain ⟨g43, hg43⟩ : ∃ g, A34.heap.size = g := ⟨_, rfl⟩
  obtain ⟨A35, hA35⟩ : ∃ A, A34.alloc (.cells #[.int .i64 1, .slice (some ⟨g41, 0, none⟩) 3 3] 86) = A := ⟨_, rfl⟩
  have X43 : Hid (A35.heap[g43]? = some (.cells #[.int .i64 1, .slice (some ⟨g41, 0, none⟩) 3 3] 86 (0, 0))) := Lib.hid (by rw [← hA35, ← hg43]; exact heap_alloc_at _ _)
  have B35 : Hid (Below A34.heap.size A34 A35) := Lib.hid (by rw [← hA35]; exact below_alloc _ _)
  have HG43 := Lib.hid hg43
  obtain ⟨g45, hg45⟩ : ∃ g, A35.heap.size = g := ⟨_, rfl⟩
  obtain ⟨A36, hA36⟩ : ∃ A, A35.alloc (.cells #[.slice (some ⟨g36, 0, none⟩) 1 1, .int .i64 (-1), .slice (some ⟨g43, 0, none⟩) 1 1, .int .i64 (-1)] 80) = A := ⟨_, rfl⟩
  have X45 : Hid (A36.heap[g45]? = some (.cells #[.slice (some ⟨g36, 0, none⟩) 1 1, .int .i64 (-1), .slice (some ⟨g43, 0, none⟩) 1 1, .int .i64 (-1)] 80 (0, 0))) := Lib.hid (by rw [← hA36, ← hg45]; exact heap_alloc_at _ _)
  have B36 : Hid (Below A35.heap.size A35 A36) := Lib.hid (by rw [← hA36]; exact below_alloc _ _)
  have HG45 := Lib.hid hg45
  obtain ⟨g47, hg47⟩ : ∃ g, A36.heap.size = g := ⟨_, rfl⟩
  obtain ⟨A37, hA37⟩ : ∃ A, A36.alloc (.cells #[.int .i64 1] 3) = A := ⟨_, rfl⟩
  have X47 : Hid (A37.heap[g47]? = some (.cells #[.int .i64 1] 3 (0, 0))) := Lib.hid (by rw [← hA37, ← hg47]; exact heap_alloc_at _ _)
  have B37 : Hid (Below A36.heap.size A36 A37) := Lib.hid (by rw [← hA37]; exact below_alloc _ _)
  have HG47 := Lib.hid hg47
  go_wp2_with fail
  refine (law_c 3 A37).mono ?_
  rintro _ A38 ⟨rfl, hb⟩
  have B38 := Lib.hid hb
  clear hb hA37 hg47 hA36 hg45 hA35 hg43 hA34 hg41
  go_wp2_with fail
  refine (law_v 0 A38).mono ?_
  rintro _ A39 ⟨rfl, hb⟩
  have B39 := Lib.hid hb
  clear hb
  go_wp2_with fail
  refine (law_o 12 A39).mono ?_
  rintro _ A40 ⟨rfl, hb⟩
  have B40 := Lib.hid hb
  clear hb
  obtain ⟨g51, hg51⟩ : ∃ g, A40.heap.size = g := ⟨_, rfl⟩
  obtain ⟨A41, hA41⟩ : ∃ A, A40.alloc (.cells #[.int .i64 1, .int .i64 3, .int .i64 2, .int .i64 0, .int .i64 12, .int .i64 0] 83) = A := ⟨_, rfl⟩
  have X51 : Hid (A41.heap[g51]? = some (.cells #[.int .i64 1, .int .i64 3, .int .i64 2, .int .i64 0, .int .i64 12, .int .i64 0] 83 (0, 0))) := Lib.hid (by rw [← hA41, ← hg51]; exact heap_alloc_at _ _)
  have B41 : Hid (Below A40.heap.size A40 A41) := Lib.hid (by rw [← hA41]; exact below_alloc _ _)
  have HG51 := Lib.hid hg51
  obtain ⟨g53, hg53⟩ : ∃ g, A41.heap.size = g := ⟨_, rfl⟩
  obtain ⟨A42, hA42⟩ : ∃ A, A41.alloc (.cells #[.int .i64 20, .slice (some ⟨g51, 0, none⟩) 3 3] 76) = A := ⟨_, rfl⟩
  have X53 : Hid (A42.heap[g53]? = some (.cells #[.int .i64 20, .slice (some ⟨g51, 0, none⟩) 3 3] 76 (0, 0))) := Lib.hid (by rw [← hA42, ← hg53]; exact heap_alloc_at _ _)
  have B42 : Hid (Below A41.heap.size A41 A42) := Lib.hid (by rw [← hA42]; exact below_alloc _ _)
  have HG53 := Lib.hid hg53
  obtain ⟨g55, hg55⟩ : ∃ g, A42.heap.size = g := ⟨_, rfl⟩
  obtain ⟨A43, hA43⟩ : ∃ A, A42.alloc (.cells #[.slice none 0 0, .int .i64 2] 80) = A := ⟨_, rfl⟩
  have X55 : Hid (A43.heap[g55]? = some (.cells #[.slice none 0 0, .int .i64 2] 80 (0, 0))) := Lib.hid (by rw [← hA43, ← hg55]; exact heap_alloc_at _ _)
  have B43 : Hid (Below A42.heap.size A42 A43) := Lib.hid (by rw [← hA43]; exact below_alloc _ _)
  have HG55 := Lib.hid hg55
  go_wp2_with fail
  refine (law_a 0 A43).mono ?_
  rintro _ A44 ⟨rfl, hb⟩
  have B44 := Lib.hid hb
  clear hb hA43 hg55 hA42 hg53 hA41 hg51
  go_wp2_with fail
  refine (law_a 1 A44).mono ?_
  rintro _ A45 ⟨rfl, hb⟩
  have B45 := Lib.hid hb
  clear hb
  go_wp2_with fail
  refine (law_o 7 A45).mono ?_
  rintro _ A46 ⟨rfl, hb⟩
  have B46 := Lib.hid hb
  clear hb
  obtain ⟨g60, hg60⟩ : ∃ g, A46.heap.size = g := ⟨_, rfl⟩
  obtain ⟨A47, hA47⟩ : ∃ A, A46.alloc (.cells #[.int .i64 3, .int .i64 0, .int .i64 3, .int .i64 1, .int .i64 7, .int .i64 0] 83) = A := ⟨_, rfl⟩
  have X60 : Hid (A47.heap[g60]? = some (.cells #[.int .i64 3, .int .i64 0, .int .i64 3, .int .i64 1, .int .i64 7, .int .i64 0] 83 (0, 0))) := Lib.hid (by rw [← hA47, ← hg60]; exact heap_alloc_at _ _)
  have B47 : Hid (Below A46.heap.size A46 A47) := Lib.hid (by rw [← hA47]; exact below_alloc _ _)
  have HG60 := Lib.hid hg60
  obtain ⟨g62, hg62⟩ : ∃ g, A47.heap.size = g := ⟨_, rfl⟩
  obtain ⟨A48, hA48⟩ : ∃ A, A47.alloc (.cells #[.int .i64 0, .slice (some ⟨g60, 0, none⟩) 3 3] 86) = A := ⟨_, rfl⟩
  have X62 : Hid (A48.heap[g62]? = some (.cells #[.int .i64 0, .slice (some ⟨g60, 0, none⟩) 3 3] 86 (0, 0))) := Lib.hid (by rw [← hA48, ← hg62]; exact heap_alloc_at _ _)
  have B48 : Hid (Below A47.heap.size A47 A48) := Lib.hid (by rw [← hA48]; exact below_alloc _ _)
  have HG62 := Lib.hid hg62
  obtain ⟨g64, hg64⟩ : ∃ g, A48.heap.size = g := ⟨_, rfl⟩
  obtain ⟨A49, hA49⟩ : ∃ A, A48.alloc (.cells #[.slice (some ⟨g62, 0, none⟩) 1 1, .int .i64 0] 80) = A := ⟨_, rfl⟩
  have X64 : Hid (A49.heap[g64]? = some (.cells #[.slice (some ⟨g62, 0, none⟩) 1 1, .int .i64 0] 80 (0, 0))) := Lib.hid (by rw [← hA49, ← hg64]; exact heap_alloc_at _ _)
  have B49 : Hid (Below A48.heap.size A48 A49) := Lib.hid (by rw [← hA49]; exact below_alloc _ _)
  have HG64 := Lib.hid hg64
  obtain ⟨g66, hg66⟩ : ∃ g, A49.heap.size = g := ⟨_, rfl⟩
  obtain ⟨A50, hA50⟩ : ∃ A, A49.alloc (.cells #[.string ⟨#[97, 100, 100]⟩, .int .i64 1, .slice (some ⟨g4, 0, none⟩) 2 2, .slice (some ⟨g15, 0, none⟩) 2 2, .slice (some ⟨g28, 0, none⟩) 1 1, .string ⟨#[100, 111, 117, 98, 108, 101]⟩, .int .i64 0, .slice (some ⟨g30, 0, none⟩) 1 1, .slice none 0 0, .slice (some ⟨g45, 0, none⟩) 2 2, .string ⟨#[99, 108, 111, 115, 101]⟩, .int .i64 0, .slice (some ⟨g47, 0, none⟩) 1 1, .slice (some ⟨g53, 0, none⟩) 1 1, .slice (some ⟨g55, 0, none⟩) 1 1, .string ⟨#[97, 103, 97, 105, 110]⟩, .int .i64 2, .slice none 0 0, .slice none 0 0, .slice (some ⟨g64, 0, none⟩) 1 1] 58) = A := ⟨_, rfl⟩
  have X66 : Hid (A50.heap[g66]? = some (.cells #[.string ⟨#[97, 100, 100]⟩, .int .i64 1, .slice (some ⟨g4, 0, none⟩) 2 2, .slice (some ⟨g15, 0, none⟩) 2 2, .slice (some ⟨g28, 0, none⟩) 1 1, .string ⟨#[100, 111, 117, 98, 108, 101]⟩, .int .i64 0, .slice (some ⟨g30, 0, none⟩) 1 1, .slice none 0 0, .slice (some ⟨g45, 0, none⟩) 2 2, .string ⟨#[99, 108, 111, 115, 101]⟩, .int .i64 0, .slice (some ⟨g47, 0, none⟩) 1 1, .slice (some ⟨g53, 0, none⟩) 1 1, .slice (some ⟨g55, 0, none⟩) 1 1, .string ⟨#[97, 103, 97, 105, 110]⟩, .int .i64 2, .slice none 0 0, .slice none 0 0, .slice (some ⟨g64, 0, none⟩) 1 1] 58 (0, 0))) := Lib.hid (by rw [← hA50, ← hg66]; exact heap_alloc_at _ _)
  have B50 : Hid (Below A49.heap.size A49 A50) := Lib.hid (by rw [← hA50]; exact below_alloc _ _)
  have HG66 := Lib.hid hg66
  have T50 := Below.refl A50.heap.size A50
  have T49 := B50.out.trans (T50.mono B50.out.size)
  have T48 := B49.out.trans (T49.mono B49.out.size)
  have T47 := B48.out.trans (T48.mono B48.out.size)
  have T46 := B47.out.trans (T47.mono B47.out.size)
  have T45 := B46.out.trans (T46.mono B46.out.size)
  have T44 := B45.out.trans (T45.mono B45.out.size)
  have T43 := B44.out.trans (T44.mono B44.out.size)
  have T42 := B43.out.trans (T43.mono B43.out.size)
  have T41 := B42.out.trans (T42.mono B42.out.size)
  have T40 := B41.out.trans (T41.mono B41.out.size)
  have T39 := B40.out.trans (T40.mono B40.out.size)
  have T38 := B39.out.trans (T39.mono B39.out.size)
  have T37 := B38.out.trans (T38.mono B38.out.size)
  have T36 := B37.out.trans (T37.mono B37.out.size)
  have T35 := B36.out.trans (T36.mono B36.out.size)
  have T34 := B35.out.trans (T35.mono B35.out.size)
  have T33 := B34.out.trans (T34.mono B34.out.size)
  have T32 := B33.out.trans (T33.mono B33.out.size)
  have T31 := B32.out.trans (T32.mono B32.out.size)
  have T30 := B31.out.trans (T31.mono B31.out.size)
  have T29 := B30.out.trans (T30.mono B30.out.size)
  have T28 := B29.out.trans (T29.mono B29.out.size)
  have T27 := B28.out.trans (T28.mono B28.out.size)
  have T26 := B27.out.trans (T27.mono B27.out.size)
  have T25 := B26.out.trans (T26.mono B26.out.size)
  have T24 := B25.out.trans (T25.mono B25.out.size)
  have T23 := B24.out.trans (T24.mono B24.out.size)
  have T22 := B23.out.trans (T23.mono B23.out.size)
  have T21 := B22.out.trans (T22.mono B22.out.size)
  have T20 := B21.out.trans (T21.mono B21.out.size)
  have T19 := B20.out.trans (T20.mono B20.out.size)
  have T18 := B19.out.trans (T19.mono B19.out.size)
  have T17 := B18.out.trans (T18.mono B18.out.size)
  have T16 := B17.out.trans (T17.mono B17.out.size)
  have T15 := B16.out.trans (T16.mono B16.out.size)
  have T14 := B15.out.trans (T15.mono B15.out.size)
  have T13 := B14.out.trans (T14.mono B14.out.size)
  have T12 := B13.out.trans (T13.mono B13.out.size)
  have T11 := B12.out.trans (T12.mono B12.out.size)
  have T10 := B11.out.trans (T11.mono B11.out.size)
  have T9 := B10.out.trans (T10.mono B10.out.size)
  have T8 := B9.out.trans (T9.mono B9.out.size)
  have T7 := B8.out.trans (T8.mono B8.out.size)
  have T6 := B7.out.trans (T7.mono B7.out.size)
  have T5 := B6.out.trans (T6.mono B6.out.size)
  have T4 := B5.out.trans (T5.mono B5.out.size)
  have T3 := B4.out.trans (T4.mono B4.out.size)
  have T2 := B3.out.trans (T3.mono B3.out.size)
  have T1 := B2.out.trans (T2.mono B2.out.size)
  have hTL := (T1.block _ (Array.getElem?_eq_some_iff.1 X0.out).1).trans X0.out
  have HTL := Lib.hid (show F4T A50 g0 from hTL)
  obtain ⟨⟨r0, s0⟩, ⟨r1, s1⟩, ⟨r2, s2⟩, r3, s3⟩ := HTL.out.cells
  have z1 := Lib.hid (show g0 < A1.heap.size from (Array.getElem?_eq_some_iff.1 X0.out).1)
  have z2 := Lib.hid (show g1 < A2.heap.size from (Array.getElem?_eq_some_iff.1 X1.out).1)
  have z3 := Lib.hid (show g2 < A3.heap.size from (Array.getElem?_eq_some_iff.1 X2.out).1)
  have z4 := Lib.hid (show g3 < A4.heap.size from (Array.getElem?_eq_some_iff.1 X3.out).1)
  have z5 := Lib.hid (show g4 < A5.heap.size from (Array.getElem?_eq_some_iff.1 X4.out).1)
  have z9 := Lib.hid (show g8 < A9.heap.size from (Array.getElem?_eq_some_iff.1 X8.out).1)
  have z13 := Lib.hid (show g13 < A13.heap.size from (Array.getElem?_eq_some_iff.1 X13.out).1)
  have z14 := Lib.hid (show g15 < A14.heap.size from (Array.getElem?_eq_some_iff.1 X15.out).1)
  have z18 := Lib.hid (show g19 < A18.heap.size from (Array.getElem?_eq_some_iff.1 X19.out).1)
  have z22 := Lib.hid (show g24 < A22.heap.size from (Array.getElem?_eq_some_iff.1 X24.out).1)
  have z23 := Lib.hid (show g26 < A23.heap.size from (Array.getElem?_eq_some_iff.1 X26.out).1)
  have z24 := Lib.hid (show g28 < A24.heap.size from (Array.getElem?_eq_some_iff.1 X28.out).1)
  have z25 := Lib.hid (show g30 < A25.heap.size from (Array.getElem?_eq_some_iff.1 X30.out).1)
  have z29 := Lib.hid (show g34 < A29.heap.size from (Array.getElem?_eq_some_iff.1 X34.out).1)
  have z30 := Lib.hid (show g36 < A30.heap.size from (Array.getElem?_eq_some_iff.1 X36.out).1)
  have z34 := Lib.hid (show g41 < A34.heap.size from (Array.getElem?_eq_some_iff.1 X41.out).1)
  have z35 := Lib.hid (show g43 < A35.heap.size from (Array.getElem?_eq_some_iff.1 X43.out).1)
  have z36 := Lib.hid (show g45 < A36.heap.size from (Array.getElem?_eq_some_iff.1 X45.out).1)
  have z37 := Lib.hid (show g47 < A37.heap.size from (Array.getElem?_eq_some_iff.1 X47.out).1)
  have z41 := Lib.hid (show g51 < A41.heap.size from (Array.getElem?_eq_some_iff.1 X51.out).1)
  have z42 := Lib.hid (show g53 < A42.heap.size from (Array.getElem?_eq_some_iff.1 X53.out).1)
  have z43 := Lib.hid (show g55 < A43.heap.size from (Array.getElem?_eq_some_iff.1 X55.out).1)
  have z47 := Lib.hid (show g60 < A47.heap.size from (Array.getElem?_eq_some_iff.1 X60.out).1)
  have z48 := Lib.hid (show g62 < A48.heap.size from (Array.getElem?_eq_some_iff.1 X62.out).1)
  have z49 := Lib.hid (show g64 < A49.heap.size from (Array.getElem?_eq_some_iff.1 X64.out).1)
  have z50 := Lib.hid (show g66 < A50.heap.size from (Array.getElem?_eq_some_iff.1 X66.out).1)
  have HEND : Hid (∀ (Wf : World), Wf = (((A50.setCell ⟨g0, 0, none⟩ (.slice (some ⟨g1, 0, none⟩) 3 3)).setCell ⟨g0, 1, none⟩ (.slice (some ⟨g2, 0, none⟩) 2 2)).setCell ⟨g0, 2, none⟩ (.slice (some ⟨g3, 0, none⟩) 2 2)).setCell ⟨g0, 3, none⟩ (.slice (some ⟨g66, 0, none⟩) 4 4) → SampIs w (.returned (.agg #[.slice (some ⟨g1, 0, none⟩) 3 3, .slice (some ⟨g2, 0, none⟩) 2 2, .slice (some ⟨g3, 0, none⟩) 2 2, .slice (some ⟨g66, 0, none⟩) 4 4])) Wf ∧ Below w.heap.size w Wf) := by
    refine Lib.hid fun Wf hWf => ?_
    have e0 : w.heap.size = g0 := HG0.out
    have l1 : g0 < g1 := by
      have h1 := z1.out
      have h2 := HG1.out
      omega
    have l2 : g1 < g2 := by
      have h1 := z2.out
      have h2 := HG2.out
      omega
    have l3 : g2 < g3 := by
      have h1 := z3.out
      have h2 := HG3.out
      omega
    have l4 : g3 < g4 := by
      have h1 := z4.out
      have h2 := HG4.out
      omega
    have l8 : g4 < g8 := by
      have h1 := z5.out
      have hh6 := B6.out.size
      have hh7 := B7.out.size
      have hh8 := B8.out.size
      have h2 := HG8.out
      omega
    have l13 : g8 < g13 := by
      have h1 := z9.out
      have hh10 := B10.out.size
      have hh11 := B11.out.size
      have hh12 := B12.out.size
      have h2 := HG13.out
      omega
    have l15 : g13 < g15 := by
      have h1 := z13.out
      have h2 := HG15.out
      omega
    have l19 : g15 < g19 := by
      have h1 := z14.out
      have hh15 := B15.out.size
      have hh16 := B16.out.size
      have hh17 := B17.out.size
      have h2 := HG19.out
      omega
    have l24 : g19 < g24 := by
      have h1 := z18.out
      have hh19 := B19.out.size
      have hh20 := B20.out.size
      have hh21 := B21.out.size
      have h2 := HG24.out
      omega
    have l26 : g24 < g26 := by
      have h1 := z22.out
      have h2 := HG26.out
      omega
    have l28 : g26 < g28 := by
      have h1 := z23.out
      have h2 := HG28.out
      omega
    have l30 : g28 < g30 := by
      have h1 := z24.out
      have h2 := HG30.out
      omega
    have l34 : g30 < g34 := by
      have h1 := z25.out
      have hh26 := B26.out.size
      have hh27 := B27.out.size
      have hh28 := B28.out.size
      have h2 := HG34.out
      omega
    have l36 : g34 < g36 := by
      have h1 := z29.out
      have h2 := HG36.out
      omega
    have l41 : g36 < g41 := by
      have h1 := z30.out
      have hh31 := B31.out.size
      have hh32 := B32.out.size
      have hh33 := B33.out.size
      have h2 := HG41.out
      omega
    have l43 : g41 < g43 := by
      have h1 := z34.out
      have h2 := HG43.out
      omega
    have l45 : g43 < g45 := by
      have h1 := z35.out
      have h2 := HG45.out
      omega
    have l47 : g45 < g47 := by
      have h1 := z36.out
      have h2 := HG47.out
      omega
    have l51 : g47 < g51 := by
      have h1 := z37.out
      have hh38 := B38.out.size
      have hh39 := B39.out.size
      have hh40 := B40.out.size
      have h2 := HG51.out
      omega
    have l53 : g51 < g53 := by
      have h1 := z41.out
      have h2 := HG53.out
      omega
    have l55 : g53 < g55 := by
      have h1 := z42.out
      have h2 := HG55.out
      omega
    have l60 : g55 < g60 := by
      have h1 := z43.out
      have hh44 := B44.out.size
      have hh45 := B45.out.size
      have hh46 := B46.out.size
      have h2 := HG60.out
      omega
    have l62 : g60 < g62 := by
      have h1 := z47.out
      have h2 := HG62.out
      omega
    have l64 : g62 < g64 := by
      have h1 := z48.out
      have h2 := HG64.out
      omega
    have l66 : g64 < g66 := by
      have h1 := z49.out
      have h2 := HG66.out
      omega
    refine ⟨⟨fun i => if i = 1 then g1 else if i = 2 then g2 else if i = 3 then g3 else if i = 4 then g4 else if i = 8 then g8 else if i = 13 then g13 else if i = 15 then g15 else if i = 19 then g19 else if i = 24 then g24 else if i = 26 then g26 else if i = 28 then g28 else if i = 30 then g30 else if i = 34 then g34 else if i = 36 then g36 else if i = 41 then g41 else if i = 43 then g43 else if i = 45 then g45 else if i = 47 then g47 else if i = 51 then g51 else if i = 53 then g53 else if i = 55 then g55 else if i = 60 then g60 else if i = 62 then g62 else if i = 64 then g64 else g66, rfl, ⟨?_, ?_, ?_, ?_, ?_, ?_, ?_, ?_, ?_, ?_, ?_, ?_, ?_, ?_, ?_, ?_, ?_, ?_, ?_, ?_, ?_, ?_, ?_, ?_, ?_⟩, ?_, ?_⟩, ?_⟩
    · rw [hWf]; exact fin4 X1.out T2 (by omega) _ _ _ _
    · rw [hWf]; exact fin4 X2.out T3 (by omega) _ _ _ _
    · rw [hWf]; exact fin4 X3.out T4 (by omega) _ _ _ _
    · rw [hWf]; exact fin4 X4.out T5 (by omega) _ _ _ _
    · rw [hWf]; exact fin4 X8.out T9 (by omega) _ _ _ _
    · rw [hWf]; exact fin4 X13.out T13 (by omega) _ _ _ _
    · rw [hWf]; exact fin4 X15.out T14 (by omega) _ _ _ _
    · rw [hWf]; exact fin4 X19.out T18 (by omega) _ _ _ _
    · rw [hWf]; exact fin4 X24.out T22 (by omega) _ _ _ _
    · rw [hWf]; exact fin4 X26.out T23 (by omega) _ _ _ _
    · rw [hWf]; exact fin4 X28.out T24 (by omega) _ _ _ _
    · rw [hWf]; exact fin4 X30.out T25 (by omega) _ _ _ _
    · rw [hWf]; exact fin4 X34.out T29 (by omega) _ _ _ _
    · rw [hWf]; exact fin4 X36.out T30 (by omega) _ _ _ _
    · rw [hWf]; exact fin4 X41.out T34 (by omega) _ _ _ _
    · rw [hWf]; exact fin4 X43.out T35 (by omega) _ _ _ _
    · rw [hWf]; exact fin4 X45.out T36 (by omega) _ _ _ _
    · rw [hWf]; exact fin4 X47.out T37 (by omega) _ _ _ _
    · rw [hWf]; exact fin4 X51.out T41 (by omega) _ _ _ _
    · rw [hWf]; exact fin4 X53.out T42 (by omega) _ _ _ _
    · rw [hWf]; exact fin4 X55.out T43 (by omega) _ _ _ _
    · rw [hWf]; exact fin4 X60.out T47 (by omega) _ _ _ _
    · rw [hWf]; exact fin4 X62.out T48 (by omega) _ _ _ _
    · rw [hWf]; exact fin4 X64.out T49 (by omega) _ _ _ _
    · rw [hWf]; exact fin4 X66.out T50 (by omega) _ _ _ _
    · intro i hi
      simp only [sampSlots, List.mem_cons, List.not_mem_nil, or_false] at hi
      rcases hi with rfl | rfl | rfl | rfl | rfl | rfl | rfl | rfl | rfl | rfl | rfl | rfl | rfl | rfl | rfl | rfl | rfl | rfl | rfl | rfl | rfl | rfl | rfl | rfl | rfl
      · show w.heap.size ≤ g1 ∧ (1 ≠ 66 → g1 < g66); exact ⟨by omega, fun _ => by omega⟩
      · show w.heap.size ≤ g2 ∧ (2 ≠ 66 → g2 < g66); exact ⟨by omega, fun _ => by omega⟩
      · show w.heap.size ≤ g3 ∧ (3 ≠ 66 → g3 < g66); exact ⟨by omega, fun _ => by omega⟩
      · show w.heap.size ≤ g4 ∧ (4 ≠ 66 → g4 < g66); exact ⟨by omega, fun _ => by omega⟩
      · show w.heap.size ≤ g8 ∧ (8 ≠ 66 → g8 < g66); exact ⟨by omega, fun _ => by omega⟩
      · show w.heap.size ≤ g13 ∧ (13 ≠ 66 → g13 < g66); exact ⟨by omega, fun _ => by omega⟩
      · show w.heap.size ≤ g15 ∧ (15 ≠ 66 → g15 < g66); exact ⟨by omega, fun _ => by omega⟩
      · show w.heap.size ≤ g19 ∧ (19 ≠ 66 → g19 < g66); exact ⟨by omega, fun _ => by omega⟩
      · show w.heap.size ≤ g24 ∧ (24 ≠ 66 → g24 < g66); exact ⟨by omega, fun _ => by omega⟩
      · show w.heap.size ≤ g26 ∧ (26 ≠ 66 → g26 < g66); exact ⟨by omega, fun _ => by omega⟩
      · show w.heap.size ≤ g28 ∧ (28 ≠ 66 → g28 < g66); exact ⟨by omega, fun _ => by omega⟩
      · show w.heap.size ≤ g30 ∧ (30 ≠ 66 → g30 < g66); exact ⟨by omega, fun _ => by omega⟩
      · show w.heap.size ≤ g34 ∧ (34 ≠ 66 → g34 < g66); exact ⟨by omega, fun _ => by omega⟩
      · show w.heap.size ≤ g36 ∧ (36 ≠ 66 → g36 < g66); exact ⟨by omega, fun _ => by omega⟩
      · show w.heap.size ≤ g41 ∧ (41 ≠ 66 → g41 < g66); exact ⟨by omega, fun _ => by omega⟩
      · show w.heap.size ≤ g43 ∧ (43 ≠ 66 → g43 < g66); exact ⟨by omega, fun _ => by omega⟩
      · show w.heap.size ≤ g45 ∧ (45 ≠ 66 → g45 < g66); exact ⟨by omega, fun _ => by omega⟩
      · show w.heap.size ≤ g47 ∧ (47 ≠ 66 → g47 < g66); exact ⟨by omega, fun _ => by omega⟩
      · show w.heap.size ≤ g51 ∧ (51 ≠ 66 → g51 < g66); exact ⟨by omega, fun _ => by omega⟩
      · show w.heap.size ≤ g53 ∧ (53 ≠ 66 → g53 < g66); exact ⟨by omega, fun _ => by omega⟩
      · show w.heap.size ≤ g55 ∧ (55 ≠ 66 → g55 < g66); exact ⟨by omega, fun _ => by omega⟩
      · show w.heap.size ≤ g60 ∧ (60 ≠ 66 → g60 < g66); exact ⟨by omega, fun _ => by omega⟩
      · show w.heap.size ≤ g62 ∧ (62 ≠ 66 → g62 < g66); exact ⟨by omega, fun _ => by omega⟩
      · show w.heap.size ≤ g64 ∧ (64 ≠ 66 → g64 < g66); exact ⟨by omega, fun _ => by omega⟩
      · show w.heap.size ≤ g66 ∧ (66 ≠ 66 → g66 < g66); exact ⟨by omega, fun h => absurd rfl h⟩
    · rw [hWf, World.size_setCell, World.size_setCell, World.size_setCell, World.size_setCell]; exact z50.out
    · rw [hWf]; exact below_set4 (B1.out.trans (T1.mono B1.out.size)) (by omega) _ _ _ _
  have HZF : Hid (F4T' ((((A50.setCell ⟨g0, 0, none⟩ (.slice (some ⟨g1, 0, none⟩) 3 3)).setCell ⟨g0, 1, none⟩ (.slice (some ⟨g2, 0, none⟩) 2 2)).setCell ⟨g0, 2, none⟩ (.slice (some ⟨g3, 0, none⟩) 2 2)).setCell ⟨g0, 3, none⟩ (.slice (some ⟨g66, 0, none⟩) 4 4)) g0 (.slice (some ⟨g1, 0, none⟩) 3 3) (.slice (some ⟨g2, 0, none⟩) 2 2) (.slice (some ⟨g3, 0, none⟩) 2 2) (.slice (some ⟨g66, 0, none⟩) 4 4)) := Lib.hid (HTL.out.set _ _ _ _)
  clear T1 T2 T3 T4 T5 T6 T7 T8 T9 T10 T11 T12 T13 T14 T15 T16 T17 T18 T19 T20 T21 T22 T23 T24 T25 T26 T27 T28 T29 T30 T31 T32 T33 T34 T35 T36 T37 T38 T39 T40 T41 T42 T43 T44 T45 T46 T47 T48 T49 T50 hTL
  clear z1 z2 z3 z4 z5 z9 z13 z14 z18 z22 z23 z24 z25 z29 z30 z34 z35 z36 z37 z41 z42 z43 z47 z48 z49 z50
  go_wp2_with fail
  refine bodyPost_ret (v := .agg #[.slice (some ⟨g1, 0, none⟩) 3 3, .slice (some ⟨g2, 0, none⟩) 2 2, .slice (some ⟨g3, 0, none⟩) 2 2, .slice (some ⟨g66, 0, none⟩) 4 4]) (results_cell_row rfl _ _ g0 26 _ (0, 0) _ rfl HZF.out Tryz.underlying26 rfl table_info) rfl ?_
  exact HEND.out _ rfl
end Go.Proofs.YtfooiggedgcjcaaGreatDoor.R
