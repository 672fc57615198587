/-
  Layer 13, the program: which segment a record goes to; a log's cells that turn.
-/
import Derived.Test.YtelcemfaijjcbaaGreatDoorHP13Lf
namespace Go.Proofs.YtelcemfaijjcbaaGreatDoor.C13
open Go Go.RowKit Go.Proofs Go.Proofs.YtelcemfaijjcbaaGreatDoor.B Go.Proofs.YtelcemfaijjcbaaGreatDoor.K Go.Proofs.YtelcemfaijjcbaaGreatDoor.P8 Go.Proofs.YtelcemfaijjcbaaGreatDoor.C12
set_option linter.unusedVariables false
set_option maxRecDepth 100000

/-- One cell of a row of one's own. -/
theorem own_put {w : World} {B k g n cap j : Nat} {e : TypeId} {xs : List Value} (h : w.ownsRow B e k (.slice (some ⟨g, 0, none⟩) n cap) n xs) (hj : j < xs.length) (u : Value) : (w.setCell ⟨g, j, none⟩ u).ownsRow B e k (.slice (some ⟨g, 0, none⟩) n cap) n (xs.set j u) := by
  have hl := h.1
  rcases h.2 with ⟨e0, _⟩ | ⟨g', cap', cur, e0, hb, hg, hn, hm, hs, ht⟩
  · cases e0
  · cases e0
    refine ⟨by rw [List.length_set]; exact hl, .inr ⟨g, cap, cur.setIfInBounds j u, rfl, hb, cells_set w g j _ _ u hg, hn, hm, by rw [Array.size_setIfInBounds]; exact hs, ?_⟩⟩
    rw [Array.toList_setIfInBounds, List.take_set, ht]
theorem pairs_put (pre : List (Int × Int)) (n z z' : Int) : (pairCells (pre ++ [(n, z)])).set (pre.length * 2 + 1) (.int .i64 z') = pairCells (pre ++ [(n, z')]) := by
  rw [pairCells_append, pairCells_append, List.set_append_right _ _ (by rw [pairCells_length]; omega), pairCells_length, show pre.length * 2 + 1 - pre.length * 2 = 1 from by omega]
  rfl
section
variable {w w' : World} {F G : Nat → Prop} {lp d : Nat} {M u : Int} {sg rv : Value} {gs : List (Int × Int)} {rs : List (List UInt8)} {D : Dst}
theorem LIn.apart (h : LIn w G lp d M sg rv gs rs u) {g : Nat} (hg : sg.ownBlock = some g) : rv.ownBlock ≠ some g := fun e => by
  obtain ⟨c, fz, h1⟩ := Lib.ownsRow_kind h.segs g hg
  obtain ⟨c2, fz2, h2⟩ := Lib.ownsRow_kind h.recs g e
  rw [h1] at h2
  simp only [Option.some.injEq, Obj.cells.injEq] at h2
  exact absurd h2.2.1 (by decide)
/-- The last segment's size turns. -/
theorem LIn.sized {pre : List (Int × Int)} {n z : Int} {b cap : Nat} (h : LIn w G lp d M (.slice (some ⟨b, 0, none⟩) (pre.length + 1) cap) rv (pre ++ [(n, z)]) rs u) (z' : Int) :
    LIn (w.setCell ⟨b, pre.length * 2 + 1, none⟩ (.int .i64 z')) G lp d M (.slice (some ⟨b, 0, none⟩) (pre.length + 1) cap) rv (pre ++ [(n, z')]) rs u := by
  obtain ⟨h1, h2⟩ := h.offs
  have h3 := h.apart (g := b) rfl
  have hs := h.segs
  rw [List.length_append] at hs
  have hp := own_put hs (j := pre.length * 2 + 1) (by rw [pairCells_length, List.length_append]; simp only [List.length_singleton]; omega) (.int .i64 z')
  rw [pairs_put] at hp
  refine ⟨(cells_far _ _ _ _ _ fun e => h1 (by rw [e]; rfl)).trans h.cell, by rw [List.length_append]; exact hp, row_keep h.recs fun g hg => cells_far _ _ _ _ _ fun e => h3 (by rw [hg, e]), h.ownl, h.owns, h.ownr, fun i hi => Nat.lt_of_lt_of_le (h.lt i hi) (size_set _ _ _ _)⟩
theorem LDid.sized {W : World} {pre : List (Int × Int)} {n z : Int} {b cap : Nat} (hd : ∃ F' G' rv, PAt W F' d D ∧ LIn W G' lp d M (.slice (some ⟨b, 0, none⟩) (pre.length + 1) cap) rv (pre ++ [(n, z)]) rs u ∧ (∀ i, G' i → ¬ F' i) ∧ Chg (fun i => F i ∨ G i) (fun i => F' i ∨ G' i) w W) (z' : Int) :
    LDid F G lp d M D (pre ++ [(n, z')]) rs u w (W.setCell ⟨b, pre.length * 2 + 1, none⟩ (.int .i64 z')) := by
  obtain ⟨F', G', rv, h1, h2, h3, h4⟩ := hd
  have hb := h2.owns b rfl
  exact ⟨F', G', _, rv, h1.tn (tn_set W b _ _) (fun i hi e => h3 b hb (e ▸ hi)), h2.sized z', h3, h4.trans ⟨tn_mono (tn_set W b _ _) fun i e => Or.inr (e ▸ hb), fun i hi => Or.inl hi⟩⟩
/-- A segment more. -/
theorem LDid.grew {W W1 W2 : World} {F' G' : Nat → Prop} {sg' : Value} {n z : Int} (h1 : PAt W F' d D) (h2 : LIn W G' lp d M sg rv gs rs u) (h3 : ∀ i, G' i → ¬ F' i) (h4 : Chg (fun i => F i ∨ G i) (fun i => F' i ∨ G' i) w W)
    (hb : Below W.heap.size W W1) (hr : W2.ownsRow 0 76 2 sg' (gs.length + 1) (pairCells gs ++ [.int .i64 n, .int .i64 z])) (hg : W1.grownBy W2 sg.ownBlock) (hat : sg'.ownBlock = sg.ownBlock ∨ sg'.ownBlock = some W1.heap.size) :
    LDid F G lp d M D (gs ++ [(n, z)]) rs u w (W2.setCell ⟨lp, 3, none⟩ sg') := by
  obtain ⟨o1, o2⟩ := h2.offs
  have hc : W2.heap[lp]? = some (.cells #[.pointer (some ⟨d, 0, none⟩), .string lgS, .int .i64 M, sg, rv, .int .i64 u] 74 (0, 0)) :=
    (hg.block lp (Nat.lt_of_lt_of_le (h2.lt lp h2.ownl) hb.size) (fun e => o1 e.symm)).trans ((hb.block lp (h2.lt lp h2.ownl)).trans h2.cell)
  have t1 : Tn (fun i => i = lp ∨ sg.ownBlock = some i) W (W2.setCell ⟨lp, 3, none⟩ sg') := ((Tn.of_below hb).trans (tn_mono (tn_grown hg) fun i h => Or.inr h)).trans (tn_mono (tn_set W2 lp 3 _) fun i h => Or.inl h)
  have hsz : ∀ g, sg'.ownBlock = some g → sg.ownBlock = some g ∨ W.heap.size ≤ g := fun g hgg => by
    rcases hat with h | h
    · exact Or.inl (h ▸ hgg)
    · rw [h] at hgg
      have := hb.size
      cases hgg
      exact Or.inr this
  have hG1 : ∀ i, (i = lp ∨ sg.ownBlock = some i) → G' i := fun i hi => by
    rcases hi with rfl | hi
    · exact h2.ownl
    · exact h2.owns i hi
  refine ⟨F', (fun i => G' i ∨ sg'.ownBlock = some i), sg', rv, h1.tn t1 fun i hi e => h3 i (hG1 i e) hi, ⟨cells_set W2 lp 3 _ _ sg' hc, ?_, ?_, Or.inl h2.ownl, fun g hgg => Or.inr hgg, fun g hgg => Or.inl (h2.ownr g hgg), fun i hi => ?_⟩, fun i hi hf => ?_, h4.trans ⟨tn_mono t1 fun i hi => Or.inr (hG1 i hi), fun i hi => ?_⟩⟩
  · rw [List.length_append, pairCells_append]
    exact row_keep hr fun g hgg => cells_far _ _ _ _ _ fun e => (row_off_kind hr hc (by decide)) (by rw [hgg, e])
  · refine row_keep h2.recs fun g hgg => t1.block g (h2.lt g (h2.ownr g hgg)) ?_
    rintro (rfl | hi)
    · exact o2 hgg
    · exact h2.apart hi hgg
  · rcases hi with hi | hi
    · exact Nat.lt_of_lt_of_le (h2.lt i hi) t1.size
    · exact Nat.lt_of_lt_of_le (hr.lt i hi).2 (size_set _ _ _ _)
  · rcases hi with hi | hi
    · exact h3 i hi hf
    · rcases hsz i hi with h | h
      · exact h3 i (h2.owns i h) hf
      · have := h1.lt i hf; omega
  · rcases hi with hi | hi | hi
    · exact Or.inl (Or.inl hi)
    · exact Or.inl (Or.inr hi)
    · rcases hsz i hi with h | h
      · exact Or.inl (Or.inr (h2.owns i h))
      · exact Or.inr h
/-- A record more. -/
theorem LDid.took {W W' : World} {F' G' : Nat → Prop} {rs' : List (List UInt8)} (h1 : PAt W F' d D) (h2 : LIn W G' lp d M sg rv gs rs u) (h3 : ∀ i, G' i → ¬ F' i) (h4 : Chg (fun i => F i ∨ G i) (fun i => F' i ∨ G' i) w W)
    (ht : Took W lp 4 #[.pointer (some ⟨d, 0, none⟩), .string lgS, .int .i64 M, sg, rv, .int .i64 u] 74 rv rs' W') : LDid F G lp d M D gs rs' u w W' := by
  obtain ⟨rv', k1, k2, k3, k4⟩ := ht
  obtain ⟨o1, o2⟩ := h2.offs
  have hG1 : ∀ i, (i = lp ∨ rv.ownBlock = some i) → G' i := fun i hi => by
    rcases hi with rfl | hi
    · exact h2.ownl
    · exact h2.ownr i hi
  refine ⟨F', (fun i => G' i ∨ rv'.ownBlock = some i), sg, rv', h1.tn k3 fun i hi e => h3 i (hG1 i e) hi, ⟨k1, ?_, k2, Or.inl h2.ownl, fun g hgg => Or.inl (h2.owns g hgg), fun g hgg => Or.inr hgg, fun i hi => ?_⟩, fun i hi hf => ?_, h4.trans ⟨tn_mono k3 fun i hi => Or.inr (hG1 i hi), fun i hi => ?_⟩⟩
  · refine row_keep h2.segs fun g hgg => k3.block g (h2.lt g (h2.owns g hgg)) ?_
    rintro (rfl | hi)
    · exact o1 hgg
    · exact h2.apart hgg hi
  · rcases hi with hi | hi
    · exact Nat.lt_of_lt_of_le (h2.lt i hi) k3.size
    · exact (k2.lt i hi).2
  · rcases hi with hi | hi
    · exact h3 i hi hf
    · rcases k4 i hi with h | h
      · exact h3 i (h2.ownr i h) hf
      · have := h1.lt i hf; omega
  · rcases hi with hi | hi | hi
    · exact Or.inl (Or.inl hi)
    · exact Or.inl (Or.inr hi)
    · rcases k4 i hi with h | h
      · exact Or.inl (Or.inr (h2.ownr i h))
      · exact Or.inr h
end
end Go.Proofs.YtelcemfaijjcbaaGreatDoor.C13
