/-
  A slice that reads as a list of values of one cell each.
-/
import Derived.WalkKit
import Derived.Lib.Buffer
namespace Go.Proofs.Ytbpphghphfbogaa.K
open Go Go.RowKit

/-- The slice value v reads, in the world w, as the values xs. -/
def Sl (w : World) (v : Value) (xs : List Value) : Prop :=
  ∃ a cap, v = .slice a xs.length cap ∧ ∀ j u, xs[j]? = some u → ∃ b off, a = some ⟨b, off, none⟩ ∧ w.cell? ⟨b, off + j, none⟩ = some u

theorem Sl.nil (w : World) : Sl w (.slice none 0 0) [] := ⟨none, 0, rfl, fun j u h => by simp at h⟩

theorem Sl.below {w w' : World} {v : Value} {xs : List Value} (h : Sl w v xs) (hb : Below w.heap.size w w') : Sl w' v xs := by
  obtain ⟨a, cap, rfl, hc⟩ := h
  refine ⟨a, cap, rfl, fun j u hj => ?_⟩
  obtain ⟨b, off, ha, hcell⟩ := hc j u hj
  exact ⟨b, off, ha, (hb.cell (p := ⟨b, off + j, none⟩) (World.block_lt_of_cell? w _ hcell)).trans hcell⟩

theorem Sl.row {w : World} {g cap : Nat} {cur : Array Value} {T : TypeId} {fr : Nat × Nat} {xs : List Value} (hg : w.heap[g]? = some (.cells cur T fr)) (ht : cur.toList.take xs.length = xs) :
    Sl w (.slice (some ⟨g, 0, none⟩) xs.length cap) xs := by
  refine ⟨_, cap, rfl, fun j u hj => ⟨g, 0, rfl, ?_⟩⟩
  have := Lib.cells_of_row hg xs.length j u (by rw [ht]; exact hj)
  rw [Lib.addr_add] at this
  exact this

theorem Sl.owns {w : World} {base : Nat} {e : TypeId} {v : Value} {n : Nat} {xs : List Value} (h : w.ownsRow base e 1 v n xs) : Sl w v xs := by
  obtain ⟨hl, h⟩ := h
  rw [Nat.mul_one] at hl
  rcases h with ⟨rfl, h0⟩ | ⟨g, cap, cur, rfl, _, hg, _, _, _, ht⟩
  · have : xs = [] := List.eq_nil_of_length_eq_zero (by omega)
    subst this
    exact Sl.nil w
  · rw [← hl]
    exact Sl.row hg (by rw [hl]; simpa using ht)

/-- A cell of a row of which nothing is frozen. -/
theorem row_cell {w : World} {g k : Nat} {cur : Array Value} {T : TypeId} (hg : w.heap[g]? = some (.cells cur T (0, 0))) (hk : k < cur.size) :
    ∃ old, w.cell? ⟨g, k, none⟩ = some old ∧ w.frozen? ⟨g, k, none⟩ = false :=
  ⟨cur[k], by simp [World.cell?, hg, hk], by simp [World.frozen?, hg]⟩

/-- One store more at the end of what has been filled. -/
theorem row_fill {w : World} {g k : Nat} {cur : Array Value} {T : TypeId} {xs : List Value} (hg : w.heap[g]? = some (.cells cur T (0, 0))) (hk : k < cur.size) (ht : cur.toList.take k = xs) (u : Value) :
    ∃ cur' : Array Value, (w.setCell ⟨g, k, none⟩ u).heap[g]? = some (.cells cur' T (0, 0)) ∧ cur'.size = cur.size ∧ cur'.toList.take (k + 1) = xs ++ [u] := by
  refine ⟨cur.setIfInBounds k u, heap_setCell_same w g k cur T u hg, by simp, ?_⟩
  rw [Array.toList_setIfInBounds, List.take_add_one]
  have h1 : (cur.toList.set k u).take k = xs := by rw [List.take_set_of_le (Nat.le_refl _)]; exact ht
  have h2 : (cur.toList.set k u)[k]? = some u := by simp [hk]
  rw [h1, h2]
  rfl

end Go.Proofs.Ytbpphghphfbogaa.K
