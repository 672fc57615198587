/-
  The program's reader of layer 4 in memory; fail.
-/
import Derived.Test.YtbeidmkhpcnbbaaGreatDoorIPName
import Derived.StillTailTactics
import Derived.Deep.AppendLies
namespace Go.Proofs.YtbeidmkhpcnbbaaGreatDoor.I
open Go Go.RowKit Go.Proofs.YtbeidmkhpcnbbaaGreatDoor.B Go.Proofs.YtbeidmkhpcnbbaaGreatDoor.K Go.Proofs.YtbeidmkhpcnbbaaGreatDoor.E
set_option linter.unusedVariables false

/-- A reader's cells. -/
def rdCells (t : Bs) (v1 : Value) (na : Int) (a : Nat) (s : Bs) (v : Value) (e : Int) : Array Value := #[sv t, v1, .int .i64 na, .int .i64 (a : Int), sv s, v, .int .i64 e]

/-- Block B is a reader: where it is, the word there, what it has read, what is wrong; blocks of f hold what f says; what was there at first is there. -/
structure Rd (f : Nat → Option Obj) (W0 : World) (B : Nat) (t : Bs) (v1 : Value) (na : Int) (a : Nat) (s : Bs) (c : List In) (e : Int) (w : World) : Prop where
  below : Below W0.heap.size W0 w
  le : W0.heap.size ≤ B
  frame : ∀ i o, f i = some o → w.heap[i]? = some o ∧ i ≠ B
  own : ∃ v, w.heap[B]? = some (.cells (rdCells t v1 na a s v e) 48 (0, 0)) ∧ w.ownsRow (B + 1) 39 2 v c.length (pairCells c) ∧ ∀ k, v.ownBlock = some k → f k = none

section
variable {f : Nat → Option Obj} {W0 w w' : World} {B a a' : Nat} {t s s' : Bs} {v1 : Value} {na e e' : Int} {c : List In}

theorem Rd.lt (h : Rd f W0 B t v1 na a s c e w) : B < w.heap.size := by
  obtain ⟨v, hv, _⟩ := h.own
  exact (Array.getElem?_eq_some_iff.1 hv).1

/-- What it reads. -/
theorem Rd.cells (h : Rd f W0 B t v1 na a s c e w) : ∃ v, (w.cell? ⟨B, 0, none⟩ = some (sv t) ∧ w.cell? ⟨B, 1, none⟩ = some v1 ∧ w.cell? ⟨B, 2, none⟩ = some (.int .i64 na) ∧ w.cell? ⟨B, 3, none⟩ = some (.int .i64 (a : Int)) ∧ w.cell? ⟨B, 4, none⟩ = some (sv s) ∧ w.cell? ⟨B, 5, none⟩ = some v ∧ w.cell? ⟨B, 6, none⟩ = some (.int .i64 e)) ∧
    w.ownsRow (B + 1) 39 2 v c.length (pairCells c) ∧ ∀ j, j < 7 → w.frozen? ⟨B, j, none⟩ = false := by
  obtain ⟨v, hv, ho, _⟩ := h.own
  refine ⟨v, ⟨?_, ?_, ?_, ?_, ?_, ?_, ?_⟩, ho, fun j hj => (row_cell hv (show j < (rdCells t v1 na a s v e).size from hj)).choose_spec.2⟩ <;> (rw [cell_of_row _ _ _ _ _ _ hv]; rfl)

theorem Rd.glob (h : Rd f W0 B t v1 na a s c e w) (hg : Glob W0) : Glob w := hg.below h.below
theorem Rd.names (h : Rd f W0 B t v1 na a s c e w) {vs : List Bs} (hn : Names W0 v1 vs) : Names w v1 vs := Sl.below hn h.below

/-- New memory alone. -/
theorem Rd.grow (h : Rd f W0 B t v1 na a s c e w) (hb : Below w.heap.size w w') : Rd f W0 B t v1 na a s c e w' := by
  have hlt := h.lt
  obtain ⟨v, hv, ho, hf⟩ := h.own
  refine ⟨h.below.trans (hb.mono h.below.size), h.le, fun i o hi => ?_, v, (hb.block _ hlt).trans hv, own_kept ho hb, hf⟩
  obtain ⟨h1, h2⟩ := h.frame i o hi
  exact ⟨(hb.block _ (Array.getElem?_eq_some_iff.1 h1).1).trans h1, h2⟩

theorem Rd.drewN (h : Rd f W0 B t v1 na a s c e w) (n : Nat) : Rd f W0 B t v1 na a s c e (w.drewN n) := h.grow (below_drewN (Below.refl _ _) n)

/-- A cell more in the frame. -/
theorem Rd.add (h : Rd f W0 B t v1 na a s c e w) (o : Obj) : Rd (fun i => if i = w.heap.size then some o else f i) W0 B t v1 na a s c e (w.alloc o) := by
  have hlt := h.lt
  have h2 := h.grow ((Below.refl w.heap.size w).alloc (Nat.le_refl _) o)
  obtain ⟨v, hv, ho, hf⟩ := h.own
  obtain ⟨v', hv', ho', hf'⟩ := h2.own
  refine ⟨h2.below, h.le, fun i o' hi => ?_, v', hv', ho', fun k hk => ?_⟩
  · by_cases hi2 : i = w.heap.size
    · rw [if_pos hi2] at hi; cases hi; subst hi2
      exact ⟨heap_alloc_at _ _, by omega⟩
    · rw [if_neg hi2] at hi
      exact h2.frame i o' hi
  · have hvv : v' = v := by
      rw [show (w.alloc o).heap[B]? = w.heap[B]? from alloc_keeps w o B hlt, hv] at hv'
      have := Option.some.inj hv'
      simp only [Obj.cells.injEq, rdCells, Array.mk.injEq, List.cons.injEq] at this
      exact this.1.2.2.2.2.2.1.symm
    subst hvv
    have hk2 : k < w.heap.size := (World.ownsRow.lt ho k hk).2
    show (if k = w.heap.size then some o else f k) = none
    rw [if_neg (by omega)]
    exact hf k hk

theorem Rd.less {f' : Nat → Option Obj} (h : Rd f' W0 B t v1 na a s c e w) (hf : ∀ i o, f i = some o → f' i = some o) : Rd f W0 B t v1 na a s c e w := by
  obtain ⟨v, hv, ho, hn⟩ := h.own
  refine ⟨h.below, h.le, fun i o hi => h.frame i o (hf i o hi), v, hv, ho, fun k hk => ?_⟩
  cases hk2 : f k with
  | none => rfl
  | some o => have := hn k hk; rw [hf k o hk2] at this; cases this

theorem Rd.drop {o : Obj} {k : Nat} (h : Rd (fun i => if i = k then some o else f i) W0 B t v1 na a s c e w') (hf : f k = none) : Rd f W0 B t v1 na a s c e w' :=
  h.less fun i o' hi => by
    by_cases h2 : i = k
    · subst h2; rw [hf] at hi; cases hi
    · rw [if_neg h2]; exact hi

theorem Rd.new (h : Rd f W0 B t v1 na a s c e w) : f w.heap.size = none := by
  cases hf : f w.heap.size with
  | none => rfl
  | some o => have := (Array.getElem?_eq_some_iff.1 (h.frame _ o hf).1).1; omega

/-- A store into one of its cells. -/
theorem Rd.set (h : Rd f W0 B t v1 na a s c e w) (j : Nat) (u : Value) (hs : ∀ v, (rdCells t v1 na a s v e).setIfInBounds j u = rdCells t v1 na a' s' v e') : Rd f W0 B t v1 na a' s' c e' (w.setCell ⟨B, j, none⟩ u) := by
  have hlt := h.lt
  obtain ⟨v, hv, ho, hf⟩ := h.own
  have hk : ∀ i, i ≠ B → (w.setCell ⟨B, j, none⟩ u).heap[i]? = w.heap[i]? := fun i hi => Below.heap_setCell _ _ _ i hi
  refine ⟨?_, h.le, fun i o hi => ?_, v, ?_, ?_, hf⟩
  · exact Below.setCell h.below h.le _
  · obtain ⟨h1, h2⟩ := h.frame i o hi
    exact ⟨(hk i h2).trans h1, h2⟩
  · rw [← hs v]; exact heap_setCell_same w B j _ _ u hv
  · refine World.ownsRow.kept (row := some B) ho ⟨rfl, rfl, rfl, by simp [World.setCell], fun i _ hn => hk i (fun h2 => hn (by rw [h2]))⟩ (Or.inr (fun h2 => ?_))
    have := owns_block ho B h2; omega
end
end Go.Proofs.YtbeidmkhpcnbbaaGreatDoor.I
