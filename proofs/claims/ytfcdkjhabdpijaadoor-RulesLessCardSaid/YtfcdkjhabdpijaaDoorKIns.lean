/-
  A slice that reads as a list of pairs of numbers (structs of two ints).
-/
import Derived.WalkKit
import Derived.Deep.Slices
import Derived.Deep.Fields
import Derived.ProofKit
import Derived.Test.YtfcdkjhabdpijaaDoorKSl
namespace Go.Proofs.YtfcdkjhabdpijaaDoor.K
open Go Go.RowKit Go.ChangeShapes Go.WideShapes Go.ChangeAt
set_option linter.unusedVariables false

/-- The slice value v reads, in the world w, as the pairs xs. -/
def SlI (w : World) (v : Value) (xs : List (Int × Int)) : Prop :=
  ∃ a cap, v = .slice a xs.length cap ∧ ∀ j i, xs[j]? = some i → ∃ b off, a = some ⟨b, off, none⟩ ∧ w.cell? ⟨b, off + j * 2, none⟩ = some (.int .i64 i.1) ∧ w.cell? ⟨b, off + j * 2 + 1, none⟩ = some (.int .i64 i.2)

theorem SlI.nil (w : World) : SlI w (.slice none 0 0) [] := ⟨none, 0, rfl, fun j i h => by simp at h⟩

theorem SlI.below {w w' : World} {v : Value} {xs : List (Int × Int)} (h : SlI w v xs) (hb : Below w.heap.size w w') : SlI w' v xs := by
  obtain ⟨a, cap, rfl, hc⟩ := h
  refine ⟨a, cap, rfl, fun j i hj => ?_⟩
  obtain ⟨b, off, ha, h1, h2⟩ := hc j i hj
  exact ⟨b, off, ha, (hb.cell (p := ⟨b, off + j * 2, none⟩) (World.block_lt_of_cell? w _ h1)).trans h1, (hb.cell (p := ⟨b, off + j * 2 + 1, none⟩) (World.block_lt_of_cell? w _ h2)).trans h2⟩

/-- The slice's shape, and the cells of one pair. -/
theorem SlI.open {w : World} {v : Value} {xs : List (Int × Int)} (h : SlI w v xs) : ∃ a cap, v = .slice a xs.length cap ∧ ∀ j i, xs[j]? = some i → ∃ b off, a = some ⟨b, off, none⟩ ∧ w.cell? ⟨b, off + j * 2, none⟩ = some (.int .i64 i.1) ∧ w.cell? ⟨b, off + j * 2 + 1, none⟩ = some (.int .i64 i.2) := h

theorem SlI.at {w : World} {a : Option Addr} {len cap : Nat} {xs : List (Int × Int)} {j : Nat} {i : Int × Int} (h : SlI w (.slice a len cap) xs) (hi : xs[j]? = some i) :
    ∃ b off, a = some ⟨b, off, none⟩ ∧ w.cell? ⟨b, off + j * 2, none⟩ = some (.int .i64 i.1) ∧ w.cell? ⟨b, off + j * 2 + 1, none⟩ = some (.int .i64 i.2) := by
  obtain ⟨a', cap', e, hc⟩ := h
  cases e
  exact hc j i hi

theorem Sl.at {w : World} {a : Option Addr} {len cap : Nat} {xs : List Value} {j : Nat} {u : Value} (h : Sl w (.slice a len cap) xs) (hu : xs[j]? = some u) :
    ∃ b off, a = some ⟨b, off, none⟩ ∧ w.cell? ⟨b, off + j, none⟩ = some u := by
  obtain ⟨a', cap', e, hc⟩ := h
  cases e
  exact hc j u hu

/-- A row of the call's own, behind what leaves all below alone. -/
theorem own_kept {w w' : World} {B : Nat} {e : TypeId} {k : Nat} {v : Value} {n : Nat} {xs : List Value} (h : w.ownsRow B e k v n xs) (hb : Below w.heap.size w w') : w'.ownsRow B e k v n xs :=
  h.kept (row := none) ⟨hb.os, hb.tape, hb.output, hb.size, fun j hj _ => hb.block j hj⟩ (by cases hv : v.ownBlock <;> simp)

/-- The cells of a list of pairs. -/
def pairCells (xs : List (Int × Int)) : List Value := xs.flatMap fun i => [.int .i64 i.1, .int .i64 i.2]

theorem pairCells_length (xs : List (Int × Int)) : (pairCells xs).length = xs.length * 2 := by
  induction xs with
  | nil => rfl
  | cons i r ih => simp only [pairCells, List.flatMap_cons, List.length_append, List.length_cons, List.length_nil] at ih ⊢; omega

theorem pairCells_append (a b : List (Int × Int)) : pairCells (a ++ b) = pairCells a ++ pairCells b := by simp [pairCells]

theorem pairCells_at (xs : List (Int × Int)) (j : Nat) (i : Int × Int) (h : xs[j]? = some i) : (pairCells xs)[j * 2]? = some (.int .i64 i.1) ∧ (pairCells xs)[j * 2 + 1]? = some (.int .i64 i.2) := by
  induction xs generalizing j with
  | nil => simp at h
  | cons x r ih =>
    have e : pairCells (x :: r) = .int .i64 x.1 :: .int .i64 x.2 :: pairCells r := by simp [pairCells]
    rw [e]
    cases j with
    | zero => simp at h; subst h; exact ⟨rfl, rfl⟩
    | succ j =>
      have h' : r[j]? = some i := by simpa using h
      have := ih j h'
      rw [show (j + 1) * 2 = j * 2 + 1 + 1 by omega]
      simpa using this

theorem pairCells_one (xs : List (Int × Int)) : ∀ u ∈ pairCells xs, u.oneCell' = true := by
  intro u hu
  obtain ⟨i, _, hu⟩ := List.mem_flatMap.1 hu
  simp at hu
  rcases hu with rfl | rfl <;> rfl

theorem SlI.owns {w : World} {base : Nat} {e : TypeId} {v : Value} {n : Nat} {xs : List (Int × Int)} (h : w.ownsRow base e 2 v n (pairCells xs)) : SlI w v xs := by
  obtain ⟨hl, h⟩ := h
  rw [pairCells_length] at hl
  rcases h with ⟨rfl, h0⟩ | ⟨g, cap, cur, rfl, _, hg, _, _, _, ht⟩
  · have : xs = [] := List.eq_nil_of_length_eq_zero (by omega)
    subst this
    exact SlI.nil w
  · obtain rfl : n = xs.length := by omega
    refine ⟨_, cap, rfl, fun j i hj => ⟨g, 0, rfl, ?_⟩⟩
    have hp := pairCells_at xs j i hj
    rw [← ht] at hp
    have h1 := Lib.cells_of_row hg (xs.length * 2) (j * 2) _ hp.1
    have h2 := Lib.cells_of_row hg (xs.length * 2) (j * 2 + 1) _ hp.2
    rw [Lib.addr_add] at h1 h2
    exact ⟨h1, h2⟩

/-- A block just made, whole, as a slice over it. -/
theorem SlI.made {w : World} {g cap : Nat} {T : TypeId} {fr : Nat × Nat} {cs : Array Value} {xs : List (Int × Int)} (hg : w.heap[g]? = some (.cells cs T fr)) (h : cs.toList = pairCells xs) : SlI w (.slice (some ⟨g, 0, none⟩) xs.length cap) xs := by
  refine ⟨_, cap, rfl, fun j i hj => ⟨g, 0, rfl, ?_⟩⟩
  have hp := pairCells_at xs j i hj
  rw [← h] at hp
  have h1 := Lib.cells_of_row hg cs.toList.length (j * 2) _ (by rw [List.take_length]; exact hp.1)
  have h2 := Lib.cells_of_row hg cs.toList.length (j * 2 + 1) _ (by rw [List.take_length]; exact hp.2)
  rw [Lib.addr_add] at h1 h2
  exact ⟨h1, h2⟩

section
variable {H : Type} {enc : TypeId × Value → H} {P : Program} {W : World}

/-- A value that reads as a slice of structs of two ints. -/
theorem pairs_field {t e f0 f1 : TypeId} {F0 F1 : Field} (ht : P.underlying t = some (.slice e)) (he : P.underlying e = some (.struct #[F0, F1])) (hf0 : F0.type = f0) (hf1 : F1.type = f1) (ho0 : F0.offset = 0) (ho1 : F1.offset = 1)
    (hu0 : P.underlying f0 = some (.int .i64)) (hu1 : P.underlying f1 = some (.int .i64)) (hc : P.cellsOf e = 2) (hc0 : P.cellsOf f0 = 1) (hc1 : P.cellsOf f1 = 1) {fuel : Nat} {v : Value} {y : DataW H × List MemPlace}
    (hf : DataW.trod enc P W 0 (fun _ => true) true fuel t [v] = some y) :
    ∃ xs : List (Int × Int), SlI W v xs ∧ (∀ x ∈ xs, (-9223372036854775808 ≤ x.1 ∧ x.1 ≤ 9223372036854775807) ∧ (-9223372036854775808 ≤ x.2 ∧ x.2 ≤ 9223372036854775807)) ∧ xs.length ≤ maxLen := by
  rcases Go.Deep.open_slice ht hf with ⟨hcs, _⟩ | ⟨a, len, cap, m, n, D, Pl, hcs, _, hl, hm, hmm, _, hx⟩
  · simp at hcs
    subst hcs
    exact ⟨[], SlI.nil W, by simp, by simp⟩
  · simp at hcs
    subst hcs
    rw [hc] at hx
    have hm' : m = cap := by simpa using hmm
    obtain ⟨X, hX⟩ := Go.Deep.choose_lt (α := Int × Int) (n := m) (p := fun i x => (W.cell? (a.add (i * 2)) = some (.int .i64 x.1) ∧ W.cell? ((a.add (i * 2)).add 1) = some (.int .i64 x.2)) ∧ (Lit.int .i64 x.1).wf = true ∧ (Lit.int .i64 x.2).wf = true) (fun i hi => by
      obtain ⟨cs', h1, h2⟩ := hx i hi
      obtain ⟨_, hlen, hcell⟩ := World.cells?_some h1
      obtain ⟨y0, y1, n', _, _, g0, g1⟩ := trod_struct2 he h2
      match cs', hlen with
      | [c0, c1], _ =>
        rw [ho0, hf0, hc0] at g0
        rw [ho1, hf1, hc1] at g1
        obtain ⟨n0, e0, _, w0⟩ := DataW.trod_int hu0 g0
        obtain ⟨n1, e1, _, w1⟩ := DataW.trod_int hu1 g1
        simp at e0 e1
        subst e0 e1
        refine ⟨(n0, n1), ⟨?_, ?_⟩, w0, w1⟩
        · have := hcell 0 (by omega)
          simpa [Addr.add] using this
        · have := hcell 1 (by omega)
          simpa using this)
    refine ⟨(List.range len).map X, ⟨some a, cap, by simp, fun j i hj => ?_⟩, fun x hxm => ?_, by simp; omega⟩
    · have hjl : j < len := by
        have := (List.getElem?_eq_some_iff.1 hj).1
        simpa using this
      rw [List.getElem?_map, List.getElem?_range hjl] at hj
      have hj' : X j = i := by simpa using hj
      obtain ⟨⟨c1, c2⟩, _, _⟩ := hX j (by omega)
      rw [hj'] at c1 c2
      obtain ⟨b, off, spot⟩ := a
      have hs : spot = none := by
        obtain ⟨⟨z1, _⟩, _⟩ := hX 0 (by omega)
        have := World.cell?_spot z1
        simpa [Addr.add] using this
      subst hs
      rw [add_plain] at c1 c2
      rw [add_plain] at c2
      exact ⟨b, off, rfl, c1, c2⟩
    · obtain ⟨j, hj, rfl⟩ := List.mem_map.1 hxm
      obtain ⟨_, w0, w1⟩ := hX j (by have := List.mem_range.1 hj; omega)
      simp [Lit.wf, IntKind.min, IntKind.max, IntKind.signed, IntKind.bits] at w0 w1
      omega

/-- An argument that is such a slice. -/
theorem pairs_arg {t e f0 f1 : TypeId} {F0 F1 : Field} (ht : P.underlying t = some (.slice e)) (he : P.underlying e = some (.struct #[F0, F1])) (hf0 : F0.type = f0) (hf1 : F1.type = f1) (ho0 : F0.offset = 0) (ho1 : F1.offset = 1)
    (hu0 : P.underlying f0 = some (.int .i64)) (hu1 : P.underlying f1 = some (.int .i64)) (hc : P.cellsOf e = 2) (hc0 : P.cellsOf f0 = 1) (hc1 : P.cellsOf f1 = 1) {base : Nat} {v : Value} {d : DataW H} {p : List MemPlace}
    (hval : Value.okWide P W .any base t v) (hd : DataW.Trod enc P W 0 (fun _ => true) true t v d p) :
    ∃ xs : List (Int × Int), SlI W v xs ∧ (∀ x ∈ xs, (-9223372036854775808 ≤ x.1 ∧ x.1 ≤ 9223372036854775807) ∧ (-9223372036854775808 ≤ x.2 ∧ x.2 ≤ 9223372036854775807)) ∧ xs.length ≤ maxLen := by
  obtain ⟨a0, len, cap, rfl⟩ := okWide_slice ht hval
  obtain ⟨fuel, hf⟩ := hd
  exact pairs_field ht he hf0 hf1 ho0 ho1 hu0 hu1 hc hc0 hc1 (by simpa [Value.cells] using hf)

/-- How many elements an argument that is a slice reads as. -/
theorem pairs_len {t e : TypeId} (ht : P.underlying t = some (.slice e)) {v : Value} {d : DataW H} {p : List MemPlace} {xs : List (Int × Int)} (hs : SlI W v xs) (hd : DataW.Trod enc P W 0 (fun _ => true) true t v d p) :
    xs = [] ∨ ∃ elems spare, d = .slice elems spare ∧ elems.length = xs.length := by
  obtain ⟨fuel, hf⟩ := hd
  obtain ⟨a, cap, rfl, _⟩ := hs
  have hf' : DataW.trod enc P W 0 (fun _ => true) true fuel t [.slice a xs.length cap] = some (d, p) := by simpa [Value.cells] using hf
  rcases Go.Deep.open_slice ht hf' with ⟨hcs, _⟩ | ⟨a', len, cap', m, n, D, Pl, hcs, _, _, _, _, hx, _⟩
  · left
    simp only [List.cons.injEq, Value.slice.injEq, and_true] at hcs
    exact List.eq_nil_of_length_eq_zero hcs.2.1
  · right
    simp only [List.cons.injEq, Value.slice.injEq, and_true] at hcs
    simp only [Prod.mk.injEq] at hx
    exact ⟨_, _, hx.1, by simp [hcs.2.1]⟩

end
end Go.Proofs.YtfcdkjhabdpijaaDoor.K
