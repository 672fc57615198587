/-
  A slice that reads as a list of pairs of numbers (structs of two ints).
  Layer 13, the program: a log in memory, and what is read of it.
  Layer 13, the program: the numbers of the segments on a disk.
  Layer 13, the program: nothing is behind the segments: nothing is removed.
-/
import Derived.WalkKit
import Derived.Deep.Slices
import Derived.Deep.Fields
import Derived.ProofKit
import Derived.Test.YtelcemfaijjcbaaGreatDoorHP12Rs
import Derived.Test.YtelcemfaijjcbaaGreatDoorHP13Ld
import Derived.Test.YtelcemfaijjcbaaGreatDoorHP13Nm
import Derived.Test.YtelcemfaijjcbaaGreatDoorHP13Sh
import Derived.Test.YtelcemfaijjcbaaGreatDoorHP12Rz
import Derived.Lib.OwnBridge
import Derived.Lib.SlKeysI
import Derived.Lib.AtoiErrMem
import Derived.Lib.SmallJoins
import Derived.RangeFuncNested
import Derived.RangeFuncBound
import Derived.RangeFuncCalls
import Derived.RangeFuncLeaves
import Derived.RangeFuncFrom
import Derived.Shelf.Abstract
import Derived.Shelf.RegionOpen
import Derived.OwnWalkIn
import Derived.TacticsInMore
import Derived.LoopNIn
import Derived.LoopIn
namespace Go.Proofs.YtelcemfaijjcbaaGreatDoor.K
open Go Go.RowKit Go.ChangeShapes Go.WideShapes Go.ChangeAt
set_option linter.unusedVariables false

/-- The slice value v reads, in the world w, as the pairs xs. -/
def SlI (w : World) (v : Value) (xs : List (Int × Int)) : Prop :=
  ∃ a cap, v = .slice a xs.length cap ∧ ∀ j i, xs[j]? = some i → ∃ b off, a = some ⟨b, off, none⟩ ∧ w.cell? ⟨b, off + j * 2, none⟩ = some (.int .i64 i.1) ∧ w.cell? ⟨b, off + j * 2 + 1, none⟩ = some (.int .i64 i.2)

theorem SlI.nil (w : World) : SlI w (.slice none 0 0) [] := ⟨none, 0, rfl, fun j i h => by simp at h⟩

theorem SlI.below {w w' : World} {v : Value} {xs : List (Int × Int)} (h : SlI w v xs) (hb : Below w.heap.size w w') : SlI w' v xs := by
  obtain ⟨a, cap, rfl, hc⟩ := h
  refine ⟨a, cap, rfl, fun j i hj => ?_⟩
  obtain ⟨b, off, ha, h1, h2⟩ := hc j i hj
  exact ⟨b, off, ha, (hb.cell (p := ⟨b, off + j * 2, none⟩) (World.block_lt_of_cell? w _ h1)).trans h1, (hb.cell (p := ⟨b, off + j * 2 + 1, none⟩) (World.block_lt_of_cell? w _ h2)).trans h2⟩

/-- The slice's shape, and the cells of one pair. -/
theorem SlI.open {w : World} {v : Value} {xs : List (Int × Int)} (h : SlI w v xs) : ∃ a cap, v = .slice a xs.length cap ∧ ∀ j i, xs[j]? = some i → ∃ b off, a = some ⟨b, off, none⟩ ∧ w.cell? ⟨b, off + j * 2, none⟩ = some (.int .i64 i.1) ∧ w.cell? ⟨b, off + j * 2 + 1, none⟩ = some (.int .i64 i.2) := h

theorem SlI.at {w : World} {a : Option Addr} {len cap : Nat} {xs : List (Int × Int)} {j : Nat} {i : Int × Int} (h : SlI w (.slice a len cap) xs) (hi : xs[j]? = some i) :
    ∃ b off, a = some ⟨b, off, none⟩ ∧ w.cell? ⟨b, off + j * 2, none⟩ = some (.int .i64 i.1) ∧ w.cell? ⟨b, off + j * 2 + 1, none⟩ = some (.int .i64 i.2) := by
  obtain ⟨a', cap', e, hc⟩ := h
  cases e
  exact hc j i hi

theorem Sl.at {w : World} {a : Option Addr} {len cap : Nat} {xs : List Value} {j : Nat} {u : Value} (h : Sl w (.slice a len cap) xs) (hu : xs[j]? = some u) :
    ∃ b off, a = some ⟨b, off, none⟩ ∧ w.cell? ⟨b, off + j, none⟩ = some u := by
  obtain ⟨a', cap', e, hc⟩ := h
  cases e
  exact hc j u hu

/-- A row of the call's own, behind what leaves all below alone. -/
theorem own_kept {w w' : World} {B : Nat} {e : TypeId} {k : Nat} {v : Value} {n : Nat} {xs : List Value} (h : w.ownsRow B e k v n xs) (hb : Below w.heap.size w w') : w'.ownsRow B e k v n xs :=
  h.kept (row := none) ⟨hb.os, hb.tape, hb.output, hb.size, fun j hj _ => hb.block j hj⟩ (by cases hv : v.ownBlock <;> simp)

/-- The cells of a list of pairs. -/
def pairCells (xs : List (Int × Int)) : List Value := xs.flatMap fun i => [.int .i64 i.1, .int .i64 i.2]

theorem pairCells_length (xs : List (Int × Int)) : (pairCells xs).length = xs.length * 2 := by
  induction xs with
  | nil => rfl
  | cons i r ih => simp only [pairCells, List.flatMap_cons, List.length_append, List.length_cons, List.length_nil] at ih ⊢; omega

theorem pairCells_append (a b : List (Int × Int)) : pairCells (a ++ b) = pairCells a ++ pairCells b := by simp [pairCells]

theorem pairCells_at (xs : List (Int × Int)) (j : Nat) (i : Int × Int) (h : xs[j]? = some i) : (pairCells xs)[j * 2]? = some (.int .i64 i.1) ∧ (pairCells xs)[j * 2 + 1]? = some (.int .i64 i.2) := by
  induction xs generalizing j with
  | nil => simp at h
  | cons x r ih =>
    have e : pairCells (x :: r) = .int .i64 x.1 :: .int .i64 x.2 :: pairCells r := by simp [pairCells]
    rw [e]
    cases j with
    | zero => simp at h; subst h; exact ⟨rfl, rfl⟩
    | succ j =>
      have h' : r[j]? = some i := by simpa using h
      have := ih j h'
      rw [show (j + 1) * 2 = j * 2 + 1 + 1 by omega]
      simpa using this

theorem pairCells_one (xs : List (Int × Int)) : ∀ u ∈ pairCells xs, u.oneCell' = true := by
  intro u hu
  obtain ⟨i, _, hu⟩ := List.mem_flatMap.1 hu
  simp at hu
  rcases hu with rfl | rfl <;> rfl

theorem SlI.owns {w : World} {base : Nat} {e : TypeId} {v : Value} {n : Nat} {xs : List (Int × Int)} (h : w.ownsRow base e 2 v n (pairCells xs)) : SlI w v xs := by
  obtain ⟨hl, h⟩ := h
  rw [pairCells_length] at hl
  rcases h with ⟨rfl, h0⟩ | ⟨g, cap, cur, rfl, _, hg, _, _, _, ht⟩
  · have : xs = [] := List.eq_nil_of_length_eq_zero (by omega)
    subst this
    exact SlI.nil w
  · obtain rfl : n = xs.length := by omega
    refine ⟨_, cap, rfl, fun j i hj => ⟨g, 0, rfl, ?_⟩⟩
    have hp := pairCells_at xs j i hj
    rw [← ht] at hp
    have h1 := Lib.cells_of_row hg (xs.length * 2) (j * 2) _ hp.1
    have h2 := Lib.cells_of_row hg (xs.length * 2) (j * 2 + 1) _ hp.2
    rw [Lib.addr_add] at h1 h2
    exact ⟨h1, h2⟩

/-- A block just made, whole, as a slice over it. -/
theorem SlI.made {w : World} {g cap : Nat} {T : TypeId} {fr : Nat × Nat} {cs : Array Value} {xs : List (Int × Int)} (hg : w.heap[g]? = some (.cells cs T fr)) (h : cs.toList = pairCells xs) : SlI w (.slice (some ⟨g, 0, none⟩) xs.length cap) xs := by
  refine ⟨_, cap, rfl, fun j i hj => ⟨g, 0, rfl, ?_⟩⟩
  have hp := pairCells_at xs j i hj
  rw [← h] at hp
  have h1 := Lib.cells_of_row hg cs.toList.length (j * 2) _ (by rw [List.take_length]; exact hp.1)
  have h2 := Lib.cells_of_row hg cs.toList.length (j * 2 + 1) _ (by rw [List.take_length]; exact hp.2)
  rw [Lib.addr_add] at h1 h2
  exact ⟨h1, h2⟩

section
variable {H : Type} {enc : TypeId × Value → H} {P : Program} {W : World}

/-- A value that reads as a slice of structs of two ints. -/
theorem pairs_field {t e f0 f1 : TypeId} {F0 F1 : Field} (ht : P.underlying t = some (.slice e)) (he : P.underlying e = some (.struct #[F0, F1])) (hf0 : F0.type = f0) (hf1 : F1.type = f1) (ho0 : F0.offset = 0) (ho1 : F1.offset = 1)
    (hu0 : P.underlying f0 = some (.int .i64)) (hu1 : P.underlying f1 = some (.int .i64)) (hc : P.cellsOf e = 2) (hc0 : P.cellsOf f0 = 1) (hc1 : P.cellsOf f1 = 1) {fuel : Nat} {v : Value} {y : DataW H × List MemPlace}
    (hf : DataW.trod enc P W 0 (fun _ => true) true fuel t [v] = some y) :
    ∃ xs : List (Int × Int), SlI W v xs ∧ (∀ x ∈ xs, (-9223372036854775808 ≤ x.1 ∧ x.1 ≤ 9223372036854775807) ∧ (-9223372036854775808 ≤ x.2 ∧ x.2 ≤ 9223372036854775807)) ∧ xs.length ≤ maxLen := by
  rcases Go.Deep.open_slice ht hf with ⟨hcs, _⟩ | ⟨a, len, cap, m, n, D, Pl, hcs, _, hl, hm, hmm, _, hx⟩
  · simp at hcs
    subst hcs
    exact ⟨[], SlI.nil W, by simp, by simp⟩
  · simp at hcs
    subst hcs
    rw [hc] at hx
    have hm' : m = cap := by simpa using hmm
    obtain ⟨X, hX⟩ := Go.Deep.choose_lt (α := Int × Int) (n := m) (p := fun i x => (W.cell? (a.add (i * 2)) = some (.int .i64 x.1) ∧ W.cell? ((a.add (i * 2)).add 1) = some (.int .i64 x.2)) ∧ (Lit.int .i64 x.1).wf = true ∧ (Lit.int .i64 x.2).wf = true) (fun i hi => by
      obtain ⟨cs', h1, h2⟩ := hx i hi
      obtain ⟨_, hlen, hcell⟩ := World.cells?_some h1
      obtain ⟨y0, y1, n', _, _, g0, g1⟩ := trod_struct2 he h2
      match cs', hlen with
      | [c0, c1], _ =>
        rw [ho0, hf0, hc0] at g0
        rw [ho1, hf1, hc1] at g1
        obtain ⟨n0, e0, _, w0⟩ := DataW.trod_int hu0 g0
        obtain ⟨n1, e1, _, w1⟩ := DataW.trod_int hu1 g1
        simp at e0 e1
        subst e0 e1
        refine ⟨(n0, n1), ⟨?_, ?_⟩, w0, w1⟩
        · have := hcell 0 (by omega)
          simpa [Addr.add] using this
        · have := hcell 1 (by omega)
          simpa using this)
    refine ⟨(List.range len).map X, ⟨some a, cap, by simp, fun j i hj => ?_⟩, fun x hxm => ?_, by simp; omega⟩
    · have hjl : j < len := by
        have := (List.getElem?_eq_some_iff.1 hj).1
        simpa using this
      rw [List.getElem?_map, List.getElem?_range hjl] at hj
      have hj' : X j = i := by simpa using hj
      obtain ⟨⟨c1, c2⟩, _, _⟩ := hX j (by omega)
      rw [hj'] at c1 c2
      obtain ⟨b, off, spot⟩ := a
      have hs : spot = none := by
        obtain ⟨⟨z1, _⟩, _⟩ := hX 0 (by omega)
        have := World.cell?_spot z1
        simpa [Addr.add] using this
      subst hs
      rw [add_plain] at c1 c2
      rw [add_plain] at c2
      exact ⟨b, off, rfl, c1, c2⟩
    · obtain ⟨j, hj, rfl⟩ := List.mem_map.1 hxm
      obtain ⟨_, w0, w1⟩ := hX j (by have := List.mem_range.1 hj; omega)
      simp [Lit.wf, IntKind.min, IntKind.max, IntKind.signed, IntKind.bits] at w0 w1
      omega

/-- An argument that is such a slice. -/
theorem pairs_arg {t e f0 f1 : TypeId} {F0 F1 : Field} (ht : P.underlying t = some (.slice e)) (he : P.underlying e = some (.struct #[F0, F1])) (hf0 : F0.type = f0) (hf1 : F1.type = f1) (ho0 : F0.offset = 0) (ho1 : F1.offset = 1)
    (hu0 : P.underlying f0 = some (.int .i64)) (hu1 : P.underlying f1 = some (.int .i64)) (hc : P.cellsOf e = 2) (hc0 : P.cellsOf f0 = 1) (hc1 : P.cellsOf f1 = 1) {base : Nat} {v : Value} {d : DataW H} {p : List MemPlace}
    (hval : Value.okWide P W .any base t v) (hd : DataW.Trod enc P W 0 (fun _ => true) true t v d p) :
    ∃ xs : List (Int × Int), SlI W v xs ∧ (∀ x ∈ xs, (-9223372036854775808 ≤ x.1 ∧ x.1 ≤ 9223372036854775807) ∧ (-9223372036854775808 ≤ x.2 ∧ x.2 ≤ 9223372036854775807)) ∧ xs.length ≤ maxLen := by
  obtain ⟨a0, len, cap, rfl⟩ := okWide_slice ht hval
  obtain ⟨fuel, hf⟩ := hd
  exact pairs_field ht he hf0 hf1 ho0 ho1 hu0 hu1 hc hc0 hc1 (by simpa [Value.cells] using hf)

/-- How many elements an argument that is a slice reads as. -/
theorem pairs_len {t e : TypeId} (ht : P.underlying t = some (.slice e)) {v : Value} {d : DataW H} {p : List MemPlace} {xs : List (Int × Int)} (hs : SlI W v xs) (hd : DataW.Trod enc P W 0 (fun _ => true) true t v d p) :
    xs = [] ∨ ∃ elems spare, d = .slice elems spare ∧ elems.length = xs.length := by
  obtain ⟨fuel, hf⟩ := hd
  obtain ⟨a, cap, rfl, _⟩ := hs
  have hf' : DataW.trod enc P W 0 (fun _ => true) true fuel t [.slice a xs.length cap] = some (d, p) := by simpa [Value.cells] using hf
  rcases Go.Deep.open_slice ht hf' with ⟨hcs, _⟩ | ⟨a', len, cap', m, n, D, Pl, hcs, _, _, _, _, hx, _⟩
  · left
    simp only [List.cons.injEq, Value.slice.injEq, and_true] at hcs
    exact List.eq_nil_of_length_eq_zero hcs.2.1
  · right
    simp only [List.cons.injEq, Value.slice.injEq, and_true] at hcs
    simp only [Prod.mk.injEq] at hx
    exact ⟨_, _, hx.1, by simp [hcs.2.1]⟩

end
end Go.Proofs.YtelcemfaijjcbaaGreatDoor.K

namespace Go.Proofs.YtelcemfaijjcbaaGreatDoor.C13
open Go Go.RowKit Go.Proofs Go.Proofs.YtelcemfaijjcbaaGreatDoor.B Go.Proofs.YtelcemfaijjcbaaGreatDoor.K Go.Proofs.YtelcemfaijjcbaaGreatDoor.P8 Go.Proofs.YtelcemfaijjcbaaGreatDoor.C12
set_option linter.unusedVariables false
set_option maxRecDepth 100000

def lgS : ByteArray := str [108, 111, 103]
/-- A log at block lp, its blocks G: its segments (number and bytes) in sg, its records in rv. -/
structure LIn (w : World) (G : Nat → Prop) (lp d : Nat) (M : Int) (sg rv : Value) (gs : List (Int × Int)) (rs : List (List UInt8)) (u : Int) : Prop where
  cell : w.heap[lp]? = some (.cells #[.pointer (some ⟨d, 0, none⟩), .string lgS, .int .i64 M, sg, rv, .int .i64 u] 74 (0, 0))
  segs : w.ownsRow 0 76 2 sg gs.length (pairCells gs)
  recs : w.ownsRow 0 9 1 rv rs.length (rs.map sv)
  ownl : G lp
  owns : ∀ g, sg.ownBlock = some g → G g
  ownr : ∀ g, rv.ownBlock = some g → G g
  lt : ∀ i, G i → i < w.heap.size
section
variable {w w' : World} {G : Nat → Prop} {lp d : Nat} {M u : Int} {sg rv : Value} {gs : List (Int × Int)} {rs : List (List UInt8)}
theorem LIn.keep (h : LIn w G lp d M sg rv gs rs u) (hs : w.heap.size ≤ w'.heap.size) (hb : ∀ i, G i → w'.heap[i]? = w.heap[i]?) : LIn w' G lp d M sg rv gs rs u :=
  ⟨(hb lp h.ownl).trans h.cell, row_keep h.segs fun g hg => hb g (h.owns g hg), row_keep h.recs fun g hg => hb g (h.ownr g hg), h.ownl, h.owns, h.ownr, fun i hi => Nat.lt_of_lt_of_le (h.lt i hi) hs⟩
theorem LIn.below (h : LIn w G lp d M sg rv gs rs u) (hb : Below w.heap.size w w') : LIn w' G lp d M sg rv gs rs u := h.keep hb.size fun i hi => hb.block i (h.lt i hi)
theorem LIn.tn {S : Nat → Prop} (h : LIn w G lp d M sg rv gs rs u) (t : Tn S w w') (hs : ∀ i, G i → ¬ S i) : LIn w' G lp d M sg rv gs rs u := h.keep t.size fun i hi => t.block i (h.lt i hi) (hs i hi)
/-- Its segments' cells. -/
theorem LIn.seg (h : LIn w G lp d M sg rv gs rs u) (hne : gs ≠ []) : ∃ b cap, sg = .slice (some ⟨b, 0, none⟩) gs.length cap ∧ gs.length ≤ cap ∧ cap ≤ maxLen ∧ (∃ cur, w.heap[b]? = some (.cells cur 76 (0, 0))) ∧ ∀ k g, gs[k]? = some g → w.cell? ⟨b, k * 2, none⟩ = some (.int .i64 g.1) ∧ w.cell? ⟨b, k * 2 + 1, none⟩ = some (.int .i64 g.2) := by
  have hs := SlI.owns h.segs
  rcases h.segs.2 with ⟨_, h0⟩ | ⟨b, cap, cur, e, h1, h2, h3, h4, _⟩
  · exact absurd (List.length_eq_zero_iff.1 h0) hne
  · subst e
    refine ⟨b, cap, rfl, h3, h4, ⟨cur, h2⟩, fun k g hk => ?_⟩
    obtain ⟨a, c, e, hc⟩ := hs
    obtain ⟨b', off, ea, k1, k2⟩ := hc k g hk
    cases e
    cases ea
    rw [Nat.zero_add] at k1 k2
    exact ⟨k1, k2⟩
theorem LIn.nil (h : LIn w G lp d M sg rv [] rs u) : ∃ a c, sg = .slice a 0 c := by
  obtain ⟨a, c, e⟩ := shape_own h.segs
  exact ⟨a, c, e⟩
def firstG (gs : List (Int × Int)) : Int := (gs.head?.map (·.1)).getD 0

theorem first_nil (w : World) : Calls Tryz.prog 18 #[.pointer none] w fun e w' => e = .returned (.int .i64 0) ∧ Below w.heap.size w w' := by
  go_enter Tryz.func18, Tryz.ntmps18
  go_wp2_with fail
  go_ret
  exact ⟨rfl, Below.refl _ _⟩
set_option maxHeartbeats 1000000 in
theorem first_any (h : LIn w G lp d M sg rv gs rs u) (hl : gs.length ≤ 1000) : Calls Tryz.prog 18 #[.pointer (some ⟨lp, 0, none⟩)] w fun e w' => e = .returned (.int .i64 (firstG gs)) ∧ w = w' := by
  have c3 := (row_at h.cell 3 _ rfl).1
  cases gs with
  | nil =>
    obtain ⟨a, c, rfl⟩ := h.nil
    clear h
    go_enter Tryz.func18, Tryz.ntmps18
    go_wp2_with fail
    go_ret
    exact ⟨rfl, rfl⟩
  | cons g gs =>
    obtain ⟨b, cap, rfl, hc1, hc2, -, hc⟩ := h.seg (by simp)
    obtain ⟨k1, k2⟩ := hc 0 g rfl
    rw [Nat.zero_mul] at k1
    obtain ⟨N, hN⟩ : ∃ N, (g :: gs).length = N := ⟨_, rfl⟩
    have hN1 : 1 ≤ N := by rw [← hN]; simp
    rw [hN] at c3 hl
    have hz : (((N : Nat) : Int) == 0) = false := by
      have : (N : Int) ≠ 0 := by omega
      simpa using this
    have h0N : (0 : Int) < (N : Int) := by omega
    have h0n : 0 < N := by omega
    clear h hc hc1 hc2 hN k2
    go_enter Tryz.func18, Tryz.ntmps18
    go_wp2_with fail
    go_ret
    exact ⟨rfl, rfl⟩
theorem next_nil (w : World) : Calls Tryz.prog 19 #[.pointer none] w fun e w' => e = .returned (.int .i64 0) ∧ Below w.heap.size w w' := by
  go_enter Tryz.func19, Tryz.ntmps19
  go_wp2_with fail
  go_ret
  exact ⟨rfl, Below.refl _ _⟩
theorem safe_nil (w : World) : Calls Tryz.prog 20 #[.pointer none] w fun e w' => e = .returned (.int .i64 0) ∧ Below w.heap.size w w' := by
  go_enter Tryz.func20, Tryz.ntmps20
  go_wp2_with fail
  go_ret
  exact ⟨rfl, Below.refl _ _⟩
theorem read_nil (w : World) (n : Int) : Calls Tryz.prog 23 #[.pointer none, .int .i64 n] w fun e w' => e = .returned (.tuple #[.string ⟨#[]⟩, .int .i64 1]) ∧ Below w.heap.size w w' := by
  go_enter Tryz.func23, Tryz.ntmps23
  go_wp2_with fail
  go_ret2
  exact ⟨rfl, Below.refl _ _⟩
theorem sync_nil (w : World) : Calls Tryz.prog 25 #[.pointer none] w fun e w' => e = .returned (.int .i64 1) ∧ Below w.heap.size w w' := by
  go_enter Tryz.func25, Tryz.ntmps25
  go_wp2_with fail
  go_ret
  exact ⟨rfl, Below.refl _ _⟩
theorem trim_nil (w : World) (n : Int) : Calls Tryz.prog 22 #[.pointer none, .int .i64 n] w fun e w' => e = .returned (.int .i64 1) ∧ Below w.heap.size w w' := by
  go_enter Tryz.func22, Tryz.ntmps22
  go_wp2_with fail
  go_ret
  exact ⟨rfl, Below.refl _ _⟩
theorem append_nil (w : World) (s : ByteArray) : Calls Tryz.prog 24 #[.pointer none, .string s] w fun e w' => e = .returned (.tuple #[.int .i64 0, .int .i64 1]) ∧ Below w.heap.size w w' := by
  go_enter Tryz.func24, Tryz.ntmps24
  go_wp2_with fail
  go_ret2
  exact ⟨rfl, Below.refl _ _⟩
theorem open_nil (w : World) (s : ByteArray) (n : Int) : Calls Tryz.prog 16 #[.pointer none, .string s, .int .i64 n] w fun e w' => e = .returned (.tuple #[.pointer none, .int .i64 1]) ∧ Below w.heap.size w w' := by
  go_enter Tryz.func16, Tryz.ntmps16
  go_wp2_with fail
  go_ret2
  exact ⟨rfl, Below.refl _ _⟩
/-- What is small: numbers, and how many. -/
structure LSm (gs : List (Int × Int)) (rs : List (List UInt8)) : Prop where
  n1 : gs.length ≤ 1000
  n2 : rs.length ≤ 1000000
  first : 0 ≤ firstG gs ∧ firstG gs ≤ 1099511627776
def nextG (gs : List (Int × Int)) (rs : List (List UInt8)) : Int := firstG gs + (rs.length : Int)
set_option maxHeartbeats 1000000 in
theorem next_any (h : LIn w G lp d M sg rv gs rs u) (hl : LSm gs rs) : Calls Tryz.prog 19 #[.pointer (some ⟨lp, 0, none⟩)] w fun e w' => e = .returned (.int .i64 (nextG gs rs)) ∧ Below w.heap.size w w' := by
  have HF := Lib.hid (first_any (h.below (w' := w.drew) (Below.refl _ _).drew) hl.n1)
  obtain ⟨F, hF⟩ : ∃ F, firstG gs = F := ⟨_, rfl⟩
  have hl2 := hl.first
  have hl3 := hl.n2
  unfold nextG
  rw [hF] at HF hl2 ⊢
  obtain ⟨N, hN⟩ : ∃ N, rs.length = N := ⟨_, rfl⟩
  rw [hN] at hl3 ⊢
  have HC := Lib.hid (show ∀ w1, Below w.heap.size w w1 → ∃ a c, rv = .slice a N c ∧ w1.cell? ⟨lp, 4, none⟩ = some (.slice a N c) from fun w1 hb => by
    obtain ⟨a, c, e⟩ := shape_own h.recs
    rw [hN] at e
    exact ⟨a, c, e, by rw [← e]; exact (row_at (h.below hb).cell 4 _ rfl).1⟩)
  have hw0 : IntKind.i64.wrap (F + (N : Int)) = F + (N : Int) := IntWalk.i64_in _ (by omega)
  clear h hl hF hN
  go_enter Tryz.func19, Tryz.ntmps19
  obtain ⟨a, c, rfl, c4⟩ := HC.out w (Below.refl _ _)
  go_wp2_with fail
  go_region_with (go_at_call 18; (with_reducible refine HF.out.mono ?_); rintro _ w1 ⟨rfl, rfl⟩)
  all_goals go_wp2
  all_goals (go_ret; exact ⟨rfl, (Below.refl _ _).drew⟩)
theorem safe_any (h : LIn w G lp d M sg rv gs rs u) : Calls Tryz.prog 20 #[.pointer (some ⟨lp, 0, none⟩)] w fun e w' => e = .returned (.int .i64 u) ∧ Below w.heap.size w w' := by
  have c5 := (row_at h.cell 5 _ rfl).1
  clear h
  go_enter Tryz.func20, Tryz.ntmps20
  go_wp2_with fail
  go_ret
  exact ⟨rfl, Below.refl _ _⟩
def readG (gs : List (Int × Int)) (rs : List (List UInt8)) (i : Int) : List UInt8 × Int :=
  if i < firstG gs then ([], 13) else match rs[(i - firstG gs).toNat]? with
  | none => ([], 8)
  | some r => (r, 0)
set_option maxHeartbeats 1000000 in
theorem read_any (h : LIn w G lp d M sg rv gs rs u) (hl : LSm gs rs) (i : Int) : Calls Tryz.prog 23 #[.pointer (some ⟨lp, 0, none⟩), .int .i64 i] w fun e w' => e = .returned (.tuple #[.string (str (readG gs rs i).1), .int .i64 (readG gs rs i).2]) ∧ Below w.heap.size w w' := by
  have HF := Lib.hid (fun w1 (hb : Below w.heap.size w w1) => first_any (h.below hb) hl.n1)
  have HX := Lib.hid (fun w1 (hb : Below w.heap.size w w1) => next_any (h.below hb) hl)
  have hl2 := hl.first
  have hl3 := hl.n2
  unfold nextG at HX
  unfold readG
  obtain ⟨F, hF⟩ : ∃ F, firstG gs = F := ⟨_, rfl⟩
  rw [hF] at HF HX hl2 ⊢
  by_cases h1 : i < F
  · rw [if_pos h1]
    clear h hl hF
    go_enter Tryz.func23, Tryz.ntmps23
    go_wp2_with (go_at_call 18; (with_reducible refine (HF.out _ (Below.refl _ _)).mono ?_); rintro _ w1 ⟨rfl, rfl⟩; have HB := Lib.hid (Below.refl w.heap.size w))
    go_ret2
    exact ⟨rfl, HB.out⟩
  rw [if_neg h1]
  by_cases h2 : i < F + (rs.length : Int)
  rotate_left 1
  · have e : rs[(i - F).toNat]? = Option.none := List.getElem?_eq_none (by omega)
    rw [e]
    clear h hl hF e
    go_enter Tryz.func23, Tryz.ntmps23
    go_wp2_with (first
      | (go_at_call 18; (with_reducible refine (HF.out _ (Below.refl _ _)).mono ?_); rintro _ w1 ⟨rfl, rfl⟩; have HB := Lib.hid (Below.refl w.heap.size w))
      | (go_at_call 19; (with_reducible refine (HX.out _ HB.out).mono ?_); rintro _ w2 ⟨rfl, hb⟩; have HB2 := Lib.hid (HB.out.trans (hb.mono HB.out.size)); clear hb))
    go_ret2
    exact ⟨rfl, HB2.out⟩
  obtain ⟨K, hK⟩ : ∃ K : Nat, i = F + (K : Int) := ⟨(i - F).toNat, by omega⟩
  subst hK
  have hlt : K < rs.length := by omega
  rw [show (F + (K : Int) - F).toNat = K from by omega]
  obtain ⟨r, hr⟩ : ∃ r, rs[K]? = some r := ⟨_, List.getElem?_eq_getElem hlt⟩
  rw [hr]
  dsimp only
  obtain ⟨N, hN⟩ : ∃ N, rs.length = N := ⟨_, rfl⟩
  have HC := Lib.hid (show ∀ w1, Below w.heap.size w w1 → ∃ b off c, w1.cell? ⟨lp, 4, none⟩ = some (.slice (some ⟨b, off, none⟩) N c) ∧ w1.cell? ⟨b, off + K, none⟩ = some (.string (str r)) from fun w1 hb => by
    have h1 := h.below hb
    obtain ⟨a, c, e, hc⟩ := Sl.owns h1.recs
    rw [List.length_map, hN] at e
    obtain ⟨b, off, ea, k⟩ := hc K (.string (str r)) (by rw [List.getElem?_map, hr]; rfl)
    refine ⟨b, off, c, ?_, k⟩
    rw [← ea, ← e]
    exact (row_at h1.cell 4 _ rfl).1)
  have HCL := Lib.hid HC.out
  rw [hN] at hl3 hlt h2 HX
  have hw0 : IntKind.i64.wrap (F + (K : Int) - F) = (K : Int) := by rw [show F + (K : Int) - F = (K : Int) from by omega]; exact IntWalk.i64_in _ (by omega)
  have hltI : (K : Int) < (N : Int) := by omega
  clear h hl hF hN hr HC
  go_enter Tryz.func23, Tryz.ntmps23
  go_wp2_with (first
    | (go_at_call 18; (with_reducible refine (HF.out _ (Below.refl _ _)).mono ?_); rintro _ w1 ⟨rfl, rfl⟩; have HB := Lib.hid (Below.refl w.heap.size w))
    | (go_at_call 19; (with_reducible refine (HX.out _ HB.out).mono ?_); rintro _ w2 ⟨rfl, hb⟩; have HB2 := Lib.hid (HB.out.trans (hb.mono HB.out.size)); clear hb; obtain ⟨b, off, c, c4, k4⟩ := HCL.out _ HB2.out))
  go_region_with (go_at_call 18; (with_reducible refine (HF.out _ HB2.out.drew).mono ?_); rintro _ w3 ⟨rfl, rfl⟩)
  all_goals go_wp2
  all_goals (go_ret2; exact ⟨rfl, HB2.out.drew⟩)
set_option maxHeartbeats 1000000 in
theorem last_any (h : LIn w G lp d M sg rv gs rs u) (hl : gs.length ≤ 1000) {b cap N : Nat} (hsg : sg = .slice (some ⟨b, 0, none⟩) (N + 1) cap) : Calls Tryz.prog 44 #[.pointer (some ⟨lp, 0, none⟩)] w fun e w' => e = .returned (.pointer (some ⟨b, N * 2, none⟩)) ∧ Below w.heap.size w w' := by
  have c3 := (row_at h.cell 3 _ rfl).1
  have hN : gs.length = N + 1 := by
    obtain ⟨a, c, e⟩ := shape_own h.segs
    rw [hsg] at e
    simp only [Value.slice.injEq] at e
    exact e.2.1.symm
  subst hsg
  rw [hN] at hl
  have hw0 : IntKind.i64.wrap ((((N + 1 : Nat) : Int)) - 1) = (N : Int) := by rw [show ((N + 1 : Nat) : Int) - 1 = (N : Int) from by omega]; exact IntWalk.i64_in _ (by omega)
  have hltI : (N : Int) < ((N + 1 : Nat) : Int) := by omega
  clear h hN
  go_enter Tryz.func44, Tryz.ntmps44
  go_wp2_with fail
  go_region
  all_goals go_wp2
  all_goals (go_ret; exact ⟨rfl, (Below.refl _ _).drew⟩)
set_option maxHeartbeats 1000000 in
theorem file_any (h : LIn w G lp d M sg rv gs rs u) (n : Nat) (hn : n < 100) : Calls Tryz.prog 38 #[.pointer (some ⟨lp, 0, none⟩), .int .i64 (n : Int)] w fun e w' => e = .returned (.string (str (nmW n))) ∧ Below w.heap.size w w' := by
  have c1 := (row_at h.cell 1 _ rfl).1
  have HI := Lib.hid (fun W => S13.strconv_Itoa_small n hn W)
  have e2 : str [108, 111, 103, 46] ++ (⟨(Lib.decDigits n).toArray⟩ : ByteArray) = str (nmW n) := by
    rw [dec_dig, show (⟨(digL n).toArray⟩ : ByteArray) = str (digL n) from rfl, str_append]
    rfl
  have e1 : lgS ++ (⟨#[46]⟩ : ByteArray) = str [108, 111, 103, 46] := rfl
  have hz1 : lgS.size ≤ 3 := Nat.le_refl _
  obtain ⟨L, hL⟩ : ∃ L, lgS = L := ⟨_, rfl⟩
  obtain ⟨L2, hL2⟩ : ∃ L, str [108, 111, 103, 46] = L := ⟨_, rfl⟩
  have hz2 : L2.size ≤ 4 := by rw [← hL2]; exact Nat.le_refl _
  rw [hL] at c1 e1 hz1
  rw [hL2] at e1 e2
  have hz3 : (⟨(Lib.decDigits n).toArray⟩ : ByteArray).size ≤ 3 := by
    rw [dec_dig]
    show (digL n).toArray.size ≤ 3
    have := dig_len 2 n (by omega)
    simpa using this
  obtain ⟨D, hD⟩ : ∃ D, (⟨(Lib.decDigits n).toArray⟩ : ByteArray) = D := ⟨_, rfl⟩
  rw [hD] at e2 hz3
  have HI2 := Lib.hid (fun W => by have := HI.out W; rw [hD] at this; exact this)
  clear h hL hL2 hD HI hn
  go_enter Tryz.func38, Tryz.ntmps38
  go_wp2_with fail
  go_region_with (go_at_call 63; (with_reducible refine (HI2.out _).mono ?_); rintro _ w1 ⟨rfl, rfl⟩)
  all_goals go_wp2
  all_goals (go_ret; exact ⟨rfl, (Below.refl _ _).drew⟩)
end
end Go.Proofs.YtelcemfaijjcbaaGreatDoor.C13

namespace Go.Proofs.YtelcemfaijjcbaaGreatDoor.C13
open Go Go.RowKit Go.Lib Go.Sort Go.Proofs Go.Proofs.YtelcemfaijjcbaaGreatDoor.B Go.Proofs.YtelcemfaijjcbaaGreatDoor.K Go.Proofs.YtelcemfaijjcbaaGreatDoor.P8 Go.Proofs.YtelcemfaijjcbaaGreatDoor.C12
set_option linter.unusedVariables false
set_option maxRecDepth 100000
theorem int_info : ∃ i, Tryz.prog.info? 3 = some i ∧ i.zero = some (.int .i64 0) ∧ i.size = 1 ∧ i.bytes = 8 := by
  have h : (Tryz.prog.info? 3).map (fun i => (i.zero, i.size, i.bytes)) = some (some (.int .i64 0), 1, 8) := by kernel_rfl
  obtain ⟨i, hi, e⟩ := Option.map_eq_some_iff.1 h
  simp only [Prod.mk.injEq] at e
  exact ⟨i, hi, e.1, e.2.1, e.2.2⟩
theorem cut_seg (n : Nat) : Lib.trimPrefix (nmW n) [108, 111, 103, 46] = digL n ∧ Lib.hasPrefix (nmW n) [108, 111, 103, 46] = true := by
  have e : nmW n = [108, 111, 103, 46] ++ digL n := rfl
  have h : Lib.hasPrefix (nmW n) [108, 111, 103, 46] = true := by rw [e]; unfold Lib.hasPrefix; exact List.isPrefixOf_iff_prefix.2 (List.prefix_append _ _)
  exact ⟨by unfold Lib.trimPrefix; rw [h, e]; simp, h⟩
set_option maxHeartbeats 1000000 in
theorem segNum_any (n : Nat) (hn : n < 100) (w : World) : Calls Tryz.prog 80 #[.string (str (digL n))] w fun e w' => e = .returned (.tuple #[.int .i64 (n : Int), .bool true]) ∧ Below w.heap.size w w' := by
  have hsz : (str (digL n)).size ≤ 18 := by rw [str_size]; have := dig_len 2 n (by omega); omega
  have HA := Lib.hid (fun W => S13.strconv_Atoi (str (digL n)) (n : Int) hsz (by rw [str_toList]; exact atoi_dig n) W)
  have HI := Lib.hid (fun W => by
    have := S13.strconv_Itoa_small n hn W
    rw [dec_dig, show (⟨(digL n).toArray⟩ : ByteArray) = str (digL n) from rfl] at this
    exact this)
  have h0 : ¬ (n : Int) < 0 := by omega
  have h1 : ¬ (1099511627776 : Int) < (n : Int) := by omega
  obtain ⟨S, hS⟩ : ∃ S, str (digL n) = S := ⟨_, rfl⟩
  rw [hS] at HA HI ⊢
  clear hsz hn hS
  go_enter Tryz.func80, Tryz.ntmps80
  go_wp2_with (first
    | (go_at_call 98; (refine (HA.out _).mono ?_); rintro _ w1 ⟨rfl, t, rfl⟩)
    | (go_at_call 63; (refine (HI.out _).mono ?_); rintro _ w2 ⟨rfl, rfl⟩))
  all_goals (go_ret2; exact ⟨rfl, Lib.bytesWorld_below _ _ _⟩)
def sortI (l : List Int) : List Int := l.mergeSort fun x y => decide (x ≤ y)
/-- slices.Sort of a row of one's own. -/
theorem sort_own {B : Nat} {w : World} {v : Value} {l : List Int} (h : w.ownsRow B 3 1 v l.length (l.map (Value.int .i64))) (hl : l.length ≤ 1000000) :
    Calls Tryz.prog 81 #[v] w fun e w' => e = .returned (.tuple #[]) ∧ w'.ownsRow B 3 1 v l.length ((sortI l).map (Value.int .i64)) ∧ Tn (fun i => v.ownBlock = some i) w w' := by
  have hsl : (sortI l).length = l.length := List.length_mergeSort _
  by_cases hv : v = .slice none 0 0
  · subst hv
    refine (S13.slices_Sort_int_none none 0 w).mono ?_
    rintro e w' ⟨he, rfl⟩
    have h0 : l.length = 0 := by
      rcases h.2 with ⟨_, h0⟩ | ⟨g, cap, cur, e, _⟩
      · exact h0
      · cases e
    obtain rfl := List.length_eq_zero_iff.1 h0
    rw [show sortI [] = [] from by unfold sortI; rw [List.mergeSort_nil]]
    exact ⟨he, h, Tn.refl _ _⟩
  · obtain ⟨g, cap, rfl, hb, hlt, hn, hm, hz, hH⟩ := holds_of_ownsRow h hv
    refine (S13.slices_Sort_int g 0 cap l w hH hlt (by omega)).mono ?_
    rintro e w' ⟨he, n, os, rfl⟩
    rcases h.2 with ⟨e0, _⟩ | ⟨g', cap', cur, e0, hb', hg, hn', hm', hs, ht⟩
    · cases e0
    · cases e0
      refine ⟨he, ?_, ?_⟩
      · have hr := ownsRow_putRow (enc := Value.int .i64) (q := n) (k := l.length) (ys := sortI l) h hsl (Nat.le_refl _)
        rw [List.take_of_length_le (by rw [hsl]; exact Nat.le_refl _)] at hr
        exact row_keep hr fun g' hg' => by
          have := (hr.lt g' hg').2
          change ((putRow (Value.int .i64) (Sort.ahead w n) g 0 (sortI l).toArray).heap ++ os)[g']? = _
          rw [Array.getElem?_append_left this]
      · refine ⟨rfl, rfl, rfl, ?_, fun i hi hne => ?_⟩
        · simp [grow, putRow, mapBlock, Sort.ahead]
        · have hig : i ≠ g := fun e => hne (by rw [e]; rfl)
          simp only [grow]
          rw [Array.getElem?_append_left (by simp [putRow, mapBlock, Sort.ahead]; omega)]
          simp [putRow, mapBlock, Sort.ahead, Array.getElem?_modify, Ne.symm hig]
set_option maxHeartbeats 4000000 in
theorem segsOn_any {w : World} {F : Nat → Prop} {d : Nat} {D : Dst} (h : PAt w F d D) (ns : List Nat) (hns : namesOf D.files = ns.map fun n : Nat => nmW (n : Int)) (h100 : ∀ n ∈ ns, n < 100) :
    Calls Tryz.prog 55 #[.pointer (some ⟨d, 0, none⟩), .string lgS] w fun e w' => ∃ v, e = .returned v ∧ w'.ownsRow w.heap.size 3 1 v ns.length ((sortI (ns.map fun n : Nat => (n : Int))).map (Value.int .i64)) ∧ Below w.heap.size w w' := by
  obtain ⟨i0, hi, hz0, hz1, hz2⟩ := int_info
  obtain ⟨M, n0, Dm, g, bv, h⟩ := h
  have hcnt : ns.length ≤ 128 := by
    have := congrArg List.length hns
    rw [List.length_map] at this
    have h2 := h.fine.ok.count
    have h3 : (namesOf D.files).length = D.files.length := by unfold namesOf; rw [List.length_map]
    omega
  have HL := Lib.hid (plist_any h)
  rw [hns] at HL
  obtain ⟨N, hN⟩ : ∃ N, ns.length = N := ⟨_, rfl⟩
  have HN := Lib.hid hN
  rw [hN] at hcnt ⊢
  have HNS := Lib.hid h100
  have e1 : lgS ++ (⟨#[46]⟩ : ByteArray) = str [108, 111, 103, 46] := rfl
  have hz1' : lgS.size ≤ 3 := Nat.le_refl _
  obtain ⟨L, hL⟩ : ∃ L, lgS = L := ⟨_, rfl⟩
  rw [hL] at e1 hz1' ⊢
  clear h hns h100 hN hL
  go_enter Tryz.func55, Tryz.ntmps55
  go_wp2_with (go_at_call 31; (with_reducible refine HL.out.mono ?_); rintro _ w1 ⟨v1, rfl, hs, hnew, hb⟩; obtain ⟨a1, q1, ev, hc1⟩ := hs; rw [List.length_map, List.length_map, HN.out] at ev; subst ev; have HB1 := Lib.hid hb; have HC1 := Lib.hid hc1; clear hb hnew hc1)
  go_loopw [5, 15] (fun o i wr => ∃ K : Nat, i = .int .i64 (K : Int) ∧ K ≤ N ∧ wr.ownsRow w1.heap.size 3 1 o K (((ns.take K).map fun n : Nat => (n : Int)).map (Value.int .i64)) ∧ Hid (Below w1.heap.size w1 wr)) (fun _ i _ => N - (intOf i).toNat)
  case atStart => exact ⟨0, rfl, Nat.zero_le _, World.ownsRow_nil _ _ _ _, Below.refl _ _⟩
  case round =>
    obtain ⟨K, rfl, hK, hown, HB⟩ := hrel
    have HO := Lib.hid hown
    obtain ⟨av, cv, rfl⟩ := shape_own hown
    clear hown
    by_cases hlt : K < N
    · have hltI : (K : Int) < (N : Int) := by omega
      have hK0 : (0 : Int) ≤ (K : Int) := by omega
      have hw1 : IntKind.i64.wrap ((K : Int) + 1) = (K : Int) + 1 := IntWalk.i64_in _ (by omega)
      obtain ⟨y, hy⟩ : ∃ y, ns[K]? = some y := ⟨_, List.getElem?_eq_getElem (by rw [HN.out]; exact hlt)⟩
      have hy100 : y < 100 := HNS.out y (List.mem_of_getElem? hy)
      obtain ⟨b1, o1, rfl, k1⟩ := HC1.out K (sv (nmW y)) (by rw [List.getElem?_map, List.getElem?_map, hy]; rfl)
      have k2 := kept_cell HB.out k1
      unfold sv at k2
      have HCP := Lib.hid (fun W => by
        have := S13.strings_CutPrefix (str (nmW y)) (str [108, 111, 103, 46]) W
        rw [str_toList, str_toList, (cut_seg y).1, (cut_seg y).2, show (⟨(digL y).toArray⟩ : ByteArray) = str (digL y) from rfl] at this
        exact this)
      have HSN := Lib.hid (fun W => segNum_any y hy100 W)
      have hszn : (str (nmW y)).size ≤ 17 := by rw [str_size]; exact nmW_len (by omega)
      have HD := Lib.hid (show ((ns.take (K + 1)).map fun n : Nat => (n : Int)).map (Value.int .i64) = ((ns.take K).map fun n : Nat => (n : Int)).map (Value.int .i64) ++ [.int .i64 (y : Int)] by
        rw [List.take_add_one, hy]
        simp)
      have HC4 := Lib.hid (show (K + 1) * 8 ≤ 140737488355328 by omega)
      have HC63 := Lib.hid (show K + 1 ≤ maxLen by unfold maxLen; omega)
      have HBW := Lib.hid (show w.heap.size ≤ w1.heap.size from HB1.out.size)
      obtain ⟨YN, hYN⟩ : ∃ YN, str (nmW (y : Int)) = YN := ⟨_, rfl⟩
      rw [hYN] at k2 HCP hszn
      clear hy hy100 k1 hYN
      go_wp2_with (first
        | (go_at_call 79; (refine (HCP.out _).mono ?_); rintro _ w2 ⟨rfl, rfl⟩)
        | (go_at_call 80; (with_reducible refine (HSN.out _).mono ?_); rintro _ w3 ⟨rfl, hb⟩; have HB3 := Lib.hid (HB.out.trans (hb.mono HB.out.size)); have HO3 := Lib.hid (row_new HO.out hb); clear hb)
        | (at_builtin; have HO4 := Lib.hid (HO3.out.alloc (.cells #[.int .i64 (y : Int)] 3)); have HC5 := Lib.hid (show w1.heap.size ≤ (w3.alloc (.cells #[.int .i64 (y : Int)] 3)).heap.size from Nat.le_trans HB3.out.size (below_alloc _ _).size); refine wpList_append_own _ rfl _ _ 29 rfl w1.heap.size 3 i0 (.int .i64 0) 1 8 Tryz.underlying29 hi hz0 hz1 hz2 rfl (by decide) _ _ _ rfl HO4.out ⟨w3.heap.size, 0, none⟩ 1 1 [.int .i64 (y : Int)] rfl rfl (new_one _ _ _) (by intro u hu; simp at hu; subst hu; rfl) HC63.out HC4.out HC5.out ?_; intro v5 w5 hown5 hgrow5 hnn5; have HB5 := Lib.hid ((HB3.out.alloc HB3.out.size _).grown hgrow5 HC5.out (owns_blk HO4.out)); have HOW := Lib.hid hown5; clear hnn5 hown5 hgrow5))
      go_roundw
      case rel => exact ⟨K + 1, by go_num, by omega, by rw [HD.out]; exact HOW.out, HB5⟩
      case measure => simp [intOf]; omega
    · have hltI : ¬ (K : Int) < (N : Int) := by omega
      obtain rfl : K = N := by omega
      have HO9 := Lib.hid (show wr.ownsRow w1.heap.size 3 1 (.slice av K cv) (ns.map fun n : Nat => (n : Int)).length ((ns.map fun n : Nat => (n : Int)).map (Value.int .i64)) from by
        have h := HO.out
        rw [List.take_of_length_le (by rw [HN.out]; omega)] at h
        rw [List.length_map, HN.out]
        exact h)
      have HSO := Lib.hid (sort_own HO9.out (by rw [List.length_map, HN.out]; omega))
      have HW1 := Lib.hid HB1.out
      go_wp2_with (go_at_call 81; (with_reducible refine HSO.out.mono ?_); rintro _ w2 ⟨rfl, ho, ht⟩; have HO2 := Lib.hid ho; have HT2 := Lib.hid ht; clear ho ht)
      go_ret
      have h2 := HO2.out
      rw [List.length_map, HN.out] at h2
      exact ⟨_, rfl, Joins.ownsRow_le h2 HW1.out.size, HT2.out.onto (HW1.out.trans (HB.out.mono HW1.out.size)) (Nat.le_refl _) fun i hi => Nat.le_trans HW1.out.size (HO9.out.lt i hi).1⟩
end Go.Proofs.YtelcemfaijjcbaaGreatDoor.C13

namespace Go.Proofs.YtelcemfaijjcbaaGreatDoor.C13
open Go Go.RowKit Go.Shelf Go.Proofs Go.Proofs.YtelcemfaijjcbaaGreatDoor.B Go.Proofs.YtelcemfaijjcbaaGreatDoor.K Go.Proofs.YtelcemfaijjcbaaGreatDoor.P8 Go.Proofs.YtelcemfaijjcbaaGreatDoor.C12
set_option linter.unusedVariables false
attribute [local go_sem] Oper.semAt_some

set_option maxRecDepth 100000 in
set_option maxHeartbeats 2000000 in
theorem back1_in (n : Nat) (l Bs : Nat) (a : Option Addr) (c : Nat) (J : World → Prop) (W : World) (hBs : W.cell? ⟨Bs, 0, none⟩ = some (.slice a 0 c)) (h0 : J W) :
    CallsIn Fence.wide n Tryz.prog 100 #[.func (.yield l) #[] #[], .pointer (some ⟨Bs, 0, none⟩)] W fun e W' => (∃ v, e = .returned v) ∧ J W' := by
  refine callsIn_of_wp Tryz.func100 rfl trivial ?_ rfl
  simp only [Tryz.ntmps100, List.size_toArray, List.length_cons, List.length_nil, Nat.reduceAdd, Nat.reduceSub, Array.replicate_succ, Array.replicate_zero, List.push_toArray, List.append_toArray, List.nil_append, List.cons_append]
  have hw : IntKind.i64.wrap (0 - 1) = -1 := by decide
  gi_wp2
  gi_loopw [3] (fun i wr => i = .int .i64 (-1) ∧ J wr) (fun _ _ => 0)
  case atStart => exact ⟨by simp, h0⟩
  case round =>
    obtain ⟨rfl, hJs⟩ := hrel
    gi_wp2
    go_end0
    exact ⟨⟨_, rfl⟩, hJs⟩
set_option maxHeartbeats 1000000 in
theorem back_in (n : Nat) (a : Option Addr) (len cap : Nat) (w : World) :
    CallsIn Fence.wide n Tryz.prog 82 #[.slice a len cap] w fun e w' => e = .returned (.func (.func 100) #[] #[.pointer (some ⟨w.heap.size, 0, none⟩)]) ∧ w' = w.alloc (.cells #[.slice a len cap] 29) := by
  refine callsIn_of_wp Tryz.func82 rfl trivial ?_ rfl
  simp only [Tryz.ntmps82, List.size_toArray, List.length_cons, List.length_nil, Nat.reduceAdd, Nat.reduceSub, Array.replicate_succ, Array.replicate_zero, List.push_toArray, List.append_toArray, List.nil_append, List.cons_append]
  gi_wp2
  go_ret
  exact ⟨rfl, rfl⟩
set_option maxRecDepth 100000 in
set_option maxHeartbeats 4000000 in
theorem remB_any (lp : Nat) (a : Option Addr) (c : Nat) (w : World) : Calls Tryz.prog 57 #[.pointer (some ⟨lp, 0, none⟩), .slice a 0 c] w fun e w' => e = .returned (.int .i64 0) ∧ Below w.heap.size w w' := by
  refine (callsIn_wide (n := 4)).1 ?_
  refine callsIn_of_wp_marks Tryz.func57 rfl trivial ?_ rfl
  simp only [Tryz.ntmps57, List.size_toArray, List.length_cons, List.length_nil, Nat.reduceAdd, Nat.reduceSub, Array.replicate_succ, Array.replicate_zero, List.push_toArray, List.append_toArray, List.nil_append, List.cons_append]
  gi_wp2_with (refine ⟨trivial, ?_⟩; gi_at_call 82; refine (back_in _ _ _ _ _).mono ?_; rintro e w' ⟨rfl, rfl⟩)
  obtain ⟨W0, hW0⟩ : ∃ W0, ((w.alloc (.cells #[.pointer (some ⟨lp, 0, none⟩)] 35)).alloc (.cells #[.int .i64 0] 31)).alloc (.cells #[.slice a 0 c] 29) = W0 := ⟨_, rfl⟩
  have hB0 : Below w.heap.size w W0 := by
    rw [← hW0]
    exact (((Below.refl _ w).alloc (Nat.le_refl _) _).alloc (by simp) _).alloc (by simp; omega) _
  have hsz : W0.heap.size = w.heap.size + 3 := by rw [← hW0]; simp
  have hcs : W0.cell? ⟨w.heap.size + 2, 0, none⟩ = some (.slice a 0 c) := by
    have := alloc_cell ((w.alloc (.cells #[.pointer (some ⟨lp, 0, none⟩)] 35)).alloc (.cells #[.int .i64 0] 31)) [.slice a 0 c] 29 0 _ rfl
    rw [hW0] at this
    simpa using this
  have hcr : W0.cell? ⟨w.heap.size + 1, 0, none⟩ = some (.int .i64 0) ∧ W0.frozen? ⟨w.heap.size + 1, 0, none⟩ = false := by
    have h1 : ((w.alloc (.cells #[.pointer (some ⟨lp, 0, none⟩)] 35)).alloc (.cells #[.int .i64 0] 31)).heap[w.heap.size + 1]? = some (.cells #[.int .i64 0] 31 (0, 0)) := by
      have := heap_alloc_at (w.alloc (.cells #[.pointer (some ⟨lp, 0, none⟩)] 35)) (.cells #[.int .i64 0] 31)
      simpa using this
    have h2 : W0.heap[w.heap.size + 1]? = some (.cells #[.int .i64 0] 31 (0, 0)) := by
      rw [← hW0]
      exact ((below_alloc _ _).block _ (by simp)).trans h1
    exact row_at h2 0 _ rfl
  rw [hW0]
  refine wpIn_rangeFunc_ownF (α := Empty) rfl (by omega) (gf := 100) (lb := #[.pointer (some ⟨w.heap.size + 2, 0, none⟩)]) rfl trivial (enters_of Tryz.func100 (by kernel_rfl) rfl)
    (encs := fun x => x.elim) (Kp := fun _ _ => True) (S := fun xs => xs = []) (Sp := fun _ => False) (N := 0) (w0 := W0)
    (fun l J Jx W hW hJ hJx hY h0 => (back1_in _ l (w.heap.size + 2) a c (J []) W ((hW.cell (p := ⟨w.heap.size + 2, 0, none⟩) (by rw [hsz]; show w.heap.size + 2 < _; omega)).trans hcs) h0).mono fun e W' ⟨he, hj⟩ => ⟨he, .inl ⟨[], rfl, hj⟩⟩)
    (fun _ _ => trivial) (fun _ _ _ _ _ _ _ _ => trivial) (Below.refl _ _) (fun x => x.elim)
    (fun pre W => (W.cell? ⟨w.heap.size + 1, 0, none⟩ = some (.int .i64 0) ∧ W.frozen? ⟨w.heap.size + 1, 0, none⟩ = false) ∧ Below W0.heap.size W0 W)
    (fun _ _ _ => False)
    (OwnFrom.and (Own.from (fun s A B row hs hg hr => ⟨cell_kept hs.1 hg hr, (frozen_kept hs.1 hg hr).trans hs.2⟩) _) (ownFrom_below (Nat.le_refl _) (Nat.le_refl _)))
    (fun _ _ _ _ _ hs _ _ => hs)
    ⟨hcr, Below.refl _ _⟩
    (fun x => x.elim) (fun _ x => x.elim) (fun _ _ x => x.elim) ?done ?stop
  case done =>
    rintro D xs W hD rfl ⟨⟨hc, hf⟩, hB⟩ hK
    gi_wp2
    have hK' := (KeepsOthers.setCell W ⟨w.heap.size + 1, 0, none⟩ (.int .i64 0)).same D _ hK rfl
    refine ⟨by simp, .inl ⟨_, _, rfl, run_takeDeferred hK', ?_⟩⟩
    have hc5 := cell_kept (World.cell?_setCell_same' W ⟨w.heap.size + 1, 0, none⟩ (.int .i64 0) (by rw [hc]; rfl)) (grownBy_putObj' _ D (.deferred none)) (fun r e => by cases e; exact ⟨_, hK', rfl⟩)
    refine ⟨.int .i64 0, ?_, rfl, ?_⟩
    · simp [results, Tryz.f57, go_sem, hc5]
    · exact (hB0.trans (hB.mono hB0.size)).trans ((((Below.refl w.heap.size W).setCell (p := ⟨w.heap.size + 1, 0, none⟩) (by show w.heap.size ≤ w.heap.size + 1; omega) _)).trans (belowK_b (w := w) (Nat.le_refl _) _ D _ _ (by omega) hK' rfl rfl))
  case stop =>
    rintro D c pre W _ h _ _
    exact h.elim
end Go.Proofs.YtelcemfaijjcbaaGreatDoor.C13
