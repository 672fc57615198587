/-
  Layer 5: tables, plain and in memory.
-/
import Derived.Test.YtfcdkjhabdpijaaDoorEMath
import Derived.Test.YtfcdkjhabdpijaaDoorKSl
import Derived.Test.YtfcdkjhabdpijaaDoorKIns
import Derived.Test.YtfcdkjhabdpijaaDoorKBase
import Derived.SliceStrings
namespace Go.Proofs.YtfcdkjhabdpijaaDoor.R
open Go Go.RowKit Go.ChangeShapes Go.WideShapes Go.ChangeAt Go.Proofs.YtfcdkjhabdpijaaDoor.B Go.Proofs.YtfcdkjhabdpijaaDoor.K Go.Proofs.YtfcdkjhabdpijaaDoor.E
set_option linter.unusedVariables false

abbrev Bs := List UInt8
structure Gd where
  code : Int
  test : List In
structure Se where
  var : Int
  value : List In
structure Sp where
  sets : List Se
  to : Int
structure Rl where
  name : Bs
  args : Int
  from_ : List Int
  guards : List Gd
  steps : List Sp
structure Tb where
  states : List Bs
  vars : List Bs
  start : List Int
  rules : List Rl

def I64 (n : Int) : Prop := -9223372036854775808 ≤ n ∧ n ≤ 9223372036854775807
def CodeWf (c : List In) : Prop := (∀ i ∈ c, (-9223372036854775808 ≤ i.1 ∧ i.1 ≤ 9223372036854775807) ∧ (-9223372036854775808 ≤ i.2 ∧ i.2 ≤ 9223372036854775807)) ∧ c.length ≤ 9223372036854775807
def GdWf (g : Gd) : Prop := I64 g.code ∧ CodeWf g.test
def SeWf (s : Se) : Prop := I64 s.var ∧ CodeWf s.value
def SpWf (s : Sp) : Prop := (∀ x ∈ s.sets, SeWf x) ∧ s.sets.length ≤ 9223372036854775807 ∧ I64 s.to
def RlWf (r : Rl) : Prop := r.name.length ≤ 9223372036854775807 ∧ I64 r.args ∧ ((∀ x ∈ r.from_, I64 x) ∧ r.from_.length ≤ 9223372036854775807) ∧ ((∀ x ∈ r.guards, GdWf x) ∧ r.guards.length ≤ 9223372036854775807) ∧ ((∀ x ∈ r.steps, SpWf x) ∧ r.steps.length ≤ 9223372036854775807)
def TbWf (t : Tb) : Prop := ((∀ x ∈ t.states, x.length ≤ 9223372036854775807) ∧ t.states.length ≤ 9223372036854775807) ∧ ((∀ x ∈ t.vars, x.length ≤ 9223372036854775807) ∧ t.vars.length ≤ 9223372036854775807) ∧
  ((∀ x ∈ t.start, I64 x) ∧ t.start.length ≤ 9223372036854775807) ∧ ((∀ x ∈ t.rules, RlWf x) ∧ t.rules.length ≤ 9223372036854775807)

/-- The slice value v reads, in w, as xs, of which each lies in k cells that Q tells of. -/
def SlOf {X : Type} (w : World) (k : Nat) (Q : List Value → X → Prop) (v : Value) (xs : List X) : Prop :=
  ∃ a cap, v = .slice a xs.length cap ∧ ∀ j x, xs[j]? = some x → ∃ b off, a = some ⟨b, off, none⟩ ∧ ∃ cs, cs.length = k ∧ Q cs x ∧ ∀ i c, cs[i]? = some c → w.cell? ⟨b, off + j * k + i, none⟩ = some c

theorem SlOf.nil {X : Type} (w : World) (k : Nat) (Q : List Value → X → Prop) : SlOf w k Q (.slice none 0 0) [] := ⟨none, 0, rfl, fun j i h => by simp at h⟩

theorem SlOf.below {X : Type} {w w' : World} {k : Nat} {Q Q' : List Value → X → Prop} {v : Value} {xs : List X} (h : SlOf w k Q v xs) (hb : Below w.heap.size w w') (hq : ∀ cs x, Q cs x → Q' cs x) : SlOf w' k Q' v xs := by
  obtain ⟨a, cap, rfl, hc⟩ := h
  refine ⟨a, cap, rfl, fun j x hj => ?_⟩
  obtain ⟨b, off, ha, cs, hl, hQ, h1⟩ := hc j x hj
  exact ⟨b, off, ha, cs, hl, hq _ _ hQ, fun i c hi => (hb.cell (p := ⟨b, off + j * k + i, none⟩) (World.block_lt_of_cell? w _ (h1 i c hi))).trans (h1 i c hi)⟩

theorem SlOf.at {X : Type} {w : World} {k : Nat} {Q : List Value → X → Prop} {a : Option Addr} {len cap : Nat} {xs : List X} {j : Nat} {x : X} (h : SlOf w k Q (.slice a len cap) xs) (hi : xs[j]? = some x) :
    ∃ b off, a = some ⟨b, off, none⟩ ∧ ∃ cs, cs.length = k ∧ Q cs x ∧ ∀ i c, cs[i]? = some c → w.cell? ⟨b, off + j * k + i, none⟩ = some c := by
  obtain ⟨a', cap', e, hc⟩ := h
  cases e
  exact hc j x hi

theorem kept_cell {w w' : World} {g j : Nat} {u : Value} (hb : Below w.heap.size w w') (h : w.cell? ⟨g, j, none⟩ = some u) : w'.cell? ⟨g, j, none⟩ = some u :=
  (hb.cell (p := ⟨g, j, none⟩) (World.block_lt_of_cell? w _ h)).trans h

def SlN (w : World) (v : Value) (xs : List Int) : Prop := Sl w v (xs.map fun n => .int .i64 n)
def SlB (w : World) (v : Value) (xs : List Bs) : Prop := Sl w v (xs.map sv)
def GdIs (w : World) (cs : List Value) (g : Gd) : Prop := ∃ t, cs = [.int .i64 g.code, t] ∧ SlI w t g.test
def SeIs (w : World) (cs : List Value) (s : Se) : Prop := ∃ t, cs = [.int .i64 s.var, t] ∧ SlI w t s.value
def SpIs (w : World) (cs : List Value) (s : Sp) : Prop := ∃ v, cs = [v, .int .i64 s.to] ∧ SlOf w 2 (SeIs w) v s.sets
def RlIs (w : World) (cs : List Value) (r : Rl) : Prop := ∃ f g s, cs = [sv r.name, .int .i64 r.args, f, g, s] ∧ SlN w f r.from_ ∧ SlOf w 2 (GdIs w) g r.guards ∧ SlOf w 2 (SpIs w) s r.steps
def TbIs (w : World) (cs : List Value) (t : Tb) : Prop := ∃ s x n r, cs = [s, x, n, r] ∧ SlB w s t.states ∧ SlB w x t.vars ∧ SlN w n t.start ∧ SlOf w 5 (RlIs w) r t.rules

theorem GdIs.below {w w' : World} {cs : List Value} {g : Gd} (h : GdIs w cs g) (hb : Below w.heap.size w w') : GdIs w' cs g := by
  obtain ⟨t, rfl, h⟩ := h; exact ⟨t, rfl, h.below hb⟩
theorem SeIs.below {w w' : World} {cs : List Value} {g : Se} (h : SeIs w cs g) (hb : Below w.heap.size w w') : SeIs w' cs g := by
  obtain ⟨t, rfl, h⟩ := h; exact ⟨t, rfl, h.below hb⟩
theorem SpIs.below {w w' : World} {cs : List Value} {g : Sp} (h : SpIs w cs g) (hb : Below w.heap.size w w') : SpIs w' cs g := by
  obtain ⟨t, rfl, h⟩ := h; exact ⟨t, rfl, h.below hb (fun _ _ q => q.below hb)⟩
theorem RlIs.below {w w' : World} {cs : List Value} {g : Rl} (h : RlIs w cs g) (hb : Below w.heap.size w w') : RlIs w' cs g := by
  obtain ⟨f, x, s, rfl, h1, h2, h3⟩ := h; exact ⟨f, x, s, rfl, Sl.below h1 hb, h2.below hb (fun _ _ q => q.below hb), h3.below hb (fun _ _ q => q.below hb)⟩
theorem TbIs.below {w w' : World} {cs : List Value} {g : Tb} (h : TbIs w cs g) (hb : Below w.heap.size w w') : TbIs w' cs g := by
  obtain ⟨s, x, n, r, rfl, h1, h2, h3, h4⟩ := h; exact ⟨s, x, n, r, rfl, Sl.below h1 hb, Sl.below h2 hb, Sl.below h3 hb, h4.below hb (fun _ _ q => q.below hb)⟩

section
variable {H : Type} {enc : TypeId × Value → H} {P : Program} {W : World}

/-- A value that reads as a slice whose elements each read as Q tells. -/
theorem of_field {X : Type} [Inhabited X] {t e : TypeId} {k : Nat} (ht : P.underlying t = some (.slice e)) (hc : P.cellsOf e = k) (hk : 0 < k) {Q : List Value → X → Prop} {R : X → Prop}
    (each : ∀ fuel cs y, cs.length = k → DataW.trod enc P W 0 (fun _ => true) true fuel e cs = some y → ∃ x, Q cs x ∧ R x) {fuel : Nat} {v : Value} {y : DataW H × List MemPlace}
    (hf : DataW.trod enc P W 0 (fun _ => true) true fuel t [v] = some y) : ∃ xs : List X, SlOf W k Q v xs ∧ (∀ x ∈ xs, R x) ∧ xs.length ≤ 9223372036854775807 := by
  rcases Go.Deep.open_slice ht hf with ⟨hcs, _⟩ | ⟨a, len, cap, m, n, D, Pl, hcs, _, hl, hm, hmm, _, hx⟩
  · simp at hcs
    subst hcs
    exact ⟨[], SlOf.nil W k Q, by simp, by simp⟩
  · simp at hcs
    subst hcs
    rw [hc] at hx
    have hm' : m = cap := by simpa using hmm
    obtain ⟨X, hX⟩ := Go.Deep.choose_lt (α := X × List Value) (n := m) (p := fun i x => x.2.length = k ∧ Q x.2 x.1 ∧ R x.1 ∧ ∀ j c, x.2[j]? = some c → W.cell? ((a.add (i * k)).add j) = some c) (fun i hi => by
      obtain ⟨cs', h1, h2⟩ := hx i hi
      obtain ⟨_, hlen, hcell⟩ := World.cells?_some h1
      obtain ⟨x, q, r⟩ := each _ cs' _ hlen h2
      refine ⟨(x, cs'), hlen, q, r, fun j c hj => ?_⟩
      have hjl := (List.getElem?_eq_some_iff.1 hj).1
      rw [hcell j (by simpa using hlen ▸ hjl)]
      exact hj)
    refine ⟨(List.range len).map fun i => (X i).1, ⟨some a, cap, by simp, fun j i hj => ?_⟩, fun x hxm => ?_, by simp; exact Nat.le_trans hl (Nat.le_trans hm (by decide))⟩
    · have hjl : j < len := by
        have := (List.getElem?_eq_some_iff.1 hj).1
        simpa using this
      rw [List.getElem?_map, List.getElem?_range hjl] at hj
      have hj' : (X j).1 = i := by simpa using hj
      obtain ⟨c0, c1, c2, c3⟩ := hX j (by omega)
      rw [hj'] at c1
      obtain ⟨b, off, spot⟩ := a
      have hs : spot = none := by
        obtain ⟨z0, _, _, z3⟩ := hX 0 (by omega)
        have hk0 : 0 < (X 0).2.length := by omega
        have := World.cell?_spot (z3 0 _ (List.getElem?_eq_getElem hk0))
        simpa [Addr.add] using this
      subst hs
      refine ⟨b, off, rfl, (X j).2, c0, c1, fun i c hi => ?_⟩
      have := c3 i c hi
      rw [add_plain, add_plain] at this
      exact this
    · obtain ⟨j, hj, rfl⟩ := List.mem_map.1 hxm
      exact (hX j (by have := List.mem_range.1 hj; omega)).2.2.1

end
end Go.Proofs.YtfcdkjhabdpijaaDoor.R
