/-
  Layer 5: tables, plain and in memory.
  Plain mathematics of layer 3 (expr), continued: what is folded is checked and comes to the same, is not longer, and stays.
  Plain mathematics of layer 4 (infix): expressions, their instructions, their texts in pieces; words of texts; the grammar as derivations. No program is named here.
-/
import Derived.Test.YtfooiggedgcjcaaGreatDoorKBase
import Derived.SliceStrings
namespace Go.Proofs.YtfooiggedgcjcaaGreatDoor.R
open Go Go.RowKit Go.ChangeShapes Go.WideShapes Go.ChangeAt Go.Proofs.YtfooiggedgcjcaaGreatDoor.B Go.Proofs.YtfooiggedgcjcaaGreatDoor.K Go.Proofs.YtfooiggedgcjcaaGreatDoor.E
set_option linter.unusedVariables false

abbrev Bs := List UInt8
structure Gd where
  code : Int
  test : List In
structure Se where
  var : Int
  value : List In
structure Sp where
  sets : List Se
  to : Int
structure Rl where
  name : Bs
  args : Int
  from_ : List Int
  guards : List Gd
  steps : List Sp
structure Tb where
  states : List Bs
  vars : List Bs
  start : List Int
  rules : List Rl

def I64 (n : Int) : Prop := -9223372036854775808 ≤ n ∧ n ≤ 9223372036854775807
def CodeWf (c : List In) : Prop := (∀ i ∈ c, (-9223372036854775808 ≤ i.1 ∧ i.1 ≤ 9223372036854775807) ∧ (-9223372036854775808 ≤ i.2 ∧ i.2 ≤ 9223372036854775807)) ∧ c.length ≤ 9223372036854775807
def GdWf (g : Gd) : Prop := I64 g.code ∧ CodeWf g.test
def SeWf (s : Se) : Prop := I64 s.var ∧ CodeWf s.value
def SpWf (s : Sp) : Prop := (∀ x ∈ s.sets, SeWf x) ∧ s.sets.length ≤ 9223372036854775807 ∧ I64 s.to
def RlWf (r : Rl) : Prop := r.name.length ≤ 9223372036854775807 ∧ I64 r.args ∧ ((∀ x ∈ r.from_, I64 x) ∧ r.from_.length ≤ 9223372036854775807) ∧ ((∀ x ∈ r.guards, GdWf x) ∧ r.guards.length ≤ 9223372036854775807) ∧ ((∀ x ∈ r.steps, SpWf x) ∧ r.steps.length ≤ 9223372036854775807)
def TbWf (t : Tb) : Prop := ((∀ x ∈ t.states, x.length ≤ 9223372036854775807) ∧ t.states.length ≤ 9223372036854775807) ∧ ((∀ x ∈ t.vars, x.length ≤ 9223372036854775807) ∧ t.vars.length ≤ 9223372036854775807) ∧
  ((∀ x ∈ t.start, I64 x) ∧ t.start.length ≤ 9223372036854775807) ∧ ((∀ x ∈ t.rules, RlWf x) ∧ t.rules.length ≤ 9223372036854775807)

/-- The slice value v reads, in w, as xs, of which each lies in k cells that Q tells of. -/
def SlOf {X : Type} (w : World) (k : Nat) (Q : List Value → X → Prop) (v : Value) (xs : List X) : Prop :=
  ∃ a cap, v = .slice a xs.length cap ∧ ∀ j x, xs[j]? = some x → ∃ b off, a = some ⟨b, off, none⟩ ∧ ∃ cs, cs.length = k ∧ Q cs x ∧ ∀ i c, cs[i]? = some c → w.cell? ⟨b, off + j * k + i, none⟩ = some c

theorem SlOf.nil {X : Type} (w : World) (k : Nat) (Q : List Value → X → Prop) : SlOf w k Q (.slice none 0 0) [] := ⟨none, 0, rfl, fun j i h => by simp at h⟩

theorem SlOf.below {X : Type} {w w' : World} {k : Nat} {Q Q' : List Value → X → Prop} {v : Value} {xs : List X} (h : SlOf w k Q v xs) (hb : Below w.heap.size w w') (hq : ∀ cs x, Q cs x → Q' cs x) : SlOf w' k Q' v xs := by
  obtain ⟨a, cap, rfl, hc⟩ := h
  refine ⟨a, cap, rfl, fun j x hj => ?_⟩
  obtain ⟨b, off, ha, cs, hl, hQ, h1⟩ := hc j x hj
  exact ⟨b, off, ha, cs, hl, hq _ _ hQ, fun i c hi => (hb.cell (p := ⟨b, off + j * k + i, none⟩) (World.block_lt_of_cell? w _ (h1 i c hi))).trans (h1 i c hi)⟩

theorem SlOf.at {X : Type} {w : World} {k : Nat} {Q : List Value → X → Prop} {a : Option Addr} {len cap : Nat} {xs : List X} {j : Nat} {x : X} (h : SlOf w k Q (.slice a len cap) xs) (hi : xs[j]? = some x) :
    ∃ b off, a = some ⟨b, off, none⟩ ∧ ∃ cs, cs.length = k ∧ Q cs x ∧ ∀ i c, cs[i]? = some c → w.cell? ⟨b, off + j * k + i, none⟩ = some c := by
  obtain ⟨a', cap', e, hc⟩ := h
  cases e
  exact hc j x hi

theorem kept_cell {w w' : World} {g j : Nat} {u : Value} (hb : Below w.heap.size w w') (h : w.cell? ⟨g, j, none⟩ = some u) : w'.cell? ⟨g, j, none⟩ = some u :=
  (hb.cell (p := ⟨g, j, none⟩) (World.block_lt_of_cell? w _ h)).trans h

def SlN (w : World) (v : Value) (xs : List Int) : Prop := Sl w v (xs.map fun n => .int .i64 n)
def SlB (w : World) (v : Value) (xs : List Bs) : Prop := Sl w v (xs.map sv)
def GdIs (w : World) (cs : List Value) (g : Gd) : Prop := ∃ t, cs = [.int .i64 g.code, t] ∧ SlI w t g.test
def SeIs (w : World) (cs : List Value) (s : Se) : Prop := ∃ t, cs = [.int .i64 s.var, t] ∧ SlI w t s.value
def SpIs (w : World) (cs : List Value) (s : Sp) : Prop := ∃ v, cs = [v, .int .i64 s.to] ∧ SlOf w 2 (SeIs w) v s.sets
def RlIs (w : World) (cs : List Value) (r : Rl) : Prop := ∃ f g s, cs = [sv r.name, .int .i64 r.args, f, g, s] ∧ SlN w f r.from_ ∧ SlOf w 2 (GdIs w) g r.guards ∧ SlOf w 2 (SpIs w) s r.steps
def TbIs (w : World) (cs : List Value) (t : Tb) : Prop := ∃ s x n r, cs = [s, x, n, r] ∧ SlB w s t.states ∧ SlB w x t.vars ∧ SlN w n t.start ∧ SlOf w 5 (RlIs w) r t.rules

theorem GdIs.below {w w' : World} {cs : List Value} {g : Gd} (h : GdIs w cs g) (hb : Below w.heap.size w w') : GdIs w' cs g := by
  obtain ⟨t, rfl, h⟩ := h; exact ⟨t, rfl, h.below hb⟩
theorem SeIs.below {w w' : World} {cs : List Value} {g : Se} (h : SeIs w cs g) (hb : Below w.heap.size w w') : SeIs w' cs g := by
  obtain ⟨t, rfl, h⟩ := h; exact ⟨t, rfl, h.below hb⟩
theorem SpIs.below {w w' : World} {cs : List Value} {g : Sp} (h : SpIs w cs g) (hb : Below w.heap.size w w') : SpIs w' cs g := by
  obtain ⟨t, rfl, h⟩ := h; exact ⟨t, rfl, h.below hb (fun _ _ q => q.below hb)⟩
theorem RlIs.below {w w' : World} {cs : List Value} {g : Rl} (h : RlIs w cs g) (hb : Below w.heap.size w w') : RlIs w' cs g := by
  obtain ⟨f, x, s, rfl, h1, h2, h3⟩ := h; exact ⟨f, x, s, rfl, Sl.below h1 hb, h2.below hb (fun _ _ q => q.below hb), h3.below hb (fun _ _ q => q.below hb)⟩
theorem TbIs.below {w w' : World} {cs : List Value} {g : Tb} (h : TbIs w cs g) (hb : Below w.heap.size w w') : TbIs w' cs g := by
  obtain ⟨s, x, n, r, rfl, h1, h2, h3, h4⟩ := h; exact ⟨s, x, n, r, rfl, Sl.below h1 hb, Sl.below h2 hb, Sl.below h3 hb, h4.below hb (fun _ _ q => q.below hb)⟩

section
variable {H : Type} {enc : TypeId × Value → H} {P : Program} {W : World}

/-- A value that reads as a slice whose elements each read as Q tells. -/
theorem of_field {X : Type} [Inhabited X] {t e : TypeId} {k : Nat} (ht : P.underlying t = some (.slice e)) (hc : P.cellsOf e = k) (hk : 0 < k) {Q : List Value → X → Prop} {R : X → Prop}
    (each : ∀ fuel cs y, cs.length = k → DataW.trod enc P W 0 (fun _ => true) true fuel e cs = some y → ∃ x, Q cs x ∧ R x) {fuel : Nat} {v : Value} {y : DataW H × List MemPlace}
    (hf : DataW.trod enc P W 0 (fun _ => true) true fuel t [v] = some y) : ∃ xs : List X, SlOf W k Q v xs ∧ (∀ x ∈ xs, R x) ∧ xs.length ≤ 9223372036854775807 := by
  rcases Go.Deep.open_slice ht hf with ⟨hcs, _⟩ | ⟨a, len, cap, m, n, D, Pl, hcs, _, hl, hm, hmm, _, hx⟩
  · simp at hcs
    subst hcs
    exact ⟨[], SlOf.nil W k Q, by simp, by simp⟩
  · simp at hcs
    subst hcs
    rw [hc] at hx
    have hm' : m = cap := by simpa using hmm
    obtain ⟨X, hX⟩ := Go.Deep.choose_lt (α := X × List Value) (n := m) (p := fun i x => x.2.length = k ∧ Q x.2 x.1 ∧ R x.1 ∧ ∀ j c, x.2[j]? = some c → W.cell? ((a.add (i * k)).add j) = some c) (fun i hi => by
      obtain ⟨cs', h1, h2⟩ := hx i hi
      obtain ⟨_, hlen, hcell⟩ := World.cells?_some h1
      obtain ⟨x, q, r⟩ := each _ cs' _ hlen h2
      refine ⟨(x, cs'), hlen, q, r, fun j c hj => ?_⟩
      have hjl := (List.getElem?_eq_some_iff.1 hj).1
      rw [hcell j (by simpa using hlen ▸ hjl)]
      exact hj)
    refine ⟨(List.range len).map fun i => (X i).1, ⟨some a, cap, by simp, fun j i hj => ?_⟩, fun x hxm => ?_, by simp; exact Nat.le_trans hl (Nat.le_trans hm (by decide))⟩
    · have hjl : j < len := by
        have := (List.getElem?_eq_some_iff.1 hj).1
        simpa using this
      rw [List.getElem?_map, List.getElem?_range hjl] at hj
      have hj' : (X j).1 = i := by simpa using hj
      obtain ⟨c0, c1, c2, c3⟩ := hX j (by omega)
      rw [hj'] at c1
      obtain ⟨b, off, spot⟩ := a
      have hs : spot = none := by
        obtain ⟨z0, _, _, z3⟩ := hX 0 (by omega)
        have hk0 : 0 < (X 0).2.length := by omega
        have := World.cell?_spot (z3 0 _ (List.getElem?_eq_getElem hk0))
        simpa [Addr.add] using this
      subst hs
      refine ⟨b, off, rfl, (X j).2, c0, c1, fun i c hi => ?_⟩
      have := c3 i c hi
      rw [add_plain, add_plain] at this
      exact this
    · obtain ⟨j, hj, rfl⟩ := List.mem_map.1 hxm
      exact (hX j (by have := List.mem_range.1 hj; omega)).2.2.1

end
end Go.Proofs.YtfooiggedgcjcaaGreatDoor.R

namespace Go.Proofs.YtfooiggedgcjcaaGreatDoor.E
open Go
set_option linter.unusedVariables false

theorem takes_const : takes 1 = 0 := by decide

theorem cstep_const (nv na a h : Int) (ha : isVal a = true) : cstep nv na (1, a) h = if h < 0 then .error 5 else .ok (h + 1) := by
  have hr : right (1, a) nv na = true := by unfold right; rw [if_pos rfl]; exact ha
  unfold cstep
  rw [takes_const, hr]
  simp

theorem step_const (vs as_ : List Int) (a : Int) (st : List Int) : step vs as_ (1, a) st = some (a :: st) := by
  unfold step
  rw [takes_const]
  simp

/-- An instruction that takes numbers is no Const, Var or Arg: its number must be 0, whatever the variables are. -/
theorem right_op (i : In) (nv na nv' na' : Int) (h : 0 < takes i.1) : right i nv na = right i nv' na' := by
  have h1 : i.1 ≠ 1 := by intro e; rw [e] at h; revert h; decide
  have h2 : i.1 ≠ 2 := by intro e; rw [e] at h; revert h; decide
  have h3 : i.1 ≠ 3 := by intro e; rw [e] at h; revert h; decide
  unfold right
  rw [if_neg h1, if_neg h2, if_neg h3, if_neg h1, if_neg h2, if_neg h3]

theorem cstep_op (nv na : Int) (i : In) (h : Int) (ht : 0 < takes i.1) (hr : right i nv na = true) : cstep nv na i h = if h < takes i.1 then .error 5 else .ok (h - takes i.1 + 1) := by
  unfold cstep
  rw [if_neg (by omega), hr]
  simp

theorem step_op (vs as_ : List Int) (i : In) (h : 0 < takes i.1) : i.1 ≠ 2 ∧ i.1 ≠ 3 :=
  ⟨fun e => by rw [e] at h; revert h; decide, fun e => by rw [e] at h; revert h; decide⟩

theorem fold1 (nv na : Int) (i : In) (a n h : Int) (ht : takes i.1 = 1) (hr : right i nv na = true) (ha : isVal a = true) (hn : isVal n = true) :
    crun nv na [(1, a), i] h = crun nv na [(1, n)] h := by
  simp only [crun, cstep_const _ _ _ _ ha, cstep_const _ _ _ _ hn]
  by_cases h0 : h < 0
  · simp only [if_pos h0]; rfl
  · simp only [if_neg h0, Except.bind, cstep_op nv na i _ (by omega) hr, ht]
    rw [if_neg (by omega)]
    simp only
    congr 1; omega

theorem fold2 (nv na : Int) (i : In) (a b n h : Int) (ht : takes i.1 = 2) (hr : right i nv na = true) (ha : isVal a = true) (hb : isVal b = true) (hn : isVal n = true) :
    crun nv na [(1, a), (1, b), i] h = crun nv na [(1, n)] h := by
  simp only [crun, cstep_const _ _ _ _ ha, cstep_const _ _ _ _ hb, cstep_const _ _ _ _ hn]
  by_cases h0 : h < 0
  · simp only [if_pos h0]; rfl
  · simp only [if_neg h0, Except.bind]
    rw [if_neg (by omega)]
    simp only [cstep_op nv na i _ (by omega) hr, ht]
    rw [if_neg (by omega)]
    simp only
    congr 1; omega

theorem fold3 (nv na : Int) (i : In) (a b c n h : Int) (ht : takes i.1 = 3) (hr : right i nv na = true) (ha : isVal a = true) (hb : isVal b = true) (hc : isVal c = true) (hn : isVal n = true) :
    crun nv na [(1, a), (1, b), (1, c), i] h = crun nv na [(1, n)] h := by
  simp only [crun, cstep_const _ _ _ _ ha, cstep_const _ _ _ _ hb, cstep_const _ _ _ _ hc, cstep_const _ _ _ _ hn]
  by_cases h0 : h < 0
  · simp only [if_pos h0]; rfl
  · simp only [if_neg h0, Except.bind]
    rw [if_neg (by omega)]
    simp only
    rw [if_neg (by omega)]
    simp only [cstep_op nv na i _ (by omega) hr, ht]
    rw [if_neg (by omega)]
    simp only
    congr 1; omega

theorem run1 (vs as_ : List Int) (i : In) (a n : Int) (st : List Int) (ht : takes i.1 = 1) (hm : made i.1 a 0 0 = some n) : run vs as_ [(1, a), i] st = run vs as_ [(1, n)] st := by
  have h := step_op vs as_ i (by omega)
  simp only [run, step_const, Option.bind]
  unfold step
  rw [if_neg h.1, if_neg h.2, if_pos ht]
  simp only [hm, Option.map]

theorem run2 (vs as_ : List Int) (i : In) (a b n : Int) (st : List Int) (ht : takes i.1 = 2) (hm : made i.1 a b 0 = some n) : run vs as_ [(1, a), (1, b), i] st = run vs as_ [(1, n)] st := by
  have h := step_op vs as_ i (by omega)
  simp only [run, step_const, Option.bind]
  unfold step
  rw [if_neg h.1, if_neg h.2, if_neg (by omega), if_pos ht]
  simp only [hm, Option.map]

theorem run3 (vs as_ : List Int) (i : In) (a b c n : Int) (st : List Int) (ht : takes i.1 = 3) (hm : made i.1 a b c = some n) : run vs as_ [(1, a), (1, b), (1, c), i] st = run vs as_ [(1, n)] st := by
  have h := step_op vs as_ i (by omega)
  simp only [run, step_const, Option.bind]
  unfold step
  rw [if_neg h.1, if_neg h.2, if_neg (by omega), if_neg (by omega), if_pos ht]
  simp only [hm, Option.map]

/-- What holds of what is folded so far (the last one first) of the instructions p. -/
structure Folds (p out : List In) : Prop where
  chk : ∀ nv na h, crun nv na out.reverse h = crun nv na p h
  run : ∀ vs as_ st, run vs as_ out.reverse st = run vs as_ p st
  len : out.length ≤ p.length
  stay : ∀ k, (out.drop k).reverse.foldl fstep [] = out.drop k
  val : ∀ i ∈ out, i.1 = 1 → isVal i.2 = true

theorem Folds.nil : Folds [] [] := ⟨fun _ _ _ => rfl, fun _ _ _ => rfl, Nat.le_refl _, fun k => by simp, by simp⟩

theorem bind_eq {α β ε : Type} {x : Except ε α} {f g : α → Except ε β} (h : ∀ a, f a = g a) : x.bind f = x.bind g := by
  cases x with
  | error e => rfl
  | ok a => exact h a

theorem obind_eq {α β : Type} {x : Option α} {f g : α → Option β} (h : ∀ a, f a = g a) : x.bind f = x.bind g := by
  cases x with
  | none => rfl
  | some a => exact h a

/-- Where nothing is folded. -/
theorem Folds.push {p out : List In} (F : Folds p out) (i : In) (hf : fstep out i = i :: out) (hv : i.1 = 1 → isVal i.2 = true) : Folds (p ++ [i]) (i :: out) := by
  refine ⟨fun nv na h => ?_, fun vs as_ st => ?_, by simpa using F.len, fun k => ?_, fun j hj => ?_⟩
  · rw [List.reverse_cons, crun_append, crun_append, F.chk]
  · rw [List.reverse_cons, run_append, run_append, F.run]
  · cases k with
    | zero =>
      have h0 := F.stay 0
      rw [List.drop_zero] at h0
      rw [List.drop_zero, List.reverse_cons, List.foldl_append, h0]
      exact hf
    | succ k => exact F.stay k
  · rcases List.mem_cons.1 hj with rfl | hj
    · exact hv
    · exact F.val j hj

/-- Where the last instructions become one Const. -/
theorem Folds.join {p out : List In} (F : Folds p out) (i : In) (cs r : List In) (n : Int) (ho : out = cs.reverse ++ r) (hcs : 0 < cs.length) (hn : isVal n = true)
    (hc : ∀ nv na h, crun nv na (cs ++ [i]) h = crun nv na [(1, n)] h) (hr : ∀ vs as_ st, Go.Proofs.YtfooiggedgcjcaaGreatDoor.E.run vs as_ (cs ++ [i]) st = Go.Proofs.YtfooiggedgcjcaaGreatDoor.E.run vs as_ [(1, n)] st) : Folds (p ++ [i]) ((1, n) :: r) := by
  have hrev : out.reverse = r.reverse ++ cs := by rw [ho, List.reverse_append, List.reverse_reverse]
  have hd : ∀ k, r.drop k = out.drop (cs.length + k) := by
    intro k; rw [ho, show cs.length + k = cs.reverse.length + k by simp, List.drop_append]
    simp
  refine ⟨fun nv na h => ?_, fun vs as_ st => ?_, ?_, fun k => ?_, fun j hj => ?_⟩
  · rw [List.reverse_cons, crun_append, crun_append nv na p, ← F.chk, hrev, crun_append nv na r.reverse]
    cases crun nv na r.reverse h with
    | error e => rfl
    | ok x =>
      have := hc nv na x
      rw [crun_append] at this
      exact this.symm
  · rw [List.reverse_cons, run_append, run_append vs as_ p, ← F.run, hrev, run_append vs as_ r.reverse]
    cases Go.Proofs.YtfooiggedgcjcaaGreatDoor.E.run vs as_ r.reverse st with
    | none => rfl
    | some x =>
      have := hr vs as_ x
      rw [run_append] at this
      exact this.symm
  · have := F.len
    rw [ho, List.length_append, List.length_reverse] at this
    simp only [List.length_cons, List.length_append, List.length_nil]
    omega
  · cases k with
    | zero =>
      have h0 := F.stay cs.length
      have hd0 := hd 0
      rw [List.drop_zero, Nat.add_zero] at hd0
      rw [List.drop_zero, List.reverse_cons, List.foldl_append, hd0, h0]
      show fstep _ (1, n) = _
      unfold fstep
      rw [takes_const]
      simp
    | succ k =>
      rw [List.drop_succ_cons, hd k]
      exact F.stay _
  · rcases List.mem_cons.1 hj with rfl | hj
    · intro _; exact hn
    · exact F.val j (by rw [ho]; exact List.mem_append_right _ hj)

theorem Folds.step {p out : List In} (F : Folds p out) (i : In) (B h h' : Int) (hi : cstep B B i h = .ok h') : Folds (p ++ [i]) (fstep out i) := by
  have hr : right i B B = true := by
    unfold cstep at hi
    split at hi
    · cases hi
    · split at hi
      · cases hi
      · rename_i _ h1; simpa using h1
  have hv : i.1 = 1 → isVal i.2 = true := by
    intro e; unfold right at hr; rw [if_pos e] at hr; exact hr
  by_cases t1 : takes i.1 = 1
  · by_cases hx : ∃ a r n, out = (1, a) :: r ∧ made i.1 a 0 0 = some n
    · obtain ⟨a, r, n, rfl, hm⟩ := hx
      have ha : isVal a = true := F.val (1, a) (by simp) rfl
      have hn := made_val _ _ _ _ _ ha val0 val0 hm
      have hf : fstep ((1, a) :: r) i = (1, n) :: r := by unfold fstep; rw [if_pos t1]; simp only [hm]
      rw [hf]
      exact F.join i [(1, a)] r n rfl (by simp) hn (fun nv na h => fold1 nv na i a n h t1 (by rw [right_op i nv na B B (by omega)]; exact hr) ha hn) (fun vs as_ st => run1 vs as_ i a n st t1 hm)
    · have hf : fstep out i = i :: out := by
        unfold fstep; rw [if_pos t1]
        split
        · rename_i a r
          split
          · rename_i n hm; exact absurd ⟨a, r, n, rfl, hm⟩ hx
          · rfl
        · rfl
      rw [hf]; exact F.push i hf hv
  by_cases t2 : takes i.1 = 2
  · by_cases hx : ∃ a b r n, out = (1, b) :: (1, a) :: r ∧ made i.1 a b 0 = some n
    · obtain ⟨a, b, r, n, rfl, hm⟩ := hx
      have ha : isVal a = true := F.val (1, a) (by simp) rfl
      have hb : isVal b = true := F.val (1, b) (by simp) rfl
      have hn := made_val _ _ _ _ _ ha hb val0 hm
      have hf : fstep ((1, b) :: (1, a) :: r) i = (1, n) :: r := by unfold fstep; rw [if_neg t1, if_pos t2]; simp only [hm]
      rw [hf]
      exact F.join i [(1, a), (1, b)] r n rfl (by simp) hn (fun nv na h => fold2 nv na i a b n h t2 (by rw [right_op i nv na B B (by omega)]; exact hr) ha hb hn) (fun vs as_ st => run2 vs as_ i a b n st t2 hm)
    · have hf : fstep out i = i :: out := by
        unfold fstep; rw [if_neg t1, if_pos t2]
        split
        · rename_i b a r
          split
          · rename_i n hm; exact absurd ⟨a, b, r, n, rfl, hm⟩ hx
          · rfl
        · rfl
      rw [hf]; exact F.push i hf hv
  by_cases t3 : takes i.1 = 3
  · by_cases hx : ∃ a b c r n, out = (1, c) :: (1, b) :: (1, a) :: r ∧ made i.1 a b c = some n
    · obtain ⟨a, b, c, r, n, rfl, hm⟩ := hx
      have ha : isVal a = true := F.val (1, a) (by simp) rfl
      have hb : isVal b = true := F.val (1, b) (by simp) rfl
      have hc : isVal c = true := F.val (1, c) (by simp) rfl
      have hn := made_val _ _ _ _ _ ha hb hc hm
      have hf : fstep ((1, c) :: (1, b) :: (1, a) :: r) i = (1, n) :: r := by unfold fstep; rw [if_neg t1, if_neg t2, if_pos t3]; simp only [hm]
      rw [hf]
      exact F.join i [(1, a), (1, b), (1, c)] r n rfl (by simp) hn (fun nv na h => fold3 nv na i a b c n h t3 (by rw [right_op i nv na B B (by omega)]; exact hr) ha hb hc hn) (fun vs as_ st => run3 vs as_ i a b c n st t3 hm)
    · have hf : fstep out i = i :: out := by
        unfold fstep; rw [if_neg t1, if_neg t2, if_pos t3]
        split
        · rename_i c b a r
          split
          · rename_i n hm; exact absurd ⟨a, b, c, r, n, rfl, hm⟩ hx
          · rfl
        · rfl
      rw [hf]; exact F.push i hf hv
  · have hf : fstep out i = i :: out := by unfold fstep; rw [if_neg t1, if_neg t2, if_neg t3]
    rw [hf]; exact F.push i hf hv

theorem Folds.all (B : Int) (code : List In) : ∀ (p out : List In) (h h' : Int), Folds p out → crun B B code h = .ok h' → Folds (p ++ code) (code.foldl fstep out) := by
  induction code with
  | nil => intro p out h h' F _; rw [List.append_nil]; exact F
  | cons i r ih =>
    intro p out h h' F hc
    simp only [crun] at hc
    cases hs : cstep B B i h with
    | error e => rw [hs] at hc; cases hc
    | ok x =>
      rw [hs] at hc
      have := ih (p ++ [i]) (fstep out i) x h' (F.step i B h x hs) hc
      rw [List.append_assoc] at this
      exact this

theorem crun_error (nv na : Int) (code : List In) (h e : Int) (hx : crun nv na code h = .error e) : e = 2 ∨ e = 3 ∨ e = 5 := by
  induction code generalizing h with
  | nil => cases hx
  | cons i r ih =>
    simp only [crun] at hx
    cases hs : cstep nv na i h with
    | error e' =>
      rw [hs] at hx
      cases hx
      unfold cstep at hs
      split at hs
      · cases hs; simp
      · split at hs
        · cases hs; simp
        · split at hs
          · cases hs; simp
          · cases hs
    | ok x => rw [hs] at hx; exact ih x hx

theorem check_ok (code : List In) (nv na : Int) (h : (check code nv na).2 = 0) : 0 ≤ nv ∧ 0 ≤ na ∧ code.length ≤ 31 ∧ crun nv na code 0 = .ok 1 := by
  rw [check_err] at h
  split at h
  · cases h
  · split at h
    · cases h
    · cases hx : crun nv na code 0 with
      | error e =>
        rw [hx] at h
        have h2 := crun_error _ _ _ _ _ hx
        have h1 : e = 0 := h
        omega
      | ok x =>
        rw [hx] at h
        unfold cend at h
        simp only at h
        split at h
        · subst x; exact ⟨by omega, by omega, by omega, rfl⟩
        · cases h

/-- What Fold leaves: as_ it was, or folded whole. -/
theorem fold_cases (B : Int) (code : List In) : fold B code = code ∨ ((check code B B).2 = 0 ∧ fold B code = (code.foldl fstep []).reverse ∧ Folds code (code.foldl fstep [])) := by
  by_cases h : (check code B B).2 = 0
  · right
    exact ⟨h, by unfold fold; rw [if_neg (by omega)], Folds.all B code [] [] 0 1 Folds.nil (check_ok code B B h).2.2.2⟩
  · left; unfold fold; rw [if_pos h]

theorem fold_length (B : Int) (code : List In) : (fold B code).length ≤ code.length := by
  rcases fold_cases B code with h | ⟨_, h, F⟩
  · rw [h]; exact Nat.le_refl _
  · rw [h, List.length_reverse]; exact F.len

theorem fold_fold (B : Int) (code : List In) : fold B (fold B code) = fold B code := by
  rcases fold_cases B code with h | ⟨_, h, F⟩
  · rw [h, h]
  · rw [h]
    unfold fold
    split
    · rfl
    · have h0 := F.stay 0
      rw [List.drop_zero] at h0
      rw [h0]

theorem fold_check (B : Int) (code : List In) (nv na : Int) : (check (fold B code) nv na).2 = (check code nv na).2 := by
  rcases fold_cases B code with h | ⟨hc, h, F⟩
  · rw [h]
  · have hl := (check_ok code B B hc).2.2.1
    have hl2 := F.len
    rw [h, check_err, check_err, F.chk, List.length_reverse]
    rw [if_neg (show ¬ 31 < (code.foldl fstep []).length by omega), if_neg (show ¬ 31 < code.length by omega)]

theorem fold_run (B : Int) (code : List In) (vs as_ st : List Int) : run vs as_ (fold B code) st = run vs as_ code st := by
  rcases fold_cases B code with h | ⟨_, h, F⟩
  · rw [h]
  · rw [h, F.run]

/-- P3.5. -/
theorem eval_fold (B : Int) (code : List In) (vs as_ : List Int) : eval (fold B code) vs as_ = eval code vs as_ := by
  unfold eval; rw [fold_check, fold_run]

/-- What is folded is of what there was, or a Const. -/
theorem fstep_mem (out : List In) (x i : In) (h : i ∈ fstep out x) : i = x ∨ i ∈ out ∨ i.1 = 1 := by
  have hc : ∀ (n : Int) (r : List In), (∀ j ∈ r, j ∈ out) → i ∈ ((1, n) : In) :: r → i = x ∨ i ∈ out ∨ i.1 = 1 := by
    intro n r hr hi
    rcases List.mem_cons.1 hi with rfl | hi
    · exact Or.inr (Or.inr rfl)
    · exact Or.inr (Or.inl (hr i hi))
  have hp : i ∈ x :: out → i = x ∨ i ∈ out ∨ i.1 = 1 := by
    intro hi
    rcases List.mem_cons.1 hi with rfl | hi
    · exact Or.inl rfl
    · exact Or.inr (Or.inl hi)
  unfold fstep at h
  split at h
  · split at h
    · split at h
      · exact hc _ _ (fun j hj => by simp [hj]) h
      · exact hp h
    · exact hp h
  · split at h
    · split at h
      · split at h
        · exact hc _ _ (fun j hj => by simp [hj]) h
        · exact hp h
      · exact hp h
    · split at h
      · split at h
        · split at h
          · exact hc _ _ (fun j hj => by simp [hj]) h
          · exact hp h
        · exact hp h
      · exact hp h

theorem foldl_mem (code out : List In) (i : In) (h : i ∈ code.foldl fstep out) : i ∈ code ∨ i ∈ out ∨ i.1 = 1 := by
  induction code generalizing out with
  | nil => exact Or.inr (Or.inl h)
  | cons x r ih =>
    rcases ih _ h with h1 | h1 | h1
    · exact Or.inl (by simp [h1])
    · rcases fstep_mem out x i h1 with h2 | h2 | h2
      · exact Or.inl (by simp [h2])
      · exact Or.inr (Or.inl h2)
      · exact Or.inr (Or.inr h2)
    · exact Or.inr (Or.inr h1)

theorem fold_mem (B : Int) (code : List In) (i : In) (h : i ∈ fold B code) : i ∈ code ∨ (i.1 = 1 ∧ isVal i.2 = true) := by
  rcases fold_cases B code with e | ⟨_, e, F⟩
  · rw [e] at h; exact Or.inl h
  · rw [e, List.mem_reverse] at h
    rcases foldl_mem code [] i h with h1 | h1 | h1
    · exact Or.inl h1
    · cases h1
    · exact Or.inr ⟨h1, F.val i h h1⟩

/-! ## Eval by cases -/

theorem eval_bad (code : List In) (vs as_ : List Int) (h : (check code vs.length as_.length).2 ≠ 0) : eval code vs as_ = (0, (check code vs.length as_.length).2) := by
  unfold eval; rw [if_pos h]

theorem eval_none (code : List In) (vs as_ : List Int) (h : (check code vs.length as_.length).2 = 0) (hv : (vs.all isVal && as_.all isVal) = false) : eval code vs as_ = (0, 2) := by
  unfold eval; rw [if_neg (by omega), if_pos hv]

theorem eval_run (code : List In) (vs as_ : List Int) (h : (check code vs.length as_.length).2 = 0) (hv : (vs.all isVal && as_.all isVal) = true) :
    eval code vs as_ = top (run vs as_ code []) := by
  unfold eval; rw [if_neg (by omega), if_neg (by rw [hv]; simp)]

/-- An error's number is none that Check does not have. -/
theorem check_errs (code : List In) (nv na : Int) : (check code nv na).2 = 0 ∨ (check code nv na).2 = 2 ∨ (check code nv na).2 = 3 ∨ (check code nv na).2 = 4 ∨ (check code nv na).2 = 5 ∨ (check code nv na).2 = 6 := by
  rw [check_err]
  split
  · simp
  · split
    · simp
    · cases hx : crun nv na code 0 with
      | error e => have := crun_error _ _ _ _ _ hx; simp only [cend]; omega
      | ok x => simp only [cend]; split <;> simp

/-- What is in the row are values. -/
theorem run_val (nv na : Int) (vs as_ : List Int) (hv : ∀ x ∈ vs, isVal x = true) (ha : ∀ x ∈ as_, isVal x = true) (code : List In) (h h' : Int) (st st' : List Int) (hc : crun nv na code h = .ok h') (hst : ∀ x ∈ st, isVal x = true)
    (hr : run vs as_ code st = some st') : ∀ x ∈ st', isVal x = true := by
  induction code generalizing h st with
  | nil => cases hr; exact hst
  | cons i r ih =>
    simp only [crun] at hc
    simp only [run] at hr
    cases hs : cstep nv na i h with
    | error e => rw [hs] at hc; cases hc
    | ok x =>
      rw [hs] at hc
      cases hp : step vs as_ i st with
      | none => rw [hp] at hr; cases hr
      | some st1 =>
        rw [hp] at hr
        have h1 : 0 ≤ takes i.1 ∧ (i.1 = 1 → isVal i.2 = true) := by
          unfold cstep at hs
          split at hs
          · cases hs
          · split at hs
            · cases hs
            · rename_i h0 h1
              refine ⟨by omega, fun e => ?_⟩
              have h2 : right i nv na = true := by simpa using h1
              unfold right at h2; rw [if_pos e] at h2; exact h2
        exact ih x st1 hc (step_val vs as_ i st st1 hv ha h1.2 (takes_zero i.1) h1.1 hst hp) hr

/-- The numbers in the row are as_ many as_ Check counts. -/
theorem run_count (nv na : Int) (vs as_ : List Int) (code : List In) (h h' : Int) (st st' : List Int) (hc : crun nv na code h = .ok h') (hl : (st.length : Int) = h) (hr : run vs as_ code st = some st') : (st'.length : Int) = h' := by
  induction code generalizing h st with
  | nil => cases hr; cases hc; exact hl
  | cons i r ih =>
    simp only [crun] at hc
    simp only [run] at hr
    cases hs : cstep nv na i h with
    | error e => rw [hs] at hc; cases hc
    | ok x =>
      rw [hs] at hc
      cases hp : step vs as_ i st with
      | none => rw [hp] at hr; cases hr
      | some st1 =>
        rw [hp] at hr
        refine ih x st1 hc ?_ hr
        have hx : x = h - takes i.1 + 1 ∧ 0 ≤ takes i.1 := by
          unfold cstep at hs
          split at hs
          · cases hs
          · split at hs
            · cases hs
            · split at hs
              · cases hs
              · cases hs; exact ⟨rfl, by omega⟩
        obtain ⟨rfl, h0⟩ := hx
        have h2 : ∀ o, o = 2 → takes o = 0 := by intro o e; subst e; decide
        have h3 : ∀ o, o = 3 → takes o = 0 := by intro o e; subst e; decide
        have hd : takes i.1 = 0 ∨ takes i.1 = 1 ∨ takes i.1 = 2 ∨ takes i.1 = 3 := by
          have : takes i.1 = -1 ∨ takes i.1 = 0 ∨ takes i.1 = 1 ∨ takes i.1 = 2 ∨ takes i.1 = 3 := by
            unfold takes; repeat' split
            all_goals omega
          omega
        unfold step at hp
        split at hp
        · rename_i e; cases hp; have := h2 _ e; simp only [List.length_cons]; omega
        · split at hp
          · rename_i e; cases hp; have := h3 _ e; simp only [List.length_cons]; omega
          · split at hp
            · match st, hp, hl with
              | a :: r, hp, hl =>
                obtain ⟨n, hn, rfl⟩ := Option.map_eq_some_iff.1 hp
                simp only [List.length_cons] at hl ⊢; omega
            · split at hp
              · match st, hp, hl with
                | b :: a :: r, hp, hl =>
                  obtain ⟨n, hn, rfl⟩ := Option.map_eq_some_iff.1 hp
                  simp only [List.length_cons] at hl ⊢; omega
              · split at hp
                · match st, hp, hl with
                  | c :: b :: a :: r, hp, hl =>
                    obtain ⟨n, hn, rfl⟩ := Option.map_eq_some_iff.1 hp
                    simp only [List.length_cons] at hl ⊢; omega
                · cases hp; simp only [List.length_cons]; omega

/-- What Eval comes to where all is well. -/
theorem eval_good (code : List In) (vs as_ : List Int) (n : Int) (h : eval code vs as_ = (n, 0)) :
    (check code vs.length as_.length).2 = 0 ∧ (∀ x ∈ vs, isVal x = true) ∧ (∀ x ∈ as_, isVal x = true) ∧ run vs as_ code [] = some [n] ∧ isVal n = true := by
  by_cases hc : (check code vs.length as_.length).2 = 0
  · by_cases hv : (vs.all isVal && as_.all isVal) = true
    · rw [eval_run _ _ _ hc hv] at h
      have hv' := hv
      rw [Bool.and_eq_true, List.all_eq_true, List.all_eq_true] at hv'
      have hok := (check_ok code _ _ hc).2.2.2
      cases hr : run vs as_ code [] with
      | none => rw [hr] at h; simp [top] at h
      | some st =>
        rw [hr] at h
        have hcount := run_count _ _ vs as_ code 0 1 [] st hok rfl hr
        match st, h, hcount, hr with
        | [x], h, _, hr =>
          have hx : x = n := by simpa [top] using h
          subst hx
          exact ⟨hc, hv'.1, hv'.2, rfl, run_val _ _ vs as_ hv'.1 hv'.2 code 0 1 [] [x] hok (by simp) hr x (by simp)⟩
        | [], _, hcount, _ => simp at hcount
        | _ :: _ :: _, _, hcount, _ => simp at hcount; omega
    · rw [eval_none _ _ _ hc (by simpa using hv)] at h; simp at h
  · rw [eval_bad _ _ _ hc] at h
    simp at h; exact absurd h.2 hc

theorem eval_of (code : List In) (vs as_ : List Int) (n : Int) (hc : (check code vs.length as_.length).2 = 0) (hv : ∀ x ∈ vs, isVal x = true) (ha : ∀ x ∈ as_, isVal x = true) (hr : run vs as_ code [] = some [n]) : eval code vs as_ = (n, 0) := by
  rw [eval_run _ _ _ hc (by rw [Bool.and_eq_true, List.all_eq_true, List.all_eq_true]; exact ⟨hv, ha⟩), hr]; rfl

/-! ## What is named -/

/-- What an expression comes to hangs on what it names alone. -/
theorem run_named (vs as_ vs' as_' : List Int) (code : List In) (st : List Int) (hv : ∀ i ∈ code, i.1 = 2 → vs.getD i.2.toNat 0 = vs'.getD i.2.toNat 0) (ha : ∀ i ∈ code, i.1 = 3 → as_.getD i.2.toNat 0 = as_'.getD i.2.toNat 0) :
    run vs as_ code st = run vs' as_' code st := by
  induction code generalizing st with
  | nil => rfl
  | cons i r ih =>
    have hs : step vs as_ i st = step vs' as_' i st := by
      unfold step
      split
      · rename_i e; rw [hv i (by simp) e]
      · split
        · rename_i e; rw [ha i (by simp) e]
        · rfl
    simp only [run, hs]
    exact obind_eq (fun s => ih s (fun j hj => hv j (by simp [hj])) (fun j hj => ha j (by simp [hj])))

theorem usesTop_le (o most : Int) (code : List In) (t : Int) : t ≤ usesTop o most code t := by
  induction code generalizing t with
  | nil => exact Int.le_refl _
  | cons i r ih =>
    simp only [usesTop]
    refine Int.le_trans ?_ (ih _)
    split <;> omega

theorem usesTop_named (o most : Int) (code : List In) (t : Int) (i : In) (hi : i ∈ code) (h1 : i.1 = o) (h2 : 0 ≤ i.2) (h3 : i.2 < most) : i.2 ≤ usesTop o most code t := by
  induction code generalizing t with
  | nil => cases hi
  | cons j r ih =>
    simp only [usesTop]
    rcases List.mem_cons.1 hi with rfl | hi
    · refine Int.le_trans ?_ (usesTop_le _ _ _ _)
      rw [if_pos ⟨h1, h2, h3⟩]; omega
    · exact ih _ hi

theorem usesTop_lt (o most : Int) (code : List In) (t : Int) (h : t < most) : usesTop o most code t < most := by
  induction code generalizing t with
  | nil => exact h
  | cons i r ih =>
    simp only [usesTop]
    refine ih _ ?_
    split <;> omega

theorem uses_length (o most : Int) (code : List In) : (uses o most code).length = (usesTop o most code (-1) + 1).toNat := by simp [uses]

theorem uses_get (o most : Int) (code : List In) (n : Nat) (h : n < (uses o most code).length) : (uses o most code)[n]? = some (code.any fun i => decide (i.1 = o ∧ i.2 = (n : Int))) := by
  rw [uses_length] at h
  unfold uses
  rw [List.getElem?_map, List.getElem?_range h]; rfl

/-- A name that is not told is not named. -/
theorem uses_not (o most : Int) (code : List In) (n : Nat) (hm : (n : Int) < most) (h : (uses o most code)[n]? ≠ some true) (i : In) (hi : i ∈ code) (h1 : i.1 = o) : i.2 ≠ (n : Int) := by
  intro e
  have hl := usesTop_named o most code (-1) i hi h1 (by omega) (by omega)
  have hn : n < (uses o most code).length := by rw [uses_length]; omega
  apply h
  rw [uses_get o most code n hn]
  congr 1
  rw [List.any_eq_true]
  exact ⟨i, hi, by simp [h1, e]⟩

end Go.Proofs.YtfooiggedgcjcaaGreatDoor.E

namespace Go.Proofs.YtfooiggedgcjcaaGreatDoor.I
open Go Go.Proofs.YtfooiggedgcjcaaGreatDoor.E
set_option linter.unusedVariables false

/-- An expression. -/
inductive Ex where
  | con (n : Int) | var (k : Nat) | arg (k : Nat) | un (o : Int) (a : Ex) | bin (o : Int) (a b : Ex) | ite (a b c : Ex)

/-- Its instructions. -/
def codeOf : Ex → List In
  | .con n => [(1, n)] | .var k => [(2, (k : Int))] | .arg k => [(3, (k : Int))]
  | .un o a => codeOf a ++ [(o, 0)] | .bin o a b => codeOf a ++ codeOf b ++ [(o, 0)] | .ite a b c => codeOf a ++ codeOf b ++ codeOf c ++ [(16, 0)]

/-- May it be, with so many variables and arguments? -/
def WF (nv na : Int) : Ex → Prop
  | .con n => isVal n = true | .var k => (k : Int) < nv | .arg k => (k : Int) < na
  | .un o a => (o = 4 ∨ o = 5) ∧ WF nv na a | .bin o a b => takes o = 2 ∧ WF nv na a ∧ WF nv na b | .ite a b c => WF nv na a ∧ WF nv na b ∧ WF nv na c

/-- The rows of expressions that instructions make. -/
def flat (st : List Ex) : List In := (st.reverse.map codeOf).flatten

theorem flat_cons (e : Ex) (st : List Ex) : flat (e :: st) = flat st ++ codeOf e := by simp [flat]

theorem right_cases (i : In) (nv na : Int) (h : right i nv na = true) : (i.1 = 1 ∧ isVal i.2 = true) ∨ (i.1 = 2 ∧ 0 ≤ i.2 ∧ i.2 < nv) ∨ (i.1 = 3 ∧ 0 ≤ i.2 ∧ i.2 < na) ∨ (i.1 ≠ 1 ∧ i.1 ≠ 2 ∧ i.1 ≠ 3 ∧ i.2 = 0) := by
  unfold right at h
  split at h
  · rename_i h1; exact Or.inl ⟨h1, h⟩
  · split at h
    · rename_i h1 h2; have := of_decide_eq_true h; exact Or.inr (Or.inl ⟨h2, this.1, this.2⟩)
    · split at h
      · rename_i h1 h2 h3; have := of_decide_eq_true h; exact Or.inr (Or.inr (Or.inl ⟨h3, this.1, this.2⟩))
      · rename_i h1 h2 h3; exact Or.inr (Or.inr (Or.inr ⟨h1, h2, h3, of_decide_eq_true h⟩))

theorem takes_is (o : Int) : (o = 1 ∨ o = 2 ∨ o = 3) ∧ takes o = 0 ∨ (o = 4 ∨ o = 5) ∧ takes o = 1 ∨ (6 ≤ o ∧ o ≤ 15) ∧ takes o = 2 ∨ o = 16 ∧ takes o = 3 ∨ (o < 1 ∨ 16 < o) ∧ takes o = -1 := by
  unfold takes; repeat' split
  all_goals omega

theorem rows (nv na : Int) (code : List In) (h z : Int) (hc : crun nv na code h = .ok z) (st : List Ex) (hl : (st.length : Int) = h) (hw : ∀ e ∈ st, WF nv na e) :
    ∃ st', (st'.length : Int) = z ∧ (∀ e ∈ st', WF nv na e) ∧ flat st ++ code = flat st' := by
  induction code generalizing h st with
  | nil => simp only [crun] at hc; cases hc; exact ⟨st, hl, hw, by simp⟩
  | cons i r ih =>
    simp only [crun, cstep] at hc
    split at hc
    · cases hc
    · split at hc
      · cases hc
      · split at hc
        · cases hc
        · rename_i t0 t1 t2
          have hr : right i nv na = true := by simpa using t1
          have hrc := right_cases i nv na hr
          obtain ⟨o, x⟩ := i
          simp only at t0 t2 hrc hc
          have hti := takes_is o
          have key : ∀ (e : Ex) (rest : List Ex), (st.length : Int) - takes o = rest.length → WF nv na e → (∀ e ∈ rest, WF nv na e) → flat st ++ [(o, x)] = flat (e :: rest) →
              ∃ st', (st'.length : Int) = z ∧ (∀ e ∈ st', WF nv na e) ∧ flat st ++ (o, x) :: r = flat st' := by
            intro e rest h1 h2 h3 h4
            obtain ⟨st', k1, k2, k3⟩ := ih (h - takes o + 1) hc (e :: rest) (by rw [List.length_cons]; omega) (by intro e' he'; rcases List.mem_cons.1 he' with rfl | h'; exact h2; exact h3 e' h')
            exact ⟨st', k1, k2, by rw [← k3, ← h4]; simp⟩
          rcases hrc with ⟨rfl, hv⟩ | ⟨rfl, hx0, hx1⟩ | ⟨rfl, hx0, hx1⟩ | ⟨n1, n2, n3, rfl⟩
          · exact key (.con x) st (by omega) hv hw (by rw [flat_cons]; rfl)
          · obtain ⟨k, rfl⟩ := Int.eq_ofNat_of_zero_le hx0
            exact key (.var k) st (by omega) hx1 hw (by rw [flat_cons]; rfl)
          · obtain ⟨k, rfl⟩ := Int.eq_ofNat_of_zero_le hx0
            exact key (.arg k) st (by omega) hx1 hw (by rw [flat_cons]; rfl)
          · rcases hti with ⟨h1, _⟩ | ⟨h1, h2⟩ | ⟨h1, h2⟩ | ⟨h1, h2⟩ | ⟨_, h2⟩
            · omega
            · cases st with
              | nil => simp at hl; omega
              | cons a rest =>
                exact key (.un o a) rest (by rw [List.length_cons]; omega) ⟨h1, hw a (by simp)⟩ (fun e he => hw e (by simp [he])) (by rw [flat_cons, flat_cons]; simp [codeOf])
            · cases st with
              | nil => simp at hl; omega
              | cons b st2 =>
                cases st2 with
                | nil => simp at hl; omega
                | cons a rest =>
                  exact key (.bin o a b) rest (by simp only [List.length_cons]; omega) ⟨h2, hw a (by simp), hw b (by simp)⟩ (fun e he => hw e (by simp [he])) (by rw [flat_cons, flat_cons, flat_cons]; simp [codeOf])
            · subst h1
              cases st with
              | nil => simp at hl; omega
              | cons c st2 =>
                cases st2 with
                | nil => simp at hl; omega
                | cons b st3 =>
                  cases st3 with
                  | nil => simp at hl; omega
                  | cons a rest =>
                    exact key (.ite a b c) rest (by simp only [List.length_cons]; omega) ⟨hw a (by simp), hw b (by simp), hw c (by simp)⟩ (fun e he => hw e (by simp [he])) (by rw [flat_cons, flat_cons, flat_cons, flat_cons]; simp [codeOf])
            · omega

/-- What may be is an expression's. -/
theorem ex_of (code : List In) (nv na : Int) (h : (check code nv na).2 = 0) : ∃ e, WF nv na e ∧ codeOf e = code := by
  obtain ⟨_, _, _, hc⟩ := check_ok code nv na h
  obtain ⟨st, h1, h2, h3⟩ := rows nv na code 0 1 hc [] (by simp) (by simp)
  match st, h1, h2, h3 with
  | [e], _, h2, h3 => exact ⟨e, h2 e (by simp), by simpa [flat] using h3.symm⟩
  | [], h1, _, _ => simp at h1
  | _ :: _ :: _, h1, _, _ => simp at h1; omega

/-! ## The text -/

abbrev Bs := List UInt8

/-- Digits of a number. -/
def dig (n : Nat) : Bs := if h : n < 10 then [UInt8.ofNat (48 + n)] else dig (n / 10) ++ [UInt8.ofNat (48 + n % 10)]
termination_by n
decreasing_by omega

/-- The level at which an expression is made. -/
def rank : Ex → Nat
  | .con n => if n < 0 then 6 else 7 | .var _ => 7 | .arg _ => 7 | .un _ _ => 6 | .ite _ _ _ => 7
  | .bin o _ _ => if o = 15 then 1 else if o = 14 then 2 else if o = 11 ∨ o = 12 ∨ o = 13 then 3 else if o = 6 ∨ o = 7 then 4 else if o = 8 then 5 else 7

def sign (o : Int) : Bs := if o = 6 then [43] else if o = 7 then [45] else if o = 8 then [42] else if o = 11 then [60] else if o = 12 then [60, 61] else if o = 13 then [61] else if o = 14 then [38] else [124]
def wmin : Bs := [109, 105, 110]
def wmax : Bs := [109, 97, 120]
def wif : Bs := [105, 102]

/-- Brackets, where they must be. -/
def wrap (r least : Nat) (p : List Bs) : List Bs := if r < least then [[40]] ++ p ++ [[41]] else p

/-- A constant from 0 on? -/
def plainCon : Ex → Bool | .con n => decide (0 ≤ n) | _ => false

/-- The text's pieces: words, and blanks. -/
def pieces (vs : List Bs) : Ex → List Bs
  | .con n => if n < 0 then [[45], dig n.natAbs] else [dig n.natAbs]
  | .var k => [vs.getD k []]
  | .arg k => [[36] ++ dig k]
  | .un o a => if o = 4 then (if plainCon a = true then [[45], [40]] ++ pieces vs a ++ [[41]] else [[45]] ++ wrap (rank a) 6 (pieces vs a)) else [[33]] ++ wrap (rank a) 6 (pieces vs a)
  | .ite a b c => [wif, [40]] ++ pieces vs a ++ [[44], [32]] ++ pieces vs b ++ [[44], [32]] ++ pieces vs c ++ [[41]]
  | .bin o a b => if o = 9 ∨ o = 10 then [if o = 9 then wmin else wmax, [40]] ++ pieces vs a ++ [[44], [32]] ++ pieces vs b ++ [[41]]
      else wrap (rank a) (if rank (.bin o a b) = 3 then 4 else rank (.bin o a b)) (pieces vs a) ++ [[32], sign o, [32]] ++ wrap (rank b) (rank (.bin o a b) + 1) (pieces vs b)

/-- P4.3: the text. -/
def text (vs : List Bs) (e : Ex) : Bs := (pieces vs e).flatten

/-! ## Words -/

def letter (c : UInt8) : Bool := decide (97 ≤ c.toNat ∧ c.toNat ≤ 122)
def digit (c : UInt8) : Bool := decide (48 ≤ c.toNat ∧ c.toNat ≤ 57)
def idc (c : UInt8) : Bool := letter c || digit c || decide (c = 95)

/-- P4.1. -/
def isName (s : Bs) : Bool := match s with
  | [] => false
  | c :: r => decide (r.length < 24) && letter c && (c :: r).all idc && decide (c :: r ≠ wmin) && decide (c :: r ≠ wmax) && decide (c :: r ≠ wif)

def signs : Bs := [43, 45, 42, 33, 38, 124, 60, 61, 40, 41, 44]

/-- How long a text's first word is; 0: none begins. -/
def wordLen (s : Bs) : Nat := match s with
  | [] => 0
  | c :: r => if letter c = true then 1 + (r.takeWhile idc).length else if digit c = true then 1 + (r.takeWhile digit).length
    else if c = 36 then (match r with | d :: _ => if digit d = true then 2 else 0 | [] => 0)
    else if c = 60 ∧ r.head? = some 61 then 2 else if c ∈ signs then 1 else 0

/-- A word and its place; at the end: none. -/
abbrev Tk := Nat × Bs

/-- A text's words, from a place on. -/
inductive Lx : Nat → Bs → List Tk → Prop
  | nil (p : Nat) : Lx p [] [(p, [])]
  | blank (p : Nat) (r : Bs) (ts : List Tk) : Lx (p + 1) r ts → Lx p (32 :: r) ts
  | word (p : Nat) (w r : Bs) (ts : List Tk) : w ≠ [] → w.head? ≠ some 32 → wordLen (w ++ r) = w.length → Lx (p + w.length) r ts → Lx p (w ++ r) ((p, w) :: ts)
  | bad (p : Nat) (c : UInt8) (r : Bs) : c ≠ 32 → wordLen (c :: r) = 0 → Lx p (c :: r) [(p, [])]
  | long (p : Nat) (w r : Bs) (ts : List Tk) : w.length = 24 → w.all idc = true → (∃ c x, w = c :: x ∧ letter c = true) → Lx (p + w.length) r ts → Lx p (w ++ r) ((p, w) :: ts)

/-- The words of pieces. -/
def toks : Nat → List Bs → List Tk
  | _, [] => []
  | p, w :: r => if w = [32] then toks (p + 1) r else (p, w) :: toks (p + w.length) r

theorem toks_append (p : Nat) (a b : List Bs) : toks p (a ++ b) = toks p a ++ toks (p + a.flatten.length) b := by
  induction a generalizing p with
  | nil => simp [toks]
  | cons w r ih =>
    simp only [List.cons_append, toks]
    split
    · rename_i h
      rw [ih, h]
      simp only [List.flatten_cons, List.length_append, List.length_cons, List.length_nil]
      congr 2; omega
    · rw [ih]
      simp only [List.flatten_cons, List.length_append, List.cons_append]
      congr 3; omega

def IsWord (w r : Bs) : Prop := w ≠ [] ∧ w.head? ≠ some 32 ∧ wordLen (w ++ r) = w.length

/-- Pieces that are told apart, with what follows. -/
def Good : List Bs → Bs → Prop
  | [], _ => True
  | w :: r, tail => (w = [32] ∨ IsWord w (r.flatten ++ tail)) ∧ Good r tail

theorem Good.append {a b : List Bs} {tail : Bs} (ha : Good a (b.flatten ++ tail)) (hb : Good b tail) : Good (a ++ b) tail := by
  induction a with
  | nil => exact hb
  | cons w r ih =>
    refine ⟨?_, ih ha.2⟩
    have h := ha.1
    show w = [32] ∨ IsWord w ((r ++ b).flatten ++ tail)
    rw [List.flatten_append, List.append_assoc]
    exact h

theorem Lx.pieces {ps : List Bs} {p : Nat} {tail : Bs} {ts : List Tk} (hg : Good ps tail) (h : Lx (p + ps.flatten.length) tail ts) : Lx p (ps.flatten ++ tail) (toks p ps ++ ts) := by
  induction ps generalizing p with
  | nil => simpa [toks] using h
  | cons w r ih =>
    have h2 : Lx (p + w.length) (r.flatten ++ tail) (toks (p + w.length) r ++ ts) := by
      refine ih hg.2 ?_
      rw [List.flatten_cons, List.length_append] at h
      rw [Nat.add_assoc]
      exact h
    rw [List.flatten_cons, List.append_assoc]
    unfold toks
    split
    · rename_i hw
      subst hw
      exact Lx.blank p _ _ h2
    · rename_i hw
      obtain ⟨w1, w2, w3⟩ := hg.1.resolve_left hw
      exact Lx.word p w _ _ w1 w2 w3 h2

end Go.Proofs.YtfooiggedgcjcaaGreatDoor.I
