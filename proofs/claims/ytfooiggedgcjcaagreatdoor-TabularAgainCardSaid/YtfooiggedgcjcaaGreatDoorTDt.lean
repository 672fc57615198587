/-
  Layer 6: a draft in memory: its block, its own rows, and what is closed.
  Layer 6: what becomes of a draft, step by step.
  Layer 6: the last rule of a draft: read, and more of it; the draft as a table.
-/
import Derived.Test.YtfooiggedgcjcaaGreatDoorRPs
import Derived.Test.YtfooiggedgcjcaaGreatDoorTRow
namespace Go.Proofs.YtfooiggedgcjcaaGreatDoor.T
open Go Go.RowKit Go.Proofs.YtfooiggedgcjcaaGreatDoor.B Go.Proofs.YtfooiggedgcjcaaGreatDoor.K Go.Proofs.YtfooiggedgcjcaaGreatDoor.E Go.Proofs.YtfooiggedgcjcaaGreatDoor.R
set_option linter.unusedVariables false

/-- The rows of a draft: states, variables, numbers, rules, a rule's guards and steps. -/
inductive Ix where
  | st | va | nu | ru | g (j : Nat) | s (j : Nat)
  deriving DecidableEq

/-- A row's element type, its size, how many, its cells. -/
structure En where
  e : TypeId
  k : Nat
  n : Nat
  xs : List Value

/-- Rows of cells that read as things. -/
def Rel {X : Type} (Q : List Value → X → Prop) (k : Nat) (rows : List (List Value)) (xs : List X) : Prop := rows.length = xs.length ∧ ∀ (j : Nat) cs x, rows[j]? = some cs → xs[j]? = some x → cs.length = k ∧ Q cs x
theorem Rel.nil {X : Type} (Q : List Value → X → Prop) (k : Nat) : Rel Q k [] [] := ⟨rfl, fun j cs x h => by simp at h⟩
theorem Rel.imp {X : Type} {Q Q' : List Value → X → Prop} {k : Nat} {rows : List (List Value)} {xs : List X} (h : Rel Q k rows xs) (hq : ∀ cs x, Q cs x → Q' cs x) : Rel Q' k rows xs :=
  ⟨h.1, fun j cs x h1 h2 => ⟨(h.2 j cs x h1 h2).1, hq _ _ (h.2 j cs x h1 h2).2⟩⟩
theorem Rel.snoc {X : Type} {Q : List Value → X → Prop} {k : Nat} {rows : List (List Value)} {xs : List X} (h : Rel Q k rows xs) {cs : List Value} {x : X} (hl : cs.length = k) (hq : Q cs x) : Rel Q k (rows ++ [cs]) (xs ++ [x]) := by
  refine ⟨by simp [h.1], fun j ds y h1 h2 => ?_⟩
  have hlen := h.1
  by_cases hj : j < rows.length
  · rw [List.getElem?_append_left hj] at h1
    rw [List.getElem?_append_left (by omega)] at h2
    exact h.2 j ds y h1 h2
  · rw [List.getElem?_append_right (by omega)] at h1
    rw [List.getElem?_append_right (by omega)] at h2
    have h0 : j - rows.length = 0 := by
      have := (List.getElem?_eq_some_iff.1 h1).1
      simpa using this
    rw [h0] at h1
    rw [show j - xs.length = 0 by omega] at h2
    simp at h1 h2
    subst h1 h2
    exact ⟨hl, hq⟩
theorem Rel.lens {X : Type} {Q : List Value → X → Prop} {k : Nat} {rows : List (List Value)} {xs : List X} (h : Rel Q k rows xs) : ∀ r ∈ rows, r.length = k := by
  intro r hr
  obtain ⟨j, hj⟩ := List.getElem?_of_mem hr
  obtain ⟨x, hx⟩ : ∃ x, xs[j]? = some x := ⟨_, List.getElem?_eq_getElem (by rw [← h.1]; exact (List.getElem?_eq_some_iff.1 hj).1)⟩
  exact (h.2 j r x hj hx).1

/-- What a draft's values are. -/
structure Dq where
  val : Ix → Value
  f : Nat → Value
  gl : Nat → List (List Value)
  sl : Nat → List (List Value)
  mS : Value
  mV : Value

def rrow (q : Dq) (j : Nat) (r : Rl) : List Value := [sv r.name, .int .i64 r.args, q.f j, q.val (.g j), q.val (.s j)]
def rrows (q : Dq) (rs : List Rl) : List (List Value) := rs.mapIdx (rrow q)
def ent (q : Dq) (t : Tb) : Ix → En
  | .st => ⟨9, 1, t.states.length, t.states.map sv⟩
  | .va => ⟨9, 1, t.vars.length, t.vars.map sv⟩
  | .nu => ⟨3, 1, t.start.length, t.start.map fun n => .int .i64 n⟩
  | .ru => ⟨58, 5, t.rules.length, (rrows q t.rules).flatten⟩
  | .g j => ⟨76, 2, (q.gl j).length, (q.gl j).flatten⟩
  | .s j => ⟨80, 2, (q.sl j).length, (q.sl j).flatten⟩

/-- The blocks that are open: the draft's, others', its rows'. -/
def Opn (D : Nat) (X : Nat → Prop) (val : Ix → Value) (k : Nat) : Prop := k = D ∨ X k ∨ ∃ i, (val i).ownBlock = some k

/-- What a draft's rules have that no more turns. -/
def Fix (q : Dq) (t : Tb) (F : World) : Prop := ∀ (j : Nat) r, t.rules[j]? = some r → SlN F (q.f j) r.from_ ∧ Rel (GdIs F) 2 (q.gl j) r.guards ∧ Rel (SpIs F) 2 (q.sl j) r.steps
theorem fix_mono (q : Dq) (t : Tb) : Mono (Fix q t) := fun F F' h hF j r hr => by
  obtain ⟨h1, h2, h3⟩ := hF j r hr
  exact ⟨sl_sub h h1, h2.imp fun _ _ x => gd_sub h x, h3.imp fun _ _ x => sp_sub h x⟩

def drCells (q : Dq) (said : Nat) : Array Value := #[q.val .st, q.val .va, q.val .nu, q.val .ru, .int .i64 (said : Int), q.mS, q.mV]

/-- The rows, each its own. -/
structure Rows_ (D : Nat) (X : Nat → Prop) (val : Ix → Value) (en : Ix → En) (w : World) : Prop where
  own : ∀ i, w.ownsRow (D + 1) (en i).e (en i).k (val i) (en i).n (en i).xs
  one : ∀ i i' k, (val i).ownBlock = some k → (val i').ownBlock = some k → i = i'
  noX : ∀ i k, (val i).ownBlock = some k → ¬ X k

/-- Where names stand, if it is told yet. -/
def Where (D : Nat) (X : Nat → Prop) (val : Ix → Value) (w : World) (m : Value) (l : List Bs) : Prop := ∃ b, m = .map (some b) ∧ MapIs w b l ∧ ¬ Opn D X val b

structure Dr (D : Nat) (X : Nat → Prop) (t : Tb) (said : Nat) (q : Dq) (w : World) : Prop where
  heap : w.heap[D]? = some (.cells (drCells q said) 41 (0, 0))
  xD : ∀ k, X k → D < k ∧ k < w.heap.size
  rows : Rows_ D X q.val (ent q t) w
  closed : Closed (Opn D X q.val) w (Fix q t)
  mS : 1 ≤ said → Where D X q.val w q.mS t.states
  mV : 2 ≤ said → Where D X q.val w q.mV t.vars
  none_ : said < 2 → t.rules = []
  rest : ∀ j, t.rules.length ≤ j → (q.val (.g j) = .slice none 0 0 ∧ q.gl j = []) ∧ q.val (.s j) = .slice none 0 0 ∧ q.sl j = []

theorem own_block_lt {w : World} {base n k : Nat} {e : TypeId} {v : Value} {xs : List Value} (h : w.ownsRow base e k v n xs) {b : Nat} (hb : v.ownBlock = some b) : base ≤ b ∧ b < w.heap.size := by
  rcases h.2 with ⟨rfl, _⟩ | ⟨g, cap, cur, rfl, h1, h2, _⟩
  · cases hb
  · simp only [Value.ownBlock, Option.some.injEq] at hb
    subst hb
    exact ⟨h1, (Array.getElem?_eq_some_iff.1 h2).1⟩

section
variable {D : Nat} {X : Nat → Prop} {t : Tb} {said : Nat} {q : Dq} {w w' : World}

theorem Dr.lt (h : Dr D X t said q w) : D < w.heap.size := (Array.getElem?_eq_some_iff.1 h.heap).1
theorem Dr.open_ge (h : Dr D X t said q w) {k : Nat} (hk : Opn D X q.val k) : D ≤ k ∧ k < w.heap.size := by
  rcases hk with rfl | hk | ⟨i, hi⟩
  · exact ⟨Nat.le_refl _, h.lt⟩
  · have := h.xD k hk; omega
  · have := own_block_lt (h.rows.own i) hi; omega

theorem Where.step {m : Value} {l : List Bs} {X' : Nat → Prop} {val val' : Ix → Value} {S : Nat → Prop} (h : Where D X val w m l) (hc : Chg S w w') (hS : ∀ k, S k → k < w.heap.size → Opn D X val k)
    (hO : ∀ k, Opn D X' val' k → k < w.heap.size → Opn D X val k) : Where D X' val' w' m l := by
  obtain ⟨b, rfl, hm, hn⟩ := h
  have hlt := hm.lt
  exact ⟨b, rfl, hm.chg hc fun hs => hn (hS b hs hlt), fun ho => hn (hO b ho hlt)⟩

/-- Others' blocks turn, and new memory comes; others' blocks may be more, or less. -/
theorem Dr.keep (h : Dr D X t said q w) {X' S : Nat → Prop} (hc : Chg S w w') (hS : ∀ k, S k → k < w.heap.size → X k) (hX : ∀ k, X' k → D < k ∧ k < w'.heap.size) (hX2 : ∀ k, X' k → k < w.heap.size → X k) : Dr D X' t said q w' := by
  have hD : ¬ S D := fun hs => by have := h.xD D (hS D hs h.lt); omega
  have hR : ∀ i k, (q.val i).ownBlock = some k → ¬ S k := fun i k hk hs => h.rows.noX i k hk (hS k hs (own_block_lt (h.rows.own i) hk).2)
  have hO : ∀ k, Opn D X' q.val k → k < w.heap.size → Opn D X q.val k := fun k hk hlt => by
    rcases hk with hk | hk | hk
    · exact Or.inl hk
    · exact Or.inr (Or.inl (hX2 k hk hlt))
    · exact Or.inr (Or.inr hk)
  have hS' : ∀ k, S k → k < w.heap.size → Opn D X q.val k := fun k hk hlt => Or.inr (Or.inl (hS k hk hlt))
  exact ⟨hc.heap h.heap hD, hX, ⟨fun i => hc.own (h.rows.own i) (hR i), h.rows.one, fun i k hk hx => h.rows.noX i k hk (hX2 k hx (own_block_lt (h.rows.own i) hk).2)⟩,
    h.closed.step hc hS' hO, fun hs => (h.mS hs).step hc hS' hO, fun hs => (h.mV hs).step hc hS' hO, h.none_, h.rest⟩

theorem Dr.grow (h : Dr D X t said q w) (hb : Below w.heap.size w w') : Dr D X t said q w' :=
  h.keep (S := fun _ => False) (Chg.of hb) (fun _ hk _ => hk.elim) (fun k hk => ⟨(h.xD k hk).1, Nat.lt_of_lt_of_le (h.xD k hk).2 hb.size⟩) fun _ hk _ => hk

/-- A value in place of another. -/
def upd {α : Type} (f : Ix → α) (i : Ix) (a : α) (x : Ix) : α := if x = i then a else f x
theorem upd_same {α : Type} (f : Ix → α) (i : Ix) (a : α) : upd f i a i = a := if_pos rfl
theorem upd_other {α : Type} (f : Ix → α) (i : Ix) (a : α) {x : Ix} (h : x ≠ i) : upd f i a x = f x := if_neg h

/-- One row turns: it, and blocks that are no row's. -/
theorem Rows_.upd {val : Ix → Value} {en : Ix → En} (h : Rows_ D X val en w) (i : Ix) {v' : Value} {e' : En} {S : Nat → Prop} (hc : Chg S w w') (hS : ∀ k, S k → k < w.heap.size → (val i).ownBlock = some k ∨ ∀ i', (val i').ownBlock ≠ some k)
    (ho : w'.ownsRow (D + 1) e'.e e'.k v' e'.n e'.xs) (hv : v'.ownBlock = (val i).ownBlock ∨ ∃ k, v'.ownBlock = some k ∧ w.heap.size ≤ k) (hXlt : ∀ k, X k → k < w.heap.size) : Rows_ D X (T.upd val i v') (T.upd en i e') w' := by
  have hlt : ∀ i k, (val i).ownBlock = some k → k < w.heap.size := fun i k hk => (own_block_lt (h.own i) hk).2
  have key : ∀ i' k, i' ≠ i → (val i').ownBlock = some k → v'.ownBlock = some k → False := fun i' k hne h1 h2 => by
    rcases hv with e | ⟨m, e, hm⟩
    · exact hne (h.one i' i k h1 (e ▸ h2))
    · rw [e] at h2; cases h2
      have := hlt i' _ h1; omega
  refine ⟨fun i' => ?_, fun i1 i2 k h1 h2 => ?_, fun i' k hk => ?_⟩
  · by_cases hi : i' = i
    · subst hi; rw [upd_same, upd_same]; exact ho
    · rw [upd_other _ _ _ hi, upd_other _ _ _ hi]
      refine hc.own (h.own i') fun k hk hs => ?_
      rcases hS k hs (hlt i' k hk) with e | e
      · exact hi (h.one i' i k hk e)
      · exact e i' hk
  · by_cases hi1 : i1 = i
    · by_cases hi2 : i2 = i
      · rw [hi1, hi2]
      · subst hi1
        rw [upd_same] at h1
        rw [upd_other _ _ _ hi2] at h2
        exact (key i2 k hi2 h2 h1).elim
    · rw [upd_other _ _ _ hi1] at h1
      by_cases hi2 : i2 = i
      · subst hi2
        rw [upd_same] at h2
        exact (key i1 k hi1 h1 h2).elim
      · rw [upd_other _ _ _ hi2] at h2
        exact h.one i1 i2 k h1 h2
  · by_cases hi : i' = i
    · subst hi
      rw [upd_same] at hk
      rcases hv with e | ⟨m, e, hm⟩
      · exact h.noX i' k (e ▸ hk)
      · rw [e] at hk; cases hk
        exact fun hx => by have := hXlt _ hx; omega
    · rw [upd_other _ _ _ hi] at hk
      exact h.noX i' k hk

theorem opn_upd {val : Ix → Value} (i : Ix) {v' : Value} (hv : v'.ownBlock = (val i).ownBlock ∨ ∃ k, v'.ownBlock = some k ∧ w.heap.size ≤ k) : ∀ k, Opn D X (T.upd val i v') k → k < w.heap.size → Opn D X val k := by
  intro k hk hlt
  rcases hk with hk | hk | ⟨i', hi'⟩
  · exact Or.inl hk
  · exact Or.inr (Or.inl hk)
  · by_cases hi : i' = i
    · subst hi
      rw [upd_same] at hi'
      rcases hv with e | ⟨m, e, hm⟩
      · exact Or.inr (Or.inr ⟨i', e ▸ hi'⟩)
      · rw [e] at hi'; cases hi'; omega
    · rw [upd_other _ _ _ hi] at hi'
      exact Or.inr (Or.inr ⟨i', hi'⟩)

/-- What the draft's block reads. -/
theorem Dr.cell (h : Dr D X t said q w) (o : Nat) {v : Value} (hv : (drCells q said)[o]? = some v) : w.cell? ⟨D, o, none⟩ = some v := by
  rw [cell_of_row _ _ _ _ _ _ h.heap]; exact hv
theorem Dr.frozen (h : Dr D X t said q w) (o : Nat) (ho : o < 7) : w.frozen? ⟨D, o, none⟩ = false :=
  (row_cell h.heap (show o < (drCells q said).size from ho)).choose_spec.2

/-- A row of the draft's own grows, and the draft's block tells of it. -/
theorem Dr.push (h : Dr D X t said q w) (i : Ix) {v' : Value} {e' : En} {t' : Tb} {q' : Dq} {w1 : World} {S : Nat → Prop} (hc : Chg S w w1) (hS : ∀ k, S k → k < w.heap.size → (q.val i).ownBlock = some k)
    (ho : w1.ownsRow (D + 1) e'.e e'.k v' e'.n e'.xs) (hv : v'.ownBlock = (q.val i).ownBlock ∨ ∃ k, v'.ownBlock = some k ∧ w.heap.size ≤ k) (o : Nat)
    (hq : q'.val = T.upd q.val i v') (hmS : q'.mS = q.mS) (hmV : q'.mV = q.mV) (hcells : drCells q' said = (drCells q said).setIfInBounds o v') (hent : ∀ x, ent q' t' x = T.upd (ent q t) i e' x)
    (hcl : Closed (Opn D X q'.val) w1 (Fix q' t')) (hs : 1 ≤ said → t'.states = t.states) (hva : 2 ≤ said → t'.vars = t.vars) (hn : said < 2 → t'.rules = [])
    (hr : ∀ j, t'.rules.length ≤ j → (q'.val (.g j) = .slice none 0 0 ∧ q'.gl j = []) ∧ q'.val (.s j) = .slice none 0 0 ∧ q'.sl j = []) : Dr D X t' said q' (w1.setCell ⟨D, o, none⟩ v') := by
  have hlt : ∀ i k, (q.val i).ownBlock = some k → D + 1 ≤ k ∧ k < w.heap.size := fun i k hk => own_block_lt (h.rows.own i) hk
  have hD : ¬ S D := fun hs => by have := hlt i D (hS D hs h.lt); omega
  have hXl : ∀ k, X k → k < w.heap.size := fun k hk => (h.xD k hk).2
  have r1 := h.rows.upd i hc (fun k hk hl => Or.inl (hS k hk hl)) ho hv hXl
  have h1 : w1.heap[D]? = some (.cells (drCells q said) 41 (0, 0)) := hc.heap h.heap hD
  have c2 : Chg (fun k => k = D) w1 (w1.setCell ⟨D, o, none⟩ v') := Chg.set w1 o v' rfl
  have hO := opn_upd (D := D) (X := X) (w := w) (val := q.val) i hv
  have c3 : Chg (fun k => k = D ∨ (q.val i).ownBlock = some k) w (w1.setCell ⟨D, o, none⟩ v') :=
    ⟨c2.os.trans hc.os, c2.tape.trans hc.tape, c2.output.trans hc.output, Nat.le_trans hc.size c2.size, fun k hk hn =>
      (c2.block k (Nat.lt_of_lt_of_le hk hc.size) fun e => hn (Or.inl e)).trans (hc.block k hk fun hm => hn (Or.inr (hS k hm hk)))⟩
  have hT : ∀ k, (k = D ∨ (q.val i).ownBlock = some k) → k < w.heap.size → Opn D X q.val k := fun k hk _ => hk.elim Or.inl fun e => Or.inr (Or.inr ⟨i, e⟩)
  have hsz1 := hc.size
  have own_gt : ∀ i' k, (T.upd q.val i v' i').ownBlock = some k → D + 1 ≤ k := fun i' k hk => (own_block_lt (r1.own i') hk).1
  refine ⟨?_, fun k hk => ⟨(h.xD k hk).1, by have := hXl k hk; simp; omega⟩, ⟨fun x => ?_, fun a b k h1 h2 => ?_, fun a k hk => ?_⟩, ?_, fun hs1 => ?_, fun hs2 => ?_, hn, hr⟩
  · rw [hcells]
    exact heap_setCell_same _ D o _ _ _ h1
  · rw [hent, hq]
    exact c2.own (r1.own x) fun k hk e => by have := own_gt x k hk; omega
  · rw [hq] at h1 h2; exact r1.one a b k h1 h2
  · rw [hq] at hk; exact r1.noX a k hk
  · exact hcl.step c2 (fun k hk _ => Or.inl hk) fun k hk _ => hk
  · have := (h.mS hs1).step (X' := X) (val' := T.upd q.val i v') c3 hT hO
    rw [hs hs1, hq, hmS]; exact this
  · have := (h.mV hs2).step (X' := X) (val' := T.upd q.val i v') c3 hT hO
    rw [hva hs2, hq, hmV]; exact this
end
end Go.Proofs.YtfooiggedgcjcaaGreatDoor.T

namespace Go.Proofs.YtfooiggedgcjcaaGreatDoor.T
open Go Go.RowKit Go.Proofs.YtfooiggedgcjcaaGreatDoor.B Go.Proofs.YtfooiggedgcjcaaGreatDoor.K Go.Proofs.YtfooiggedgcjcaaGreatDoor.E Go.Proofs.YtfooiggedgcjcaaGreatDoor.R
set_option linter.unusedVariables false

theorem mapIdx_snoc {α β : Type} (f : Nat → α → β) (l : List α) (a : α) : (l ++ [a]).mapIdx f = l.mapIdx f ++ [f l.length a] := by
  rw [List.mapIdx_append]
  simp [List.mapIdx_cons]
theorem rrows_of {q q' : Dq} {rs : List Rl} (h : ∀ j, j < rs.length → q'.f j = q.f j ∧ q'.val (.g j) = q.val (.g j) ∧ q'.val (.s j) = q.val (.s j)) : rrows q' rs = rrows q rs := by
  unfold rrows
  refine List.ext_getElem? fun j => ?_
  rw [List.getElem?_mapIdx, List.getElem?_mapIdx]
  cases hr : rs[j]? with
  | none => rfl
  | some r =>
    obtain ⟨h1, h2, h3⟩ := h j (List.getElem?_eq_some_iff.1 hr).1
    simp only [Option.map_some, rrow, h1, h2, h3]
theorem rrows_len (q : Dq) (rs : List Rl) : (rrows q rs).length = rs.length := by unfold rrows; rw [List.length_mapIdx]
theorem rrows_five (q : Dq) (rs : List Rl) : ∀ r ∈ rrows q rs, r.length = 5 := by
  intro r hr
  obtain ⟨j, hj⟩ := List.getElem?_of_mem hr
  unfold rrows at hj
  rw [List.getElem?_mapIdx] at hj
  cases hq : rs[j]? with
  | none => rw [hq] at hj; cases hj
  | some x => rw [hq] at hj; cases hj; rfl
theorem rrows_at (q : Dq) (rs : List Rl) (j : Nat) (r : Rl) (h : rs[j]? = some r) : (rrows q rs)[j]? = some (rrow q j r) := by
  unfold rrows
  rw [List.getElem?_mapIdx, h]; rfl

section
variable {D : Nat} {X : Nat → Prop} {t : Tb} {said : Nat} {q : Dq} {w w1 : World}

/-- What an append of one's own leaves. -/
structure App (D : Nat) (w w1 : World) (v v' : Value) (e : TypeId) (k n : Nat) (xs : List Value) : Prop where
  own : w1.ownsRow (D + 1) e k v' n xs
  chg : Chg (fun b => v.ownBlock = some b) w w1
  blk : v'.ownBlock = v.ownBlock ∨ ∃ b, v'.ownBlock = some b ∧ w.heap.size ≤ b

theorem Dr.push_st (h : Dr D X t 0 q w) (x : Bs) {v' : Value} (a : App D w w1 (q.val .st) v' 9 1 (t.states.length + 1) (t.states.map sv ++ [sv x])) :
    Dr D X { t with states := t.states ++ [x] } 0 { q with val := T.upd q.val .st v' } (w1.setCell ⟨D, 0, none⟩ v') := by
  refine h.push .st (e' := ⟨9, 1, t.states.length + 1, t.states.map sv ++ [sv x]⟩) (q' := { q with val := T.upd q.val .st v' }) a.chg (fun k hk _ => hk) a.own a.blk 0 rfl rfl rfl ?_ (fun i => ?_) ?_ (fun h => by omega) (fun h => by omega) h.none_ (fun j hj => ?_)
  · simp [drCells, upd_same, upd_other]
  · cases i with
    | st => rw [upd_same]; simp [ent]
    | ru => rw [upd_other _ _ _ (by simp)]; simp only [ent]; rw [rrows_of]; exact fun j _ => ⟨rfl, rfl, rfl⟩
    | _ => rfl
  · exact h.closed.step a.chg (fun k hk _ => Or.inr (Or.inr ⟨.st, hk⟩)) (opn_upd .st a.blk)
  · have := h.rest j hj
    exact this

theorem Dr.push_va (h : Dr D X t 1 q w) (x : Bs) {v' : Value} (a : App D w w1 (q.val .va) v' 9 1 (t.vars.length + 1) (t.vars.map sv ++ [sv x])) :
    Dr D X { t with vars := t.vars ++ [x] } 1 { q with val := T.upd q.val .va v' } (w1.setCell ⟨D, 1, none⟩ v') := by
  refine h.push .va (e' := ⟨9, 1, t.vars.length + 1, t.vars.map sv ++ [sv x]⟩) (q' := { q with val := T.upd q.val .va v' }) a.chg (fun k hk _ => hk) a.own a.blk 1 rfl rfl rfl ?_ (fun i => ?_) ?_ (fun _ => rfl) (fun h => by omega) h.none_ (fun j hj => ?_)
  · simp [drCells, upd_same, upd_other]
  · cases i with
    | va => rw [upd_same]; simp [ent]
    | ru => rw [upd_other _ _ _ (by simp)]; simp only [ent]; rw [rrows_of]; exact fun j _ => ⟨rfl, rfl, rfl⟩
    | _ => rfl
  · exact h.closed.step a.chg (fun k hk _ => Or.inr (Or.inr ⟨.va, hk⟩)) (opn_upd .va a.blk)
  · have := h.rest j hj
    exact this

theorem Dr.push_nu (h : Dr D X t 1 q w) (x : Int) {v' : Value} (a : App D w w1 (q.val .nu) v' 3 1 (t.start.length + 1) ((t.start.map fun n => .int .i64 n) ++ [.int .i64 x])) :
    Dr D X { t with start := t.start ++ [x] } 1 { q with val := T.upd q.val .nu v' } (w1.setCell ⟨D, 2, none⟩ v') := by
  refine h.push .nu (e' := ⟨3, 1, t.start.length + 1, (t.start.map fun n => .int .i64 n) ++ [.int .i64 x]⟩) (q' := { q with val := T.upd q.val .nu v' }) a.chg (fun k hk _ => hk) a.own a.blk 2 rfl rfl rfl ?_ (fun i => ?_) ?_ (fun _ => rfl) (fun h => by omega) h.none_ (fun j hj => ?_)
  · simp [drCells, upd_same, upd_other]
  · cases i with
    | nu => rw [upd_same]; simp [ent]
    | ru => rw [upd_other _ _ _ (by simp)]; simp only [ent]; rw [rrows_of]; exact fun j _ => ⟨rfl, rfl, rfl⟩
    | _ => rfl
  · exact h.closed.step a.chg (fun k hk _ => Or.inr (Or.inr ⟨.nu, hk⟩)) (opn_upd .nu a.blk)
  · have := h.rest j hj
    exact this

/-- Where the states stand is told. -/
theorem Dr.map_st (h : Dr D X t 0 q w) (b : Nat) (hb : Below w.heap.size w w1) (hm : MapIs w1 b t.states) (hf : w.heap.size ≤ b) : Dr D X t 0 { q with mS := .map (some b) } (w1.setCell ⟨D, 5, none⟩ (.map (some b))) ∧
    Where D X q.val (w1.setCell ⟨D, 5, none⟩ (.map (some b))) (.map (some b)) t.states := by
  have h1 := h.grow hb
  have c : Chg (fun k => k = D) w1 (w1.setCell ⟨D, 5, none⟩ (.map (some b))) := Chg.set w1 5 _ rfl
  have hbD : b ≠ D := by have := h.lt; omega
  refine ⟨⟨?_, fun k hk => ⟨(h1.xD k hk).1, by have := (h1.xD k hk).2; simpa using this⟩, ⟨fun i => ?_, h1.rows.one, h1.rows.noX⟩, ?_, fun h => by omega, fun h => by omega, h1.none_, h1.rest⟩, ?_⟩
  · exact heap_setCell_same _ D 5 _ _ _ h1.heap
  · have := c.own (h1.rows.own i) fun k hk e => by have := own_block_lt (h1.rows.own i) hk; omega
    cases i <;> exact this
  · exact h1.closed.step c (fun k hk _ => Or.inl hk) fun k hk _ => hk
  · refine ⟨b, rfl, hm.chg c hbD, fun ho => ?_⟩
    have := h.open_ge ho
    omega

theorem Dr.map_va (h : Dr D X t 1 q w) (b : Nat) (hb : Below w.heap.size w w1) (hm : MapIs w1 b t.vars) (hf : w.heap.size ≤ b) : Dr D X t 1 { q with mV := .map (some b) } (w1.setCell ⟨D, 6, none⟩ (.map (some b))) ∧
    Where D X q.val (w1.setCell ⟨D, 6, none⟩ (.map (some b))) (.map (some b)) t.vars := by
  have h1 := h.grow hb
  have c : Chg (fun k => k = D) w1 (w1.setCell ⟨D, 6, none⟩ (.map (some b))) := Chg.set w1 6 _ rfl
  have hbD : b ≠ D := by have := h.lt; omega
  refine ⟨⟨?_, fun k hk => ⟨(h1.xD k hk).1, by have := (h1.xD k hk).2; simpa using this⟩, ⟨fun i => ?_, h1.rows.one, h1.rows.noX⟩, ?_, fun hs => ?_, fun h => by omega, h1.none_, h1.rest⟩, ?_⟩
  · exact heap_setCell_same _ D 6 _ _ _ h1.heap
  · have := c.own (h1.rows.own i) fun k hk e => by have := own_block_lt (h1.rows.own i) hk; omega
    cases i <;> exact this
  · exact h1.closed.step c (fun k hk _ => Or.inl hk) fun k hk _ => hk
  · exact (h1.mS hs).step c (fun k hk _ => Or.inl hk) fun k hk _ => hk
  · refine ⟨b, rfl, hm.chg c hbD, fun ho => ?_⟩
    have := h.open_ge ho
    omega

/-- One line more has said something. -/
theorem Dr.say (h : Dr D X t said q w) (hS : said = 0 → Where D X q.val w q.mS t.states) (hV : said = 1 → Where D X q.val w q.mV t.vars) (hR : said + 1 < 2 → t.rules = []) :
    Dr D X t (said + 1) q (w.setCell ⟨D, 4, none⟩ (.int .i64 ((said + 1 : Nat) : Int))) := by
  have c : Chg (fun k => k = D) w (w.setCell ⟨D, 4, none⟩ (.int .i64 ((said + 1 : Nat) : Int))) := Chg.set w 4 _ rfl
  refine ⟨?_, fun k hk => ⟨(h.xD k hk).1, by have := (h.xD k hk).2; simpa using this⟩, ⟨fun i => ?_, h.rows.one, h.rows.noX⟩, ?_, fun _ => ?_, fun hs => ?_, hR, h.rest⟩
  · exact heap_setCell_same _ D 4 _ _ _ h.heap
  · exact c.own (h.rows.own i) fun k hk e => by have := own_block_lt (h.rows.own i) hk; omega
  · exact h.closed.step c (fun k hk _ => Or.inl hk) fun k hk _ => hk
  · refine Where.step ?_ c (fun k hk _ => Or.inl hk) fun k hk _ => hk
    by_cases h0 : said = 0
    · exact hS h0
    · exact h.mS (by omega)
  · refine Where.step ?_ c (fun k hk _ => Or.inl hk) fun k hk _ => hk
    by_cases h1 : said = 1
    · exact hV h1
    · exact h.mV (by omega)

theorem sln_mono (v : Value) (l : List Int) : Mono fun F => SlN F v l := fun F F' h hF => sl_sub h hF

/-- A rule more. -/
theorem Dr.push_ru (h : Dr D X t said q w) (hs2 : 2 ≤ said) (nm : Bs) (args : Int) (fr : List Int) (fv : Value) {v' : Value} (hf : SlN w fv fr) (hfo : ∀ k, fv.ownBlock = some k → ¬ Opn D X q.val k)
    (a : App D w w1 (q.val .ru) v' 58 5 (t.rules.length + 1) ((rrows q t.rules).flatten ++ [sv nm, .int .i64 args, fv, .slice none 0 0, .slice none 0 0])) :
    Dr D X { t with rules := t.rules ++ [⟨nm, args, fr, [], []⟩] } said { q with val := T.upd q.val .ru v', f := fun j => if j = t.rules.length then fv else q.f j } (w1.setCell ⟨D, 3, none⟩ v') := by
  have hrest := h.rest t.rules.length (Nat.le_refl _)
  have hrr : (rrows { q with val := T.upd q.val .ru v', f := fun j => if j = t.rules.length then fv else q.f j } (t.rules ++ [⟨nm, args, fr, [], []⟩])).flatten = (rrows q t.rules).flatten ++ [sv nm, .int .i64 args, fv, .slice none 0 0, .slice none 0 0] := by
    unfold rrows
    rw [mapIdx_snoc, List.flatten_append]
    congr 1
    · congr 1
      exact rrows_of fun j hj => ⟨by show (if j = t.rules.length then fv else q.f j) = _; rw [if_neg (by omega)], rfl, rfl⟩
    · simp [rrow, upd_other, hrest.1.1, hrest.2.1]
  refine h.push .ru (e' := ⟨58, 5, t.rules.length + 1, (rrows q t.rules).flatten ++ [sv nm, .int .i64 args, fv, .slice none 0 0, .slice none 0 0]⟩) a.chg (fun k hk _ => hk) a.own a.blk 3 rfl rfl rfl ?_ (fun i => ?_) ?_ (fun _ => rfl) (fun _ => rfl) (fun h => by omega) (fun j hj => ?_)
  · simp [drCells, upd_same, upd_other]
  · cases i with
    | ru => rw [upd_same]; simp only [ent]; rw [hrr]; simp
    | _ => rfl
  · have h1 : Closed (Opn D X q.val) w fun F => Fix q t F ∧ SlN F fv fr := h.closed.more (fix_mono q t) fun F hF hP => ⟨hP, sl_shut hF hf hfo⟩
    refine (h1.step a.chg (fun k hk _ => Or.inr (Or.inr ⟨.ru, hk⟩)) (opn_upd .ru a.blk)).imp fun F ⟨g1, g2⟩ j r hr => ?_
    by_cases hj : j < t.rules.length
    · rw [List.getElem?_append_left hj] at hr
      obtain ⟨k1, k2, k3⟩ := g1 j r hr
      exact ⟨by show SlN F (if j = t.rules.length then fv else q.f j) _; rw [if_neg (by omega)]; exact k1, k2, k3⟩
    · rw [List.getElem?_append_right (by omega)] at hr
      have hj0 : j - t.rules.length = 0 := by
        have := (List.getElem?_eq_some_iff.1 hr).1
        simpa using this
      rw [hj0] at hr
      simp at hr
      obtain rfl : j = t.rules.length := by omega
      subst hr
      refine ⟨by show SlN F (if t.rules.length = t.rules.length then fv else q.f t.rules.length) _; rw [if_pos rfl]; exact g2, ?_, ?_⟩
      · show Rel _ 2 (q.gl t.rules.length) []
        rw [hrest.1.2]; exact Rel.nil _ _
      · show Rel _ 2 (q.sl t.rules.length) []
        rw [hrest.2.2]; exact Rel.nil _ _
  · have := h.rest j (by simp at hj; omega)
    exact this
end
end Go.Proofs.YtfooiggedgcjcaaGreatDoor.T

namespace Go.Proofs.YtfooiggedgcjcaaGreatDoor.T
open Go Go.RowKit Go.Proofs.YtfooiggedgcjcaaGreatDoor.B Go.Proofs.YtfooiggedgcjcaaGreatDoor.K Go.Proofs.YtfooiggedgcjcaaGreatDoor.E Go.Proofs.YtfooiggedgcjcaaGreatDoor.R
set_option linter.unusedVariables false

theorem own_set {w : World} {base k n : Nat} {e : TypeId} {v : Value} {xs : List Value} (h : w.ownsRow base e k v n xs) {g cap : Nat} (hv : v = .slice (some ⟨g, 0, none⟩) n cap) (o : Nat) (u : Value) :
    (w.setCell ⟨g, o, none⟩ u).ownsRow base e k v n (xs.set o u) := by
  refine ⟨by rw [List.length_set]; exact h.1, ?_⟩
  rcases h.2 with ⟨h0, _⟩ | ⟨g', cap', cur, h1, h2, h3, h4, h5, h6, h7⟩
  · rw [hv] at h0; cases h0
  · rw [hv] at h1
    cases h1
    refine Or.inr ⟨g, cap, cur.setIfInBounds o u, hv, h2, ?_, h4, h5, by simpa using h6, ?_⟩
    · exact heap_setCell_same w g o cur e u h3
    · rw [Array.toList_setIfInBounds, List.take_set, h7]

section
variable {D : Nat} {X : Nat → Prop} {t : Tb} {said : Nat} {q : Dq} {w w1 : World}

/-- The rule that is read last. -/
theorem Dr.last (h : Dr D X t said q w) {rs : List Rl} {r : Rl} (ht : t.rules = rs ++ [r]) : ∃ gR cap, q.val .ru = .slice (some ⟨gR, 0, none⟩) (rs.length + 1) cap ∧ D < gR ∧ gR < w.heap.size ∧
    ∀ (i : Nat) v, (rrow q rs.length r)[i]? = some v → w.cell? ⟨gR, rs.length * 5 + i, none⟩ = some v ∧ w.frozen? ⟨gR, rs.length * 5 + i, none⟩ = false := by
  have ho := h.rows.own .ru
  have hn : t.rules.length = rs.length + 1 := by rw [ht]; simp
  rcases ho.2 with ⟨_, h0⟩ | ⟨g, cap, cur, h1, h2, h3, h4, h5, h6, h7⟩
  · exact absurd (show t.rules.length = 0 from h0) (by omega)
  · refine ⟨g, cap, by rw [h1]; show Value.slice _ t.rules.length _ = _; rw [hn], by omega, (Array.getElem?_eq_some_iff.1 h3).1, fun i v hv => ?_⟩
    have hi : i < 5 := (List.getElem?_eq_some_iff.1 hv).1
    have hat := flatten_at 5 (rrows q t.rules) (rrows_five q _) rs.length (rrow q rs.length r) (rrows_at q _ _ _ (by rw [ht]; simp)) i hi
    rw [hv] at hat
    have h7' : cur.toList.take (t.rules.length * 5) = (rrows q t.rules).flatten := h7
    have hcur : cur[rs.length * 5 + i]? = some v := by
      rw [← h7', List.getElem?_take] at hat
      split at hat
      · rw [← Array.getElem?_toList]; exact hat
      · cases hat
    have hlt := (Array.getElem?_eq_some_iff.1 hcur).1
    refine ⟨?_, (row_cell h3 hlt).choose_spec.2⟩
    rw [cell_of_row _ _ _ _ _ _ h3]; exact hcur

/-- The last rule's guards, or its steps, are more. -/
theorem Dr.inner (h : Dr D X t said q w) {rs : List Rl} {r r' : Rl} (ht : t.rules = rs ++ [r]) (i : Ix) (o : Nat) (hi : i = .g rs.length ∨ i = .s rs.length) {v' : Value} {e' : En} {q' : Dq}
    (a : App D w w1 (q.val i) v' e'.e e'.k e'.n e'.xs) {gR cap : Nat} (hru : q.val .ru = .slice (some ⟨gR, 0, none⟩) (rs.length + 1) cap) (hq : q'.val = T.upd q.val i v') (hmS : q'.mS = q.mS) (hmV : q'.mV = q.mV)
    (hrr : (rrows q' (rs ++ [r'])).flatten = ((rrows q t.rules).flatten).set (rs.length * 5 + o) v') (hent : ∀ x, x ≠ .ru → ent q' { t with rules := rs ++ [r'] } x = T.upd (ent q t) i e' x)
    (hcl : Closed (Opn D X q'.val) w1 (Fix q' { t with rules := rs ++ [r'] })) (hs2 : 2 ≤ said)
    (hr : ∀ j, rs.length + 1 ≤ j → (q'.val (.g j) = .slice none 0 0 ∧ q'.gl j = []) ∧ q'.val (.s j) = .slice none 0 0 ∧ q'.sl j = []) :
    Dr D X { t with rules := rs ++ [r'] } said q' (w1.setCell ⟨gR, rs.length * 5 + o, none⟩ v') := by
  have hine : i ≠ .ru ∧ i ≠ .st ∧ i ≠ .va ∧ i ≠ .nu := by rcases hi with rfl | rfl <;> simp
  have hlt : ∀ i k, (q.val i).ownBlock = some k → D + 1 ≤ k ∧ k < w.heap.size := fun i k hk => own_block_lt (h.rows.own i) hk
  have hXl : ∀ k, X k → k < w.heap.size := fun k hk => (h.xD k hk).2
  have hruB : (q.val .ru).ownBlock = some gR := by rw [hru]; rfl
  have hgD := hlt .ru gR hruB
  have r1 := h.rows.upd i a.chg (fun k hk _ => Or.inl hk) a.own a.blk hXl
  have hval : T.upd q.val i v' .ru = q.val .ru := upd_other _ _ _ hine.1.symm
  have o1 : w1.ownsRow (D + 1) 58 5 (q.val .ru) t.rules.length (rrows q t.rules).flatten := by
    have := r1.own .ru
    rw [upd_other _ _ _ hine.1.symm, upd_other _ _ _ hine.1.symm] at this
    exact this
  have hn : t.rules.length = rs.length + 1 := by rw [ht]; simp
  have o2 := own_set o1 (by rw [hru, hn]) (rs.length * 5 + o) v'
  have c2 : Chg (fun k => k = gR) w1 (w1.setCell ⟨gR, rs.length * 5 + o, none⟩ v') := Chg.set w1 _ _ rfl
  have r2 := r1.upd .ru (v' := q.val .ru) (e' := ⟨58, 5, t.rules.length, ((rrows q t.rules).flatten).set (rs.length * 5 + o) v'⟩) c2 (fun k hk _ => Or.inl (by rw [hval, hruB, hk])) o2 (Or.inl (by rw [hval])) (fun k hk => Nat.lt_of_lt_of_le (hXl k hk) a.chg.size)
  have hv2 : T.upd (T.upd q.val i v') .ru (q.val .ru) = T.upd q.val i v' := funext fun x => by
    by_cases hx : x = .ru
    · subst hx; rw [upd_same, hval]
    · rw [upd_other _ _ _ hx]
  rw [hv2] at r2
  have c3 : Chg (fun k => k = gR ∨ (q.val i).ownBlock = some k) w (w1.setCell ⟨gR, rs.length * 5 + o, none⟩ v') :=
    ⟨c2.os.trans a.chg.os, c2.tape.trans a.chg.tape, c2.output.trans a.chg.output, Nat.le_trans a.chg.size c2.size, fun k hk hn =>
      (c2.block k (Nat.lt_of_lt_of_le hk a.chg.size) fun e => hn (Or.inl e)).trans (a.chg.block k hk fun hm => hn (Or.inr hm))⟩
  have hT : ∀ k, (k = gR ∨ (q.val i).ownBlock = some k) → k < w.heap.size → Opn D X q.val k := fun k hk _ => hk.elim (fun e => Or.inr (Or.inr ⟨.ru, e ▸ hruB⟩)) fun e => Or.inr (Or.inr ⟨i, e⟩)
  have hO := opn_upd (D := D) (X := X) (w := w) (val := q.val) i a.blk
  have hsz := a.chg.size
  have hcells : drCells q' said = drCells q said := by
    unfold drCells
    rw [hq, hmS, hmV, upd_other _ _ _ hine.1.symm, upd_other _ _ _ hine.2.1.symm, upd_other _ _ _ hine.2.2.1.symm, upd_other _ _ _ hine.2.2.2.symm]
  refine ⟨?_, fun k hk => ⟨(h.xD k hk).1, by have := hXl k hk; simp; omega⟩, ⟨fun x => ?_, fun x y k h1 h2 => ?_, fun x k hk => ?_⟩, ?_, fun hs1 => ?_, fun hs2 => ?_, fun h => by omega, fun j hj => hr j (by simpa using hj)⟩
  · rw [hcells]
    exact c3.heap h.heap fun hk => by
      rcases hk with e | e
      · omega
      · have := hlt i D e; omega
  · have := r2.own x
    rw [← hq] at this
    by_cases hx : x = .ru
    · subst hx
      rw [upd_same] at this
      simp only [ent]
      rw [hrr]
      have e1 : (rs ++ [r']).length = t.rules.length := by rw [hn]; simp
      rw [e1]; exact this
    · rw [upd_other _ _ _ hx] at this
      rw [hent x hx]; exact this
  · rw [hq] at h1 h2; exact r2.one x y k h1 h2
  · rw [hq] at hk; exact r2.noX x k hk
  · exact hcl.step c2 (fun k hk _ => Or.inr (Or.inr ⟨.ru, by rw [hq, hval, hruB, hk]⟩)) fun k hk _ => hk
  · have := (h.mS hs1).step (X' := X) (val' := T.upd q.val i v') c3 hT hO
    rw [hq, hmS]; exact this
  · have := (h.mV hs2).step (X' := X) (val' := T.upd q.val i v') c3 hT hO
    rw [hq, hmV]; exact this

theorem set_snoc_flat (rows : List (List Value)) (k o : Nat) (a : List Value) (v : Value) (hl : ∀ r ∈ rows, r.length = k) (ho : o < a.length) : ((rows ++ [a]).flatten).set (rows.length * k + o) v = (rows ++ [a.set o v]).flatten := by
  have hlen : rows.flatten.length = rows.length * k := by
    induction rows with
    | nil => simp
    | cons r rest ih =>
      rw [List.flatten_cons, List.length_append, hl r List.mem_cons_self, ih fun x hx => hl x (List.mem_cons_of_mem _ hx), List.length_cons, Nat.add_mul]
      omega
  rw [List.flatten_append, List.flatten_append, List.set_append_right _ _ (by omega), hlen]
  simp

/-- A guard more. -/
theorem Dr.push_gd (h : Dr D X t said q w) (hs2 : 2 ≤ said) {rs : List Rl} {r : Rl} (ht : t.rules = rs ++ [r]) (code : Int) (c : List In) (cv : Value) {v' : Value} (hf : SlI w cv c) (hfo : ∀ k, cv.ownBlock = some k → ¬ Opn D X q.val k)
    (a : App D w w1 (q.val (.g rs.length)) v' 76 2 ((q.gl rs.length).length + 1) ((q.gl rs.length).flatten ++ [.int .i64 code, cv])) {gR cap : Nat} (hru : q.val .ru = .slice (some ⟨gR, 0, none⟩) (rs.length + 1) cap) :
    ∃ q', Dr D X { t with rules := rs ++ [{ r with guards := r.guards ++ [⟨code, c⟩] }] } said q' (w1.setCell ⟨gR, rs.length * 5 + 3, none⟩ v') ∧ ∀ k, Opn D X q'.val k → k < w.heap.size → Opn D X q.val k := by
  refine ⟨{ q with val := T.upd q.val (.g rs.length) v', gl := fun j => if j = rs.length then q.gl j ++ [[.int .i64 code, cv]] else q.gl j }, ?_, opn_upd (.g rs.length) a.blk⟩
  have hone : ∀ j, j ≠ rs.length → T.upd q.val (.g rs.length) v' (.g j) = q.val (.g j) := fun j hj => upd_other _ _ _ (by simp [hj])
  refine h.inner ht (.g rs.length) 3 (Or.inl rfl) (e' := ⟨76, 2, (q.gl rs.length).length + 1, (q.gl rs.length).flatten ++ [.int .i64 code, cv]⟩) a hru rfl rfl rfl ?_ (fun x hx => ?_) ?_ hs2 (fun j hj => ?_)
  · rw [ht]
    unfold rrows
    rw [mapIdx_snoc, mapIdx_snoc]
    have e1 : List.mapIdx (rrow { q with val := T.upd q.val (.g rs.length) v', gl := fun j => if j = rs.length then q.gl j ++ [[.int .i64 code, cv]] else q.gl j }) rs = List.mapIdx (rrow q) rs := rrows_of fun j hj => ⟨rfl, hone j (by omega), rfl⟩
    rw [e1]
    have := set_snoc_flat (rrows q rs) 5 3 (rrow q rs.length r) v' (rrows_five q rs) (by simp [rrow])
    rw [rrows_len] at this
    refine Eq.trans ?_ this.symm
    simp [rrow, rrows, upd_same, upd_other]
  · cases x with
    | ru => exact absurd rfl hx
    | g j =>
      by_cases hj : j = rs.length
      · subst hj; rw [upd_same]; simp [ent]
      · rw [upd_other _ _ _ (by simp [hj])]; simp [ent, hj]
    | s j => rw [upd_other _ _ _ (by simp)]; rfl
    | _ => rfl
  · have h1 : Closed (Opn D X q.val) w fun F => Fix q t F ∧ SlI F cv c := h.closed.more (fix_mono q t) fun F hF hP => ⟨hP, sli_shut hF hf hfo⟩
    refine (h1.step a.chg (fun k hk _ => Or.inr (Or.inr ⟨.g rs.length, hk⟩)) (opn_upd (.g rs.length) a.blk)).imp fun F ⟨g1, g2⟩ j x hx => ?_
    by_cases hj : j < rs.length
    · have hx' : rs[j]? = some x := by rw [← hx]; exact (List.getElem?_append_left hj).symm
      obtain ⟨k1, k2, k3⟩ := g1 j x (by rw [ht, List.getElem?_append_left hj]; exact hx')
      refine ⟨k1, ?_, k3⟩
      show Rel _ 2 (if j = rs.length then q.gl j ++ [[.int .i64 code, cv]] else q.gl j) _
      rw [if_neg (by omega)]; exact k2
    · have hx2 : (rs ++ [({ r with guards := r.guards ++ [⟨code, c⟩] } : Rl)])[j]? = some x := hx
      rw [List.getElem?_append_right (by omega)] at hx2
      have hj0 : j - rs.length = 0 := by
        have := (List.getElem?_eq_some_iff.1 hx2).1
        simpa using this
      rw [hj0] at hx2
      simp at hx2
      obtain rfl : j = rs.length := by omega
      subst hx2
      obtain ⟨k1, k2, k3⟩ := g1 rs.length r (by rw [ht]; simp)
      refine ⟨k1, ?_, k3⟩
      show Rel _ 2 (if rs.length = rs.length then q.gl rs.length ++ [[.int .i64 code, cv]] else q.gl rs.length) _
      rw [if_pos rfl]
      exact k2.snoc rfl ⟨cv, rfl, g2⟩
  · have := h.rest j (by rw [ht]; simpa using hj)
    refine ⟨⟨(hone j (by omega)).trans this.1.1, ?_⟩, this.2.1, this.2.2⟩
    show (if j = rs.length then q.gl j ++ [[.int .i64 code, cv]] else q.gl j) = []
    rw [if_neg (by omega)]; exact this.1.2

/-- A step more. -/
theorem Dr.push_sp (h : Dr D X t said q w) (hs2 : 2 ≤ said) {rs : List Rl} {r : Rl} (ht : t.rules = rs ++ [r]) (p : Sp) (sv_ : Value) {v' : Value} (hf : Closed (Opn D X q.val) w fun F => SpIs F [sv_, .int .i64 p.to] p)
    (a : App D w w1 (q.val (.s rs.length)) v' 80 2 ((q.sl rs.length).length + 1) ((q.sl rs.length).flatten ++ [sv_, .int .i64 p.to])) {gR cap : Nat} (hru : q.val .ru = .slice (some ⟨gR, 0, none⟩) (rs.length + 1) cap) :
    ∃ q', Dr D X { t with rules := rs ++ [{ r with steps := r.steps ++ [p] }] } said q' (w1.setCell ⟨gR, rs.length * 5 + 4, none⟩ v') ∧ ∀ k, Opn D X q'.val k → k < w.heap.size → Opn D X q.val k := by
  refine ⟨{ q with val := T.upd q.val (.s rs.length) v', sl := fun j => if j = rs.length then q.sl j ++ [[sv_, .int .i64 p.to]] else q.sl j }, ?_, opn_upd (.s rs.length) a.blk⟩
  have hone : ∀ j, j ≠ rs.length → T.upd q.val (.s rs.length) v' (.s j) = q.val (.s j) := fun j hj => upd_other _ _ _ (by simp [hj])
  refine h.inner ht (.s rs.length) 4 (Or.inr rfl) (e' := ⟨80, 2, (q.sl rs.length).length + 1, (q.sl rs.length).flatten ++ [sv_, .int .i64 p.to]⟩) a hru rfl rfl rfl ?_ (fun x hx => ?_) ?_ hs2 (fun j hj => ?_)
  · rw [ht]
    unfold rrows
    rw [mapIdx_snoc, mapIdx_snoc]
    have e1 : List.mapIdx (rrow { q with val := T.upd q.val (.s rs.length) v', sl := fun j => if j = rs.length then q.sl j ++ [[sv_, .int .i64 p.to]] else q.sl j }) rs = List.mapIdx (rrow q) rs := rrows_of fun j hj => ⟨rfl, rfl, hone j (by omega)⟩
    rw [e1]
    have := set_snoc_flat (rrows q rs) 5 4 (rrow q rs.length r) v' (rrows_five q rs) (by simp [rrow])
    rw [rrows_len] at this
    refine Eq.trans ?_ this.symm
    simp [rrow, rrows, upd_same, upd_other]
  · cases x with
    | ru => exact absurd rfl hx
    | s j =>
      by_cases hj : j = rs.length
      · subst hj; rw [upd_same]; simp [ent]
      · rw [upd_other _ _ _ (by simp [hj])]; simp [ent, hj]
    | g j => rw [upd_other _ _ _ (by simp)]; rfl
    | _ => rfl
  · have h1 : Closed (Opn D X q.val) w fun F => Fix q t F ∧ SpIs F [sv_, .int .i64 p.to] p := h.closed.and hf (fix_mono q t) fun F F' hs hF => sp_sub hs hF
    refine (h1.step a.chg (fun k hk _ => Or.inr (Or.inr ⟨.s rs.length, hk⟩)) (opn_upd (.s rs.length) a.blk)).imp fun F ⟨g1, g2⟩ j x hx => ?_
    by_cases hj : j < rs.length
    · have hx' : rs[j]? = some x := by rw [← hx]; exact (List.getElem?_append_left hj).symm
      obtain ⟨k1, k2, k3⟩ := g1 j x (by rw [ht, List.getElem?_append_left hj]; exact hx')
      refine ⟨k1, k2, ?_⟩
      show Rel _ 2 (if j = rs.length then q.sl j ++ [[sv_, .int .i64 p.to]] else q.sl j) _
      rw [if_neg (by omega)]; exact k3
    · have hx2 : (rs ++ [({ r with steps := r.steps ++ [p] } : Rl)])[j]? = some x := hx
      rw [List.getElem?_append_right (by omega)] at hx2
      have hj0 : j - rs.length = 0 := by
        have := (List.getElem?_eq_some_iff.1 hx2).1
        simpa using this
      rw [hj0] at hx2
      simp at hx2
      obtain rfl : j = rs.length := by omega
      subst hx2
      obtain ⟨k1, k2, k3⟩ := g1 rs.length r (by rw [ht]; simp)
      refine ⟨k1, k2, ?_⟩
      show Rel _ 2 (if rs.length = rs.length then q.sl rs.length ++ [[sv_, .int .i64 p.to]] else q.sl rs.length) _
      rw [if_pos rfl]
      exact k3.snoc rfl g2
  · have := h.rest j (by rw [ht]; simpa using hj)
    refine ⟨⟨this.1.1, this.1.2⟩, (hone j (by omega)).trans this.2.1, ?_⟩
    show (if j = rs.length then q.sl j ++ [[sv_, .int .i64 p.to]] else q.sl j) = []
    rw [if_neg (by omega)]; exact this.2.2

/-- The draft's table. -/
theorem Dr.table (h : Dr D X t said q w) : TbIs w [q.val .st, q.val .va, q.val .nu, q.val .ru] t := by
  refine ⟨_, _, _, _, rfl, Sl.owns (h.rows.own .st), Sl.owns (h.rows.own .va), Sl.owns (h.rows.own .nu), ?_⟩
  have hF := h.closed.out (fix_mono q t)
  refine slof_own (h.rows.own .ru) (rrows_len q _) rfl (rrows_five q _) fun j r cs hr hcs => ?_
  rw [rrows_at q _ _ _ hr] at hcs
  cases hcs
  obtain ⟨h1, h2, h3⟩ := hF j r hr
  have e1 : (q.gl j).length = r.guards.length := h2.1
  have e2 : (q.sl j).length = r.steps.length := h3.1
  exact ⟨rfl, _, _, _, rfl, h1, slof_own (h.rows.own (.g j)) e1 e1.symm h2.lens fun i x cs hx hcs => h2.2 i cs x hcs hx, slof_own (h.rows.own (.s j)) e2 e2.symm h3.lens fun i x cs hx hcs => h3.2 i cs x hcs hx⟩
end
end Go.Proofs.YtfooiggedgcjcaaGreatDoor.T
