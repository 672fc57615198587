/-
  Rows of structs: read, owned, appended to.
  Layer 7, the program's side: what comes of a rule's steps.
-/
import Derived.Test.YtgkniocjlkfhmaaDoorRMc
import Derived.Maps.AppendAt
import Derived.Laws.OwnMore
import Derived.Deep.RegionHeldLaw
import Derived.Deep.AppendLies
import Derived.Deep.RegionWith
import Derived.Deep.RegionHeld3
import Derived.Test.YtgkniocjlkfhmaaDoorSVj
import Derived.Laws.EntriesVeiled
import Derived.Laws.Rows
namespace Go.Proofs.YtgkniocjlkfhmaaDoor.R
open Go Go.RowKit Go.Proofs.YtgkniocjlkfhmaaDoor.B Go.Proofs.YtgkniocjlkfhmaaDoor.K Go.Proofs.YtgkniocjlkfhmaaDoor.E
set_option linter.unusedVariables false

theorem SlOf.rows {X : Type} {w : World} {k : Nat} {Q : List Value → X → Prop} {a : Option Addr} {n cap : Nat} {xs : List X} (h : SlOf w k Q (.slice a n cap) xs) (hn : xs.length = n) :
    ∃ rows : List (List Value), rows.length = n ∧ (∀ r ∈ rows, r.length = k) ∧ (∀ (j : Nat) x cs, xs[j]? = some x → rows[j]? = some cs → cs.length = k ∧ Q cs x) ∧
      ∀ (j : Nat) cs, rows[j]? = some cs → ∃ b off, a = some ⟨b, off, none⟩ ∧ ∀ i c, cs[i]? = some c → w.cell? ⟨b, off + j * k + i, none⟩ = some c := by
  obtain ⟨C, hC⟩ := Go.Deep.choose_lt (α := List Value) (n := n) (p := fun j cs => ∀ x, xs[j]? = some x → cs.length = k ∧ Q cs x ∧ ∃ b off, a = some ⟨b, off, none⟩ ∧ ∀ i c, cs[i]? = some c → w.cell? ⟨b, off + j * k + i, none⟩ = some c) (fun j hj => by
    obtain ⟨x, hx⟩ : ∃ x, xs[j]? = some x := ⟨_, List.getElem?_eq_getElem (by omega)⟩
    obtain ⟨b, off, ha, cs, h1, h2, h3⟩ := h.at hx
    exact ⟨cs, fun y hy => by rw [hx] at hy; cases hy; exact ⟨h1, h2, b, off, ha, h3⟩⟩)
  have hat : ∀ (j : Nat) cs, ((List.range n).map C)[j]? = some cs → j < n ∧ cs = C j := by
    intro j cs hj
    rw [List.getElem?_map] at hj
    obtain ⟨i, hi, e⟩ := Option.map_eq_some_iff.1 hj
    have := (List.getElem?_eq_some_iff.1 hi).1
    rw [List.length_range] at this
    rw [List.getElem?_range this] at hi
    cases hi
    exact ⟨this, e.symm⟩
  refine ⟨(List.range n).map C, by simp, ?_, ?_, ?_⟩
  · intro r hr
    obtain ⟨j, hj⟩ := List.getElem?_of_mem hr
    obtain ⟨h1, h2⟩ := hat j r hj
    rw [h2]
    exact (hC j h1 _ (List.getElem?_eq_getElem (by omega))).1
  · intro j x cs hx hcs
    obtain ⟨h1, h2⟩ := hat j cs hcs
    rw [h2]
    have := hC j h1 x hx
    exact ⟨this.1, this.2.1⟩
  · intro j cs hcs
    obtain ⟨h1, h2⟩ := hat j cs hcs
    rw [h2]
    exact (hC j h1 _ (List.getElem?_eq_getElem (by omega))).2.2

/-- A row of one's own, of structs. -/
theorem slof_own {X : Type} {w : World} {base : Nat} {e : TypeId} {k n : Nat} {v : Value} {rows : List (List Value)} {xs : List X} {Q : List Value → X → Prop} (h : w.ownsRow base e k v n rows.flatten) (h1 : rows.length = xs.length) (hn : xs.length = n)
    (hl : ∀ r ∈ rows, r.length = k) (h2 : ∀ (j : Nat) x cs, xs[j]? = some x → rows[j]? = some cs → cs.length = k ∧ Q cs x) : SlOf w k Q v xs := by
  subst hn
  rcases h.2 with ⟨rfl, h0⟩ | ⟨g, cap, cur, rfl, _, hg, _, _, _, ht⟩
  · have : xs = [] := List.eq_nil_of_length_eq_zero h0
    rw [this]; exact SlOf.nil w k Q
  · refine ⟨_, cap, rfl, fun j x hj => ?_⟩
    have hjx := (List.getElem?_eq_some_iff.1 hj).1
    obtain ⟨cs, hcs⟩ : ∃ cs, rows[j]? = some cs := ⟨_, List.getElem?_eq_getElem (by omega)⟩
    obtain ⟨e1, e2⟩ := h2 j x cs hj hcs
    refine ⟨g, 0, rfl, cs, e1, e2, fun i c hi => ?_⟩
    have hik : i < k := by rw [← e1]; exact (List.getElem?_eq_some_iff.1 hi).1
    have hfl := flatten_at k rows hl j cs hcs i hik
    rw [hi] at hfl
    rw [← ht, List.getElem?_take] at hfl
    split at hfl
    · unfold World.cell?
      rw [hg]
      show cur[0 + j * k + i]? = some c
      rw [Nat.zero_add, ← Array.getElem?_toList]; exact hfl
    · cases hfl

theorem flatten_take {X : Type} (k : Nat) : ∀ (rows : List (List X)) (n : Nat), (∀ r ∈ rows, r.length = k) → n ≤ rows.length → (rows.take n).flatten.length = n * k
  | _, 0, _, _ => by simp
  | [], n + 1, _, h => by simp at h
  | r :: rows, n + 1, hl, h => by
    rw [List.take_succ_cons, List.flatten_cons, List.length_append, hl r List.mem_cons_self, flatten_take k rows n (fun x hx => hl x (List.mem_cons_of_mem _ hx)) (by simpa using h), Nat.add_mul]; omega

theorem rl_one {w : World} {cs : List Value} {r : Rl} (h : RlIs w cs r) : ∀ u ∈ cs, u.oneCell' = true := by
  obtain ⟨f, g, s, rfl, hf, hg, hs⟩ := h
  obtain ⟨_, _, rfl⟩ := sl_len hf
  obtain ⟨_, _, rfl, _⟩ := hg.open
  obtain ⟨_, _, rfl, _⟩ := hs.open
  intro u hu
  simp only [List.mem_cons, List.not_mem_nil, or_false] at hu
  rcases hu with rfl | rfl | rfl | rfl | rfl <;> rfl

section
variable {P : Program} {w : World}

theorem run_append_none_cap (base : Nat) (t ty e : TypeId) (i : TypeInfo) (size : Nat) (ht : P.underlying t = some (.slice e)) (hi : P.info? e = some i)
    (v : Value) (n c : Nat) (xs : List Value) (hown : w.ownsRow base e size v n xs) :
    (Builtin.append_ #[t, t] ty #[v, .slice none 0 c]).run P w = .ok v w := by
  rcases hown.2 with ⟨rfl, rfl⟩ | ⟨g, cap, cur, rfl, _, _, hnc, _⟩
  · simp [Builtin.append_, run_underlying ht, sizeOf, typeInfo, hi, Builtin.lenOf, Builtin.firstCells]
  · simp [Builtin.append_, run_underlying ht, sizeOf, typeInfo, hi, Builtin.lenOf, Builtin.firstCells, hnc, storeCells]

/-- An append of what may be nil onto a row of the call's own, as one step of a region that draws. -/
theorem step_append_all {ops : Array Oper} {o : Oper} {a : Act} {K : Act → World → Prop} {Q : Exit → Act → World → Prop} {E : Prop} (hgd : o.guard = none) (s x : Operand) (t : TypeId)
    (ho : o.op = .call { callee := .builtin .append, args := #[s, x], argTypes := #[t, t] })
    (base : Nat) (e : TypeId) (i : TypeInfo) (z : Value) (size bytes : Nat) (ht : P.underlying t = some (.slice e)) (hi : P.info? e = some i) (hz : i.zero = some z)
    (hsize : i.size = size) (hby : i.bytes = bytes) (hzs : z.cells.size = size) (hsz : 0 < size)
    (v : Value) (n : Nat) (xs : List Value) (hs : a.eval s = v) (hown : w.ownsRow base e size v n xs)
    (ao : Option Addr) (m c : Nat) (news : List Value) (hx : a.eval x = .slice ao m c) (hl : news.length = m * size) (hnone : ao = none → m = 0) (hnews : ∀ ad, ao = some ad → ∀ j u, news[j]? = some u → w.cell? (ad.add j) = some u) (h1 : ∀ u ∈ news, u.oneCell' = true)
    (h63 : n + m ≤ maxLen) (hbytes : (n + m) * bytes ≤ 140737488355328) (hbase : base ≤ w.heap.size)
    (h : ∀ v' w', w'.ownsRow base e size v' (n + m) (xs ++ news) → w.grownBy w' v.ownBlock → (v'.ownBlock = v.ownBlock ∨ v'.ownBlock = some w.heap.size) → K (a.put o.dst v') w') :
    if Region.wanted o (yielded ops a.tmps) = true then Oper.wp P o a w K Q else E := by
  have hw : Region.wanted o (yielded ops a.tmps) = true := by simp [Region.wanted, hgd]
  rw [if_pos hw]
  cases ao with
  | some ad =>
    obtain ⟨v', w', hr, h2, h3, _, h5⟩ := run_append_own_at (P := P) w base t o.type e i z size bytes ht hi hz hsize hby hzs hsz v n xs hown ad m c news hl (hnews ad rfl) h1 h63 hbytes hbase
    unfold Oper.wp execOp
    simp only [ho, resolve, invoke, builtin, Sem.run_bind, Sem.run_pure, Result.andThen_ok, List.map_toArray, List.map_cons, List.map_nil, hs, hx, hr]
    exact h v' w' h2 h3 h5
  | none =>
    obtain rfl := hnone rfl
    have hn : news = [] := List.eq_nil_of_length_eq_zero (by simpa using hl)
    subst hn
    have hr := run_append_none_cap (P := P) base t o.type e i size ht hi v n c xs hown
    unfold Oper.wp execOp
    simp only [ho, resolve, invoke, builtin, Sem.run_bind, Sem.run_pure, Result.andThen_ok, List.map_toArray, List.map_cons, List.map_nil, hs, hx, hr]
    exact h v w (by simpa using hown) (World.grownBy.refl _ _) (Or.inl rfl)
end

theorem cell_other5 {w : World} {g b j k : Nat} {u : Value} (h : w.cell? ⟨b, j, none⟩ = some u) (x : Value) (hne : b ≠ g) : (w.setCell ⟨g, k, none⟩ x).cell? ⟨b, j, none⟩ = some u := by
  rw [World.cell?_setCell_other w ⟨g, k, none⟩ ⟨b, j, none⟩ _ (by intro e; injection e; omega)]; exact h

theorem own_empty5 (W : World) (base : Nat) (e : TypeId) (s : Nat) (h : base ≤ W.heap.size) : (W.alloc (.cells #[] e)).ownsRow base e s (.slice (some ⟨W.heap.size, 0, none⟩) 0 0) 0 [] :=
  ⟨by simp, Or.inr ⟨W.heap.size, 0, #[], rfl, h, heap_alloc_at _ _, Nat.le_refl _, Nat.zero_le _, by simp, by simp⟩⟩

theorem own_shape5 {w : World} {base : Nat} {e : TypeId} {s : Nat} {v : Value} {n : Nat} {xs : List Value} (h : w.ownsRow base e s v n xs) : ∃ a cap, v = .slice a n cap := by
  rcases h.2 with ⟨rfl, rfl⟩ | ⟨g, cap, cur, rfl, _⟩
  · exact ⟨none, 0, rfl⟩
  · exact ⟨_, cap, rfl⟩

theorem own_set5 {w : World} {base g j : Nat} {e : TypeId} {s : Nat} {v x : Value} {n : Nat} {xs : List Value} (h : w.ownsRow base e s v n xs) (hg : g < base) : (w.setCell ⟨g, j, none⟩ x).ownsRow base e s v n xs := by
  refine ⟨h.1, ?_⟩
  rcases h.2 with h0 | ⟨k, cap, cur, h1, h2, h3, h4⟩
  · exact Or.inl h0
  · exact Or.inr ⟨k, cap, cur, h1, h2, by rw [heap_setCell_other _ ⟨g, j, none⟩ _ _ (by show k ≠ g; omega)]; exact h3, h4⟩

theorem flat_cell (w : World) (b k : Nat) : ∀ (rows : List (List Value)) (off : Nat), (∀ r ∈ rows, r.length = k) → (∀ (q : Nat) cs, rows[q]? = some cs → ∀ (i : Nat) c, cs[i]? = some c → w.cell? ⟨b, off + q * k + i, none⟩ = some c) →
    ∀ (j : Nat) u, rows.flatten[j]? = some u → w.cell? ⟨b, off + j, none⟩ = some u
  | [], _, _, _, j, u, h => by simp at h
  | r :: rows, off, hl, hc, j, u, h => by
    have hr := hl r List.mem_cons_self
    rw [List.flatten_cons] at h
    by_cases hj : j < k
    · rw [List.getElem?_append_left (by omega)] at h
      have := hc 0 r rfl j u h
      rw [Nat.zero_mul, Nat.add_zero] at this
      exact this
    · rw [List.getElem?_append_right (by omega), hr] at h
      have := flat_cell w b k rows (off + k) (fun x hx => hl x (List.mem_cons_of_mem _ hx)) (fun q cs hq i c hi => by
        have := hc (q + 1) cs (by simpa using hq) i c hi
        rw [Nat.add_mul] at this
        rw [show off + k + q * k + i = off + (q * k + 1 * k) + i by omega]
        exact this) (j - k) u h
      rw [show off + k + (j - k) = off + j by omega] at this
      exact this

end Go.Proofs.YtgkniocjlkfhmaaDoor.R

namespace Go.Proofs.YtgkniocjlkfhmaaDoor.D
open Go Go.RowKit Go.Proofs.YtgkniocjlkfhmaaDoor.B Go.Proofs.YtgkniocjlkfhmaaDoor.K Go.Proofs.YtgkniocjlkfhmaaDoor.E Go.Proofs.YtgkniocjlkfhmaaDoor.R
set_option linter.unusedVariables false
set_option maxRecDepth 100000

theorem stepsDo_at (ar : List Int) (l : List Sp) (K : Nat) (p : Sp) (pos : Int) (vs : List Int) (h : l[K]? = some p) : stepsDo ar (l.drop K) pos vs = match setsDo vs ar p.sets vs with
    | none => none
    | some now => match stepsDo ar (l.drop (K + 1)) (goTo p pos) now with
      | none => none
      | some r => some (⟨goTo p pos, now⟩ :: r) := by
  obtain ⟨hk, e⟩ := List.getElem?_eq_some_iff.1 h
  rw [List.drop_eq_getElem_cons hk, e]; rfl

/-- What is done to a step's way. -/
def fSet : Value := .func (.func 31) #[] #[]
def fMove : Value := .func (.func 32) #[] #[]
theorem ent_set : Ent 31 := fun args w => enters_of Tryd.func31 (by kernel_rfl) rfl args w
theorem ent_move : Ent 32 := fun args w => enters_of Tryd.func32 (by kernel_rfl) rfl args w

/-- Where a stream stands ahead of a rule's steps. -/
def WayMid (w : World) (pos : Int) (n : Nat) (vs : List Int) (av : Value) (gd : Nat) (s9 : Value) (wx : World) : Prop :=
  ∃ g k, s9 = .pointer (some ⟨g, 0, none⟩) ∧ WayAt wx g pos k n av ∧ NumsAt wx k vs ∧ g ≠ k ∧ gd < g ∧ gd < k ∧ Below w.heap.size w wx ∧ wx.cell? ⟨gd, 0, none⟩ = some fSet ∧ wx.cell? ⟨gd, 1, none⟩ = some fMove

theorem heap_alloc_lt (w : World) (o : Obj) : w.heap.size < (w.alloc o).heap.size := (Array.getElem?_eq_some_iff.1 (heap_alloc_at w o)).1
theorem zero_cells {w : World} {g : Nat} {a b c : Value} {T : TypeId} (h : w.heap[g]? = some (.cells #[a, b, c] T (0, 0))) : (w.cell? ⟨g, 0, none⟩ = some a ∧ w.frozen? ⟨g, 0, none⟩ = false) ∧ (w.cell? ⟨g, 1, none⟩ = some b ∧ w.frozen? ⟨g, 1, none⟩ = false) ∧ (w.cell? ⟨g, 2, none⟩ = some c ∧ w.frozen? ⟨g, 2, none⟩ = false) := by
  refine ⟨⟨?_, ?_⟩, ⟨?_, ?_⟩, ⟨?_, ?_⟩⟩ <;> simp [World.cell?, World.frozen?, h]

theorem zero_kept {W2 W w3 : World} {T : TypeId} {cs : Array Value} (h : W = W2.drew.alloc (.cells cs T) ∨ W = (W2.alloc (.cells cs T)).drew) (hb : Below W.heap.size W w3) :
    w3.heap[W2.heap.size]? = some (.cells cs T (0, 0)) ∧ Below W2.heap.size W2 w3 ∧ W2.heap.size < W.heap.size := by
  rcases h with rfl | rfl
  · have h1 : Below W2.heap.size W2 (W2.drew.alloc (.cells cs T)) := ((Below.refl W2.heap.size W2).drew).alloc (Nat.le_refl _) _
    have hlt : W2.heap.size < (W2.drew.alloc (.cells cs T)).heap.size := heap_alloc_lt W2.drew _
    exact ⟨(hb.block _ hlt).trans (heap_alloc_at W2.drew _), h1.trans (hb.mono h1.size), hlt⟩
  · have h1 : Below W2.heap.size W2 (W2.alloc (.cells cs T)).drew := ((Below.refl W2.heap.size W2).alloc (Nat.le_refl _) _).drew
    have hlt : W2.heap.size < (W2.alloc (.cells cs T)).drew.heap.size := heap_alloc_lt W2 _
    exact ⟨(hb.block _ hlt).trans (heap_alloc_at W2 _), h1.trans (hb.mono h1.size), hlt⟩

/-- Two cells, new. -/
theorem new_two (w : World) (a b : Value) (e : TypeId) : ∀ (j : Nat) (u : Value), [a, b][j]? = some u → (w.alloc (.cells #[a, b] e)).cell? ((⟨w.heap.size, 0, none⟩ : Addr).add j) = some u := by
  intro j u hj
  match j, hj with
  | 0, hj => cases hj; exact box_cell _ _ _ _ _ rfl
  | 1, hj => cases hj; exact box_cell _ _ _ _ _ rfl
  | j + 2, hj => simp at hj

theorem mid_a {w W2 w3 : World} {p : Int} {n k gd : Nat} {vs : List Int} {av : Value} (hB : Below w.heap.size w W2) (h3 : Below W2.heap.size W2 w3) (hN : NumsAt w3 k vs) (hK : W2.heap.size ≤ k) (hg : gd < W2.heap.size) (hd : W2.cell? ⟨gd, 0, none⟩ = some fSet ∧ W2.cell? ⟨gd, 1, none⟩ = some fMove) :
    WayMid w p n vs av gd (.pointer (some ⟨w3.heap.size, 0, none⟩)) (w3.alloc (.cells #[.int .i64 p, .slice (some ⟨k, 0, none⟩) n n, av] 80)) := by
  have hb := below_alloc w3 (.cells #[.int .i64 p, .slice (some ⟨k, 0, none⟩) n n, av] 80)
  have hlt := hN.lt
  have hs := h3.size
  exact ⟨w3.heap.size, k, rfl, heap_alloc_at _ _, hN.below hb, by omega, by omega, by omega, (hB.trans (h3.mono hB.size)).trans (hb.mono (Nat.le_trans hB.size hs)), kept_cell hb (kept_cell h3 hd.1), kept_cell hb (kept_cell h3 hd.2)⟩

theorem mid_b {w W2 w3 : World} {p : Int} {n k gd gz : Nat} {vs : List Int} {av a b c : Value} (hB : Below w.heap.size w W2) (h3 : Below W2.heap.size W2 w3) (hN : NumsAt w3 k vs) (hK : W2.heap.size < k) (hgz : W2.heap.size = gz) (hz : w3.heap[gz]? = some (.cells #[a, b, c] 80 (0, 0))) (hg : gd < W2.heap.size) (hd : W2.cell? ⟨gd, 0, none⟩ = some fSet ∧ W2.cell? ⟨gd, 1, none⟩ = some fMove) :
    WayMid w p n vs av gd (.pointer (some ⟨gz, 0, none⟩)) (((w3.setCell ⟨gz, 0, none⟩ (.int .i64 p)).setCell ⟨gz, 1, none⟩ (.slice (some ⟨k, 0, none⟩) n n)).setCell ⟨gz, 2, none⟩ av) := by
  have hs := hB.size
  have hother : ∀ i, i ≠ gz → (((w3.setCell ⟨gz, 0, none⟩ (.int .i64 p)).setCell ⟨gz, 1, none⟩ (.slice (some ⟨k, 0, none⟩) n n)).setCell ⟨gz, 2, none⟩ av).heap[i]? = w3.heap[i]? := fun i hi => heap_set3 hi _ _ _
  have hcell : ∀ o u, w3.cell? ⟨gd, o, none⟩ = some u → (((w3.setCell ⟨gz, 0, none⟩ (.int .i64 p)).setCell ⟨gz, 1, none⟩ (.slice (some ⟨k, 0, none⟩) n n)).setCell ⟨gz, 2, none⟩ av).cell? ⟨gd, o, none⟩ = some u := by
    intro o u h
    unfold World.cell? at h ⊢
    rw [hother gd (by omega)]; exact h
  refine ⟨gz, k, rfl, ?_, ?_, by omega, by omega, by omega, below_set3 (hB.trans (h3.mono hB.size)) (by omega) _ _ _, hcell _ _ (kept_cell h3 hd.1), hcell _ _ (kept_cell h3 hd.2)⟩
  · exact heap_setCell_same _ gz 2 _ _ _ (heap_setCell_same _ gz 1 _ _ _ (heap_setCell_same _ gz 0 _ _ _ hz))
  · unfold NumsAt; rw [hother k (by omega)]; exact hN

/-- The cells of events whose variables lie in blocks of their own. -/
def evRows (n : Nat) (L : List (Ev × Nat)) : List (List Value) := L.map fun x => [.int .i64 x.1.pos, .slice (some ⟨x.2, 0, none⟩) n n]

/-- Where the walk through the steps stands. -/
structure Sw (w : World) (g k n gd M : Nat) (av : Value) (L : List (Ev × Nat)) (lv : Value) (pos : Int) (now : List Int) (wr : World) : Prop where
  bel : Below w.heap.size w wr
  way : WayAt wr g pos k n av
  nums : NumsAt wr k now
  len : now.length = n
  d0 : wr.cell? ⟨gd, 0, none⟩ = some fSet
  d1 : wr.cell? ⟨gd, 1, none⟩ = some fMove
  own : wr.ownsRow M 31 2 lv L.length (evRows n L).flatten
  evs : ∀ x ∈ L, x.1.vars.length = n ∧ NumsAt wr x.2 x.1.vars ∧ M ≤ x.2 ∧ lv.ownBlock ≠ some x.2

theorem own_tch {w w' : World} {B M : Nat} {e : TypeId} {z n : Nat} {v : Value} {xs : List Value} (h : w.ownsRow M e z v n xs) (hb : Tch B w w') (hl : B < M) : w'.ownsRow M e z v n xs := by
  refine ⟨h.1, ?_⟩
  rcases h.2 with h0 | ⟨q, cap, cur, h1, h2, h3, h4⟩
  · exact Or.inl h0
  · exact Or.inr ⟨q, cap, cur, h1, h2, hb.heap h3 (by omega), h4⟩

section
variable {w wr wr' : World} {g k n gd M : Nat} {av lv : Value} {L : List (Ev × Nat)} {pos : Int} {now : List Int}
theorem Sw.call (h : Sw w g k n gd M av L lv pos now wr) (hb : Below wr.heap.size wr wr') : Sw w g k n gd M av L lv pos now wr' :=
  ⟨h.bel.trans (hb.mono h.bel.size), h.way.below hb, h.nums.below hb, h.len, kept_cell hb h.d0, kept_cell hb h.d1, own_kept h.own hb, fun x hx => ⟨(h.evs x hx).1, (h.evs x hx).2.1.below hb, (h.evs x hx).2.2⟩⟩
theorem Sw.turnk (h : Sw w g k n gd M av L lv pos now wr) (hb : Tch k wr wr') {now' : List Int} (hn : NumsAt wr' k now') (hl : now'.length = n) (h1 : w.heap.size ≤ k) (h2 : g ≠ k) (h3 : gd < k) (h4 : k < M) : Sw w g k n gd M av L lv pos now' wr' :=
  ⟨hb.below h.bel h.bel.size h1, h.way.tch hb h2, hn, hl, hb.cell h.d0 (by omega), hb.cell h.d1 (by omega), own_tch h.own hb h4, fun x hx => ⟨(h.evs x hx).1, (h.evs x hx).2.1.tch hb (by have := (h.evs x hx).2.2.1; omega), (h.evs x hx).2.2⟩⟩
theorem Sw.turng (h : Sw w g k n gd M av L lv pos now wr) (hb : Tch g wr wr') {pos' : Int} (hn : WayAt wr' g pos' k n av) (h1 : w.heap.size ≤ g) (h2 : g ≠ k) (h3 : gd < g) (h4 : g < M) : Sw w g k n gd M av L lv pos' now wr' :=
  ⟨hb.below h.bel h.bel.size h1, hn, h.nums.tch hb (Ne.symm h2), h.len, hb.cell h.d0 (by omega), hb.cell h.d1 (by omega), own_tch h.own hb h4, fun x hx => ⟨(h.evs x hx).1, (h.evs x hx).2.1.tch hb (by have := (h.evs x hx).2.2.1; omega), (h.evs x hx).2.2⟩⟩

/-- One event more: its variables lie in block q; the list's block may have turned, or is a new one. -/
theorem Sw.push (h : Sw w g k n gd M av L lv pos now wr) {q b cap H : Nat} {e : Ev} (he : e.vars.length = n) (hq : NumsAt wr q e.vars) (hM : M ≤ q) (hlq : lv.ownBlock ≠ some q) (hqH : q < H) (hH : wr.heap.size = H) {u : List Value} (hu : u = [.int .i64 e.pos, .slice (some ⟨q, 0, none⟩) n n]) (ho : wr'.ownsRow M 31 2 (.slice (some ⟨b, 0, none⟩) (L.length + 1) cap) (L.length + 1) ((evRows n L).flatten ++ u)) (hgr : wr.grownBy wr' lv.ownBlock) (hbk : lv.ownBlock = some b ∨ b = H)
    (hMw : M ≤ wr.heap.size) (hk : k < M) (hg : g < M) (hgd : gd < M) (hwM : w.heap.size ≤ M) : Sw w g k n gd M av (L ++ [(e, q)]) (.slice (some ⟨b, 0, none⟩) (L.length + 1) cap) pos now wr' := by
  have hown : ∀ j, lv.ownBlock = some j → M ≤ j := by
    intro j hj
    rcases h.own.2 with ⟨e1, _⟩ | ⟨q', cap', cur, e1, h2, _⟩
    · rw [e1] at hj; cases hj
    · rw [e1] at hj; cases hj; exact h2
  have hheap : ∀ (i : Nat) (o : Obj), wr.heap[i]? = some o → (∀ j, lv.ownBlock = some j → i ≠ j) → wr'.heap[i]? = some o := fun i o hi hne =>
    (hgr.block i (Array.getElem?_eq_some_iff.1 hi).1 (fun e => hne i e.symm rfl)).trans hi
  have hcell : ∀ o u, wr.cell? ⟨gd, o, none⟩ = some u → wr'.cell? ⟨gd, o, none⟩ = some u := fun o u hc => World.grownBy.cell hgr hc (fun e => by have := hown gd e.symm; omega)
  refine ⟨h.bel.grown hgr h.bel.size (fun j hj => Nat.le_trans hwM (hown j hj)), hheap _ _ h.way (fun j hj => by have := hown j hj; omega), hheap _ _ h.nums (fun j hj => by have := hown j hj; omega), h.len, hcell _ _ h.d0, hcell _ _ h.d1, ?_, ?_⟩
  · rw [List.length_append, List.length_singleton]
    have e1 : (evRows n (L ++ [(e, q)])).flatten = (evRows n L).flatten ++ u := by
      unfold evRows; rw [List.map_append, List.flatten_append, hu]; simp
    rw [e1]; exact ho
  · intro x hx
    rcases List.mem_append.1 hx with hx | hx
    · obtain ⟨x1, x2, x3, x4⟩ := h.evs x hx
      refine ⟨x1, hheap _ _ x2 (fun j hj e => x4 (by rw [hj, e])), x3, ?_⟩
      intro e1
      have e2 : b = x.2 := by cases e1; rfl
      rcases hbk with h1 | h1
      · exact x4 (by rw [h1, e2])
      · have := x2.lt; omega
    · rw [List.mem_singleton] at hx
      subst hx
      refine ⟨he, hheap _ _ hq (fun j hj e => hlq (hj.trans (congrArg some e.symm))), hM, ?_⟩
      intro e1
      have e2 : b = q := by cases e1; rfl
      rcases hbk with h1 | h1
      · exact hlq (by rw [h1, e2])
      · omega

theorem evRows_at (n : Nat) (L : List (Ev × Nat)) (j : Nat) (cs : List Value) (h : (evRows n L)[j]? = some cs) : ∃ x, L[j]? = some x ∧ cs = [.int .i64 x.1.pos, .slice (some ⟨x.2, 0, none⟩) n n] := by
  unfold evRows at h
  rw [List.getElem?_map] at h
  obtain ⟨x, hx, e⟩ := Option.map_eq_some_iff.1 h
  exact ⟨x, hx, e.symm⟩

/-- What reads as events, and does so wherever the blocks stand that were new. -/
def EvNew (w w' : World) (v : Value) (l : List Ev) : Prop := EvsIs w' v l ∧ ∀ W : World, (∀ (k : Nat) (o : Obj), w.heap.size ≤ k → w'.heap[k]? = some o → W.heap[k]? = some o) → EvsIs W v l
theorem EvNew.nil (w w' : World) : EvNew w w' (.slice none 0 0) [] := ⟨SlOf.nil w' 2 _, fun W _ => SlOf.nil W 2 _⟩
theorem EvNew.mono {w a b : World} {v : Value} {l : List Ev} (h : EvNew a b v l) (hle : w.heap.size ≤ a.heap.size) : EvNew w b v l := ⟨h.1, fun W hW => h.2 W fun k o hk ho => hW k o (Nat.le_trans hle hk) ho⟩

/-- What was pushed reads as events. -/
theorem Sw.read (h : Sw w g k n gd M av L lv pos now wr) : EvsIs wr lv (L.map (·.1)) := by
  refine slof_own h.own (by unfold evRows; simp) (by simp) ?_ ?_
  · intro r hr
    obtain ⟨x, _, rfl⟩ := List.mem_map.1 hr
    rfl
  · intro j e cs he hcs
    obtain ⟨x, hx, rfl⟩ := evRows_at n L j cs hcs
    rw [List.getElem?_map, hx] at he
    cases he
    obtain ⟨x1, x2, _⟩ := h.evs x (List.mem_of_getElem? hx)
    exact ⟨rfl, _, rfl, sln_ownN x2 x1 _⟩
theorem Sw.read_new (h : Sw w g k n gd M av L lv pos now wr) (hM : w.heap.size ≤ M) : EvNew w wr lv (L.map (·.1)) := by
  refine ⟨h.read, fun W hW => ?_⟩
  have ho : W.ownsRow M 31 2 lv L.length (evRows n L).flatten := by
    refine ⟨h.own.1, ?_⟩
    rcases h.own.2 with h0 | ⟨q, cap, cur, h1, h2, h3, h4⟩
    · exact Or.inl h0
    · exact Or.inr ⟨q, cap, cur, h1, h2, hW q _ (Nat.le_trans hM h2) h3, h4⟩
  refine slof_own ho (by unfold evRows; simp) (by simp) ?_ ?_
  · intro r hr
    obtain ⟨x, _, rfl⟩ := List.mem_map.1 hr
    rfl
  · intro j e cs he hcs
    obtain ⟨x, hx, rfl⟩ := evRows_at n L j cs hcs
    rw [List.getElem?_map, hx] at he
    cases he
    obtain ⟨x1, x2, x3, _⟩ := h.evs x (List.mem_of_getElem? hx)
    exact ⟨rfl, _, rfl, sln_ownN (show NumsAt W _ _ from hW _ _ (Nat.le_trans hM x3) x2) x1 _⟩
end
end Go.Proofs.YtgkniocjlkfhmaaDoor.D
