/-
  Layer 5: a table without one of its rules.
-/
import Derived.Test.YtfcdkjhabdpijaaDoorRMf
import Derived.Test.YtfcdkjhabdpijaaDoorRMg
import Derived.Deep.AppendLies
import Derived.Maps.AppendAt
import Derived.Laws.OwnMore
import Derived.Deep.RegionHeldLaw
namespace Go.Proofs.YtfcdkjhabdpijaaDoor.R
open Go Go.RowKit Go.Proofs.YtfcdkjhabdpijaaDoor.B Go.Proofs.YtfcdkjhabdpijaaDoor.K Go.Proofs.YtfcdkjhabdpijaaDoor.E
set_option linter.unusedVariables false

/-- A table without its rule k. -/
def lessT (t : Tb) (k : Nat) : Tb := ⟨t.states, t.vars, t.start, t.rules.take k ++ t.rules.drop (k + 1)⟩

theorem less_at {X : Type} (l : List X) (k j : Nat) (x : X) (hk : k < l.length) (h : (l.take k ++ l.drop (k + 1))[j]? = some x) : (j < k ∧ l[j]? = some x) ∨ (k ≤ j ∧ l[j + 1]? = some x) := by
  have hl : (l.take k).length = k := by rw [List.length_take]; omega
  by_cases hj : j < k
  · rw [List.getElem?_append_left (by omega), List.getElem?_take, if_pos hj] at h
    exact Or.inl ⟨hj, h⟩
  · rw [List.getElem?_append_right (by omega), hl, List.getElem?_drop, show k + 1 + (j - k) = j + 1 by omega] at h
    exact Or.inr ⟨by omega, h⟩

theorem less_mem {X : Type} {l : List X} {k : Nat} {x : X} (h : x ∈ l.take k ++ l.drop (k + 1)) : x ∈ l := by
  rcases List.mem_append.1 h with h | h
  · exact List.mem_of_mem_take h
  · exact List.mem_of_mem_drop h

theorem less_chk {t : Tb} {k : Nat} (hk : k < t.rules.length) (h : chk5 t = (0, 0, 0, 0)) : chk5 (lessT t k) = (0, 0, 0, 0) := by
  obtain ⟨ht, hr⟩ := (chk5_zero t).1 h
  refine (chk5_zero _).2 ⟨?_, ?_⟩
  · intro p hp
    simp only [tableParts, List.mem_cons, List.not_mem_nil, or_false] at hp
    rcases hp with rfl | rfl | rfl | rfl
    · exact ht _ (by simp [tableParts, lessT])
    · exact ht _ (by simp [tableParts, lessT])
    · exact ht ⟨3, unlessE (decide ((t.start.length : Int) = t.vars.length)) 2, t.start.length, startBad t.start⟩ (by simp [tableParts])
    · have h4 := ht ⟨4, countE t.rules.length 0 12, 0, fun _ => 0⟩ (by simp [tableParts])
      have h5 := countE_zero h4.1
      refine ⟨?_, fun j hj => absurd hj (Nat.not_lt_zero j)⟩
      show countE ((t.rules.take k ++ t.rules.drop (k + 1)).length : Int) 0 12 = 0
      have hl : (t.rules.take k ++ t.rules.drop (k + 1)).length ≤ t.rules.length := by
        rw [List.length_append, List.length_take, List.length_drop]; omega
      unfold countE
      rw [if_neg (by omega), if_neg (by omega)]
  · intro j r hj p hp
    have hall : ∃ i, t.rules[i]? = some r ∧ ∀ y : Rl, ((t.rules.take k ++ t.rules.drop (k + 1)).take j).any (fun x => x.name == y.name) = true → (t.rules.take i).any (fun x => x.name == y.name) = true := by
      rcases less_at t.rules k j r hk hj with ⟨h1, h2⟩ | ⟨h1, h2⟩
      · refine ⟨j, h2, fun y hy => ?_⟩
        obtain ⟨z, hz, hn⟩ := List.any_eq_true.1 hy
        obtain ⟨i, hi⟩ := List.getElem?_of_mem hz
        rw [List.getElem?_take] at hi
        split at hi
        · rename_i hij
          rcases less_at t.rules k i z hk hi with ⟨g1, g2⟩ | ⟨g1, g2⟩
          · exact List.any_eq_true.2 ⟨z, List.mem_of_getElem? (i := i) (by rw [List.getElem?_take, if_pos hij]; exact g2), hn⟩
          · omega
        · cases hi
      · refine ⟨j + 1, h2, fun y hy => ?_⟩
        obtain ⟨z, hz, hn⟩ := List.any_eq_true.1 hy
        obtain ⟨i, hi⟩ := List.getElem?_of_mem hz
        rw [List.getElem?_take] at hi
        split at hi
        · rename_i hij
          rcases less_at t.rules k i z hk hi with ⟨g1, g2⟩ | ⟨g1, g2⟩
          · exact List.any_eq_true.2 ⟨z, List.mem_of_getElem? (i := i) (by rw [List.getElem?_take, if_pos (by omega)]; exact g2), hn⟩
          · exact List.any_eq_true.2 ⟨z, List.mem_of_getElem? (i := i + 1) (by rw [List.getElem?_take, if_pos (by omega)]; exact g2), hn⟩
        · cases hi
    obtain ⟨i, hi, hany⟩ := hall
    simp only [ruleParts, List.mem_cons, List.not_mem_nil, or_false] at hp
    rcases hp with rfl | rfl | rfl | rfl | rfl
    · have h5 := hr i r hi ⟨5, nameE r.name ((t.rules.take i).any fun x => x.name == r.name), 0, fun _ => 0⟩ (by simp [ruleParts])
      obtain ⟨n1, n2⟩ := nameE_zero h5.1
      refine ⟨?_, fun j hj => absurd hj (Nat.not_lt_zero j)⟩
      show nameE r.name (((t.rules.take k ++ t.rules.drop (k + 1)).take j).any fun x => x.name == r.name) = 0
      cases hb : ((t.rules.take k ++ t.rules.drop (k + 1)).take j).any fun x => x.name == r.name with
      | true => rw [hany r hb] at n2; cases n2
      | false => unfold nameE; rw [n1, if_neg (by decide), if_neg (by decide)]
    · exact hr i r hi _ (by simp [ruleParts])
    · exact hr i r hi ⟨7, 0, r.from_.length, fromBad t.states.length r.from_⟩ (by simp [ruleParts])
    · exact hr i r hi ⟨8, countE r.guards.length 0 4, r.guards.length, guardBad t.vars.length r.args r.guards⟩ (by simp [ruleParts])
    · exact hr i r hi ⟨9, countE r.steps.length 1 3, r.steps.length, stepBad t.states.length t.vars.length r.args r.steps⟩ (by simp [ruleParts])

theorem less_reached {t : Tb} {k s : Nat} (h : Reached (lessT t k) s) : Reached t s := by
  induction h with
  | first => exact .first
  | go s r _ hm hf ih => exact .go s r ih (less_mem hm) hf

theorem less_wf {t : Tb} {k : Nat} (h : TbWf t) : TbWf (lessT t k) := by
  obtain ⟨h0, h1, h2, h3, h4⟩ := h
  refine ⟨h0, h1, h2, fun x hx => h3 x (less_mem hx), ?_⟩
  show (t.rules.take k ++ t.rules.drop (k + 1)).length ≤ _
  rw [List.length_append, List.length_take, List.length_drop]; omega

/-- A slice of structs, opened into its cells. -/
theorem SlOf.rows {X : Type} {w : World} {k : Nat} {Q : List Value → X → Prop} {a : Option Addr} {n cap : Nat} {xs : List X} (h : SlOf w k Q (.slice a n cap) xs) (hn : xs.length = n) :
    ∃ rows : List (List Value), rows.length = n ∧ (∀ r ∈ rows, r.length = k) ∧ (∀ (j : Nat) x cs, xs[j]? = some x → rows[j]? = some cs → cs.length = k ∧ Q cs x) ∧
      ∀ (j : Nat) cs, rows[j]? = some cs → ∃ b off, a = some ⟨b, off, none⟩ ∧ ∀ i c, cs[i]? = some c → w.cell? ⟨b, off + j * k + i, none⟩ = some c := by
  obtain ⟨C, hC⟩ := Go.Deep.choose_lt (α := List Value) (n := n) (p := fun j cs => ∀ x, xs[j]? = some x → cs.length = k ∧ Q cs x ∧ ∃ b off, a = some ⟨b, off, none⟩ ∧ ∀ i c, cs[i]? = some c → w.cell? ⟨b, off + j * k + i, none⟩ = some c) (fun j hj => by
    obtain ⟨x, hx⟩ : ∃ x, xs[j]? = some x := ⟨_, List.getElem?_eq_getElem (by omega)⟩
    obtain ⟨b, off, ha, cs, h1, h2, h3⟩ := h.at hx
    exact ⟨cs, fun y hy => by rw [hx] at hy; cases hy; exact ⟨h1, h2, b, off, ha, h3⟩⟩)
  have hat : ∀ (j : Nat) cs, ((List.range n).map C)[j]? = some cs → j < n ∧ cs = C j := by
    intro j cs hj
    rw [List.getElem?_map] at hj
    obtain ⟨i, hi, e⟩ := Option.map_eq_some_iff.1 hj
    have := (List.getElem?_eq_some_iff.1 hi).1
    rw [List.length_range] at this
    rw [List.getElem?_range this] at hi
    cases hi
    exact ⟨this, e.symm⟩
  refine ⟨(List.range n).map C, by simp, ?_, ?_, ?_⟩
  · intro r hr
    obtain ⟨j, hj⟩ := List.getElem?_of_mem hr
    obtain ⟨h1, h2⟩ := hat j r hj
    rw [h2]
    exact (hC j h1 _ (List.getElem?_eq_getElem (by omega))).1
  · intro j x cs hx hcs
    obtain ⟨h1, h2⟩ := hat j cs hcs
    rw [h2]
    have := hC j h1 x hx
    exact ⟨this.1, this.2.1⟩
  · intro j cs hcs
    obtain ⟨h1, h2⟩ := hat j cs hcs
    rw [h2]
    exact (hC j h1 _ (List.getElem?_eq_getElem (by omega))).2.2

/-- A row of one's own, of structs. -/
theorem slof_own {X : Type} {w : World} {base : Nat} {e : TypeId} {k n : Nat} {v : Value} {rows : List (List Value)} {xs : List X} {Q : List Value → X → Prop} (h : w.ownsRow base e k v n rows.flatten) (h1 : rows.length = xs.length) (hn : xs.length = n)
    (hl : ∀ r ∈ rows, r.length = k) (h2 : ∀ (j : Nat) x cs, xs[j]? = some x → rows[j]? = some cs → cs.length = k ∧ Q cs x) : SlOf w k Q v xs := by
  subst hn
  rcases h.2 with ⟨rfl, h0⟩ | ⟨g, cap, cur, rfl, _, hg, _, _, _, ht⟩
  · have : xs = [] := List.eq_nil_of_length_eq_zero h0
    rw [this]; exact SlOf.nil w k Q
  · refine ⟨_, cap, rfl, fun j x hj => ?_⟩
    have hjx := (List.getElem?_eq_some_iff.1 hj).1
    obtain ⟨cs, hcs⟩ : ∃ cs, rows[j]? = some cs := ⟨_, List.getElem?_eq_getElem (by omega)⟩
    obtain ⟨e1, e2⟩ := h2 j x cs hj hcs
    refine ⟨g, 0, rfl, cs, e1, e2, fun i c hi => ?_⟩
    have hik : i < k := by rw [← e1]; exact (List.getElem?_eq_some_iff.1 hi).1
    have hfl := flatten_at k rows hl j cs hcs i hik
    rw [hi] at hfl
    rw [← ht, List.getElem?_take] at hfl
    split at hfl
    · unfold World.cell?
      rw [hg]
      show cur[0 + j * k + i]? = some c
      rw [Nat.zero_add, ← Array.getElem?_toList]; exact hfl
    · cases hfl

theorem flatten_take {X : Type} (k : Nat) : ∀ (rows : List (List X)) (n : Nat), (∀ r ∈ rows, r.length = k) → n ≤ rows.length → (rows.take n).flatten.length = n * k
  | _, 0, _, _ => by simp
  | [], n + 1, _, h => by simp at h
  | r :: rows, n + 1, hl, h => by
    rw [List.take_succ_cons, List.flatten_cons, List.length_append, hl r List.mem_cons_self, flatten_take k rows n (fun x hx => hl x (List.mem_cons_of_mem _ hx)) (by simpa using h), Nat.add_mul]; omega

theorem rl_one {w : World} {cs : List Value} {r : Rl} (h : RlIs w cs r) : ∀ u ∈ cs, u.oneCell' = true := by
  obtain ⟨f, g, s, rfl, hf, hg, hs⟩ := h
  obtain ⟨_, _, rfl⟩ := sl_len hf
  obtain ⟨_, _, rfl, _⟩ := hg.open
  obtain ⟨_, _, rfl, _⟩ := hs.open
  intro u hu
  simp only [List.mem_cons, List.not_mem_nil, or_false] at hu
  rcases hu with rfl | rfl | rfl | rfl | rfl <;> rfl

section
variable {P : Program} {w : World}

theorem run_append_none_cap (base : Nat) (t ty e : TypeId) (i : TypeInfo) (size : Nat) (ht : P.underlying t = some (.slice e)) (hi : P.info? e = some i)
    (v : Value) (n c : Nat) (xs : List Value) (hown : w.ownsRow base e size v n xs) :
    (Builtin.append_ #[t, t] ty #[v, .slice none 0 c]).run P w = .ok v w := by
  rcases hown.2 with ⟨rfl, rfl⟩ | ⟨g, cap, cur, rfl, _, _, hnc, _⟩
  · simp [Builtin.append_, run_underlying ht, sizeOf, typeInfo, hi, Builtin.lenOf, Builtin.firstCells]
  · simp [Builtin.append_, run_underlying ht, sizeOf, typeInfo, hi, Builtin.lenOf, Builtin.firstCells, hnc, storeCells]

/-- An append of what may be nil onto a row of the call's own, as one step of a region that draws. -/
theorem step_append_all {ops : Array Oper} {o : Oper} {a : Act} {K : Act → World → Prop} {Q : Exit → Act → World → Prop} {E : Prop} (hgd : o.guard = none) (s x : Operand) (t : TypeId)
    (ho : o.op = .call { callee := .builtin .append, args := #[s, x], argTypes := #[t, t] })
    (base : Nat) (e : TypeId) (i : TypeInfo) (z : Value) (size bytes : Nat) (ht : P.underlying t = some (.slice e)) (hi : P.info? e = some i) (hz : i.zero = some z)
    (hsize : i.size = size) (hby : i.bytes = bytes) (hzs : z.cells.size = size) (hsz : 0 < size)
    (v : Value) (n : Nat) (xs : List Value) (hs : a.eval s = v) (hown : w.ownsRow base e size v n xs)
    (ao : Option Addr) (m c : Nat) (news : List Value) (hx : a.eval x = .slice ao m c) (hl : news.length = m * size) (hnone : ao = none → m = 0) (hnews : ∀ ad, ao = some ad → ∀ j u, news[j]? = some u → w.cell? (ad.add j) = some u) (h1 : ∀ u ∈ news, u.oneCell' = true)
    (h63 : n + m ≤ maxLen) (hbytes : (n + m) * bytes ≤ 140737488355328) (hbase : base ≤ w.heap.size)
    (h : ∀ v' w', w'.ownsRow base e size v' (n + m) (xs ++ news) → w.grownBy w' v.ownBlock → (v'.ownBlock = v.ownBlock ∨ v'.ownBlock = some w.heap.size) → K (a.put o.dst v') w') :
    if Region.wanted o (yielded ops a.tmps) = true then Oper.wp P o a w K Q else E := by
  have hw : Region.wanted o (yielded ops a.tmps) = true := by simp [Region.wanted, hgd]
  rw [if_pos hw]
  cases ao with
  | some ad =>
    obtain ⟨v', w', hr, h2, h3, _, h5⟩ := run_append_own_at (P := P) w base t o.type e i z size bytes ht hi hz hsize hby hzs hsz v n xs hown ad m c news hl (hnews ad rfl) h1 h63 hbytes hbase
    unfold Oper.wp execOp
    simp only [ho, resolve, invoke, builtin, Sem.run_bind, Sem.run_pure, Result.andThen_ok, List.map_toArray, List.map_cons, List.map_nil, hs, hx, hr]
    exact h v' w' h2 h3 h5
  | none =>
    obtain rfl := hnone rfl
    have hn : news = [] := List.eq_nil_of_length_eq_zero (by simpa using hl)
    subst hn
    have hr := run_append_none_cap (P := P) base t o.type e i size ht hi v n c xs hown
    unfold Oper.wp execOp
    simp only [ho, resolve, invoke, builtin, Sem.run_bind, Sem.run_pure, Result.andThen_ok, List.map_toArray, List.map_cons, List.map_nil, hs, hx, hr]
    exact h v w (by simpa using hown) (World.grownBy.refl _ _) (Or.inl rfl)
end

theorem cell_other5 {w : World} {g b j k : Nat} {u : Value} (h : w.cell? ⟨b, j, none⟩ = some u) (x : Value) (hne : b ≠ g) : (w.setCell ⟨g, k, none⟩ x).cell? ⟨b, j, none⟩ = some u := by
  rw [World.cell?_setCell_other w ⟨g, k, none⟩ ⟨b, j, none⟩ _ (by intro e; injection e; omega)]; exact h

theorem own_empty5 (W : World) (base : Nat) (e : TypeId) (s : Nat) (h : base ≤ W.heap.size) : (W.alloc (.cells #[] e)).ownsRow base e s (.slice (some ⟨W.heap.size, 0, none⟩) 0 0) 0 [] :=
  ⟨by simp, Or.inr ⟨W.heap.size, 0, #[], rfl, h, heap_alloc_at _ _, Nat.le_refl _, Nat.zero_le _, by simp, by simp⟩⟩

theorem own_shape5 {w : World} {base : Nat} {e : TypeId} {s : Nat} {v : Value} {n : Nat} {xs : List Value} (h : w.ownsRow base e s v n xs) : ∃ a cap, v = .slice a n cap := by
  rcases h.2 with ⟨rfl, rfl⟩ | ⟨g, cap, cur, rfl, _⟩
  · exact ⟨none, 0, rfl⟩
  · exact ⟨_, cap, rfl⟩

theorem own_set5 {w : World} {base g j : Nat} {e : TypeId} {s : Nat} {v x : Value} {n : Nat} {xs : List Value} (h : w.ownsRow base e s v n xs) (hg : g < base) : (w.setCell ⟨g, j, none⟩ x).ownsRow base e s v n xs := by
  refine ⟨h.1, ?_⟩
  rcases h.2 with h0 | ⟨k, cap, cur, h1, h2, h3, h4⟩
  · exact Or.inl h0
  · exact Or.inr ⟨k, cap, cur, h1, h2, by rw [heap_setCell_other _ ⟨g, j, none⟩ _ _ (by show k ≠ g; omega)]; exact h3, h4⟩

theorem flat_cell (w : World) (b k : Nat) : ∀ (rows : List (List Value)) (off : Nat), (∀ r ∈ rows, r.length = k) → (∀ (q : Nat) cs, rows[q]? = some cs → ∀ (i : Nat) c, cs[i]? = some c → w.cell? ⟨b, off + q * k + i, none⟩ = some c) →
    ∀ (j : Nat) u, rows.flatten[j]? = some u → w.cell? ⟨b, off + j, none⟩ = some u
  | [], _, _, _, j, u, h => by simp at h
  | r :: rows, off, hl, hc, j, u, h => by
    have hr := hl r List.mem_cons_self
    rw [List.flatten_cons] at h
    by_cases hj : j < k
    · rw [List.getElem?_append_left (by omega)] at h
      have := hc 0 r rfl j u h
      rw [Nat.zero_mul, Nat.add_zero] at this
      exact this
    · rw [List.getElem?_append_right (by omega), hr] at h
      have := flat_cell w b k rows (off + k) (fun x hx => hl x (List.mem_cons_of_mem _ hx)) (fun q cs hq i c hi => by
        have := hc (q + 1) cs (by simpa using hq) i c hi
        rw [Nat.add_mul] at this
        rw [show off + k + q * k + i = off + (q * k + 1 * k) + i by omega]
        exact this) (j - k) u h
      rw [show off + k + (j - k) = off + j by omega] at this
      exact this

theorem infoR : (Tryd.prog.info? 38).map (fun i => (i.zero, i.size, i.bytes)) = some (some (.agg #[.string ⟨#[]⟩, .int .i64 0, .slice none 0 0, .slice none 0 0, .slice none 0 0]), 5, 96) := by kernel_rfl

/-- 'rules[:k]'. -/
theorem cut_rules (W : World) (b off L F cap : Nat) (hF : F ≤ cap) :
    (Instr.sliceAt 24 (.slice (some ⟨b, off, none⟩) L cap) none (some (.int .i64 (F : Int))) none).run Tryd.prog W = .ok (.slice (some ⟨b, off, none⟩) F cap) W := by
  have he : Tryd.prog.underlying 24 = some (.slice (Tryd.prog.elem 24)) := by kernel_rfl
  have hs : (sizeOf (Tryd.prog.elem 24)).run Tryd.prog W = .ok 5 W := by kernel_rfl
  rw [run_sliceAt_slice W 24 _ _ _ _ he, run_slice_h W 24 _ _ _ he .i64 (F : Int) (by omega) (by omega), hs]
  simp only [Result.andThen, sliced, Int.toNat_natCast, Option.map, Go.WideShapes.add_plain, Nat.zero_mul, Nat.add_zero, Nat.sub_zero]
  split <;> rfl

/-- 'rules[k:]'. -/
theorem cut_rest (b off L F cap : Nat) (hF : F ≤ L) (hL : L ≤ cap) :
    ∃ o2, (L - F ≠ 0 → o2 = off + F * 5) ∧ ∀ W : World, (Instr.sliceAt 24 (.slice (some ⟨b, off, none⟩) L cap) (some (.int .i64 (F : Int))) none none).run Tryd.prog W = .ok (.slice (some ⟨b, o2, none⟩) (L - F) (cap - F)) W := by
  by_cases h : cap = F
  · refine ⟨off, fun h2 => by omega, fun W => ?_⟩
    have he : Tryd.prog.underlying 24 = some (.slice (Tryd.prog.elem 24)) := by kernel_rfl
    have hs : (sizeOf (Tryd.prog.elem 24)).run Tryd.prog W = .ok 5 W := by kernel_rfl
    rw [run_sliceAt_slice W 24 _ _ _ _ he, run_slice_l W 24 _ _ _ he .i64 (F : Int) (by omega) (by omega), hs]
    simp only [Result.andThen, sliced, Int.toNat_natCast]
    rw [if_pos (by omega)]
  · refine ⟨off + F * 5, fun _ => rfl, fun W => ?_⟩
    have he : Tryd.prog.underlying 24 = some (.slice (Tryd.prog.elem 24)) := by kernel_rfl
    have hs : (sizeOf (Tryd.prog.elem 24)).run Tryd.prog W = .ok 5 W := by kernel_rfl
    rw [run_sliceAt_slice W 24 _ _ _ _ he, run_slice_l W 24 _ _ _ he .i64 (F : Int) (by omega) (by omega), hs]
    simp only [Result.andThen, sliced, Int.toNat_natCast]
    rw [if_neg (by omega)]
    simp only [Option.map, Go.WideShapes.add_plain]
end Go.Proofs.YtfcdkjhabdpijaaDoor.R
