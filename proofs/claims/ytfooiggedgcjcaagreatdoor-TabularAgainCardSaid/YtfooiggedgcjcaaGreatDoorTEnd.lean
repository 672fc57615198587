/-
  Layer 6: a shown table is not long.
  Layer 6, plainly: P6.3: what was shown is read as it was.
-/
import Derived.Test.YtfooiggedgcjcaaGreatDoorTSf
import Derived.Test.YtfooiggedgcjcaaGreatDoorTRead
namespace Go.Proofs.YtfooiggedgcjcaaGreatDoor.T
open Go Go.RowKit Go.Proofs.YtfooiggedgcjcaaGreatDoor.B Go.Proofs.YtfooiggedgcjcaaGreatDoor.K Go.Proofs.YtfooiggedgcjcaaGreatDoor.E Go.Proofs.YtfooiggedgcjcaaGreatDoor.R
set_option linter.unusedVariables false
set_option maxRecDepth 100000

theorem flat_len {X : Type} (f : X → Bs) (B : Nat) : ∀ l : List X, (∀ x ∈ l, (f x).length ≤ B) → (l.flatMap f).length ≤ l.length * B
  | [], _ => by simp
  | x :: l, h => by
    have ih := flat_len f B l fun y hy => h y (List.mem_cons_of_mem _ hy)
    have h1 := h x List.mem_cons_self
    rw [List.flatMap_cons, List.length_append, List.length_cons, Nat.succ_mul]
    omega
theorem flat_len2 {X Y : Type} (f : X → List Y) (B : Nat) : ∀ l : List X, (∀ x ∈ l, (f x).length ≤ B) → (l.flatMap f).length ≤ l.length * B
  | [], _ => by simp
  | x :: l, h => by
    have ih := flat_len2 f B l fun y hy => h y (List.mem_cons_of_mem _ hy)
    have h1 := h x List.mem_cons_self
    rw [List.flatMap_cons, List.length_append, List.length_cons, Nat.succ_mul]
    omega

theorem table_len {t : Tb} (h : chk5 t = (0, 0, 0, 0)) : ∀ y ∈ tableLines t, y.length ≤ 300 := by
  have hFi := fine_of h
  have hM := may_of h
  have hS : ∀ y ∈ t.states, y.length ≤ 24 := fun y hy => I.name_length y (hM.sname y hy)
  have hV : ∀ y ∈ t.vars, y.length ≤ 24 := fun y hy => I.name_length y (hM.vname y hy)
  have hst : (starts t).length ≤ 6 ∧ ∀ y ∈ starts t, y.length ≤ 40 := by
    unfold starts
    refine ⟨by rw [List.length_map, List.length_zip]; have := hFi.vars; omega, fun y hy => ?_⟩
    obtain ⟨⟨a, b⟩, hab, rfl⟩ := List.mem_map.1 hy
    have h1 := hV a (List.of_mem_zip hab).1
    have h2 := hM.sval b (List.of_mem_zip hab).2
    have h3 := num_length b (by simp [isVal] at h2; omega)
    simp only [List.length_append, List.length_cons]
    omega
  have hj1 : (Lib.join t.states [32]).length ≤ 200 := by
    have := join_len [32] 24 t.states hS
    have h2 : t.states.length * (24 + [32].length) ≤ 8 * 25 := Nat.mul_le_mul hFi.states.2 (by decide)
    omega
  have hj2 : (Lib.join (wVars :: starts t) [32]).length ≤ 300 := by
    have := join_len [32] 40 (wVars :: starts t) (fun y hy => by rcases List.mem_cons.1 hy with rfl | hy; exact (by decide); exact hst.2 y hy)
    have h2 : (wVars :: starts t).length * (40 + [32].length) ≤ 7 * 41 := Nat.mul_le_mul (by simp; exact hst.1) (by decide)
    omega
  intro y hy
  unfold tableLines at hy
  simp only [List.mem_cons, List.not_mem_nil, or_false] at hy
  rcases hy with rfl | rfl
  · simp [wStates]; omega
  · exact hj2

theorem shown_len {t : Tb} (h : chk5 t = (0, 0, 0, 0)) : (shownT t).length ≤ 10000000 := by
  have hFi := fine_of h
  have hM := may_of h
  unfold shownT
  rw [lines_eq t hM.sne]
  have h1 := flat_len (fun l : Bs => l ++ [10]) 30001 (tableLines t ++ t.rules.flatMap (rlLines t)) (fun y hy => by
    rw [List.length_append, List.length_singleton]
    rcases List.mem_append.1 hy with hy | hy
    · have := table_len h y hy; omega
    · obtain ⟨q, hq, hy⟩ := List.mem_flatMap.1 hy
      have := line_len h hq y hy; omega)
  have h2 := flat_len2 (rlLines t) 8 t.rules (fun q hq => by
    rw [rl_len]
    have := (hFi.guards q hq).1
    have := (hFi.steps q hq).1
    omega)
  have h3 : t.rules.length * 8 ≤ 12 * 8 := Nat.mul_le_mul hFi.rules (by decide)
  have h4 : (tableLines t).length = 2 := rfl
  rw [List.length_append] at h1
  have h5 : ((tableLines t).length + (t.rules.flatMap (rlLines t)).length) * 30001 ≤ 98 * 30001 := Nat.mul_le_mul (by omega) (by decide)
  omega
end Go.Proofs.YtfooiggedgcjcaaGreatDoor.T

namespace Go.Proofs.YtfooiggedgcjcaaGreatDoor.T
open Go Go.Proofs.YtfooiggedgcjcaaGreatDoor.E Go.Proofs.YtfooiggedgcjcaaGreatDoor.R
set_option linter.unusedVariables false

/-- From here on it is as from there. -/
def Goes (ip : Ip) (ls : List Bs) (t : Tb) (ls' : List Bs) (t' : Tb) : Prop := ∀ n said, 2 ≤ said → ∃ n' said', 2 ≤ said' ∧ readL ip ls n t said = readL ip ls' n' t' said'
theorem Goes.refl (ip : Ip) (ls : List Bs) (t : Tb) : Goes ip ls t ls t := fun n said h => ⟨n, said, h, rfl⟩
theorem Goes.trans {ip : Ip} {a b c : List Bs} {t u v : Tb} (h : Goes ip a t b u) (g : Goes ip b u c v) : Goes ip a t c v := fun n said hs => by
  obtain ⟨n1, s1, h1, e1⟩ := h n said hs
  obtain ⟨n2, s2, h2, e2⟩ := g n1 s1 h1
  exact ⟨n2, s2, h2, e1.trans e2⟩

theorem readL_one {ip : Ip} {x : Bs} (hx : OkL x) (ls : List Bs) (n : Nat) (t u : Tb) (said : Nat) (h : line ip t said x = some (.ok u)) : readL ip (x :: ls) n t said = readL ip ls (n + 1) u (said + 1) := by
  have e : trim x = x := trim_self x hx.head hx.last
  rw [readL, e, if_neg hx.ne, h]
theorem Goes.one {ip : Ip} {x : Bs} (hx : OkL x) (ls : List Bs) {t u : Tb} (h : ∀ said, 2 ≤ said → line ip t said x = some (.ok u)) : Goes ip (x :: ls) t ls u :=
  fun n said hs => ⟨n + 1, said + 1, by omega, readL_one hx ls n t u said (h said hs)⟩

section
variable {t : Tb} (m : May t) {ip : Ip} (hip : ∀ c na, 0 ≤ na → na ≤ 4 → (check c t.vars.length na).2 = 0 → ip (I.showOf t.vars na c).1 t.vars na = some (c, 0))
include m

theorem okl_at {x : Int} (h : 0 ≤ x ∧ x < t.states.length) : OkL (at_ t.states x) := okl_name (name_at m h).2
theorem okl_rule {r : Rl} (hr : MayR t r) : OkL (lnRule t r) := by
  refine okl_behind (okl_key _ ⟨kRule, by decide⟩) _ fun x hx => ?_
  rcases List.mem_cons.1 hx with rfl | hx
  · exact okl_name hr.name
  rcases List.mem_cons.1 hx with rfl | hx
  · exact okl_num _
  split at hx
  · cases hx
  · rcases List.mem_cons.1 hx with rfl | hx
    · exact okl_key _ ⟨kFrom, by decide⟩
    · obtain ⟨y, hy, rfl⟩ := List.mem_map.1 hx
      exact okl_at m (hr.from_ y hy)
theorem okl_guard {r : Rl} (hr : MayR t r) {g : Gd} (hg : g ∈ r.guards) : OkL (lnGuard t r g) := by
  refine okl_behind (okl_key _ ⟨kGuard, by decide⟩) _ fun x hx => ?_
  rcases List.mem_cons.1 hx with rfl | hx
  · exact okl_num _
  · rcases List.mem_cons.1 hx with rfl | hx
    · exact (ok_expr m hr.args.1 hr.args.2 (hr.guards g hg).2).l
    · cases hx
theorem okl_sets {r : Rl} (hr : MayR t r) : ∀ (l : List Se) (a : Bs), OkL a → (∀ s ∈ l, (0 ≤ s.var ∧ s.var < t.vars.length) ∧ (check s.value t.vars.length r.args).2 = 0) → OkL (a ++ Lib.joinTail [59] (l.map (setText t r)))
  | [], a, ha, _ => by show OkL (a ++ []); rw [List.append_nil]; exact ha
  | s :: l, a, ha, h => by
    obtain ⟨h1, h2⟩ := h s List.mem_cons_self
    have hv := okl_name (var_at m h1).2
    have hs : OkL (a ++ ([59, 32] ++ at_ t.vars s.var)) := ha.mid (by decide) hv
    have hs2 : OkL (a ++ ([59, 32] ++ at_ t.vars s.var) ++ ([32] ++ wSet)) := hs.mid (by decide) (okl_key _ ⟨kSet, by decide⟩)
    have hs3 : OkL (a ++ ([59, 32] ++ at_ t.vars s.var) ++ ([32] ++ wSet) ++ ([32] ++ expr t r s.value)) := hs2.mid (by decide) (ok_expr m hr.args.1 hr.args.2 h2).l
    have := okl_sets hr l _ hs3 fun x hx => h x (List.mem_cons_of_mem _ hx)
    have e : a ++ Lib.joinTail [59] ((s :: l).map (setText t r)) = a ++ ([59, 32] ++ at_ t.vars s.var) ++ ([32] ++ wSet) ++ ([32] ++ expr t r s.value) ++ Lib.joinTail [59] (l.map (setText t r)) := by
      simp [Lib.joinTail, setText_is t]
    rw [e]; exact this
theorem okl_step {r : Rl} (hr : MayR t r) {p : Sp} (hp : p ∈ r.steps) : OkL (lnStep t r p) := by
  obtain ⟨hto, hs⟩ := hr.steps p hp
  obtain ⟨_, g2, g3⟩ := goes_to m hto [] p rfl
  have h1 : OkL (wStep ++ ([32] ++ toText t p)) := (okl_key _ ⟨kStep, by decide⟩ : OkL wStep).mid (by decide) (okl_key _ ⟨g2, g3⟩)
  have e : wStep ++ behind [toText t p] = wStep ++ ([32] ++ toText t p) := by simp [behind]
  unfold lnStep
  rw [e]
  cases hsets : p.sets with
  | nil => show OkL (_ ++ []); rw [List.append_nil]; exact h1
  | cons s l =>
    rw [hsets] at hs
    obtain ⟨h2, h3⟩ := hs s List.mem_cons_self
    have hv := okl_name (var_at m h2).2
    have k1 : OkL (wStep ++ ([32] ++ toText t p) ++ ([32] ++ at_ t.vars s.var)) := h1.mid (by decide) hv
    have k2 : OkL (wStep ++ ([32] ++ toText t p) ++ ([32] ++ at_ t.vars s.var) ++ ([32] ++ wSet)) := k1.mid (by decide) (okl_key _ ⟨kSet, by decide⟩)
    have k3 : OkL (wStep ++ ([32] ++ toText t p) ++ ([32] ++ at_ t.vars s.var) ++ ([32] ++ wSet) ++ ([32] ++ expr t r s.value)) := k2.mid (by decide) (ok_expr m hr.args.1 hr.args.2 h3).l
    have := okl_sets m hr l _ k3 fun x hx => hs x (List.mem_cons_of_mem _ hx)
    have e : wStep ++ ([32] ++ toText t p) ++ Lib.join ((s :: l).map (setText t r)) [59] = wStep ++ ([32] ++ toText t p) ++ ([32] ++ at_ t.vars s.var) ++ ([32] ++ wSet) ++ ([32] ++ expr t r s.value) ++ Lib.joinTail [59] (l.map (setText t r)) := by
      rw [List.map_cons, Lib.join_cons, setText_is t]
      simp
    rw [e]; exact this

theorem okl_lines : ∀ x ∈ lines t, OkL x := by
  intro x hx
  rcases List.mem_cons.1 hx with rfl | hx
  · exact okl_behind (okl_key _ ⟨kStates, by decide⟩) _ fun y hy => okl_name (m.sname y hy)
  rcases List.mem_cons.1 hx with rfl | hx
  · exact okl_behind (okl_key _ ⟨kVars, by decide⟩) _ fun y hy => (start_wd m y hy).2
  obtain ⟨r, hr, hx⟩ := List.mem_flatMap.1 hx
  have hr := m.rule r hr
  rcases List.mem_cons.1 hx with rfl | hx
  · exact okl_rule m hr
  rcases List.mem_append.1 hx with hx | hx
  · obtain ⟨g, hg, rfl⟩ := List.mem_map.1 hx
    exact okl_guard m hr hg
  · obtain ⟨p, hp, rfl⟩ := List.mem_map.1 hx
    exact okl_step m hr hp

include hip
theorem goes_guards {r : Rl} (hr : MayR t r) (rs : List Rl) (ls : List Bs) : ∀ (gs : List Gd) (q : Rl), (∀ g ∈ gs, g ∈ r.guards) → q.args = r.args → q.steps = [] →
    Goes ip (gs.map (lnGuard t r) ++ ls) ⟨t.states, t.vars, t.start, rs ++ [q]⟩ ls ⟨t.states, t.vars, t.start, rs ++ [{ q with guards := q.guards ++ gs }]⟩
  | [], q, _, _, _ => by simpa using Goes.refl ip ls _
  | g :: gs, q, h, ha, hs => by
    have h1 : Goes ip (lnGuard t r g :: (gs.map (lnGuard t r) ++ ls)) ⟨t.states, t.vars, t.start, rs ++ [q]⟩ _ _ :=
      Goes.one (okl_guard m hr (h g List.mem_cons_self)) _ fun said h2 => line_guard m hip hr (h g List.mem_cons_self) rs q ⟨ha, hs⟩ said h2
    have h2 := goes_guards hr rs ls gs { q with guards := q.guards ++ [g] } (fun x hx => h x (List.mem_cons_of_mem _ hx)) ha hs
    have := h1.trans h2
    simpa using this
theorem goes_steps {r : Rl} (hr : MayR t r) (rs : List Rl) (ls : List Bs) : ∀ (ps : List Sp) (q : Rl), (∀ p ∈ ps, p ∈ r.steps) → q.args = r.args →
    Goes ip (ps.map (lnStep t r) ++ ls) ⟨t.states, t.vars, t.start, rs ++ [q]⟩ ls ⟨t.states, t.vars, t.start, rs ++ [{ q with steps := q.steps ++ ps.map stays }]⟩
  | [], q, _, _ => by simpa using Goes.refl ip ls _
  | p :: ps, q, h, ha => by
    have h1 : Goes ip (lnStep t r p :: (ps.map (lnStep t r) ++ ls)) ⟨t.states, t.vars, t.start, rs ++ [q]⟩ _ _ :=
      Goes.one (okl_step m hr (h p List.mem_cons_self)) _ fun said h2 => line_step m hip hr (h p List.mem_cons_self) rs q ha said
    have h2 := goes_steps hr rs ls ps { q with steps := q.steps ++ [stays p] } (fun x hx => h x (List.mem_cons_of_mem _ hx)) ha
    have := h1.trans h2
    simpa using this
theorem goes_rules (ls : List Bs) : ∀ (l rs : List Rl), (∀ r ∈ l, MayR t r) → Goes ip (l.flatMap (rlLines t) ++ ls) ⟨t.states, t.vars, t.start, rs⟩ ls ⟨t.states, t.vars, t.start, rs ++ l.map normR⟩
  | [], rs, _ => by simpa using Goes.refl ip ls _
  | r :: l, rs, h => by
    have hr := h r List.mem_cons_self
    have h1 : Goes ip (lnRule t r :: (r.guards.map (lnGuard t r) ++ (r.steps.map (lnStep t r) ++ (l.flatMap (rlLines t) ++ ls)))) ⟨t.states, t.vars, t.start, rs⟩ _ _ := Goes.one (okl_rule m hr) _ fun said h2 => line_rule m ip hr rs said h2
    have h2 := goes_guards m hip hr rs (r.steps.map (lnStep t r) ++ (l.flatMap (rlLines t) ++ ls)) r.guards ⟨r.name, r.args, r.from_, [], []⟩ (fun _ h => h) rfl rfl
    have h3 := goes_steps m hip hr rs (l.flatMap (rlLines t) ++ ls) r.steps ⟨r.name, r.args, r.from_, [] ++ r.guards, []⟩ (fun _ h => h) rfl
    have h4 := goes_rules ls l (rs ++ [normR r]) fun x hx => h x (List.mem_cons_of_mem _ hx)
    have := ((h1.trans h2).trans h3).trans (by simpa [normR] using h4)
    simp only [rlLines, List.flatMap_cons, List.map_cons, List.append_assoc, List.cons_append] at this ⊢
    exact this

theorem parse_shown (hl : (shownT t).length ≤ 8192) : parseT ip (shownT t) = some (normT t, 0, 0) := by
  have hO := okl_lines m
  have e : cutL (shownT t) [] = lines t ++ [[]] := cutL_lines (lines t) fun x hx c hc => (hO x hx).all c hc
  unfold parseT
  rw [if_neg (by omega), e]
  have h1 := hO (lnStates t) List.mem_cons_self
  have h2 := hO (lnVars t) (List.mem_cons_of_mem _ List.mem_cons_self)
  unfold lines
  rw [List.cons_append, List.cons_append, readL_one h1 _ 0 _ _ 0 (line_states m ip), readL_one h2 _ _ _ _ 1 (line_vars m ip)]
  obtain ⟨n', said', hs', e'⟩ := goes_rules m hip [[]] t.rules [] m.rule (0 + 1 + 1) (0 + 1 + 1) (by omega)
  rw [e', readL, if_pos (show trim [] = [] from rfl), readL, if_neg (by omega)]
  rfl
end
end Go.Proofs.YtfooiggedgcjcaaGreatDoor.T
