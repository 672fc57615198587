/-
  Layer 7, plainly: codes of commands that are refused; what accepted ones lead to; on what the answer hangs.
-/
import Derived.Test.YtgkniocjlkfhmaaDoorSVl
namespace Go.Proofs.YtgkniocjlkfhmaaDoor.D
open Go Go.RowKit Go.Proofs.YtgkniocjlkfhmaaDoor.B Go.Proofs.YtgkniocjlkfhmaaDoor.K Go.Proofs.YtgkniocjlkfhmaaDoor.E Go.Proofs.YtgkniocjlkfhmaaDoor.R
set_option linter.unusedVariables false

theorem mayB_of {t : Tb} (h : chk5 t = (0, 0, 0, 0)) : mayB t = true := by unfold mayB; rw [h]; rfl
theorem right7_of (t : Tb) (s : Stt) : right7 t s = (mayB t && stands t s) := by
  unfold right7 mayB
  split
  · rename_i h; rw [decide_eq_true h, Bool.true_and]
  · rename_i h; rw [decide_eq_false h, Bool.false_and]
theorem begins_stands {t : Tb} (h : chk5 t = (0, 0, 0, 0)) : stands t ⟨0, 0, t.start⟩ = true := by
  have h1 := start_of h
  have h2 := (fine_of h).states
  unfold stands
  rw [Bool.and_eq_true, decide_eq_true_iff]
  exact ⟨⟨Int.le_refl _, by show (0 : Int) < _; omega, Int.le_refl _, by show (0 : Int) ≤ 1099511627776; decide, h1.1⟩, h1.2⟩
theorem begins_right {t : Tb} (h : chk5 t = (0, 0, 0, 0)) : right7 t ⟨0, 0, t.start⟩ = true := by
  rw [right7_of, mayB_of h, Bool.true_and]; exact begins_stands h

theorem unfit_range (t : Tb) (s : Stt) (c : Cm) : 0 ≤ unfit t s c ∧ unfit t s c ≤ 4 := by
  cases h : stands t s with
  | false => rw [unfit_0 h]; decide
  | true =>
    cases hr : ruleAt t c.rule with
    | none => rw [unfit_1 h hr]; decide
    | some r =>
      rw [unfit_some h hr]
      by_cases q1 : (c.args.length : Int) = r.args ∧ c.args.all isVal = true
      · rw [if_pos q1]
        by_cases q2 : isFor t c.rule s.pos = false
        · rw [if_pos q2]; decide
        · rw [if_neg q2]
          by_cases q3 : 0 ≤ c.expect ∧ c.expect ≠ s.ver
          · rw [if_pos q3]; decide
          · rw [if_neg q3]; decide
      · rw [if_neg q1]; decide

theorem refusal_range (vs ar : List Int) : ∀ l : List Gd, (∀ g ∈ l, 16 ≤ g.code ∧ g.code ≤ 63) → 0 ≤ refusal vs ar l ∧ refusal vs ar l ≤ 63
  | [], _ => by unfold refusal; decide
  | g :: l, h => by
    have h1 := refusal_range vs ar l fun x hx => h x (List.mem_cons_of_mem _ hx)
    have h2 := h g List.mem_cons_self
    unfold refusal
    split
    · unfold guardCode
      split
      · decide
      · split
        · omega
        · decide
    · exact h1

/-- A code that refuses: no events, and it is no greater than a guard's. -/
theorem dec_code {t : Tb} {s : Stt} {c : Cm} (h : (decide7 t s c).2 ≠ 0) : (decide7 t s c).1 = [] ∧ 0 ≤ (decide7 t s c).2 ∧ (decide7 t s c).2 ≤ 63 := by
  by_cases hc : chk5 t = (0, 0, 0, 0)
  · by_cases hu : unfit t s c = 0
    · obtain ⟨_, n, r, hn, hr⟩ := unfit_zero hu
      rw [dec_rule hc hu hn hr] at h ⊢
      by_cases hf : refusal s.vars c.args r.guards = 0
      · cases hs : stepsDo c.args r.steps s.pos s.vars with
        | none => rw [byRule_none hf hs]; exact ⟨rfl, by decide, by decide⟩
        | some l => rw [byRule_some hf hs] at h; exact absurd rfl h
      · rw [byRule_no hf]
        exact ⟨rfl, refusal_range _ _ _ (firm_of hc hr).codes⟩
    · rw [dec_unfit hc hu]
      have := unfit_range t s c
      exact ⟨rfl, this.1, Int.le_trans this.2 (by decide)⟩
  · rw [dec_bad (by unfold mayB; exact decide_eq_false hc)]
    exact ⟨rfl, by decide, by decide⟩

/-- An accepted command's events. -/
theorem dec_ok {t : Tb} {s : Stt} {c : Cm} (hc : chk5 t = (0, 0, 0, 0)) (h : (decide7 t s c).2 = 0) :
    ∃ (n : Nat) (r : Rl), c.rule = (n : Int) ∧ t.rules[n]? = some r ∧ (decide7 t s c).1.length = r.steps.length ∧ r.steps.length ≤ 3 ∧
      ∀ e ∈ (decide7 t s c).1, (0 ≤ e.pos ∧ e.pos < t.states.length) ∧ e.vars.length = t.vars.length ∧ e.vars.all isVal = true := by
  by_cases hu : unfit t s c = 0
  · obtain ⟨hst, n, r, hn, hr⟩ := unfit_zero hu
    have hf := firm_of hc hr
    have hl := stands_len hst
    rw [dec_rule hc hu hn hr] at h ⊢
    by_cases hg : refusal s.vars c.args r.guards = 0
    · cases hs : stepsDo c.args r.steps s.pos s.vars with
      | none => rw [byRule_none hg hs] at h; cases h
      | some l =>
        rw [byRule_some hg hs]
        obtain ⟨h1, h2⟩ := stepsDo_right t c.args r.steps s.pos s.vars l hf.to_ hs hl.2.2.1 hl.2.1
        exact ⟨n, r, hn, hr, h1, hf.some_.2, fun e he => by
          obtain ⟨a, b, d⟩ := h2 e he
          exact ⟨a, b.trans hl.1, d⟩⟩
    · rw [byRule_no hg] at h; exact absurd h hg
  · rw [dec_unfit hc hu] at h; exact absurd h hu

/-- Behind events the state may be. -/
theorem fold_stands {t : Tb} : ∀ (l : List Ev) (s : Stt), stands t s = true → (∀ e ∈ l, (0 ≤ e.pos ∧ e.pos < t.states.length) ∧ e.vars.length = t.vars.length ∧ e.vars.all isVal = true) → s.ver + l.length ≤ 1099511627776 →
    stands t (fold7 s l) = true ∧ (fold7 s l).ver = s.ver + l.length
  | [], s, h, _, _ => ⟨h, by show s.ver = s.ver + ((0 : Nat) : Int); omega⟩
  | e :: l, s, h, he, hv => by
    obtain ⟨h1, h2, h3⟩ := he e List.mem_cons_self
    have hl := stands_len h
    rw [List.length_cons] at hv
    have hnx : next s.ver = s.ver + 1 := by unfold next; rw [if_pos (by omega)]
    have hst : stands t (apply7 s e) = true := by
      unfold stands apply7
      rw [Bool.and_eq_true, decide_eq_true_iff]
      refine ⟨⟨h1.1, h1.2, ?_, ?_, h2⟩, h3⟩
      · show 0 ≤ next s.ver; omega
      · show next s.ver ≤ _; omega
    obtain ⟨a, b⟩ := fold_stands l (apply7 s e) hst (fun x hx => he x (List.mem_cons_of_mem _ hx)) (by show next s.ver + _ ≤ _; omega)
    refine ⟨a, ?_⟩
    show (fold7 (apply7 s e) l).ver = _
    rw [b, List.length_cons]
    show next s.ver + _ = _
    omega

/-- Whose a command is, and which number it has, tells nothing. -/
theorem dec_alone {t : Tb} {s : Stt} (c d : Cm) (hr : d.rule = c.rule) (ha : d.args = c.args) (hc : c.expect < 0) (hd : d.expect = s.ver) : decide7 t s d = decide7 t s c := by
  have hu : unfit t s d = unfit t s c := by
    cases h : stands t s with
    | false => rw [unfit_0 h, unfit_0 h]
    | true =>
      cases hx : ruleAt t c.rule with
      | none => rw [unfit_1 h hx, unfit_1 h (by rw [hr]; exact hx)]
      | some r =>
        rw [unfit_some h hx, unfit_some h (r := r) (by rw [hr]; exact hx), hr, ha]
        rw [if_neg (show ¬ (0 ≤ d.expect ∧ d.expect ≠ s.ver) from fun q => q.2 hd), if_neg (show ¬ (0 ≤ c.expect ∧ c.expect ≠ s.ver) from fun q => by omega)]
  unfold decide7 decided
  rw [hu, hr, ha]

/-- Another version than the stream has. -/
theorem dec_version {t : Tb} {s : Stt} (c d : Cm) (hk : chk5 t = (0, 0, 0, 0)) (hr : d.rule = c.rule) (ha : d.args = c.args) (hd : 0 ≤ d.expect ∧ d.expect ≠ s.ver) (h1 : (decide7 t s c).2 ≠ 1) (h2 : (decide7 t s c).2 ≠ 2) (h3 : (decide7 t s c).2 ≠ 3) : (decide7 t s d).2 = 4 := by
  have hu : unfit t s d = 4 := by
    cases h : stands t s with
    | false => rw [dec_unfit hk (by rw [unfit_0 h]; decide), unfit_0 h] at h3; exact absurd rfl h3
    | true =>
      cases hx : ruleAt t c.rule with
      | none => rw [dec_unfit hk (by rw [unfit_1 h hx]; decide), unfit_1 h hx] at h1; exact absurd rfl h1
      | some r =>
        rw [unfit_some h (r := r) (by rw [hr]; exact hx), hr, ha]
        have hcu := unfit_some h hx (c := c)
        by_cases q1 : (c.args.length : Int) = r.args ∧ c.args.all isVal = true
        · rw [if_pos q1] at hcu ⊢
          cases q2 : isFor t c.rule s.pos with
          | false =>
            rw [if_pos q2] at hcu
            rw [dec_unfit hk (by rw [hcu]; decide), hcu] at h3
            exact absurd rfl h3
          | true => rw [if_neg (by decide), if_pos hd]
        · rw [if_neg q1] at hcu
          rw [dec_unfit hk (by rw [hcu]; decide), hcu] at h2
          exact absurd rfl h2
  rw [dec_unfit hk (by rw [hu]; decide), hu]
end Go.Proofs.YtgkniocjlkfhmaaDoor.D
