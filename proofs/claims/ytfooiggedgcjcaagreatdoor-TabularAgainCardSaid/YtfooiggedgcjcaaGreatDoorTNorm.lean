/-
  Layer 6, plainly: what any text says; empty lines; what was read is not much; what was read is shown the same.
-/
import Derived.Test.YtfooiggedgcjcaaGreatDoorTIq
import Derived.Test.YtfooiggedgcjcaaGreatDoorTBack
import Derived.Test.YtfooiggedgcjcaaGreatDoorTSn
namespace Go.Proofs.YtfooiggedgcjcaaGreatDoor.T
open Go Go.RowKit Go.Proofs.YtfooiggedgcjcaaGreatDoor.B Go.Proofs.YtfooiggedgcjcaaGreatDoor.K Go.Proofs.YtfooiggedgcjcaaGreatDoor.E Go.Proofs.YtfooiggedgcjcaaGreatDoor.R
set_option linter.unusedVariables false

/-! ## Every text says something -/
theorem ipT_some (s : Bs) (vs : List Bs) (na : Int) : ∃ r, ipT s vs na = some r := ⟨_, rfl⟩
theorem hasB_ne {c : UInt8} {s : Bs} (h : hasB c s = true) : s ≠ [] := by rintro rfl; cases h
theorem setsOf_some (t : Tb) (r : Rl) : ∀ (n : Nat) (s : Bs), s.length < n → ∃ x, setsOf ipT t r n s = some x
  | 0, s, h => absurd h (Nat.not_lt_zero _)
  | n + 1, s, h => by
    unfold setsOf
    have ho : ∃ x, oneSet ipT t r s = some x := by
      unfold oneSet
      split
      · exact ⟨_, rfl⟩
      · split
        · exact ⟨_, rfl⟩
        · obtain ⟨y, hy⟩ := ipT_some (pc (nx (nx s))) t.vars r.args
          rw [hy]
          simp only
          split <;> exact ⟨_, rfl⟩
    obtain ⟨x, hx⟩ := ho
    rw [hx]
    cases x with
    | error e => exact ⟨_, rfl⟩
    | ok x =>
      simp only
      split
      · rename_i h59
        have h1 := pnx_lt _ (hasB_ne h59)
        have h2 := nx_le (nx s)
        have h3 := nx_le s
        obtain ⟨y, hy⟩ := setsOf_some t r n (pnx (nx (nx s))) (by omega)
        rw [hy]
        cases y <;> exact ⟨_, rfl⟩
      · exact ⟨_, rfl⟩
theorem line_some (t : Tb) (said : Nat) (s : Bs) : ∃ x, line ipT t said s = some x := by
  unfold line
  split
  · exact ⟨_, rfl⟩
  · split
    · exact ⟨_, rfl⟩
    · split
      · exact ⟨_, rfl⟩
      · cases t.rules.getLast? with
        | none => exact ⟨_, rfl⟩
        | some r =>
          simp only
          split
          · unfold gdLine
            split
            · exact ⟨_, rfl⟩
            · obtain ⟨y, hy⟩ := ipT_some (nx (nx s)) t.vars r.args
              rw [hy]
              simp only
              split <;> exact ⟨_, rfl⟩
          · split
            · unfold spLine
              split
              · exact ⟨_, rfl⟩
              · have h : ∃ y, (if nx (nx s) = [] then some (.ok []) else setsOf ipT t r ((nx s).length + 1) (nx (nx s))) = some y := by
                  split
                  · exact ⟨_, rfl⟩
                  · exact setsOf_some t r _ _ (by have := nx_le (nx s); omega)
                obtain ⟨y, hy⟩ := h
                rw [hy]
                cases y <;> exact ⟨_, rfl⟩
            · exact ⟨_, rfl⟩
theorem readL_some : ∀ (L : List Bs) (n : Nat) (t : Tb) (said : Nat), ∃ x, readL ipT L n t said = some x
  | [], n, t, said => by
    unfold readL
    split <;> exact ⟨_, rfl⟩
  | x :: r, n, t, said => by
    unfold readL
    split
    · exact readL_some r (n + 1) t said
    · obtain ⟨y, hy⟩ := line_some t said (trim x)
      rw [hy]
      cases y with
      | error e => exact ⟨_, rfl⟩
      | ok u => exact readL_some r (n + 1) u (said + 1)
theorem parseT_some (s : Bs) : ∃ t n e, parseT ipT s = some (t, n, e) := by
  unfold parseT
  split
  · exact ⟨_, _, _, rfl⟩
  · obtain ⟨⟨t, n, e⟩, h⟩ := readL_some (cutL s []) 0 empty 0
    exact ⟨t, n, e, h⟩

/-! ## Lines that say nothing -/
theorem readL_at (ip : Ip) : ∀ (L : List Bs) (n m : Nat) (t : Tb) (said : Nat) (u : Tb) (k : Nat) (e : Int), readL ip L n t said = some (u, k, e) → ∃ k', readL ip L m t said = some (u, k', e)
  | [], n, m, t, said, u, k, e, h => by
    unfold readL at h ⊢
    by_cases hs : said < 2
    · rw [if_pos hs] at h ⊢; cases h; exact ⟨_, rfl⟩
    · rw [if_neg hs] at h ⊢; cases h; exact ⟨_, rfl⟩
  | x :: r, n, m, t, said, u, k, e, h => by
    unfold readL at h ⊢
    by_cases hx : trim x = []
    · rw [if_pos hx] at h ⊢
      exact readL_at ip r (n + 1) (m + 1) t said u k e h
    · rw [if_neg hx] at h ⊢
      cases hl : line ip t said (trim x) with
      | none => rw [hl] at h; cases h
      | some y =>
        rw [hl] at h
        cases y with
        | error e' => cases h; exact ⟨_, rfl⟩
        | ok v => exact readL_at ip r (n + 1) (m + 1) v (said + 1) u k e h
theorem readL_more (ip : Ip) : ∀ (L : List Bs) (n : Nat) (t : Tb) (said : Nat) (u : Tb) (k : Nat) (e : Int), readL ip L n t said = some (u, k, e) → ∃ k', readL ip (L ++ [[]]) n t said = some (u, k', e)
  | [], n, t, said, u, k, e, h => by
    have h0 : trim [] = [] := rfl
    show ∃ k', readL ip [[]] n t said = _
    unfold readL at h ⊢
    rw [if_pos h0]
    unfold readL
    by_cases hs : said < 2
    · rw [if_pos hs] at h ⊢; cases h; exact ⟨_, rfl⟩
    · rw [if_neg hs] at h ⊢; cases h; exact ⟨_, rfl⟩
  | x :: r, n, t, said, u, k, e, h => by
    rw [List.cons_append]
    unfold readL at h ⊢
    by_cases hx : trim x = []
    · rw [if_pos hx] at h ⊢
      exact readL_more ip r (n + 1) t said u k e h
    · rw [if_neg hx] at h ⊢
      cases hl : line ip t said (trim x) with
      | none => rw [hl] at h; cases h
      | some y =>
        rw [hl] at h
        cases y with
        | error e' => cases h; exact ⟨_, rfl⟩
        | ok v => exact readL_more ip r (n + 1) v (said + 1) u k e h
theorem cutL_more : ∀ (s w : Bs), cutL (s ++ [10]) w = cutL s w ++ [[]]
  | [], w => by show cutL [10] w = [w] ++ [[]]; simp [cutL]
  | c :: r, w => by
    rw [List.cons_append, cutL, cutL]
    split
    · rw [cutL_more r []]; rfl
    · exact cutL_more r _
theorem parse_behind {s : Bs} {t : Tb} {n : Nat} {e : Int} (hl : s.length < 8192) (h : parseT ipT s = some (t, n, e)) : ∃ n', parseT ipT (s ++ [10]) = some (t, n', e) := by
  unfold parseT at h ⊢
  rw [if_neg (by omega)] at h
  rw [if_neg (by rw [List.length_append, List.length_singleton]; omega), cutL_more]
  exact readL_more _ _ _ _ _ _ _ _ h
theorem parse_ahead {s : Bs} {t : Tb} {n : Nat} {e : Int} (hl : s.length < 8192) (h : parseT ipT s = some (t, n, e)) : ∃ n', parseT ipT (10 :: s) = some (t, n', e) := by
  unfold parseT at h ⊢
  rw [if_neg (by omega)] at h
  rw [if_neg (by rw [List.length_cons]; omega), cutL, if_pos rfl]
  unfold readL
  rw [if_pos (show trim [] = [] from rfl)]
  exact readL_at _ _ 0 1 _ _ _ _ _ h

/-! ## What was read is shown the same -/
theorem shown_norm (t : Tb) : shownT (normT t) = shownT t := by
  have hstep : ∀ (r : Rl) (p : Sp), lnStep (normT t) (normR r) (stays p) = lnStep t r p := by
    intro r p
    unfold lnStep
    have e1 : toText (normT t) (stays p) = toText t p := by
      unfold toText stays
      by_cases h : p.to < 0
      · simp [h]
      · simp [h]; rfl
    rw [e1]
    rfl
  have hr : ∀ r : Rl, rlLines (normT t) (normR r) = rlLines t r := by
    intro r
    unfold rlLines
    show lnRule t r :: (r.guards.map (lnGuard t r) ++ (r.steps.map stays).map (lnStep (normT t) (normR r))) = _
    rw [List.map_map]
    rw [show (lnStep (normT t) (normR r) ∘ stays) = lnStep t r from funext fun p => hstep r p]
  unfold shownT
  congr 1
  unfold lines
  show lnStates t :: lnVars t :: (t.rules.map normR).flatMap (rlLines (normT t)) = _
  rw [List.flatMap_map]
  rw [show (fun a => rlLines (normT t) (normR a)) = rlLines t from funext hr]

/-! ## What was read is not much -/
def CodeS (c : List In) : Prop := (∀ i ∈ c, (0 ≤ i.1 ∧ i.1 ≤ 16) ∧ (-1099511627776 ≤ i.2 ∧ i.2 ≤ 1099511627776)) ∧ c.length ≤ 31
def J64 (n : Int) : Prop := -1099511627776 ≤ n ∧ n ≤ 1099511627776
structure SpS (p : Sp) : Prop where
  sets : ∀ x ∈ p.sets, J64 x.var ∧ CodeS x.value
  len : p.sets.length ≤ 10000
  whither : J64 p.to
structure RlS (r : Rl) (said : Nat) : Prop where
  name : r.name.length ≤ 24
  args : J64 r.args
  from_ : (∀ x ∈ r.from_, J64 x) ∧ r.from_.length ≤ 10000
  guards : (∀ g ∈ r.guards, J64 g.code ∧ CodeS g.test) ∧ r.guards.length ≤ said
  steps : (∀ p ∈ r.steps, SpS p) ∧ r.steps.length ≤ said
structure TbS (t : Tb) (said : Nat) : Prop where
  states : (∀ x ∈ t.states, x.length ≤ 24) ∧ t.states.length ≤ 10000
  vars : (∀ x ∈ t.vars, x.length ≤ 24) ∧ t.vars.length ≤ 10000
  start : (∀ x ∈ t.start, J64 x) ∧ t.start.length ≤ 10000
  rules : (∀ r ∈ t.rules, RlS r said) ∧ t.rules.length ≤ said
  s0 : said = 0 → t.states = []
  v0 : said < 2 → t.vars = [] ∧ t.start = []
theorem TbS.empty : TbS T.empty 0 := ⟨⟨by simp [T.empty], by simp [T.empty]⟩, ⟨by simp [T.empty], by simp [T.empty]⟩, ⟨by simp [T.empty], by simp [T.empty]⟩, ⟨by simp [T.empty], by simp [T.empty]⟩, fun _ => rfl, fun _ => ⟨rfl, rfl⟩⟩
theorem RlS.mono {r : Rl} {a b : Nat} (h : RlS r a) (hab : a ≤ b) : RlS r b := ⟨h.name, h.args, h.from_, ⟨h.guards.1, by have := h.guards.2; omega⟩, ⟨h.steps.1, by have := h.steps.2; omega⟩⟩

theorem findN_in {l : List Bs} {w : Bs} (hl : l.length ≤ 10000) : J64 (findN l w).1 := by
  unfold findN J64
  split
  · simp
  · split
    · rename_i k hk
      have := (List.findIdx?_eq_some_iff_getElem.1 hk).1
      simp only
      omega
    · simp
theorem findAll_in {l : List Bs} (hl : l.length ≤ 10000) : ∀ (ws : List Bs) (x : List Int), findAll l ws = .ok x → x.length = ws.length ∧ ∀ n ∈ x, J64 n
  | [], x, h => by cases h; exact ⟨rfl, fun n hn => by cases hn⟩
  | w :: r, x, h => by
    unfold findAll at h
    split at h
    · cases h
    · cases hr : findAll l r with
      | error e => rw [hr] at h; cases h
      | ok y =>
        rw [hr] at h
        cases h
        obtain ⟨h1, h2⟩ := findAll_in hl r y hr
        refine ⟨by simp [h1], fun n hn => ?_⟩
        rcases List.mem_cons.1 hn with rfl | hn
        · exact findN_in hl
        · exact h2 n hn
theorem vrItems_in : ∀ (ws : List Bs) (l : List (Bs × Int)), vrItems ws = some l → ∀ p ∈ l, p.1.length ≤ 24 ∧ J64 p.2
  | [], l, h => by cases h; intro p hp; cases hp
  | w :: r, l, h => by
    rw [vrItems] at h
    cases hw : vrItem w with
    | none => rw [hw] at h; cases h
    | some p =>
      rw [hw] at h
      cases hr : vrItems r with
      | none => rw [hr] at h; cases h
      | some y =>
        rw [hr] at h
        cases h
        intro q hq
        rcases List.mem_cons.1 hq with rfl | hq
        · unfold vrItem at hw
          split at hw
          · rename_i hc
            cases hw
            have := numOf_in _ _ hc.1
            exact ⟨I.name_length _ hc.2, by unfold J64; exact this⟩
          · cases hw
        · exact vrItems_in r y hr q hq
theorem words_many (s : Bs) (hs : s.length ≤ 8192) : (words s).length ≤ 8193 := by have := words_le _ s (Nat.le_refl _); omega

/-- The codes that are read are short. -/
def IpS (ip : Ip) : Prop := ∀ s vs na c, vs.length ≤ 10000 → ip s vs na = some (c, 0) → CodeS c
theorem setsOf_in {ip : Ip} (hip : IpS ip) {t : Tb} {r : Rl} (hv : t.vars.length ≤ 10000) : ∀ (n : Nat) (s : Bs) (l : List Se), setsOf ip t r n s = some (.ok l) → l.length ≤ n ∧ ∀ x ∈ l, J64 x.var ∧ CodeS x.value
  | 0, s, l, h => by cases h
  | n + 1, s, l, h => by
    unfold setsOf at h
    cases ho : oneSet ip t r s with
    | none => rw [ho] at h; cases h
    | some y =>
      rw [ho] at h
      cases y with
      | error e => cases h
      | ok x =>
        have hx : J64 x.var ∧ CodeS x.value := by
          unfold oneSet at ho
          split at ho
          · cases ho
          · split at ho
            · cases ho
            · split at ho
              · cases ho
              · rename_i z hz
                split at ho
                · cases ho
                · rename_i he
                  have he' := Classical.not_not.1 he
                  cases ho
                  refine ⟨findN_in hv, hip _ _ _ z.1 hv (by rw [hz]; congr 1; exact Prod.ext rfl he')⟩
        simp only at h
        split at h
        · cases hr : setsOf ip t r n (pnx (nx (nx s))) with
          | none => rw [hr] at h; cases h
          | some y =>
            rw [hr] at h
            cases y with
            | error e => cases h
            | ok l' =>
              cases h
              obtain ⟨h1, h2⟩ := setsOf_in hip hv n _ l' hr
              refine ⟨by simp; omega, fun q hq => ?_⟩
              rcases List.mem_cons.1 hq with rfl | hq
              · exact hx
              · exact h2 q hq
        · cases h
          exact ⟨by simp, fun q hq => by simp at hq; subst hq; exact hx⟩

theorem TbS.last {t : Tb} {said : Nat} (h : TbS t said) (h2 : 2 ≤ said) {rs : List Rl} {r : Rl} (ht : t.rules = rs ++ [r]) (f : Rl → Rl) (hf : RlS r said → RlS (f r) (said + 1)) : TbS (lastR t f) (said + 1) := by
  rw [lastR_of ht]
  refine ⟨h.states, h.vars, h.start, ⟨fun x hx => ?_, ?_⟩, fun e => by omega, fun e => by omega⟩
  · rcases List.mem_append.1 hx with hx | hx
    · exact (h.rules.1 x (by rw [ht]; exact List.mem_append_left _ hx)).mono (by omega)
    · simp at hx
      subst hx
      exact hf (h.rules.1 r (by rw [ht]; simp))
  · have := h.rules.2
    rw [ht] at this
    simp at this ⊢
    omega

theorem TbS.line {ip : Ip} (hip : IpS ip) {t u : Tb} {said : Nat} {s : Bs} (h : TbS t said) (hr2 : t.rules ≠ [] → 2 ≤ said) (hs : s.length ≤ 8192) (hl : T.line ip t said s = some (.ok u)) : TbS u (said + 1) ∧ (u.rules ≠ [] → 2 ≤ said + 1) := by
  have hna := nx_le s
  unfold T.line at hl
  by_cases c1 : wd s = wStates ∧ said = 0
  · rw [if_pos c1] at hl
    unfold stLine at hl
    by_cases ha : (words (nx s)).all I.isName = true
    · rw [if_pos ha] at hl
      cases hl
      have hw := words_many (nx s) (by omega)
      have h0 := h.s0 c1.2
      refine ⟨⟨⟨fun x hx => ?_, ?_⟩, h.vars, h.start, ⟨fun r hr => (h.rules.1 r hr).mono (by omega), by have := h.rules.2; show t.rules.length ≤ _; omega⟩, fun e => by omega, fun e => h.v0 (by omega)⟩, fun hne => by have := hr2 hne; omega⟩
      · have hx' : x ∈ t.states ++ words (nx s) := hx
        rw [h0] at hx'
        exact I.name_length x (List.all_eq_true.1 ha x (by simpa using hx'))
      · show (t.states ++ words (nx s)).length ≤ _
        rw [h0]; simp; omega
    · rw [if_neg ha] at hl; cases hl
  · rw [if_neg c1] at hl
    by_cases c2 : wd s = wVars ∧ said = 1
    · rw [if_pos c2] at hl
      unfold vrLine at hl
      cases hv : vrItems (if nx s = [] then [] else words (nx s)) with
      | none => rw [hv] at hl; cases hl
      | some l =>
        rw [hv] at hl
        cases hl
        obtain ⟨h1, -⟩ := vrItems_some _ l hv
        have h2 := vrItems_in _ l hv
        have hw := words_many (nx s) (by omega)
        have h4 : l.length ≤ 8193 := by
          rw [h1]
          split
          · simp
          · omega
        obtain ⟨h5, h6⟩ := h.v0 (by omega)
        refine ⟨⟨h.states, ⟨fun x hx => ?_, ?_⟩, ⟨fun x hx => ?_, ?_⟩, ⟨fun r hr => (h.rules.1 r hr).mono (by omega), by have := h.rules.2; show t.rules.length ≤ _; omega⟩, fun e => by omega, fun e => by omega⟩, fun hne => by omega⟩
        · have hx' : x ∈ t.vars ++ l.map (·.1) := hx
          rw [h5, List.nil_append] at hx'
          obtain ⟨p, hp, rfl⟩ := List.mem_map.1 hx'
          exact (h2 p hp).1
        · show (t.vars ++ l.map (·.1)).length ≤ _
          rw [h5]; simp; omega
        · have hx' : x ∈ t.start ++ l.map (·.2) := hx
          rw [h6, List.nil_append] at hx'
          obtain ⟨p, hp, rfl⟩ := List.mem_map.1 hx'
          exact (h2 p hp).2
        · show (t.start ++ l.map (·.2)).length ≤ _
          rw [h6]; simp; omega
    · rw [if_neg c2] at hl
      by_cases c3 : wd s = wRule ∧ 2 ≤ said
      · rw [if_pos c3] at hl
        unfold rlLine at hl
        by_cases d1 : I.isName (wd (nx s)) = false
        · rw [if_pos d1] at hl; cases hl
        · rw [if_neg d1] at hl
          by_cases d2 : (numOf (wd (nx (nx s))) 0).2 ≠ 0
          · rw [if_pos d2] at hl; cases hl
          · rw [if_neg d2] at hl
            have hn := numOf_in _ _ (Classical.not_not.1 d2)
            have hnm := I.name_length _ (show I.isName (wd (nx s)) = true by simpa using d1)
            cases hf : rlFrom t (nx (nx (nx s))) with
            | error e => rw [hf] at hl; cases hl
            | ok l =>
              rw [hf] at hl
              cases hl
              have hfl : (∀ x ∈ l, J64 x) ∧ l.length ≤ 10000 := by
                unfold rlFrom at hf
                split at hf
                · cases hf; exact ⟨fun x hx => (by cases hx), by simp⟩
                · split at hf
                  · cases hf
                  · obtain ⟨a1, a2⟩ := findAll_in h.states.2 _ _ hf
                    have e1 := nx_le (nx s)
                    have e2 := nx_le (nx (nx s))
                    have e3 := nx_le (nx (nx (nx s)))
                    have := words_many (nx (nx (nx (nx s)))) (by omega)
                    exact ⟨a2, by omega⟩
              refine ⟨⟨h.states, h.vars, h.start, ⟨fun r hr => ?_, ?_⟩, fun e => by omega, fun e => by omega⟩, fun _ => by omega⟩
              · rcases List.mem_append.1 hr with hr | hr
                · exact (h.rules.1 r hr).mono (by omega)
                · simp at hr
                  subst hr
                  exact ⟨hnm, ⟨by simp only; omega, by simp only; omega⟩, hfl, ⟨fun g hg => (by cases hg), Nat.zero_le _⟩, ⟨fun p hp => (by cases hp), Nat.zero_le _⟩⟩
              · have := h.rules.2
                simp; omega
      · rw [if_neg c3] at hl
        cases hg : t.rules.getLast? with
        | none => rw [hg] at hl; cases hl
        | some r =>
          rw [hg] at hl
          simp only at hl
          obtain ⟨rs, ht⟩ := lastR_snoc hg
          have h2 := hr2 (by rw [ht]; simp)
          have keep : ∀ f : Rl → Rl, (lastR t f).rules ≠ [] → 2 ≤ said + 1 := fun _ _ => by omega
          split at hl
          · unfold gdLine at hl
            split at hl
            · cases hl
            · rename_i d1
              have hn := numOf_in _ _ (Classical.not_not.1 d1)
              split at hl
              · cases hl
              · rename_i x hx
                split at hl
                · cases hl
                · rename_i he
                  cases hl
                  have hc := hip _ _ _ x.1 h.vars.2 (by rw [hx]; congr 1; exact Prod.ext rfl (Classical.not_not.1 he))
                  refine ⟨h.last h2 ht _ fun hr => ⟨hr.name, hr.args, hr.from_, ⟨fun g hg => ?_, ?_⟩, ⟨hr.steps.1, by have := hr.steps.2; show r.steps.length ≤ _; omega⟩⟩, keep _⟩
                  · rcases List.mem_append.1 hg with hg | hg
                    · exact hr.guards.1 g hg
                    · simp at hg
                      subst hg
                      exact ⟨⟨by simp only; omega, by simp only; omega⟩, hc⟩
                  · have := hr.guards.2
                    show (r.guards ++ [_]).length ≤ _
                    simp; omega
          · split at hl
            · unfold spLine at hl
              split at hl
              · cases hl
              · have hto : J64 (goesTo t (wd (nx s))).1 := by
                  unfold goesTo
                  split
                  · unfold J64; simp
                  · exact findN_in h.states.2
                split at hl
                · cases hl
                · cases hl
                · rename_i l hx
                  cases hl
                  have hset : l.length ≤ 10000 ∧ ∀ x ∈ l, J64 x.var ∧ CodeS x.value := by
                    split at hx
                    · cases hx; exact ⟨by simp, fun x hx => by cases hx⟩
                    · obtain ⟨a1, a2⟩ := setsOf_in hip h.vars.2 _ _ l hx
                      exact ⟨by omega, a2⟩
                  refine ⟨h.last h2 ht _ fun hr => ⟨hr.name, hr.args, hr.from_, ⟨hr.guards.1, by have := hr.guards.2; show r.guards.length ≤ _; omega⟩, ⟨fun p hp => ?_, ?_⟩⟩, keep _⟩
                  · rcases List.mem_append.1 hp with hp | hp
                    · exact hr.steps.1 p hp
                    · simp at hp
                      subst hp
                      exact ⟨hset.2, hset.1, hto⟩
                  · have := hr.steps.2
                    show (r.steps ++ [_]).length ≤ _
                    simp; omega
            · cases hl

theorem readL_in {ip : Ip} (hip : IpS ip) : ∀ (L : List Bs) (n : Nat) (t : Tb) (said : Nat) (u : Tb) (k : Nat) (e : Int), TbS t said → (t.rules ≠ [] → 2 ≤ said) → (∀ x ∈ L, x.length ≤ 8192) → readL ip L n t said = some (u, k, e) → ∃ m, m ≤ said + L.length ∧ TbS u m
  | [], n, t, said, u, k, e, h, hr, hL, hp => by
    unfold readL at hp
    split at hp
    · cases hp; exact ⟨0, Nat.zero_le _, TbS.empty⟩
    · cases hp; exact ⟨said, Nat.le_add_right _ _, h⟩
  | x :: r, n, t, said, u, k, e, h, hr, hL, hp => by
    unfold readL at hp
    have hx := hL x List.mem_cons_self
    have hL' : ∀ y ∈ r, y.length ≤ 8192 := fun y hy => hL y (List.mem_cons_of_mem _ hy)
    split at hp
    · obtain ⟨m, h1, h2⟩ := readL_in hip r (n + 1) t said u k e h hr hL' hp
      exact ⟨m, by rw [List.length_cons]; omega, h2⟩
    · cases hl : line ip t said (trim x) with
      | none => rw [hl] at hp; cases hp
      | some y =>
        rw [hl] at hp
        cases y with
        | error e' => cases hp; exact ⟨0, Nat.zero_le _, TbS.empty⟩
        | ok v =>
          have ht : (trim x).length ≤ 8192 := by
            have := trim_le x
            omega
          obtain ⟨a1, a2⟩ := h.line hip hr ht hl
          obtain ⟨m, h1, h2⟩ := readL_in hip r (n + 1) v (said + 1) u k e a1 a2 hL' hp
          exact ⟨m, by rw [List.length_cons]; omega, h2⟩
theorem parseT_in {ip : Ip} (hip : IpS ip) {s : Bs} {t : Tb} {n : Nat} {e : Int} (h : parseT ip s = some (t, n, e)) : ∃ m, m ≤ 10000 ∧ TbS t m := by
  unfold parseT at h
  split at h
  · cases h; exact ⟨0, Nat.zero_le _, TbS.empty⟩
  · rename_i hl
    obtain ⟨h1, h2⟩ := cutL_len s.length s (Nat.le_refl _)
    obtain ⟨m, h3, h4⟩ := readL_in hip _ 0 _ 0 t n e TbS.empty (fun h => absurd rfl h) (fun x hx => by have := h2 x hx; omega) h
    exact ⟨m, by omega, h4⟩

theorem CodeS.wf {c : List In} (h : CodeS c) : CodeWf c := ⟨fun i hi => by have := h.1 i hi; omega, by have := h.2; omega⟩
theorem J64.i {n : Int} (h : J64 n) : I64 n := by unfold J64 at h; unfold I64; omega
theorem TbS.wf {t : Tb} {m : Nat} (hm : m ≤ 10000) (h : TbS t m) : TbWf t := by
  refine ⟨⟨fun x hx => by have := h.states.1 x hx; omega, by have := h.states.2; omega⟩, ⟨fun x hx => by have := h.vars.1 x hx; omega, by have := h.vars.2; omega⟩, ⟨fun x hx => (h.start.1 x hx).i, by have := h.start.2; omega⟩, ⟨fun r hr => ?_, by have := h.rules.2; omega⟩⟩
  have hr := h.rules.1 r hr
  refine ⟨by have := hr.name; omega, hr.args.i, ⟨fun x hx => (hr.from_.1 x hx).i, by have := hr.from_.2; omega⟩, ⟨fun g hg => ⟨(hr.guards.1 g hg).1.i, (hr.guards.1 g hg).2.wf⟩, by have := hr.guards.2; omega⟩, ⟨fun p hp => ?_, by have := hr.steps.2; omega⟩⟩
  have hp := hr.steps.1 p hp
  exact ⟨fun x hx => ⟨(hp.sets x hx).1.i, (hp.sets x hx).2.wf⟩, by have := hp.len; omega, hp.whither.i⟩
theorem TbS.bnd {t : Tb} {m : Nat} (hm : m ≤ 10000) (h : TbS t m) : Bnd t := by
  refine ⟨by have := h.states.2; omega, by have := h.vars.2; omega, by have := h.start.2; omega, by have := h.rules.2; omega, fun r hr => ?_⟩
  have hr := h.rules.1 r hr
  refine ⟨by have := hr.from_.2; omega, by have := hr.guards.2; omega, fun e he => by have := (hr.guards.1 e he).2.2; omega, by have := hr.steps.2; omega, fun p hp => ?_⟩
  have hp := hr.steps.1 p hp
  exact ⟨by have := hp.len; omega, fun z hz => by have := (hp.sets z hz).2.2; omega⟩

/-! ## The codes of ipT -/
def In8 (i : In) : Prop := (0 ≤ i.1 ∧ i.1 ≤ 16) ∧ (-1099511627776 ≤ i.2 ∧ i.2 ≤ 1099511627776)
theorem in8 (o x : Int) (h : (0 ≤ o ∧ o ≤ 16) ∧ (-1099511627776 ≤ x ∧ x ≤ 1099511627776)) : In8 (o, x) := h
theorem op_in {k : Nat} {s : Bs} {o : Int} (h : I.opAt k s = some o) : 0 ≤ o ∧ o ≤ 16 := by
  unfold I.opAt at h
  repeat' split at h
  all_goals first | (cases h; decide) | cases h
theorem con_in (p : Nat) (s : Bs) (r : List I.Tk) : ∀ c r', I.conR p s r = .ok c r' → ∀ i ∈ c, In8 i := by
  intro c r' h
  unfold I.conR at h
  split at h
  · split at h
    · rename_i hn
      cases h
      intro i hi
      simp at hi
      subst hi
      exact in8 _ _ ⟨by decide, hn⟩
    · cases h
  · cases h
theorem in_app {a b : List In} (ha : ∀ i ∈ a, In8 i) (hb : ∀ i ∈ b, In8 i) : ∀ i ∈ a ++ b, In8 i := fun i hi => by
  rcases List.mem_append.1 hi with h | h
  · exact ha i h
  · exact hb i h
theorem in_one {o x : Int} (h : (0 ≤ o ∧ o ≤ 16) ∧ (-1099511627776 ≤ x ∧ x ≤ 1099511627776)) : ∀ i ∈ [(o, x)], In8 i := fun i hi => by simp at hi; subst hi; exact h
theorem pa_in {vs : List Bs} {na : Int} (hv : vs.length ≤ 10000) {kd : I.Kd} {ts : List I.Tk} {x : I.Rs} (h : I.Pa vs na kd ts x) : (match kd with | .lo _ _ c => ∀ i ∈ c, In8 i | _ => True) → ∀ c r, x = .ok c r → ∀ i ∈ c, In8 i := by
  induction h with
  | six l x _ ih => exact ih
  | lvErr => intro _ c r h; cases h
  | lvGo k l c r x _ _ _ _ ih1 ih2 => exact fun _ => ih2 (ih1 trivial c r rfl)
  | loStop k m c r _ => intro hc c' r' h; cases h; exact hc
  | loErr => intro _ c r h; cases h
  | loGo k m c q s o r d t x ho _ _ _ ih1 ih2 => exact fun hc => ih2 (in_app (in_app hc (ih1 trivial d t rfl)) (in_one ⟨op_in ho, by decide⟩))
  | num p v r hv => intro _ c r h; cases h; exact in_one ⟨by decide, by omega⟩
  | neg p l c r _ _ ih => intro _ c' r' h; cases h; exact in_app (ih trivial c r rfl) (in_one ⟨by decide, by decide⟩)
  | non p l c r _ ih => intro _ c' r' h; cases h; exact in_app (ih trivial c r rfl) (in_one ⟨by decide, by decide⟩)
  | atm l x _ _ _ ih => exact fun _ => ih trivial
  | aEnd => intro _ c r h; cases h
  | aNum p v r hv => intro _ c r h; cases h; exact in_one ⟨by decide, by omega⟩
  | aVar p k s r hk _ _ => intro _ c r h; cases h; exact in_one ⟨by decide, by have := (List.getElem?_eq_some_iff.1 hk).1; omega⟩
  | aArg p k r _ hk => intro _ c r h; cases h; exact in_one ⟨by decide, by omega⟩
  | aPar p l c q r _ ih => intro _ c' r' h; cases h; exact ih trivial c _ rfl
  | aTwo o p p' l c1 q r1 c2 q' r ho _ _ ih1 ih2 => intro _ c' r' h; cases h; exact in_app (in_app (ih1 trivial c1 _ rfl) (ih2 trivial c2 _ rfl)) (in_one ⟨by omega, by decide⟩)
  | aIf p p' l c1 q r1 c2 q' r2 c3 q'' r _ _ _ ih1 ih2 ih3 => intro _ c' r' h; cases h; exact in_app (in_app (in_app (ih1 trivial c1 _ rfl) (ih2 trivial c2 _ rfl)) (ih3 trivial c3 _ rfl)) (in_one ⟨by decide, by decide⟩)
  | wNum p d y r _ => exact fun _ => con_in _ _ _
  | wNeg p d y r _ => exact fun _ => con_in _ _ _
  | negErr => intro _ c r h; cases h
  | nonErr => intro _ c r h; cases h
  | aNone => intro _ c r h; cases h
  | aOver => intro _ c r h; cases h
  | aElse => intro _ c r h; cases h
  | aParErr => intro _ c r h; cases h
  | aParMis => intro _ c r h; cases h
  | aCallErr => intro _ c r h; cases h
  | arEnd => intro _ c r h; cases h
  | arMis => intro _ c r h; cases h
  | arErr => intro _ c r h; cases h
  | arGo => intro _ c r h; cases h
theorem ipT_s : IpS ipT := by
  intro s vs na c hv h
  unfold ipT at h
  injection h with h
  split at h
  · cases h
  · obtain ⟨h1, h2, h3⟩ := (I.text_total vs na s).choose_spec.choose_spec
    obtain ⟨x, hx⟩ : ∃ x, (I.text_total vs na s).choose_spec.choose = x := ⟨_, rfl⟩
    rw [hx] at h2 h3 h
    cases x with
    | err p e =>
      have he := I.pa_err h2 p e rfl
      unfold resOf at h
      cases h
      exact absurd rfl he
    | ok c' r =>
      obtain ⟨q, u, r', rfl⟩ := h3 c' r rfl
      unfold resOf at h
      simp only at h
      split at h
      · cases h
      · split at h
        · cases h
        · rename_i hl
          cases h
          exact ⟨pa_in hv h2 trivial c _ rfl, by omega⟩

/-- Of an expression that was shown ipT tells what was shown. -/
theorem ipT_is {vs : List Bs} {na : Int} {c : List In} (hvl : vs.length ≤ 10000) {v1 : Value} {w : World} (hg : Globs w) (hn : I.Names w v1 vs) (hc : (check c vs.length na).2 = 0) (h0 : 0 ≤ na) (h10 : na ≤ 10) (hap : I.Apart vs) (hnm : ∀ x ∈ vs, I.isName x = true) : ipT (I.showOf vs na c).1 vs na = some (c, 0) := by
  have hw : Was vs na (I.showOf vs na c).1 c := ⟨hc, rfl, h10, hap, hnm⟩
  obtain ⟨s, hs⟩ : ∃ s, (I.showOf vs na c).1 = s := ⟨_, rfl⟩
  rw [hs] at hw ⊢
  have hl := (was_pa hw).2.2.1
  obtain ⟨r, hr⟩ := ipT_some s vs na
  obtain ⟨v, w', ⟨⟨x, e, o⟩, -⟩, ⟨y, p, e', -, o', -⟩⟩ := calls_same (by kernel_rfl) (was_calls hw (by omega) hg hn) (ipT_ok.call s vs na r v1 w hr hg hn (by omega) hvl hnm h0 (by omega)) (fun z w' ⟨⟨v, hz, _⟩, _⟩ => ⟨_, hz⟩) (fun z w' ⟨v, p, hz, _⟩ => ⟨_, hz⟩)
  rw [e] at e'
  injection e' with e'
  injection e' with e'
  obtain ⟨h1, h2, h3⟩ : x = y ∧ (0 : Int) = p ∧ (0 : Int) = r.2 := by simpa using e'
  subst h1
  have hcode := sli_one (SlI.owns o) (SlI.owns (o' h3.symm))
  rw [hr]
  congr 1
  exact Prod.ext hcode.symm h3.symm
end Go.Proofs.YtfooiggedgcjcaaGreatDoor.T
