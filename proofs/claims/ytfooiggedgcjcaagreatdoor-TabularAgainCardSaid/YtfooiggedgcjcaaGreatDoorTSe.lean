/-
  Plain mathematics of layer 4: what was shown, as words, and derived back.
  Layer 4's statements: named.
  Layer 6: what a table that may be is bounded by, for its lines.
-/
import Derived.Test.YtfooiggedgcjcaaGreatDoorTSpec
import Derived.Test.YtfooiggedgcjcaaGreatDoorIBack
import Derived.Deep.DeepCutAuto
import Derived.Deep.QuietTactic
import Derived.BigQuiet
import Derived.Test.YtfooiggedgcjcaaGreatDoorTSd
import Derived.Test.YtfooiggedgcjcaaGreatDoorTRead
namespace Go.Proofs.YtfooiggedgcjcaaGreatDoor.I
open Go Go.Proofs.YtfooiggedgcjcaaGreatDoor.E
set_option linter.unusedVariables false

/-- What was shown, as words, and derived back. -/
theorem shown (vs : List Bs) (na : Int) (code : List In) (h : (showOf vs na code).2 = 0) (hna : na ≤ 10) (ha : Apart vs) (hv : ∀ s ∈ vs, isName s = true) :
    0 ≤ na ∧ code.length ≤ 31 ∧ (showOf vs na code).1 = text vs (exOf code) ∧ (text vs (exOf code)).length ≤ 2048 ∧ There vs na (exOf code) ∧ Nm vs (exOf code) ∧ codeOf (exOf code) = code := by
  have hc : (check code vs.length na).2 = 0 := by
    by_cases hc : (check code vs.length na).2 = 0
    · exact hc
    · rw [showOf_bad _ _ _ hc] at h
      exact h
  obtain ⟨hw, he⟩ := exOf_is code vs.length na hc
  have ht := there_of vs na hna hv _ hw
  have hm := nm_of vs na hna hv _ hw
  have hk := check_ok code vs.length na hc
  have hl := text_length vs na (exOf code) ht
  rw [he] at hl
  have hlt : (text vs (exOf code)).length = (pieces vs (exOf code)).flatten.length := rfl
  have h31 : code.length ≤ 31 ∧ 0 ≤ na := by
    exact ⟨hk.2.2.1, hk.2.1⟩
  exact ⟨h31.2, h31.1, by rw [showOf_good _ _ _ hc], by omega, ht, hm, he⟩
end Go.Proofs.YtfooiggedgcjcaaGreatDoor.I

namespace Go.Proofs.YtfooiggedgcjcaaGreatDoor.T
open Go Go.RowKit Go.Proofs.YtfooiggedgcjcaaGreatDoor.B Go.Proofs.YtfooiggedgcjcaaGreatDoor.K Go.Proofs.YtfooiggedgcjcaaGreatDoor.E Go.Proofs.YtfooiggedgcjcaaGreatDoor.R
set_option linter.unusedVariables false

theorem join_len (sep : Bs) (B : Nat) : ∀ (xs : List Bs), (∀ x ∈ xs, x.length ≤ B) → (Lib.join xs sep).length ≤ xs.length * (B + sep.length)
  | [], _ => by simp [Lib.join]
  | [x], h => by
    have := h x (by simp)
    simp [Lib.join]; omega
  | x :: y :: r, h => by
    have h1 := h x (by simp)
    have ih := join_len sep B (y :: r) (fun z hz => h z (List.mem_cons_of_mem _ hz))
    have e : Lib.join (x :: y :: r) sep = x ++ sep ++ Lib.join (y :: r) sep := by simp [Lib.join]
    rw [e]
    simp only [List.length_append, List.length_cons] at ih ⊢
    rw [Nat.add_mul (r.length + 1) 1]
    omega

theorem sets_few {t : Tb} (h : chk5 t = (0, 0, 0, 0)) : ∀ r ∈ t.rules, ∀ p ∈ r.steps, p.sets.length ≤ 6 := by
  obtain ⟨ht, hr⟩ := (chk5_zero t).1 h
  have hF := fine_of h
  intro r hrm p hp
  obtain ⟨k, hk⟩ := List.getElem?_of_mem hrm
  obtain ⟨j, hj⟩ := List.getElem?_of_mem hp
  have h1 := (hr k r hk ⟨9, countE r.steps.length 1 3, r.steps.length, stepBad t.states.length t.vars.length r.args r.steps⟩ (by simp [ruleParts])).2 j (List.getElem?_eq_some_iff.1 hj).1
  simp only [stepBad, hj] at h1
  unfold spBad at h1
  split at h1
  · cases h1
  · have hb := (firstBad_none _ _ _).1 (badE_zero h1)
    have hset : ∀ (i : Nat) s, p.sets[i]? = some s → placeE s.var t.vars.length ((p.sets.take i).any fun y => y.var == s.var) = 0 := by
      intro i s hs
      have := hb i (Nat.zero_le _) (by have := (List.getElem?_eq_some_iff.1 hs).1; omega)
      simp only [setBad, hs] at this
      split at this
      · rename_i hne; exact absurd this hne
      · rename_i hz; exact Decidable.not_not.1 hz
    have := pigeon t.vars.length (p.sets.map (·.var)) (fun x hx => by
      obtain ⟨s, hs, rfl⟩ := List.mem_map.1 hx
      exact (hF.sets r hrm p hp s hs).1) (nodup_of _ fun i x hx => by
      rw [List.getElem?_map] at hx
      obtain ⟨s, hs, rfl⟩ := Option.map_eq_some_iff.1 hx
      have := (placeE_zero (hset i s hs)).2.2
      rw [← List.map_take, List.any_map]
      exact this)
    rw [List.length_map] at this
    have := hF.vars
    omega

theorem expr_len {t : Tb} (hM : May t) {r : Rl} (hr : r ∈ t.rules) (c : List In) (hc : (check c t.vars.length r.args).2 = 0) : (I.showOf t.vars r.args c).1.length ≤ 2048 ∧ c.length ≤ 31 := by
  have ha : I.Apart t.vars := by
    intro i j s h1 h2
    obtain ⟨hi, e1⟩ := List.getElem?_eq_some_iff.1 h1
    obtain ⟨hj, e2⟩ := List.getElem?_eq_some_iff.1 h2
    exact (List.getElem_inj hM.vnd).1 (e1.trans e2.symm)
  obtain ⟨_, h31, ht, h2048, _, _, _⟩ := I.shown t.vars r.args c (by rw [I.showOf_good _ _ _ hc]) (by have := (hM.rule r hr).args; omega) ha hM.vname
  rw [ht]
  exact ⟨h2048, h31⟩

theorem at_len {l : List Bs} {B : Nat} (h : ∀ x ∈ l, x.length ≤ B) (n : Int) : (at_ l n).length ≤ B := by
  unfold at_
  rw [List.getD_eq_getElem?_getD]
  cases hg : l[n.toNat]? with
  | none => simp
  | some y => exact h y (List.mem_of_getElem? hg)

theorem head_len {t : Tb} (h : chk5 t = (0, 0, 0, 0)) {q : Rl} (hq : q ∈ t.rules) : (Lib.join (headWords t.states q) [32]).length ≤ 300 := by
  have hF := fine_of h
  have hM := may_of h
  have hS : ∀ y ∈ t.states, y.length ≤ 24 := fun y hy => I.name_length y (hM.sname y hy)
  have hR := hM.rule q hq
  have hnm := I.name_length _ hR.name
  have hfr := (hF.from_ q hq).1
  have hl := join_len [32] 24 (headWords t.states q) (fun y hy => by
    unfold headWords at hy
    simp only [List.mem_cons] at hy
    rcases hy with rfl | rfl | rfl | hy
    · decide
    · exact hnm
    · have := num_length q.args (by have := hR.args; omega); omega
    · split at hy
      · cases hy
      · rcases List.mem_cons.1 hy with rfl | hy
        · decide
        · obtain ⟨z, _, rfl⟩ := List.mem_map.1 hy
          exact at_len hS z)
  have hn : (headWords t.states q).length ≤ 12 := by
    unfold headWords
    split
    · simp
    · simp; omega
  have : (headWords t.states q).length * (24 + [32].length) ≤ 12 * 25 := Nat.mul_le_mul hn (by decide)
  omega

theorem sets_len {t : Tb} (h : chk5 t = (0, 0, 0, 0)) {q : Rl} (hq : q ∈ t.rules) : ∀ y ∈ q.steps, (Lib.join (y.sets.map (setText t q)) [59]).length ≤ 25000 := by
  have hF := fine_of h
  have hM := may_of h
  have hV : ∀ y ∈ t.vars, y.length ≤ 24 := fun y hy => I.name_length y (hM.vname y hy)
  intro y hy
  have hl := join_len [59] 4000 (y.sets.map (setText t q)) (fun z hz => by
    obtain ⟨st, hst, rfl⟩ := List.mem_map.1 hz
    have h1 := (expr_len hM hq st.value (hF.sets q hq y hy st hst).2).1
    have h2 := at_len hV st.var
    unfold setText
    simp only [behind, wSet, expr, List.flatMap_cons, List.flatMap_nil, List.length_append, List.length_cons, List.length_nil]
    omega)
  have hn := sets_few h q hq y hy
  rw [List.length_map] at hl
  have : y.sets.length * (4000 + [59].length) ≤ 6 * 4001 := Nat.mul_le_mul hn (by decide)
  omega

theorem line_len {t : Tb} (h : chk5 t = (0, 0, 0, 0)) {q : Rl} (hq : q ∈ t.rules) : ∀ y ∈ rlLines t q, y.length ≤ 30000 := by
  have hF := fine_of h
  have hM := may_of h
  have hS : ∀ y ∈ t.states, y.length ≤ 24 := fun y hy => I.name_length y (hM.sname y hy)
  intro y hy
  unfold rlLines at hy
  rcases List.mem_cons.1 hy with rfl | hy
  · have := head_len h hq
    unfold headWords at this
    rw [join_behind] at this
    have e : lnRule t q = wRule ++ behind (q.name :: num q.args :: (if q.from_.isEmpty then [] else wFrom :: q.from_.map (at_ t.states))) := rfl
    rw [e]; omega
  · rcases List.mem_append.1 hy with hy | hy
    · obtain ⟨g, hg, rfl⟩ := List.mem_map.1 hy
      have hR := (hM.rule q hq).guards g hg
      have h1 := (expr_len hM hq g.test hR.2).1
      have h2 := num_length g.code (by omega)
      unfold lnGuard
      simp only [behind, wGuard, expr, List.flatMap_cons, List.flatMap_nil, List.length_append, List.length_cons, List.length_nil]
      omega
    · obtain ⟨p, hp, rfl⟩ := List.mem_map.1 hy
      have h1 := sets_len h hq p hp
      have h2 : (toText t p).length ≤ 24 := by
        unfold toText
        split
        · decide
        · exact at_len hS _
      unfold lnStep
      simp only [behind, wStep, List.flatMap_cons, List.flatMap_nil, List.length_append, List.length_cons, List.length_nil]
      omega

/-- What a rule's lines ask of their table. -/
theorem orin_of {t : Tb} (h : chk5 t = (0, 0, 0, 0)) {w : World} {s x n r f g p : Value} {q : Rl} (hq : q ∈ t.rules) (hg : I.Glob w) (hs : SlB w s t.states) (hx : SlB w x t.vars)
    (hf : SlN w f q.from_) (hgd : SlOf w 2 (GdIs w) g q.guards) (hsp : SlOf w 2 (SpIs w) p q.steps) : OrIn w s x n r f g p t q := by
  have hF := fine_of h
  have hM := may_of h
  have hS : ∀ y ∈ t.states, y.length ≤ 24 := fun y hy => I.name_length y (hM.sname y hy)
  have hV : ∀ y ∈ t.vars, y.length ≤ 24 := fun y hy => I.name_length y (hM.vname y hy)
  have hR := hM.rule q hq
  have hnm := I.name_length _ hR.name
  have hfr := (hF.from_ q hq).1
  refine ⟨hg, hs, hx, hf, hgd, hsp, hM, hR, ⟨by omega, by have := (hF.guards q hq).1; omega, by have := (hF.steps q hq).1; omega, fun y hy => by have := sets_few h q hq y hy; omega⟩, ⟨by have := hF.states.2; omega, by have := hF.vars; omega⟩, ?_, fun c hc => (expr_len hM hq c hc).1, fun y hy => by have := hV y hy; omega, fun y hy => by have := hS y hy; omega, ?_, fun c hc => by have := (expr_len hM hq c hc).2; omega⟩
  · have := head_len h hq; omega
  · intro y hy
    have := sets_len h hq y hy; omega
end Go.Proofs.YtfooiggedgcjcaaGreatDoor.T
