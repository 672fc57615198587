/-
  Plain mathematics for the program's Fold: what is folded so far has as many instructions as numbers wait; what an instruction does to constants.
-/
import Derived.Test.YtaiogcmbpalbpaaEEvalAux
namespace Go.Proofs.Ytaiogcmbpalbpaa.E
open Go
set_option linter.unusedVariables false

theorem crun_le (nv na : Int) (l : List In) (h h' : Int) (hc : crun nv na l h = .ok h') (h0 : 0 ≤ h) : 0 ≤ h' ∧ h' ≤ h + l.length := by
  induction l generalizing h with
  | nil => simp only [crun] at hc; cases hc; simp; omega
  | cons i r ih =>
    have h1 := crun_at nv na (i :: r) 0 i rfl h h' hc
    have h2 := ih (h - takes i.1 + 1) (by simpa using h1.2.2.2) (by have := h1.2.2.1; omega)
    have := h1.1
    rw [List.length_cons]
    omega

theorem crun_split (nv na : Int) (a b : List In) (h z : Int) (hc : crun nv na (a ++ b) h = .ok z) : ∃ y, crun nv na a h = .ok y ∧ crun nv na b y = .ok z := by
  rw [crun_append] at hc
  cases ha : crun nv na a h with
  | error e => rw [ha] at hc; cases hc
  | ok y => rw [ha] at hc; exact ⟨y, rfl, hc⟩

/-- What has been folded of the first K instructions. -/
def outOf (code : List In) (K : Nat) : List In := (code.take K).foldl fstep []

theorem outOf_zero (code : List In) : outOf code 0 = [] := by simp [outOf]
theorem outOf_succ (code : List In) (K : Nat) (i : In) (h : code[K]? = some i) : outOf code (K + 1) = fstep (outOf code K) i := by
  unfold outOf; rw [List.take_add_one, h, Option.toList_some, List.foldl_append]; rfl
theorem outOf_all (code : List In) (K : Nat) (h : code.length ≤ K) : outOf code K = code.foldl fstep [] := by
  unfold outOf; rw [List.take_of_length_le h]

theorem out_state (B : Int) (code : List In) (hok : crun B B code 0 = .ok 1) (K : Nat) (i : In) (hi : code[K]? = some i) :
    0 ≤ takes i.1 ∧ takes i.1 ≤ ((outOf code K).length : Int) ∧ (outOf code K).length ≤ K ∧ (∀ c ∈ outOf code K, c.1 = 1 → isVal c.2 = true) ∧ (i.1 = 1 → isVal i.2 = true) := by
  have hsp : code = code.take K ++ code.drop K := (List.take_append_drop K code).symm
  rw [hsp] at hok
  obtain ⟨h, h1, h2⟩ := crun_split B B _ _ _ _ hok
  have F := Folds.all B (code.take K) [] [] 0 h Folds.nil h1
  have F' : Folds (code.take K) (outOf code K) := F
  have hr : crun B B (outOf code K).reverse 0 = .ok h := (F'.chk B B 0).trans h1
  have hle := crun_le B B _ 0 h hr (Int.le_refl 0)
  rw [List.length_reverse] at hle
  have hat := crun_at B B code K i hi h 1 h2
  have hlen := F'.len
  rw [List.length_take] at hlen
  refine ⟨hat.1, by omega, by omega, F'.val, fun e => ?_⟩
  have hrt := hat.2.1
  obtain ⟨o, x⟩ := i
  simp only at e
  subst e
  unfold right at hrt
  rwa [if_pos rfl] at hrt

theorem fstep_zero (out : List In) (i : In) (h : takes i.1 = 0) : fstep out i = i :: out := by
  unfold fstep; rw [if_neg (by omega), if_neg (by omega), if_neg (by omega)]

/-- One of those that it takes is no constant. -/
theorem fstep_not (out : List In) (i : In) (ht : 0 < takes i.1) (j : Nat) (c : In) (hj : out[j]? = some c) (hlt : (j : Int) < takes i.1) (hc : c.1 ≠ 1) : fstep out i = i :: out := by
  unfold fstep
  split
  · rename_i h1
    split
    · exfalso
      match j, hj with
      | 0, hj => simp at hj; subst hj; exact hc rfl
      | j + 1, _ => omega
    · rfl
  · split
    · rename_i h1 h2
      split
      · exfalso
        match j, hj with
        | 0, hj => simp at hj; subst hj; exact hc rfl
        | 1, hj => simp at hj; subst hj; exact hc rfl
        | j + 2, _ => omega
      · rfl
    · split
      · rename_i h1 h2 h3
        split
        · exfalso
          match j, hj with
          | 0, hj => simp at hj; subst hj; exact hc rfl
          | 1, hj => simp at hj; subst hj; exact hc rfl
          | 2, hj => simp at hj; subst hj; exact hc rfl
          | j + 3, _ => omega
        · rfl
      · rfl

/-- A constant. -/
def con (a : Int) : In := (1, a)

/-- All that it takes are constants. -/
theorem fstep_yes (vs ar : List Int) (st : List Int) (rest : List In) (i : In) (m : Option Int) (r : List Int) (hp : 0 < takes i.1) (ht : takes i.1 = (st.length : Int)) (hr : r.length = 0)
    (hs : step vs ar i st = m.map (· :: r)) : fstep (st.map con ++ rest) i = match (motive := Option Int → List In) m with | some n => con n :: rest | none => i :: (st.map con ++ rest) := by
  obtain rfl := List.length_eq_zero_iff.1 hr
  have htr := takes_range i.1
  obtain ⟨o, x⟩ := i
  simp only at ht hp htr
  have inj : ∀ m' : Option Int, m'.map (· :: ([] : List Int)) = m.map (· :: []) → m' = m := by
    intro m' h
    cases m' <;> cases m <;> simp_all
  match st, ht with
  | [], ht => simp at ht; omega
  | [a], ht =>
    have h1 : takes o = 1 := by simpa using ht
    rw [step_one vs ar o x a [] h1] at hs
    have hm := inj _ hs
    unfold fstep
    simp only [h1, List.map_cons, List.map_nil, List.cons_append, List.nil_append, con, hm, if_true]
    cases m <;> rfl
  | [b, a], ht =>
    have h1 : takes o = 2 := by simpa using ht
    rw [step_two vs ar o x a b [] h1] at hs
    have hm := inj _ hs
    unfold fstep
    rw [if_neg (by simp only; omega), if_pos h1]
    simp only [List.map_cons, List.map_nil, List.cons_append, List.nil_append, con, hm]
    cases m <;> rfl
  | [c, b, a], ht =>
    have h1 : takes o = 3 := by simpa using ht
    rw [step_three vs ar o x a b c [] h1] at hs
    have hm := inj _ hs
    unfold fstep
    rw [if_neg (by simp only; omega), if_neg (by simp only; omega), if_pos h1]
    simp only [List.map_cons, List.map_nil, List.cons_append, List.nil_append, con, hm]
    cases m <;> rfl
  | _ :: _ :: _ :: _ :: _, ht => simp at ht; omega

end Go.Proofs.Ytaiogcmbpalbpaa.E
