/-
  For the statement ExprValues: lists with some numbers put in another's place, rows in which a cell is set.
-/
import Derived.Test.YtaiogcmbpalbpaaEEvalAux
import Derived.OneCell
namespace Go.Proofs.Ytaiogcmbpalbpaa.E
open Go Go.RowKit Go.Proofs.Ytaiogcmbpalbpaa.B Go.Proofs.Ytaiogcmbpalbpaa.K
set_option linter.unusedVariables false

theorem eval_zero (code : List In) (vs ar : List Int) (h : (eval code vs ar).2 ≠ 0) : (eval code vs ar).1 = 0 := by
  by_cases hc : (check code vs.length ar.length).2 = 0
  · by_cases hv : (vs.all isVal && ar.all isVal) = true
    · rw [eval_run _ _ _ hc hv] at h ⊢
      cases hr : run vs ar code [] with
      | none => rfl
      | some st =>
        cases st with
        | nil => rfl
        | cons x r => rw [hr] at h; exact absurd rfl h
    · rw [eval_none _ _ _ hc (by simpa using hv)]
  · rw [eval_bad _ _ _ hc]

/-- The first k numbers, those below lim that are not told put to another. -/
def mix (u : List Bool) (lim : Nat) (x : Int) (k : Nat) (l : List Int) : List Int := l.mapIdx fun j y => if j < k ∧ j < lim ∧ u[j]? ≠ some true then x else y

theorem mix_length (u : List Bool) (lim : Nat) (x : Int) (k : Nat) (l : List Int) : (mix u lim x k l).length = l.length := by simp [mix]

theorem mix_at (u : List Bool) (lim : Nat) (x : Int) (k : Nat) (l : List Int) (j : Nat) : (mix u lim x k l)[j]? = (l[j]?).map fun y => if j < k ∧ j < lim ∧ u[j]? ≠ some true then x else y := by simp [mix]

theorem mix_zero (u : List Bool) (lim : Nat) (x : Int) (l : List Int) : mix u lim x 0 l = l := by
  apply List.ext_getElem?; intro j
  rw [mix_at]
  cases l[j]? with
  | none => rfl
  | some y => simp

theorem mix_put (u : List Bool) (lim : Nat) (x : Int) (k : Nat) (l : List Int) (hk : k < l.length) (hc : k < lim ∧ u[k]? ≠ some true) : mix u lim x (k + 1) l = (mix u lim x k l).set k x := by
  apply List.ext_getElem?; intro j
  rw [List.getElem?_set, mix_at, mix_at, mix_length]
  by_cases hj : k = j
  · subst hj
    rw [if_pos rfl, if_pos hk, List.getElem?_eq_getElem hk]
    simp only [Option.map]
    rw [if_pos ⟨by omega, hc⟩]
  · rw [if_neg hj]
    cases l[j]? with
    | none => rfl
    | some y =>
      simp only [Option.map]
      by_cases h1 : j < k ∧ j < lim ∧ u[j]? ≠ some true
      · rw [if_pos h1, if_pos ⟨by omega, h1.2⟩]
      · rw [if_neg h1, if_neg (fun h => h1 ⟨by omega, h.2⟩)]

theorem mix_skip (u : List Bool) (lim : Nat) (x : Int) (k : Nat) (l : List Int) (hc : ¬ (k < lim ∧ u[k]? ≠ some true)) : mix u lim x (k + 1) l = mix u lim x k l := by
  apply List.ext_getElem?; intro j
  rw [mix_at, mix_at]
  cases l[j]? with
  | none => rfl
  | some y =>
    simp only [Option.map]
    by_cases h1 : j < k ∧ j < lim ∧ u[j]? ≠ some true
    · rw [if_pos h1, if_pos ⟨by omega, h1.2⟩]
    · rw [if_neg h1, if_neg (fun h => h1 ⟨by
        rcases Nat.lt_or_ge j k with h2 | h2
        · exact h2
        · exfalso
          obtain rfl : j = k := by omega
          exact hc h.2, h.2⟩)]

theorem mix_val (u : List Bool) (lim : Nat) (x : Int) (k : Nat) (l : List Int) (hx : isVal x = true) (hl : ∀ y ∈ l, isVal y = true) : ∀ y ∈ mix u lim x k l, isVal y = true := by
  intro y hy
  obtain ⟨j, hj⟩ := List.mem_iff_getElem?.1 hy
  rw [mix_at] at hj
  cases hlj : l[j]? with
  | none => rw [hlj] at hj; cases hj
  | some z =>
    rw [hlj] at hj
    simp only [Option.map, Option.some.injEq] at hj
    split at hj
    · rw [← hj]; exact hx
    · rw [← hj]; exact hl z (List.mem_of_getElem? hlj)

/-- What is named is as it was. -/
theorem mix_named (o most x : Int) (lim k : Nat) (hm : most = (lim : Int)) (code : List In) (l : List Int) (i : In) (hi : i ∈ code) (h1 : i.1 = o) (h0 : 0 ≤ i.2) :
    l.getD i.2.toNat 0 = (mix (uses o most code) lim x k l).getD i.2.toNat 0 := by
  rw [List.getD_eq_getElem?_getD, List.getD_eq_getElem?_getD, mix_at]
  cases l[i.2.toNat]? with
  | none => rfl
  | some z =>
    simp only [Option.map]
    rw [if_neg]
    rintro ⟨_, h3, h4⟩
    exact uses_not o most code i.2.toNat (by omega) h4 i hi h1 (by omega)

/-- P3.2, P3.4: an expression hangs on what it names alone. -/
theorem eval_mix (code : List In) (vs ar : List Int) (n x : Int) (k1 k2 : Nat) (h : eval code vs ar = (n, 0)) (hx : isVal x = true) :
    eval code (mix (uses 2 6 code) 6 x k1 vs) (mix (uses 3 4 code) 4 x k2 ar) = (n, 0) := by
  obtain ⟨hc, hv, ha, hr, _⟩ := eval_good code vs ar n h
  have hwf := (check_ok code _ _ hc).2.2.2
  have hnn : ∀ i ∈ code, (i.1 = 2 → 0 ≤ i.2) ∧ (i.1 = 3 → 0 ≤ i.2) := by
    have gen : ∀ (c : List In) (g z : Int), crun vs.length ar.length c g = .ok z → ∀ i ∈ c, (i.1 = 2 → 0 ≤ i.2) ∧ (i.1 = 3 → 0 ≤ i.2) := by
      intro c
      induction c with
      | nil => intro g z _ i hi; cases hi
      | cons j r ih =>
        intro g z hg i hi
        have hat := crun_at vs.length ar.length (j :: r) 0 j rfl g z hg
        rcases List.mem_cons.1 hi with rfl | hi
        · have hrt := hat.2.1
          refine ⟨fun e => ?_, fun e => ?_⟩
          · unfold right at hrt
            rw [if_neg (by omega), if_pos e] at hrt
            exact (of_decide_eq_true hrt).1
          · unfold right at hrt
            rw [if_neg (by omega), if_neg (by omega), if_pos e] at hrt
            exact (of_decide_eq_true hrt).1
        · exact ih _ z hat.2.2.2 i hi
    exact gen code 0 1 hwf
  refine eval_of code _ _ n (by rw [mix_length, mix_length]; exact hc) (mix_val _ _ _ _ _ hx hv) (mix_val _ _ _ _ _ hx ha) ?_
  rw [← hr]
  exact (run_named vs ar _ _ code [] (fun i hi e => mix_named 2 6 x 6 k1 rfl code vs i hi e ((hnn i hi).1 e)) (fun i hi e => mix_named 3 4 x 4 k2 rfl code ar i hi e ((hnn i hi).2 e))).symm

/-- A cell of a row of the call's own set. -/
theorem owns_set {w : World} {B : Nat} {e : TypeId} {v : Value} {n : Nat} {xs : List Value} (h : w.ownsRow B e 1 v n xs) (j : Nat) (hj : j < n) (u : Value) :
    ∃ g cap old, v = .slice (some ⟨g, 0, none⟩) n cap ∧ B ≤ g ∧ w.cell? ⟨g, j, none⟩ = some old ∧ w.frozen? ⟨g, j, none⟩ = false ∧ (w.setCell ⟨g, j, none⟩ u).ownsRow B e 1 v n (xs.set j u) ∧ Below B w (w.setCell ⟨g, j, none⟩ u) := by
  obtain ⟨hl, h⟩ := h
  rcases h with ⟨_, h0⟩ | ⟨g, cap, cur, rfl, hb, hg, hn, hc, hcs, ht⟩
  · omega
  · obtain ⟨old, ho, hf⟩ := row_cell hg (show j < cur.size by omega)
    refine ⟨g, cap, old, rfl, hb, ho, hf, ⟨by simpa using hl, Or.inr ⟨g, cap, cur.setIfInBounds j u, rfl, hb, heap_setCell_same w g j cur e u hg, hn, hc, by simpa using hcs, ?_⟩⟩, (Below.refl _ _).setCell hb u⟩
    rw [Array.toList_setIfInBounds, List.take_set, ht]

theorem owns_set2 {w : World} {B g cap : Nat} {e : TypeId} {n : Nat} {xs : List Value} (h : w.ownsRow B e 1 (.slice (some ⟨g, 0, none⟩) n cap) n xs) (j : Nat) (hj : j < n) (u : Value) :
    ∃ old, w.cell? ⟨g, j, none⟩ = some old ∧ w.frozen? ⟨g, j, none⟩ = false ∧ (w.setCell ⟨g, j, none⟩ u).ownsRow B e 1 (.slice (some ⟨g, 0, none⟩) n cap) n (xs.set j u) ∧ Below B w (w.setCell ⟨g, j, none⟩ u) := by
  obtain ⟨g', cap', old, hv, hb, h1, h2, h3, h4⟩ := owns_set h j hj u
  cases hv
  exact ⟨old, h1, h2, h3, h4⟩

theorem owns_at {w : World} {B g cap : Nat} {e : TypeId} {n : Nat} {xs : List Value} (h : w.ownsRow B e 1 (.slice (some ⟨g, 0, none⟩) n cap) n xs) : B ≤ g ∧ g < w.heap.size := by
  obtain ⟨_, h⟩ := h
  rcases h with ⟨h, _⟩ | ⟨g', cap', cur, hv, hb, hg, _⟩
  · cases h
  · cases hv
    exact ⟨hb, (Array.getElem?_eq_some_iff.1 hg).1⟩

theorem owns_form {w : World} {B : Nat} {e : TypeId} {v : Value} {n : Nat} {xs : List Value} (h : w.ownsRow B e 1 v n xs) (hv : v ≠ .slice none 0 0) : ∃ g cap, v = .slice (some ⟨g, 0, none⟩) n cap := by
  obtain ⟨_, h⟩ := h
  rcases h with ⟨h, _⟩ | ⟨g, cap, _, hv, _⟩
  · exact absurd h hv
  · exact ⟨g, cap, hv⟩
end Go.Proofs.Ytaiogcmbpalbpaa.E
