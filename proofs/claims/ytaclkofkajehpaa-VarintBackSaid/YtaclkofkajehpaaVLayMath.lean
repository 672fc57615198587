/-
  Plain mathematics: texts and lists laid as bytes. No program is named here.
-/
import Derived.Test.YtaclkofkajehpaaVMath
namespace Go.Proofs.Ytaclkofkajehpaa.V
open Go

/-- A text's bytes, or that it is too big. -/
def textOf (l : List UInt8) : List UInt8 × Int := if 4096 < l.length then ([], 4) else (num l.length ++ l, 0)
def numOf (n : Int) : List UInt8 × Int := (num n, 0)
def comb (acc : List UInt8) (q : List UInt8 × Int) : List UInt8 × Int := if q.2 ≠ 0 then ([], q.2) else (acc ++ q.1, 0)
def layAll {α : Type} (item : α → List UInt8 × Int) : List α → List UInt8 × Int
  | [] => ([], 0)
  | x :: r => if (item x).2 ≠ 0 then ([], (item x).2) else comb (item x).1 (layAll item r)
/-- A list's bytes. -/
def layList {α : Type} (item : α → List UInt8 × Int) (l : List α) : List UInt8 × Int := if 256 < l.length then ([], 4) else comb (num l.length) (layAll item l)

theorem comb_comb (a b : List UInt8) (q : List UInt8 × Int) : comb a (comb b q) = comb (a ++ b) q := by
  unfold comb
  by_cases h : q.2 = 0 <;> simp [h]
theorem comb_nil (a : List UInt8) : comb a ([], 0) = (a, 0) := by simp [comb]
theorem comb_err (a : List UInt8) {e : Int} (h : e ≠ 0) : comb a ([], e) = ([], e) := by simp [comb, h]
theorem comb_id (q : List UInt8 × Int) (h : q.2 ≠ 0 → q = ([], q.2)) : comb [] q = q := by
  unfold comb
  by_cases h0 : q.2 = 0
  · rw [if_neg (by simp [h0])]; obtain ⟨l, e⟩ := q; simp at h0 ⊢; exact h0.symm
  · rw [if_pos h0]; exact (h h0).symm
theorem layAll_zero {α : Type} (item : α → List UInt8 × Int) (l : List α) : (layAll item l).2 ≠ 0 → layAll item l = ([], (layAll item l).2) := by
  cases l with
  | nil => intro h; exact absurd rfl h
  | cons x r =>
    simp only [layAll]
    intro h
    split
    · rfl
    · rename_i h1
      simp only [h1, if_false] at h ⊢
      unfold comb at h ⊢
      split
      · rfl
      · rename_i h2; simp [h2] at h
theorem layAll_end {α : Type} (item : α → List UInt8 × Int) (l : List α) (k : Nat) (h : l.length ≤ k) : layAll item (l.drop k) = ([], 0) := by
  rw [List.drop_eq_nil_of_le h]; rfl
theorem layAll_next {α : Type} (item : α → List UInt8 × Int) (l : List α) (k : Nat) {x : α} {b : List UInt8} (h : l[k]? = some x) (hx : item x = (b, 0)) :
    layAll item (l.drop k) = comb b (layAll item (l.drop (k + 1))) := by
  obtain ⟨hk, rfl⟩ := List.getElem?_eq_some_iff.1 h
  rw [List.drop_eq_getElem_cons hk]
  simp [layAll, hx]
theorem layAll_err {α : Type} (item : α → List UInt8 × Int) (l : List α) (k : Nat) {x : α} {b : List UInt8} {e : Int} (h : l[k]? = some x) (hx : item x = (b, e)) (he : e ≠ 0) :
    layAll item (l.drop k) = ([], e) := by
  obtain ⟨hk, rfl⟩ := List.getElem?_eq_some_iff.1 h
  rw [List.drop_eq_getElem_cons hk]
  simp [layAll, hx, he]
theorem textOf_len (l : List UInt8) (h : l.length ≤ 9223372036854775807) : (textOf l).1.length ≤ 4106 := by
  unfold textOf
  split
  · simp
  · have := num_len l.length (by omega) (by omega)
    simp only [List.length_append]
    omega

end Go.Proofs.Ytaclkofkajehpaa.V
