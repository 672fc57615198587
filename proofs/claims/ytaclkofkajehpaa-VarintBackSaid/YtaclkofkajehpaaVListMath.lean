/-
  Plain mathematics: counts, texts and lists that stand in bytes. No program is named here.
-/
import Derived.Test.YtaclkofkajehpaaVRead
namespace Go.Proofs.Ytaclkofkajehpaa.V
open Go

/-- A number that says how many follow. -/
def countOf (r : Int × Int × Int) (most : Int) : Int × Int × Int :=
  if r.2.2 ≠ 0 then (0, 0, r.2.2) else if r.1 < 0 then (0, 0, 6) else if most < r.1 then (0, 0, 4) else (r.1, r.2.1, 0)
def count (s : List UInt8) (p most : Int) : Int × Int × Int := countOf (rdAt s p) most

/-- A text at a place. -/
def txtOf (s : List UInt8) (c : Int × Int × Int) : List UInt8 × Int × Int :=
  if c.2.2 ≠ 0 then ([], 0, c.2.2) else if (s.length : Int) - c.2.1 < c.1 then ([], 0, 5) else ((s.drop c.2.1.toNat).take c.1.toNat, c.2.1 + c.1, 0)
def txt (s : List UInt8) (p : Int) : List UInt8 × Int × Int := txtOf s (count s p 4096)

/-- So many items, one behind the other. -/
def app {α : Type} (pre : List α) (r : List α × Int × Int) : List α × Int × Int := if r.2.2 ≠ 0 then ([], 0, r.2.2) else (pre ++ r.1, r.2.1, 0)
def items {α : Type} (item : Int → α × Int × Int) : Nat → Int → List α × Int × Int
  | 0, p => ([], p, 0)
  | k + 1, p => if (item p).2.2 ≠ 0 then ([], 0, (item p).2.2) else app [(item p).1] (items item k (item p).2.1)
def listOf {α : Type} (item : Int → α × Int × Int) (c : Int × Int × Int) : List α × Int × Int := if c.2.2 ≠ 0 then ([], 0, c.2.2) else items item c.1.toNat c.2.1
def nums (s : List UInt8) (p : Int) : List Int × Int × Int := listOf (rdAt s) (count s p 256)
def txts (s : List UInt8) (p : Int) : List (List UInt8) × Int × Int := listOf (txt s) (count s p 256)

theorem app_app {α : Type} (a b : List α) (r : List α × Int × Int) : app a (app b r) = app (a ++ b) r := by
  unfold app
  by_cases h : r.2.2 = 0 <;> simp [h]
theorem app_err {α : Type} (a : List α) {e : Int} (h : e ≠ 0) : app a (([] : List α), (0 : Int), e) = ([], 0, e) := by simp [app, h]
theorem app_nil {α : Type} (a : List α) (q : Int) : app a (([] : List α), q, 0) = (a, q, 0) := by simp [app]
theorem items_err {α : Type} (item : Int → α × Int × Int) (k : Nat) (p : Int) {x : α} {q e : Int} (h : item p = (x, q, e)) (he : e ≠ 0) : items item (k + 1) p = ([], 0, e) := by
  simp [items, h, he]
theorem items_next {α : Type} (item : Int → α × Int × Int) (k : Nat) (p : Int) {x : α} {q : Int} (h : item p = (x, q, 0)) : items item (k + 1) p = app [x] (items item k q) := by
  simp [items, h]
/-- What an error's answer is. -/
theorem items_zero {α : Type} (item : Int → α × Int × Int) (k : Nat) (p : Int) : (items item k p).2.2 ≠ 0 → items item k p = ([], 0, (items item k p).2.2) := by
  cases k with
  | zero => intro h; exact absurd rfl h
  | succ k =>
    simp only [items]
    intro h
    split
    · rfl
    · rename_i h1
      simp only [h1, if_false] at h ⊢
      unfold app at h ⊢
      split
      · rfl
      · rename_i h2; simp [h2] at h

theorem app_id {α : Type} (r : List α × Int × Int) (h : r.2.2 ≠ 0 → r = ([], 0, r.2.2)) : app [] r = r := by
  unfold app
  by_cases h0 : r.2.2 = 0
  · rw [if_neg (by simp [h0])]; obtain ⟨l, q, e⟩ := r; simp at h0 ⊢; exact h0.symm
  · rw [if_pos h0]; exact (h h0).symm

theorem items_len {α : Type} (item : Int → α × Int × Int) : ∀ (k : Nat) (p : Int), (items item k p).1.length ≤ k
  | 0, p => Nat.le_refl _
  | k + 1, p => by
    have := items_len item k (item p).2.1
    simp only [items]
    split
    · simp
    · unfold app
      split
      · simp
      · simp; omega

theorem rdAt_ok (s : List UInt8) (p : Int) {x q : Int} (h : rdAt s p = (x, q, 0)) :
    0 ≤ p ∧ p < q ∧ q ≤ s.length ∧ q ≤ p + 10 ∧ x = unzz (rd (s.drop p.toNat)).2.1 ∧ q = p + (rd (s.drop p.toNat)).2.2 ∧ (rd (s.drop p.toNat)).1 = 0 := by
  unfold rdAt at h
  by_cases hp : p < 0 ∨ (s.length : Int) < p
  · rw [if_pos hp] at h; simp at h
  · rw [if_neg hp] at h
    by_cases h0 : (rd (s.drop p.toNat)).1 = 0
    · rw [if_pos h0] at h
      have hok := rd_ok _ h0
      simp only [Prod.mk.injEq, and_true] at h
      have h1 := hok.1
      rw [List.length_drop] at h1
      exact ⟨by omega, by omega, by omega, by omega, h.1.symm, h.2.symm, h0⟩
    · rw [if_neg h0] at h
      simp only [Prod.mk.injEq] at h
      omega

theorem rdAt_err (s : List UInt8) (p : Int) {x q e : Int} (h : rdAt s p = (x, q, e)) (he : e ≠ 0) : x = 0 ∧ q = 0 := by
  unfold rdAt at h
  split at h
  · simp only [Prod.mk.injEq] at h; exact ⟨h.1.symm, h.2.1.symm⟩
  · split at h
    · simp only [Prod.mk.injEq] at h; exact absurd h.2.2.symm he
    · simp only [Prod.mk.injEq] at h; exact ⟨h.1.symm, h.2.1.symm⟩

theorem unzz_bounds (u : Nat) (h : u < 18446744073709551616) : -9223372036854775808 ≤ unzz u ∧ unzz u ≤ 9223372036854775807 := by
  unfold unzz
  split <;> omega

theorem rdAt_bounds (s : List UInt8) (p : Int) {x q : Int} (h : rdAt s p = (x, q, 0)) : -9223372036854775808 ≤ x ∧ x ≤ 9223372036854775807 := by
  have h1 := rdAt_ok s p h
  rw [h1.2.2.2.2.1]
  exact unzz_bounds _ (rd_ok _ h1.2.2.2.2.2.2).2.2.2.1

theorem count_ok (s : List UInt8) (p most : Int) {n q : Int} (h : count s p most = (n, q, 0)) : 0 ≤ n ∧ n ≤ most ∧ p < q ∧ 0 ≤ q ∧ q ≤ s.length ∧ rdAt s p = (n, q, 0) := by
  unfold count countOf at h
  by_cases h0 : (rdAt s p).2.2 = 0
  · have hr : rdAt s p = ((rdAt s p).1, (rdAt s p).2.1, 0) := by rw [← h0]
    have hok := rdAt_ok s p hr
    simp only [h0, ne_eq, not_true, if_false] at h
    split at h
    · simp at h
    · split at h
      · simp at h
      · simp only [Prod.mk.injEq, and_true] at h
        obtain ⟨rfl, rfl⟩ := h
        exact ⟨by omega, by omega, hok.2.1, by omega, hok.2.2.1, hr⟩
  · simp only [ne_eq, h0, not_false_eq_true, if_true] at h
    simp only [Prod.mk.injEq] at h
    exact absurd h.2.2 h0

theorem listOf_len {α : Type} (item : Int → α × Int × Int) (s : List UInt8) (p : Int) : (listOf item (count s p 256)).1.length ≤ 256 := by
  obtain ⟨⟨n, q, e⟩, hr⟩ : ∃ t, count s p 256 = t := ⟨_, rfl⟩
  rw [hr]
  unfold listOf
  by_cases he : e = 0
  · subst he
    have hc := count_ok _ _ _ hr
    rw [if_neg (by simp)]
    have := items_len item n.toNat q
    simp only
    omega
  · rw [if_pos he]; simp
theorem nums_len (s : List UInt8) (p : Int) : (nums s p).1.length ≤ 256 := listOf_len _ _ _
theorem txts_len (s : List UInt8) (p : Int) : (txts s p).1.length ≤ 256 := listOf_len _ _ _

end Go.Proofs.Ytaclkofkajehpaa.V
