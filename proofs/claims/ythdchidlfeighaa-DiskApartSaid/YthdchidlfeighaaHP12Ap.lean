/-
  Layer 12, plainly: what a call does to other files.
-/
import Derived.Test.YthdchidlfeighaaHP12Lc
namespace Go.Proofs.Ythdchidlfeighaa.C12
open Go Go.RowKit Go.Proofs Go.Proofs.Ythdchidlfeighaa.B Go.Proofs.Ythdchidlfeighaa.K Go.Proofs.Ythdchidlfeighaa.P8
set_option linter.unusedVariables false

theorem find_set_other {l : List Fl} (h : Rise l) {f : Fl} {s : List UInt8} (hn : f.name ≠ s) : findF (setF l f) s = findF l s := by
  cases e : findF l s with
  | none =>
    rw [find_no] at e ⊢
    intro x hx
    rcases mem_set.1 hx with ⟨h1, _⟩ | rfl
    · exact e x h1
    · exact hn
  | some y =>
    obtain ⟨hy, rfl⟩ := find_facts e
    exact rise_find (rise_set h f) (mem_set.2 (Or.inl ⟨hy, Ne.symm hn⟩))
theorem find_drop_other {l : List Fl} (h : Rise l) {t s : List UInt8} (hn : t ≠ s) : findF (dropF l t) s = findF l s := by
  cases e : findF l s with
  | none =>
    rw [find_no] at e ⊢
    intro x hx
    exact e x (mem_drop.1 hx).1
  | some y =>
    obtain ⟨hy, rfl⟩ := find_facts e
    exact rise_find (rise_drop h t) (mem_drop.2 ⟨hy, Ne.symm hn⟩)
theorem goD_find {D : Dst} {k : Dst → Dst} {s : List UInt8} (hk : ∀ E : Dst, E.files = D.files → findF (k E).files s = findF D.files s) : findF (goD D k).1.files s = findF D.files s := by
  unfold goD
  split
  · show findF (goesD D).1.files s = _
    rw [goes_files]
  · exact hk _ (goes_files D)
theorem someD_find {D : Dst} {t s : List UInt8} {k : Fl → Dst × Int} (hk : ∀ f, findF D.files t = some f → findF (k f).1.files s = findF D.files s) : findF (someD D t k).1.files s = findF D.files s := by
  unfold someD
  split
  · rfl
  · cases e : findF D.files t with
    | none => rfl
    | some f => exact hk f e
theorem step_apart {D : Dst} (h : Rise D.files) {a : ActL} {s : List UInt8} (hk : 0 ≤ a.kind ∧ a.kind ≤ 7) (hn : a.name ≠ s) (ht : a.tox ≠ s) : findF (stepD D a).1.files s = findF D.files s := by
  have hput : ∀ (E : Dst) (f : Fl), E.files = D.files → f.name = a.name → findF (putF E f).files s = findF D.files s := fun E f he hf => by
    unfold putF
    dsimp only
    rw [he]
    exact find_set_other h (by rw [hf]; exact hn)
  unfold stepD
  by_cases h0 : a.kind = 0 ∨ a.kind = 1 ∨ a.kind = 2
  · rw [if_pos h0]
    unfold appendD
    split
    · rfl
    · split
      · rfl
      · split
        · rfl
        · show findF (goesD _).1.files s = _
          rw [goes_files]
          refine hput D _ rfl ?_
          cases e : findF D.files a.name with
          | none => rfl
          | some f => exact (find_facts e).2
  rw [if_neg h0]
  by_cases h3 : a.kind = 3
  · rw [if_pos h3]; exact someD_find fun f _ => goD_find fun E he => hput E _ he rfl
  rw [if_neg h3]
  by_cases h4 : a.kind = 4
  · rw [if_pos h4]
    refine someD_find fun f _ => ?_
    split
    · rfl
    · refine goD_find fun E he => ?_
      split
      · exact hput E _ he rfl
      · exact hput E _ he rfl
  rw [if_neg h4]
  by_cases h5 : a.kind = 5
  · rw [if_pos h5]
    unfold renameD
    split
    · rfl
    · split
      · rfl
      · refine someD_find fun f hf => ?_
        split
        · rfl
        · refine goD_find fun E he => ?_
          unfold putF
          dsimp only
          rw [he, find_set_other (rise_drop h _) ht, find_drop_other h hn]
  rw [if_neg h5]
  by_cases h6 : a.kind = 6
  · rw [if_pos h6]
    refine someD_find fun f hf => goD_find fun E he => ?_
    dsimp only
    rw [he, find_drop_other h hn]
  rw [if_neg h6, if_pos (by omega)]
  unfold armD
  split
  · rfl
  · split <;> rfl
theorem ActIs.wide {w : World} {B B' : Nat} {cs : List Value} {a : ActL} (h : ActIs w B cs a) (hb : B ≤ B') : ActIs w B' cs a := by
  obtain ⟨kv, e, ⟨k, cap, hv, h1, h2⟩, h3⟩ := h
  exact ⟨kv, e, ⟨k, cap, hv, h1, fun j u hj => by obtain ⟨b, off, e1, e2, e3⟩ := h2 j u hj; exact ⟨b, off, e1, Nat.lt_of_lt_of_le e2 hb, e3⟩⟩, h3⟩
theorem Kp0.wide {w : World} {B B' : Nat} {v : Value} {l : List Int} (h : Kp0 w B v l) (hb : B ≤ B') : Kp0 w B' v l := by
  obtain ⟨k, cap, hv, h1, h2⟩ := h
  exact ⟨k, cap, hv, h1, fun j u hj => by obtain ⟨b, off, e1, e2, e3⟩ := h2 j u hj; exact ⟨b, off, e1, Nat.lt_of_lt_of_le e2 hb, e3⟩⟩
theorem ActsIs.wide {w : World} {B B' : Nat} {v : Value} {l : List ActL} (h : ActsIs w B v l) (hb : B ≤ B') : ActsIs w B' v l := by
  obtain ⟨k, cap, hv, h2⟩ := h
  exact ⟨k, cap, hv, fun j u hj => by obtain ⟨b, off, cs, e1, e2, e3, e4⟩ := h2 j u hj; exact ⟨b, off, cs, e1, Nat.lt_of_lt_of_le e2 hb, e3.wide hb, e4⟩⟩
end Go.Proofs.Ythdchidlfeighaa.C12
