/-
  Layer 12, plainly: a disk that goes down at the write that was chosen.
-/
import Derived.Test.YthdchidlfeighaaHP12As
namespace Go.Proofs.Ythdchidlfeighaa.C12
open Go Go.RowKit Go.Proofs Go.Proofs.Ythdchidlfeighaa.B Go.Proofs.Ythdchidlfeighaa.K Go.Proofs.Ythdchidlfeighaa.P8
set_option linter.unusedVariables false
set_option maxRecDepth 100000

def ar (j : Nat) (c : Nat) : Dst := ⟨1000, [⟨[97], [], 49 :: List.replicate j 50⟩], (c : Int), false⟩
def dn (j : Nat) : Dst := ⟨1000, [⟨[97], [], 49 :: List.replicate j 50⟩], 0, true⟩
theorem app0 : appendD ⟨1000, [], 0, false⟩ [97] [49] = (ar 0 0, 0) := rfl
theorem arm0 (k : Nat) (h : 1 ≤ k) : armD (ar 0 0) (k : Int) = (ar 0 k, 0) := by
  unfold armD
  rw [if_neg (by simp [ar]), if_neg (by omega)]
  rfl
theorem app1 (j c : Nat) (hj : j < 5) (hc : 2 ≤ c) (hc5 : c ≤ 5) : appendD (ar j c) [97] [50] = (ar (j + 1) (c - 1), 0) := by
  rcases (by omega : j = 0 ∨ j = 1 ∨ j = 2 ∨ j = 3 ∨ j = 4) with rfl | rfl | rfl | rfl | rfl <;> rcases (by omega : c = 2 ∨ c = 3 ∨ c = 4 ∨ c = 5) with rfl | rfl | rfl | rfl <;> rfl
theorem syn1 (j : Nat) (hj : j < 5) : syncD (ar j 1) [97] = (dn j, 11) := by
  rcases (by omega : j = 0 ∨ j = 1 ∨ j = 2 ∨ j = 3 ∨ j = 4) with rfl | rfl | rfl | rfl | rfl <;> rfl
theorem used_dn (j : Nat) : usedF (dn j).files = j + 1 := by
  unfold dn usedF
  simp
theorem step_down {D : Dst} {a : ActL} (hd : D.down = true) (hk : 0 ≤ a.kind ∧ a.kind ≤ 7) : stepD D a = (D, 11) := by
  unfold stepD
  by_cases h0 : a.kind = 0 ∨ a.kind = 1 ∨ a.kind = 2
  · rw [if_pos h0]; unfold appendD; rw [hd, if_pos rfl]
  rw [if_neg h0]
  by_cases h3 : a.kind = 3
  · rw [if_pos h3]; unfold syncD someD; rw [hd, if_pos rfl]
  rw [if_neg h3]
  by_cases h4 : a.kind = 4
  · rw [if_pos h4]; unfold truncD someD; rw [hd, if_pos rfl]
  rw [if_neg h4]
  by_cases h5 : a.kind = 5
  · rw [if_pos h5]; unfold renameD; rw [hd, if_pos rfl]
  rw [if_neg h5]
  by_cases h6 : a.kind = 6
  · rw [if_pos h6]; unfold removeD someD; rw [hd, if_pos rfl]
  rw [if_neg h6, if_pos (by omega)]
  unfold armD
  rw [hd, if_pos rfl]
theorem Two.fell {B : Nat} {w : World} {d x : Nat} {D E : Dst} (h : Two B w d x D E) : Two B (w.setCell ⟨x, 3, none⟩ (.bool true)) d x D { E with down := true } := by
  obtain ⟨F, G, h⟩ := h
  obtain ⟨v, h1, h2, h3⟩ := h.ref.cell
  have hoth : ∀ i, i ≠ x → (w.setCell ⟨x, 3, none⟩ (.bool true)).heap[i]? = w.heap[i]? := fun i hi => heap_setCell_other _ ⟨x, 3, none⟩ i _ hi
  have hs := size_set w x 3 (.bool true)
  have hrow := heap_setCell_same w x 3 _ _ (.bool true) h1
  have hok := h.ref.ok
  exact ⟨F, G, h.prog.keep hs fun i hi => hoth i (fun e => h.apart i hi (e ▸ h.ref.own)), ⟨⟨v, hrow, h2.same fun a n c e => hoth _ (h3 a n c e).2, h3⟩, h.ref.own, fun i hi => Nat.lt_of_lt_of_le (h.ref.lt i hi) hs, ⟨hok.room, hok.armed, hok.count, hok.each⟩⟩, h.apart, h.newF, h.newG, Nat.le_trans h.base hs⟩
/-- A store to a block that was not there. -/
theorem below_store {B : Nat} {w w' : World} {x i : Nat} {v : Value} (h : Below B w w') (hx : B ≤ x) : Below B w (w'.setCell ⟨x, i, none⟩ v) :=
  ⟨h.os, h.tape, h.output, Nat.le_trans h.size (size_set _ _ _ _), fun j hj => (heap_setCell_other _ ⟨x, i, none⟩ j _ (by show j ≠ x; omega)).trans (h.block j hj)⟩
section
variable {B : Nat} {w : World} {d : Nat}
theorem a_app0 (h : Own B w d ⟨1000, [], 0, false⟩) : Calls Try.prog 20 #[.pointer (some ⟨d, 0, none⟩), .string ⟨#[97]⟩, .string ⟨#[49]⟩] w fun e w' => e = .returned (.int .i64 0) ∧ Own B w' d (ar 0 0) ∧ Below B w w' :=
  h.wrote (r := (ar 0 0, 0)) fun F hp => pappend_any hp [97] [49] (by decide) (by decide)
theorem a_arm (h : Own B w d (ar 0 0)) (k : Nat) (h1 : 1 ≤ k) (h2 : k ≤ 5) : Calls Try.prog 21 #[.pointer (some ⟨d, 0, none⟩), .int .i64 (k : Int)] w fun e w' => e = .returned (.int .i64 0) ∧ Own B w' d (ar 0 k) ∧ Below B w w' := by
  have := h.wrote (r := armD (ar 0 0) (k : Int)) fun F hp => show Calls Try.prog 21 _ w (PWrote F d (armD (ar 0 0) (k : Int)) w) from (parm_any hp (k : Int) (by omega)).mono fun e w' ⟨F', he, hp', hc'⟩ => ⟨he, F', hp', hc'⟩
  rw [arm0 k h1] at this
  exact this
theorem a_app1 {j c : Nat} (h : Own B w d (ar j c)) (hj : j < 5) (hc : 2 ≤ c) (hc5 : c ≤ 5) : Calls Try.prog 20 #[.pointer (some ⟨d, 0, none⟩), .string ⟨#[97]⟩, .string ⟨#[50]⟩] w fun e w' => e = .returned (.int .i64 0) ∧ Own B w' d (ar (j + 1) (c - 1)) ∧ Below B w w' := by
  have := h.wrote (r := appendD (ar j c) [97] [50]) fun F hp => pappend_any hp [97] [50] (by decide) (by decide)
  rw [app1 j c hj hc hc5] at this
  exact this
theorem a_sync {j : Nat} (h : Own B w d (ar j 1)) (hj : j < 5) : Calls Try.prog 22 #[.pointer (some ⟨d, 0, none⟩), .string ⟨#[97]⟩] w fun e w' => e = .returned (.int .i64 11) ∧ Own B w' d (dn j) ∧ Below B w w' := by
  have := h.wrote (r := syncD (ar j 1) [97]) fun F hp => psync_any hp [97] (by decide)
  rw [syn1 j hj] at this
  exact this
theorem a_down {j : Nat} (h : Own B w d (dn j)) : Calls Try.prog 18 #[.pointer (some ⟨d, 0, none⟩)] w fun e w' => e = .returned (.bool true) ∧ Below w.heap.size w w' := o_down h
theorem a_safe {j : Nat} (h : Own B w d (dn j)) : Calls Try.prog 16 #[.pointer (some ⟨d, 0, none⟩), .string ⟨#[97]⟩] w fun e w' => e = .returned (.int .i64 0) ∧ Below w.heap.size w w' := o_safe h [97] (by decide)
theorem a_used {j : Nat} (h : Own B w d (dn j)) : Calls Try.prog 17 #[.pointer (some ⟨d, 0, none⟩)] w fun e w' => e = .returned (.int .i64 ((j + 1 : Nat) : Int)) ∧ Below w.heap.size w w' := by
  have := o_used h
  rw [used_dn] at this
  exact this
theorem a_read {j : Nat} (h : Own B w d (dn j)) : Calls Try.prog 14 #[.pointer (some ⟨d, 0, none⟩), .string ⟨#[97]⟩] w fun e w' => e = .returned (.tuple #[.string ⟨#[]⟩, .int .i64 11]) ∧ Below w.heap.size w w' := o_read h [97] (by decide)
theorem a_crash {j : Nat} (h : Own B w d (dn j)) : Calls Try.prog 12 #[.pointer (some ⟨d, 0, none⟩), .slice none 0 0] w fun e w' => e = .returned (.int .i64 0) ∧ Own B w' d ⟨1000, [⟨[97], [], []⟩], 0, false⟩ ∧ Below B w w' :=
  o_crash h [] _ ⟨none, 0, rfl, Nat.le_refl _, fun j k h => by simp at h⟩ (by simp)
theorem a_down2 (h : Own B w d ⟨1000, [⟨[97], [], []⟩], 0, false⟩) : Calls Try.prog 18 #[.pointer (some ⟨d, 0, none⟩)] w fun e w' => e = .returned (.bool false) ∧ Below w.heap.size w w' := o_down h
theorem a_used2 (h : Own B w d ⟨1000, [⟨[97], [], []⟩], 0, false⟩) : Calls Try.prog 17 #[.pointer (some ⟨d, 0, none⟩)] w fun e w' => e = .returned (.int .i64 0) ∧ Below w.heap.size w w' := o_used h
end
end Go.Proofs.Ythdchidlfeighaa.C12
