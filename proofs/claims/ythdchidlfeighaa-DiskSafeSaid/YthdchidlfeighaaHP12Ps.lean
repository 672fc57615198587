/-
  Layer 12, the program: the names.
-/
import Derived.Test.YthdchidlfeighaaHP12Pd
import Derived.Test.YthdchidlfeighaaHP12Ry
import Derived.Test.YthdchidlfeighaaHP12Sh
namespace Go.Proofs.Ythdchidlfeighaa.C12
open Go Go.RowKit Go.Proofs Go.Proofs.Ythdchidlfeighaa.B Go.Proofs.Ythdchidlfeighaa.K Go.Proofs.Ythdchidlfeighaa.P8
set_option linter.unusedVariables false
set_option maxRecDepth 100000

theorem less_le : ∀ a b : List UInt8, lessL a b = true → a ≤ b
  | [], b, _ => List.nil_le b
  | x :: a, [], h => by cases h
  | x :: a, y :: b, h => by
    unfold lessL at h
    by_cases e : x = y
    · subst e
      rw [if_pos rfl] at h
      exact List.cons_le_cons_iff.2 (Or.inr ⟨rfl, less_le a b h⟩)
    · rw [if_neg e] at h
      have hlt : x < y := by simpa [UInt8.lt_iff_toNat_lt] using h
      exact List.cons_le_cons_iff.2 (Or.inl hlt)
theorem sorted_names {l : List Fl} (h : Rise l) : (namesOf l).mergeSort (fun x y => decide (x ≤ y)) = namesOf l := by
  refine List.mergeSort_of_pairwise ?_
  unfold namesOf
  exact List.pairwise_map.2 (h.imp fun hab => decide_eq_true (less_le _ _ hab))

theorem plist_nil (w : World) : Calls Try.prog 13 #[.pointer none] w fun e w' => ∃ v, e = .returned v ∧ Sl w' v [] ∧ Below w.heap.size w w' := by
  go_enter Try.func13, Try.ntmps13
  go_wp2_with fail
  go_ret
  exact ⟨_, rfl, Sl.nil _, Below.refl _ _⟩

section
variable {w : World} {F : Nat → Prop} {d M n : Nat} {Dm : DataW Nat} {g : List UInt8 → Nat} {bv : List UInt8 → Value} {D : Dst}
/-- List: in memory of its own. -/
theorem plist_any (h : PIn w F d M n Dm g bv D) : Calls Try.prog 13 #[.pointer (some ⟨d, 0, none⟩)] w fun e w' => ∃ v, e = .returned v ∧ Sl w' v ((namesOf D.files).map sv) ∧ (∀ a k c, v = .slice (some a) k c → w.heap.size ≤ a.block) ∧ Below w.heap.size w w' := by
  have cd := (row_at h.disk 1 _ rfl).1
  have hsz := h.size
  have hc := h.fine.ok.count
  have HK := Lib.hid (callsIn_wide.1 (S.maps_Keys_35 (some M) w))
  have HS := Lib.hid (callsIn_wide.1 (S.slices_Sorted_keys_34_35 M n Dm fileE w h.map (by rw [hsz]; unfold maxLen; omega) (by rw [hsz]; omega)))
  have HN := Lib.hid h.names
  have HR := Lib.hid h.fine.rise
  clear h hsz hc
  go_enter Try.func13, Try.ntmps13
  go_wp2_with (first
    | (go_at_call 35; refine HK.out.mono ?_; rintro _ w1 ⟨rfl, rfl⟩)
    | (go_at_call 34; refine HS.out.mono ?_; rintro _ w2 ⟨v, ss, rfl, hp, ho, hn, hb⟩; have HPM := Lib.hid hp; have HO := Lib.hid ho; have HB := Lib.hid hb; clear hp ho hn hb))
  go_ret
  have e1 : ss.mergeSort (fun x y => decide (x ≤ y)) = namesOf D.files := by
    rw [← sorted_names HR.out]
    exact mergeSort_of_perm (HPM.out.trans HN.out.symm)
  have hrow := HO.out
  rw [e1] at hrow
  refine ⟨v, rfl, Sl.owns hrow, fun a k c e => ?_, (below_alloc _ _).trans (HB.out.mono (below_alloc _ _).size)⟩
  have := (hrow.lt a.block (by rw [e]; rfl)).1
  have h2 := (below_alloc w (.cells #[.map (some M)] 64)).size
  omega
end
end Go.Proofs.Ythdchidlfeighaa.C12
