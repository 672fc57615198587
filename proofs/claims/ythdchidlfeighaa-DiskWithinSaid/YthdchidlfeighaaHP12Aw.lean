/-
  Layer 12, plainly: what an Append that is refused, or done, makes of how many bytes there are.
-/
import Derived.Test.YthdchidlfeighaaHP12Ld
namespace Go.Proofs.Ythdchidlfeighaa.C12
open Go Go.RowKit Go.Proofs Go.Proofs.Ythdchidlfeighaa.B Go.Proofs.Ythdchidlfeighaa.K Go.Proofs.Ythdchidlfeighaa.P8
set_option linter.unusedVariables false
set_option maxRecDepth 100000

theorem goes_room (D : Dst) : (goesD D).1.room = D.room := by unfold goesD; split <;> rfl
theorem goD_room {D : Dst} {k : Dst → Dst} (hk : ∀ E : Dst, (k E).room = E.room) : (goD D k).1.room = D.room := by
  unfold goD
  split
  · exact goes_room D
  · show (k _).room = _; rw [hk, goes_room]
theorem someD_room {D : Dst} {t : List UInt8} {k : Fl → Dst × Int} (hk : ∀ f, (k f).1.room = D.room) : (someD D t k).1.room = D.room := by
  unfold someD
  split
  · rfl
  · split
    · rfl
    · exact hk _
theorem append_room (D : Dst) (s t : List UInt8) : (appendD D s t).1.room = D.room := by
  unfold appendD
  split
  · rfl
  · split
    · rfl
    · split
      · rfl
      · exact goes_room _
theorem step_room (D : Dst) (a : ActL) : (stepD D a).1.room = D.room := by
  unfold stepD
  split
  · exact append_room _ _ _
  split
  · exact someD_room fun f => goD_room fun E => rfl
  split
  · refine someD_room fun f => ?_
    split
    · rfl
    · refine goD_room fun E => ?_
      split <;> rfl
  split
  · unfold renameD
    split
    · rfl
    split
    · rfl
    refine someD_room fun f => ?_
    split
    · rfl
    · exact goD_room fun E => rfl
  split
  · exact someD_room fun f => goD_room fun E => rfl
  split
  · unfold armD
    split
    · rfl
    · split <;> rfl
  · rfl
/-- Refused: nothing has changed. -/
theorem append_full {D : Dst} {s t : List UInt8} (h : (appendD D s t).2 = 10) : (appendD D s t).1 = D := by
  unfold appendD at h ⊢
  split
  · rfl
  · rename_i h1
    rw [if_neg h1] at h
    split
    · rfl
    · rename_i h2
      rw [if_neg h2] at h
      split
      · rfl
      · rename_i h3
        rw [if_neg h3] at h
        dsimp only at h
        split at h <;> cases h
/-- Done: so many bytes more. -/
theorem append_more {D : Dst} (hR : Rise D.files) {s t : List UInt8} (h : (appendD D s t).2 = 0) : usedF (appendD D s t).1.files = usedF D.files + t.length := by
  unfold appendD at h ⊢
  split
  · rename_i h1; rw [if_pos h1] at h; cases h
  · rename_i h1
    rw [if_neg h1] at h
    split
    · rename_i h2; rw [if_pos h2] at h; cases h
    · rename_i h2
      rw [if_neg h2] at h
      split
      · rename_i h3; rw [if_pos h3] at h; cases h
      · show usedF (goesD _).1.files = _
        rw [goes_files]
        show usedF (setF D.files _) = _
        rw [used_set]
        cases e : findF D.files s with
        | none =>
          simp only [Option.getD_none, szF, List.length_nil, List.nil_append]
          rw [drop_none (find_no.1 e)]
          omega
        | some f =>
          obtain ⟨hm, hn⟩ := find_facts e
          simp only [Option.getD_some, szF, List.length_append]
          have := used_drop hR hm
          unfold szF at this
          omega
/-- A disk of one's own, and one of the document's that is new. -/
theorem own_two {B : Nat} {w w' : World} {d : Nat} {D E : Dst} (h : Own B w d D) (hr : RAt w' (fun i => i = w.heap.size) w.heap.size E) (hb : Below w.heap.size w w') : Two B w' d w.heap.size D E := by
  obtain ⟨F, hp, hF, hB⟩ := h
  exact ⟨F, _, hp.below hb, hr, fun i hi e => by have := hp.lt i hi; omega, hF, fun i hi => by rw [hi]; exact hB, Nat.le_trans hB hb.size⟩
theorem Two.own {B : Nat} {w : World} {d x : Nat} {D E : Dst} (h : Two B w d x D E) : Own B w d D := by
  obtain ⟨F, G, h⟩ := h
  exact ⟨F, h.prog, h.newF, h.base⟩
theorem Own.fine {B : Nat} {w : World} {d : Nat} {D : Dst} (h : Own B w d D) : Fine D := by obtain ⟨F, hp, _⟩ := h; exact hp.fine
theorem Own.base {B : Nat} {w : World} {d : Nat} {D : Dst} (h : Own B w d D) : B ≤ w.heap.size := by obtain ⟨F, hp, _, hB⟩ := h; exact hB
theorem o_used {B : Nat} {w : World} {d : Nat} {D : Dst} (h : Own B w d D) : Calls Try.prog 17 #[.pointer (some ⟨d, 0, none⟩)] w fun e w' => e = .returned (.int .i64 (usedF D.files : Int)) ∧ Below w.heap.size w w' := by
  obtain ⟨F, ⟨M, n, Dm, g, bv, hp⟩, _⟩ := h
  exact pused_any hp
theorem o_list {B : Nat} {w : World} {d : Nat} {D : Dst} (h : Own B w d D) : Calls Try.prog 13 #[.pointer (some ⟨d, 0, none⟩)] w fun e w' => ∃ a c, e = .returned (.slice a D.files.length c) ∧ Below w.heap.size w w' := by
  obtain ⟨F, ⟨M, n, Dm, g, bv, hp⟩, _⟩ := h
  refine (plist_any hp).mono ?_
  rintro e w' ⟨v, he, ⟨a, c, rfl, _⟩, _, hb⟩
  rw [List.length_map, show (namesOf D.files).length = D.files.length from by unfold namesOf; rw [List.length_map]] at he
  exact ⟨a, c, he, hb⟩
theorem o_append {B : Nat} {w : World} {d : Nat} {D : Dst} (h : Own B w d D) (s t : List UInt8) (hs : s.length ≤ 140737488355328) (ht : t.length ≤ 140737488355328) : Calls Try.prog 20 #[.pointer (some ⟨d, 0, none⟩), .string (str s), .string (str t)] w fun e w' => e = .returned (.int .i64 (appendD D s t).2) ∧ Own B w' d (appendD D s t).1 ∧ Below B w w' :=
  h.wrote fun F hp => pappend_any hp s t hs ht
end Go.Proofs.Ythdchidlfeighaa.C12
