/-
  Layer 12, the program: Remove, Rename.
-/
import Derived.Test.YtelcemfaijjcbaaGreatDoorHP12Po
namespace Go.Proofs.YtelcemfaijjcbaaGreatDoor.C12
open Go Go.RowKit Go.Proofs Go.Proofs.YtelcemfaijjcbaaGreatDoor.B Go.Proofs.YtelcemfaijjcbaaGreatDoor.K Go.Proofs.YtelcemfaijjcbaaGreatDoor.P8
set_option linter.unusedVariables false
set_option maxRecDepth 100000

theorem below2 (w : World) (a b : Obj) : Below w.heap.size w ((w.alloc a).alloc b) := (below_alloc w a).trans ((below_alloc _ b).mono (below_alloc w a).size)
theorem cells2 (w : World) (a b : Value) (A B : TypeId) : ((w.alloc (.cells #[a] A)).alloc (.cells #[b] B)).cell? ⟨w.heap.size, 0, none⟩ = some a ∧ ((w.alloc (.cells #[a] A)).alloc (.cells #[b] B)).cell? ⟨w.heap.size + 1, 0, none⟩ = some b := by
  refine ⟨kept_cell (below_alloc _ _) (alloc_cell w [a] A 0 _ rfl), ?_⟩
  have := alloc_cell (w.alloc (.cells #[a] A)) [b] B 0 _ rfl
  simp
theorem premove_nil (s : List UInt8) (w : World) : Calls Tryz.prog 37 #[.pointer none, .string (str s)] w fun e w' => e = .returned (.int .i64 1) ∧ Below w.heap.size w w' := by
  have HU := Lib.hid (fun W => pfind_nil s W)
  go_enter Tryz.func37, Tryz.ntmps37
  go_wp2_with (go_at_call 59; refine (HU.out _).mono ?_; rintro _ w1 ⟨rfl, rfl⟩)
  go_ret
  exact ⟨rfl, below2 _ _ _⟩
section
variable {w : World} {F : Nat → Prop} {d M n : Nat} {Dm : DataW Nat} {g : List UInt8 → Nat} {bv : List UInt8 → Value} {D : Dst}

/-- The map behind a delete. -/
theorem del_end {X w1 : World} (h : PIn X F d M n Dm g bv D) (s : List UInt8) (ho : w1.ownsMap Tryz.prog 9 fileE M n (Dm.del (.string s))) (hg : X.mapTurned w1 M) :
    PIn w1 F d M n (Dm.del (.string s)) g bv { D with files := dropF D.files s } ∧ Chg F F X w1 := by
  have hgr := hg.grown
  refine ⟨h.gone (D' := { D with files := dropF D.files s }) (fun x => mem_drop) ⟨rfl, rfl, rfl⟩ (h.fine.drop s) hgr.size (fun i hi hne => hgr.block i (h.lt i hi) (fun e => hne (Option.some.inj e))) ho, ⟨⟨hgr.os, hgr.tape, hgr.output, hgr.size, fun i hi hne => hgr.block i hi (fun e => hne (Option.some.inj e ▸ h.ownM))⟩, fun i hi => Or.inl hi⟩⟩

set_option maxHeartbeats 1000000 in
theorem premove1 (h : PIn w F d M n Dm g bv D) (c0 c1 : Nat) (s : List UInt8) (hs : s.length ≤ maxLen) (k0 : w.cell? ⟨c0, 0, none⟩ = some (.pointer (some ⟨d, 0, none⟩))) (k1 : w.cell? ⟨c1, 0, none⟩ = some (.string (str s))) :
    Calls Tryz.prog 61 #[.pointer (some ⟨c0, 0, none⟩), .pointer (some ⟨c1, 0, none⟩)] w (PDone F d { D with files := dropF D.files s } w) := by
  have H := Lib.hid h
  have cd : w.drew.cell? ⟨d, 1, none⟩ = some (.map (some M)) := (row_at h.disk 1 _ rfl).1
  have k0' : w.drew.cell? ⟨c0, 0, none⟩ = some (.pointer (some ⟨d, 0, none⟩)) := k0
  have k1' : w.drew.cell? ⟨c1, 0, none⟩ = some (.string (str s)) := k1
  have HD := Lib.hid (h.below (Below.refl _ w).drew)
  have HS := Lib.hid hs
  clear h hs
  go_enter Tryz.func61, Tryz.ntmps61
  go_still_tail 5, (by kernel_rfl)
  change wpList _ _ _ _ _ w.drew
  go_wp2_with (at_delete; refine wpList_delete_own _ rfl _ _ 61 9 rfl 65 keyed Tryz.underlying61 _ M n Dm rfl HD.out.map _ _ rfl (key_str s HS.out) ?_; intro w1 hown1 hturn1; have HO := Lib.hid hown1; have HT := Lib.hid hturn1; clear hown1 hturn1)
  go_end0
  obtain ⟨hp, hc⟩ := del_end HD.out s HO.out HT.out
  exact ⟨rfl, F, ⟨_, _, _, _, _, hp⟩, (Chg.of_below (Below.refl _ w).drew).trans hc⟩

set_option maxHeartbeats 1000000 in
theorem premove_any (h : PAt w F d D) (s : List UInt8) (hs : s.length ≤ maxLen) : Calls Tryz.prog 37 #[.pointer (some ⟨d, 0, none⟩), .string (str s)] w (PWrote F d (removeD D s) w) := by
  have HP := Lib.hid h
  obtain ⟨q0, q1⟩ := cells2 w (.pointer (some ⟨d, 0, none⟩)) (.string (str s)) 30 9
  obtain ⟨M, n, Dm, g, bv, h⟩ := h
  obtain ⟨W2, hW2⟩ : ∃ W2, (w.alloc (.cells #[.pointer (some ⟨d, 0, none⟩)] 30)).alloc (.cells #[.string (str s)] 9) = W2 := ⟨_, rfl⟩
  have HB := Lib.hid (show Below w.heap.size w W2 from by rw [← hW2]; exact below2 _ _ _)
  rw [hW2] at q0 q1
  have HF := Lib.hid (pfind_any (h.below HB.out) s hs)
  unfold findR at HF
  unfold removeD someD
  cases hd : D.down with
  | true =>
    rw [hd, if_pos rfl] at HF
    rw [if_pos rfl]
    clear hd h
    go_enter Tryz.func37, Tryz.ntmps37
    go_wp2_with (go_at_call 59; (try rw [hW2]); refine HF.out.mono ?_; rintro _ w1 ⟨rfl, rfl⟩)
    go_ret
    exact PWrote.bad HP.out HB.out
  | false =>
    rw [hd, if_neg (by simp)] at HF
    rw [if_neg (by simp)]
    cases hf : findF D.files s with
    | none =>
      rw [hf] at HF
      clear hf h hd
      go_enter Tryz.func37, Tryz.ntmps37
      go_wp2_with (go_at_call 59; (try rw [hW2]); refine HF.out.mono ?_; rintro _ w1 ⟨rfl, rfl⟩)
      go_ret
      exact PWrote.bad HP.out HB.out
    | some f =>
      rw [hf] at HF
      have HW := Lib.hid (pwrite_go (h.below HB.out) hd 61 #[.pointer (some ⟨w.heap.size, 0, none⟩), .pointer (some ⟨w.heap.size + 1, 0, none⟩)] (enters_of Tryz.func61 (by kernel_rfl) rfl) (fun E => { E with files := dropF E.files s }) (fun hz w1 hp1 hc1 =>
        premove1 hp1 w.heap.size (w.heap.size + 1) s hs (box_keep hc1 (fun e => by have := h.lt _ e; omega) q0) (box_keep hc1 (fun e => by have := h.lt _ e; omega) q1)))
      clear hf h hd
      go_enter Tryz.func37, Tryz.ntmps37
      go_wp2_with (first
        | (go_at_call 59; (try rw [hW2]); refine HF.out.mono ?_; rintro _ w1 ⟨rfl, rfl⟩)
        | (go_at_call 60; refine HW.out.mono ?_; rintro _ w2 ⟨rfl, hp⟩; have HD := Lib.hid hp; clear hp))
      go_ret
      exact PWrote.good HB.out ⟨rfl, HD.out⟩
end

theorem Fine.rename {D : Dst} (h : Fine D) {f : Fl} (hf : f ∈ D.files) (hm : f.more = []) {t : List UInt8} (ht : t.length ≤ 24) : Fine (putF { D with files := dropF D.files f.name } ⟨t, f.safe, []⟩) := by
  have h1 := h.drop f.name
  have hu := used_drop h.rise hf
  have hl := drop_lt hf rfl
  have he := h.ok.each f hf
  have hc := h.ok.count
  have hs := set_len (⟨t, f.safe, []⟩ : Fl) (dropF D.files f.name) false
  have hs2 := drop_sub (l := dropF D.files f.name) (s := t)
  have hu2 := used_drop_le (dropF D.files f.name) t
  refine ⟨⟨h.ok.room, h.ok.armed, ?_, fun y hy => ?_⟩, rise_set h1.rise _, ?_⟩
  · show (setGo ⟨t, f.safe, []⟩ (dropF D.files f.name) false).length ≤ 128
    simp only [Bool.false_eq_true, if_false] at hs
    omega
  · rcases mem_set.1 hy with ⟨hy', _⟩ | rfl
    · exact h1.ok.each y hy'
    · exact ⟨ht, by simp; omega⟩
  · show (usedF (setF (dropF D.files f.name) ⟨t, f.safe, []⟩) : Int) ≤ D.room
    have := h.used
    rw [used_set]
    unfold szF at hu ⊢
    simp only [List.length_nil]
    omega
end Go.Proofs.YtelcemfaijjcbaaGreatDoor.C12
