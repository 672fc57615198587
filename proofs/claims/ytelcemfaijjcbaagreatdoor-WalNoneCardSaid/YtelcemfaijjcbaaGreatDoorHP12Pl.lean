/-
  Layer 12, the program: an Append's own function, where there is no such file.
-/
import Derived.Test.YtelcemfaijjcbaaGreatDoorHP12Pk
namespace Go.Proofs.YtelcemfaijjcbaaGreatDoor.C12
open Go Go.RowKit Go.Proofs Go.Proofs.YtelcemfaijjcbaaGreatDoor.B Go.Proofs.YtelcemfaijjcbaaGreatDoor.K Go.Proofs.YtelcemfaijjcbaaGreatDoor.P8
set_option linter.unusedVariables false
set_option maxRecDepth 100000

theorem rise_ext {l1 l2 : List Fl} (h1 : Rise l1) (h2 : Rise l2) (h : ∀ x, x ∈ l1 ↔ x ∈ l2) : l1 = l2 := by
  have n1 : l1.Nodup := h1.imp fun hab e => by rw [e, less_irrefl] at hab; cases hab
  have n2 : l2.Nodup := h2.imp fun hab e => by rw [e, less_irrefl] at hab; cases hab
  refine List.Perm.eq_of_pairwise (le := fun a b : Fl => lessL a.name b.name = true) (fun a b _ _ hab hba => ?_) h1 h2 ((List.perm_ext_iff_of_nodup n1 n2).2 h)
  rw [less_asymm hab] at hba
  cases hba
theorem set_set {l : List Fl} (h : Rise l) (f0 f : Fl) (e : f0.name = f.name) : setF (setF l f0) f = setF l f := by
  refine rise_ext (rise_set (rise_set h f0) f) (rise_set h f) fun x => ?_
  rw [mem_set, mem_set, mem_set]
  constructor
  · rintro (⟨h1, h2⟩ | h1)
    · rcases h1 with ⟨h3, _⟩ | rfl
      · exact Or.inl ⟨h3, h2⟩
      · exact absurd e h2
    · exact Or.inr h1
  · rintro (⟨h1, h2⟩ | h1)
    · exact Or.inl ⟨Or.inl ⟨h1, by rw [e]; exact h2⟩, h2⟩
    · exact Or.inr h1

section
variable {w : World} {F : Nat → Prop} {d M n : Nat} {Dm : DataW Nat} {g : List UInt8 → Nat} {bv : List UInt8 → Value} {D : Dst}

/-- A new file under a name that had none. -/
theorem PIn.fresh {w2 w3 : World} {s : List UInt8} {B : Nat} (h : PIn w F d M n Dm g bv D) (hb : Below w.heap.size w w2) (hB : w.heap.size ≤ B ∧ B < w2.heap.size) (hrow : w2.heap[B]? = some (.cells #[.slice none 0 0, .int .i64 0] 68 (0, 0))) (hnone : findF D.files s = none) (hs : s.length ≤ maxLen) (hfi : Fine (putF D ⟨s, [], []⟩))
    {n' : Nat} (ho : w3.ownsMap Tryz.prog 9 fileE M n' (Dm.put (.string s) (.lit (.int .i64 (B : Int))))) (hg : w2.grownBy w3 (some M)) :
    PIn w3 (fun i => F i ∨ i = B) d M n' (Dm.put (.string s) (.lit (.int .i64 (B : Int)))) (fun x => if x = s then B else g x) (fun x => if x = s then .slice none 0 0 else bv x) (putF D ⟨s, [], []⟩) := by
  have hMl := h.lt _ h.ownM
  have hBM : B ≠ M := by omega
  have hblk : w3.heap[B]? = w2.heap[B]? := hg.block B hB.2 (fun e => hBM (Option.some.inj e))
  refine PIn.put (f := ⟨s, [], []⟩) (v := .slice none 0 0) h hs (fun x => mem_set) ⟨rfl, rfl, rfl⟩ hfi (Nat.le_trans hb.size hg.size) (fun i hi hne => (hg.block i (Nat.lt_of_lt_of_le (h.lt i hi) hb.size) (fun e => hne (Option.some.inj e))).trans (hb.block i (h.lt i hi))) ho ⟨hblk.trans hrow, Buf.nil _⟩ (fun x hx hne => ⟨fun e => ?_, fun q hq => by cases hq⟩) (fun i hi => Or.inl hi) (Or.inr rfl) (fun q hq => by cases hq) (fun i hi => ?_)
  · have := h.lt _ (h.own x hx).1
    omega
  · rcases hi with hi | hi
    · exact Nat.lt_of_lt_of_le (h.lt i hi) (Nat.le_trans hb.size hg.size)
    · subst hi; exact Nat.lt_of_lt_of_le hB.2 hg.size

set_option maxHeartbeats 4000000 in
theorem pappend_new (h : PIn w F d M n Dm g bv D) (c0 c1 c2 : Nat) (s t : List UInt8) (hnone : findF D.files s = none) (hs : s.length ≤ 24) (ht : t.length ≤ 65536) (hfi0 : Fine (putF D ⟨s, [], []⟩)) (hfi : Fine (putF D ⟨s, [], t⟩))
    (k0 : w.cell? ⟨c0, 0, none⟩ = some (.pointer (some ⟨d, 0, none⟩))) (k1 : w.cell? ⟨c1, 0, none⟩ = some (.string (str s))) (k2 : w.cell? ⟨c2, 0, none⟩ = some (.string (str t))) (hc : ¬ F c0 ∧ ¬ F c1 ∧ ¬ F c2) :
    Calls Tryz.prog 69 #[.pointer (some ⟨c0, 0, none⟩), .pointer (some ⟨c1, 0, none⟩), .pointer (some ⟨c2, 0, none⟩)] w (PDone F d (putF D ⟨s, [], t⟩) w) := by
  have H := Lib.hid h.narrow
  have HFI := Lib.hid hfi
  have HFI0 := Lib.hid hfi0
  have HN := Lib.hid hnone
  have HC := Lib.hid hc
  have HS := Lib.hid (show s.length ≤ maxLen from by unfold maxLen; omega)
  have cd := (row_at h.disk 1 _ rfl).1
  have hlook : ∀ k, (Instr.lookup 61 (.map (some M)) (.string (str s)) false).run Tryz.prog (w.drewN k) = .ok (.pointer none) (w.drewN k) := fun k => by
    obtain ⟨v, hr, hv⟩ := (h.below (drewN_below w k)).look s HS.out
    rcases hv with ⟨_, rfl⟩ | ⟨f', h0, _⟩
    · exact hr
    · rw [hnone] at h0; cases h0
  have hl0 := hlook 0
  have HST := Lib.hid hs
  clear h hfi hfi0 hnone hc hs
  go_enter Tryz.func69, Tryz.ntmps69
  go_upto_region 0 with fail
  go_quiet (fail)
  go_upto_region 3 with fail
  obtain ⟨X, hX⟩ : ∃ X, (w.drewN nq).alloc (.cells #[.slice none 0 0, .int .i64 0] 68) = X := ⟨_, rfl⟩
  have HXR := Lib.hid (show X.heap[w.heap.size]? = some (.cells #[.slice none 0 0, .int .i64 0] 68 (0, 0)) from by
    rw [← hX]
    have := heap_alloc_at (w.drewN nq) (.cells #[.slice none 0 0, .int .i64 0] 68)
    simpa using this)
  have HB := Lib.hid (show Below w.heap.size w X.drew from by rw [← hX]; exact ((drewN_below w nq).trans ((below_alloc (w.drewN nq) _).mono (drewN_below w nq).size)).drew)
  rw [hX]
  have HBX := Lib.hid (show w.heap.size < X.drew.heap.size from (Array.getElem?_eq_some_iff.1 HXR.out).1)
  have p0 := kept_cell HB.out k0
  have p1 := kept_cell HB.out k1
  have pd := kept_cell HB.out cd
  have HK2 := Lib.hid k2
  have HCL := Lib.hid (World.block_lt_of_cell? w _ k2)
  have HCC := Lib.hid (fun W => pstrclone_any s W (by have := HST.out; omega))
  have HZ : (str t).size = t.length := str_size t
  have HALL := Lib.hid (show ∀ w2 : World, Below X.drew.heap.size X.drew w2 → w2.cell? ⟨c0, 0, none⟩ = some (.pointer (some ⟨d, 0, none⟩)) ∧ w2.cell? ⟨c1, 0, none⟩ = some (.string (str s)) ∧ w2.cell? ⟨d, 1, none⟩ = some (.map (some M)) ∧
      ∃ w3, (Instr.mapUpdate 61 (.map (some M)) (.string (str s)) (.pointer (some ⟨w.heap.size, 0, none⟩))).run Tryz.prog w2 = .ok () w3 ∧ PIn w3 (fun i => F i ∨ i = w.heap.size) d M (D.files.length + 1) (Dm.put (.string s) (.lit (.int .i64 (w.heap.size : Int)))) (fun x => if x = s then w.heap.size else g x) (fun x => if x = s then .slice none 0 0 else bv x) (putF D ⟨s, [], []⟩) ∧ w.heap.size < w3.heap.size ∧ Tn F w w3 ∧ w3.cell? ⟨c2, 0, none⟩ = some (.string (str t)) from fun w2 hb => by
    have hb2 : Below w.heap.size w w2 := HB.out.trans (hb.mono HB.out.size)
    refine ⟨kept_cell hb2 k0, kept_cell hb2 k1, kept_cell hb2 cd, ?_⟩
    obtain ⟨w3, hr, ho, hg⟩ := (H.out.below hb2).map.update keyed Tryz.underlying61 (by have := H.out.fine.ok.count; unfold maxLen; omega) (key_str s HS.out) (show fileE (.pointer (some ⟨w.heap.size, 0, none⟩)) = some (.lit (.int .i64 (w.heap.size : Int)), []) from rfl)
    have hMl := H.out.lt _ H.out.ownM
    refine ⟨w3, hr, H.out.fresh hb2 ⟨Nat.le_refl _, Nat.lt_of_lt_of_le HBX.out hb.size⟩ ((hb.block _ HBX.out).trans HXR.out) HN.out HS.out HFI0.out ho hg, Nat.lt_of_lt_of_le HBX.out (Nat.le_trans hb.size hg.size), ⟨hg.os.trans hb2.os, hg.tape.trans hb2.tape, hg.output.trans hb2.output, Nat.le_trans hb2.size hg.size, fun i hi hne => ?_⟩, ?_⟩
    · exact (hg.block i (Nat.lt_of_lt_of_le hi hb2.size) (fun e => hne (Option.some.inj e ▸ H.out.ownM))).trans (hb2.block i hi)
    · exact (hg.cell_far ⟨c2, 0, none⟩ (Nat.lt_of_lt_of_le HCL.out hb2.size) (fun e => HC.out.2.2 (by have h' : c2 = M := Option.some.inj e; rw [h']; exact H.out.ownM))).trans (kept_cell hb2 k2))
  clear hX hlook hl0 k0 k1 k2 cd
  go_region_law (first | (go_simp; go_at_call 35; refine (HCC.out _).mono ?_; rintro _ w2 ⟨rfl, hb2⟩; obtain ⟨r0, r1, r2, w3, hr3, hp3, hl3, ht3, hc3⟩ := HALL.out w2 hb2; have HP3 := Lib.hid hp3; have HL3 := Lib.hid hl3; have HT3 := Lib.hid ht3; have HC3 := Lib.hid hc3; clear hp3 hl3 ht3 hc3 hb2))
  all_goals
    have hmem : (⟨s, [], []⟩ : Fl) ∈ (putF D ⟨s, [], []⟩).files := mem_set.2 (Or.inr rfl)
    have HM := Lib.hid hmem
    have HP4 := Lib.hid (HP3.out.below (Below.refl _ _).drew)
    have fat := HP4.out.each _ hmem
    simp only [if_true] at fat
    have HFT := Lib.hid fat
    have q0 : w3.drew.cell? ⟨w.heap.size, 0, none⟩ = some (.slice none 0 0) := (row_at fat.cell 0 _ rfl).1
    have qf : w3.drew.frozen? ⟨w.heap.size, 0, none⟩ = false := (row_at fat.cell 0 _ rfl).2
    have q2 : w3.drew.cell? ⟨c2, 0, none⟩ = some (.string (str t)) := HC3.out
    clear fat hmem r0 r1 r2 p0 p1 pd hr3
    go_upto_region 4 with fail
    go_region_law (first | (refine step_append_text rfl _ _ rfl (.slice none 0 0) 0 [] rfl (World.ownsRow_nil _ _ _ _) (str t) rfl (by rw [HZ]; omega) ?_; intro v' wa ho hg hl; have HO := Lib.hid ho; have HG := Lib.hid hg; have HLo := Lib.hid hl; obtain ⟨a1, cap1, rfl⟩ := shape_own ho; have hbw := (hg.block _ HL3.out (by simp [Value.ownBlock])).trans HFT.out.cell; have u0 := (row_at hbw 0 _ rfl).1; have uf := (row_at hbw 0 _ rfl).2; clear ho hg hl hbw))
    all_goals
      go_end0
      have e1 : putF (putF D ⟨s, [], []⟩) ⟨s, [], [] ++ t⟩ = putF D ⟨s, [], t⟩ := by
        unfold putF
        dsimp only
        rw [set_set H.out.fine.rise ⟨s, [], []⟩ ⟨s, [], [] ++ t⟩ rfl]
        rfl
      obtain ⟨F', hp, hc⟩ := app_end HP4.out (f := ⟨s, [], []⟩) HM.out (t := t) (by rw [e1]; exact HFI.out) (by have := HO.out; simpa [show Lib.strCells (str []) = [] from rfl] using this) (by have := HG.out; simpa [bufB] using this) (by have := HLo.out; simpa using this)
      simp only [if_true] at hp hc
      rw [e1] at hp
      exact ⟨rfl, F', hp, (show Chg F (fun i => F i ∨ i = w.heap.size) w w3 from ⟨HT3.out, fun i hi => hi.elim Or.inl fun e => Or.inr (Nat.le_of_eq e.symm)⟩).trans ((Chg.of_below (Below.refl _ _).drew).trans hc)⟩
end
end Go.Proofs.YtelcemfaijjcbaaGreatDoor.C12
