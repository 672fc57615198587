/-
  Layer 13, the program: Sync.
-/
import Derived.Test.YtelcemfaijjcbaaGreatDoorHP13Lo
import Derived.Test.YtelcemfaijjcbaaGreatDoorHP12Pi
namespace Go.Proofs.YtelcemfaijjcbaaGreatDoor.C13
open Go Go.RowKit Go.Proofs Go.Proofs.YtelcemfaijjcbaaGreatDoor.B Go.Proofs.YtelcemfaijjcbaaGreatDoor.K Go.Proofs.YtelcemfaijjcbaaGreatDoor.P8 Go.Proofs.YtelcemfaijjcbaaGreatDoor.C12
set_option linter.unusedVariables false
set_option maxRecDepth 100000

/-- What a call on a log leaves: the disk, the log; nothing else has turned. -/
def LDid (F G : Nat → Prop) (lp d : Nat) (M : Int) (D : Dst) (gs : List (Int × Int)) (rs : List (List UInt8)) (u : Int) (w w' : World) : Prop :=
  ∃ F' G' sg rv, PAt w' F' d D ∧ LIn w' G' lp d M sg rv gs rs u ∧ (∀ i, G' i → ¬ F' i) ∧ Chg (fun i => F i ∨ G i) (fun i => F' i ∨ G' i) w w'
section
variable {w w' : World} {F G : Nat → Prop} {lp d : Nat} {M u : Int} {sg rv : Value} {gs : List (Int × Int)} {rs : List (List UInt8)} {D : Dst}
theorem LIn.offs (h : LIn w G lp d M sg rv gs rs u) : sg.ownBlock ≠ some lp ∧ rv.ownBlock ≠ some lp := ⟨row_off_kind h.segs h.cell (by decide), row_off_kind h.recs h.cell (by decide)⟩
theorem LIn.safe (h : LIn w G lp d M sg rv gs rs u) (v : Int) : LIn (w.setCell ⟨lp, 5, none⟩ (.int .i64 v)) G lp d M sg rv gs rs v := by
  obtain ⟨h1, h2⟩ := h.offs
  exact ⟨cells_set w lp 5 _ _ _ h.cell, row_keep h.segs fun g hg => cells_far _ _ _ _ _ fun e => h1 (by rw [hg, e]), row_keep h.recs fun g hg => cells_far _ _ _ _ _ fun e => h2 (by rw [hg, e]), h.ownl, h.owns, h.ownr, fun i hi => Nat.lt_of_lt_of_le (h.lt i hi) (size_set _ _ _ _)⟩
theorem LDid.mk0 (h : PAt w F d D) (k : LIn w G lp d M sg rv gs rs u) (hFG : ∀ i, G i → ¬ F i) : LDid F G lp d M D gs rs u w w := ⟨F, G, sg, rv, h, k, hFG, Chg.of_below (Below.refl _ _)⟩
theorem LDid.below {W : World} (h : LDid F G lp d M D gs rs u w W) (hb : Below W.heap.size W w') : LDid F G lp d M D gs rs u w w' := by
  obtain ⟨F', G', sg, rv, h1, h2, h3, h4⟩ := h
  exact ⟨F', G', sg, rv, h1.below hb, h2.below hb, h3, h4.below hb⟩
/-- Behind a write of the disk. -/
theorem LDid.wrote {W : World} {r : Dst × Int} {e : Ending} (k : LIn w G lp d M sg rv gs rs u) (hFG : ∀ i, G i → ¬ F i) (hb : Below w.heap.size w W) (hw : PWrote F d r W e w') : e = .returned (.int .i64 r.2) ∧ LDid F G lp d M r.1 gs rs u w w' := by
  obtain ⟨he, F', hp, hc⟩ := hw
  refine ⟨he, F', G, sg, rv, hp, (k.below hb).tn hc.turn hFG, fun i hi hf => ?_, ?_⟩
  · rcases hc.new i hf with h | h
    · exact hFG i hi h
    · have := k.lt i hi
      have := hb.size
      omega
  · exact ⟨(Tn.of_below hb).trans (tn_mono hc.turn fun i hi => Or.inl hi), fun i hi => by
      rcases hi with h | h
      · rcases hc.new i h with h | h
        · exact Or.inl (Or.inl h)
        · exact Or.inr (Nat.le_trans hb.size h)
      · exact Or.inl (Or.inr h)⟩
/-- .. another call behind it. -/
theorem LDid.trans {D' : Dst} {gs' : List (Int × Int)} {rs' : List (List UInt8)} {u' : Int} {W : World} (h : LDid F G lp d M D gs rs u w W) (k : ∀ F' G' sg rv, PAt W F' d D → LIn W G' lp d M sg rv gs rs u → (∀ i, G' i → ¬ F' i) → LDid F' G' lp d M D' gs' rs' u' W w') : LDid F G lp d M D' gs' rs' u' w w' := by
  obtain ⟨F', G', sg, rv, h1, h2, h3, h4⟩ := h
  obtain ⟨F2, G2, sg2, rv2, k1, k2, k3, k4⟩ := k F' G' sg rv h1 h2 h3
  exact ⟨F2, G2, sg2, rv2, k1, k2, k3, h4.trans k4⟩
theorem LDid.safe {W : World} (h : LDid F G lp d M D gs rs u w W) (v : Int) : LDid F G lp d M D gs rs v w (W.setCell ⟨lp, 5, none⟩ (.int .i64 v)) := by
  obtain ⟨F', G', sg, rv, h1, h2, h3, h4⟩ := h
  refine ⟨F', G', sg, rv, h1.tn (tn_set W lp 5 _) (fun i hi e => h3 lp h2.ownl (e ▸ hi)), h2.safe v, h3, ?_⟩
  exact h4.trans ⟨tn_mono (tn_set W lp 5 _) fun i e => Or.inr (e ▸ h2.ownl), fun i hi => Or.inl hi⟩

/-- The last segment's cells. -/
theorem LIn.tail (h : LIn w G lp d M sg rv gs rs u) {pre : List (Int × Int)} {g : Int × Int} (hg : gs = pre ++ [g]) : ∃ b cap, sg = .slice (some ⟨b, 0, none⟩) (pre.length + 1) cap ∧ w.cell? ⟨b, pre.length * 2, none⟩ = some (.int .i64 g.1) ∧ w.cell? ⟨b, pre.length * 2 + 1, none⟩ = some (.int .i64 g.2) := by
  subst hg
  obtain ⟨b, cap, e, -, -, -, hc⟩ := h.seg (by simp)
  obtain ⟨k1, k2⟩ := hc pre.length g (by simp)
  exact ⟨b, cap, by rw [e, List.length_append]; rfl, k1, k2⟩

theorem sync_empty (h : PAt w F d D) (k : LIn w G lp d M sg rv [] rs u) (hFG : ∀ i, G i → ¬ F i) : Calls Tryz.prog 25 #[.pointer (some ⟨lp, 0, none⟩)] w fun e w' => e = .returned (.int .i64 0) ∧ LDid F G lp d M D [] rs u w w' := by
  have c3 := (row_at k.cell 3 _ rfl).1
  obtain ⟨a, c, rfl⟩ := k.nil
  have HD := Lib.hid (LDid.mk0 h k hFG)
  clear h k hFG
  go_enter Tryz.func25, Tryz.ntmps25
  go_wp2_with fail
  go_ret
  exact ⟨rfl, HD.out⟩
set_option maxHeartbeats 2000000 in
theorem sync_any (h : PAt w F d D) (k : LIn w G lp d M sg rv gs rs u) (hFG : ∀ i, G i → ¬ F i) (hl : LSm gs rs) {pre : List (Int × Int)} {n : Nat} {z : Int} (hg : gs = pre ++ [((n : Int), z)]) (hn : n < 100) :
    Calls Tryz.prog 25 #[.pointer (some ⟨lp, 0, none⟩)] w fun e w' => e = .returned (.int .i64 (syncD D (nmW n)).2) ∧ LDid F G lp d M (syncD D (nmW n)).1 gs rs (if (syncD D (nmW n)).2 = 0 then nextG gs rs else u) w w' := by
  obtain ⟨b, cap, hsg, k1, k2⟩ := k.tail hg
  have c3 := (row_at k.cell 3 _ rfl).1
  have c0 := (row_at k.cell 0 _ rfl).1
  have HK := Lib.hid (show ∀ W, Below w.heap.size w W → W.cell? ⟨lp, 0, none⟩ = some (.pointer (some ⟨d, 0, none⟩)) ∧ W.cell? ⟨b, pre.length * 2, none⟩ = some (.int .i64 (n : Int)) from fun W hb => ⟨kept_cell hb c0, kept_cell hb k1⟩)
  have HL := Lib.hid (fun W (hb : Below w.heap.size w W) => last_any (k.below hb) hl.n1 hsg)
  have HF := Lib.hid (fun W (hb : Below w.heap.size w W) => file_any (k.below hb) n hn)
  have HS := Lib.hid (show ∀ W, Below w.heap.size w W → Calls Tryz.prog 45 #[.pointer (some ⟨d, 0, none⟩), .string (str (nmW n))] W fun e w' => e = .returned (.int .i64 (syncD D (nmW n)).2) ∧ LDid F G lp d M (syncD D (nmW n)).1 gs rs u w w' from
    fun W hb => (psync_any (h.below hb) (nmW n) (by have := nmW_len (n := n) (by omega); unfold maxLen; omega)).mono fun e w' hw => LDid.wrote k hFG hb hw)
  obtain ⟨⟨D', E⟩, hr⟩ : ∃ r, syncD D (nmW n) = r := ⟨_, rfl⟩
  rw [hr] at HS ⊢
  dsimp only at HS ⊢
  have HX := Lib.hid (show ∀ W, LDid F G lp d M D' gs rs u w W → Calls Tryz.prog 19 #[.pointer (some ⟨lp, 0, none⟩)] W fun e w' => e = .returned (.int .i64 (nextG gs rs)) ∧ LDid F G lp d M D' gs rs u w w' ∧ ∃ v, w'.cell? ⟨lp, 5, none⟩ = some v ∧ w'.frozen? ⟨lp, 5, none⟩ = false from fun W hd => by
    have hd' := hd
    obtain ⟨F', G', sg', rv', h1, h2, h3, h4⟩ := hd
    exact (next_any h2 hl).mono fun e w' ⟨he, hb⟩ => ⟨he, hd'.below hb, _, row_at (h2.below hb).cell 5 _ rfl⟩)
  obtain ⟨NX, hNX⟩ : ∃ x, nextG gs rs = x := ⟨_, rfl⟩
  rw [hNX] at HX ⊢
  have hlen : gs.length = pre.length + 1 := by rw [hg]; simp
  obtain ⟨P, hP⟩ : ∃ P, pre.length = P := ⟨_, rfl⟩
  rw [hP] at hsg k1 HK HL
  subst hsg
  have hz : (((P + 1 : Nat) : Int) == 0) = false := by
    have : ((P + 1 : Nat) : Int) ≠ 0 := by omega
    simpa using this
  clear h k hFG hl hg k2 hNX hlen hP hr
  by_cases hE : E = 0
  · subst hE
    rw [if_pos rfl]
    go_enter Tryz.func25, Tryz.ntmps25
    go_wp2_with fail
    go_region_with (first
      | (go_at_call 44; (with_reducible refine (HL.out _ (Below.refl _ w).drew).mono ?_); rintro _ w1 ⟨rfl, hb⟩; have HB1 := Lib.hid ((Below.refl w.heap.size w).drew.trans hb); obtain ⟨m0, m1⟩ := HK.out _ HB1.out; clear hb)
      | (go_at_call 38; (with_reducible refine (HF.out _ HB1.out).mono ?_); rintro _ w2 ⟨rfl, hb⟩; have HB2 := Lib.hid (HB1.out.trans (hb.mono HB1.out.size)); obtain ⟨m2, m3⟩ := HK.out _ HB2.out; clear hb)
      | (go_at_call 45; (with_reducible refine (HS.out _ HB2.out).mono ?_); rintro _ w3 ⟨rfl, hd⟩; have HD3 := Lib.hid hd; clear hd))
    all_goals go_wp2_with (go_at_call 19; (with_reducible refine (HX.out _ HD3.out).mono ?_); rintro _ w4 ⟨rfl, hd, v5, e5, f5⟩; have HD4 := Lib.hid hd; clear hd)
    all_goals (go_ret; exact ⟨rfl, HD4.out.safe NX⟩)
  · rw [if_neg hE]
    have hb : (E != 0) = true := bne_iff_ne.2 hE
    clear hE HX
    go_enter Tryz.func25, Tryz.ntmps25
    go_wp2_with fail
    go_region_with (first
      | (go_at_call 44; (with_reducible refine (HL.out _ (Below.refl _ w).drew).mono ?_); rintro _ w1 ⟨rfl, hb⟩; have HB1 := Lib.hid ((Below.refl w.heap.size w).drew.trans hb); obtain ⟨m0, m1⟩ := HK.out _ HB1.out; clear hb)
      | (go_at_call 38; (with_reducible refine (HF.out _ HB1.out).mono ?_); rintro _ w2 ⟨rfl, hb⟩; have HB2 := Lib.hid (HB1.out.trans (hb.mono HB1.out.size)); obtain ⟨m2, m3⟩ := HK.out _ HB2.out; clear hb)
      | (go_at_call 45; (with_reducible refine (HS.out _ HB2.out).mono ?_); rintro _ w3 ⟨rfl, hd⟩; have HD3 := Lib.hid hd; clear hd))
    all_goals go_wp2_with fail
    all_goals (go_ret; exact ⟨rfl, HD3.out⟩)
end
end Go.Proofs.YtelcemfaijjcbaaGreatDoor.C13
