/-
  Layer 13, the program: each step of a call on a log, from a state to a state.
-/
import Derived.Test.YtelcemfaijjcbaaGreatDoorHP13Lh
import Derived.Test.YtelcemfaijjcbaaGreatDoorHP12Po
namespace Go.Proofs.YtelcemfaijjcbaaGreatDoor.C13
open Go Go.RowKit Go.Proofs Go.Proofs.YtelcemfaijjcbaaGreatDoor.B Go.Proofs.YtelcemfaijjcbaaGreatDoor.K Go.Proofs.YtelcemfaijjcbaaGreatDoor.P8 Go.Proofs.YtelcemfaijjcbaaGreatDoor.C12
set_option linter.unusedVariables false
set_option maxRecDepth 100000
section
variable {w W : World} {F G : Nat → Prop} {lp d : Nat} {M u : Int} {sg rv : Value} {gs : List (Int × Int)} {rs : List (List UInt8)} {D : Dst}
theorem LDid.open (h : LDid F G lp d M D gs rs u w W) : ∃ F' G' sg rv, PAt W F' d D ∧ LIn W G' lp d M sg rv gs rs u ∧ (∀ i, G' i → ¬ F' i) ∧ Chg (fun i => F i ∨ G i) (fun i => F' i ∨ G' i) w W := h
theorem LDid.disk (h : LDid F G lp d M D gs rs u w W) : W.cell? ⟨lp, 0, none⟩ = some (.pointer (some ⟨d, 0, none⟩)) := by
  obtain ⟨F', G', sg, rv, h1, h2, h3, h4⟩ := h.open
  exact (row_at h2.cell 0 _ rfl).1
theorem LDid.slice (h : LDid F G lp d M D gs rs u w W) : ∃ a c, W.cell? ⟨lp, 3, none⟩ = some (.slice a gs.length c) := by
  obtain ⟨F', G', sg, rv, h1, h2, h3, h4⟩ := h.open
  obtain ⟨a, c, rfl⟩ := shape_own h2.segs
  exact ⟨a, c, (row_at h2.cell 3 _ rfl).1⟩
theorem LDid.drew (h : LDid F G lp d M D gs rs u w W) : LDid F G lp d M D gs rs u w W.drew := h.below (Below.refl _ _).drew
theorem LDid.push (hd : LDid F G lp d M D gs rs u w W) (hc : W.cell? ⟨lp, 3, none⟩ = some sg) : W.ownsRow 0 76 2 sg gs.length (pairCells gs) ∧
    ∀ W1 W2 sg' n z, Below W.heap.size W W1 → W2.ownsRow 0 76 2 sg' (gs.length + 1) (pairCells gs ++ [.int .i64 n, .int .i64 z]) → W1.grownBy W2 sg.ownBlock → (sg'.ownBlock = sg.ownBlock ∨ sg'.ownBlock = some W1.heap.size) →
      W2.cell? ⟨lp, 3, none⟩ = some sg ∧ W2.frozen? ⟨lp, 3, none⟩ = false ∧ LDid F G lp d M D (gs ++ [(n, z)]) rs u w (W2.setCell ⟨lp, 3, none⟩ sg') := by
  obtain ⟨F', G', sg0, rv, h1, h2, h3, h4⟩ := hd.open
  have e := (row_at h2.cell 3 _ rfl).1
  rw [hc] at e
  obtain rfl : sg0 = sg := (Option.some.inj e).symm
  refine ⟨h2.segs, fun W1 W2 sg' n z hb hr hg hat => ?_⟩
  have hc2 : W2.heap[lp]? = W.heap[lp]? := (hg.block lp (Nat.lt_of_lt_of_le (h2.lt lp h2.ownl) hb.size) (fun e => h2.offs.1 e.symm)).trans (hb.block lp (h2.lt lp h2.ownl))
  have := row_at (hc2.trans h2.cell) 3 _ rfl
  exact ⟨this.1, this.2, LDid.grew h1 h2 h3 h4 hb hr hg hat⟩
theorem do_file (n : Nat) (hn : n < 100) (h : LDid F G lp d M D gs rs u w W) : Calls Tryz.prog 38 #[.pointer (some ⟨lp, 0, none⟩), .int .i64 (n : Int)] W fun e w' => e = .returned (.string (str (nmW n))) ∧ LDid F G lp d M D gs rs u w w' := by
  obtain ⟨F', G', sg, rv, h1, h2, h3, h4⟩ := h.open
  exact (file_any h2 n hn).mono fun e w' ⟨he, hb⟩ => ⟨he, h.below hb⟩
theorem do_next (hl : LSm gs rs) (h : LDid F G lp d M D gs rs u w W) : Calls Tryz.prog 19 #[.pointer (some ⟨lp, 0, none⟩)] W fun e w' => e = .returned (.int .i64 (nextG gs rs)) ∧ LDid F G lp d M D gs rs u w w' := by
  obtain ⟨F', G', sg, rv, h1, h2, h3, h4⟩ := h.open
  exact (next_any h2 hl).mono fun e w' ⟨he, hb⟩ => ⟨he, h.below hb⟩
theorem do_first (hl : LSm gs rs) (h : LDid F G lp d M D gs rs u w W) : Calls Tryz.prog 18 #[.pointer (some ⟨lp, 0, none⟩)] W fun e w' => e = .returned (.int .i64 (firstG gs)) ∧ LDid F G lp d M D gs rs u w w' := by
  obtain ⟨F', G', sg, rv, h1, h2, h3, h4⟩ := h.open
  exact (first_any h2 hl.n1).mono fun e w' ⟨he, hb⟩ => ⟨he, hb ▸ h⟩
theorem do_last {pre : List (Int × Int)} {n z : Int} (hl : pre.length ≤ 900) (h : LDid F G lp d M D (pre ++ [(n, z)]) rs u w W) : Calls Tryz.prog 44 #[.pointer (some ⟨lp, 0, none⟩)] W fun e w' => ∃ b, e = .returned (.pointer (some ⟨b, pre.length * 2, none⟩)) ∧
    (w'.cell? ⟨b, pre.length * 2, none⟩ = some (.int .i64 n) ∧ w'.cell? ⟨b, pre.length * 2 + 1, none⟩ = some (.int .i64 z) ∧ w'.frozen? ⟨b, pre.length * 2 + 1, none⟩ = false) ∧ LDid F G lp d M D (pre ++ [(n, z)]) rs u w w' ∧ ∀ z', LDid F G lp d M D (pre ++ [(n, z')]) rs u w (w'.setCell ⟨b, pre.length * 2 + 1, none⟩ (.int .i64 z')) := by
  obtain ⟨F', G', sg, rv, h1, h2, h3, h4⟩ := h.open
  obtain ⟨b, cap, rfl, k1, k2⟩ := h2.tail rfl
  obtain ⟨b', cap', e, -, -, ⟨cur, hcur⟩, -⟩ := h2.seg (by simp)
  obtain rfl : b = b' := by
    simp only [Value.slice.injEq, Option.some.injEq, Addr.mk.injEq] at e
    exact e.1.1
  refine (last_any h2 (by rw [List.length_append]; simp; omega) rfl).mono ?_
  rintro e w' ⟨he, hb⟩
  have hbl : w'.heap[b]? = some (.cells cur 76 (0, 0)) := (hb.block b (Array.getElem?_eq_some_iff.1 hcur).1).trans hcur
  refine ⟨b, he, ⟨kept_cell hb k1, kept_cell hb k2, by simp [World.frozen?, hbl]⟩, h.below hb, fun z' => LDid.sized ⟨F', G', rv, h1.below hb, h2.below hb, h3, h4.below hb⟩ z'⟩
theorem do_app (s t : List UInt8) (hs : s.length ≤ 1000000) (ht : t.length ≤ 1000000) (h : LDid F G lp d M D gs rs u w W) : Calls Tryz.prog 43 #[.pointer (some ⟨d, 0, none⟩), .string (str s), .string (str t)] W fun e w' => e = .returned (.int .i64 (appendD D s t).2) ∧ LDid F G lp d M (appendD D s t).1 gs rs u w w' := by
  obtain ⟨F', G', sg, rv, h1, h2, h3, h4⟩ := h.open
  refine (pappend_any h1 s t (by omega) (by omega)).mono fun e w' hw => ?_
  obtain ⟨he, F2, G2, sg2, rv2, k1, k2, k3, k4⟩ := LDid.wrote h2 h3 (Below.refl _ _) hw
  exact ⟨he, F2, G2, sg2, rv2, k1, k2, k3, h4.trans k4⟩
theorem do_clone (s : List UInt8) (hs : s.length ≤ 1000000) (h : LDid F G lp d M D gs rs u w W) : Calls Tryz.prog 35 #[.string (str s)] W fun e w' => e = .returned (.string (str s)) ∧ LDid F G lp d M D gs rs u w w' :=
  (V.clone_of (str s) W (by rw [str_size]; omega)).mono fun e w' ⟨he, hb⟩ => ⟨he, h.below hb⟩
theorem do_take (r : List UInt8) (hl : rs.length ≤ 1000000) (h : LDid F G lp d M D gs rs u w W) : Calls Tryz.prog 27 #[.pointer (some ⟨lp, 4, none⟩), .string (str r)] W fun e w' => e = .returned (.tuple #[]) ∧ LDid F G lp d M D gs (rs ++ [r]) u w w' := by
  obtain ⟨F', G', sg, rv, h1, h2, h3, h4⟩ := h.open
  exact (take_any lp 4 _ _ rv rs r W h2.cell (by decide) rfl h2.recs (by omega)).mono fun e w' ⟨he, ht⟩ => ⟨he, LDid.took h1 h2 h3 h4 ht⟩
theorem do_lay (q : Int) (r : List UInt8) (hq : 0 ≤ q ∧ q ≤ 4611686018427387904) (hr : r.length ≤ 1024) (h : LDid F G lp d M D gs rs u w W) : Calls Tryz.prog 42 #[.int .i64 q, .string (str r)] W fun e w' => e = .returned (.tuple #[.string (str (recB q r)), .int .i64 0]) ∧ LDid F G lp d M D gs rs u w w' :=
  (layRec_any q r W hq hr).mono fun e w' ⟨he, hb⟩ => ⟨he, h.below hb⟩
end
end Go.Proofs.YtelcemfaijjcbaaGreatDoor.C13
