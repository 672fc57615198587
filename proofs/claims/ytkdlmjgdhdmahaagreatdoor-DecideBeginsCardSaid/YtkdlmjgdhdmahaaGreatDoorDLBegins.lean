/-
  DecideBegins: where streams begin, and which states may be, as the document says.
-/
import Derived.Test.YtkdlmjgdhdmahaaGreatDoorRows
import Derived.Test.YtkdlmjgdhdmahaaGreatDoorTie
import Derived.Test.YtkdlmjgdhdmahaaGreatDoorCards
import Derived.Test.YtkdlmjgdhdmahaaGreatDoorSVc
import Derived.Test.YtkdlmjgdhdmahaaGreatDoorSVd
import Derived.Test.YtkdlmjgdhdmahaaGreatDoorSVm
import Derived.Test.YtkdlmjgdhdmahaaGreatDoorSVn
import Derived.OpenShut
namespace Go.Proofs.YtkdlmjgdhdmahaaGreatDoor.decideBegins
open Go Go.ChangeShapes Go.WideShapes Go.ChangeAt Go.RowKit
open Go.Proofs.YtkdlmjgdhdmahaaGreatDoor.B Go.Proofs.YtkdlmjgdhdmahaaGreatDoor.K Go.Proofs.YtkdlmjgdhdmahaaGreatDoor.E Go.Proofs.YtkdlmjgdhdmahaaGreatDoor.R Go.Proofs.YtkdlmjgdhdmahaaGreatDoor.D
set_option linter.unusedVariables false
set_option maxRecDepth 100000

theorem own : ownKnob Tryz.prog.godebug = none := by kernel_rfl
theorem laidOut : laidOutB Tryz.prog = true := by kernel_rfl

theorem mayB_of {t : Tb} (h : chk5 t = (0, 0, 0, 0)) : mayB t = true := by unfold mayB; rw [h]; rfl
theorem right7_of (t : Tb) (s : Stt) : right7 t s = (mayB t && stands t s) := by
  unfold right7 mayB
  split
  · rename_i h; rw [decide_eq_true h, Bool.true_and]
  · rename_i h; rw [decide_eq_false h, Bool.false_and]
theorem begins_right {t : Tb} (h : chk5 t = (0, 0, 0, 0)) : right7 t ⟨0, 0, t.start⟩ = true := by
  rw [right7_of, mayB_of h, Bool.true_and]
  have h1 := start_of h
  have h2 := (fine_of h).states
  unfold stands
  rw [Bool.and_eq_true, decide_eq_true_iff]
  exact ⟨⟨Int.le_refl _, by show (0 : Int) < _; omega, Int.le_refl _, by show (0 : Int) ≤ 1099511627776; decide, h1.1⟩, h1.2⟩

set_option maxHeartbeats 8000000 in
theorem walk (t : Tb) (c0 c1 c2 c3 : Value) (s : Stt) (v : Value) (w : World) (h : TbIs w [c0, c1, c2, c3] t) (hw : TbWf t) (hs : SlN w v s.vars) (hsw : StWf s) (hG : I.Glob w) :
    Calls Tryz.prog 7 #[.agg #[c0, c1, c2, c3], .agg #[.int .i64 s.pos, .int .i64 s.ver, v]] w fun e w' => e = .returned (.bool true) ∧ Below w.heap.size w w' := by
  obtain ⟨sp, hsp⟩ : ∃ x, s.pos = x := ⟨_, rfl⟩
  obtain ⟨sr, hsr⟩ : ∃ x, s.ver = x := ⟨_, rfl⟩
  have HT := Lib.hid h
  have HWF := Lib.hid hw
  have HV := Lib.hid hs
  have HSW := Lib.hid hsw.2.2.2
  have HG := Lib.hid hG
  have hnew0 := fun (W : World) (hb : Below w.heap.size w W) => new_any t c0 c1 c2 c3 W (h.below hb) hw (hG.below hb)
  have HLR := Lib.hid (fun (W : World) (hb : Below w.heap.size w W) => lawRight_any t c0 c1 c2 c3 W (h.below hb) hw)
  have HRT0 := fun (W : World) (hb : Below w.heap.size w W) => right_any t s c0 c1 c2 c3 v W (h.below hb) hw (Sl.below hs hb) hsw.2.2.2 (hG.below hb)
  have HRR0 := fun (W : World) (hb : Below w.heap.size w W) => refRight7_any t s c0 c1 c2 c3 v W (h.below hb) hw (Sl.below hs hb) hsw.2.2.2
  rw [hsp, hsr] at HRT0 HRR0
  have HRT := Lib.hid HRT0
  have HRR := Lib.hid HRR0
  rw [hsp, hsr]
  obtain ⟨W0, hW0⟩ : ∃ W0, w.alloc (.cells #[c0, c1, c2, c3] 26) = W0 := ⟨_, rfl⟩
  have hB0 : Below w.heap.size w W0 := by rw [← hW0]; exact below_alloc _ _
  have q0 : W0.cell? ⟨w.heap.size, 0, none⟩ = some c0 := by rw [← hW0]; exact box_cell _ _ _ _ _ rfl
  have q1 : W0.cell? ⟨w.heap.size, 1, none⟩ = some c1 := by rw [← hW0]; exact box_cell _ _ _ _ _ rfl
  have q2 : W0.cell? ⟨w.heap.size, 2, none⟩ = some c2 := by rw [← hW0]; exact box_cell _ _ _ _ _ rfl
  have q3 : W0.cell? ⟨w.heap.size, 3, none⟩ = some c3 := by rw [← hW0]; exact box_cell _ _ _ _ _ rfl
  obtain ⟨g1, hg1⟩ : ∃ g, W0.heap.size = g := ⟨_, rfl⟩
  obtain ⟨W1, hW1⟩ : ∃ W1, W0.alloc (.cells #[.int .i64 sp, .int .i64 sr, v] 41) = W1 := ⟨_, rfl⟩
  have hB1 : Below W0.heap.size W0 W1 := by rw [← hW1]; exact below_alloc _ _
  have q0 := kept_cell hB1 q0
  have q1 := kept_cell hB1 q1
  have q2 := kept_cell hB1 q2
  have q3 := kept_cell hB1 q3
  have k0 : W1.cell? ⟨g1, 0, none⟩ = some (.int .i64 sp) := by rw [← hW1, ← hg1]; exact (box3 _ _ _ _ _).1
  have k1 : W1.cell? ⟨g1, 1, none⟩ = some (.int .i64 sr) := by rw [← hW1, ← hg1]; exact (box3 _ _ _ _ _).2.1
  have k2 : W1.cell? ⟨g1, 2, none⟩ = some v := by rw [← hW1, ← hg1]; exact (box3 _ _ _ _ _).2.2
  have hb1 := hB0.trans (hB1.mono hB0.size)
  have HB1 := Lib.hid hb1
  have hnew := hnew0 W1 hb1
  have HKK := Lib.hid (And.intro q0 (And.intro q1 (And.intro q2 (And.intro q3 (And.intro k0 (And.intro k1 k2))))))
  obtain ⟨B, hB⟩ : ∃ B, mayB t = B := ⟨_, rfl⟩
  have HBB := Lib.hid hB
  rw [hB] at HLR
  clear hnew0 HRT0 HRR0 h hw hs hsw hG hsp hsr hB0 hB1 hb1 hB
  cases B with
  | false =>
    have hbeg : begins t = ⟨0, 0, []⟩ := by unfold begins; rw [if_neg (fun hc => by have := HBB.out; rw [mayB_of hc] at this; cases this)]
    rw [hbeg] at hnew
    clear hbeg
    have HNW := Lib.hid hnew
    clear hnew
    go_enter Tryz.func7, Tryz.ntmps7
    go_wp2_with fail
    refine HNW.out.mono ?_
    rintro _ w2 ⟨vn, rfl, hvn, hb2⟩
    have hvn : SlN w2 vn [] := hvn
    have HVN := Lib.hid hvn
    obtain ⟨av, cv, rfl⟩ := sl_len hvn
    obtain ⟨nn, hnn⟩ : ∃ nn, (List.map (fun n => Value.int IntKind.i64 n) []).length = nn := ⟨_, rfl⟩
    rw [hnn] at HVN ⊢
    obtain ⟨g2, hg2⟩ : ∃ g, w2.heap.size = g := ⟨_, rfl⟩
    obtain ⟨W3, hW3⟩ : ∃ W3, w2.alloc (.cells #[.int .i64 0, .int .i64 0, .slice av nn cv] 41) = W3 := ⟨_, rfl⟩
    have hB3 : Below w2.heap.size w2 W3 := by rw [← hW3]; exact below_alloc _ _
    have j0 : W3.cell? ⟨g2, 0, none⟩ = some (.int .i64 0) := by rw [← hW3, ← hg2]; exact (box3 _ _ _ _ _).1
    have j1 : W3.cell? ⟨g2, 1, none⟩ = some (.int .i64 0) := by rw [← hW3, ← hg2]; exact (box3 _ _ _ _ _).2.1
    have j2 : W3.cell? ⟨g2, 2, none⟩ = some (.slice av nn cv) := by rw [← hW3, ← hg2]; exact (box3 _ _ _ _ _).2.2
    have hb13 := hb2.trans (hB3.mono hb2.size)
    have hb3 := HB1.out.trans (hb13.mono HB1.out.size)
    have HB3 := Lib.hid hb3
    have HV3 := Lib.hid (show SlN W3 (.slice av nn cv) [] from Sl.below HVN.out hB3)
    have q0 := kept_cell hb13 HKK.out.1
    have q1 := kept_cell hb13 HKK.out.2.1
    have q2 := kept_cell hb13 HKK.out.2.2.1
    have q3 := kept_cell hb13 HKK.out.2.2.2.1
    have k0 := kept_cell hb13 HKK.out.2.2.2.2.1
    have k1 := kept_cell hb13 HKK.out.2.2.2.2.2.1
    have k2 := kept_cell hb13 HKK.out.2.2.2.2.2.2
    have HS3 := Lib.hid (show W3.cell? ⟨w.heap.size, 0, none⟩ = some c0 ∧ W3.cell? ⟨w.heap.size, 1, none⟩ = some c1 ∧ W3.cell? ⟨w.heap.size, 2, none⟩ = some c2 ∧ W3.cell? ⟨w.heap.size, 3, none⟩ = some c3 ∧ W3.cell? ⟨g1, 0, none⟩ = some (.int .i64 sp) ∧ W3.cell? ⟨g1, 1, none⟩ = some (.int .i64 sr) ∧ W3.cell? ⟨g1, 2, none⟩ = some (v) ∧ W3.cell? ⟨g2, 0, none⟩ = some (.int .i64 0) ∧ W3.cell? ⟨g2, 1, none⟩ = some (.int .i64 0) ∧ W3.cell? ⟨g2, 2, none⟩ = some (.slice av nn cv) ∧ Below W3.heap.size W3 W3 from ⟨q0, q1, q2, q3, k0, k1, k2, j0, j1, j2, Below.refl _ _⟩)
    have HKP := Lib.hid (fun (Wa Wb : World) (hb : Below Wa.heap.size Wa Wb) (h : Wa.cell? ⟨w.heap.size, 0, none⟩ = some c0 ∧ Wa.cell? ⟨w.heap.size, 1, none⟩ = some c1 ∧ Wa.cell? ⟨w.heap.size, 2, none⟩ = some c2 ∧ Wa.cell? ⟨w.heap.size, 3, none⟩ = some c3 ∧ Wa.cell? ⟨g1, 0, none⟩ = some (.int .i64 sp) ∧ Wa.cell? ⟨g1, 1, none⟩ = some (.int .i64 sr) ∧ Wa.cell? ⟨g1, 2, none⟩ = some (v) ∧ Wa.cell? ⟨g2, 0, none⟩ = some (.int .i64 0) ∧ Wa.cell? ⟨g2, 1, none⟩ = some (.int .i64 0) ∧ Wa.cell? ⟨g2, 2, none⟩ = some (.slice av nn cv) ∧ Below W3.heap.size W3 Wa) => show Wb.cell? ⟨w.heap.size, 0, none⟩ = some c0 ∧ Wb.cell? ⟨w.heap.size, 1, none⟩ = some c1 ∧ Wb.cell? ⟨w.heap.size, 2, none⟩ = some c2 ∧ Wb.cell? ⟨w.heap.size, 3, none⟩ = some c3 ∧ Wb.cell? ⟨g1, 0, none⟩ = some (.int .i64 sp) ∧ Wb.cell? ⟨g1, 1, none⟩ = some (.int .i64 sr) ∧ Wb.cell? ⟨g1, 2, none⟩ = some (v) ∧ Wb.cell? ⟨g2, 0, none⟩ = some (.int .i64 0) ∧ Wb.cell? ⟨g2, 1, none⟩ = some (.int .i64 0) ∧ Wb.cell? ⟨g2, 2, none⟩ = some (.slice av nn cv) ∧ Below W3.heap.size W3 Wb from ⟨kept_cell hb h.1, kept_cell hb h.2.1, kept_cell hb h.2.2.1, kept_cell hb h.2.2.2.1, kept_cell hb h.2.2.2.2.1, kept_cell hb h.2.2.2.2.2.1, kept_cell hb h.2.2.2.2.2.2.1, kept_cell hb h.2.2.2.2.2.2.2.1, kept_cell hb h.2.2.2.2.2.2.2.2.1, kept_cell hb h.2.2.2.2.2.2.2.2.2.1, h.2.2.2.2.2.2.2.2.2.2.trans (hb.mono h.2.2.2.2.2.2.2.2.2.2.size)⟩)
    have HL3 := Lib.hid (HLR.out W3 hb3)
    clear hvn hb2 hB3 hb13 hb3 hnn HNW HVN
    go_wp2_with fail
    refine HL3.out.mono ?_
    rintro _ w4 ⟨rfl, hb4⟩
    have HS4 := Lib.hid (HKP.out W3 w4 hb4 HS3.out)
    clear hb4 q0 q1 q2 q3 k0 k1 k2 j0 j1 j2 hW3 hg2
    obtain ⟨q0, q1, q2, q3, k0, k1, k2, j0, j1, j2, hbs⟩ := HS4.out
    have HA4 := Lib.hid (awake_any w4 (HG.out.below (HB3.out.trans (hbs.mono HB3.out.size))))
    clear hbs
    go_wp2_with fail
    refine HA4.out.mono ?_
    rintro _ w5 ⟨rfl, hb5⟩
    have HS5 := Lib.hid (HKP.out w4 w5 hb5 HS4.out)
    clear hb5 q0 q1 q2 q3 k0 k1 k2 j0 j1 j2
    obtain ⟨q0, q1, q2, q3, k0, k1, k2, j0, j1, j2, hbs⟩ := HS5.out
    have HSM := Lib.hid (sameS_any ⟨0, 0, []⟩ (.slice av nn cv) (.slice none 0 0) w5 (Sl.below HV3.out hbs) (Sl.nil _) (Nat.zero_le _))
    clear hbs
    go_wp2_with fail
    refine HSM.out.mono ?_
    rintro _ w6 ⟨rfl, hb6⟩
    have HS6 := Lib.hid (HKP.out w5 w6 hb6 HS5.out)
    clear hb6 q0 q1 q2 q3 k0 k1 k2 j0 j1 j2
    obtain ⟨q0, q1, q2, q3, k0, k1, k2, j0, j1, j2, hbs⟩ := HS6.out
    have hr := HRT.out w6 (HB3.out.trans (hbs.mono HB3.out.size))
    rw [right7_of, HBB.out, Bool.false_and] at hr
    have HR6 := Lib.hid hr
    clear hbs hr
    go_wp2_with fail
    refine HR6.out.mono ?_
    rintro _ w7 ⟨rfl, hb7⟩
    have HS7 := Lib.hid (HKP.out w6 w7 hb7 HS6.out)
    clear hb7 q0 q1 q2 q3 k0 k1 k2 j0 j1 j2
    go_wp2_with fail
    go_ret
    exact ⟨rfl, HB3.out.trans (HS7.out.2.2.2.2.2.2.2.2.2.2.mono HB3.out.size)⟩
  | true =>
    have hchk : chk5 t = (0, 0, 0, 0) := of_decide_eq_true HBB.out
    have hbeg : begins t = ⟨0, 0, t.start⟩ := by unfold begins; rw [if_pos hchk]
    rw [hbeg] at hnew
    clear hbeg
    have HNW := Lib.hid hnew
    clear hnew
    go_enter Tryz.func7, Tryz.ntmps7
    go_wp2_with fail
    refine HNW.out.mono ?_
    rintro _ w2 ⟨vn, rfl, hvn, hb2⟩
    have hvn : SlN w2 vn t.start := hvn
    have HVN := Lib.hid hvn
    obtain ⟨av, cv, rfl⟩ := sl_len hvn
    obtain ⟨nn, hnn⟩ : ∃ nn, (List.map (fun n => Value.int IntKind.i64 n) t.start).length = nn := ⟨_, rfl⟩
    rw [hnn] at HVN ⊢
    obtain ⟨g2, hg2⟩ : ∃ g, w2.heap.size = g := ⟨_, rfl⟩
    obtain ⟨W3, hW3⟩ : ∃ W3, w2.alloc (.cells #[.int .i64 0, .int .i64 0, .slice av nn cv] 41) = W3 := ⟨_, rfl⟩
    have hB3 : Below w2.heap.size w2 W3 := by rw [← hW3]; exact below_alloc _ _
    have j0 : W3.cell? ⟨g2, 0, none⟩ = some (.int .i64 0) := by rw [← hW3, ← hg2]; exact (box3 _ _ _ _ _).1
    have j1 : W3.cell? ⟨g2, 1, none⟩ = some (.int .i64 0) := by rw [← hW3, ← hg2]; exact (box3 _ _ _ _ _).2.1
    have j2 : W3.cell? ⟨g2, 2, none⟩ = some (.slice av nn cv) := by rw [← hW3, ← hg2]; exact (box3 _ _ _ _ _).2.2
    have hb13 := hb2.trans (hB3.mono hb2.size)
    have hb3 := HB1.out.trans (hb13.mono HB1.out.size)
    have HB3 := Lib.hid hb3
    have HV3 := Lib.hid (show SlN W3 (.slice av nn cv) t.start from Sl.below HVN.out hB3)
    have q0 := kept_cell hb13 HKK.out.1
    have q1 := kept_cell hb13 HKK.out.2.1
    have q2 := kept_cell hb13 HKK.out.2.2.1
    have q3 := kept_cell hb13 HKK.out.2.2.2.1
    have k0 := kept_cell hb13 HKK.out.2.2.2.2.1
    have k1 := kept_cell hb13 HKK.out.2.2.2.2.2.1
    have k2 := kept_cell hb13 HKK.out.2.2.2.2.2.2
    have HS3 := Lib.hid (show W3.cell? ⟨w.heap.size, 0, none⟩ = some c0 ∧ W3.cell? ⟨w.heap.size, 1, none⟩ = some c1 ∧ W3.cell? ⟨w.heap.size, 2, none⟩ = some c2 ∧ W3.cell? ⟨w.heap.size, 3, none⟩ = some c3 ∧ W3.cell? ⟨g1, 0, none⟩ = some (.int .i64 sp) ∧ W3.cell? ⟨g1, 1, none⟩ = some (.int .i64 sr) ∧ W3.cell? ⟨g1, 2, none⟩ = some (v) ∧ W3.cell? ⟨g2, 0, none⟩ = some (.int .i64 0) ∧ W3.cell? ⟨g2, 1, none⟩ = some (.int .i64 0) ∧ W3.cell? ⟨g2, 2, none⟩ = some (.slice av nn cv) ∧ Below W3.heap.size W3 W3 from ⟨q0, q1, q2, q3, k0, k1, k2, j0, j1, j2, Below.refl _ _⟩)
    have HKP := Lib.hid (fun (Wa Wb : World) (hb : Below Wa.heap.size Wa Wb) (h : Wa.cell? ⟨w.heap.size, 0, none⟩ = some c0 ∧ Wa.cell? ⟨w.heap.size, 1, none⟩ = some c1 ∧ Wa.cell? ⟨w.heap.size, 2, none⟩ = some c2 ∧ Wa.cell? ⟨w.heap.size, 3, none⟩ = some c3 ∧ Wa.cell? ⟨g1, 0, none⟩ = some (.int .i64 sp) ∧ Wa.cell? ⟨g1, 1, none⟩ = some (.int .i64 sr) ∧ Wa.cell? ⟨g1, 2, none⟩ = some (v) ∧ Wa.cell? ⟨g2, 0, none⟩ = some (.int .i64 0) ∧ Wa.cell? ⟨g2, 1, none⟩ = some (.int .i64 0) ∧ Wa.cell? ⟨g2, 2, none⟩ = some (.slice av nn cv) ∧ Below W3.heap.size W3 Wa) => show Wb.cell? ⟨w.heap.size, 0, none⟩ = some c0 ∧ Wb.cell? ⟨w.heap.size, 1, none⟩ = some c1 ∧ Wb.cell? ⟨w.heap.size, 2, none⟩ = some c2 ∧ Wb.cell? ⟨w.heap.size, 3, none⟩ = some c3 ∧ Wb.cell? ⟨g1, 0, none⟩ = some (.int .i64 sp) ∧ Wb.cell? ⟨g1, 1, none⟩ = some (.int .i64 sr) ∧ Wb.cell? ⟨g1, 2, none⟩ = some (v) ∧ Wb.cell? ⟨g2, 0, none⟩ = some (.int .i64 0) ∧ Wb.cell? ⟨g2, 1, none⟩ = some (.int .i64 0) ∧ Wb.cell? ⟨g2, 2, none⟩ = some (.slice av nn cv) ∧ Below W3.heap.size W3 Wb from ⟨kept_cell hb h.1, kept_cell hb h.2.1, kept_cell hb h.2.2.1, kept_cell hb h.2.2.2.1, kept_cell hb h.2.2.2.2.1, kept_cell hb h.2.2.2.2.2.1, kept_cell hb h.2.2.2.2.2.2.1, kept_cell hb h.2.2.2.2.2.2.2.1, kept_cell hb h.2.2.2.2.2.2.2.2.1, kept_cell hb h.2.2.2.2.2.2.2.2.2.1, h.2.2.2.2.2.2.2.2.2.2.trans (hb.mono h.2.2.2.2.2.2.2.2.2.2.size)⟩)
    have HL3 := Lib.hid (HLR.out W3 hb3)
    clear hvn hb2 hB3 hb13 hb3 hnn HNW HVN
    go_wp2_with fail
    refine HL3.out.mono ?_
    rintro _ w4 ⟨rfl, hb4⟩
    have HS4 := Lib.hid (HKP.out W3 w4 hb4 HS3.out)
    clear hb4 q0 q1 q2 q3 k0 k1 k2 j0 j1 j2 hW3 hg2
    have hsm : t.start.length * 8 ≤ 140737488355328 := by have := (start_of hchk).1; have := (fine_of hchk).vars; omega
    have hsm4 : t.start.length ≤ 4611686018427387904 := by have := (start_of hchk).1; have := (fine_of hchk).vars; omega
    have hsm9 : t.start.length ≤ 9223372036854775807 := by omega
    have hr7 : right7 t s = stands t s := by rw [right7_of, HBB.out, Bool.true_and]
    obtain ⟨St, hSt⟩ : ∃ St, stands t s = St := ⟨_, rfl⟩
    rw [hr7, hSt] at HRT
    rw [hSt] at HRR
    have HRN := Lib.hid (fun (W : World) (hb : Below w.heap.size w W) (hb3 : Below W3.heap.size W3 W) => (show Calls Tryz.prog 24 #[.agg #[c0, c1, c2, c3], .agg #[.int .i64 0, .int .i64 0, .slice av nn cv]] W fun z w' => z = .returned (.bool true) ∧ Below W.heap.size W w' from by
      have hq := right_any t ⟨0, 0, t.start⟩ c0 c1 c2 c3 (.slice av nn cv) W (HT.out.below hb) HWF.out (Sl.below HV3.out hb3) hsm9 (HG.out.below hb)
      rw [begins_right hchk] at hq
      exact hq))
    have HA := Lib.hid (fun (W : World) (hS : W.cell? ⟨w.heap.size, 0, none⟩ = some c0 ∧ W.cell? ⟨w.heap.size, 1, none⟩ = some c1 ∧ W.cell? ⟨w.heap.size, 2, none⟩ = some c2 ∧ W.cell? ⟨w.heap.size, 3, none⟩ = some c3 ∧ W.cell? ⟨g1, 0, none⟩ = some (.int .i64 sp) ∧ W.cell? ⟨g1, 1, none⟩ = some (.int .i64 sr) ∧ W.cell? ⟨g1, 2, none⟩ = some (v) ∧ W.cell? ⟨g2, 0, none⟩ = some (.int .i64 0) ∧ W.cell? ⟨g2, 1, none⟩ = some (.int .i64 0) ∧ W.cell? ⟨g2, 2, none⟩ = some (.slice av nn cv) ∧ Below W3.heap.size W3 W) => (awake_any W (HG.out.below (HB3.out.trans (hS.2.2.2.2.2.2.2.2.2.2.mono HB3.out.size)))).mono (fun z w' (hz : (z = .returned (.bool true)) ∧ Below W.heap.size W w') => show (z = .returned (.bool true)) ∧ w'.cell? ⟨w.heap.size, 0, none⟩ = some c0 ∧ w'.cell? ⟨w.heap.size, 1, none⟩ = some c1 ∧ w'.cell? ⟨w.heap.size, 2, none⟩ = some c2 ∧ w'.cell? ⟨w.heap.size, 3, none⟩ = some c3 ∧ w'.cell? ⟨g1, 0, none⟩ = some (.int .i64 sp) ∧ w'.cell? ⟨g1, 1, none⟩ = some (.int .i64 sr) ∧ w'.cell? ⟨g1, 2, none⟩ = some (v) ∧ w'.cell? ⟨g2, 0, none⟩ = some (.int .i64 0) ∧ w'.cell? ⟨g2, 1, none⟩ = some (.int .i64 0) ∧ w'.cell? ⟨g2, 2, none⟩ = some (.slice av nn cv) ∧ Below W3.heap.size W3 w' from ⟨hz.1, HKP.out W w' hz.2 hS⟩))
    have HN0 := Lib.hid (fun (W : World) (hb : Below w.heap.size w W) => refNew_any t c0 c1 c2 c3 W (HT.out.below hb) hsm)
    have HN := Lib.hid (fun (W : World) (hS : W.cell? ⟨w.heap.size, 0, none⟩ = some c0 ∧ W.cell? ⟨w.heap.size, 1, none⟩ = some c1 ∧ W.cell? ⟨w.heap.size, 2, none⟩ = some c2 ∧ W.cell? ⟨w.heap.size, 3, none⟩ = some c3 ∧ W.cell? ⟨g1, 0, none⟩ = some (.int .i64 sp) ∧ W.cell? ⟨g1, 1, none⟩ = some (.int .i64 sr) ∧ W.cell? ⟨g1, 2, none⟩ = some (v) ∧ W.cell? ⟨g2, 0, none⟩ = some (.int .i64 0) ∧ W.cell? ⟨g2, 1, none⟩ = some (.int .i64 0) ∧ W.cell? ⟨g2, 2, none⟩ = some (.slice av nn cv) ∧ Below W3.heap.size W3 W) => (HN0.out W (HB3.out.trans (hS.2.2.2.2.2.2.2.2.2.2.mono HB3.out.size))).mono (fun z w' (hz : StOut ⟨0, 0, t.start⟩ W z w') => show ∃ a n c, z = .returned (.agg #[.int .i64 0, .int .i64 0, .slice a n c]) ∧ SlN w' (.slice a n c) t.start ∧ w'.cell? ⟨w.heap.size, 0, none⟩ = some c0 ∧ w'.cell? ⟨w.heap.size, 1, none⟩ = some c1 ∧ w'.cell? ⟨w.heap.size, 2, none⟩ = some c2 ∧ w'.cell? ⟨w.heap.size, 3, none⟩ = some c3 ∧ w'.cell? ⟨g1, 0, none⟩ = some (.int .i64 sp) ∧ w'.cell? ⟨g1, 1, none⟩ = some (.int .i64 sr) ∧ w'.cell? ⟨g1, 2, none⟩ = some (v) ∧ w'.cell? ⟨g2, 0, none⟩ = some (.int .i64 0) ∧ w'.cell? ⟨g2, 1, none⟩ = some (.int .i64 0) ∧ w'.cell? ⟨g2, 2, none⟩ = some (.slice av nn cv) ∧ Below W3.heap.size W3 w' from (by
      obtain ⟨vz, rfl, hvz, hbz⟩ := hz
      have hvz0 := hvz
      obtain ⟨a, c, rfl⟩ := sl_len hvz
      exact ⟨_, _, _, rfl, hvz0, HKP.out W w' hbz hS⟩)))
    have HM := Lib.hid (fun (W : World) (hS : W.cell? ⟨w.heap.size, 0, none⟩ = some c0 ∧ W.cell? ⟨w.heap.size, 1, none⟩ = some c1 ∧ W.cell? ⟨w.heap.size, 2, none⟩ = some c2 ∧ W.cell? ⟨w.heap.size, 3, none⟩ = some c3 ∧ W.cell? ⟨g1, 0, none⟩ = some (.int .i64 sp) ∧ W.cell? ⟨g1, 1, none⟩ = some (.int .i64 sr) ∧ W.cell? ⟨g1, 2, none⟩ = some (v) ∧ W.cell? ⟨g2, 0, none⟩ = some (.int .i64 0) ∧ W.cell? ⟨g2, 1, none⟩ = some (.int .i64 0) ∧ W.cell? ⟨g2, 2, none⟩ = some (.slice av nn cv) ∧ Below W3.heap.size W3 W) (x : Value) (hx : SlN W x t.start) => (sameS_any ⟨0, 0, t.start⟩ (.slice av nn cv) x W (Sl.below HV3.out hS.2.2.2.2.2.2.2.2.2.2) hx hsm4).mono (fun z w' (hz : z = .returned (.bool true) ∧ Below W.heap.size W w') => show z = .returned (.bool true) ∧ w'.cell? ⟨w.heap.size, 0, none⟩ = some c0 ∧ w'.cell? ⟨w.heap.size, 1, none⟩ = some c1 ∧ w'.cell? ⟨w.heap.size, 2, none⟩ = some c2 ∧ w'.cell? ⟨w.heap.size, 3, none⟩ = some c3 ∧ w'.cell? ⟨g1, 0, none⟩ = some (.int .i64 sp) ∧ w'.cell? ⟨g1, 1, none⟩ = some (.int .i64 sr) ∧ w'.cell? ⟨g1, 2, none⟩ = some (v) ∧ w'.cell? ⟨g2, 0, none⟩ = some (.int .i64 0) ∧ w'.cell? ⟨g2, 1, none⟩ = some (.int .i64 0) ∧ w'.cell? ⟨g2, 2, none⟩ = some (.slice av nn cv) ∧ Below W3.heap.size W3 w' from ⟨hz.1, HKP.out W w' hz.2 hS⟩))
    have HR := Lib.hid (fun (W : World) (hS : W.cell? ⟨w.heap.size, 0, none⟩ = some c0 ∧ W.cell? ⟨w.heap.size, 1, none⟩ = some c1 ∧ W.cell? ⟨w.heap.size, 2, none⟩ = some c2 ∧ W.cell? ⟨w.heap.size, 3, none⟩ = some c3 ∧ W.cell? ⟨g1, 0, none⟩ = some (.int .i64 sp) ∧ W.cell? ⟨g1, 1, none⟩ = some (.int .i64 sr) ∧ W.cell? ⟨g1, 2, none⟩ = some (v) ∧ W.cell? ⟨g2, 0, none⟩ = some (.int .i64 0) ∧ W.cell? ⟨g2, 1, none⟩ = some (.int .i64 0) ∧ W.cell? ⟨g2, 2, none⟩ = some (.slice av nn cv) ∧ Below W3.heap.size W3 W) => (HRT.out W (HB3.out.trans (hS.2.2.2.2.2.2.2.2.2.2.mono HB3.out.size))).mono (fun z w' (hz : (z = .returned (.bool St)) ∧ Below W.heap.size W w') => show (z = .returned (.bool St)) ∧ w'.cell? ⟨w.heap.size, 0, none⟩ = some c0 ∧ w'.cell? ⟨w.heap.size, 1, none⟩ = some c1 ∧ w'.cell? ⟨w.heap.size, 2, none⟩ = some c2 ∧ w'.cell? ⟨w.heap.size, 3, none⟩ = some c3 ∧ w'.cell? ⟨g1, 0, none⟩ = some (.int .i64 sp) ∧ w'.cell? ⟨g1, 1, none⟩ = some (.int .i64 sr) ∧ w'.cell? ⟨g1, 2, none⟩ = some (v) ∧ w'.cell? ⟨g2, 0, none⟩ = some (.int .i64 0) ∧ w'.cell? ⟨g2, 1, none⟩ = some (.int .i64 0) ∧ w'.cell? ⟨g2, 2, none⟩ = some (.slice av nn cv) ∧ Below W3.heap.size W3 w' from ⟨hz.1, HKP.out W w' hz.2 hS⟩))
    have HQ := Lib.hid (fun (W : World) (hS : W.cell? ⟨w.heap.size, 0, none⟩ = some c0 ∧ W.cell? ⟨w.heap.size, 1, none⟩ = some c1 ∧ W.cell? ⟨w.heap.size, 2, none⟩ = some c2 ∧ W.cell? ⟨w.heap.size, 3, none⟩ = some c3 ∧ W.cell? ⟨g1, 0, none⟩ = some (.int .i64 sp) ∧ W.cell? ⟨g1, 1, none⟩ = some (.int .i64 sr) ∧ W.cell? ⟨g1, 2, none⟩ = some (v) ∧ W.cell? ⟨g2, 0, none⟩ = some (.int .i64 0) ∧ W.cell? ⟨g2, 1, none⟩ = some (.int .i64 0) ∧ W.cell? ⟨g2, 2, none⟩ = some (.slice av nn cv) ∧ Below W3.heap.size W3 W) => (HRR.out W (HB3.out.trans (hS.2.2.2.2.2.2.2.2.2.2.mono HB3.out.size))).mono (fun z w' (hz : (z = .returned (.bool St)) ∧ Below W.heap.size W w') => show (z = .returned (.bool St)) ∧ w'.cell? ⟨w.heap.size, 0, none⟩ = some c0 ∧ w'.cell? ⟨w.heap.size, 1, none⟩ = some c1 ∧ w'.cell? ⟨w.heap.size, 2, none⟩ = some c2 ∧ w'.cell? ⟨w.heap.size, 3, none⟩ = some c3 ∧ w'.cell? ⟨g1, 0, none⟩ = some (.int .i64 sp) ∧ w'.cell? ⟨g1, 1, none⟩ = some (.int .i64 sr) ∧ w'.cell? ⟨g1, 2, none⟩ = some (v) ∧ w'.cell? ⟨g2, 0, none⟩ = some (.int .i64 0) ∧ w'.cell? ⟨g2, 1, none⟩ = some (.int .i64 0) ∧ w'.cell? ⟨g2, 2, none⟩ = some (.slice av nn cv) ∧ Below W3.heap.size W3 w' from ⟨hz.1, HKP.out W w' hz.2 hS⟩))
    have HY := Lib.hid (fun (W : World) (hS : W.cell? ⟨w.heap.size, 0, none⟩ = some c0 ∧ W.cell? ⟨w.heap.size, 1, none⟩ = some c1 ∧ W.cell? ⟨w.heap.size, 2, none⟩ = some c2 ∧ W.cell? ⟨w.heap.size, 3, none⟩ = some c3 ∧ W.cell? ⟨g1, 0, none⟩ = some (.int .i64 sp) ∧ W.cell? ⟨g1, 1, none⟩ = some (.int .i64 sr) ∧ W.cell? ⟨g1, 2, none⟩ = some (v) ∧ W.cell? ⟨g2, 0, none⟩ = some (.int .i64 0) ∧ W.cell? ⟨g2, 1, none⟩ = some (.int .i64 0) ∧ W.cell? ⟨g2, 2, none⟩ = some (.slice av nn cv) ∧ Below W3.heap.size W3 W) => (HRN.out W (HB3.out.trans (hS.2.2.2.2.2.2.2.2.2.2.mono HB3.out.size)) hS.2.2.2.2.2.2.2.2.2.2).mono (fun z w' (hz : (z = .returned (.bool true)) ∧ Below W.heap.size W w') => show (z = .returned (.bool true)) ∧ w'.cell? ⟨w.heap.size, 0, none⟩ = some c0 ∧ w'.cell? ⟨w.heap.size, 1, none⟩ = some c1 ∧ w'.cell? ⟨w.heap.size, 2, none⟩ = some c2 ∧ w'.cell? ⟨w.heap.size, 3, none⟩ = some c3 ∧ w'.cell? ⟨g1, 0, none⟩ = some (.int .i64 sp) ∧ w'.cell? ⟨g1, 1, none⟩ = some (.int .i64 sr) ∧ w'.cell? ⟨g1, 2, none⟩ = some (v) ∧ w'.cell? ⟨g2, 0, none⟩ = some (.int .i64 0) ∧ w'.cell? ⟨g2, 1, none⟩ = some (.int .i64 0) ∧ w'.cell? ⟨g2, 2, none⟩ = some (.slice av nn cv) ∧ Below W3.heap.size W3 w' from ⟨hz.1, HKP.out W w' hz.2 hS⟩))
    have HSD := Lib.hid (show w4.drew.cell? ⟨w.heap.size, 0, none⟩ = some c0 ∧ w4.drew.cell? ⟨w.heap.size, 1, none⟩ = some c1 ∧ w4.drew.cell? ⟨w.heap.size, 2, none⟩ = some c2 ∧ w4.drew.cell? ⟨w.heap.size, 3, none⟩ = some c3 ∧ w4.drew.cell? ⟨g1, 0, none⟩ = some (.int .i64 sp) ∧ w4.drew.cell? ⟨g1, 1, none⟩ = some (.int .i64 sr) ∧ w4.drew.cell? ⟨g1, 2, none⟩ = some (v) ∧ w4.drew.cell? ⟨g2, 0, none⟩ = some (.int .i64 0) ∧ w4.drew.cell? ⟨g2, 1, none⟩ = some (.int .i64 0) ∧ w4.drew.cell? ⟨g2, 2, none⟩ = some (.slice av nn cv) ∧ Below W3.heap.size W3 w4.drew from HKP.out w4 w4.drew ((Below.refl _ _).drew) HS4.out)
    clear hsm hsm4 hsm9 hr7 hSt hchk HRN HN0 HRT HRR
    go_upto_region 4 with fail
    have hS0 : w4.drew.cell? ⟨w.heap.size, 0, none⟩ = some c0 ∧ w4.drew.cell? ⟨w.heap.size, 1, none⟩ = some c1 ∧ w4.drew.cell? ⟨w.heap.size, 2, none⟩ = some c2 ∧ w4.drew.cell? ⟨w.heap.size, 3, none⟩ = some c3 ∧ w4.drew.cell? ⟨g1, 0, none⟩ = some (.int .i64 sp) ∧ w4.drew.cell? ⟨g1, 1, none⟩ = some (.int .i64 sr) ∧ w4.drew.cell? ⟨g1, 2, none⟩ = some (v) ∧ w4.drew.cell? ⟨g2, 0, none⟩ = some (.int .i64 0) ∧ w4.drew.cell? ⟨g2, 1, none⟩ = some (.int .i64 0) ∧ w4.drew.cell? ⟨g2, 2, none⟩ = some (.slice av nn cv) ∧ Below W3.heap.size W3 w4.drew := HSD.out
    go_region_held3 (fun Wz => Wz.cell? ⟨w.heap.size, 0, none⟩ = some c0 ∧ Wz.cell? ⟨w.heap.size, 1, none⟩ = some c1 ∧ Wz.cell? ⟨w.heap.size, 2, none⟩ = some c2 ∧ Wz.cell? ⟨w.heap.size, 3, none⟩ = some c3 ∧ Wz.cell? ⟨g1, 0, none⟩ = some (.int .i64 sp) ∧ Wz.cell? ⟨g1, 1, none⟩ = some (.int .i64 sr) ∧ Wz.cell? ⟨g1, 2, none⟩ = some (v) ∧ Wz.cell? ⟨g2, 0, none⟩ = some (.int .i64 0) ∧ Wz.cell? ⟨g2, 1, none⟩ = some (.int .i64 0) ∧ Wz.cell? ⟨g2, 2, none⟩ = some (.slice av nn cv) ∧ Below W3.heap.size W3 Wz) (first | exact hS0 | assumption) (first | (go_at_call 19; ((with_reducible refine (HA.out _ ?_).mono ?_); (first | exact hS0 | assumption)); rintro _ wA ⟨rfl, hSA⟩) | (go_at_call 25; ((with_reducible refine (HN.out _ ?_).mono ?_); (first | exact hS0 | assumption)); rintro _ wN ⟨an, ln, cn, rfl, hvn, hSN⟩) | (go_at_call 22; ((with_reducible refine (HM.out _ ?_ _ ?_).mono ?_); (first | exact hS0 | assumption); (first | exact hvn | exact Sl.below hvn (by assumption))); rintro _ wM ⟨rfl, hSM⟩) | (go_at_call 26; ((with_reducible refine (HQ.out _ ?_).mono ?_); (first | exact hS0 | assumption)); rintro _ wQ ⟨rfl, hSQ⟩) | (go_at_call 24; ((first | with_reducible refine (HR.out _ ?_).mono ?_ | with_reducible refine (HY.out _ ?_).mono ?_); (first | exact hS0 | assumption)); rintro _ wR ⟨rfl, hSR⟩))
    go_wp2_with fail
    go_ret
    exact ⟨rfl, HB3.out.trans (hSR.2.2.2.2.2.2.2.2.2.2.mono HB3.out.size)⟩

/-- WHAT THE WALK GIVES, FOR EVERY ARGUMENT AND EVERY WORLD THAT HOLDS WHAT THE ROW LISTS. -/
theorem contract (H : Type) (enc : TypeId × Value → H) (W : World) (base : Nat) (args : Array Value) (ds gs : List (DataW H)) (before : List MemPlace)
    (hval0 : ∀ (j : Nat) t v, Tryz.f7.params[j]? = some t → args[j]? = some v → Value.okWide Tryz.prog W .any base t v)
    (hW : DataW.Whole enc Tryz.prog Tryz.f7.params.toList Rows.decideBeginsSpec.vars false W args.toList ds gs before) (hL : laidMetH Tryz.prog I.laid1 W) :
    Calls Tryz.prog 7 args W fun e W' => ∃ v, e = .returned v ∧ Rows.decideBeginsSpec.post enc Tryz.prog Tryz.f7 false true false false W args v W' := by
  have hval : ∀ (j : Nat) t v, Tryz.f7.params[j]? = some t → args[j]? = some v → Value.okWide Tryz.prog W .any base t v := hval0
  have hW' := hW
  obtain ⟨p, q, hA0, hV, rfl, hfz, hnd⟩ := hW
  have hA : DataW.TrodAll enc Tryz.prog W 0 (fun _ => true) true Tryz.f7.params.toList args.toList ds p := hA0
  rw [Tryz.params7] at hA hval
  obtain ⟨v0, vs0, d0, ds0, p0, q0, hargs, rfl, rfl, h0, r0⟩ := trodAll_cons hA
  obtain ⟨v1, vs1, d1, ds1, p1, q1, rfl, rfl, rfl, h1, r1⟩ := trodAll_cons r0
  obtain ⟨rfl, rfl, rfl⟩ := trodAll_nil r1
  obtain rfl : args = #[v0, v1] := by cases args; simp_all
  obtain ⟨c0, c1, c2, c3, t, rfl, ht, hwf⟩ := tb_arg (hval 0 26 v0 rfl rfl) h0
  obtain ⟨v, s, rfl, hs, hsw⟩ := st_arg (hval 1 41 v1 rfl rfl) h1
  refine (walk t c0 c1 c2 c3 s v W ht hwf hs hsw (I.glob_of hL)).mono fun e W' ⟨he, hb⟩ => ?_
  subst he
  exact ⟨_, rfl, post_law hW' hb laidOut rfl rfl rfl Tryz.underlying4 (by rw [Tryz.params7]; decide +kernel)⟩

theorem reads (os : Os) {H : Type} (enc : TypeId × Value → H) : ∃ places, DataW.whole enc Tryz.prog ((World.doorLaid Tryz.prog 77 os).forCall (fun _ _ => 0) ⟨#[], #[.agg #[.slice none 0 0, .slice none 0 0, .slice none 0 0, .slice none 0 0], .agg #[.int .i64 0, .int .i64 0, .slice none 0 0]], []⟩).memory Tryz.f7.params.toList Rows.decideBeginsSpec.vars false (#[.agg #[.slice none 0 0, .slice none 0 0, .slice none 0 0, .slice none 0 0], .agg #[.int .i64 0, .int .i64 0, .slice none 0 0]] : Array Value).toList 8 = some ([.agg [.nil, .nil, .nil, .nil], .agg [.lit (.int .i64 0), .lit (.int .i64 0), .nil]], [], places) :=
  ⟨[], by kernel_rfl⟩

theorem lifted (os : Os) (started : os.Started) (H : Type) (enc : TypeId × Value → H) (F : Stop.Interp) :
    ReturnsInHanded {} Tryz.checked os 7 .any ((OpenSpec.ofChange Rows.decideBeginsSpec).preRow enc Tryz.prog Tryz.f7 Rows.decideBeginsRow.domain false Rows.decideBeginsRow.laid) (((OpenSpec.ofChange Rows.decideBeginsSpec).at F).post enc Tryz.prog Tryz.f7 false true false false) := by
  obtain ⟨places, hx⟩ := reads os enc
  refine returnsInHanded_of_row (C := Tryz.checked) (s := OpenSpec.ofChange Rows.decideBeginsSpec) own started (by kernel_rfl) Tryz.func7
    (witness_row_atRef (enc := enc) (C := Tryz.checked) false (World.doorLaid Tryz.prog 77 os) #[.agg #[.slice none 0 0, .slice none 0 0, .slice none 0 0, .slice none 0 0], .agg #[.int .i64 0, .int .i64 0, .slice none 0 0]] rfl (by kernel_rfl) (by kernel_rfl) (by kernel_rfl)
      (OpenSpec.preRow_of_cond 8 hx (by kernel_rfl) (fun k hk => by cases hk) (by kernel_rfl) (I.laid_met os _))) ?_
  intro W base args ds gs before hval hW _ _ hsz hL _ _
  exact contract H enc W base args ds gs before hval hW hL

theorem said : Rows.DecideBeginsSaid :=
  OpenClaim.holds_of_cond 7 Tryz.f7 rfl rfl rfl rfl rfl rfl rfl ⟨rfl, rfl, rfl, rfl, rfl⟩ rfl rfl rfl rfl rfl (by kernel_rfl) Tryz.func7 (by kernel_rfl)
    (of_decide_eq_true (by kernel_rfl)) (by unfold Func.isWrapper; first | (rw [if_pos (by decide +kernel)]; kernel_rfl) | (rw [if_neg (by decide +kernel)]; exact ⟨rfl, rfl⟩))
    (fun os started H enc _ F => by rw [OpenClaim.pre_eq_preRow]; exact lifted os started H enc F)

theorem plain (f : FuncId) (fn : Func) (hf : Tryz.pinned.checked.prog.funcNamed "surmise/surmiselaw07.DecideBegins" = some f) (hfn : Tryz.pinned.checked.prog.funcs[f]? = some fn) :
    true = Tryz.pinned.checked.prog.looks [] ∧ ∀ (j : Nat) t, fn.params[j]? = some t → Tryz.pinned.checked.prog.wantsStandIn t = false := by
  obtain rfl : f = 7 := Option.some.inj ((show Tryz.prog.funcNamed "surmise/surmiselaw07.DecideBegins" = some 7 by kernel_rfl).symm.trans hf) |>.symm
  obtain rfl : fn = Tryz.f7 := (Option.some.inj (Tryz.func7.symm.trans hfn)).symm
  refine ⟨by kernel_rfl, fun j t ht => ?_⟩
  rw [Tryz.params7] at ht
  have hm := Array.mem_of_getElem? ht
  simp only [Array.mem_def, List.mem_cons, List.not_mem_nil, or_false] at hm
  rcases hm with rfl | rfl
  · exact (show Tryz.prog.wantsStandIn 26 = false by kernel_rfl)
  · exact (show Tryz.prog.wantsStandIn 41 = false by kernel_rfl)

/-- THE CARD. -/
theorem given : Rows.DecideBeginsCardSaid :=
  Claim7.holds_tied_plain_at .later [] _ _ _ _ said (fun _ h => by cases h) (by kernel_rfl) (fun _ h => by cases h) decideBegins_row_tie rfl ⟨rfl, rfl⟩ (by kernel_rfl) rfl plain (by kernel_rfl)
end Go.Proofs.YtkdlmjgdhdmahaaGreatDoor.decideBegins
