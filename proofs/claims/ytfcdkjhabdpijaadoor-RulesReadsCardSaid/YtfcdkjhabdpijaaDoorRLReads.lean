/-
  RulesReads: which variables each rule names, and which it sets, as the document says.
-/
import Derived.Test.YtfcdkjhabdpijaaDoorRows
import Derived.Test.YtfcdkjhabdpijaaDoorTie
import Derived.Test.YtfcdkjhabdpijaaDoorCards
import Derived.Test.YtfcdkjhabdpijaaDoorRMg
import Derived.Test.YtfcdkjhabdpijaaDoorRLaid
import Derived.Test.YtfcdkjhabdpijaaDoorRMe
import Derived.Test.YtfcdkjhabdpijaaDoorRMh
import Derived.Test.YtfcdkjhabdpijaaDoorRRef2
import Derived.OpenShut
namespace Go.Proofs.YtfcdkjhabdpijaaDoor.rulesReads
open Go Go.ChangeShapes Go.WideShapes Go.ChangeAt Go.RowKit
open Go.Proofs.YtfcdkjhabdpijaaDoor.B Go.Proofs.YtfcdkjhabdpijaaDoor.K Go.Proofs.YtfcdkjhabdpijaaDoor.E Go.Proofs.YtfcdkjhabdpijaaDoor.R
set_option linter.unusedVariables false

theorem own : ownKnob Tryd.prog.godebug = none := by kernel_rfl
theorem laidOut : laidOutB Tryd.prog = true := by kernel_rfl

theorem four_cases (e0 e1 e2 e3 : Int) : (e0 = 0 ∧ e1 = 0 ∧ e2 = 0 ∧ e3 = 0) ∨ e0 ≠ 0 ∨ (e0 = 0 ∧ e1 ≠ 0) ∨ (e0 = 0 ∧ e1 = 0 ∧ e2 ≠ 0) ∨ (e0 = 0 ∧ e1 = 0 ∧ e2 = 0 ∧ e3 ≠ 0) := by omega

set_option maxHeartbeats 8000000 in
set_option maxRecDepth 100000 in
theorem walk (t : Tb) (c0 c1 c2 c3 : Value) (n : Int) (w : World) (h : TbIs w [c0, c1, c2, c3] t) (hw : TbWf t) (hn : I64 n) (hG : I.Glob w) :
    Calls Tryd.prog 6 #[.agg #[c0, c1, c2, c3], .int .i64 n] w fun e w' => e = .returned (.bool true) ∧ Below w.heap.size w w' := by
  have HT := Lib.hid h
  obtain ⟨d0, d1, d2, d3, e, x0, x1, x2, x3⟩ := id h
  cases e
  obtain ⟨a3, cap3, rfl, x3⟩ := x3.open
  obtain ⟨a1, cap1, rfl⟩ := sl_len x1
  rw [List.length_map] at h HT ⊢
  obtain ⟨N, hN⟩ : ∃ N, t.rules.length = N := ⟨_, rfl⟩
  obtain ⟨V, hV⟩ : ∃ V, t.vars.length = V := ⟨_, rfl⟩
  rw [hN] at x3
  rw [hN, hV] at h HT ⊢
  have HR3 := Lib.hid x3
  have HNE := Lib.hid hN
  have HVE := Lib.hid hV
  obtain ⟨W0, hW0⟩ : ∃ W0, w.alloc (.cells #[c0, .slice a1 V cap1, c2, .slice a3 N cap3] 26) = W0 := ⟨_, rfl⟩
  have hB0 : Below w.heap.size w W0 := by rw [← hW0]; exact below_alloc _ _
  have q0 : W0.cell? ⟨w.heap.size, 0, none⟩ = some (c0) := by rw [← hW0]; exact box_cell _ _ _ _ _ rfl
  have q1 : W0.cell? ⟨w.heap.size, 1, none⟩ = some (.slice a1 V cap1) := by rw [← hW0]; exact box_cell _ _ _ _ _ rfl
  have q2 : W0.cell? ⟨w.heap.size, 2, none⟩ = some (c2) := by rw [← hW0]; exact box_cell _ _ _ _ _ rfl
  have q3 : W0.cell? ⟨w.heap.size, 3, none⟩ = some (.slice a3 N cap3) := by rw [← hW0]; exact box_cell _ _ _ _ _ rfl
  have HB0 := Lib.hid hB0
  have HK := Lib.hid (fun (Wa Wb : World) (hb : Below Wa.heap.size Wa Wb) (h : Wa.cell? ⟨w.heap.size, 0, none⟩ = some (c0) ∧ Wa.cell? ⟨w.heap.size, 1, none⟩ = some (.slice a1 V cap1) ∧ Wa.cell? ⟨w.heap.size, 2, none⟩ = some (c2) ∧ Wa.cell? ⟨w.heap.size, 3, none⟩ = some (.slice a3 N cap3) ∧ Below W0.heap.size W0 Wa) => show Wb.cell? ⟨w.heap.size, 0, none⟩ = some (c0) ∧ Wb.cell? ⟨w.heap.size, 1, none⟩ = some (.slice a1 V cap1) ∧ Wb.cell? ⟨w.heap.size, 2, none⟩ = some (c2) ∧ Wb.cell? ⟨w.heap.size, 3, none⟩ = some (.slice a3 N cap3) ∧ Below W0.heap.size W0 Wb from ⟨kept_cell hb h.1, kept_cell hb h.2.1, kept_cell hb h.2.2.1, kept_cell hb h.2.2.2.1, h.2.2.2.2.trans (hb.mono h.2.2.2.2.size)⟩)
  have HS0 := Lib.hid (show W0.cell? ⟨w.heap.size, 0, none⟩ = some (c0) ∧ W0.cell? ⟨w.heap.size, 1, none⟩ = some (.slice a1 V cap1) ∧ W0.cell? ⟨w.heap.size, 2, none⟩ = some (c2) ∧ W0.cell? ⟨w.heap.size, 3, none⟩ = some (.slice a3 N cap3) ∧ Below W0.heap.size W0 W0 from ⟨q0, q1, q2, q3, Below.refl _ _⟩)
  have HSD := Lib.hid (show W0.drew.cell? ⟨w.heap.size, 0, none⟩ = some (c0) ∧ W0.drew.cell? ⟨w.heap.size, 1, none⟩ = some (.slice a1 V cap1) ∧ W0.drew.cell? ⟨w.heap.size, 2, none⟩ = some (c2) ∧ W0.drew.cell? ⟨w.heap.size, 3, none⟩ = some (.slice a3 N cap3) ∧ Below W0.heap.size W0 W0.drew from ⟨q0, q1, q2, q3, (Below.refl _ _).drew⟩)
  have HTB := Lib.hid (fun (W : World) (hS : W.cell? ⟨w.heap.size, 0, none⟩ = some (c0) ∧ W.cell? ⟨w.heap.size, 1, none⟩ = some (.slice a1 V cap1) ∧ W.cell? ⟨w.heap.size, 2, none⟩ = some (c2) ∧ W.cell? ⟨w.heap.size, 3, none⟩ = some (.slice a3 N cap3) ∧ Below W0.heap.size W0 W) => h.below (hB0.trans (hS.2.2.2.2.mono hB0.size)))
  have HGB := Lib.hid (fun (W : World) (hS : W.cell? ⟨w.heap.size, 0, none⟩ = some (c0) ∧ W.cell? ⟨w.heap.size, 1, none⟩ = some (.slice a1 V cap1) ∧ W.cell? ⟨w.heap.size, 2, none⟩ = some (c2) ∧ W.cell? ⟨w.heap.size, 3, none⟩ = some (.slice a3 N cap3) ∧ Below W0.heap.size W0 W) => hG.below (hB0.trans (hS.2.2.2.2.mono hB0.size)))
  have HWF := Lib.hid hw
  have HA := Lib.hid (fun (W : World) (hS : W.cell? ⟨w.heap.size, 0, none⟩ = some (c0) ∧ W.cell? ⟨w.heap.size, 1, none⟩ = some (.slice a1 V cap1) ∧ W.cell? ⟨w.heap.size, 2, none⟩ = some (c2) ∧ W.cell? ⟨w.heap.size, 3, none⟩ = some (.slice a3 N cap3) ∧ Below W0.heap.size W0 W) => (awake_any W (HGB.out W hS)).mono (fun z w' (hz : (z = .returned (.bool true)) ∧ Below W.heap.size W w') => show (z = .returned (.bool true)) ∧ w'.cell? ⟨w.heap.size, 0, none⟩ = some (c0) ∧ w'.cell? ⟨w.heap.size, 1, none⟩ = some (.slice a1 V cap1) ∧ w'.cell? ⟨w.heap.size, 2, none⟩ = some (c2) ∧ w'.cell? ⟨w.heap.size, 3, none⟩ = some (.slice a3 N cap3) ∧ Below W0.heap.size W0 w' from ⟨hz.1, HK.out W w' hz.2 hS⟩))
  obtain ⟨⟨e0, e1, e2, e3⟩, hf⟩ : ∃ f, chk5 t = f := ⟨_, rfl⟩
  have HC0 := Lib.hid (fun (W : World) (hS : W.cell? ⟨w.heap.size, 0, none⟩ = some (c0) ∧ W.cell? ⟨w.heap.size, 1, none⟩ = some (.slice a1 V cap1) ∧ W.cell? ⟨w.heap.size, 2, none⟩ = some (c2) ∧ W.cell? ⟨w.heap.size, 3, none⟩ = some (.slice a3 N cap3) ∧ Below W0.heap.size W0 W) => refCheck5_any t _ _ _ _ W (HTB.out W hS) HWF.out)
  rw [hf, show Ft.v (e0, e1, e2, e3) = .agg #[.int .i64 e0, .int .i64 e1, .int .i64 e2, .int .i64 e3] from rfl] at HC0
  have HC := Lib.hid (fun (W : World) (hS : W.cell? ⟨w.heap.size, 0, none⟩ = some (c0) ∧ W.cell? ⟨w.heap.size, 1, none⟩ = some (.slice a1 V cap1) ∧ W.cell? ⟨w.heap.size, 2, none⟩ = some (c2) ∧ W.cell? ⟨w.heap.size, 3, none⟩ = some (.slice a3 N cap3) ∧ Below W0.heap.size W0 W) => (HC0.out W hS).mono (fun z w' (hz : (z = .returned (.agg #[.int .i64 e0, .int .i64 e1, .int .i64 e2, .int .i64 e3])) ∧ Below W.heap.size W w') => show (z = .returned (.agg #[.int .i64 e0, .int .i64 e1, .int .i64 e2, .int .i64 e3])) ∧ w'.cell? ⟨w.heap.size, 0, none⟩ = some (c0) ∧ w'.cell? ⟨w.heap.size, 1, none⟩ = some (.slice a1 V cap1) ∧ w'.cell? ⟨w.heap.size, 2, none⟩ = some (c2) ∧ w'.cell? ⟨w.heap.size, 3, none⟩ = some (.slice a3 N cap3) ∧ Below W0.heap.size W0 w' from ⟨hz.1, HK.out W w' hz.2 hS⟩))
  have hz0 : IntKind.i64.wrap ((0 : Int) + 0) = 0 := by decide
  by_cases hok : (isAt n t.rules.length && mayB t) = true
  case neg =>
    have hok : (isAt n t.rules.length && mayB t) = false := by simpa using hok
    have HRD := Lib.hid (fun (W : World) (hS : W.cell? ⟨w.heap.size, 0, none⟩ = some (c0) ∧ W.cell? ⟨w.heap.size, 1, none⟩ = some (.slice a1 V cap1) ∧ W.cell? ⟨w.heap.size, 2, none⟩ = some (c2) ∧ W.cell? ⟨w.heap.size, 3, none⟩ = some (.slice a3 N cap3) ∧ Below W0.heap.size W0 W) => ((reads_any t _ _ _ _ n W (HTB.out W hS) HWF.out (HGB.out W hS)).mono (fun z w' (hz : MarksOr t n rlReads z w' ∧ Below W.heap.size W w') => show z = .returned (.slice none 0 0) ∧ Below W.heap.size W w' from ⟨(hz.1.resolve_right (fun ⟨h1, k, r, v, l, h2, h3, _⟩ => by rw [h1, Bool.and_true, h2, (isAt_iff _ _).2 ⟨by omega, by have := (List.getElem?_eq_some_iff.1 h3).1; omega⟩] at hok; cases hok)).2, hz.2⟩)).mono (fun z w' (hz : (z = .returned (.slice none 0 0)) ∧ Below W.heap.size W w') => show (z = .returned (.slice none 0 0)) ∧ w'.cell? ⟨w.heap.size, 0, none⟩ = some (c0) ∧ w'.cell? ⟨w.heap.size, 1, none⟩ = some (.slice a1 V cap1) ∧ w'.cell? ⟨w.heap.size, 2, none⟩ = some (c2) ∧ w'.cell? ⟨w.heap.size, 3, none⟩ = some (.slice a3 N cap3) ∧ Below W0.heap.size W0 w' from ⟨hz.1, HK.out W w' hz.2 hS⟩))
    have HWR := Lib.hid (fun (W : World) (hS : W.cell? ⟨w.heap.size, 0, none⟩ = some (c0) ∧ W.cell? ⟨w.heap.size, 1, none⟩ = some (.slice a1 V cap1) ∧ W.cell? ⟨w.heap.size, 2, none⟩ = some (c2) ∧ W.cell? ⟨w.heap.size, 3, none⟩ = some (.slice a3 N cap3) ∧ Below W0.heap.size W0 W) => ((writes_any t _ _ _ _ n W (HTB.out W hS) HWF.out (HGB.out W hS)).mono (fun z w' (hz : MarksOr t n rlWrites z w' ∧ Below W.heap.size W w') => show z = .returned (.slice none 0 0) ∧ Below W.heap.size W w' from ⟨(hz.1.resolve_right (fun ⟨h1, k, r, v, l, h2, h3, _⟩ => by rw [h1, Bool.and_true, h2, (isAt_iff _ _).2 ⟨by omega, by have := (List.getElem?_eq_some_iff.1 h3).1; omega⟩] at hok; cases hok)).2, hz.2⟩)).mono (fun z w' (hz : (z = .returned (.slice none 0 0)) ∧ Below W.heap.size W w') => show (z = .returned (.slice none 0 0)) ∧ w'.cell? ⟨w.heap.size, 0, none⟩ = some (c0) ∧ w'.cell? ⟨w.heap.size, 1, none⟩ = some (.slice a1 V cap1) ∧ w'.cell? ⟨w.heap.size, 2, none⟩ = some (c2) ∧ w'.cell? ⟨w.heap.size, 3, none⟩ = some (.slice a3 N cap3) ∧ Below W0.heap.size W0 w' from ⟨hz.1, HK.out W w' hz.2 hS⟩))
    have hcase : (e0 ≠ 0 ∨ (e0 = 0 ∧ e1 ≠ 0) ∨ (e0 = 0 ∧ e1 = 0 ∧ e2 ≠ 0) ∨ (e0 = 0 ∧ e1 = 0 ∧ e2 = 0 ∧ e3 ≠ 0)) ∨ ((e0 = 0 ∧ e1 = 0 ∧ e2 = 0 ∧ e3 = 0) ∧ (n < 0 ∨ (0 ≤ n ∧ (N : Int) ≤ n))) := by
      rcases four_cases e0 e1 e2 e3 with ⟨rfl, rfl, rfl, rfl⟩ | h
      · refine Or.inr ⟨⟨rfl, rfl, rfl, rfl⟩, ?_⟩
        rw [mayB_of hf, Bool.and_true, hN] at hok
        by_cases h0 : n < 0
        · exact Or.inl h0
        · by_cases h1 : n < (N : Int)
          · rw [(isAt_iff _ _).2 ⟨by omega, h1⟩] at hok; cases hok
          · exact Or.inr ⟨by omega, by omega⟩
      · exact Or.inl h
    clear hw hG h hB0 hf hok hN hV x0 x1 x2 x3 HC0 hn
    rcases hcase with (h0 | ⟨rfl, h0⟩ | ⟨rfl, rfl, h0⟩ | ⟨rfl, rfl, rfl, h0⟩) | ⟨⟨rfl, rfl, rfl, rfl⟩, h0 | ⟨h0, h1⟩⟩
    case' inl.inl => have hb : (e0 == 0) = false := beq_eq_false_iff_ne.2 h0; clear h0
    case' inl.inr.inl => have hb : (e1 == 0) = false := beq_eq_false_iff_ne.2 h0; clear h0
    case' inl.inr.inr.inl => have hb : (e2 == 0) = false := beq_eq_false_iff_ne.2 h0; clear h0
    case' inl.inr.inr.inr => have hb : (e3 == 0) = false := beq_eq_false_iff_ne.2 h0; clear h0
    case' inr.inr => have h2 : ¬ n < 0 := by omega
    all_goals
      go_enter Tryd.func6, Tryd.ntmps6
      go_upto_region 1 with fail
      have hS0 : W0.drew.cell? ⟨w.heap.size, 0, none⟩ = some (c0) ∧ W0.drew.cell? ⟨w.heap.size, 1, none⟩ = some (.slice a1 V cap1) ∧ W0.drew.cell? ⟨w.heap.size, 2, none⟩ = some (c2) ∧ W0.drew.cell? ⟨w.heap.size, 3, none⟩ = some (.slice a3 N cap3) ∧ Below W0.heap.size W0 W0.drew := HSD.out
      go_region_held3 (fun Wz => Wz.cell? ⟨w.heap.size, 0, none⟩ = some (c0) ∧ Wz.cell? ⟨w.heap.size, 1, none⟩ = some (.slice a1 V cap1) ∧ Wz.cell? ⟨w.heap.size, 2, none⟩ = some (c2) ∧ Wz.cell? ⟨w.heap.size, 3, none⟩ = some (.slice a3 N cap3) ∧ Below W0.heap.size W0 Wz) (first | exact hS0 | assumption) (first | (go_at_call 22; ((with_reducible refine (HRD.out _ ?_).mono ?_); (first | exact hS0 | assumption)); rintro _ w2 ⟨rfl, hS2⟩) | (go_at_call 23; ((with_reducible refine (HWR.out _ ?_).mono ?_); (first | exact hS0 | assumption)); rintro _ w3 ⟨rfl, hS3⟩))
      obtain ⟨q0, q1, q2, q3, -⟩ := id hS3
      have HS3 := Lib.hid hS3
      clear hS0 hS2 hS3
      go_wp2_with fail
      refine (HC.out _ HS3.out).mono ?_
      rintro _ w4 ⟨rfl, hS4⟩
      obtain ⟨q0, q1, q2, q3, -⟩ := id hS4
      have HS4 := Lib.hid hS4
      clear hS4
      go_wp2_with fail
      refine (HA.out _ HS4.out).mono ?_
      rintro _ w5 ⟨rfl, hS5⟩
      have HS5 := Lib.hid hS5
      clear hS5
      go_wp2_with fail
      go_ret
      exact ⟨rfl, HB0.out.trans (HS5.out.2.2.2.2.mono HB0.out.size)⟩
  case pos =>
    obtain ⟨hat, hM⟩ := Bool.and_eq_true_iff.1 hok
    have hcz : chk5 t = (0, 0, 0, 0) := by simpa [mayB] using hM
    rw [hf] at hcz
    cases hcz
    obtain ⟨y0, y1⟩ := (isAt_iff _ _).1 hat
    obtain ⟨k, rfl⟩ : ∃ k : Nat, n = k := ⟨n.toNat, by omega⟩
    obtain ⟨r, hr⟩ : ∃ r, t.rules[k]? = some r := ⟨_, List.getElem?_eq_getElem (by omega)⟩
    have hkN : (k : Int) < (N : Int) := by omega
    have hV6 : V ≤ 6 := by rw [← hV]; exact (fine_of hf).vars
    have HRD := Lib.hid (fun (W : World) (hS : W.cell? ⟨w.heap.size, 0, none⟩ = some (c0) ∧ W.cell? ⟨w.heap.size, 1, none⟩ = some (.slice a1 V cap1) ∧ W.cell? ⟨w.heap.size, 2, none⟩ = some (c2) ∧ W.cell? ⟨w.heap.size, 3, none⟩ = some (.slice a3 N cap3) ∧ Below W0.heap.size W0 W) => (reads_any t _ _ _ _ (k : Int) W (HTB.out W hS) HWF.out (HGB.out W hS)).mono (fun z w' (hz : MarksOr t (k : Int) rlReads z w' ∧ Below W.heap.size W w') => show (∃ (v : Value) (l : List Bool), z = .returned v ∧ Sl w' v (l.map Value.bool) ∧ l.length = V ∧ ∀ x : Nat, x < l.length → l.getD x false = rlReads r x) ∧ (w'.cell? ⟨w.heap.size, 0, none⟩ = some (c0) ∧ w'.cell? ⟨w.heap.size, 1, none⟩ = some (.slice a1 V cap1) ∧ w'.cell? ⟨w.heap.size, 2, none⟩ = some (c2) ∧ w'.cell? ⟨w.heap.size, 3, none⟩ = some (.slice a3 N cap3) ∧ Below W0.heap.size W0 w') ∧ Below W.heap.size W w' from ⟨by
        obtain ⟨_, k', r', v, l, h2, h3, h4, h5, h6, h7⟩ := hz.1.resolve_left (fun hx => by rw [hok] at hx; cases hx.1)
        have : k' = k := by omega
        rw [this, hr] at h3
        cases h3
        exact ⟨v, l, h4, h5, h6.trans hV, h7⟩, HK.out W w' hz.2 hS, hz.2⟩))
    have HWR := Lib.hid (fun (W : World) (hS : W.cell? ⟨w.heap.size, 0, none⟩ = some (c0) ∧ W.cell? ⟨w.heap.size, 1, none⟩ = some (.slice a1 V cap1) ∧ W.cell? ⟨w.heap.size, 2, none⟩ = some (c2) ∧ W.cell? ⟨w.heap.size, 3, none⟩ = some (.slice a3 N cap3) ∧ Below W0.heap.size W0 W) => (writes_any t _ _ _ _ (k : Int) W (HTB.out W hS) HWF.out (HGB.out W hS)).mono (fun z w' (hz : MarksOr t (k : Int) rlWrites z w' ∧ Below W.heap.size W w') => show (∃ (v : Value) (l : List Bool), z = .returned v ∧ Sl w' v (l.map Value.bool) ∧ l.length = V ∧ ∀ x : Nat, x < l.length → l.getD x false = rlWrites r x) ∧ (w'.cell? ⟨w.heap.size, 0, none⟩ = some (c0) ∧ w'.cell? ⟨w.heap.size, 1, none⟩ = some (.slice a1 V cap1) ∧ w'.cell? ⟨w.heap.size, 2, none⟩ = some (c2) ∧ w'.cell? ⟨w.heap.size, 3, none⟩ = some (.slice a3 N cap3) ∧ Below W0.heap.size W0 w') ∧ Below W.heap.size W w' from ⟨by
        obtain ⟨_, k', r', v, l, h2, h3, h4, h5, h6, h7⟩ := hz.1.resolve_left (fun hx => by rw [hok] at hx; cases hx.1)
        have : k' = k := by omega
        rw [this, hr] at h3
        cases h3
        exact ⟨v, l, h4, h5, h6.trans hV, h7⟩, HK.out W w' hz.2 hS, hz.2⟩))
    have HRR := Lib.hid hr
    have HFZ := Lib.hid hf
    clear hG h hB0 hf hok hN hV x0 x1 x2 x3 HC0 hn hat hM hr
    go_enter Tryd.func6, Tryd.ntmps6
    go_upto_region 1 with fail
    have hS0 : W0.drew.cell? ⟨w.heap.size, 0, none⟩ = some (c0) ∧ W0.drew.cell? ⟨w.heap.size, 1, none⟩ = some (.slice a1 V cap1) ∧ W0.drew.cell? ⟨w.heap.size, 2, none⟩ = some (c2) ∧ W0.drew.cell? ⟨w.heap.size, 3, none⟩ = some (.slice a3 N cap3) ∧ Below W0.heap.size W0 W0.drew := HSD.out
    go_region_held3 (fun Wz => Wz.cell? ⟨w.heap.size, 0, none⟩ = some (c0) ∧ Wz.cell? ⟨w.heap.size, 1, none⟩ = some (.slice a1 V cap1) ∧ Wz.cell? ⟨w.heap.size, 2, none⟩ = some (c2) ∧ Wz.cell? ⟨w.heap.size, 3, none⟩ = some (.slice a3 N cap3) ∧ Below W0.heap.size W0 Wz) (first | exact hS0 | assumption) (first | (go_at_call 22; ((with_reducible refine (HRD.out _ ?_).mono ?_); (first | exact hS0 | assumption)); rintro _ w2 ⟨⟨va, la, rfl, ha, hla, hga⟩, hS2, hb2⟩) | (go_at_call 23; ((with_reducible refine (HWR.out _ ?_).mono ?_); (first | exact hS0 | assumption)); rintro _ w3 ⟨⟨vb, lb, rfl, hb, hlb, hgb⟩, hS3, hb3⟩))
    have HAL := Lib.hid (Sl.below ha hb3)
    have HBL := Lib.hid hb
    obtain ⟨aa, capa, rfl⟩ := sl_len ha
    obtain ⟨ab, capb, rfl⟩ := sl_len hb
    rw [List.length_map, hla] at HAL ⊢
    rw [List.length_map, hlb] at HBL ⊢
    have HGA := Lib.hid hga
    have HGBB := Lib.hid hgb
    have HLA := Lib.hid hla
    have HLB := Lib.hid hlb
    obtain ⟨q0, q1, q2, q3, -⟩ := id hS3
    have HS3 := Lib.hid hS3
    clear hS0 hS2 hS3 ha hb hla hlb hga hgb hb2 hb3 HSD HS0 HRD HWR hW0
    have hk0 : ¬ (k : Int) < 0 := by omega
    have hkn : ¬ (N : Int) ≤ (k : Int) := by omega
    have HCK := Lib.hid (refCheck5_any t _ _ _ _ w3 (HTB.out _ HS3.out) HWF.out)
    rw [HFZ.out, show Ft.v (0, 0, 0, 0) = .agg #[.int .i64 0, .int .i64 0, .int .i64 0, .int .i64 0] from rfl] at HCK
    go_wp2_with fail
    refine HCK.out.mono ?_
    rintro _ w4 ⟨rfl, hb4⟩
    have hS4 := HK.out _ _ hb4 HS3.out
    obtain ⟨q0, q1, q2, q3, -⟩ := id hS4
    have HS4 := Lib.hid hS4
    have HB4 := Lib.hid hb4
    have HAW := Lib.hid (awake_any w4 (HGB.out _ hS4))
    clear hS4 hb4 HCK
    go_wp2_with fail
    refine HAW.out.mono ?_
    rintro _ w5 ⟨rfl, hb5⟩
    have HS5 := Lib.hid (HK.out _ _ hb5 HS4.out)
    have HB5 := Lib.hid (HB4.out.trans (hb5.mono HB4.out.size))
    clear hb5 HAW
    go_wp2_with fail
    go_loopw [7] (fun x wr => ∃ (K : Nat), x = .int .i64 (K : Int) ∧ K ≤ V ∧ Hid ((wr.cell? ⟨w.heap.size, 0, none⟩ = some (c0) ∧ wr.cell? ⟨w.heap.size, 1, none⟩ = some (.slice a1 V cap1) ∧ wr.cell? ⟨w.heap.size, 2, none⟩ = some (c2) ∧ wr.cell? ⟨w.heap.size, 3, none⟩ = some (.slice a3 N cap3) ∧ Below W0.heap.size W0 wr) ∧ Below w3.heap.size w3 wr)) (fun x _ => V - (intOf x).toNat)
    case atStart => exact ⟨0, rfl, Nat.zero_le _, Lib.hid ⟨HS5.out, HB5.out⟩⟩
    case round =>
      obtain ⟨K, rfl, hK, HS⟩ := hrel
      clear q0 q1 q2 q3
      obtain ⟨⟨q0, q1, q2, q3, -⟩, -⟩ := id HS.out
      by_cases hlt : K < V
      · have hltI : (K : Int) < (V : Int) := by omega
        obtain ⟨bR, oR, ea, cs, -, hRl, hc⟩ := HR3.out.at HRR.out
        subst ea
        obtain ⟨vf, vg, vp, rfl, hf, hg, hp⟩ := id hRl
        obtain ⟨A, hA⟩ : ∃ A, la[K]? = some A := ⟨_, List.getElem?_eq_getElem (by rw [HLA.out]; exact hlt)⟩
        obtain ⟨B, hB⟩ : ∃ B, lb[K]? = some B := ⟨_, List.getElem?_eq_getElem (by rw [HLB.out]; exact hlt)⟩
        have hgA : rlReads r (K : Int) = A := by rw [← HGA.out K (by rw [HLA.out]; exact hlt), getD_of hA]
        have hgB : rlWrites r (K : Int) = B := by rw [← HGBB.out K (by rw [HLB.out]; exact hlt), getD_of hB]
        have hmA : (la.map Value.bool)[K]? = some (.bool A) := by rw [List.getElem?_map, hA]; rfl
        have hmB : (lb.map Value.bool)[K]? = some (.bool B) := by rw [List.getElem?_map, hB]; rfl
        obtain ⟨bA, oA, ea, hcA⟩ := HAL.out.at hmA
        subst ea
        obtain ⟨bB, oB, eb, hcB⟩ := HBL.out.at hmB
        subst eb
        obtain ⟨af, capf, rfl⟩ := sl_len hf
        obtain ⟨ag, capg, rfl, -⟩ := hg.open
        obtain ⟨ap, capp, rfl, -⟩ := hp.open
        have hbw := HB0.out.trans (HS.out.1.2.2.2.2.mono HB0.out.size)
        have k0 : wr.cell? ⟨bR, oR + k * 5, none⟩ = some (sv r.name) := kept_cell hbw (hc 0 _ rfl)
        have k1 := kept_cell hbw (hc 1 _ rfl)
        have k2 := kept_cell hbw (hc 2 _ rfl)
        have k3 := kept_cell hbw (hc 3 _ rfl)
        have k4 := kept_cell hbw (hc 4 _ rfl)
        have kA := kept_cell HS.out.2 hcA
        have kB := kept_cell HS.out.2 hcB
        have hrw := HWF.out.2.2.2.1 r (List.mem_of_getElem? HRR.out)
        have HRA0 := Lib.hid (fun (W : World) (hb : Below wr.heap.size wr W) => refReads_any r _ _ _ _ _ (K : Int) W (hRl.below (hbw.trans (hb.mono hbw.size))) hrw)
        have HRB0 := Lib.hid (fun (W : World) (hb : Below wr.heap.size wr W) => refWrites_any r _ _ _ _ _ (K : Int) W (hRl.below (hbw.trans (hb.mono hbw.size))) hrw)
        rw [hgA] at HRA0
        rw [hgB] at HRB0
        obtain ⟨nm, hnm⟩ : ∃ x, r.name = x := ⟨_, rfl⟩
        obtain ⟨ar, har⟩ : ∃ x, r.args = x := ⟨_, rfl⟩
        obtain ⟨lf, hlf⟩ : ∃ x, (r.from_.map fun n => Value.int .i64 n).length = x := ⟨_, rfl⟩
        obtain ⟨lg, hlg⟩ : ∃ x, r.guards.length = x := ⟨_, rfl⟩
        obtain ⟨lp, hlp⟩ : ∃ x, r.steps.length = x := ⟨_, rfl⟩
        unfold sv at HRA0 HRB0 k0
        rw [hnm, har, hlf, hlg, hlp] at HRA0 HRB0
        rw [hnm] at k0
        rw [har] at k1
        rw [hlf] at k2
        rw [hlg] at k3
        rw [hlp] at k4
        have HRA := Lib.hid (fun (W : World) (hS : W.cell? ⟨w.heap.size, 3, none⟩ = some (.slice (some ⟨bR, oR, none⟩) N cap3) ∧ W.cell? ⟨bR, oR + k * 5, none⟩ = some (.string (str nm)) ∧ W.cell? ⟨bR, oR + k * 5 + 1, none⟩ = some (.int .i64 ar) ∧ W.cell? ⟨bR, oR + k * 5 + 2, none⟩ = some (.slice af lf capf) ∧ W.cell? ⟨bR, oR + k * 5 + 3, none⟩ = some (.slice ag lg capg) ∧ W.cell? ⟨bR, oR + k * 5 + 4, none⟩ = some (.slice ap lp capp) ∧ W.cell? ⟨bA, oA + K, none⟩ = some (.bool A) ∧ W.cell? ⟨bB, oB + K, none⟩ = some (.bool B) ∧ Below wr.heap.size wr W) => (HRA0.out W (hS.2.2.2.2.2.2.2.2)).mono (fun z w' (hz : z = .returned (.bool A) ∧ Below W.heap.size W w') => show z = .returned (.bool A) ∧ w'.cell? ⟨w.heap.size, 3, none⟩ = some (.slice (some ⟨bR, oR, none⟩) N cap3) ∧ w'.cell? ⟨bR, oR + k * 5, none⟩ = some (.string (str nm)) ∧ w'.cell? ⟨bR, oR + k * 5 + 1, none⟩ = some (.int .i64 ar) ∧ w'.cell? ⟨bR, oR + k * 5 + 2, none⟩ = some (.slice af lf capf) ∧ w'.cell? ⟨bR, oR + k * 5 + 3, none⟩ = some (.slice ag lg capg) ∧ w'.cell? ⟨bR, oR + k * 5 + 4, none⟩ = some (.slice ap lp capp) ∧ w'.cell? ⟨bA, oA + K, none⟩ = some (.bool A) ∧ w'.cell? ⟨bB, oB + K, none⟩ = some (.bool B) ∧ Below wr.heap.size wr w' from ⟨hz.1, ⟨kept_cell hz.2 hS.1, kept_cell hz.2 hS.2.1, kept_cell hz.2 hS.2.2.1, kept_cell hz.2 hS.2.2.2.1, kept_cell hz.2 hS.2.2.2.2.1, kept_cell hz.2 hS.2.2.2.2.2.1, kept_cell hz.2 hS.2.2.2.2.2.2.1, kept_cell hz.2 hS.2.2.2.2.2.2.2.1, hS.2.2.2.2.2.2.2.2.trans (hz.2.mono hS.2.2.2.2.2.2.2.2.size)⟩⟩))
        have HRB := Lib.hid (fun (W : World) (hS : W.cell? ⟨w.heap.size, 3, none⟩ = some (.slice (some ⟨bR, oR, none⟩) N cap3) ∧ W.cell? ⟨bR, oR + k * 5, none⟩ = some (.string (str nm)) ∧ W.cell? ⟨bR, oR + k * 5 + 1, none⟩ = some (.int .i64 ar) ∧ W.cell? ⟨bR, oR + k * 5 + 2, none⟩ = some (.slice af lf capf) ∧ W.cell? ⟨bR, oR + k * 5 + 3, none⟩ = some (.slice ag lg capg) ∧ W.cell? ⟨bR, oR + k * 5 + 4, none⟩ = some (.slice ap lp capp) ∧ W.cell? ⟨bA, oA + K, none⟩ = some (.bool A) ∧ W.cell? ⟨bB, oB + K, none⟩ = some (.bool B) ∧ Below wr.heap.size wr W) => (HRB0.out W (hS.2.2.2.2.2.2.2.2)).mono (fun z w' (hz : z = .returned (.bool B) ∧ Below W.heap.size W w') => show z = .returned (.bool B) ∧ w'.cell? ⟨w.heap.size, 3, none⟩ = some (.slice (some ⟨bR, oR, none⟩) N cap3) ∧ w'.cell? ⟨bR, oR + k * 5, none⟩ = some (.string (str nm)) ∧ w'.cell? ⟨bR, oR + k * 5 + 1, none⟩ = some (.int .i64 ar) ∧ w'.cell? ⟨bR, oR + k * 5 + 2, none⟩ = some (.slice af lf capf) ∧ w'.cell? ⟨bR, oR + k * 5 + 3, none⟩ = some (.slice ag lg capg) ∧ w'.cell? ⟨bR, oR + k * 5 + 4, none⟩ = some (.slice ap lp capp) ∧ w'.cell? ⟨bA, oA + K, none⟩ = some (.bool A) ∧ w'.cell? ⟨bB, oB + K, none⟩ = some (.bool B) ∧ Below wr.heap.size wr w' from ⟨hz.1, ⟨kept_cell hz.2 hS.1, kept_cell hz.2 hS.2.1, kept_cell hz.2 hS.2.2.1, kept_cell hz.2 hS.2.2.2.1, kept_cell hz.2 hS.2.2.2.2.1, kept_cell hz.2 hS.2.2.2.2.2.1, kept_cell hz.2 hS.2.2.2.2.2.2.1, kept_cell hz.2 hS.2.2.2.2.2.2.2.1, hS.2.2.2.2.2.2.2.2.trans (hz.2.mono hS.2.2.2.2.2.2.2.2.size)⟩⟩))
        have hq3 : wr.cell? ⟨w.heap.size, 3, none⟩ = some (.slice (some ⟨bR, oR, none⟩) N cap3) := q3
        have HX0 := Lib.hid (show wr.cell? ⟨w.heap.size, 3, none⟩ = some (.slice (some ⟨bR, oR, none⟩) N cap3) ∧ wr.cell? ⟨bR, oR + k * 5, none⟩ = some (.string (str nm)) ∧ wr.cell? ⟨bR, oR + k * 5 + 1, none⟩ = some (.int .i64 ar) ∧ wr.cell? ⟨bR, oR + k * 5 + 2, none⟩ = some (.slice af lf capf) ∧ wr.cell? ⟨bR, oR + k * 5 + 3, none⟩ = some (.slice ag lg capg) ∧ wr.cell? ⟨bR, oR + k * 5 + 4, none⟩ = some (.slice ap lp capp) ∧ wr.cell? ⟨bA, oA + K, none⟩ = some (.bool A) ∧ wr.cell? ⟨bB, oB + K, none⟩ = some (.bool B) ∧ Below wr.heap.size wr wr from ⟨hq3, k0, k1, k2, k3, k4, kA, kB, Below.refl _ _⟩)
        have HX := Lib.hid (show wr.drew.cell? ⟨w.heap.size, 3, none⟩ = some (.slice (some ⟨bR, oR, none⟩) N cap3) ∧ wr.drew.cell? ⟨bR, oR + k * 5, none⟩ = some (.string (str nm)) ∧ wr.drew.cell? ⟨bR, oR + k * 5 + 1, none⟩ = some (.int .i64 ar) ∧ wr.drew.cell? ⟨bR, oR + k * 5 + 2, none⟩ = some (.slice af lf capf) ∧ wr.drew.cell? ⟨bR, oR + k * 5 + 3, none⟩ = some (.slice ag lg capg) ∧ wr.drew.cell? ⟨bR, oR + k * 5 + 4, none⟩ = some (.slice ap lp capp) ∧ wr.drew.cell? ⟨bA, oA + K, none⟩ = some (.bool A) ∧ wr.drew.cell? ⟨bB, oB + K, none⟩ = some (.bool B) ∧ Below wr.heap.size wr wr.drew from ⟨kept_cell (Below.refl wr.heap.size wr).drew HX0.out.1, kept_cell (Below.refl wr.heap.size wr).drew HX0.out.2.1, kept_cell (Below.refl wr.heap.size wr).drew HX0.out.2.2.1, kept_cell (Below.refl wr.heap.size wr).drew HX0.out.2.2.2.1, kept_cell (Below.refl wr.heap.size wr).drew HX0.out.2.2.2.2.1, kept_cell (Below.refl wr.heap.size wr).drew HX0.out.2.2.2.2.2.1, kept_cell (Below.refl wr.heap.size wr).drew HX0.out.2.2.2.2.2.2.1, kept_cell (Below.refl wr.heap.size wr).drew HX0.out.2.2.2.2.2.2.2.1, HX0.out.2.2.2.2.2.2.2.2.trans ((Below.refl wr.heap.size wr).drew.mono HX0.out.2.2.2.2.2.2.2.2.size)⟩)
        have hwK := wrap_next K (by omega)
        have hkI : (k : Int) < (N : Int) := hkN
        have hAA : (A != A) = false := by cases A <;> rfl
        have hBB : (B != B) = false := by cases B <;> rfl
        clear hRl hf hg hp hc hA hB hgA hgB hmA hmB hcA hcB hbw hrw HRA0 HRB0 hnm har hlf hlg hlp k0 k1 k2 k3 k4 kA kB HX0
        go_upto_region 9 with fail
        have hS0 : wr.drew.cell? ⟨w.heap.size, 3, none⟩ = some (.slice (some ⟨bR, oR, none⟩) N cap3) ∧ wr.drew.cell? ⟨bR, oR + k * 5, none⟩ = some (.string (str nm)) ∧ wr.drew.cell? ⟨bR, oR + k * 5 + 1, none⟩ = some (.int .i64 ar) ∧ wr.drew.cell? ⟨bR, oR + k * 5 + 2, none⟩ = some (.slice af lf capf) ∧ wr.drew.cell? ⟨bR, oR + k * 5 + 3, none⟩ = some (.slice ag lg capg) ∧ wr.drew.cell? ⟨bR, oR + k * 5 + 4, none⟩ = some (.slice ap lp capp) ∧ wr.drew.cell? ⟨bA, oA + K, none⟩ = some (.bool A) ∧ wr.drew.cell? ⟨bB, oB + K, none⟩ = some (.bool B) ∧ Below wr.heap.size wr wr.drew := HX.out
        go_region_held3 (fun Wz => Wz.cell? ⟨w.heap.size, 3, none⟩ = some (.slice (some ⟨bR, oR, none⟩) N cap3) ∧ Wz.cell? ⟨bR, oR + k * 5, none⟩ = some (.string (str nm)) ∧ Wz.cell? ⟨bR, oR + k * 5 + 1, none⟩ = some (.int .i64 ar) ∧ Wz.cell? ⟨bR, oR + k * 5 + 2, none⟩ = some (.slice af lf capf) ∧ Wz.cell? ⟨bR, oR + k * 5 + 3, none⟩ = some (.slice ag lg capg) ∧ Wz.cell? ⟨bR, oR + k * 5 + 4, none⟩ = some (.slice ap lp capp) ∧ Wz.cell? ⟨bA, oA + K, none⟩ = some (.bool A) ∧ Wz.cell? ⟨bB, oB + K, none⟩ = some (.bool B) ∧ Below wr.heap.size wr Wz) (first | exact hS0 | assumption) (first | (go_at_call 24; ((with_reducible refine (HRA.out _ ?_).mono ?_); (first | exact hS0 | assumption)); rintro _ w6 ⟨rfl, hS6⟩) | (go_at_call 25; ((with_reducible refine (HRB.out _ ?_).mono ?_); (first | exact hS0 | assumption)); rintro _ w7 ⟨rfl, hS7⟩))
        have hb7 := hS7.2.2.2.2.2.2.2.2
        have HS9 := Lib.hid (And.intro (HK.out _ _ hb7 HS.out.1) (HS.out.2.trans (hb7.mono HS.out.2.size)))
        clear hS0 hS6 hS7 hb7 HRA HRB HX
        go_wp2_with fail
        clear hwK hltI hkI hk0 hkn
        exact ⟨⟨K + 1, by go_num, by omega, HS9⟩, by simp [intOf]; omega⟩
      · have hltI : ¬ (K : Int) < (V : Int) := by omega
        go_wp2_with fail
        go_ret
        exact ⟨rfl, HB0.out.trans (HS.out.1.2.2.2.2.mono HB0.out.size)⟩

set_option maxRecDepth 100000 in
/-- WHAT THE WALK GIVES, FOR EVERY ARGUMENT AND EVERY WORLD THAT HOLDS WHAT THE ROW LISTS. -/
theorem contract (H : Type) (enc : TypeId × Value → H) (W : World) (base : Nat) (args : Array Value) (ds gs : List (DataW H)) (before : List MemPlace)
    (hval0 : ∀ (j : Nat) t v, Tryd.f6.params[j]? = some t → args[j]? = some v → Value.okWide Tryd.prog W .any base t v)
    (hW : DataW.Whole enc Tryd.prog Tryd.f6.params.toList Rows.rulesReadsSpec.vars false W args.toList ds gs before) (hL : laidMetH Tryd.prog I.laid1 W) :
    Calls Tryd.prog 6 args W fun e W' => ∃ v, e = .returned v ∧ Rows.rulesReadsSpec.post enc Tryd.prog Tryd.f6 false true false false W args v W' := by
  have hval : ∀ (j : Nat) t v, Tryd.f6.params[j]? = some t → args[j]? = some v → Value.okWide Tryd.prog W .any base t v := hval0
  have hW' := hW
  obtain ⟨p, q, hA0, hV, rfl, hfz, hnd⟩ := hW
  have hA : DataW.TrodAll enc Tryd.prog W 0 (fun _ => true) true Tryd.f6.params.toList args.toList ds p := hA0
  rw [Tryd.params6] at hA hval
  obtain ⟨v0, vs0, d0, ds0, p0, q0, hargs, rfl, rfl, h0, r0⟩ := trodAll_cons hA
  obtain ⟨v1, vs1, d1, ds1, p1, q1, rfl, rfl, rfl, h1, r1⟩ := trodAll_cons r0
  obtain ⟨rfl, rfl, rfl⟩ := trodAll_nil r1
  obtain rfl : args = #[v0, v1] := by cases args; simp_all
  obtain ⟨c0, c1, c2, c3, t, rfl, ht, hwf⟩ := tb_arg (hval 0 26 v0 rfl rfl) h0
  obtain ⟨n, rfl, rfl, rfl, wn⟩ := open_int Tryd.underlying3 (hval 1 3 v1 rfl rfl) h1
  refine (walk t c0 c1 c2 c3 n W ht hwf (by have h := wn; simp [Lit.wf, IntKind.min, IntKind.max, IntKind.signed, IntKind.bits] at h; exact h) (I.glob_of hL)).mono fun e W' ⟨he, hb⟩ => ?_
  subst he
  exact ⟨_, rfl, post_law hW' hb laidOut rfl rfl rfl Tryd.underlying4 (by rw [Tryd.params6]; decide +kernel)⟩

theorem reads (os : Os) {H : Type} (enc : TypeId × Value → H) : ∃ places, DataW.whole enc Tryd.prog ((World.doorLaid Tryd.prog 14 os).forCall (fun _ _ => 0) ⟨#[], #[.agg #[.slice none 0 0, .slice none 0 0, .slice none 0 0, .slice none 0 0], .int .i64 0], []⟩).memory Tryd.f6.params.toList Rows.rulesReadsSpec.vars false #[Value.agg #[.slice none 0 0, .slice none 0 0, .slice none 0 0, .slice none 0 0], .int .i64 0].toList 8 = some ([.agg [.nil, .nil, .nil, .nil], .lit (.int .i64 0)], [], places) :=
  ⟨[], by kernel_rfl⟩

set_option maxRecDepth 100000 in
theorem lifted (os : Os) (started : os.Started) (H : Type) (enc : TypeId × Value → H) (F : Stop.Interp) :
    ReturnsInHanded {} Tryd.checked os 6 .any ((OpenSpec.ofChange Rows.rulesReadsSpec).preRow enc Tryd.prog Tryd.f6 Rows.rulesReadsRow.domain false Rows.rulesReadsRow.laid) (((OpenSpec.ofChange Rows.rulesReadsSpec).at F).post enc Tryd.prog Tryd.f6 false true false false) := by
  obtain ⟨places, hx⟩ := reads os enc
  refine returnsInHanded_of_row (C := Tryd.checked) (s := OpenSpec.ofChange Rows.rulesReadsSpec) own started (by kernel_rfl) Tryd.func6
    (witness_row_atRef (enc := enc) (C := Tryd.checked) false (World.doorLaid Tryd.prog 14 os) #[.agg #[.slice none 0 0, .slice none 0 0, .slice none 0 0, .slice none 0 0], .int .i64 0] rfl (by kernel_rfl) (by kernel_rfl) (by kernel_rfl)
      (OpenSpec.preRow_of_cond 8 hx (by kernel_rfl) (fun k hk => by cases hk) (by kernel_rfl) (I.laid_met os _))) ?_
  intro W base args ds gs before hval hW _ _ hsz hL _ _
  exact contract H enc W base args ds gs before hval hW hL

theorem said : Rows.RulesReadsSaid :=
  OpenClaim.holds_of_cond 6 Tryd.f6 rfl rfl rfl rfl rfl rfl rfl ⟨rfl, rfl, rfl, rfl, rfl⟩ rfl rfl rfl rfl rfl (by kernel_rfl) Tryd.func6 (by kernel_rfl)
    (of_decide_eq_true (by kernel_rfl)) (by unfold Func.isWrapper; first | (rw [if_pos (by decide +kernel)]; kernel_rfl) | (rw [if_neg (by decide +kernel)]; exact ⟨rfl, rfl⟩))
    (fun os started H enc _ F => by rw [OpenClaim.pre_eq_preRow]; exact lifted os started H enc F)

theorem plain (f : FuncId) (fn : Func) (hf : Tryd.pinned.checked.prog.funcNamed "surmise/surmiselaw05.RulesReads" = some f) (hfn : Tryd.pinned.checked.prog.funcs[f]? = some fn) :
    false = Tryd.pinned.checked.prog.looks [] ∧ ∀ (j : Nat) t, fn.params[j]? = some t → Tryd.pinned.checked.prog.wantsStandIn t = false := by
  obtain rfl : f = 6 := Option.some.inj ((show Tryd.prog.funcNamed "surmise/surmiselaw05.RulesReads" = some 6 by kernel_rfl).symm.trans hf) |>.symm
  obtain rfl : fn = Tryd.f6 := (Option.some.inj (Tryd.func6.symm.trans hfn)).symm
  refine ⟨by kernel_rfl, fun j t ht => ?_⟩
  rw [Tryd.params6] at ht
  have hm := Array.mem_of_getElem? ht
  simp only [Array.mem_def, List.mem_cons, List.not_mem_nil, or_false] at hm
  rcases hm with rfl | rfl
  · exact (show Tryd.prog.wantsStandIn 26 = false by kernel_rfl)
  · exact (show Tryd.prog.wantsStandIn 3 = false by kernel_rfl)

/-- THE CARD. -/
theorem given : Rows.RulesReadsCardSaid :=
  Claim7.holds_tied_plain_at .later [] _ _ _ _ said (fun _ h => by cases h) (by kernel_rfl) (fun _ h => by cases h) rulesReads_row_tie rfl ⟨rfl, rfl⟩ (by kernel_rfl) rfl plain (by kernel_rfl)
end Go.Proofs.YtfcdkjhabdpijaaDoor.rulesReads
