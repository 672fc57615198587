/-
  RulesReach: which states can be reached, and which rules can never be done, as the document says.
-/
import Derived.Test.YtfcdkjhabdpijaaDoorRows
import Derived.Test.YtfcdkjhabdpijaaDoorTie
import Derived.Test.YtfcdkjhabdpijaaDoorCards
import Derived.Test.YtfcdkjhabdpijaaDoorRMg
import Derived.Test.YtfcdkjhabdpijaaDoorRLaid
import Derived.Test.YtfcdkjhabdpijaaDoorRMe
import Derived.Test.YtfcdkjhabdpijaaDoorRSf
import Derived.Test.YtfcdkjhabdpijaaDoorEBools
import Derived.OpenShut
namespace Go.Proofs.YtfcdkjhabdpijaaDoor.rulesReach
open Go Go.ChangeShapes Go.WideShapes Go.ChangeAt Go.RowKit
open Go.Proofs.YtfcdkjhabdpijaaDoor.B Go.Proofs.YtfcdkjhabdpijaaDoor.K Go.Proofs.YtfcdkjhabdpijaaDoor.E Go.Proofs.YtfcdkjhabdpijaaDoor.R
set_option linter.unusedVariables false

theorem own : ownKnob Tryd.prog.godebug = none := by kernel_rfl
theorem laidOut : laidOutB Tryd.prog = true := by kernel_rfl

theorem slN_below {w w' : World} {v : Value} {xs : List Int} (h : SlN w v xs) (hb : Below w.heap.size w w') : SlN w' v xs := Sl.below h hb

theorem getD_ext : ∀ (a b : List Bool), a.length = b.length → (∀ i, a.getD i false = b.getD i false) → a = b
  | [], [], _, _ => rfl
  | x :: a, y :: b, hl, h => by
    have h0 := h 0
    simp only [List.getD_cons_zero] at h0
    rw [h0, getD_ext a b (by simpa using hl) (fun i => by have := h (i + 1); simpa using this)]
  | [], _ :: _, hl, _ => by simp at hl
  | _ :: _, [], hl, _ => by simp at hl

theorem same_reach {t : Tb} {a b : List Bool} (ha : a.length = t.states.length) (hb : b.length = t.states.length) (h1 : ∀ s, a.getD s false = true ↔ Reached t s) (h2 : ∀ s, b.getD s false = true ↔ Reached t s) : a = b :=
  getD_ext a b (ha.trans hb.symm) fun i => by
    rw [Bool.eq_iff_iff, h1, h2]

theorem deads_length (l : List Bool) : ∀ (rs : List Rl) (n : Nat), (deads l rs n).length ≤ rs.length
  | [], _ => Nat.le_refl _
  | r :: rs, n => by
    unfold deads
    have := deads_length l rs (n + 1)
    split
    · rw [List.length_cons]; omega
    · rw [List.length_cons, List.length_cons]; omega

theorem four_cases (e0 e1 e2 e3 : Int) : (e0 = 0 ∧ e1 = 0 ∧ e2 = 0 ∧ e3 = 0) ∨ e0 ≠ 0 ∨ (e0 = 0 ∧ e1 ≠ 0) ∨ (e0 = 0 ∧ e1 = 0 ∧ e2 ≠ 0) ∨ (e0 = 0 ∧ e1 = 0 ∧ e2 = 0 ∧ e3 ≠ 0) := by omega

set_option maxHeartbeats 8000000 in
set_option maxRecDepth 100000 in
theorem walk (t : Tb) (c0 c1 c2 c3 : Value) (w : World) (h : TbIs w [c0, c1, c2, c3] t) (hw : TbWf t) (hG : I.Glob w) :
    Calls Tryd.prog 5 #[.agg #[c0, c1, c2, c3]] w fun e w' => e = .returned (.bool true) ∧ Below w.heap.size w w' := by
  obtain ⟨W0, hW0⟩ : ∃ W0, w.alloc (.cells #[c0, c1, c2, c3] 26) = W0 := ⟨_, rfl⟩
  have hB0 : Below w.heap.size w W0 := by rw [← hW0]; exact below_alloc _ _
  have q0 : W0.cell? ⟨w.heap.size, 0, none⟩ = some (c0) := by rw [← hW0]; exact box_cell _ _ _ _ _ rfl
  have q1 : W0.cell? ⟨w.heap.size, 1, none⟩ = some (c1) := by rw [← hW0]; exact box_cell _ _ _ _ _ rfl
  have q2 : W0.cell? ⟨w.heap.size, 2, none⟩ = some (c2) := by rw [← hW0]; exact box_cell _ _ _ _ _ rfl
  have q3 : W0.cell? ⟨w.heap.size, 3, none⟩ = some (c3) := by rw [← hW0]; exact box_cell _ _ _ _ _ rfl
  have HB0 := Lib.hid hB0
  have HK := Lib.hid (fun (Wa Wb : World) (hb : Below Wa.heap.size Wa Wb) (h : Wa.cell? ⟨w.heap.size, 0, none⟩ = some (c0) ∧ Wa.cell? ⟨w.heap.size, 1, none⟩ = some (c1) ∧ Wa.cell? ⟨w.heap.size, 2, none⟩ = some (c2) ∧ Wa.cell? ⟨w.heap.size, 3, none⟩ = some (c3) ∧ Below W0.heap.size W0 Wa) => show Wb.cell? ⟨w.heap.size, 0, none⟩ = some (c0) ∧ Wb.cell? ⟨w.heap.size, 1, none⟩ = some (c1) ∧ Wb.cell? ⟨w.heap.size, 2, none⟩ = some (c2) ∧ Wb.cell? ⟨w.heap.size, 3, none⟩ = some (c3) ∧ Below W0.heap.size W0 Wb from ⟨kept_cell hb h.1, kept_cell hb h.2.1, kept_cell hb h.2.2.1, kept_cell hb h.2.2.2.1, h.2.2.2.2.trans (hb.mono h.2.2.2.2.size)⟩)
  have HS0 := Lib.hid (show W0.cell? ⟨w.heap.size, 0, none⟩ = some (c0) ∧ W0.cell? ⟨w.heap.size, 1, none⟩ = some (c1) ∧ W0.cell? ⟨w.heap.size, 2, none⟩ = some (c2) ∧ W0.cell? ⟨w.heap.size, 3, none⟩ = some (c3) ∧ Below W0.heap.size W0 W0 from ⟨q0, q1, q2, q3, Below.refl _ _⟩)
  have HSD := Lib.hid (show W0.drew.cell? ⟨w.heap.size, 0, none⟩ = some (c0) ∧ W0.drew.cell? ⟨w.heap.size, 1, none⟩ = some (c1) ∧ W0.drew.cell? ⟨w.heap.size, 2, none⟩ = some (c2) ∧ W0.drew.cell? ⟨w.heap.size, 3, none⟩ = some (c3) ∧ Below W0.heap.size W0 W0.drew from ⟨q0, q1, q2, q3, (Below.refl _ _).drew⟩)
  have HTB := Lib.hid (fun (W : World) (hS : W.cell? ⟨w.heap.size, 0, none⟩ = some (c0) ∧ W.cell? ⟨w.heap.size, 1, none⟩ = some (c1) ∧ W.cell? ⟨w.heap.size, 2, none⟩ = some (c2) ∧ W.cell? ⟨w.heap.size, 3, none⟩ = some (c3) ∧ Below W0.heap.size W0 W) => h.below (hB0.trans (hS.2.2.2.2.mono hB0.size)))
  have HGB := Lib.hid (fun (W : World) (hS : W.cell? ⟨w.heap.size, 0, none⟩ = some (c0) ∧ W.cell? ⟨w.heap.size, 1, none⟩ = some (c1) ∧ W.cell? ⟨w.heap.size, 2, none⟩ = some (c2) ∧ W.cell? ⟨w.heap.size, 3, none⟩ = some (c3) ∧ Below W0.heap.size W0 W) => hG.below (hB0.trans (hS.2.2.2.2.mono hB0.size)))
  have HWF := Lib.hid hw
  have HA := Lib.hid (fun (W : World) (hS : W.cell? ⟨w.heap.size, 0, none⟩ = some (c0) ∧ W.cell? ⟨w.heap.size, 1, none⟩ = some (c1) ∧ W.cell? ⟨w.heap.size, 2, none⟩ = some (c2) ∧ W.cell? ⟨w.heap.size, 3, none⟩ = some (c3) ∧ Below W0.heap.size W0 W) => (awake_any W (HGB.out W hS)).mono (fun z w' (hz : (z = .returned (.bool true)) ∧ Below W.heap.size W w') => show (z = .returned (.bool true)) ∧ w'.cell? ⟨w.heap.size, 0, none⟩ = some (c0) ∧ w'.cell? ⟨w.heap.size, 1, none⟩ = some (c1) ∧ w'.cell? ⟨w.heap.size, 2, none⟩ = some (c2) ∧ w'.cell? ⟨w.heap.size, 3, none⟩ = some (c3) ∧ Below W0.heap.size W0 w' from ⟨hz.1, HK.out W w' hz.2 hS⟩))
  obtain ⟨⟨e0, e1, e2, e3⟩, hf⟩ : ∃ f, chk5 t = f := ⟨_, rfl⟩
  have HR0 := Lib.hid (refCheck5_any t c0 c1 c2 c3 W0 (h.below hB0) hw)
  rw [hf, show Ft.v (e0, e1, e2, e3) = .agg #[.int .i64 e0, .int .i64 e1, .int .i64 e2, .int .i64 e3] from rfl] at HR0
  rcases four_cases e0 e1 e2 e3 with ⟨rfl, rfl, rfl, rfl⟩ | hne
  · have hM := mayB_of hf
    have hF := fine_of hf
    have HRE := Lib.hid (fun (W : World) (hS : W.cell? ⟨w.heap.size, 0, none⟩ = some (c0) ∧ W.cell? ⟨w.heap.size, 1, none⟩ = some (c1) ∧ W.cell? ⟨w.heap.size, 2, none⟩ = some (c2) ∧ W.cell? ⟨w.heap.size, 3, none⟩ = some (c3) ∧ Below W0.heap.size W0 W) => (reach_any t c0 c1 c2 c3 W (HTB.out W hS) HWF.out (HGB.out W hS)).mono (fun z w' (hz : ReachOr t z w' ∧ Below W.heap.size W w') => show ReachIs t z w' ∧ (w'.cell? ⟨w.heap.size, 0, none⟩ = some (c0) ∧ w'.cell? ⟨w.heap.size, 1, none⟩ = some (c1) ∧ w'.cell? ⟨w.heap.size, 2, none⟩ = some (c2) ∧ w'.cell? ⟨w.heap.size, 3, none⟩ = some (c3) ∧ Below W0.heap.size W0 w') ∧ Below W.heap.size W w' from ⟨(hz.1.resolve_left (fun hx => by rw [hM] at hx; cases hx.1)).2, HK.out W w' hz.2 hS, hz.2⟩))
    have HRR := Lib.hid (fun (W : World) (hS : W.cell? ⟨w.heap.size, 0, none⟩ = some (c0) ∧ W.cell? ⟨w.heap.size, 1, none⟩ = some (c1) ∧ W.cell? ⟨w.heap.size, 2, none⟩ = some (c2) ∧ W.cell? ⟨w.heap.size, 3, none⟩ = some (c3) ∧ Below W0.heap.size W0 W) => (refReach_any t c0 c1 c2 c3 W (HTB.out W hS) HWF.out hF.ranged hF.states.2).mono (fun z w' (hz : ReachIs t z w' ∧ Below W.heap.size W w') => show ReachIs t z w' ∧ (w'.cell? ⟨w.heap.size, 0, none⟩ = some (c0) ∧ w'.cell? ⟨w.heap.size, 1, none⟩ = some (c1) ∧ w'.cell? ⟨w.heap.size, 2, none⟩ = some (c2) ∧ w'.cell? ⟨w.heap.size, 3, none⟩ = some (c3) ∧ Below W0.heap.size W0 w') ∧ Below W.heap.size W w' from ⟨hz.1, HK.out W w' hz.2 hS, hz.2⟩))
    have HDE := Lib.hid (fun (W : World) (hS : W.cell? ⟨w.heap.size, 0, none⟩ = some (c0) ∧ W.cell? ⟨w.heap.size, 1, none⟩ = some (c1) ∧ W.cell? ⟨w.heap.size, 2, none⟩ = some (c2) ∧ W.cell? ⟨w.heap.size, 3, none⟩ = some (c3) ∧ Below W0.heap.size W0 W) => (dead_any t c0 c1 c2 c3 W (HTB.out W hS) HWF.out (HGB.out W hS)).mono (fun z w' (hz : DeadOr t z w' ∧ Below W.heap.size W w') => show RDeadIs t z w' ∧ (w'.cell? ⟨w.heap.size, 0, none⟩ = some (c0) ∧ w'.cell? ⟨w.heap.size, 1, none⟩ = some (c1) ∧ w'.cell? ⟨w.heap.size, 2, none⟩ = some (c2) ∧ w'.cell? ⟨w.heap.size, 3, none⟩ = some (c3) ∧ Below W0.heap.size W0 w') ∧ Below W.heap.size W w' from ⟨(hz.1.resolve_left (fun hx => by rw [hM] at hx; cases hx.1)).2, HK.out W w' hz.2 hS, hz.2⟩))
    have HRD := Lib.hid (fun (W : World) (hS : W.cell? ⟨w.heap.size, 0, none⟩ = some (c0) ∧ W.cell? ⟨w.heap.size, 1, none⟩ = some (c1) ∧ W.cell? ⟨w.heap.size, 2, none⟩ = some (c2) ∧ W.cell? ⟨w.heap.size, 3, none⟩ = some (c3) ∧ Below W0.heap.size W0 W) => (refDead_any t c0 c1 c2 c3 W (HTB.out W hS) HWF.out hF).mono (fun z w' (hz : RDeadIs t z w' ∧ Below W.heap.size W w') => show RDeadIs t z w' ∧ (w'.cell? ⟨w.heap.size, 0, none⟩ = some (c0) ∧ w'.cell? ⟨w.heap.size, 1, none⟩ = some (c1) ∧ w'.cell? ⟨w.heap.size, 2, none⟩ = some (c2) ∧ w'.cell? ⟨w.heap.size, 3, none⟩ = some (c3) ∧ Below W0.heap.size W0 w') ∧ Below W.heap.size W w' from ⟨hz.1, HK.out W w' hz.2 hS, hz.2⟩))
    have HBO := Lib.hid (fun (W : World) (v v' : Value) (a b : List Bool) (hS : W.cell? ⟨w.heap.size, 0, none⟩ = some (c0) ∧ W.cell? ⟨w.heap.size, 1, none⟩ = some (c1) ∧ W.cell? ⟨w.heap.size, 2, none⟩ = some (c2) ∧ W.cell? ⟨w.heap.size, 3, none⟩ = some (c3) ∧ Below W0.heap.size W0 W) (ha : Sl W v (a.map Value.bool)) (hb : Sl W v' (b.map Value.bool)) (hla : a.length = t.states.length) (hlb : b.length = t.states.length) (h1 : ∀ s, a.getD s false = true ↔ Reached t s) (h2 : ∀ s, b.getD s false = true ↔ Reached t s) =>
      (refBools_same a v v' W ha (by rw [same_reach hla hlb h1 h2]; exact hb) (by rw [hla]; have := hF.states.2; omega)).mono (fun z w' (hz : z = .returned (.bool true) ∧ Below W.heap.size W w') => show z = .returned (.bool true) ∧ (w'.cell? ⟨w.heap.size, 0, none⟩ = some (c0) ∧ w'.cell? ⟨w.heap.size, 1, none⟩ = some (c1) ∧ w'.cell? ⟨w.heap.size, 2, none⟩ = some (c2) ∧ w'.cell? ⟨w.heap.size, 3, none⟩ = some (c3) ∧ Below W0.heap.size W0 w') ∧ Below W.heap.size W w' from ⟨hz.1, HK.out W w' hz.2 hS, hz.2⟩))
    have HIN := Lib.hid (fun (W : World) (v v' : Value) (a b : List Bool) (hS : W.cell? ⟨w.heap.size, 0, none⟩ = some (c0) ∧ W.cell? ⟨w.heap.size, 1, none⟩ = some (c1) ∧ W.cell? ⟨w.heap.size, 2, none⟩ = some (c2) ∧ W.cell? ⟨w.heap.size, 3, none⟩ = some (c3) ∧ Below W0.heap.size W0 W) (ha : SlN W v (deads a t.rules 0)) (hb : SlN W v' (deads b t.rules 0)) (hla : a.length = t.states.length) (hlb : b.length = t.states.length) (h1 : ∀ s, a.getD s false = true ↔ Reached t s) (h2 : ∀ s, b.getD s false = true ↔ Reached t s) =>
      (refInts_same v v' (deads a t.rules 0) W (by have := deads_length a t.rules 0; have := hF.rules; omega) ha (by rw [same_reach hla hlb h1 h2]; exact hb)).mono (fun z w' (hz : z = .returned (.bool true) ∧ Below W.heap.size W w') => show z = .returned (.bool true) ∧ (w'.cell? ⟨w.heap.size, 0, none⟩ = some (c0) ∧ w'.cell? ⟨w.heap.size, 1, none⟩ = some (c1) ∧ w'.cell? ⟨w.heap.size, 2, none⟩ = some (c2) ∧ w'.cell? ⟨w.heap.size, 3, none⟩ = some (c3) ∧ Below W0.heap.size W0 w') ∧ Below W.heap.size W w' from ⟨hz.1, HK.out W w' hz.2 hS, hz.2⟩))
    clear hw hG h hB0 hf hM hF
    go_enter Tryd.func5, Tryd.ntmps5
    go_wp2_with fail
    refine HR0.out.mono ?_
    rintro _ w1 ⟨rfl, hb1⟩
    have HS1 := Lib.hid (HK.out _ _ (hb1.trans ((Below.refl _ _).drew.mono hb1.size)) HS0.out)
    clear HR0 hb1 q0 q1 q2 q3
    go_upto_region 3 with fail
    have hS0 : w1.drew.cell? ⟨w.heap.size, 0, none⟩ = some (c0) ∧ w1.drew.cell? ⟨w.heap.size, 1, none⟩ = some (c1) ∧ w1.drew.cell? ⟨w.heap.size, 2, none⟩ = some (c2) ∧ w1.drew.cell? ⟨w.heap.size, 3, none⟩ = some (c3) ∧ Below W0.heap.size W0 w1.drew := HS1.out
    go_region_held3 (fun Wz => Wz.cell? ⟨w.heap.size, 0, none⟩ = some (c0) ∧ Wz.cell? ⟨w.heap.size, 1, none⟩ = some (c1) ∧ Wz.cell? ⟨w.heap.size, 2, none⟩ = some (c2) ∧ Wz.cell? ⟨w.heap.size, 3, none⟩ = some (c3) ∧ Below W0.heap.size W0 Wz) (first | exact hS0 | assumption) (first | (go_at_call 9; ((with_reducible refine (HA.out _ ?_).mono ?_); (first | exact hS0 | assumption)); rintro _ w2 ⟨rfl, hS2⟩) | (go_at_call 16; ((with_reducible refine (HRE.out _ ?_).mono ?_); (first | exact hS0 | assumption)); rintro _ w3 ⟨⟨v3, l3, rfl, hs3, hl3, hr3⟩, hS3, hb3⟩) | (go_at_call 19; ((with_reducible refine (HRR.out _ ?_).mono ?_); (first | exact hS0 | assumption)); rintro _ w4 ⟨⟨v4, l4, rfl, hs4, hl4, hr4⟩, hS4, hb4⟩) | (go_at_call 18; (with_reducible refine (HBO.out _ _ _ l3 l4 hS4 (Sl.below hs3 hb4) hs4 hl3 hl4 hr3 hr4).mono ?_); rintro _ w5 ⟨rfl, hS5, hb5⟩) | (go_at_call 17; ((with_reducible refine (HDE.out _ ?_).mono ?_); (first | exact hS0 | assumption)); rintro _ w6 ⟨⟨v6, l6, rfl, hs6, hl6, hr6⟩, hS6, hb6⟩) | (go_at_call 21; ((with_reducible refine (HRD.out _ ?_).mono ?_); (first | exact hS0 | assumption)); rintro _ w7 ⟨⟨v7, l7, rfl, hs7, hl7, hr7⟩, hS7, hb7⟩) | (go_at_call 20; (with_reducible refine (HIN.out _ _ _ l6 l7 hS7 (slN_below hs6 hb7) hs7 hl6 hl7 hr6 hr7).mono ?_); rintro _ w8 ⟨rfl, hS8, hb8⟩))
    go_wp2_with fail
    go_ret
    exact ⟨rfl, HB0.out.trans (hS8.2.2.2.2.mono HB0.out.size)⟩
  · have hM : mayB t = false := by
      unfold mayB; rw [hf]
      exact decide_eq_false (fun e => by
        have h0 := congrArg (·.1) e
        have h1 := congrArg (·.2.1) e
        have h2 := congrArg (·.2.2.1) e
        have h3 := congrArg (·.2.2.2) e
        simp only at h0 h1 h2 h3
        omega)
    have HRE := Lib.hid (fun (W : World) (hS : W.cell? ⟨w.heap.size, 0, none⟩ = some (c0) ∧ W.cell? ⟨w.heap.size, 1, none⟩ = some (c1) ∧ W.cell? ⟨w.heap.size, 2, none⟩ = some (c2) ∧ W.cell? ⟨w.heap.size, 3, none⟩ = some (c3) ∧ Below W0.heap.size W0 W) => (reach_any t c0 c1 c2 c3 W (HTB.out W hS) HWF.out (HGB.out W hS)).mono (fun z w' (hz : ReachOr t z w' ∧ Below W.heap.size W w') => show z = .returned (.slice none 0 0) ∧ w'.cell? ⟨w.heap.size, 0, none⟩ = some (c0) ∧ w'.cell? ⟨w.heap.size, 1, none⟩ = some (c1) ∧ w'.cell? ⟨w.heap.size, 2, none⟩ = some (c2) ∧ w'.cell? ⟨w.heap.size, 3, none⟩ = some (c3) ∧ Below W0.heap.size W0 w' from ⟨(hz.1.resolve_right (fun hx => by rw [hM] at hx; cases hx.1)).2, HK.out W w' hz.2 hS⟩))
    have HDE := Lib.hid (fun (W : World) (hS : W.cell? ⟨w.heap.size, 0, none⟩ = some (c0) ∧ W.cell? ⟨w.heap.size, 1, none⟩ = some (c1) ∧ W.cell? ⟨w.heap.size, 2, none⟩ = some (c2) ∧ W.cell? ⟨w.heap.size, 3, none⟩ = some (c3) ∧ Below W0.heap.size W0 W) => (dead_any t c0 c1 c2 c3 W (HTB.out W hS) HWF.out (HGB.out W hS)).mono (fun z w' (hz : DeadOr t z w' ∧ Below W.heap.size W w') => show z = .returned (.slice none 0 0) ∧ w'.cell? ⟨w.heap.size, 0, none⟩ = some (c0) ∧ w'.cell? ⟨w.heap.size, 1, none⟩ = some (c1) ∧ w'.cell? ⟨w.heap.size, 2, none⟩ = some (c2) ∧ w'.cell? ⟨w.heap.size, 3, none⟩ = some (c3) ∧ Below W0.heap.size W0 w' from ⟨(hz.1.resolve_right (fun hx => by rw [hM] at hx; cases hx.1)).2, HK.out W w' hz.2 hS⟩))
    have hz0 : IntKind.i64.wrap ((0 : Int) + 0) = 0 := by decide
    clear hw hG h hB0 hf hM
    rcases hne with h0 | ⟨rfl, h0⟩ | ⟨rfl, rfl, h0⟩ | ⟨rfl, rfl, rfl, h0⟩
    all_goals
      have hb : _ := beq_eq_false_iff_ne.2 h0
      clear h0
      go_enter Tryd.func5, Tryd.ntmps5
      go_wp2_with fail
      refine HR0.out.mono ?_
      rintro _ w1 ⟨rfl, hb1⟩
      have HS1 := Lib.hid (HK.out _ _ (hb1.trans ((Below.refl _ _).drew.mono hb1.size)) HS0.out)
      clear HR0 hb1 q0 q1 q2 q3
      go_upto_region 2 with fail
      have hS0 : w1.drew.cell? ⟨w.heap.size, 0, none⟩ = some (c0) ∧ w1.drew.cell? ⟨w.heap.size, 1, none⟩ = some (c1) ∧ w1.drew.cell? ⟨w.heap.size, 2, none⟩ = some (c2) ∧ w1.drew.cell? ⟨w.heap.size, 3, none⟩ = some (c3) ∧ Below W0.heap.size W0 w1.drew := HS1.out
      go_region_held3 (fun Wz => Wz.cell? ⟨w.heap.size, 0, none⟩ = some (c0) ∧ Wz.cell? ⟨w.heap.size, 1, none⟩ = some (c1) ∧ Wz.cell? ⟨w.heap.size, 2, none⟩ = some (c2) ∧ Wz.cell? ⟨w.heap.size, 3, none⟩ = some (c3) ∧ Below W0.heap.size W0 Wz) (first | exact hS0 | assumption) (first | (go_at_call 9; ((with_reducible refine (HA.out _ ?_).mono ?_); (first | exact hS0 | assumption)); rintro _ w2 ⟨rfl, hS2⟩) | (go_at_call 16; ((with_reducible refine (HRE.out _ ?_).mono ?_); (first | exact hS0 | assumption)); rintro _ w3 ⟨rfl, hS3⟩) | (go_at_call 17; ((with_reducible refine (HDE.out _ ?_).mono ?_); (first | exact hS0 | assumption)); rintro _ w6 ⟨rfl, hS6⟩))
      go_wp2_with fail
      go_ret
      exact ⟨rfl, HB0.out.trans (hS6.2.2.2.2.mono HB0.out.size)⟩

set_option maxRecDepth 100000 in
/-- WHAT THE WALK GIVES, FOR EVERY ARGUMENT AND EVERY WORLD THAT HOLDS WHAT THE ROW LISTS. -/
theorem contract (H : Type) (enc : TypeId × Value → H) (W : World) (base : Nat) (args : Array Value) (ds gs : List (DataW H)) (before : List MemPlace)
    (hval0 : ∀ (j : Nat) t v, Tryd.f5.params[j]? = some t → args[j]? = some v → Value.okWide Tryd.prog W .any base t v)
    (hW : DataW.Whole enc Tryd.prog Tryd.f5.params.toList Rows.rulesReachSpec.vars false W args.toList ds gs before) (hL : laidMetH Tryd.prog I.laid1 W) :
    Calls Tryd.prog 5 args W fun e W' => ∃ v, e = .returned v ∧ Rows.rulesReachSpec.post enc Tryd.prog Tryd.f5 false true false false W args v W' := by
  have hval : ∀ (j : Nat) t v, Tryd.f5.params[j]? = some t → args[j]? = some v → Value.okWide Tryd.prog W .any base t v := hval0
  have hW' := hW
  obtain ⟨p, q, hA0, hV, rfl, hfz, hnd⟩ := hW
  have hA : DataW.TrodAll enc Tryd.prog W 0 (fun _ => true) true Tryd.f5.params.toList args.toList ds p := hA0
  rw [Tryd.params5] at hA hval
  obtain ⟨v0, vs0, d0, ds0, p0, q0, hargs, rfl, rfl, h0, r0⟩ := trodAll_cons hA
  obtain ⟨rfl, rfl, rfl⟩ := trodAll_nil r0
  obtain rfl : args = #[v0] := by cases args; simp_all
  obtain ⟨c0, c1, c2, c3, t, rfl, ht, hwf⟩ := tb_arg (hval 0 26 v0 rfl rfl) h0
  refine (walk t c0 c1 c2 c3 W ht hwf (I.glob_of hL)).mono fun e W' ⟨he, hb⟩ => ?_
  subst he
  exact ⟨_, rfl, post_law hW' hb laidOut rfl rfl rfl Tryd.underlying4 (by rw [Tryd.params5]; decide +kernel)⟩

theorem reads (os : Os) {H : Type} (enc : TypeId × Value → H) : ∃ places, DataW.whole enc Tryd.prog ((World.doorLaid Tryd.prog 14 os).forCall (fun _ _ => 0) ⟨#[], #[.agg #[.slice none 0 0, .slice none 0 0, .slice none 0 0, .slice none 0 0]], []⟩).memory Tryd.f5.params.toList Rows.rulesReachSpec.vars false #[Value.agg #[.slice none 0 0, .slice none 0 0, .slice none 0 0, .slice none 0 0]].toList 8 = some ([.agg [.nil, .nil, .nil, .nil]], [], places) :=
  ⟨[], by kernel_rfl⟩

set_option maxRecDepth 100000 in
theorem lifted (os : Os) (started : os.Started) (H : Type) (enc : TypeId × Value → H) (F : Stop.Interp) :
    ReturnsInHanded {} Tryd.checked os 5 .any ((OpenSpec.ofChange Rows.rulesReachSpec).preRow enc Tryd.prog Tryd.f5 Rows.rulesReachRow.domain false Rows.rulesReachRow.laid) (((OpenSpec.ofChange Rows.rulesReachSpec).at F).post enc Tryd.prog Tryd.f5 false true false false) := by
  obtain ⟨places, hx⟩ := reads os enc
  refine returnsInHanded_of_row (C := Tryd.checked) (s := OpenSpec.ofChange Rows.rulesReachSpec) own started (by kernel_rfl) Tryd.func5
    (witness_row_atRef (enc := enc) (C := Tryd.checked) false (World.doorLaid Tryd.prog 14 os) #[.agg #[.slice none 0 0, .slice none 0 0, .slice none 0 0, .slice none 0 0]] rfl (by kernel_rfl) (by kernel_rfl) (by kernel_rfl)
      (OpenSpec.preRow_of_cond 8 hx (by kernel_rfl) (fun k hk => by cases hk) (by kernel_rfl) (I.laid_met os _))) ?_
  intro W base args ds gs before hval hW _ _ hsz hL _ _
  exact contract H enc W base args ds gs before hval hW hL

theorem said : Rows.RulesReachSaid :=
  OpenClaim.holds_of_cond 5 Tryd.f5 rfl rfl rfl rfl rfl rfl rfl ⟨rfl, rfl, rfl, rfl, rfl⟩ rfl rfl rfl rfl rfl (by kernel_rfl) Tryd.func5 (by kernel_rfl)
    (of_decide_eq_true (by kernel_rfl)) (by unfold Func.isWrapper; first | (rw [if_pos (by decide +kernel)]; kernel_rfl) | (rw [if_neg (by decide +kernel)]; exact ⟨rfl, rfl⟩))
    (fun os started H enc _ F => by rw [OpenClaim.pre_eq_preRow]; exact lifted os started H enc F)

theorem plain (f : FuncId) (fn : Func) (hf : Tryd.pinned.checked.prog.funcNamed "surmise/surmiselaw05.RulesReach" = some f) (hfn : Tryd.pinned.checked.prog.funcs[f]? = some fn) :
    false = Tryd.pinned.checked.prog.looks [] ∧ ∀ (j : Nat) t, fn.params[j]? = some t → Tryd.pinned.checked.prog.wantsStandIn t = false := by
  obtain rfl : f = 5 := Option.some.inj ((show Tryd.prog.funcNamed "surmise/surmiselaw05.RulesReach" = some 5 by kernel_rfl).symm.trans hf) |>.symm
  obtain rfl : fn = Tryd.f5 := (Option.some.inj (Tryd.func5.symm.trans hfn)).symm
  refine ⟨by kernel_rfl, fun j t ht => ?_⟩
  rw [Tryd.params5] at ht
  have hm := Array.mem_of_getElem? ht
  simp only [Array.mem_def, List.mem_cons, List.not_mem_nil, or_false] at hm
  subst hm
  exact (show Tryd.prog.wantsStandIn 26 = false by kernel_rfl)

/-- THE CARD. -/
theorem given : Rows.RulesReachCardSaid :=
  Claim7.holds_tied_plain_at .later [] _ _ _ _ said (fun _ h => by cases h) (by kernel_rfl) (fun _ h => by cases h) rulesReach_row_tie rfl ⟨rfl, rfl⟩ (by kernel_rfl) rfl plain (by kernel_rfl)
end Go.Proofs.YtfcdkjhabdpijaaDoor.rulesReach
