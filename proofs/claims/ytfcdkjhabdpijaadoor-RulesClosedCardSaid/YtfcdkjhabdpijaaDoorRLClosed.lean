/-
  RulesClosed: the first state can be reached; from one that can be no rule leads to one that can't; a dead rule is for none that can be.
-/
import Derived.Test.YtfcdkjhabdpijaaDoorRows
import Derived.Test.YtfcdkjhabdpijaaDoorTie
import Derived.Test.YtfcdkjhabdpijaaDoorCards
import Derived.Test.YtfcdkjhabdpijaaDoorRMg
import Derived.Test.YtfcdkjhabdpijaaDoorRLaid
import Derived.Test.YtfcdkjhabdpijaaDoorRRef
import Derived.Test.YtfcdkjhabdpijaaDoorRQd
import Derived.Test.YtfcdkjhabdpijaaDoorRSf
import Derived.OpenShut
namespace Go.Proofs.YtfcdkjhabdpijaaDoor.rulesClosed
open Go Go.ChangeShapes Go.WideShapes Go.ChangeAt Go.RowKit
open Go.Proofs.YtfcdkjhabdpijaaDoor.B Go.Proofs.YtfcdkjhabdpijaaDoor.K Go.Proofs.YtfcdkjhabdpijaaDoor.E Go.Proofs.YtfcdkjhabdpijaaDoor.R
set_option linter.unusedVariables false

theorem own : ownKnob Tryd.prog.godebug = none := by kernel_rfl
theorem laidOut : laidOutB Tryd.prog = true := by kernel_rfl

theorem deads_mem (l : List Bool) : ∀ (rs : List Rl) (k : Nat) (x : Int), x ∈ deads l rs k → ∃ (n : Nat) (r : Rl), x = ((k + n : Nat) : Int) ∧ rs[n]? = some r ∧ lives l r = false
  | [], _, _, h => by cases h
  | r :: rs, k, x, h => by
    unfold deads at h
    by_cases hl : lives l r = true
    · rw [if_pos hl] at h
      obtain ⟨n, r', h1, h2, h3⟩ := deads_mem l rs (k + 1) x h
      exact ⟨n + 1, r', by rw [h1]; omega, h2, h3⟩
    · rw [if_neg hl] at h
      rcases List.mem_cons.1 h with rfl | h
      · exact ⟨0, r, rfl, rfl, by simpa using hl⟩
      · obtain ⟨n, r', h1, h2, h3⟩ := deads_mem l rs (k + 1) x h
        exact ⟨n + 1, r', by rw [h1]; omega, h2, h3⟩

theorem deads_length (l : List Bool) : ∀ (rs : List Rl) (n : Nat), (deads l rs n).length ≤ rs.length
  | [], _ => Nat.le_refl _
  | r :: rs, n => by
    unfold deads
    have := deads_length l rs (n + 1)
    split
    · rw [List.length_cons]; omega
    · rw [List.length_cons, List.length_cons]; omega

theorem any_step {l : List Int} {J : Nat} {x y : Int} (hy : l[J]? = some y) : (l.take (J + 1)).any (fun z => z == x) = ((l.take J).any (fun z => z == x) || (y == x)) := by
  rw [List.take_add_one, hy, List.any_append]
  simp

set_option maxHeartbeats 8000000 in
set_option maxRecDepth 100000 in
theorem walk (t : Tb) (c0 c1 c2 c3 : Value) (w : World) (h : TbIs w [c0, c1, c2, c3] t) (hw : TbWf t) (hG : I.Glob w) :
    Calls Tryd.prog 8 #[.agg #[c0, c1, c2, c3]] w fun e w' => e = .returned (.bool true) ∧ Below w.heap.size w w' := by
  obtain ⟨W0, hW0⟩ : ∃ W0, w.alloc (.cells #[c0, c1, c2, c3] 26) = W0 := ⟨_, rfl⟩
  have hB0 : Below w.heap.size w W0 := by rw [← hW0]; exact below_alloc _ _
  have q0 : W0.cell? ⟨w.heap.size, 0, none⟩ = some (c0) := by rw [← hW0]; exact box_cell _ _ _ _ _ rfl
  have q1 : W0.cell? ⟨w.heap.size, 1, none⟩ = some (c1) := by rw [← hW0]; exact box_cell _ _ _ _ _ rfl
  have q2 : W0.cell? ⟨w.heap.size, 2, none⟩ = some (c2) := by rw [← hW0]; exact box_cell _ _ _ _ _ rfl
  have q3 : W0.cell? ⟨w.heap.size, 3, none⟩ = some (c3) := by rw [← hW0]; exact box_cell _ _ _ _ _ rfl
  have HB0 := Lib.hid hB0
  have HK := Lib.hid (fun (Wa Wb : World) (hb : Below Wa.heap.size Wa Wb) (h : Wa.cell? ⟨w.heap.size, 0, none⟩ = some (c0) ∧ Wa.cell? ⟨w.heap.size, 1, none⟩ = some (c1) ∧ Wa.cell? ⟨w.heap.size, 2, none⟩ = some (c2) ∧ Wa.cell? ⟨w.heap.size, 3, none⟩ = some (c3) ∧ Below W0.heap.size W0 Wa) => show Wb.cell? ⟨w.heap.size, 0, none⟩ = some (c0) ∧ Wb.cell? ⟨w.heap.size, 1, none⟩ = some (c1) ∧ Wb.cell? ⟨w.heap.size, 2, none⟩ = some (c2) ∧ Wb.cell? ⟨w.heap.size, 3, none⟩ = some (c3) ∧ Below W0.heap.size W0 Wb from ⟨kept_cell hb h.1, kept_cell hb h.2.1, kept_cell hb h.2.2.1, kept_cell hb h.2.2.2.1, h.2.2.2.2.trans (hb.mono h.2.2.2.2.size)⟩)
  have HS0 := Lib.hid (show W0.cell? ⟨w.heap.size, 0, none⟩ = some (c0) ∧ W0.cell? ⟨w.heap.size, 1, none⟩ = some (c1) ∧ W0.cell? ⟨w.heap.size, 2, none⟩ = some (c2) ∧ W0.cell? ⟨w.heap.size, 3, none⟩ = some (c3) ∧ Below W0.heap.size W0 W0 from ⟨q0, q1, q2, q3, Below.refl _ _⟩)
  have HSD := Lib.hid (show W0.drew.cell? ⟨w.heap.size, 0, none⟩ = some (c0) ∧ W0.drew.cell? ⟨w.heap.size, 1, none⟩ = some (c1) ∧ W0.drew.cell? ⟨w.heap.size, 2, none⟩ = some (c2) ∧ W0.drew.cell? ⟨w.heap.size, 3, none⟩ = some (c3) ∧ Below W0.heap.size W0 W0.drew from ⟨q0, q1, q2, q3, (Below.refl _ _).drew⟩)
  have HTB := Lib.hid (fun (W : World) (hS : W.cell? ⟨w.heap.size, 0, none⟩ = some (c0) ∧ W.cell? ⟨w.heap.size, 1, none⟩ = some (c1) ∧ W.cell? ⟨w.heap.size, 2, none⟩ = some (c2) ∧ W.cell? ⟨w.heap.size, 3, none⟩ = some (c3) ∧ Below W0.heap.size W0 W) => h.below (hB0.trans (hS.2.2.2.2.mono hB0.size)))
  have HGB := Lib.hid (fun (W : World) (hS : W.cell? ⟨w.heap.size, 0, none⟩ = some (c0) ∧ W.cell? ⟨w.heap.size, 1, none⟩ = some (c1) ∧ W.cell? ⟨w.heap.size, 2, none⟩ = some (c2) ∧ W.cell? ⟨w.heap.size, 3, none⟩ = some (c3) ∧ Below W0.heap.size W0 W) => hG.below (hB0.trans (hS.2.2.2.2.mono hB0.size)))
  have HWF := Lib.hid hw
  have HA := Lib.hid (fun (W : World) (hS : W.cell? ⟨w.heap.size, 0, none⟩ = some (c0) ∧ W.cell? ⟨w.heap.size, 1, none⟩ = some (c1) ∧ W.cell? ⟨w.heap.size, 2, none⟩ = some (c2) ∧ W.cell? ⟨w.heap.size, 3, none⟩ = some (c3) ∧ Below W0.heap.size W0 W) => (awake_any W (HGB.out W hS)).mono (fun z w' (hz : (z = .returned (.bool true)) ∧ Below W.heap.size W w') => show (z = .returned (.bool true)) ∧ w'.cell? ⟨w.heap.size, 0, none⟩ = some (c0) ∧ w'.cell? ⟨w.heap.size, 1, none⟩ = some (c1) ∧ w'.cell? ⟨w.heap.size, 2, none⟩ = some (c2) ∧ w'.cell? ⟨w.heap.size, 3, none⟩ = some (c3) ∧ Below W0.heap.size W0 w' from ⟨hz.1, HK.out W w' hz.2 hS⟩))
  have HT := Lib.hid h
  cases hM : mayB t with
  | false =>
    have HRE := Lib.hid (fun (W : World) (hS : W.cell? ⟨w.heap.size, 0, none⟩ = some (c0) ∧ W.cell? ⟨w.heap.size, 1, none⟩ = some (c1) ∧ W.cell? ⟨w.heap.size, 2, none⟩ = some (c2) ∧ W.cell? ⟨w.heap.size, 3, none⟩ = some (c3) ∧ Below W0.heap.size W0 W) => (reach_any t c0 c1 c2 c3 W (HTB.out W hS) HWF.out (HGB.out W hS)).mono (fun z w' (hz : ReachOr t z w' ∧ Below W.heap.size W w') => show z = .returned (.slice none 0 0) ∧ w'.cell? ⟨w.heap.size, 0, none⟩ = some (c0) ∧ w'.cell? ⟨w.heap.size, 1, none⟩ = some (c1) ∧ w'.cell? ⟨w.heap.size, 2, none⟩ = some (c2) ∧ w'.cell? ⟨w.heap.size, 3, none⟩ = some (c3) ∧ Below W0.heap.size W0 w' from ⟨(hz.1.resolve_right (fun hx => by rw [hM] at hx; cases hx.1)).2, HK.out W w' hz.2 hS⟩))
    have HDE := Lib.hid (fun (W : World) (hS : W.cell? ⟨w.heap.size, 0, none⟩ = some (c0) ∧ W.cell? ⟨w.heap.size, 1, none⟩ = some (c1) ∧ W.cell? ⟨w.heap.size, 2, none⟩ = some (c2) ∧ W.cell? ⟨w.heap.size, 3, none⟩ = some (c3) ∧ Below W0.heap.size W0 W) => (dead_any t c0 c1 c2 c3 W (HTB.out W hS) HWF.out (HGB.out W hS)).mono (fun z w' (hz : DeadOr t z w' ∧ Below W.heap.size W w') => show z = .returned (.slice none 0 0) ∧ w'.cell? ⟨w.heap.size, 0, none⟩ = some (c0) ∧ w'.cell? ⟨w.heap.size, 1, none⟩ = some (c1) ∧ w'.cell? ⟨w.heap.size, 2, none⟩ = some (c2) ∧ w'.cell? ⟨w.heap.size, 3, none⟩ = some (c3) ∧ Below W0.heap.size W0 w' from ⟨(hz.1.resolve_right (fun hx => by rw [hM] at hx; cases hx.1)).2, HK.out W w' hz.2 hS⟩))
    clear hw hG h hB0 hM
    go_enter Tryd.func8, Tryd.ntmps8
    go_upto_region 1 with fail
    have hS0 : W0.drew.cell? ⟨w.heap.size, 0, none⟩ = some (c0) ∧ W0.drew.cell? ⟨w.heap.size, 1, none⟩ = some (c1) ∧ W0.drew.cell? ⟨w.heap.size, 2, none⟩ = some (c2) ∧ W0.drew.cell? ⟨w.heap.size, 3, none⟩ = some (c3) ∧ Below W0.heap.size W0 W0.drew := HSD.out
    go_region_held3 (fun Wz => Wz.cell? ⟨w.heap.size, 0, none⟩ = some (c0) ∧ Wz.cell? ⟨w.heap.size, 1, none⟩ = some (c1) ∧ Wz.cell? ⟨w.heap.size, 2, none⟩ = some (c2) ∧ Wz.cell? ⟨w.heap.size, 3, none⟩ = some (c3) ∧ Below W0.heap.size W0 Wz) (first | exact hS0 | assumption) (first | (go_at_call 16; ((with_reducible refine (HRE.out _ ?_).mono ?_); (first | exact hS0 | assumption)); rintro _ w3 ⟨rfl, hS3⟩) | (go_at_call 17; ((with_reducible refine (HDE.out _ ?_).mono ?_); (first | exact hS0 | assumption)); rintro _ w4 ⟨rfl, hS4⟩))
    go_wp2_with fail
    refine (HA.out _ hS4).mono ?_
    rintro _ w5 ⟨rfl, hS5⟩
    go_wp2_with fail
    refine (HA.out _ hS5).mono ?_
    rintro _ w6 ⟨rfl, hS6⟩
    go_wp2_with fail
    go_ret
    exact ⟨rfl, HB0.out.trans (hS6.2.2.2.2.mono HB0.out.size)⟩
  | true =>
    have hF := fine_of (by simpa [mayB] using hM)
    have HF := Lib.hid hF
    have HRE := Lib.hid (fun (W : World) (hS : W.cell? ⟨w.heap.size, 0, none⟩ = some (c0) ∧ W.cell? ⟨w.heap.size, 1, none⟩ = some (c1) ∧ W.cell? ⟨w.heap.size, 2, none⟩ = some (c2) ∧ W.cell? ⟨w.heap.size, 3, none⟩ = some (c3) ∧ Below W0.heap.size W0 W) => (reach_any t c0 c1 c2 c3 W (HTB.out W hS) HWF.out (HGB.out W hS)).mono (fun z w' (hz : ReachOr t z w' ∧ Below W.heap.size W w') => show ReachIs t z w' ∧ (w'.cell? ⟨w.heap.size, 0, none⟩ = some (c0) ∧ w'.cell? ⟨w.heap.size, 1, none⟩ = some (c1) ∧ w'.cell? ⟨w.heap.size, 2, none⟩ = some (c2) ∧ w'.cell? ⟨w.heap.size, 3, none⟩ = some (c3) ∧ Below W0.heap.size W0 w') ∧ Below W.heap.size W w' from ⟨(hz.1.resolve_left (fun hx => by rw [hM] at hx; cases hx.1)).2, HK.out W w' hz.2 hS, hz.2⟩))
    have HDE := Lib.hid (fun (W : World) (hS : W.cell? ⟨w.heap.size, 0, none⟩ = some (c0) ∧ W.cell? ⟨w.heap.size, 1, none⟩ = some (c1) ∧ W.cell? ⟨w.heap.size, 2, none⟩ = some (c2) ∧ W.cell? ⟨w.heap.size, 3, none⟩ = some (c3) ∧ Below W0.heap.size W0 W) => (dead_any t c0 c1 c2 c3 W (HTB.out W hS) HWF.out (HGB.out W hS)).mono (fun z w' (hz : DeadOr t z w' ∧ Below W.heap.size W w') => show RDeadIs t z w' ∧ (w'.cell? ⟨w.heap.size, 0, none⟩ = some (c0) ∧ w'.cell? ⟨w.heap.size, 1, none⟩ = some (c1) ∧ w'.cell? ⟨w.heap.size, 2, none⟩ = some (c2) ∧ w'.cell? ⟨w.heap.size, 3, none⟩ = some (c3) ∧ Below W0.heap.size W0 w') ∧ Below W.heap.size W w' from ⟨(hz.1.resolve_left (fun hx => by rw [hM] at hx; cases hx.1)).2, HK.out W w' hz.2 hS, hz.2⟩))
    clear hG h hB0 hM
    go_enter Tryd.func8, Tryd.ntmps8
    go_upto_region 1 with fail
    have hS0 : W0.drew.cell? ⟨w.heap.size, 0, none⟩ = some (c0) ∧ W0.drew.cell? ⟨w.heap.size, 1, none⟩ = some (c1) ∧ W0.drew.cell? ⟨w.heap.size, 2, none⟩ = some (c2) ∧ W0.drew.cell? ⟨w.heap.size, 3, none⟩ = some (c3) ∧ Below W0.heap.size W0 W0.drew := HSD.out
    go_region_held3 (fun Wz => Wz.cell? ⟨w.heap.size, 0, none⟩ = some (c0) ∧ Wz.cell? ⟨w.heap.size, 1, none⟩ = some (c1) ∧ Wz.cell? ⟨w.heap.size, 2, none⟩ = some (c2) ∧ Wz.cell? ⟨w.heap.size, 3, none⟩ = some (c3) ∧ Below W0.heap.size W0 Wz) (first | exact hS0 | assumption) (first | (go_at_call 16; ((with_reducible refine (HRE.out _ ?_).mono ?_); (first | exact hS0 | assumption)); rintro _ w3 ⟨⟨v3, l, rfl, hs3, hl3, hr3⟩, hS3, hb3⟩) | (go_at_call 17; ((with_reducible refine (HDE.out _ ?_).mono ?_); (first | exact hS0 | assumption)); rintro _ w4 ⟨⟨v4, l4, rfl, hs4, hl4, hr4⟩, hS4, hb4⟩))
    have HS4 := Lib.hid hS4
    have HSL := Lib.hid (Sl.below hs3 hb4)
    have HSD4 : Hid (SlN w4 v4 (deads l4 t.rules 0)) := Lib.hid hs4
    obtain ⟨av, capv, rfl⟩ := sl_len hs3
    obtain ⟨ad, capd, rfl⟩ := sl_len hs4
    rw [List.length_map] at HSL HSD4 ⊢
    rw [List.length_map]
    obtain ⟨S, hS⟩ : ∃ S, l.length = S := ⟨_, rfl⟩
    obtain ⟨D, hD⟩ : ∃ D, (deads l4 t.rules 0).length = D := ⟨_, rfl⟩
    obtain ⟨N, hN⟩ : ∃ N, t.rules.length = N := ⟨_, rfl⟩
    have hS8 : S ≤ 8 := by rw [← hS, hl3]; exact HF.out.states.2
    have hS1 : 0 < S := by rw [← hS, hl3]; exact HF.out.states.1
    have hD12 : D ≤ 12 := by have := deads_length l4 t.rules 0; have := HF.out.rules; omega
    have hN12 : N ≤ 12 := by rw [← hN]; exact HF.out.rules
    have hSb : ((S : Int) == 0) = false := beq_eq_false_iff_ne.2 (by omega)
    have HLL := Lib.hid hl3
    have HRL := Lib.hid hr3
    have HR4 := Lib.hid hr4
    have HL4 := Lib.hid hl4
    have HSE := Lib.hid hS
    have HDE4 := Lib.hid hD
    have HNE := Lib.hid hN
    rw [hS] at HSL ⊢
    rw [hD] at HSD4 ⊢
    obtain ⟨d0, d1, d2, d3, e, x0, x1, x2, x3⟩ := HT.out
    cases e
    obtain ⟨a3, cap3, rfl, x3⟩ := x3.open
    rw [hN] at x3 HS4 hS4 HA HK HTB HGB ⊢
    have HR3 := Lib.hid x3
    clear hs3 hs4 hb3 hb4 hl3 hr3 hl4 hr4 hS hD x0 x1 x2 x3 HSD HS0 hS0 hS3 q0 q1 q2 q3 hW0 HRE HDE
    go_wp2_with fail
    have HAW := Lib.hid (awake_any w4 (HGB.out _ hS4))
    clear hS4 HA
    refine HAW.out.mono ?_
    rintro _ w5 ⟨rfl, hb5⟩
    have HS55 := Lib.hid (And.intro (HK.out _ _ hb5 HS4.out) hb5)
    clear hb5 HAW
    go_wp2_with fail
    go_loopw [5] (fun x wr => ∃ (K : Nat), x = .int .i64 (K : Int) ∧ K ≤ N ∧ Hid ((wr.cell? ⟨w.heap.size, 0, none⟩ = some (c0) ∧ wr.cell? ⟨w.heap.size, 1, none⟩ = some (c1) ∧ wr.cell? ⟨w.heap.size, 2, none⟩ = some (c2) ∧ wr.cell? ⟨w.heap.size, 3, none⟩ = some (.slice a3 N cap3) ∧ Below W0.heap.size W0 wr) ∧ Below w4.heap.size w4 wr)) (fun x _ => N - (intOf x).toNat)
    case atStart => exact ⟨0, rfl, Nat.zero_le _, HS55⟩
    case round =>
      obtain ⟨K, rfl, hK, HI⟩ := hrel
      have q0 := HI.out.1.1
      have q1 := HI.out.1.2.1
      have q2 := HI.out.1.2.2.1
      have q3 := HI.out.1.2.2.2.1
      by_cases hlt : K < N
      · have hltI : (K : Int) < (N : Int) := by omega
        obtain ⟨r, hr⟩ : ∃ r, t.rules[K]? = some r := ⟨_, List.getElem?_eq_getElem (by rw [HNE.out]; omega)⟩
        have HRA := Lib.hid hr
        have HRM := Lib.hid (List.mem_of_getElem? hr)
        have hwK := wrap_next K (by omega)
        obtain ⟨wx, rfl⟩ : ∃ x, x = wr := ⟨_, rfl⟩
        have HIX := HI
        clear hr HI
        go_wp2_with fail
        go_loopw [6, 7] (fun y6 y7 wy => ∃ (J : Nat) (B : Bool), y6 = .bool B ∧ y7 = .int .i64 (J : Int) ∧ J ≤ D ∧ wx = wy ∧ Hid (B = ((deads l4 t.rules 0).take J).any (fun z => z == (K : Int)))) (fun _ y7 _ => D - (intOf y7).toNat)
        case atStart => exact ⟨0, false, rfl, rfl, Nat.zero_le _, rfl, Lib.hid rfl⟩
        case round =>
          obtain ⟨J, B, rfl, rfl, hJ, rfl, HJ⟩ := hrel
          by_cases hltJ : J < D
          · have hltJI : (J : Int) < (D : Int) := by omega
            obtain ⟨x, hx⟩ : ∃ x, (deads l4 t.rules 0)[J]? = some x := ⟨_, List.getElem?_eq_getElem (by rw [HDE4.out]; omega)⟩
            have hm : ((deads l4 t.rules 0).map fun n => Value.int .i64 n)[J]? = some (.int .i64 x) := by rw [List.getElem?_map, hx]; rfl
            obtain ⟨b', off', ea, hc⟩ := HSD4.out.at hm
            subst ea
            have pd := kept_cell HIX.out.2 hc
            have HJN := Lib.hid (any_step (x := (K : Int)) hx)
            have hwJ := wrap_next J (by omega)
            clear hm hc hx
            obtain ⟨C, hC⟩ : ∃ C, (x == (K : Int)) = C := ⟨_, rfl⟩
            rw [hC] at HJN
            cases B with
            | true =>
              clear hC
              have HJ2 := Lib.hid (show true = ((deads l4 t.rules 0).take (J + 1)).any (fun z => z == (K : Int)) by rw [HJN.out, ← HJ.out, Bool.true_or])
              clear HJN HJ
              go_wp2_with fail
              clear hwJ hltJI hltI hwK
              exact ⟨⟨J + 1, true, rfl, by go_num, by omega, trivial, HJ2⟩, by simp [intOf]; omega⟩
            | false =>
              have HJ2 := Lib.hid (show C = ((deads l4 t.rules 0).take (J + 1)).any (fun z => z == (K : Int)) by rw [HJN.out, ← HJ.out, Bool.false_or])
              clear HJN HJ
              go_wp2_with fail
              clear hwJ hltJI hltI hwK
              exact ⟨⟨J + 1, C, rfl, by go_num, by omega, trivial, HJ2⟩, by simp [intOf]; omega⟩
          · have hltJI : ¬ (J : Int) < (D : Int) := by omega
            have e : J = D := by omega
            have HDB : Hid (B = true → lives l4 r = false) := Lib.hid (by
              intro hB
              have hj := HJ.out
              rw [e, List.take_of_length_le (Nat.le_of_eq HDE4.out), hB] at hj
              obtain ⟨z, hz, hzk⟩ := List.any_eq_true.1 hj.symm
              obtain ⟨n, r', e1, e2, e3⟩ := deads_mem l4 t.rules 0 z hz
              have : z = (K : Int) := beq_iff_eq.1 hzk
              have : n = K := by omega
              rw [this, HRA.out] at e2
              cases e2
              exact e3)
            clear HJ
            go_wp2_with fail
            go_loopw [8] (fun y wy => ∃ (M : Nat), y = .int .i64 (M : Int) ∧ M ≤ S ∧ Hid (Below wx.heap.size wx wy)) (fun y _ => S - (intOf y).toNat)
            case atStart => exact ⟨0, rfl, Nat.zero_le _, Lib.hid (Below.refl _ _)⟩
            case round =>
              obtain ⟨M, rfl, hM, HBM⟩ := hrel
              have HSM := Lib.hid (HK.out _ _ HBM.out HIX.out.1)
              have HBM4 := Lib.hid (HIX.out.2.trans (HBM.out.mono HIX.out.2.size))
              clear q0 q1 q2 q3
              have q0 := HSM.out.1
              have q1 := HSM.out.2.1
              have q2 := HSM.out.2.2.1
              have q3 := HSM.out.2.2.2.1
              by_cases hltM : M < S
              · have hltMI : (M : Int) < (S : Int) := by omega
                obtain ⟨C, hCl⟩ : ∃ C, l[M]? = some C := ⟨_, List.getElem?_eq_getElem (by rw [HSE.out]; omega)⟩
                have hm : (l.map Value.bool)[M]? = some (.bool C) := by rw [List.getElem?_map, hCl]; rfl
                obtain ⟨b', off', ea, hc⟩ := HSL.out.at hm
                subst ea
                have pr := kept_cell HBM4.out hc
                have hwM := wrap_next M (by omega)
                have HFO := Lib.hid (refFor_any t c0 c1 c2 (.slice a3 N cap3) (K : Int) (M : Int) wr (HTB.out _ HSM.out) HWF.out)
                rw [isFor_at t K M r (by rw [← HLL.out, HSE.out]; omega) HRA.out] at HFO
                have HCL := Lib.hid hCl
                clear hm hc hCl
                cases C with
                | false =>
                  clear HFO
                  go_wp2_with fail
                  clear hwM hltMI hltJI hltI hwK
                  exact ⟨⟨M + 1, by go_num, by omega, HBM⟩, by simp [intOf]; omega⟩
                | true =>
                  have HRE := Lib.hid ((HRL.out M).1 (getD_of HCL.out))
                  obtain ⟨F, hFe⟩ : ∃ F, rlFor r M = F := ⟨_, rfl⟩
                  rw [hFe] at HFO
                  have HFE := Lib.hid hFe
                  clear hFe
                  cases F with
                  | false =>
                    go_wp2_with fail
                    refine HFO.out.mono ?_
                    rintro _ w6 ⟨rfl, hb6⟩
                    have HB6 := Lib.hid (HBM.out.trans (hb6.mono HBM.out.size))
                    clear hb6
                    go_wp2_with fail
                    clear hwM hltMI hltJI hltI hwK
                    exact ⟨⟨M + 1, by go_num, by omega, HB6⟩, by simp [intOf]; omega⟩
                  | true =>
                    have hBf : B = false := by
                      cases B with
                      | false => rfl
                      | true =>
                        have h1 := HDB.out rfl
                        have h2 : lives l4 r = true := by
                          unfold lives
                          rw [liveTo_iff]
                          exact ⟨M, Nat.zero_le _, by rw [HL4.out, ← HLL.out, HSE.out]; omega, (HR4.out M).2 HRE.out, HFE.out⟩
                        rw [h1] at h2; cases h2
                    subst hBf
                    obtain ⟨bR, offR, ea, cs, -, hRl, hc⟩ := HR3.out.at HRA.out
                    subst ea
                    obtain ⟨vf, vg, vp, rfl, hf, hg, hp⟩ := id hRl
                    have hbw := HB0.out.trans (HSM.out.2.2.2.2.mono HB0.out.size)
                    have k0 : wr.cell? ⟨bR, offR + K * 5, none⟩ = some (sv r.name) := kept_cell hbw (hc 0 _ rfl)
                    have k1 := kept_cell hbw (hc 1 _ rfl)
                    have k2 := kept_cell hbw (hc 2 _ rfl)
                    have k3 := kept_cell hbw (hc 3 _ rfl)
                    have k4 := kept_cell hbw (hc 4 _ rfl)
                    have htr := toOf_range HF.out.ranged HRM.out (s := M) (by rw [← HLL.out, HSE.out]; omega)
                    obtain ⟨q, hq⟩ : ∃ q : Nat, toOf r M = (q : Int) := ⟨(toOf r M).toNat, by omega⟩
                    have hqS : q < S := by have := HSE.out; have := HLL.out; omega
                    have HTO := Lib.hid (fun (W : World) (hb : Below w.heap.size w W) => refTo_any r _ _ _ _ _ (M : Int) W (hRl.below hb) (HWF.out.2.2.2.1 r HRM.out))
                    rw [hq] at HTO
                    have hlq : l[q]? = some true := by
                      have h1 := Reached.go M r HRE.out HRM.out HFE.out
                      rw [hq] at h1
                      have h2 := (HRL.out q).2 h1
                      obtain ⟨X, hX⟩ : ∃ X, l[q]? = some X := ⟨_, List.getElem?_eq_getElem (by rw [HSE.out]; exact hqS)⟩
                      rw [getD_of hX] at h2
                      rw [hX, h2]
                    have hm2 : (l.map Value.bool)[q]? = some (.bool true) := by rw [List.getElem?_map, hlq]; rfl
                    obtain ⟨b2, off2, ea, hc2⟩ := HSL.out.at hm2
                    cases ea
                    have hqI : (q : Int) < (S : Int) := by omega
                    have HBW := Lib.hid hbw
                    have HPQ := Lib.hid hc2
                    unfold sv at k0 HTO
                    clear hRl hf hg hp hc htr hq hlq hm2 hc2 hbw
                    go_wp2_with fail
                    refine HFO.out.mono ?_
                    rintro _ w6 ⟨rfl, hb6⟩
                    have HB6 := Lib.hid (HBM.out.trans (hb6.mono HBM.out.size))
                    have HB64 := Lib.hid (HBM4.out.trans (hb6.mono HBM4.out.size))
                    have HTO6 := Lib.hid (HTO.out w6 (HBW.out.trans (hb6.mono HBW.out.size)))
                    have k0 := kept_cell hb6 k0
                    have k1 := kept_cell hb6 k1
                    have k2 := kept_cell hb6 k2
                    have k3 := kept_cell hb6 k3
                    have k4 := kept_cell hb6 k4
                    have q3 := kept_cell hb6 q3
                    clear hb6 HFO HTO
                    go_wp2_with fail
                    refine HTO6.out.mono ?_
                    rintro _ w7 ⟨rfl, hb7⟩
                    have HB7 := Lib.hid (HB6.out.trans (hb7.mono HB6.out.size))
                    have pq := kept_cell (HB64.out.trans (hb7.mono HB64.out.size)) HPQ.out
                    clear hb7
                    go_wp2_with fail
                    clear hwM hltMI hltJI hltI hwK hqI
                    exact ⟨⟨M + 1, by go_num, by omega, HB7⟩, by simp [intOf]; omega⟩
              · have hltMI : ¬ (M : Int) < (S : Int) := by omega
                go_wp2_with fail
                clear hltMI hltJI hltI hwK
                exact ⟨⟨K + 1, by go_num, by omega, Lib.hid ⟨HSM.out, HBM4.out⟩⟩, by simp [intOf]; omega⟩
      · have hltI : ¬ (K : Int) < (N : Int) := by omega
        have hl0 : l[0]? = some true := by
          have h2 := (HRL.out 0).2 .first
          obtain ⟨X, hX⟩ : ∃ X, l[0]? = some X := ⟨_, List.getElem?_eq_getElem (by rw [HSE.out]; exact hS1)⟩
          rw [getD_of hX] at h2
          rw [hX, h2]
        have hm2 : (l.map Value.bool)[0]? = some (.bool true) := by rw [List.getElem?_map, hl0]; rfl
        obtain ⟨b2, off2, ea, hc2⟩ := HSL.out.at hm2
        subst ea
        have p0 : wr.cell? ⟨b2, off2, none⟩ = some (.bool true) := kept_cell HI.out.2 hc2
        have hSI : (0 : Int) < (S : Int) := by omega
        clear hl0 hm2 hc2
        go_wp2_with fail
        go_ret
        exact ⟨rfl, HB0.out.trans (HI.out.1.2.2.2.2.mono HB0.out.size)⟩

set_option maxRecDepth 100000 in
/-- WHAT THE WALK GIVES, FOR EVERY ARGUMENT AND EVERY WORLD THAT HOLDS WHAT THE ROW LISTS. -/
theorem contract (H : Type) (enc : TypeId × Value → H) (W : World) (base : Nat) (args : Array Value) (ds gs : List (DataW H)) (before : List MemPlace)
    (hval0 : ∀ (j : Nat) t v, Tryd.f8.params[j]? = some t → args[j]? = some v → Value.okWide Tryd.prog W .any base t v)
    (hW : DataW.Whole enc Tryd.prog Tryd.f8.params.toList Rows.rulesClosedSpec.vars false W args.toList ds gs before) (hL : laidMetH Tryd.prog I.laid1 W) :
    Calls Tryd.prog 8 args W fun e W' => ∃ v, e = .returned v ∧ Rows.rulesClosedSpec.post enc Tryd.prog Tryd.f8 false true false false W args v W' := by
  have hval : ∀ (j : Nat) t v, Tryd.f8.params[j]? = some t → args[j]? = some v → Value.okWide Tryd.prog W .any base t v := hval0
  have hW' := hW
  obtain ⟨p, q, hA0, hV, rfl, hfz, hnd⟩ := hW
  have hA : DataW.TrodAll enc Tryd.prog W 0 (fun _ => true) true Tryd.f8.params.toList args.toList ds p := hA0
  rw [Tryd.params8] at hA hval
  obtain ⟨v0, vs0, d0, ds0, p0, q0, hargs, rfl, rfl, h0, r0⟩ := trodAll_cons hA
  obtain ⟨rfl, rfl, rfl⟩ := trodAll_nil r0
  obtain rfl : args = #[v0] := by cases args; simp_all
  obtain ⟨c0, c1, c2, c3, t, rfl, ht, hwf⟩ := tb_arg (hval 0 26 v0 rfl rfl) h0
  refine (walk t c0 c1 c2 c3 W ht hwf (I.glob_of hL)).mono fun e W' ⟨he, hb⟩ => ?_
  subst he
  exact ⟨_, rfl, post_law hW' hb laidOut rfl rfl rfl Tryd.underlying4 (by rw [Tryd.params8]; decide +kernel)⟩

theorem reads (os : Os) {H : Type} (enc : TypeId × Value → H) : ∃ places, DataW.whole enc Tryd.prog ((World.doorLaid Tryd.prog 14 os).forCall (fun _ _ => 0) ⟨#[], #[.agg #[.slice none 0 0, .slice none 0 0, .slice none 0 0, .slice none 0 0]], []⟩).memory Tryd.f8.params.toList Rows.rulesClosedSpec.vars false #[Value.agg #[.slice none 0 0, .slice none 0 0, .slice none 0 0, .slice none 0 0]].toList 8 = some ([.agg [.nil, .nil, .nil, .nil]], [], places) :=
  ⟨[], by kernel_rfl⟩

set_option maxRecDepth 100000 in
theorem lifted (os : Os) (started : os.Started) (H : Type) (enc : TypeId × Value → H) (F : Stop.Interp) :
    ReturnsInHanded {} Tryd.checked os 8 .any ((OpenSpec.ofChange Rows.rulesClosedSpec).preRow enc Tryd.prog Tryd.f8 Rows.rulesClosedRow.domain false Rows.rulesClosedRow.laid) (((OpenSpec.ofChange Rows.rulesClosedSpec).at F).post enc Tryd.prog Tryd.f8 false true false false) := by
  obtain ⟨places, hx⟩ := reads os enc
  refine returnsInHanded_of_row (C := Tryd.checked) (s := OpenSpec.ofChange Rows.rulesClosedSpec) own started (by kernel_rfl) Tryd.func8
    (witness_row_atRef (enc := enc) (C := Tryd.checked) false (World.doorLaid Tryd.prog 14 os) #[.agg #[.slice none 0 0, .slice none 0 0, .slice none 0 0, .slice none 0 0]] rfl (by kernel_rfl) (by kernel_rfl) (by kernel_rfl)
      (OpenSpec.preRow_of_cond 8 hx (by kernel_rfl) (fun k hk => by cases hk) (by kernel_rfl) (I.laid_met os _))) ?_
  intro W base args ds gs before hval hW _ _ hsz hL _ _
  exact contract H enc W base args ds gs before hval hW hL

theorem said : Rows.RulesClosedSaid :=
  OpenClaim.holds_of_cond 8 Tryd.f8 rfl rfl rfl rfl rfl rfl rfl ⟨rfl, rfl, rfl, rfl, rfl⟩ rfl rfl rfl rfl rfl (by kernel_rfl) Tryd.func8 (by kernel_rfl)
    (of_decide_eq_true (by kernel_rfl)) (by unfold Func.isWrapper; first | (rw [if_pos (by decide +kernel)]; kernel_rfl) | (rw [if_neg (by decide +kernel)]; exact ⟨rfl, rfl⟩))
    (fun os started H enc _ F => by rw [OpenClaim.pre_eq_preRow]; exact lifted os started H enc F)

theorem plain (f : FuncId) (fn : Func) (hf : Tryd.pinned.checked.prog.funcNamed "surmise/surmiselaw05.RulesClosed" = some f) (hfn : Tryd.pinned.checked.prog.funcs[f]? = some fn) :
    false = Tryd.pinned.checked.prog.looks [] ∧ ∀ (j : Nat) t, fn.params[j]? = some t → Tryd.pinned.checked.prog.wantsStandIn t = false := by
  obtain rfl : f = 8 := Option.some.inj ((show Tryd.prog.funcNamed "surmise/surmiselaw05.RulesClosed" = some 8 by kernel_rfl).symm.trans hf) |>.symm
  obtain rfl : fn = Tryd.f8 := (Option.some.inj (Tryd.func8.symm.trans hfn)).symm
  refine ⟨by kernel_rfl, fun j t ht => ?_⟩
  rw [Tryd.params8] at ht
  have hm := Array.mem_of_getElem? ht
  simp only [Array.mem_def, List.mem_cons, List.not_mem_nil, or_false] at hm
  subst hm
  exact (show Tryd.prog.wantsStandIn 26 = false by kernel_rfl)

/-- THE CARD. -/
theorem given : Rows.RulesClosedCardSaid :=
  Claim7.holds_tied_plain_at .later [] _ _ _ _ said (fun _ h => by cases h) (by kernel_rfl) (fun _ h => by cases h) rulesClosed_row_tie rfl ⟨rfl, rfl⟩ (by kernel_rfl) rfl plain (by kernel_rfl)
end Go.Proofs.YtfcdkjhabdpijaaDoor.rulesClosed
