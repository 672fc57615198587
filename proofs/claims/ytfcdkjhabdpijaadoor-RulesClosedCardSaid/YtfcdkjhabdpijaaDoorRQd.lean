/-
  Layer 5, the program's side: Dead.
-/
import Derived.Test.YtfcdkjhabdpijaaDoorRMf
import Derived.Deep.LoopGhost
import Derived.WalkMore
namespace Go.Proofs.YtfcdkjhabdpijaaDoor.R
open Go Go.RowKit Go.Proofs.YtfcdkjhabdpijaaDoor.B Go.Proofs.YtfcdkjhabdpijaaDoor.K Go.Proofs.YtfcdkjhabdpijaaDoor.E
set_option linter.unusedVariables false

/-- Is a rule for one of the states from s on, m of them? -/
def liveTo (l : List Bool) (r : Rl) : Nat → Nat → Bool
  | _, 0 => false
  | s, m + 1 => (l.getD s false && rlFor r s) || liveTo l r (s + 1) m
def lives (l : List Bool) (r : Rl) : Bool := liveTo l r 0 l.length
def deads (l : List Bool) : List Rl → Nat → List Int
  | [], _ => []
  | r :: rs, n => if lives l r = true then deads l rs (n + 1) else (n : Int) :: deads l rs (n + 1)

theorem liveTo_iff (l : List Bool) (r : Rl) : ∀ m s, liveTo l r s m = true ↔ ∃ j, s ≤ j ∧ j < s + m ∧ l.getD j false = true ∧ rlFor r j = true
  | 0, s => ⟨fun h => (by cases h), fun ⟨j, h1, h2, _⟩ => absurd h2 (by omega)⟩
  | m + 1, s => by
    show ((l.getD s false && rlFor r s) || liveTo l r (s + 1) m) = true ↔ _
    rw [Bool.or_eq_true, Bool.and_eq_true, liveTo_iff l r m (s + 1)]
    constructor
    · rintro (⟨h1, h2⟩ | ⟨j, h1, h2, h3⟩)
      · exact ⟨s, Nat.le_refl _, by omega, h1, h2⟩
      · exact ⟨j, by omega, by omega, h3⟩
    · rintro ⟨j, h1, h2, h3, h4⟩
      rcases Nat.eq_or_lt_of_le h1 with rfl | h
      · exact Or.inl ⟨h3, h4⟩
      · exact Or.inr ⟨j, by omega, by omega, h3, h4⟩

theorem deads_at (l : List Bool) (rs : List Rl) (K : Nat) (r : Rl) (h : rs[K]? = some r) : deads l (rs.drop K) K = if lives l r = true then deads l (rs.drop (K + 1)) (K + 1) else (K : Int) :: deads l (rs.drop (K + 1)) (K + 1) := by
  obtain ⟨hk, e⟩ := List.getElem?_eq_some_iff.1 h
  rw [List.drop_eq_getElem_cons hk, e]; rfl

theorem infoI : (Tryd.prog.info? 3).map (fun i => (i.zero, i.size, i.bytes)) = some (some (.int .i64 0), 1, 8) := by kernel_rfl

/-- What Dead tells. -/
def DeadOr (t : Tb) (e : Ending) (w' : World) : Prop := (mayB t = false ∧ e = .returned (.slice none 0 0)) ∨
  (mayB t = true ∧ ∃ (v : Value) (l : List Bool), e = .returned v ∧ SlN w' v (deads l t.rules 0) ∧ l.length = t.states.length ∧ ∀ s, l.getD s false = true ↔ Reached t s)

set_option maxHeartbeats 4000000 in
set_option maxRecDepth 100000 in
theorem dead_any (t : Tb) (c0 c1 c2 c3 : Value) (w : World) (h : TbIs w [c0, c1, c2, c3] t) (hw : TbWf t) (hG : I.Glob w) :
    Calls Tryd.prog 17 #[.agg #[c0, c1, c2, c3]] w fun e w' => DeadOr t e w' ∧ Below w.heap.size w w' := by
  have HM0 := Lib.hid (fun (W : World) (hb : Below w.heap.size w W) => mayBe_any t c0 c1 c2 c3 W (h.below hb) hw (hG.below hb))
  have HR0 := Lib.hid (fun (W : World) (hb : Below w.heap.size w W) => reach_any t c0 c1 c2 c3 W (h.below hb) hw (hG.below hb))
  have HT := Lib.hid h
  obtain ⟨i0, hi, hz0, hz1, hz2⟩ := info_parts infoI
  obtain ⟨d0, d1, d2, d3, e, h0, h1, h2, h3⟩ := h
  cases e
  obtain ⟨a3, cap3, rfl, h3⟩ := h3.open
  obtain ⟨N, hN⟩ : ∃ N, t.rules.length = N := ⟨_, rfl⟩
  rw [hN] at HM0 HR0 HT h3 ⊢
  obtain ⟨W0, hW0⟩ : ∃ W0, w.alloc (.cells #[c0, c1, c2, .slice a3 N cap3] 26) = W0 := ⟨_, rfl⟩
  have hB0 : Below w.heap.size w W0 := by rw [← hW0]; exact below_alloc _ _
  have q0 : W0.cell? ⟨w.heap.size, 0, none⟩ = some c0 := by rw [← hW0]; exact box_cell _ _ _ _ _ rfl
  have q1 : W0.cell? ⟨w.heap.size, 1, none⟩ = some c1 := by rw [← hW0]; exact box_cell _ _ _ _ _ rfl
  have q2 : W0.cell? ⟨w.heap.size, 2, none⟩ = some c2 := by rw [← hW0]; exact box_cell _ _ _ _ _ rfl
  have q3 : W0.cell? ⟨w.heap.size, 3, none⟩ = some (.slice a3 N cap3) := by rw [← hW0]; exact box_cell _ _ _ _ _ rfl
  have H := Lib.hid (HM0.out W0 hB0)
  have HB0 := Lib.hid hB0
  cases hM : mayB t with
  | false =>
    rw [hM] at H
    have HR : Hid (∀ w', DeadOr t (.returned (.slice none 0 0)) w') := Lib.hid fun _ => Or.inl ⟨hM, rfl⟩
    clear hB0 hw hG h0 h1 h2 h3 HM0 hN HR0 hi hz0 hz1 hz2
    go_enter Tryd.func17, Tryd.ntmps17
    go_wp2_with fail
    go_step3
    go_wp2_with fail
    refine H.out.mono ?_
    rintro _ w1 ⟨rfl, hb⟩
    have HB1 := Lib.hid (HB0.out.trans (hb.mono HB0.out.size))
    clear hb
    go_wp2_with fail
    try rw [Exit.noGoto_ret]
    go_ret
    exact ⟨HR.out _, HB1.out⟩
  | true =>
    rw [hM] at H
    have hF := fine_of (by simpa [mayB] using hM)
    have h12 : N ≤ 12 := by rw [← hN]; exact hF.rules
    have HW := Lib.hid hw
    have HN := Lib.hid hN
    have HMB := Lib.hid hM
    have HT3 := Lib.hid h3
    clear hB0 hw hG h0 h1 h2 h3 HM0 hN hF hM
    go_enter Tryd.func17, Tryd.ntmps17
    go_wp2_with fail
    go_step3
    go_wp2_with fail
    refine H.out.mono ?_
    rintro _ w1 ⟨rfl, hb⟩
    have HB1 := Lib.hid (HB0.out.trans (hb.mono HB0.out.size))
    have q0 := kept_cell hb q0
    have q1 := kept_cell hb q1
    have q2 := kept_cell hb q2
    have q3 := kept_cell hb q3
    have HR1 := Lib.hid (HR0.out w1 HB1.out)
    clear hb HR0 H HB0
    go_wp2_with fail
    refine HR1.out.mono ?_
    rintro e w2 ⟨hro, hb⟩
    have HB2 := Lib.hid (HB1.out.trans (hb.mono HB1.out.size))
    have q0 := kept_cell hb q0
    have q1 := kept_cell hb q1
    have q2 := kept_cell hb q2
    have q3 := kept_cell hb q3
    clear hb HB1 HR1
    rcases hro with ⟨hx, -⟩ | ⟨-, v, l, rfl, hsl, hll, hrl⟩
    · have := HMB.out; rw [hx] at this; cases this
    have HSL := Lib.hid hsl
    have HRL := Lib.hid hrl
    have HLL := Lib.hid hll
    obtain ⟨av, capv, rfl⟩ := sl_len hsl
    rw [List.length_map] at HSL ⊢
    obtain ⟨S, hS⟩ : ∃ S, l.length = S := ⟨_, rfl⟩
    rw [hS] at HSL ⊢
    have HS := Lib.hid hS
    have hS8 : S ≤ 8 := by rw [← hS, hll]; exact (fine_of (by simpa [mayB] using HMB.out)).states.2
    clear hsl hrl hll hS
    go_wp2_with fail
    go_step3
    go_wp2_with fail
    go_loopg [4, 16] N (fun gk s4 s16 wx => ∃ (K : Nat) (pre : List Int), K + gk = N ∧ s16 = .int .i64 (K : Int) ∧ Hid (pre.length ≤ K ∧ pre ++ deads l (t.rules.drop K) K = deads l t.rules 0) ∧ Hid (wx.ownsRow w2.heap.size 3 1 s4 pre.length (pre.map (Value.int .i64))) ∧ Hid (Below w2.heap.size w2 wx))
    case atStart => exact ⟨0, [], by omega, rfl, Lib.hid ⟨Nat.le_refl _, rfl⟩, Lib.hid (World.ownsRow_nil _ _ _ _), Lib.hid (Below.refl _ _)⟩
    case round =>
      obtain ⟨K, pre, hKg, rfl, HP, HO, HB⟩ := hrel
      cases gk with
      | zero =>
        have hKN : K = N := by omega
        have hltI : ¬ (K : Int) < (N : Int) := by omega
        go_wp2_with fail
        try rw [Exit.noGoto_ret]
        go_ret
        refine ⟨Or.inr ⟨HMB.out, _, l, rfl, ?_, HLL.out, HRL.out⟩, HB2.out.trans (HB.out.mono HB2.out.size)⟩
        have := HP.out.2
        rw [hKN, ← HN.out, List.drop_length] at this
        show Sl _ _ _
        rw [← this, show deads l [] t.rules.length = [] from rfl, List.append_nil]
        exact Sl.owns HO.out
      | succ go =>
        obtain ⟨wx, rfl⟩ : ∃ x, x = wr := ⟨_, rfl⟩
        have hltI : (K : Int) < (N : Int) := by omega
        obtain ⟨r, hr⟩ : ∃ r, t.rules[K]? = some r := ⟨_, List.getElem?_eq_getElem (by rw [HN.out]; omega)⟩
        have hda := deads_at l t.rules K r hr
        have HDA := Lib.hid hda
        have HRA := Lib.hid hr
        have hwK := wrap_next K (by omega)
        have HKG := Lib.hid hKg
        clear hda hr hKg
        go_wp2_with fail
        go_loopg [21] S (fun g2 s21 wy => ∃ (J : Nat), J + g2 = S ∧ s21 = .int .i64 (J : Int) ∧ Hid (liveTo l r J g2 = lives l r) ∧ Hid (Below wx.heap.size wx wy))
        case atStart => exact ⟨0, by omega, rfl, Lib.hid (by unfold lives; rw [HS.out]), Lib.hid (Below.refl _ _)⟩
        case round =>
          obtain ⟨J, hJg, rfl, HJ, HBJ⟩ := hrel
          have hb2 := HB.out.trans (HBJ.out.mono HB.out.size)
          have HBY := Lib.hid hb2
          have p0 := kept_cell hb2 q0
          have p1 := kept_cell hb2 q1
          have p2 := kept_cell hb2 q2
          have p3 := kept_cell hb2 q3
          cases gk with
          | zero =>
            have hltJ : ¬ (J : Int) < (S : Int) := by omega
            have hHJ : lives l r = false := by rw [← HJ.out]; rfl
            have HH := Lib.hid hHJ
            obtain ⟨n, hn⟩ : ∃ n, pre.length = n := ⟨_, rfl⟩
            have hown := own_kept HO.out HBJ.out
            have hn12 : n ≤ 12 := by have := HP.out.1; have := HKG.out; omega
            rw [hn] at hown
            have HON := Lib.hid hown
            have HNN := Lib.hid hn
            have hc4 : (n + 1) * 8 ≤ 140737488355328 := by omega
            have hc5 : w2.heap.size ≤ (wr.alloc (.cells #[.int .i64 (K : Int)] 3)).heap.size := by have := hb2.size; simp; omega
            have HC4 := Lib.hid hc4
            have HC5 := Lib.hid hc5
            clear hHJ hb2 hown hn hc4 hc5 HO HJ HBJ hJg
            go_wp2_with (at_builtin; refine wpList_append_own _ rfl _ _ 23 rfl w2.heap.size 3 i0 (.int .i64 0) 1 8 Tryd.underlying23 hi hz0 hz1 hz2 rfl (by decide) _ _ _ rfl (HON.out.alloc _) ⟨wr.heap.size, 0, none⟩ 1 1 [.int .i64 (K : Int)] rfl rfl (one_new _ _ _) (one_cell _ _) (by unfold maxLen; omega) HC4.out HC5.out ?_; intro v' w5 hown' hgrow hnn; clear hnn)
            have hb5 := (HBY.out.alloc HBY.out.size (.cells #[.int .i64 (K : Int)] 3)).grown hgrow HC5.out (owns_block HON.out)
            have HB5 := Lib.hid hb5
            have HO5 := Lib.hid hown'
            clear hb5 hgrow hown' HC4 HC5 HON
            go_wp2_with fail
            go_roundg go
            case measure => omega
            case rel =>
              have hp := HP.out
              have hda := HDA.out
              rw [if_neg (by rw [HH.out]; decide)] at hda
              refine ⟨K + 1, pre ++ [(K : Int)], by have := HKG.out; omega, by go_num, Lib.hid ⟨by rw [List.length_append]; simp; omega, ?_⟩, Lib.hid ?_, HB5⟩
              · rw [List.append_assoc, ← hp.2, hda]; rfl
              · have := HO5.out
                rw [List.length_append, List.map_append, HNN.out]
                exact this
          | succ g2 =>
            have hltJ : (J : Int) < (S : Int) := by omega
            obtain ⟨B, hBl⟩ : ∃ B, l[J]? = some B := ⟨_, List.getElem?_eq_getElem (by rw [HS.out]; omega)⟩
            have hm : (l.map Value.bool)[J]? = some (.bool B) := by rw [List.getElem?_map, hBl]; rfl
            obtain ⟨b', off', ea, hc⟩ := HSL.out.at hm
            subst ea
            have pr := kept_cell hb2 hc
            have hwJ := wrap_next J (by omega)
            have hst : liveTo l r J (g2 + 1) = ((B && rlFor r J) || liveTo l r (J + 1) g2) := by
              show ((l.getD J false && rlFor r J) || liveTo l r (J + 1) g2) = _
              rw [getD_of hBl]
            rw [hst] at HJ
            have HJG := Lib.hid hJg
            cases B with
            | false =>
              rw [Bool.false_and, Bool.false_or] at HJ
              clear hm hc hst hb2 hJg hBl
              go_wp2_with fail
              go_roundg g2
              case measure => omega
              case rel => exact ⟨J + 1, by have := HJG.out; omega, by go_num, HJ, HBJ⟩
            | true =>
              have HFO := Lib.hid (for_any t c0 c1 c2 (.slice a3 N cap3) (K : Int) (J : Int) wr (HT.out.below (HB2.out.trans (hb2.mono HB2.out.size))) HW.out)
              rw [isFor_at t K J r (by rw [← HLL.out, HS.out]; omega) HRA.out] at HFO
              rw [Bool.true_and] at HJ
              obtain ⟨F, hF⟩ : ∃ F, rlFor r J = F := ⟨_, rfl⟩
              rw [hF] at HJ HFO
              clear hm hc hst hb2 hJg hBl hF
              cases F with
              | false =>
                rw [Bool.false_or] at HJ
                go_wp2_with fail
                refine HFO.out.mono ?_
                rintro _ w5 ⟨rfl, hb5⟩
                have HB5 := Lib.hid (HBJ.out.trans (hb5.mono HBJ.out.size))
                clear hb5
                go_wp2_with fail
                go_roundg g2
                case measure => omega
                case rel => exact ⟨J + 1, by have := HJG.out; omega, by go_num, HJ, HB5⟩
              | true =>
                rw [Bool.true_or] at HJ
                go_wp2_with fail
                refine HFO.out.mono ?_
                rintro _ w5 ⟨rfl, hb5⟩
                have HB5 := Lib.hid (HBJ.out.trans (hb5.mono HBJ.out.size))
                clear hb5
                go_wp2_with fail
                go_roundg go
                case measure => omega
                case rel =>
                  have hda := HDA.out
                  rw [if_pos (HJ.out.symm)] at hda
                  exact ⟨K + 1, pre, by have := HKG.out; omega, by go_num, Lib.hid ⟨by have := HP.out.1; omega, by rw [← HP.out.2, hda]⟩, Lib.hid (own_kept HO.out HB5.out), Lib.hid (HB.out.trans (HB5.out.mono HB.out.size))⟩
end Go.Proofs.YtfcdkjhabdpijaaDoor.R
