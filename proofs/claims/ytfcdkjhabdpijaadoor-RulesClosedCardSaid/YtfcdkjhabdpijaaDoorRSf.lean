/-
  Layer 5: contracts of the reference: lists of numbers that are the same; Dead.
-/
import Derived.Test.YtfcdkjhabdpijaaDoorRQd
import Derived.Test.YtfcdkjhabdpijaaDoorRRefR
import Derived.Deep.QuietTactic
import Derived.BigQuiet
namespace Go.Proofs.YtfcdkjhabdpijaaDoor.R
open Go Go.RowKit Go.Proofs.YtfcdkjhabdpijaaDoor.B Go.Proofs.YtfcdkjhabdpijaaDoor.K Go.Proofs.YtfcdkjhabdpijaaDoor.E
set_option linter.unusedVariables false

set_option maxHeartbeats 1000000 in
theorem refInts_same (v v' : Value) (xs : List Int) (w : World) (hn : xs.length ≤ 4611686018427387904) (h : Sl w v (xs.map (Value.int .i64))) (h' : Sl w v' (xs.map (Value.int .i64))) :
    Calls Tryd.prog 20 #[v, v'] w fun e w' => e = .returned (.bool true) ∧ Below w.heap.size w w' := by
  obtain ⟨a, cap, rfl, hc⟩ := h
  obtain ⟨a', cap', rfl, hc'⟩ := h'
  rw [List.length_map]
  have hnn : ((xs.length : Int) != (xs.length : Int)) = false := by simp
  have HC := Lib.hid hc; clear hc
  have HC' := Lib.hid hc'; clear hc'
  obtain ⟨n, hN⟩ : ∃ n, xs.length = n := ⟨_, rfl⟩
  rw [hN] at hn hnn ⊢
  have HN := Lib.hid hN; clear hN
  go_enter Tryd.func20, Tryd.ntmps20
  go_wp2_with fail
  go_loopw [5] (fun i wr => ∃ k : Nat, k ≤ n ∧ i = .int .i64 (k : Int) ∧ Below w.heap.size w wr) (fun i _ => n - (intOf i).toNat)
  case atStart => exact ⟨0, Nat.zero_le _, rfl, Below.refl _ _⟩
  case round =>
    obtain ⟨k, hk, rfl, hbel⟩ := hrel
    by_cases hlt : k < n
    · obtain ⟨x, hx⟩ : ∃ x, xs[k]? = some x := ⟨_, List.getElem?_eq_getElem (by rw [HN.out]; exact hlt)⟩
      obtain ⟨b, off, rfl, hcell⟩ := HC.out k (.int .i64 x) (by rw [List.getElem?_map, hx]; rfl)
      obtain ⟨b', off', rfl, hcell'⟩ := HC'.out k (.int .i64 x) (by rw [List.getElem?_map, hx]; rfl)
      have hc1 : wr.cell? ⟨b, off + k, none⟩ = some (.int .i64 x) := (hbel.cell (World.block_lt_of_cell? w _ hcell)).trans hcell
      have hc2 : wr.cell? ⟨b', off' + k, none⟩ = some (.int .i64 x) := (hbel.cell (World.block_lt_of_cell? w _ hcell')).trans hcell'
      have hltI : (k : Int) < (n : Int) := by omega
      have hk0 : 0 ≤ (k : Int) := by omega
      have hxx : (x != x) = false := by simp
      clear hcell hcell' hx
      go_wp2_with fail
      go_quiet (fail)
      go_wp2_with fail
      go_roundw
      case rel => exact ⟨k + 1, by omega, by go_num, below_drewN hbel _⟩
      case measure => simp [intOf]; omega
    · have hltI : ¬ (k : Int) < (n : Int) := by omega
      go_wp2_with fail
      go_ret
      exact ⟨rfl, hbel⟩

/-- What the reference's Dead tells. -/
def RDeadIs (t : Tb) (e : Ending) (w' : World) : Prop := ∃ (v : Value) (l : List Bool), e = .returned v ∧ SlN w' v (deads l t.rules 0) ∧ l.length = t.states.length ∧ ∀ s, l.getD s false = true ↔ Reached t s

set_option maxHeartbeats 4000000 in
set_option maxRecDepth 100000 in
theorem refDead_any (t : Tb) (c0 c1 c2 c3 : Value) (w : World) (h : TbIs w [c0, c1, c2, c3] t) (hw : TbWf t) (hF : Fine t) :
    Calls Tryd.prog 21 #[.agg #[c0, c1, c2, c3]] w fun e w' => RDeadIs t e w' ∧ Below w.heap.size w w' := by
  have HR0 := Lib.hid (fun (W : World) (hb : Below w.heap.size w W) => refReach_any t c0 c1 c2 c3 W (h.below hb) hw hF.ranged hF.states.2)
  have HT := Lib.hid h
  have h12 := hF.rules
  obtain ⟨i0, hi, hz0, hz1, hz2⟩ := info_parts infoI
  obtain ⟨d0, d1, d2, d3, e, h0, h1, h2, h3⟩ := h
  cases e
  obtain ⟨a3, cap3, rfl, h3⟩ := h3.open
  obtain ⟨N, hN⟩ : ∃ N, t.rules.length = N := ⟨_, rfl⟩
  rw [hN] at HR0 HT h12 ⊢
  obtain ⟨W0, hW0⟩ : ∃ W0, w.alloc (.cells #[c0, c1, c2, .slice a3 N cap3] 26) = W0 := ⟨_, rfl⟩
  have hB0 : Below w.heap.size w W0 := by rw [← hW0]; exact below_alloc _ _
  have q0 : W0.cell? ⟨w.heap.size, 0, none⟩ = some c0 := by rw [← hW0]; exact box_cell _ _ _ _ _ rfl
  have q1 : W0.cell? ⟨w.heap.size, 1, none⟩ = some c1 := by rw [← hW0]; exact box_cell _ _ _ _ _ rfl
  have q2 : W0.cell? ⟨w.heap.size, 2, none⟩ = some c2 := by rw [← hW0]; exact box_cell _ _ _ _ _ rfl
  have q3 : W0.cell? ⟨w.heap.size, 3, none⟩ = some (.slice a3 N cap3) := by rw [← hW0]; exact box_cell _ _ _ _ _ rfl
  have HB0 := Lib.hid hB0
  have HR1 := Lib.hid (HR0.out W0 hB0)
  have HW := Lib.hid hw
  have HN := Lib.hid hN
  have HS8 := Lib.hid hF.states.2
  clear hB0 hw h3 h1 h2 h0 hN hF HR0
  go_enter Tryd.func21, Tryd.ntmps21
  go_wp2_with fail
  refine HR1.out.mono ?_
  rintro e w2 ⟨⟨v, l, rfl, hsl, hll, hrl⟩, hb⟩
  have HB2 := Lib.hid (HB0.out.trans (hb.mono HB0.out.size))
  have q0 := kept_cell hb q0
  have q1 := kept_cell hb q1
  have q2 := kept_cell hb q2
  have q3 := kept_cell hb q3
  have HSL := Lib.hid hsl
  have HRL := Lib.hid hrl
  have HLL := Lib.hid hll
  obtain ⟨av, capv, rfl⟩ := sl_len hsl
  rw [List.length_map] at HSL ⊢
  obtain ⟨S, hS⟩ : ∃ S, l.length = S := ⟨_, rfl⟩
  rw [hS] at HSL ⊢
  have HS := Lib.hid hS
  have hS8 : S ≤ 8 := by rw [← hS, hll]; exact HS8.out
  clear hb hsl hrl hll hS HB0 HR1 hW0
  go_wp2_with fail
  go_loopw [4, 5] (fun s4 s5 wx => ∃ (K : Nat) (pre : List Int), s5 = .int .i64 (K : Int) ∧ K ≤ N ∧ Hid (pre.length ≤ K ∧ pre ++ deads l (t.rules.drop K) K = deads l t.rules 0) ∧ Hid (wx.ownsRow w2.heap.size 3 1 s4 pre.length (pre.map (Value.int .i64))) ∧ Hid (Below w2.heap.size w2 wx)) (fun _ s5 _ => N - (intOf s5).toNat)
  case atStart => exact ⟨0, [], rfl, Nat.zero_le _, Lib.hid ⟨Nat.le_refl _, rfl⟩, Lib.hid (World.ownsRow_nil _ _ _ _), Lib.hid (Below.refl _ _)⟩
  case round =>
    obtain ⟨K, pre, rfl, hK, HP, HO, HB⟩ := hrel
    have p3 := kept_cell HB.out q3
    by_cases hlt : K < N
    · have hltI : (K : Int) < (N : Int) := by omega
      obtain ⟨r, hr⟩ : ∃ r, t.rules[K]? = some r := ⟨_, List.getElem?_eq_getElem (by rw [HN.out]; omega)⟩
      have hda := deads_at l t.rules K r hr
      have HDA := Lib.hid hda
      have HRA := Lib.hid hr
      have hwK := wrap_next K (by omega)
      obtain ⟨wx, rfl⟩ : ∃ x, x = wr := ⟨_, rfl⟩
      clear hda hr
      go_wp2_with fail
      go_loopw [6, 7] (fun s6 s7 wy => ∃ (J : Nat) (B : Bool), s6 = .bool B ∧ s7 = .int .i64 (J : Int) ∧ J ≤ S ∧ Hid ((B || liveTo l r J (S - J)) = lives l r) ∧ Hid (Below wx.heap.size wx wy)) (fun _ s7 _ => S - (intOf s7).toNat)
      case atStart => exact ⟨0, false, rfl, rfl, Nat.zero_le _, Lib.hid (by unfold lives; rw [HS.out]; rfl), Lib.hid (Below.refl _ _)⟩
      case round =>
        obtain ⟨J, B, rfl, rfl, hJ, HJ, HBJ⟩ := hrel
        have hb2 := HB.out.trans (HBJ.out.mono HB.out.size)
        have HBY := Lib.hid hb2
        clear p3
        have p0 := kept_cell hb2 q0
        have p1 := kept_cell hb2 q1
        have p2 := kept_cell hb2 q2
        have p3 := kept_cell hb2 q3
        by_cases hltJ : J < S
        · have hltJI : (J : Int) < (S : Int) := by omega
          obtain ⟨C, hCl⟩ : ∃ C, l[J]? = some C := ⟨_, List.getElem?_eq_getElem (by rw [HS.out]; omega)⟩
          have hm : (l.map Value.bool)[J]? = some (.bool C) := by rw [List.getElem?_map, hCl]; rfl
          obtain ⟨b', off', ea, hc⟩ := HSL.out.at hm
          subst ea
          have pr := kept_cell hb2 hc
          have hwJ := wrap_next J (by omega)
          have hst : liveTo l r J (S - J) = ((C && rlFor r J) || liveTo l r (J + 1) (S - (J + 1))) := by
            rw [show S - J = (S - (J + 1)) + 1 by omega]
            show ((l.getD J false && rlFor r J) || liveTo l r (J + 1) (S - (J + 1))) = _
            rw [getD_of hCl]
          rw [hst] at HJ
          have HFO := Lib.hid (refFor_any t c0 c1 c2 (.slice a3 N cap3) (K : Int) (J : Int) wr (HT.out.below (HB2.out.trans (hb2.mono HB2.out.size))) HW.out)
          rw [isFor_at t K J r (by rw [← HLL.out, HS.out]; omega) HRA.out] at HFO
          obtain ⟨F, hF⟩ : ∃ F, rlFor r J = F := ⟨_, rfl⟩
          rw [hF] at HJ HFO
          clear hm hc hst hb2 hCl hF
          cases B with
          | true =>
            have HJ2 := Lib.hid (show (true || liveTo l r (J + 1) (S - (J + 1))) = lives l r from HJ.out)
            clear HJ HFO
            go_wp2_with fail
            exact ⟨⟨J + 1, true, rfl, by go_num, by omega, HJ2, HBJ⟩, by simp [intOf]; omega⟩
          | false =>
            cases C with
            | false =>
              have HJ2 := Lib.hid (show (false || liveTo l r (J + 1) (S - (J + 1))) = lives l r by have := HJ.out; rw [Bool.false_and, Bool.false_or] at this; exact this)
              clear HJ HFO
              go_wp2_with fail
              exact ⟨⟨J + 1, false, rfl, by go_num, by omega, HJ2, HBJ⟩, by simp [intOf]; omega⟩
            | true =>
              have HJ2 := Lib.hid (show (F || liveTo l r (J + 1) (S - (J + 1))) = lives l r by have := HJ.out; rw [Bool.true_and, Bool.false_or] at this; exact this)
              clear HJ
              go_wp2_with fail
              refine HFO.out.mono ?_
              rintro _ w5 ⟨rfl, hb5⟩
              have HB5 := Lib.hid (HBJ.out.trans (hb5.mono HBJ.out.size))
              clear hb5
              go_wp2_with fail
              exact ⟨⟨J + 1, F, rfl, by go_num, by omega, HJ2, HB5⟩, by simp [intOf]; omega⟩
        · have hltJI : ¬ (J : Int) < (S : Int) := by omega
          have e : J = S := by omega
          have HBl := Lib.hid (show B = lives l r by have := HJ.out; rw [e, Nat.sub_self, show liveTo l r S 0 = false from rfl, Bool.or_false] at this; exact this)
          have hda := HDA.out
          cases B with
          | true =>
            rw [if_pos HBl.out.symm] at hda
            have HP2 := Lib.hid (show pre.length ≤ K + 1 ∧ pre ++ deads l (t.rules.drop (K + 1)) (K + 1) = deads l t.rules 0 from ⟨by have := HP.out.1; omega, by rw [← HP.out.2, hda]⟩)
            have HO2 := Lib.hid (own_kept HO.out HBJ.out)
            clear hda hb2
            go_wp2_with fail
            exact ⟨⟨K + 1, pre, by go_num, by omega, HP2, HO2, HBY⟩, by simp [intOf]; omega⟩
          | false =>
            rw [if_neg (by rw [← HBl.out]; decide)] at hda
            obtain ⟨n, hn⟩ : ∃ n, pre.length = n := ⟨_, rfl⟩
            have hown := own_kept HO.out HBJ.out
            have hn12 : n ≤ 12 := by have := HP.out.1; omega
            have HP2 := Lib.hid (show (pre ++ [(K : Int)]).length ≤ K + 1 ∧ (pre ++ [(K : Int)]) ++ deads l (t.rules.drop (K + 1)) (K + 1) = deads l t.rules 0 from ⟨by rw [List.length_append]; have := HP.out.1; simp; omega, by rw [List.append_assoc, ← HP.out.2, hda]; rfl⟩)
            rw [hn] at hown
            have HON := Lib.hid hown
            have HNN := Lib.hid hn
            have hc4 : (n + 1) * 8 ≤ 140737488355328 := by omega
            have hc5 : w2.heap.size ≤ (wr.alloc (.cells #[.int .i64 (K : Int)] 3)).heap.size := by have := hb2.size; simp; omega
            have HC4 := Lib.hid hc4
            have HC5 := Lib.hid hc5
            clear hda hb2 hown hn hc4 hc5 HO HJ HBJ HP HBl
            go_wp2_with (at_builtin; refine wpList_append_own _ rfl _ _ 23 rfl w2.heap.size 3 i0 (.int .i64 0) 1 8 Tryd.underlying23 hi hz0 hz1 hz2 rfl (by decide) _ _ _ rfl (HON.out.alloc _) ⟨wr.heap.size, 0, none⟩ 1 1 [.int .i64 (K : Int)] rfl rfl (one_new _ _ _) (one_cell _ _) (by unfold maxLen; omega) HC4.out HC5.out ?_; intro v' w5 hown' hgrow hnn; clear hnn)
            have hb5 := (HBY.out.alloc HBY.out.size (.cells #[.int .i64 (K : Int)] 3)).grown hgrow HC5.out (owns_block HON.out)
            have HB5 := Lib.hid hb5
            have HO5 := Lib.hid hown'
            clear hb5 hgrow hown' HC4 HC5 HON
            go_wp2_with fail
            refine ⟨⟨K + 1, pre ++ [(K : Int)], by go_num, by omega, HP2, Lib.hid ?_, HB5⟩, by simp [intOf]; omega⟩
            have := HO5.out
            rw [List.length_append, List.map_append, HNN.out]
            exact this
    · have hltI : ¬ (K : Int) < (N : Int) := by omega
      have e : K = N := by omega
      go_wp2_with fail
      go_ret
      refine ⟨⟨_, l, rfl, ?_, HLL.out, HRL.out⟩, HB2.out.trans (HB.out.mono HB2.out.size)⟩
      have := HP.out.2
      rw [e, ← HN.out, List.drop_length] at this
      show Sl _ _ _
      rw [← this, show deads l [] t.rules.length = [] from rfl, List.append_nil]
      exact Sl.owns HO.out
end Go.Proofs.YtfcdkjhabdpijaaDoor.R
