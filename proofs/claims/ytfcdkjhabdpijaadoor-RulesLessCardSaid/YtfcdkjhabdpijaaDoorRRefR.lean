/-
  Layer 5: contracts of the reference: Reach.
-/
import Derived.Test.YtfcdkjhabdpijaaDoorRMa
namespace Go.Proofs.YtfcdkjhabdpijaaDoor.R
open Go Go.RowKit Go.Proofs.YtfcdkjhabdpijaaDoor.B Go.Proofs.YtfcdkjhabdpijaaDoor.K Go.Proofs.YtfcdkjhabdpijaaDoor.E
set_option linter.unusedVariables false

/-- How the world stands behind a few steps of Reach. -/
def St (w : World) (g : Nat) (cs : Array Value) (l : List Bool) (wr : World) : Prop :=
  Below w.heap.size w wr ∧ wr.heap[w.heap.size]? = some (.cells cs 26 (0, 0)) ∧ wr.heap[g]? = some (.cells (l.map Value.bool).toArray 4 (0, 0)) ∧ w.heap.size < g

theorem heap_alloc_old (w : World) (o : Obj) (i : Nat) (h : i < w.heap.size) : (w.alloc o).heap[i]? = w.heap[i]? := by
  show (w.heap.push o)[i]? = _
  rw [Array.getElem?_push_lt h, Array.getElem?_eq_getElem h]

section
variable {w wr wq : World} {g : Nat} {cs : Array Value} {l : List Bool}
theorem St.cell (h : St w g cs l wr) (i : Nat) (v : Value) (hv : cs[i]? = some v) : wr.cell? ⟨w.heap.size, i, none⟩ = some v := by
  unfold World.cell?; rw [h.2.1]; exact hv
theorem St.read (h : St w g cs l wr) (i : Nat) (B : Bool) (hv : l[i]? = some B) : wr.cell? ⟨g, i, none⟩ = some (.bool B) := by
  unfold World.cell?; rw [h.2.2.1]; simp [hv]
theorem St.store (h : St w g cs l wr) {k : Nat} (hk : k < l.length) : ∃ old, wr.cell? ⟨g, k, none⟩ = some old ∧ wr.frozen? ⟨g, k, none⟩ = false :=
  row_cell h.2.2.1 (by simpa using hk)
theorem St.call (h : St w g cs l wr) (hb : Below wr.heap.size wr wq) : St w g cs l wq :=
  ⟨h.1.trans (hb.mono h.1.size), (hb.block _ (Array.getElem?_eq_some_iff.1 h.2.1).1).trans h.2.1, (hb.block _ (Array.getElem?_eq_some_iff.1 h.2.2.1).1).trans h.2.2.1, h.2.2.2⟩
theorem St.set (h : St w g cs l wr) (k : Nat) : St w g cs (l.set k true) (wr.setCell ⟨g, k, none⟩ (.bool true)) := by
  refine ⟨?_, ?_, ?_, h.2.2.2⟩
  · exact h.1.setCell (p := ⟨g, k, none⟩) (Nat.le_of_lt h.2.2.2) _
  · rw [heap_setCell_other wr ⟨g, k, none⟩ w.heap.size _ (Nat.ne_of_lt h.2.2.2)]; exact h.2.1
  · rw [heap_setCell_same wr g k _ _ _ h.2.2.1, List.map_set]; simp
end

/-- What it tells. -/
def ReachIs (t : Tb) (e : Ending) (w' : World) : Prop := ∃ (v : Value) (l : List Bool), e = .returned v ∧ Sl w' v (l.map Value.bool) ∧ l.length = t.states.length ∧ ∀ s, l.getD s false = true ↔ Reached t s

theorem make_bools (S : Nat) (h0 : 0 < S) (h8 : S ≤ 8) : ∀ w : World, (Instr.makeSlice 42 (.int .i64 (S : Int)) (.int .i64 (S : Int))).run Tryd.prog w = .ok (.slice (some ⟨w.heap.size, 0, none⟩) S S) (w.alloc (.cells (Array.replicate S (.bool false)) 4)) := by
  intro w
  rcases (show S = 1 ∨ S = 2 ∨ S = 3 ∨ S = 4 ∨ S = 5 ∨ S = 6 ∨ S = 7 ∨ S = 8 by omega) with rfl | rfl | rfl | rfl | rfl | rfl | rfl | rfl <;> kernel_rfl

set_option maxHeartbeats 2000000 in
set_option maxRecDepth 100000 in
theorem refReach_any (t : Tb) (c0 c1 c2 c3 : Value) (w : World) (h : TbIs w [c0, c1, c2, c3] t) (hw : TbWf t) (hR : Ranged t) (h8 : t.states.length ≤ 8) :
    Calls Tryd.prog 19 #[.agg #[c0, c1, c2, c3]] w fun e w' => ReachIs t e w' ∧ Below w.heap.size w w' := by
  have HT := Lib.hid h
  have HW := Lib.hid hw
  have HRG := Lib.hid hR
  obtain ⟨d0, d1, d2, d3, e, h0, h1, h2, h3⟩ := h
  cases e
  have HR := Lib.hid h3
  obtain ⟨a0, cap0, rfl, -⟩ := h0
  obtain ⟨a3, cap3, rfl, -⟩ := h3
  have hl3 : t.rules.length ≤ 9223372036854775807 := hw.2.2.2.2
  have h1S := hR.1
  rw [List.length_map] at HT ⊢
  obtain ⟨S, hS⟩ : ∃ S, t.states.length = S := ⟨_, rfl⟩
  obtain ⟨N, hN⟩ : ∃ N, t.rules.length = N := ⟨_, rfl⟩
  rw [hS] at h8 h1S HT ⊢
  rw [hN] at hl3 HR HT ⊢
  have HSS := Lib.hid hS
  have HNN := Lib.hid hN
  have HL3 := Lib.hid hl3
  have hS0 : (0 : Int) < (S : Int) := by omega
  have hmk0 := make_bools S h1S h8
  obtain ⟨W, hW⟩ : ∃ W, (w.alloc (.cells #[.slice a0 S cap0, c1, c2, .slice a3 N cap3] 26)) = W := ⟨_, rfl⟩
  have hWt : W.heap[w.heap.size]? = some (.cells #[.slice a0 S cap0, c1, c2, .slice a3 N cap3] 26) := by rw [← hW]; exact heap_alloc_at _ _
  have hBW : Below w.heap.size w W := by rw [← hW]; exact (Below.refl w.heap.size w).alloc (Nat.le_refl _) _
  have t0 : W.cell? ⟨w.heap.size, 0, none⟩ = some (.slice a0 S cap0) := by unfold World.cell?; rw [hWt]; rfl
  have hgt : w.heap.size < W.heap.size := (Array.getElem?_eq_some_iff.1 hWt).1
  have hmk := hmk0 W
  clear hmk0
  obtain ⟨V, hV⟩ : ∃ V, W.alloc (.cells (Array.replicate S (.bool false)) 4) = V := ⟨_, rfl⟩
  have hVr : V.heap[W.heap.size]? = some (.cells (Array.replicate S (.bool false)) 4) := by rw [← hV]; exact heap_alloc_at _ _
  have hVt : V.heap[w.heap.size]? = W.heap[w.heap.size]? := by rw [← hV]; exact heap_alloc_old _ _ _ hgt
  have hBV : Below w.heap.size w V := by rw [← hV]; exact hBW.alloc hBW.size _
  rw [hV] at hmk
  obtain ⟨g, hg⟩ : ∃ g, W.heap.size = g := ⟨_, rfl⟩
  rw [hg] at hgt hmk hVr
  have HST : Hid (St w g #[.slice a0 S cap0, c1, c2, .slice a3 N cap3] (List.replicate S false) V) := Lib.hid ⟨hBV, hVt.trans hWt, by rw [hVr]; simp, hgt⟩
  obtain ⟨q0, q1, q2⟩ := HST.out.store (k := 0) (by rw [List.length_replicate]; exact h1S)
  clear hg hV hVr hVt hBV hgt hWt hBW
  clear h1 h2 hw hR hS hN hl3
  go_enter Tryd.func19, Tryd.ntmps19
  go_wp2_with fail
  clear hmk q1 q2 t0
  obtain ⟨l0, hl0⟩ : ∃ l0, (List.replicate S false).set 0 true = l0 := ⟨_, rfl⟩
  have H0 := Lib.hid (HST.out.set 0)
  rw [hl0] at H0
  have hlen0 : l0.length = S := by rw [← hl0]; simp
  have hE := reach_end HRG.out l0 (by rw [HSS.out]; exact hl0.symm)
  rw [HSS.out] at hE
  obtain ⟨E, hEE⟩ : ∃ E, rnds t.rules S S l0 = E := ⟨_, rfl⟩
  rw [hEE] at hE
  have HE := Lib.hid hE
  clear HST hl0 hE
  go_loopw [4] (fun i wr => ∃ (K : Nat) (l : List Bool), i = .int .i64 (K : Int) ∧ K ≤ S ∧ Hid (St w g #[.slice a0 S cap0, c1, c2, .slice a3 N cap3] l wr) ∧ Hid (l.length = S) ∧ Hid (rnds t.rules S (S - K) l = E)) (fun k _ => S - (intOf k).toNat)
  case atStart => exact ⟨0, l0, rfl, Nat.zero_le _, H0, Lib.hid hlen0, Lib.hid (by rw [Nat.sub_zero]; exact hEE)⟩
  case round =>
    obtain ⟨K, l, rfl, hK, HT1, HL1, HE1⟩ := hrel
    have t0 : wr.cell? ⟨w.heap.size, 0, none⟩ = some (.slice a0 S cap0) := HT1.out.cell 0 _ rfl
    by_cases hlt : K < S
    · have hltI : (K : Int) < (S : Int) := by omega
      have hwK : IntKind.i64.wrap ((K : Int) + 1) = (K : Int) + 1 := IntWalk.i64_in _ (by omega)
      go_wp2_with fail
      go_loopw [5] (fun i wr => ∃ (J : Nat) (l : List Bool), i = .int .i64 (J : Int) ∧ J ≤ S ∧ Hid (St w g #[.slice a0 S cap0, c1, c2, .slice a3 N cap3] l wr) ∧ Hid (l.length = S) ∧ Hid (rnds t.rules S (S - (K + 1)) ((List.range' J (S - J)).foldl (updS t.rules) l) = E)) (fun k _ => S - (intOf k).toNat)
      case atStart => 
        refine ⟨0, l, rfl, Nat.zero_le _, HT1, HL1, Lib.hid ?_⟩
        rw [← HE1.out, show S - K = (S - (K + 1)) + 1 by omega]
        rw [show rnds t.rules S (S - (K + 1) + 1) l = rnds t.rules S (S - (K + 1)) (rnd t.rules S l) from rfl]
        unfold rnd
        rw [List.range_eq_range', Nat.sub_zero]
      case round =>
        clear HT1 HL1 HE1 t0
        obtain ⟨J, l, rfl, hJ, HT1, HL1, HE1⟩ := hrel
        have t0 : wr.cell? ⟨w.heap.size, 0, none⟩ = some (.slice a0 S cap0) := HT1.out.cell 0 _ rfl
        have t3 : wr.cell? ⟨w.heap.size, 3, none⟩ = some (.slice a3 N cap3) := HT1.out.cell 3 _ rfl
        by_cases hlt2 : J < S
        · have hltI2 : (J : Int) < (S : Int) := by omega
          have hwJ : IntKind.i64.wrap ((J : Int) + 1) = (J : Int) + 1 := IntWalk.i64_in _ (by omega)
          go_wp2_with fail
          go_loopw [6] (fun i wr => ∃ (M : Nat) (l : List Bool), i = .int .i64 (M : Int) ∧ M ≤ N ∧ Hid (St w g #[.slice a0 S cap0, c1, c2, .slice a3 N cap3] l wr) ∧ Hid (l.length = S) ∧ Hid (rnds t.rules S (S - (K + 1)) ((List.range' (J + 1) (S - (J + 1))).foldl (updS t.rules) ((t.rules.drop M).foldl (fun l r => upd l J r) l)) = E)) (fun k _ => N - (intOf k).toNat)
          case atStart =>
            refine ⟨0, l, rfl, Nat.zero_le _, HT1, HL1, Lib.hid ?_⟩
            rw [← HE1.out, show S - J = (S - (J + 1)) + 1 by omega, List.range'_succ, List.foldl_cons]
            rfl
          case round =>
            clear HT1 HL1 HE1 t0 t3
            obtain ⟨M, l, rfl, hM, HT1, HL1, HE1⟩ := hrel
            have t0 : wr.cell? ⟨w.heap.size, 0, none⟩ = some (.slice a0 S cap0) := HT1.out.cell 0 _ rfl
            have t3 : wr.cell? ⟨w.heap.size, 3, none⟩ = some (.slice a3 N cap3) := HT1.out.cell 3 _ rfl
            by_cases hlt3 : M < N
            · have hltI3 : (M : Int) < (N : Int) := by omega
              have hwM : IntKind.i64.wrap ((M : Int) + 1) = (M : Int) + 1 := IntWalk.i64_in _ (by have := HL3.out; omega)
              obtain ⟨r, hr⟩ : ∃ r, t.rules[M]? = some r := ⟨_, List.getElem?_eq_getElem (by rw [HNN.out]; exact hlt3)⟩
              obtain ⟨B, hB⟩ : ∃ B, l[J]? = some B := ⟨_, List.getElem?_eq_getElem (by rw [HL1.out]; exact hlt2)⟩
              have hd : (t.rules.drop M).foldl (fun l r => upd l J r) l = (t.rules.drop (M + 1)).foldl (fun l r => upd l J r) (upd l J r) := by
                obtain ⟨hk, e⟩ := List.getElem?_eq_some_iff.1 hr
                rw [List.drop_eq_getElem_cons hk, e]; rfl
              rw [hd] at HE1
              have hgB : l.getD J false = B := by rw [List.getD_eq_getElem?_getD, hB]; rfl
              have kB := HT1.out.read J B hB
              clear hd
              cases B with
              | false =>
                have hu : upd l J r = l := by unfold upd; rw [hgB]; rfl
                rw [hu] at HE1
                clear hu hgB hB hr
                go_wp2_with fail
                exact ⟨⟨M + 1, l, by go_num, by omega, HT1, HL1, HE1⟩, by simp [intOf]; omega⟩
              | true =>
                have t1 : wr.cell? ⟨w.heap.size, 1, none⟩ = some c1 := HT1.out.cell 1 _ rfl
                have t2 : wr.cell? ⟨w.heap.size, 2, none⟩ = some c2 := HT1.out.cell 2 _ rfl
                have HF := Lib.hid (refFor_any t _ _ _ _ (M : Int) (J : Int) wr (HT.out.below HT1.out.1) HW.out)
                rw [isFor_at t M J r (by rw [HSS.out]; exact hlt2) hr] at HF
                have HR1 := Lib.hid hr
                clear hB hr
                go_wp2_with fail
                refine HF.out.mono ?_
                rintro _ w2 ⟨rfl, b2⟩
                have HT2 := Lib.hid (HT1.out.call b2)
                clear HF HT1 b2 t0 t1 t2 t3 kB
                cases hfr : rlFor r (J : Int) with
                | false =>
                  have hu : upd l J r = l := by unfold upd; rw [hgB, hfr]; rfl
                  rw [hu] at HE1
                  clear hu hgB hfr
                  go_wp2_with fail
                  exact ⟨⟨M + 1, l, by go_num, by omega, HT2, HL1, HE1⟩, by simp [intOf]; omega⟩
                | true =>
                  have t3 : w2.cell? ⟨w.heap.size, 3, none⟩ = some (.slice a3 N cap3) := HT2.out.cell 3 _ rfl
                  obtain ⟨b, off, ea, cs, -, hrl, hc⟩ := HR.out.at HR1.out
                  subst ea
                  have hrr := List.mem_of_getElem? HR1.out
                  have hrng := toOf_range HRG.out hrr (s := J) (by rw [HSS.out]; exact hlt2)
                  rw [HSS.out] at hrng
                  obtain ⟨q, hq⟩ : ∃ q : Nat, toOf r (J : Int) = (q : Int) := ⟨(toOf r (J : Int)).toNat, by omega⟩
                  have hqS : q < S := by omega
                  have hu : upd l J r = l.set q true := by unfold upd; rw [hgB, hfr, hq, Int.toNat_natCast]; rfl
                  rw [hu] at HE1
                  have hrl2 := hrl.below HT2.out.1
                  obtain ⟨f, gg, st, rfl, _, _, _⟩ := hrl
                  have HTO := Lib.hid (refTo_any r _ _ _ _ _ (J : Int) w2 hrl2 (HW.out.2.2.2.1 r hrr))
                  rw [hq] at HTO
                  have k0 : w2.cell? ⟨b, off + M * 5, none⟩ = some (.string (str r.name)) := kept_cell HT2.out.1 (hc 0 _ rfl)
                  have k1 := kept_cell HT2.out.1 (hc 1 _ rfl)
                  have k2 := kept_cell HT2.out.1 (hc 2 _ rfl)
                  have k3 := kept_cell HT2.out.1 (hc 3 _ rfl)
                  have k4 := kept_cell HT2.out.1 (hc 4 _ rfl)
                  unfold sv at HTO
                  have HQS := Lib.hid hqS
                  clear hu hgB hfr hrl2 hc hrr hrng hq hqS
                  go_wp2_with fail
                  refine HTO.out.mono ?_
                  rintro _ w3 ⟨rfl, b3⟩
                  have HT3 := Lib.hid (HT2.out.call b3)
                  obtain ⟨z0, z1, z2⟩ := HT3.out.store (k := q) (by rw [HL1.out]; exact HQS.out)
                  have hq1 : (q : Int) < (S : Int) := by have := HQS.out; omega
                  have hq2 : q < S := HQS.out
                  clear HTO HT2 b3 k0 k1 k2 k3 k4 t3
                  go_wp2_with fail
                  exact ⟨⟨M + 1, l.set q true, by go_num, by omega, Lib.hid (HT3.out.set q), Lib.hid (by rw [List.length_set]; exact HL1.out), HE1⟩, by simp [intOf]; omega⟩
            · have hltI3 : ¬ (M : Int) < (N : Int) := by omega
              have e : M = N := by omega
              go_wp2_with fail
              refine ⟨⟨J + 1, l, by go_num, by omega, HT1, HL1, Lib.hid ?_⟩, by simp [intOf]; omega⟩
              rw [← HE1.out, e, ← HNN.out, List.drop_length]; rfl
        · have hltI2 : ¬ (J : Int) < (S : Int) := by omega
          have e : J = S := by omega
          go_wp2_with fail
          refine ⟨⟨K + 1, l, by go_num, by omega, HT1, HL1, Lib.hid ?_⟩, by simp [intOf]; omega⟩
          rw [← HE1.out, e, Nat.sub_self]; rfl
    · have hltI : ¬ (K : Int) < (S : Int) := by omega
      have e : K = S := by omega
      go_wp2_with fail
      go_ret
      refine ⟨⟨_, E, rfl, ?_, HE.out.1.trans HSS.out.symm, HE.out.2⟩, HT1.out.1⟩
      have hEl : l = E := by rw [← HE1.out, e, Nat.sub_self]; rfl
      have hlS : (l.map Value.bool).length = S := by rw [List.length_map]; exact HL1.out
      rw [← hEl, ← hlS]
      exact Sl.row HT1.out.2.2.1 (by rw [List.take_of_length_le (by simp)])
end Go.Proofs.YtfcdkjhabdpijaaDoor.R
