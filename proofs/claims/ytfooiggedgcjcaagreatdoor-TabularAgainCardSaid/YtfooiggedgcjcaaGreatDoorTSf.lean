/-
  Layer 6: Show, wherever rules.Check tells what is wrong with a table.
-/
import Derived.Test.YtfooiggedgcjcaaGreatDoorTSe
namespace Go.Proofs.YtfooiggedgcjcaaGreatDoor.T
open Go Go.RowKit Go.Proofs.YtfooiggedgcjcaaGreatDoor.B Go.Proofs.YtfooiggedgcjcaaGreatDoor.K Go.Proofs.YtfooiggedgcjcaaGreatDoor.E Go.Proofs.YtfooiggedgcjcaaGreatDoor.R
set_option linter.unusedVariables false

theorem ff_first (rule : Int) : ∀ l : List Pt, (ff rule l).1 = 0 → ff rule l = (0, 0, 0, 0)
  | [], _ => rfl
  | p :: r, h => by
    unfold ff at h ⊢
    split at h
    · rename_i h1; exact absurd h h1
    · rename_i h1
      rw [if_neg h1]
      cases hx : firstBad p.wrong 0 p.places with
      | some x => rw [hx] at h; exact absurd h (firstBad_ne _ _ _ x hx)
      | none => rw [hx] at h; exact ff_first rule r h

theorem ffRules_first (t : Tb) : ∀ m n : Nat, (ffRules t n m).1 = 0 → ffRules t n m = (0, 0, 0, 0)
  | 0, _, _ => rfl
  | m + 1, n, h => by
    unfold ffRules at h ⊢
    cases hr : t.rules[n]? with
    | none => rfl
    | some r =>
      rw [hr] at h
      simp only at h ⊢
      split at h
      · rename_i h1; exact absurd (ff_first _ _ h) h1
      · rename_i h1
        rw [if_neg h1]
        exact ffRules_first t m (n + 1) h

theorem chk5_first (t : Tb) : (chk5 t).1 = 0 → chk5 t = (0, 0, 0, 0) := by
  intro h
  unfold chk5 at h ⊢
  split at h
  · rename_i h1; exact absurd (ff_first _ _ h) h1
  · rename_i h1
    rw [if_neg h1]
    exact ffRules_first t _ _ h

theorem flat_join : ∀ l : List Bs, l ≠ [] → l.flatMap (fun x => x ++ [10]) = Lib.join l [10] ++ [10]
  | [], h => absurd rfl h
  | [x], _ => by simp [Lib.join]
  | x :: y :: l, _ => by
    have ih := flat_join (y :: l) (by simp)
    rw [List.flatMap_cons, ih]
    simp [Lib.join]

theorem lines_eq (t : Tb) (hs : t.states ≠ []) : lines t = tableLines t ++ t.rules.flatMap (rlLines t) := by
  unfold lines tableLines lnStates lnVars
  rw [join_behind]
  cases hst : t.states with
  | nil => exact absurd hst hs
  | cons x l => rw [join_behind]; simp [behind]

theorem shown_join (t : Tb) (hs : t.states ≠ []) : shownT t = Lib.join (tableLines t ++ t.rules.flatMap (rlLines t)) [10] ++ [10] := by
  unfold shownT
  rw [lines_eq t hs, flat_join _ (by simp [tableLines])]

theorem rl_len (t : Tb) (q : Rl) : (rlLines t q).length = 1 + (q.guards.length + q.steps.length) := by
  unfold rlLines
  simp; omega

section
variable {w : World} {s x n r : Value} {rows : List Bs} {v : Value} {wr w2 : World}
theorem TbJ.push2 (h : TbJ w s x n r rows v wr) (ys : List Bs) {v' : Value} (ho : w2.ownsRow (w.heap.size + 1) 9 1 v' (rows.length + ys.length) (rows.map sv ++ ys.map sv)) (hg : wr.grownBy w2 v.ownBlock) : TbJ w s x n r (rows ++ ys) v' w2 := by
  have hlt : ∀ k, v.ownBlock = some k → w.heap.size + 1 ≤ k := fun k hk => (own_block_lt h.own hk).1
  have hc : Chg (fun b => v.ownBlock = some b) wr w2 := Chg.grown hg (fun k hk => hk)
  refine ⟨?_, h.bel.trans (hc.below (fun k hk => by have := hlt k hk; omega) h.bel.size), hc.heap h.bx (fun e => by have := hlt _ e; omega)⟩
  rw [List.length_append, List.map_append]
  exact ho
end

theorem own_some {w : World} {base m : Nat} {e : TypeId} {v : Value} {xs : List Value} (h : w.ownsRow base e 1 v m xs) (hm : 0 < m) : ∃ g cap, v = .slice (some ⟨g, 0, none⟩) m cap ∧ ∀ (j : Nat) u, xs[j]? = some u → w.cell? ((⟨g, 0, none⟩ : Addr).add j) = some u := by
  have hs := Sl.owns h
  have hl := h.1
  rw [Nat.mul_one] at hl
  rcases h.2 with ⟨_, h0⟩ | ⟨g, cap, cur, rfl, _⟩
  · omega
  · refine ⟨g, cap, rfl, fun j u hj => ?_⟩
    obtain ⟨a', cap', e', hc⟩ := hs
    cases e'
    obtain ⟨b, off, e2, hcell⟩ := hc j u hj
    cases e2
    rw [Go.WideShapes.add_plain]
    exact hcell

theorem sv_one (l : List Bs) : ∀ u ∈ l.map sv, u.oneCell' = true := by
  intro u hu
  obtain ⟨x, _, rfl⟩ := List.mem_map.1 hu
  rfl

/-- What Show answers. -/
def showT (t : Tb) : Bs := if (chk5 t).1 = 0 then shownT t else []

set_option maxHeartbeats 8000000 in
set_option maxRecDepth 100000 in
theorem show_of (t : Tb) (c0 c1 c2 c3 : Value) (w : World) (h : TbIs w [c0, c1, c2, c3] t) (hw : TbWf t) (hG : I.Glob w) (hcs : ∀ a l c, c0 = .slice a l c → l ≤ c)
    (hck : ∀ W, Below w.heap.size w W → Calls Tryz.prog 7 #[.agg #[c0, c1, c2, c3]] W fun z w' => z = .returned (chk5 t).v ∧ Below W.heap.size W w') :
    Calls Tryz.prog 8 #[.agg #[c0, c1, c2, c3]] w fun z w' => z = .returned (.tuple #[sv (showT t), .int .i64 (chk5 t).1]) ∧ Below w.heap.size w w' := by
  have HC := Lib.hid hck
  have HCS0 := Lib.hid hcs
  have HG := Lib.hid hG
  obtain ⟨d0, d1, d2, d3, e, h0, h1, h2, h3⟩ := h
  cases e
  have HS0 := Lib.hid h0
  have HS1 := Lib.hid h1
  have HS2 := Lib.hid h2
  have HS3 := Lib.hid h3
  obtain ⟨aR, kR, rfl, -⟩ := h3.open
  obtain ⟨aS, kS, rfl⟩ := sl_len h0
  obtain ⟨aV, kV, rfl⟩ := sl_len h1
  obtain ⟨aN, kN, rfl⟩ := sl_len h2
  obtain ⟨NR, hNR⟩ : ∃ N, t.rules.length = N := ⟨_, rfl⟩
  obtain ⟨NS, hNS⟩ : ∃ N, (t.states.map sv).length = N := ⟨_, rfl⟩
  obtain ⟨NV, hNV⟩ : ∃ N, (t.vars.map sv).length = N := ⟨_, rfl⟩
  obtain ⟨NN, hNN⟩ : ∃ N, (t.start.map fun n => Value.int .i64 n).length = N := ⟨_, rfl⟩
  rw [hNR, hNS, hNV, hNN] at HC ⊢
  rw [hNR] at HS3
  rw [hNS] at HS0
  rw [hNV] at HS1
  rw [hNN] at HS2
  have HNR := Lib.hid hNR
  have HCS := Lib.hid (show ∀ a l c, (Value.slice aS NS kS) = .slice a l c → l ≤ c by have := HCS0.out; rw [hNS] at this; exact this)
  clear HCS0 hcs
  have hNS2 : t.states.length = NS := by rw [← hNS, List.length_map]
  have HNS := Lib.hid hNS2
  obtain ⟨W0, hW0⟩ : ∃ W0, w.alloc (.cells #[.slice aS NS kS, .slice aV NV kV, .slice aN NN kN, .slice aR NR kR] 26) = W0 := ⟨_, rfl⟩
  have hB0 : Below w.heap.size w W0 := by rw [← hW0]; exact grown_al w _
  have hbx : W0.heap[w.heap.size]? = some (.cells #[.slice aS NS kS, .slice aV NV kV, .slice aN NN kN, .slice aR NR kR] 26 (0, 0)) := by rw [← hW0]; exact heap_alloc_at _ _
  have q0 : W0.cell? ⟨w.heap.size, 0, none⟩ = some (.slice aS NS kS) := by rw [cell_of_row _ _ _ _ _ _ hbx]; rfl
  have q1 : W0.cell? ⟨w.heap.size, 1, none⟩ = some (.slice aV NV kV) := by rw [cell_of_row _ _ _ _ _ _ hbx]; rfl
  have q2 : W0.cell? ⟨w.heap.size, 2, none⟩ = some (.slice aN NN kN) := by rw [cell_of_row _ _ _ _ _ _ hbx]; rfl
  have q3 : W0.cell? ⟨w.heap.size, 3, none⟩ = some (.slice aR NR kR) := by rw [cell_of_row _ _ _ _ _ _ hbx]; rfl
  have H := Lib.hid (HC.out W0 hB0)
  have HB0 := Lib.hid hB0
  have HBX := Lib.hid hbx
  obtain ⟨⟨e0, e1, e2, e3⟩, hf⟩ : ∃ f, chk5 t = f := ⟨_, rfl⟩
  have HF := Lib.hid hf
  rw [hf, show Ft.v (e0, e1, e2, e3) = .agg #[.int .i64 e0, .int .i64 e1, .int .i64 e2, .int .i64 e3] from rfl] at H
  obtain ⟨res, hres⟩ : ∃ r, showT t = r := ⟨_, rfl⟩
  have HRES := Lib.hid hres
  rw [hf, hres]
  clear HC h0 h1 h2 h3 hw hG hf hB0 hck hbx hNR hNS hNV hNN hNS2 hres
  go_enter Tryz.func8, Tryz.ntmps8
  go_wp2_with fail
  refine H.out.mono ?_
  rintro _ w1 ⟨rfl, hb1⟩
  have HB1 := Lib.hid (HB0.out.trans (hb1.mono HB0.out.size))
  have HX1 := Lib.hid ((hb1.block _ (Array.getElem?_eq_some_iff.1 HBX.out).1).trans HBX.out)
  have f0 : (w1.alloc (.cells #[.int .i64 e0, .int .i64 e1, .int .i64 e2, .int .i64 e3] 33)).cell? ⟨w1.heap.size, 0, none⟩ = some (.int .i64 e0) := by rw [cell_of_row _ _ _ _ _ _ (heap_alloc_at w1 _)]; rfl
  clear q0 q1 q2 q3 hb1 H HBX HB0 hW0
  by_cases he : e0 = 0
  rotate_left
  · have be : (e0 != 0) = true := bne_iff_ne.2 he
    have be2 : (e0 == 0) = false := beq_eq_false_iff_ne.2 he
    have hr : res = [] := by
      rw [← HRES.out]; unfold showT; rw [HF.out, if_neg he]
    subst hr
    clear he
    go_wp2_with fail
    go_quiet (fail)
    go_wp2_with fail
    go_ret2
    exact ⟨rfl, below_drewN (HB1.out.trans ((grown_al w1 _).mono HB1.out.size)) _⟩
  · subst he
    have hchk : chk5 t = (0, 0, 0, 0) := chk5_first t (by rw [HF.out])
    have hM := may_of hchk
    have hFi := fine_of hchk
    go_upto_region 4 with fail
    obtain ⟨W2, hW2⟩ : ∃ W, w1.alloc (.cells #[.int .i64 0, .int .i64 e1, .int .i64 e2, .int .i64 e3] 33) = W := ⟨_, rfl⟩
    have hb12 : Below w1.heap.size w1 W2 := by rw [← hW2]; exact grown_al w1 _
    have hX2 := (hb12.block _ (Array.getElem?_eq_some_iff.1 HX1.out).1).trans HX1.out
    have HB2 := Lib.hid (HB1.out.trans (hb12.mono HB1.out.size))
    have q0 : W2.cell? ⟨w.heap.size, 0, none⟩ = some (.slice aS NS kS) := by rw [cell_of_row _ _ _ _ _ _ hX2]; rfl
    have q1 : W2.cell? ⟨w.heap.size, 1, none⟩ = some (.slice aV NV kV) := by rw [cell_of_row _ _ _ _ _ _ hX2]; rfl
    have q2 : W2.cell? ⟨w.heap.size, 2, none⟩ = some (.slice aN NN kN) := by rw [cell_of_row _ _ _ _ _ _ hX2]; rfl
    have q3 : W2.cell? ⟨w.heap.size, 3, none⟩ = some (.slice aR NR kR) := by rw [cell_of_row _ _ _ _ _ _ hX2]; rfl
    rw [hW2]
    have HS9 := Lib.hid (show w.heap.size + 1 ≤ W2.heap.size from (Array.getElem?_eq_some_iff.1 hX2).1)
    have hS : ∀ y ∈ t.states, y.length ≤ 24 := fun y hy => I.name_length y (hM.sname y hy)
    have hV : ∀ y ∈ t.vars, y.length ≤ 24 := fun y hy => I.name_length y (hM.vname y hy)
    have hst : (starts t).length ≤ 6 ∧ ∀ y ∈ starts t, y.length ≤ 40 := by
      unfold starts
      refine ⟨by rw [List.length_map, List.length_zip]; have := hFi.vars; omega, fun y hy => ?_⟩
      obtain ⟨⟨a, b⟩, hab, rfl⟩ := List.mem_map.1 hy
      have h1 := hV a (List.of_mem_zip hab).1
      have h2 := hM.sval b (List.of_mem_zip hab).2
      have h3 := num_length b (by simp [isVal] at h2; omega)
      simp only [List.length_append, List.length_cons]
      omega
    have hj1 : (Lib.join t.states [32]).length ≤ 200 := by
      have := join_len [32] 24 t.states hS
      have h2 : t.states.length * (24 + [32].length) ≤ 8 * 25 := Nat.mul_le_mul hFi.states.2 (by decide)
      omega
    have hj2 : (Lib.join (wVars :: starts t) [32]).length ≤ 300 := by
      have := join_len [32] 40 (wVars :: starts t) (fun y hy => by rcases List.mem_cons.1 hy with rfl | hy; exact (by decide); exact hst.2 y hy)
      have h2 : (wVars :: starts t).length * (40 + [32].length) ≤ 7 * 41 := Nat.mul_le_mul (by simp; exact hst.1) (by decide)
      omega
    have hcap : ∀ a l c, (Value.slice aS NS kS) = .slice a l c → l ≤ c := by
      exact HCS.out
    have HOT := Lib.hid (ofTable_any W2 (.slice aS NS kS) (.slice aV NV kV) (.slice aN NN kN) (.slice aR NR kR) t (HG.out.below HB2.out) (Sl.below HS0.out HB2.out) (Sl.below HS1.out HB2.out) (Sl.below HS2.out HB2.out) hM.slen hM.sval (by have := hFi.vars; omega) (fun y hy => by have := hV y hy; omega) (by have := hFi.states.2; omega) hcap (by omega) (by omega))
    have hTL : ∀ y ∈ tableLines t, y.length ≤ 300 := by
      intro y hy
      unfold tableLines at hy
      simp only [List.mem_cons, List.not_mem_nil, or_false] at hy
      rcases hy with rfl | rfl
      · simp [wStates]; omega
      · exact hj2
    have HTL := Lib.hid hTL
    have HJ2 := Lib.hid (show W2.heap[w.heap.size]? = _ from hX2)
    clear hX2 hb12 hW2 hst hj1 hj2 hcap f0 hTL hS hV
    go_wp2_with fail
    refine HOT.out.mono ?_
    rintro _ w3 ⟨v3, rfl, hown3, hb3⟩
    have hj : TbJ w (.slice aS NS kS) (.slice aV NV kV) (.slice aN NN kN) (.slice aR NR kR) (tableLines t) v3 w3 := by
      refine ⟨?_, HB2.out.trans (hb3.mono HB2.out.size), (hb3.block _ (Array.getElem?_eq_some_iff.1 HJ2.out).1).trans HJ2.out⟩
      obtain ⟨ho1, ho2⟩ := hown3
      refine ⟨ho1, ?_⟩
      rcases ho2 with h | ⟨g, cap, cur, e, hg, rest⟩
      · exact Or.inl h
      · exact Or.inr ⟨g, cap, cur, e, by have := HS9.out; omega, rest⟩
    have HJ := Lib.hid hj
    have p3 : w3.cell? ⟨w.heap.size, 3, none⟩ = some (.slice aR NR kR) := by rw [cell_of_row _ _ _ _ _ _ hj.bx]; rfl
    clear hj hown3 hb3 q0 q1 q2 q3 HOT HJ2
    go_wp2_with fail
    obtain ⟨i0, hi, hz0, hz1, hz2⟩ := info_string
    go_loopg [20, 5] (NR) (fun gg i v wr => ∃ k : Nat, i = .int .i64 (k : Int) ∧ k + gg = NR ∧ Hid (TbJ w (.slice aS NS kS) (.slice aV NV kV) (.slice aN NN kN) (.slice aR NR kR) (tableLines t ++ (t.rules.take k).flatMap (rlLines t)) v wr) ∧ Hid ((tableLines t ++ (t.rules.take k).flatMap (rlLines t)).length ≤ 2 + 8 * k))
    case atStart => exact ⟨0, rfl, by omega, by simpa using HJ, by show _ ≤ _; simp [tableLines]⟩
    case round =>
      obtain ⟨k, rfl, hkg, HJ6, HLN⟩ := hrel
      obtain ⟨a7, k7, hv7⟩ := own_shape5 HJ6.out.own
      subst hv7
      clear p3
      have hNR12 : NR ≤ 12 := by rw [← HNR.out]; exact hFi.rules
      have hwk : IntKind.i64.wrap ((k : Int) + 1) = (k : Int) + 1 := IntWalk.i64_in _ (by omega)
      by_cases hlt : k < NR
      · have hltI : (k : Int) < (NR : Int) := by omega
        obtain ⟨q, hq⟩ : ∃ q, t.rules[k]? = some q := ⟨_, List.getElem?_eq_getElem (by rw [HNR.out]; exact hlt)⟩
        have hqm := List.mem_of_getElem? hq
        obtain ⟨b, off, haR, cs, -, hrl, hcells⟩ := HS3.out.at hq
        obtain ⟨f_, g_, s_, rfl, hf_, hg_, hs_⟩ := hrl
        have HFs := Lib.hid hf_
        have HGs := Lib.hid hg_
        have HSs := Lib.hid hs_
        obtain ⟨af, kf, rfl⟩ := sl_len hf_
        obtain ⟨ag, kg, rfl, -⟩ := hg_.open
        obtain ⟨as_, ks_, rfl, -⟩ := hs_.open
        have hc0 := kept_cell HJ6.out.bel (hcells 0 _ rfl)
        have hc1 := kept_cell HJ6.out.bel (hcells 1 _ rfl)
        have hc2 := kept_cell HJ6.out.bel (hcells 2 _ rfl)
        have hc3 := kept_cell HJ6.out.bel (hcells 3 _ rfl)
        have hc4 := kept_cell HJ6.out.bel (hcells 4 _ rfl)
        subst haR
        rw [Nat.add_zero] at hc0
        have q0 : wr.cell? ⟨w.heap.size, 0, none⟩ = some (.slice aS NS kS) := by rw [cell_of_row _ _ _ _ _ _ HJ6.out.bx]; rfl
        have q1 : wr.cell? ⟨w.heap.size, 1, none⟩ = some (.slice aV NV kV) := by rw [cell_of_row _ _ _ _ _ _ HJ6.out.bx]; rfl
        have q2 : wr.cell? ⟨w.heap.size, 2, none⟩ = some (.slice aN NN kN) := by rw [cell_of_row _ _ _ _ _ _ HJ6.out.bx]; rfl
        have q3 : wr.cell? ⟨w.heap.size, 3, none⟩ = some (.slice (some ⟨b, off, none⟩) NR kR) := by rw [cell_of_row _ _ _ _ _ _ HJ6.out.bx]; rfl
        have HOR := Lib.hid (fun (X : World) (hb : Below w.heap.size w X) => ofRule_any X _ _ (.slice aN NN kN) (.slice (some ⟨b, off, none⟩) NR kR) _ _ _ t q (orin_of hchk hqm (HG.out.below hb) (Sl.below HS0.out hb) (Sl.below HS1.out hb) (Sl.below HFs.out hb) (SlOf.below HGs.out hb fun _ _ z => z.below hb) (SlOf.below HSs.out hb fun _ _ z => z.below hb)))
        obtain ⟨NF, hNF⟩ : ∃ N, (q.from_.map fun n => Value.int .i64 n).length = N := ⟨_, rfl⟩
        obtain ⟨NG, hNG⟩ : ∃ N, q.guards.length = N := ⟨_, rfl⟩
        obtain ⟨NT, hNT⟩ : ∃ N, q.steps.length = N := ⟨_, rfl⟩
        have hrl8 : (rlLines t q).length ≤ 8 := by
          have h1 := (hFi.guards q hqm).1
          have h2 := (hFi.steps q hqm).1
          rw [rl_len]; omega
        have hrl0 : 0 < (rlLines t q).length := by rw [rl_len]; omega
        have htk : (t.rules.take (k + 1)).flatMap (rlLines t) = (t.rules.take k).flatMap (rlLines t) ++ rlLines t q := by
          rw [List.take_add_one, hq]; simp
        rw [hNF, hNG, hNT] at HOR
        rw [hNF] at hc2
        rw [hNG] at hc3
        rw [hNT] at hc4
        obtain ⟨L, hL⟩ : ∃ L, rlLines t q = L := ⟨_, rfl⟩
        rw [hL] at HOR hrl8 hrl0 htk
        obtain ⟨rows, hrows⟩ : ∃ rows, tableLines t ++ (t.rules.take k).flatMap (rlLines t) = rows := ⟨_, rfl⟩
        have htk2 : tableLines t ++ (t.rules.take (k + 1)).flatMap (rlLines t) = rows ++ L := by rw [htk, ← hrows, List.append_assoc]
        rw [hrows] at HJ6 HLN ⊢
        have HTK := Lib.hid htk2
        obtain ⟨m, hm⟩ : ∃ m, L.length = m := ⟨_, rfl⟩
        rw [hm] at HOR hrl8 hrl0
        have hln := HLN.out
        have HR1 := Lib.hid (show rows.length + m ≤ maxLen by unfold maxLen; omega)
        have HR2 := Lib.hid (show (rows.length + m) * 16 ≤ 140737488355328 by omega)
        have HM := Lib.hid hm
        have hbX : Below w.heap.size w (wr.alloc (.cells #[sv q.name, .int .i64 q.args, .slice af NF kf, .slice ag NG kg, .slice as_ NT ks_] 58)) := HJ6.out.bel.trans ((grown_al wr _).mono HJ6.out.bel.size)
        have HC := Lib.hid (HOR.out _ hbX)
        have HJ7 := Lib.hid (HJ6.out.grow (grown_al wr (.cells #[sv q.name, .int .i64 q.args, .slice af NF kf, .slice ag NG kg, .slice as_ NT ks_] 58)))
        obtain ⟨N7, hN7⟩ : ∃ n, rows.length = n := ⟨_, rfl⟩
        rw [hN7] at HR1 HR2 ⊢
        have HN7 := Lib.hid hN7
        obtain ⟨rn, hrn⟩ : ∃ r, sv q.name = r := ⟨_, rfl⟩
        rw [hrn] at HC HJ7 hc0
        unfold sv at hrn
        subst hrn
        have z0 := kept_cell (grown_al wr (.cells #[.string (str q.name), .int .i64 q.args, .slice af NF kf, .slice ag NG kg, .slice as_ NT ks_] 58)) q0
        have z1 := kept_cell (grown_al wr (.cells #[.string (str q.name), .int .i64 q.args, .slice af NF kf, .slice ag NG kg, .slice as_ NT ks_] 58)) q1
        have z2 := kept_cell (grown_al wr (.cells #[.string (str q.name), .int .i64 q.args, .slice af NF kf, .slice ag NG kg, .slice as_ NT ks_] 58)) q2
        have z3 := kept_cell (grown_al wr (.cells #[.string (str q.name), .int .i64 q.args, .slice af NF kf, .slice ag NG kg, .slice as_ NT ks_] 58)) q3
        have x0 : (wr.alloc (.cells #[.string (str q.name), .int .i64 q.args, .slice af NF kf, .slice ag NG kg, .slice as_ NT ks_] 58)).cell? ⟨wr.heap.size, 0, none⟩ = some (.string (str q.name)) := by rw [cell_of_row _ _ _ _ _ _ (heap_alloc_at wr _)]; rfl
        have x1 : (wr.alloc (.cells #[.string (str q.name), .int .i64 q.args, .slice af NF kf, .slice ag NG kg, .slice as_ NT ks_] 58)).cell? ⟨wr.heap.size, 1, none⟩ = some (.int .i64 q.args) := by rw [cell_of_row _ _ _ _ _ _ (heap_alloc_at wr _)]; rfl
        have x2 : (wr.alloc (.cells #[.string (str q.name), .int .i64 q.args, .slice af NF kf, .slice ag NG kg, .slice as_ NT ks_] 58)).cell? ⟨wr.heap.size, 2, none⟩ = some (.slice af NF kf) := by rw [cell_of_row _ _ _ _ _ _ (heap_alloc_at wr _)]; rfl
        have x3 : (wr.alloc (.cells #[.string (str q.name), .int .i64 q.args, .slice af NF kf, .slice ag NG kg, .slice as_ NT ks_] 58)).cell? ⟨wr.heap.size, 3, none⟩ = some (.slice ag NG kg) := by rw [cell_of_row _ _ _ _ _ _ (heap_alloc_at wr _)]; rfl
        have x4 : (wr.alloc (.cells #[.string (str q.name), .int .i64 q.args, .slice af NF kf, .slice ag NG kg, .slice as_ NT ks_] 58)).cell? ⟨wr.heap.size, 4, none⟩ = some (.slice as_ NT ks_) := by rw [cell_of_row _ _ _ _ _ _ (heap_alloc_at wr _)]; rfl
        clear hq hqm hcells HFs HGs HSs hNF hNG hNT hL hrows htk htk2 hm hN7 hbX HOR HJ6 hln hf_ hg_ hs_
        go_wp2_with (first
          | (go_at_call 22; refine HC.out.mono ?_; rintro _ w5 ⟨v5, rfl, hown5, hb5⟩; obtain ⟨g5, c5, rfl, hrow5⟩ := own_some hown5 hrl0; have HJ8 := Lib.hid (HJ7.out.grow hb5); have HRW := Lib.hid hrow5; clear hown5 hb5 hrow5)
          | (at_builtin; refine wpList_append_own _ rfl _ _ 22 rfl (w.heap.size + 1) 9 i0 (.string ⟨#[]⟩) 1 16 Tryz.underlying22 hi hz0 hz1 hz2 rfl (by decide) (.slice a7 N7 k7) N7 (rows.map sv) rfl (by have := HJ8.out.own; rw [HN7.out] at this; exact this) ⟨g5, 0, none⟩ m c5 (L.map sv) rfl (by rw [List.length_map, HM.out, Nat.mul_one]) HRW.out (sv_one _) HR1.out HR2.out (by have := HJ8.out.size; omega) ?_; intro v' w6 hown' hgrow hnn; clear hnn; have HO9 := Lib.hid hown'; have HG9 := Lib.hid hgrow; clear hown' hgrow))
        have HJ10 := Lib.hid (HJ8.out.push2 L (by have := HO9.out; rw [HN7.out, HM.out]; exact this) (by have := HG9.out; rw [HN7.out]; exact this))
        go_wp2_with fail
        go_roundg (NR - (k + 1))
        case measure => omega
        case rel => exact ⟨k + 1, by go_num, by omega, by rw [HTK.out]; exact HJ10, by rw [HTK.out]; have h1 := HLN.out; have h2 := HM.out; show _ ≤ _; rw [List.length_append]; omega⟩
      · have hltI : ¬ (k : Int) < (NR : Int) := by omega
        have hk : k = NR := by omega
        have hfin : tableLines t ++ (t.rules.take k).flatMap (rlLines t) = tableLines t ++ t.rules.flatMap (rlLines t) := by rw [hk, ← HNR.out, List.take_length]
        rw [hfin] at HJ6 HLN ⊢
        have hjl : (Lib.join (tableLines t ++ t.rules.flatMap (rlLines t)) [10]).length ≤ 10000000 := by
          have h1 := join_len [10] 30000 (tableLines t ++ t.rules.flatMap (rlLines t)) (fun y hy => by
            rcases List.mem_append.1 hy with hy | hy
            · have := HTL.out y hy; omega
            · obtain ⟨q, hq, hy⟩ := List.mem_flatMap.1 hy
              exact line_len hchk hq y hy)
          have h2 := HLN.out
          have : (tableLines t ++ t.rules.flatMap (rlLines t)).length * (30000 + [10].length) ≤ 98 * 30001 := Nat.mul_le_mul (by omega) (by decide)
          omega
        have hres : Lib.join (tableLines t ++ t.rules.flatMap (rlLines t)) [10] ++ [10] = res := by
          rw [← HRES.out]
          unfold showT
          rw [HF.out, if_pos rfl, shown_join t hM.sne]
        obtain ⟨rows, hrows⟩ : ∃ rows, tableLines t ++ t.rules.flatMap (rlLines t) = rows := ⟨_, rfl⟩
        rw [hrows] at HJ6 HLN hjl hres ⊢
        have hcap : rows.length ≤ k7 := by
          rcases HJ6.out.own.2 with ⟨e, h0⟩ | ⟨_, _, _, e, _, _, h1, _⟩
          · injection e with _ _ e; omega
          · injection e with _ _ e; omega
        have hlr := HLN.out
        have hjc := fun W (hb : Below wr.heap.size wr W) => join_any a7 k7 rows [10] W (Sl.below (Sl.owns HJ6.out.own) hb) hcap (by omega) (by omega)
        obtain ⟨J, hJ⟩ : ∃ J, Lib.join rows [10] = J := ⟨_, rfl⟩
        rw [hJ] at hjc hjl hres
        have hsum : str J ++ ⟨#[10]⟩ = str res := by rw [← hres]; exact str_append J [10]
        have hsz : (str J).size ≤ 10000000 := by rw [str_size]; exact hjl
        obtain ⟨N7, hN7⟩ : ∃ n, rows.length = n := ⟨_, rfl⟩
        rw [hN7] at hjc ⊢
        have HJC := Lib.hid hjc
        unfold sv at HJC
        clear hjc hcap hlr hfin hk hkg hres hJ hrows hN7 hjl
        go_wp2_with (go_at_call 23; refine (HJC.out _ (Below.refl _ _)).mono ?_; rintro _ w8 ⟨rfl, hb8⟩; have HB8 := Lib.hid hb8; clear hb8)
        go_ret2
        exact ⟨rfl, HJ6.out.bel.trans (HB8.out.mono HJ6.out.bel.size)⟩
end Go.Proofs.YtfooiggedgcjcaaGreatDoor.T
