/-
  Layer 5, the program's side: what tells what is wrong with each step.
  Layer 5, the program's side: the parts of a table.
  Rows of structs: read, owned, appended to.
-/
import Derived.Test.YtfooiggedgcjcaaGreatDoorRPs2
import Derived.Maps.AppendAt
import Derived.Laws.OwnMore
import Derived.Deep.RegionHeldLaw
import Derived.Deep.AppendLies
import Derived.Deep.RegionWith
import Derived.Deep.RegionHeld3
namespace Go.Proofs.YtfooiggedgcjcaaGreatDoor.R
open Go Go.RowKit Go.Proofs.YtfooiggedgcjcaaGreatDoor.B Go.Proofs.YtfooiggedgcjcaaGreatDoor.K Go.Proofs.YtfooiggedgcjcaaGreatDoor.E
set_option linter.unusedVariables false

set_option maxHeartbeats 1000000 in
theorem steps1_any (l : List Sp) (v : Value) (S V : Nat) (A : Int) (gr gt gs k : Nat) (w : World) (h : SlOf w 2 (SpIs w) v l) (hw : ∀ x ∈ l, SpWf x) (hk : k < l.length) (hg : w.cell? ⟨gr, 4, none⟩ = some v) (ht : ∃ a cap, w.cell? ⟨gt, 0, none⟩ = some (.slice a S cap)) (hs : ∃ fs, w.cell? ⟨gs, 0, none⟩ = some fs ∧ SetF w fs V A) :
    Calls Tryz.prog 93 #[.int .i64 (k : Int), .pointer (some ⟨gr, 0, none⟩), .pointer (some ⟨gt, 0, none⟩), .pointer (some ⟨gs, 0, none⟩)] w fun z w' => z = .returned (.int .i64 (stepBad S V A l k)) ∧ Below w.heap.size w w' := by
  obtain ⟨x, hx⟩ : ∃ x, l[k]? = some x := ⟨_, List.getElem?_eq_getElem hk⟩
  obtain ⟨a, cap, rfl, h⟩ := h.open
  obtain ⟨b, off, ea, cs, -, ⟨tv, rfl, hsets⟩, hc⟩ := h.at hx
  subst ea
  obtain ⟨fs, hfs, gt2, gc, a2, cap2, fc, rfl, e1, e2, e3⟩ := hs
  obtain ⟨at_, capt, ht⟩ := ht
  have hxw := hw x (List.mem_of_getElem? hx)
  have hres : stepBad S V A l k = spBad S V A x := by unfold stepBad; rw [hx]
  rw [hres]
  unfold spBad
  obtain ⟨N, hN⟩ : ∃ N, l.length = N := ⟨_, rfl⟩
  rw [hN] at hk hg
  have hkI : (k : Int) < (N : Int) := by omega
  have k0 : w.cell? ⟨b, off + k * 2, none⟩ = some tv := hc 0 _ rfl
  have k1 : w.cell? ⟨b, off + k * 2 + 1, none⟩ = some (.int .i64 x.to) := hc 1 _ rfl
  obtain ⟨as_, caps, rfl, hsets⟩ := hsets.open
  obtain ⟨M, hM⟩ : ∃ M, x.sets.length = M := ⟨_, rfl⟩
  have hM9 : M ≤ 9223372036854775807 := hM ▸ hxw.2.1
  rw [hM] at k0 hsets ⊢
  obtain ⟨W1, hW1⟩ : ∃ W1, w.alloc (.cells #[.slice as_ M caps, .int .i64 x.to] 80) = W1 := ⟨_, rfl⟩
  have hB1 : Below w.heap.size w W1 := by rw [← hW1]; exact below_alloc _ _
  have d0 : W1.cell? ⟨w.heap.size, 0, none⟩ = some (.slice as_ M caps) := by rw [← hW1]; exact box_cell _ _ _ _ _ rfl
  have d1 : W1.cell? ⟨w.heap.size, 1, none⟩ = some (.int .i64 x.to) := by rw [← hW1]; exact box_cell _ _ _ _ _ rfl
  have d2 := kept_cell hB1 hfs
  have d3 := kept_cell hB1 ht
  have HD := Lib.hid (And.intro d0 d2)
  have HX := Lib.hid (fun (W : World) (J : Nat) (hJ : J < M) (hb : Below W1.heap.size W1 W) => sets1_any x.sets (.slice as_ M caps) fc V A gt2 gc J W (hsets.below (hB1.trans (hb.mono hB1.size)) (fun _ _ q => q.below (hB1.trans (hb.mono hB1.size)))) hxw.1 hxw.2.1 (by rw [hM]; exact hJ) ⟨a2, cap2, kept_cell hb (kept_cell hB1 e1)⟩ (kept_cell hb (kept_cell hB1 e2)) ((e3.below hB1).below hb))
  have HB := Lib.hid hB1
  obtain ⟨tt, hto⟩ : ∃ tt, x.to = tt := ⟨_, rfl⟩
  obtain ⟨f, hf⟩ : ∃ f, setBad V A x.sets = f := ⟨_, rfl⟩
  rw [hto] at hW1 d1 k1 ⊢
  rw [hf] at HX ⊢
  have HM := Lib.hid hM9
  clear hx h hw hres hN hsets hB1 hfs ht hxw hc hM hto e1 e2 e3 hf hM9
  by_cases h1 : (S : Int) ≤ tt
  · rw [if_pos h1]
    go_enter Tryz.func93, Tryz.ntmps93
    go_wp2_with fail
    go_ret
    exact ⟨rfl, HB.out⟩
  · rw [if_neg h1]
    go_enter Tryz.func93, Tryz.ntmps93
    go_wp2_with fail
    clear d1 d2 d3 k0 k1 d0
    go_loopw [23] (fun k2 wr => ∃ (J : Nat), k2 = .int .i64 (J : Int) ∧ J ≤ M ∧ Hid (Below W1.heap.size W1 wr) ∧ Hid (firstBad f J (M - J) = firstBad f 0 M)) (fun k2 _ => M - (intOf k2).toNat)
    case atStart => exact ⟨0, rfl, Nat.zero_le _, Lib.hid (Below.refl _ _), Lib.hid rfl⟩
    case round =>
      obtain ⟨J, rfl, hJ, HB2, HJ⟩ := hrel
      by_cases hlt2 : J < M
      · have hltI2 : (J : Int) < (M : Int) := by omega
        have d0 := kept_cell HB2.out HD.out.1
        have d2 := kept_cell HB2.out HD.out.2
        have HC := Lib.hid (HX.out wr J hlt2 HB2.out)
        have hfb : firstBad f J (M - J) = if f J ≠ 0 then some (J, f J) else firstBad f (J + 1) (M - (J + 1)) := by
          rw [show M - J = (M - (J + 1)) + 1 by omega]; exact firstBad_at _ _ _
        rw [hfb] at HJ
        have hwJ := wrap_next J (Nat.lt_of_lt_of_le hlt2 HM.out)
        obtain ⟨e, he⟩ : ∃ e, f J = e := ⟨_, rfl⟩
        rw [he] at HJ HC
        clear hfb he
        by_cases he0 : e = 0
        · have hb : (e == 0) = true := beq_iff_eq.2 he0
          rw [if_neg (by simp [he0])] at HJ
          clear he0
          go_wp2_with (go_at_call 120; refine HC.out.mono ?_; rintro _ w1 ⟨rfl, hb1⟩; have HB3 := Lib.hid (HB2.out.trans (hb1.mono HB2.out.size)); clear hb1)
          clear hwJ hltI2
          exact ⟨⟨J + 1, by go_num, by omega, HB3, HJ⟩, by simp [intOf]; omega⟩
        · have hb : (e == 0) = false := beq_eq_false_iff_ne.2 he0
          rw [if_pos he0] at HJ
          clear he0
          go_wp2_with (go_at_call 120; refine HC.out.mono ?_; rintro _ w1 ⟨rfl, hb1⟩; have HB3 := Lib.hid (HB2.out.trans (hb1.mono HB2.out.size)); clear hb1)
          go_ret
          exact ⟨ret_int (by rw [← HJ.out]; rfl), HB.out.trans (HB3.out.mono HB.out.size)⟩
      · have hltI2 : ¬ (J : Int) < (M : Int) := by omega
        have e : J = M := by omega
        go_wp2_with fail
        go_ret
        exact ⟨ret_int (by rw [← HJ.out, e, Nat.sub_self]; rfl), HB.out.trans (HB2.out.mono HB.out.size)⟩

theorem ent_steps : Ent 93 := fun args w => enters_of Tryz.func93 (by kernel_rfl) rfl args w

set_option maxHeartbeats 1000000 in
theorem steps_any (l : List Sp) (v vs vv c2 c3 f0 f2 f3 : Value) (S V : Nat) (A : Int) (w : World) (h : SlOf w 2 (SpIs w) v l) (hw : ∀ x ∈ l, SpWf x) (hS : ∃ a cap, vs = .slice a S cap) (hV : ∃ a cap, vv = .slice a V cap) :
    Calls Tryz.prog 49 #[.agg #[vs, vv, c2, c3], .agg #[f0, .int .i64 A, f2, f3, v]] w fun z w' => (∃ fv, z = .returned fv ∧ fv.oneCell' = true ∧ WrongF w' fv l.length (stepBad S V A l)) ∧ Below w.heap.size w w' := by
  obtain ⟨W1, W2, hW1, hW2, hB1, hB2, q1, q2⟩ := two_box w #[vs, vv, c2, c3] #[f0, .int .i64 A, f2, f3, v] 26 58
  have HX := Lib.hid (sets_any V A vs vv c2 c3 f0 f2 f3 v W2 hV)
  have H3 := Lib.hid (And.intro (q2 4 _ rfl) (q1 0 _ rfl))
  have HSS := Lib.hid hS
  have p0 := q1 0 _ rfl
  have p1 := q1 1 _ rfl
  have p2 := q1 2 _ rfl
  have p3 := q1 3 _ rfl
  have r0 := q2 0 _ rfl
  have r1 := q2 1 _ rfl
  have r2 := q2 2 _ rfl
  have r3 := q2 3 _ rfl
  have r4 := q2 4 _ rfl
  have HB := Lib.hid hB2
  have HS := Lib.hid h
  have HW := Lib.hid hw
  clear q1 q2 hB1 hB2 h hw hV hS
  go_enter Tryz.func49, Tryz.ntmps49
  go_wp2_with (go_at_call 92; refine HX.out.mono ?_; rintro _ w1 ⟨⟨fc, rfl, hfc⟩, hb1⟩; have HFC := Lib.hid hfc; obtain ⟨gt, gc, a2, cap2, fc2, rfl, e1, e2⟩ := hfc; have HB1 := Lib.hid (HB.out.trans (hb1.mono HB.out.size)); have H31 := Lib.hid (And.intro (kept_cell hb1 H3.out.1) (kept_cell hb1 H3.out.2)); clear hb1 e1 e2)
  go_ret
  have hw3 := below_alloc w1 (.cells #[.func (.func 120) #[] #[.pointer (some ⟨gt, 0, none⟩), .pointer (some ⟨gc, 0, none⟩)]] 140)
  refine ⟨⟨_, rfl, rfl, _, _, rfl, ent_steps, fun W hW k hk => ?_⟩, HB1.out.trans (hw3.mono HB1.out.size)⟩
  have hWW := hw3.trans (hW.mono hw3.size)
  have hb := HB1.out.trans (hWW.mono HB1.out.size)
  obtain ⟨as_, caps, hvs⟩ := HSS.out
  exact steps1_any l v S V A _ _ _ k W (HS.out.below hb (fun _ _ q => q.below hb)) HW.out hk (kept_cell hWW H31.out.1) ⟨as_, caps, by rw [← hvs]; exact kept_cell hWW H31.out.2⟩ ⟨_, kept_cell hW (box_cell _ _ _ _ _ rfl), HFC.out.below hWW⟩
end Go.Proofs.YtfooiggedgcjcaaGreatDoor.R

namespace Go.Proofs.YtfooiggedgcjcaaGreatDoor.R
open Go Go.RowKit Go.Proofs.YtfooiggedgcjcaaGreatDoor.B Go.Proofs.YtfooiggedgcjcaaGreatDoor.K Go.Proofs.YtfooiggedgcjcaaGreatDoor.E
set_option linter.unusedVariables false

theorem flatten_at (k : Nat) : ∀ (rows : List (List Value)), (∀ r ∈ rows, r.length = k) → ∀ (j : Nat) cs, rows[j]? = some cs → ∀ i, i < k → rows.flatten[j * k + i]? = cs[i]?
  | [], _, j, cs, h, i, hi => by simp at h
  | r :: rest, hl, 0, cs, h, i, hi => by
    have hr := hl r List.mem_cons_self
    simp only [List.getElem?_cons_zero, Option.some.injEq] at h
    subst h
    rw [List.flatten_cons, Nat.zero_mul, Nat.zero_add, List.getElem?_append_left (by omega)]
  | r :: rest, hl, j + 1, cs, h, i, hi => by
    have hr := hl r List.mem_cons_self
    rw [List.getElem?_cons_succ] at h
    rw [List.flatten_cons, List.getElem?_append_right (by rw [hr, Nat.succ_mul]; omega), hr, show (j + 1) * k + i - k = j * k + i by rw [Nat.succ_mul]; omega]
    exact flatten_at k rest (fun x hx => hl x (List.mem_cons_of_mem _ hx)) j cs h i hi

/-- A slice made at once, of structs. -/
theorem slof_rows {X : Type} (w : World) (T : TypeId) (k : Nat) (Q : List Value → X → Prop) (xs : List X) (rows : List (List Value)) (cap : Nat) (arr : Array Value) (ha : arr.toList = rows.flatten) (h1 : rows.length = xs.length)
    (h2 : ∀ (j : Nat) x cs, xs[j]? = some x → rows[j]? = some cs → cs.length = k ∧ Q cs x) : SlOf (w.alloc (.cells arr T)) k Q (.slice (some ⟨w.heap.size, 0, none⟩) xs.length cap) xs := by
  have hl : ∀ r ∈ rows, r.length = k := by
    intro r hr
    obtain ⟨j, hj, rfl⟩ := List.getElem_of_mem hr
    exact (h2 j (xs[j]'(by omega)) _ (List.getElem?_eq_getElem (by omega)) (List.getElem?_eq_getElem hj)).1
  refine ⟨_, cap, rfl, fun j x hj => ?_⟩
  have hjx := (List.getElem?_eq_some_iff.1 hj).1
  obtain ⟨cs, hcs⟩ : ∃ cs, rows[j]? = some cs := ⟨_, List.getElem?_eq_getElem (by omega)⟩
  obtain ⟨e1, e2⟩ := h2 j x cs hj hcs
  refine ⟨_, 0, rfl, cs, e1, e2, fun i c hi => ?_⟩
  have hik : i < k := by rw [← e1]; exact (List.getElem?_eq_some_iff.1 hi).1
  have := flatten_at k rows hl j cs hcs i hik
  rw [hi, ← ha] at this
  rw [Nat.zero_add]
  exact box_cell w arr T (j * k + i) c (by rw [← Array.getElem?_toList]; exact this)

theorem calls_keepB {P : Program} {f : Nat} {args : Array Value} {W : World} {r : Ending} {S : World → Prop} (hc : Calls P f args W (fun z w' => z = r ∧ W = w')) (hS : S W) : Calls P f args W (fun z w' => z = r ∧ S w' ∧ Below W.heap.size W w') :=
  hc.mono (by rintro _ w' ⟨rfl, rfl⟩; exact ⟨rfl, hS, Below.refl _ _⟩)

theorem calls_keepF {P : Program} {f : Nat} {args : Array Value} {W : World} {Q : Ending → World → Prop} {S : World → Prop} (hc : Calls P f args W (fun z w' => Q z w' ∧ Below W.heap.size W w')) (hS : ∀ W', Below W.heap.size W W' → S W') : Calls P f args W (fun z w' => Q z w' ∧ S w' ∧ Below W.heap.size W w') :=
  hc.mono (by rintro _ w' ⟨hq, hb⟩; exact ⟨hq, hS _ hb, hb⟩)

set_option maxHeartbeats 2000000 in
set_option maxRecDepth 100000 in
theorem ofTable_any (t : Tb) (c0 c1 c2 c3 : Value) (w : World) (h : TbIs w [c0, c1, c2, c3] t) (hw : TbWf t) (hG : I.Glob w) :
    Calls Tryz.prog 19 #[.agg #[c0, c1, c2, c3]] w fun z w' => (∃ v, z = .returned v ∧ SlOf w' 4 (PtIs w') v (tableParts t)) ∧ Below w.heap.size w w' := by
  obtain ⟨d0, d1, d2, d3, e, h0, h1, h2, h3⟩ := h
  cases e
  obtain ⟨⟨hw0, hl0⟩, ⟨hw1, hl1⟩, ⟨hw2, hl2⟩, ⟨hw3, hl3⟩⟩ := hw
  have H0 := Lib.hid h0
  have H1 := Lib.hid h1
  have H2 := Lib.hid h2
  obtain ⟨a0, cap0, rfl⟩ := sl_len h0
  obtain ⟨a1, cap1, rfl⟩ := sl_len h1
  obtain ⟨a2, cap2, rfl⟩ := sl_len h2
  obtain ⟨a3, cap3, rfl, h3⟩ := h3.open
  rw [List.length_map] at H0 H1 H2 ⊢
  rw [List.length_map, List.length_map]
  have hTP : tableParts t = [⟨1, countE t.states.length 1 8, t.states.length, nameBad t.states⟩, ⟨2, countE t.vars.length 0 6, t.vars.length, nameBad t.vars⟩, ⟨3, unlessE (decide ((t.start.length : Int) = t.vars.length)) 2, t.start.length, startBad t.start⟩, ⟨4, countE t.rules.length 0 12, 0, fun _ => 0⟩] := rfl
  rw [hTP]
  have HNM0 := Lib.hid (fun (W : World) (hb : Below w.heap.size w W) => names_any t.states (.slice a0 t.states.length cap0) W (Sl.below H0.out hb) hl0 hw0 (hG.below hb))
  have HNM1 := Lib.hid (fun (W : World) (hb : Below w.heap.size w W) => names_any t.vars (.slice a1 t.vars.length cap1) W (Sl.below H1.out hb) hl1 hw1 (hG.below hb))
  obtain ⟨N0, hN0⟩ : ∃ N, t.states.length = N := ⟨_, rfl⟩
  obtain ⟨N1, hN1⟩ : ∃ N, t.vars.length = N := ⟨_, rfl⟩
  obtain ⟨N2, hN2⟩ : ∃ N, t.start.length = N := ⟨_, rfl⟩
  obtain ⟨N3, hN3⟩ : ∃ N, t.rules.length = N := ⟨_, rfl⟩
  rw [hN0] at HNM0 H0 ⊢
  rw [hN1] at HNM1 H1 ⊢
  rw [hN2] at H2 ⊢
  rw [hN3]
  obtain ⟨W0, hW0⟩ : ∃ W0, w.alloc (.cells #[.slice a0 N0 cap0, .slice a1 N1 cap1, .slice a2 N2 cap2, .slice a3 N3 cap3] 26) = W0 := ⟨_, rfl⟩
  have hB0 : Below w.heap.size w W0 := by rw [← hW0]; exact below_alloc _ _
  have q0 : W0.cell? ⟨w.heap.size, 0, none⟩ = some (.slice a0 N0 cap0) := by rw [← hW0]; exact box_cell _ _ _ _ _ rfl
  have q1 : W0.cell? ⟨w.heap.size, 1, none⟩ = some (.slice a1 N1 cap1) := by rw [← hW0]; exact box_cell _ _ _ _ _ rfl
  have q2 : W0.cell? ⟨w.heap.size, 2, none⟩ = some (.slice a2 N2 cap2) := by rw [← hW0]; exact box_cell _ _ _ _ _ rfl
  have q3 : W0.cell? ⟨w.heap.size, 3, none⟩ = some (.slice a3 N3 cap3) := by rw [← hW0]; exact box_cell _ _ _ _ _ rfl
  have HB0 := Lib.hid hB0
  have HK0 := Lib.hid (fun (W : World) (hS : W.cell? ⟨w.heap.size, 0, none⟩ = some (.slice a0 N0 cap0) ∧ W.cell? ⟨w.heap.size, 1, none⟩ = some (.slice a1 N1 cap1) ∧ W.cell? ⟨w.heap.size, 2, none⟩ = some (.slice a2 N2 cap2) ∧ W.cell? ⟨w.heap.size, 3, none⟩ = some (.slice a3 N3 cap3) ∧ Below W0.heap.size W0 W) => calls_keepF (S := fun W => W.cell? ⟨w.heap.size, 0, none⟩ = some (.slice a0 N0 cap0) ∧ W.cell? ⟨w.heap.size, 1, none⟩ = some (.slice a1 N1 cap1) ∧ W.cell? ⟨w.heap.size, 2, none⟩ = some (.slice a2 N2 cap2) ∧ W.cell? ⟨w.heap.size, 3, none⟩ = some (.slice a3 N3 cap3) ∧ Below W0.heap.size W0 W) (HNM0.out W (HB0.out.trans (hS.2.2.2.2.mono HB0.out.size))) (fun W' hb => ⟨kept_cell hb hS.1, kept_cell hb hS.2.1, kept_cell hb hS.2.2.1, kept_cell hb hS.2.2.2.1, hS.2.2.2.2.trans (hb.mono hS.2.2.2.2.size)⟩))
  have HK1 := Lib.hid (fun (W : World) (hS : W.cell? ⟨w.heap.size, 0, none⟩ = some (.slice a0 N0 cap0) ∧ W.cell? ⟨w.heap.size, 1, none⟩ = some (.slice a1 N1 cap1) ∧ W.cell? ⟨w.heap.size, 2, none⟩ = some (.slice a2 N2 cap2) ∧ W.cell? ⟨w.heap.size, 3, none⟩ = some (.slice a3 N3 cap3) ∧ Below W0.heap.size W0 W) => calls_keepF (S := fun W => W.cell? ⟨w.heap.size, 0, none⟩ = some (.slice a0 N0 cap0) ∧ W.cell? ⟨w.heap.size, 1, none⟩ = some (.slice a1 N1 cap1) ∧ W.cell? ⟨w.heap.size, 2, none⟩ = some (.slice a2 N2 cap2) ∧ W.cell? ⟨w.heap.size, 3, none⟩ = some (.slice a3 N3 cap3) ∧ Below W0.heap.size W0 W) (HNM1.out W (HB0.out.trans (hS.2.2.2.2.mono HB0.out.size))) (fun W' hb => ⟨kept_cell hb hS.1, kept_cell hb hS.2.1, kept_cell hb hS.2.2.1, kept_cell hb hS.2.2.2.1, hS.2.2.2.2.trans (hb.mono hS.2.2.2.2.size)⟩))
  have HKA := Lib.hid (fun (W : World) (o : Obj) (hS : W.cell? ⟨w.heap.size, 0, none⟩ = some (.slice a0 N0 cap0) ∧ W.cell? ⟨w.heap.size, 1, none⟩ = some (.slice a1 N1 cap1) ∧ W.cell? ⟨w.heap.size, 2, none⟩ = some (.slice a2 N2 cap2) ∧ W.cell? ⟨w.heap.size, 3, none⟩ = some (.slice a3 N3 cap3) ∧ Below W0.heap.size W0 W) => (show (W.alloc o).cell? ⟨w.heap.size, 0, none⟩ = some (.slice a0 N0 cap0) ∧ (W.alloc o).cell? ⟨w.heap.size, 1, none⟩ = some (.slice a1 N1 cap1) ∧ (W.alloc o).cell? ⟨w.heap.size, 2, none⟩ = some (.slice a2 N2 cap2) ∧ (W.alloc o).cell? ⟨w.heap.size, 3, none⟩ = some (.slice a3 N3 cap3) ∧ Below W0.heap.size W0 (W.alloc o) from (fun hb => ⟨kept_cell hb hS.1, kept_cell hb hS.2.1, kept_cell hb hS.2.2.1, kept_cell hb hS.2.2.2.1, hS.2.2.2.2.trans (hb.mono hS.2.2.2.2.size)⟩) (below_alloc W o)))
  obtain ⟨E0, hE0⟩ : ∃ E, countE (N0 : Int) 1 8 = E := ⟨_, rfl⟩
  obtain ⟨E1, hE1⟩ : ∃ E, countE (N1 : Int) 0 6 = E := ⟨_, rfl⟩
  obtain ⟨E3, hE3⟩ : ∃ E, countE (N3 : Int) 0 12 = E := ⟨_, rfl⟩
  have HC0 := Lib.hid (fun (W : World) (hS : W.cell? ⟨w.heap.size, 0, none⟩ = some (.slice a0 N0 cap0) ∧ W.cell? ⟨w.heap.size, 1, none⟩ = some (.slice a1 N1 cap1) ∧ W.cell? ⟨w.heap.size, 2, none⟩ = some (.slice a2 N2 cap2) ∧ W.cell? ⟨w.heap.size, 3, none⟩ = some (.slice a3 N3 cap3) ∧ Below W0.heap.size W0 W) => calls_keepB (S := fun W => W.cell? ⟨w.heap.size, 0, none⟩ = some (.slice a0 N0 cap0) ∧ W.cell? ⟨w.heap.size, 1, none⟩ = some (.slice a1 N1 cap1) ∧ W.cell? ⟨w.heap.size, 2, none⟩ = some (.slice a2 N2 cap2) ∧ W.cell? ⟨w.heap.size, 3, none⟩ = some (.slice a3 N3 cap3) ∧ Below W0.heap.size W0 W) (hE0 ▸ count_any (N0 : Int) 1 8 W) hS)
  have HC1 := Lib.hid (fun (W : World) (hS : W.cell? ⟨w.heap.size, 0, none⟩ = some (.slice a0 N0 cap0) ∧ W.cell? ⟨w.heap.size, 1, none⟩ = some (.slice a1 N1 cap1) ∧ W.cell? ⟨w.heap.size, 2, none⟩ = some (.slice a2 N2 cap2) ∧ W.cell? ⟨w.heap.size, 3, none⟩ = some (.slice a3 N3 cap3) ∧ Below W0.heap.size W0 W) => calls_keepB (S := fun W => W.cell? ⟨w.heap.size, 0, none⟩ = some (.slice a0 N0 cap0) ∧ W.cell? ⟨w.heap.size, 1, none⟩ = some (.slice a1 N1 cap1) ∧ W.cell? ⟨w.heap.size, 2, none⟩ = some (.slice a2 N2 cap2) ∧ W.cell? ⟨w.heap.size, 3, none⟩ = some (.slice a3 N3 cap3) ∧ Below W0.heap.size W0 W) (hE1 ▸ count_any (N1 : Int) 0 6 W) hS)
  have HC3 := Lib.hid (fun (W : World) (hS : W.cell? ⟨w.heap.size, 0, none⟩ = some (.slice a0 N0 cap0) ∧ W.cell? ⟨w.heap.size, 1, none⟩ = some (.slice a1 N1 cap1) ∧ W.cell? ⟨w.heap.size, 2, none⟩ = some (.slice a2 N2 cap2) ∧ W.cell? ⟨w.heap.size, 3, none⟩ = some (.slice a3 N3 cap3) ∧ Below W0.heap.size W0 W) => calls_keepB (S := fun W => W.cell? ⟨w.heap.size, 0, none⟩ = some (.slice a0 N0 cap0) ∧ W.cell? ⟨w.heap.size, 1, none⟩ = some (.slice a1 N1 cap1) ∧ W.cell? ⟨w.heap.size, 2, none⟩ = some (.slice a2 N2 cap2) ∧ W.cell? ⟨w.heap.size, 3, none⟩ = some (.slice a3 N3 cap3) ∧ Below W0.heap.size W0 W) (hE3 ▸ count_any (N3 : Int) 0 12 W) hS)
  rw [hE0, hE1, hE3]
  obtain ⟨BB, hBB⟩ : ∃ B, decide ((N2 : Int) = (N1 : Int)) = B := ⟨_, rfl⟩
  have b1 : ((N2 : Int) == (N1 : Int)) = BB := by rw [← hBB, Bool.eq_iff_iff]; simp
  have b2 : (N2 == N1) = BB := by rw [← hBB, Bool.eq_iff_iff]; simp; omega
  have b3 : decide (N2 = N1) = BB := by rw [← hBB, Bool.eq_iff_iff]; simp; omega
  rw [hBB]
  obtain ⟨E2, hE2⟩ : ∃ E, unlessE BB 2 = E := ⟨_, rfl⟩
  have HU := Lib.hid (fun W => hE2 ▸ unless_any BB 2 W)
  rw [hE2]
  have HST : Hid (∀ W, Below W0.heap.size W0 W → WrongF W (.func (.func 42) #[] #[.pointer (some ⟨w.heap.size, 0, none⟩)]) N2 (startBad t.start)) :=
    Lib.hid (fun W hW => ⟨_, _, rfl, ent_start, fun W' hW' k hk => start1_any t.start (.slice a2 N2 cap2) _ k W' (Sl.below H2.out ((HB0.out.trans (hW.mono HB0.out.size)).trans (hW'.mono (HB0.out.trans (hW.mono HB0.out.size)).size))) (by rw [hN2]; exact hk) (kept_cell hW' (kept_cell hW q2))⟩)
  have HQ := Lib.hid (And.intro q0 (And.intro q1 (And.intro q2 q3)))
  clear h0 h1 h2 h3 hw0 hw1 hw2 hw3 hl0 hl1 hl2 hl3 hG hTP H0 H1 H2 HNM0 HNM1 hN0 hN1 hN2 hN3 hB0 hE0 hE1 hE2 hE3 hBB
  go_enter Tryz.func19, Tryz.ntmps19
  go_upto_region 3 with (go_at_call 41; refine (HU.out _).mono ?_; rintro _ w1 ⟨rfl, rfl⟩)
  have hS0 : W0.drew.cell? ⟨w.heap.size, 0, none⟩ = some (.slice a0 N0 cap0) ∧ W0.drew.cell? ⟨w.heap.size, 1, none⟩ = some (.slice a1 N1 cap1) ∧ W0.drew.cell? ⟨w.heap.size, 2, none⟩ = some (.slice a2 N2 cap2) ∧ W0.drew.cell? ⟨w.heap.size, 3, none⟩ = some (.slice a3 N3 cap3) ∧ Below W0.heap.size W0 W0.drew := ⟨HQ.out.1, HQ.out.2.1, HQ.out.2.2.1, HQ.out.2.2.2, (Below.refl W0.heap.size W0).drew⟩
  clear q0 q1 q2 q3 b1 b2 b3
  go_region_held3 (fun W => W.cell? ⟨w.heap.size, 0, none⟩ = some (.slice a0 N0 cap0) ∧ W.cell? ⟨w.heap.size, 1, none⟩ = some (.slice a1 N1 cap1) ∧ W.cell? ⟨w.heap.size, 2, none⟩ = some (.slice a2 N2 cap2) ∧ W.cell? ⟨w.heap.size, 3, none⟩ = some (.slice a3 N3 cap3) ∧ Below W0.heap.size W0 W) (first | exact hS0 | assumption | exact HKA.out _ _ (by assumption)) (first | (go_at_call 43; ((with_reducible refine (HC0.out _ ?_).mono ?_); (first | exact hS0 | assumption)); rintro _ w1 ⟨rfl, hS1, hb1⟩) | (go_at_call 43; ((with_reducible refine (HC1.out _ ?_).mono ?_); (first | exact hS0 | assumption)); rintro _ w2 ⟨rfl, hS2, hb2⟩) | (go_at_call 43; ((with_reducible refine (HC3.out _ ?_).mono ?_); (first | exact hS0 | assumption)); rintro _ w3 ⟨rfl, hS3, hb3⟩) | (go_at_call 44; ((with_reducible refine (HK0.out _ ?_).mono ?_); (first | exact hS0 | assumption)); rintro _ w4 ⟨⟨fv4, rfl, ho4, hF4⟩, hS4, hb4⟩; have HF4 := Lib.hid hF4; obtain ⟨n4, caps4, rfl, -, -⟩ := hF4) | (go_at_call 44; ((with_reducible refine (HK1.out _ ?_).mono ?_); (first | exact hS0 | assumption)); rintro _ w5 ⟨⟨fv5, rfl, ho5, hF5⟩, hS5, hb5⟩; have HF5 := Lib.hid hF5; obtain ⟨n5, caps5, rfl, -, -⟩ := hF5))
  have hb53 := hb3
  have hb43 := hb2.trans ((hb5.trans (hb3.mono hb5.size)).mono hb2.size)
  have HB3 := Lib.hid (HB0.out.trans (hS3.2.2.2.2.mono HB0.out.size))
  have HS3 := Lib.hid hS3.2.2.2.2
  have H43 := Lib.hid hb43
  have H53 := Lib.hid hb53
  clear hS0 hS1 hS2 hS3 hS4 hS5 hb1 hb2 hb3 hb4 hb5 hb43 hb53
  go_wp2_with fail
  go_ret
  refine ⟨⟨.slice (some ⟨w3.heap.size, 0, none⟩) 4 4, rfl, ?_⟩, HB3.out.trans ((below_alloc _ _).mono HB3.out.size)⟩
  refine slof_rows w3 89 4 (PtIs _) [⟨1, E0, N0, nameBad t.states⟩, ⟨2, E1, N1, nameBad t.vars⟩, ⟨3, E2, N2, startBad t.start⟩, ⟨4, E3, 0, fun _ => 0⟩]
    [[.int .i64 1, .int .i64 E0, .int .i64 (N0 : Int), .func (.func n4) #[] caps4], [.int .i64 2, .int .i64 E1, .int .i64 (N1 : Int), .func (.func n5) #[] caps5], [.int .i64 3, .int .i64 E2, .int .i64 (N2 : Int), .func (.func 42) #[] #[.pointer (some ⟨w.heap.size, 0, none⟩)]], [.int .i64 4, .int .i64 E3, .int .i64 0, .nilFunc]] 4 _ rfl rfl ?_
  have hba := below_alloc w3 (.cells #[.int .i64 1, .int .i64 E0, .int .i64 (N0 : Int), .func (.func n4) #[] caps4, .int .i64 2, .int .i64 E1, .int .i64 (N1 : Int), .func (.func n5) #[] caps5, .int .i64 3, .int .i64 E2, .int .i64 (N2 : Int), .func (.func 42) #[] #[.pointer (some ⟨w.heap.size, 0, none⟩)], .int .i64 4, .int .i64 E3, .int .i64 0, .nilFunc] 89)
  intro j x cs hx hcs
  match j, hx, hcs with
  | 0, hx, hcs => cases hx; cases hcs; exact ⟨rfl, _, rfl, rfl, fun _ => (HF4.out.below H43.out).below hba⟩
  | 1, hx, hcs => cases hx; cases hcs; exact ⟨rfl, _, rfl, rfl, fun _ => (HF5.out.below H53.out).below hba⟩
  | 2, hx, hcs => cases hx; cases hcs; exact ⟨rfl, _, rfl, rfl, fun _ => (HST.out w3 HS3.out).below hba⟩
  | 3, hx, hcs => cases hx; cases hcs; exact ⟨rfl, _, rfl, rfl, fun h => absurd h (Nat.lt_irrefl 0)⟩
  | j + 4, hx, hcs => cases hx
end Go.Proofs.YtfooiggedgcjcaaGreatDoor.R

namespace Go.Proofs.YtfooiggedgcjcaaGreatDoor.R
open Go Go.RowKit Go.Proofs.YtfooiggedgcjcaaGreatDoor.B Go.Proofs.YtfooiggedgcjcaaGreatDoor.K Go.Proofs.YtfooiggedgcjcaaGreatDoor.E
set_option linter.unusedVariables false

theorem SlOf.rows {X : Type} {w : World} {k : Nat} {Q : List Value → X → Prop} {a : Option Addr} {n cap : Nat} {xs : List X} (h : SlOf w k Q (.slice a n cap) xs) (hn : xs.length = n) :
    ∃ rows : List (List Value), rows.length = n ∧ (∀ r ∈ rows, r.length = k) ∧ (∀ (j : Nat) x cs, xs[j]? = some x → rows[j]? = some cs → cs.length = k ∧ Q cs x) ∧
      ∀ (j : Nat) cs, rows[j]? = some cs → ∃ b off, a = some ⟨b, off, none⟩ ∧ ∀ i c, cs[i]? = some c → w.cell? ⟨b, off + j * k + i, none⟩ = some c := by
  obtain ⟨C, hC⟩ := Go.Deep.choose_lt (α := List Value) (n := n) (p := fun j cs => ∀ x, xs[j]? = some x → cs.length = k ∧ Q cs x ∧ ∃ b off, a = some ⟨b, off, none⟩ ∧ ∀ i c, cs[i]? = some c → w.cell? ⟨b, off + j * k + i, none⟩ = some c) (fun j hj => by
    obtain ⟨x, hx⟩ : ∃ x, xs[j]? = some x := ⟨_, List.getElem?_eq_getElem (by omega)⟩
    obtain ⟨b, off, ha, cs, h1, h2, h3⟩ := h.at hx
    exact ⟨cs, fun y hy => by rw [hx] at hy; cases hy; exact ⟨h1, h2, b, off, ha, h3⟩⟩)
  have hat : ∀ (j : Nat) cs, ((List.range n).map C)[j]? = some cs → j < n ∧ cs = C j := by
    intro j cs hj
    rw [List.getElem?_map] at hj
    obtain ⟨i, hi, e⟩ := Option.map_eq_some_iff.1 hj
    have := (List.getElem?_eq_some_iff.1 hi).1
    rw [List.length_range] at this
    rw [List.getElem?_range this] at hi
    cases hi
    exact ⟨this, e.symm⟩
  refine ⟨(List.range n).map C, by simp, ?_, ?_, ?_⟩
  · intro r hr
    obtain ⟨j, hj⟩ := List.getElem?_of_mem hr
    obtain ⟨h1, h2⟩ := hat j r hj
    rw [h2]
    exact (hC j h1 _ (List.getElem?_eq_getElem (by omega))).1
  · intro j x cs hx hcs
    obtain ⟨h1, h2⟩ := hat j cs hcs
    rw [h2]
    have := hC j h1 x hx
    exact ⟨this.1, this.2.1⟩
  · intro j cs hcs
    obtain ⟨h1, h2⟩ := hat j cs hcs
    rw [h2]
    exact (hC j h1 _ (List.getElem?_eq_getElem (by omega))).2.2

/-- A row of one's own, of structs. -/
theorem slof_own {X : Type} {w : World} {base : Nat} {e : TypeId} {k n : Nat} {v : Value} {rows : List (List Value)} {xs : List X} {Q : List Value → X → Prop} (h : w.ownsRow base e k v n rows.flatten) (h1 : rows.length = xs.length) (hn : xs.length = n)
    (hl : ∀ r ∈ rows, r.length = k) (h2 : ∀ (j : Nat) x cs, xs[j]? = some x → rows[j]? = some cs → cs.length = k ∧ Q cs x) : SlOf w k Q v xs := by
  subst hn
  rcases h.2 with ⟨rfl, h0⟩ | ⟨g, cap, cur, rfl, _, hg, _, _, _, ht⟩
  · have : xs = [] := List.eq_nil_of_length_eq_zero h0
    rw [this]; exact SlOf.nil w k Q
  · refine ⟨_, cap, rfl, fun j x hj => ?_⟩
    have hjx := (List.getElem?_eq_some_iff.1 hj).1
    obtain ⟨cs, hcs⟩ : ∃ cs, rows[j]? = some cs := ⟨_, List.getElem?_eq_getElem (by omega)⟩
    obtain ⟨e1, e2⟩ := h2 j x cs hj hcs
    refine ⟨g, 0, rfl, cs, e1, e2, fun i c hi => ?_⟩
    have hik : i < k := by rw [← e1]; exact (List.getElem?_eq_some_iff.1 hi).1
    have hfl := flatten_at k rows hl j cs hcs i hik
    rw [hi] at hfl
    rw [← ht, List.getElem?_take] at hfl
    split at hfl
    · unfold World.cell?
      rw [hg]
      show cur[0 + j * k + i]? = some c
      rw [Nat.zero_add, ← Array.getElem?_toList]; exact hfl
    · cases hfl

theorem flatten_take {X : Type} (k : Nat) : ∀ (rows : List (List X)) (n : Nat), (∀ r ∈ rows, r.length = k) → n ≤ rows.length → (rows.take n).flatten.length = n * k
  | _, 0, _, _ => by simp
  | [], n + 1, _, h => by simp at h
  | r :: rows, n + 1, hl, h => by
    rw [List.take_succ_cons, List.flatten_cons, List.length_append, hl r List.mem_cons_self, flatten_take k rows n (fun x hx => hl x (List.mem_cons_of_mem _ hx)) (by simpa using h), Nat.add_mul]; omega

theorem rl_one {w : World} {cs : List Value} {r : Rl} (h : RlIs w cs r) : ∀ u ∈ cs, u.oneCell' = true := by
  obtain ⟨f, g, s, rfl, hf, hg, hs⟩ := h
  obtain ⟨_, _, rfl⟩ := sl_len hf
  obtain ⟨_, _, rfl, _⟩ := hg.open
  obtain ⟨_, _, rfl, _⟩ := hs.open
  intro u hu
  simp only [List.mem_cons, List.not_mem_nil, or_false] at hu
  rcases hu with rfl | rfl | rfl | rfl | rfl <;> rfl

section
variable {P : Program} {w : World}

theorem run_append_none_cap (base : Nat) (t ty e : TypeId) (i : TypeInfo) (size : Nat) (ht : P.underlying t = some (.slice e)) (hi : P.info? e = some i)
    (v : Value) (n c : Nat) (xs : List Value) (hown : w.ownsRow base e size v n xs) :
    (Builtin.append_ #[t, t] ty #[v, .slice none 0 c]).run P w = .ok v w := by
  rcases hown.2 with ⟨rfl, rfl⟩ | ⟨g, cap, cur, rfl, _, _, hnc, _⟩
  · simp [Builtin.append_, run_underlying ht, sizeOf, typeInfo, hi, Builtin.lenOf, Builtin.firstCells]
  · simp [Builtin.append_, run_underlying ht, sizeOf, typeInfo, hi, Builtin.lenOf, Builtin.firstCells, hnc, storeCells]

/-- An append of what may be nil onto a row of the call's own, as one step of a region that draws. -/
theorem step_append_all {ops : Array Oper} {o : Oper} {a : Act} {K : Act → World → Prop} {Q : Exit → Act → World → Prop} {E : Prop} (hgd : o.guard = none) (s x : Operand) (t : TypeId)
    (ho : o.op = .call { callee := .builtin .append, args := #[s, x], argTypes := #[t, t] })
    (base : Nat) (e : TypeId) (i : TypeInfo) (z : Value) (size bytes : Nat) (ht : P.underlying t = some (.slice e)) (hi : P.info? e = some i) (hz : i.zero = some z)
    (hsize : i.size = size) (hby : i.bytes = bytes) (hzs : z.cells.size = size) (hsz : 0 < size)
    (v : Value) (n : Nat) (xs : List Value) (hs : a.eval s = v) (hown : w.ownsRow base e size v n xs)
    (ao : Option Addr) (m c : Nat) (news : List Value) (hx : a.eval x = .slice ao m c) (hl : news.length = m * size) (hnone : ao = none → m = 0) (hnews : ∀ ad, ao = some ad → ∀ j u, news[j]? = some u → w.cell? (ad.add j) = some u) (h1 : ∀ u ∈ news, u.oneCell' = true)
    (h63 : n + m ≤ maxLen) (hbytes : (n + m) * bytes ≤ 140737488355328) (hbase : base ≤ w.heap.size)
    (h : ∀ v' w', w'.ownsRow base e size v' (n + m) (xs ++ news) → w.grownBy w' v.ownBlock → (v'.ownBlock = v.ownBlock ∨ v'.ownBlock = some w.heap.size) → K (a.put o.dst v') w') :
    if Region.wanted o (yielded ops a.tmps) = true then Oper.wp P o a w K Q else E := by
  have hw : Region.wanted o (yielded ops a.tmps) = true := by simp [Region.wanted, hgd]
  rw [if_pos hw]
  cases ao with
  | some ad =>
    obtain ⟨v', w', hr, h2, h3, _, h5⟩ := run_append_own_at (P := P) w base t o.type e i z size bytes ht hi hz hsize hby hzs hsz v n xs hown ad m c news hl (hnews ad rfl) h1 h63 hbytes hbase
    unfold Oper.wp execOp
    simp only [ho, resolve, invoke, builtin, Sem.run_bind, Sem.run_pure, Result.andThen_ok, List.map_toArray, List.map_cons, List.map_nil, hs, hx, hr]
    exact h v' w' h2 h3 h5
  | none =>
    obtain rfl := hnone rfl
    have hn : news = [] := List.eq_nil_of_length_eq_zero (by simpa using hl)
    subst hn
    have hr := run_append_none_cap (P := P) base t o.type e i size ht hi v n c xs hown
    unfold Oper.wp execOp
    simp only [ho, resolve, invoke, builtin, Sem.run_bind, Sem.run_pure, Result.andThen_ok, List.map_toArray, List.map_cons, List.map_nil, hs, hx, hr]
    exact h v w (by simpa using hown) (World.grownBy.refl _ _) (Or.inl rfl)
end

theorem cell_other5 {w : World} {g b j k : Nat} {u : Value} (h : w.cell? ⟨b, j, none⟩ = some u) (x : Value) (hne : b ≠ g) : (w.setCell ⟨g, k, none⟩ x).cell? ⟨b, j, none⟩ = some u := by
  rw [World.cell?_setCell_other w ⟨g, k, none⟩ ⟨b, j, none⟩ _ (by intro e; injection e; omega)]; exact h

theorem own_empty5 (W : World) (base : Nat) (e : TypeId) (s : Nat) (h : base ≤ W.heap.size) : (W.alloc (.cells #[] e)).ownsRow base e s (.slice (some ⟨W.heap.size, 0, none⟩) 0 0) 0 [] :=
  ⟨by simp, Or.inr ⟨W.heap.size, 0, #[], rfl, h, heap_alloc_at _ _, Nat.le_refl _, Nat.zero_le _, by simp, by simp⟩⟩

theorem own_shape5 {w : World} {base : Nat} {e : TypeId} {s : Nat} {v : Value} {n : Nat} {xs : List Value} (h : w.ownsRow base e s v n xs) : ∃ a cap, v = .slice a n cap := by
  rcases h.2 with ⟨rfl, rfl⟩ | ⟨g, cap, cur, rfl, _⟩
  · exact ⟨none, 0, rfl⟩
  · exact ⟨_, cap, rfl⟩

theorem own_set5 {w : World} {base g j : Nat} {e : TypeId} {s : Nat} {v x : Value} {n : Nat} {xs : List Value} (h : w.ownsRow base e s v n xs) (hg : g < base) : (w.setCell ⟨g, j, none⟩ x).ownsRow base e s v n xs := by
  refine ⟨h.1, ?_⟩
  rcases h.2 with h0 | ⟨k, cap, cur, h1, h2, h3, h4⟩
  · exact Or.inl h0
  · exact Or.inr ⟨k, cap, cur, h1, h2, by rw [heap_setCell_other _ ⟨g, j, none⟩ _ _ (by show k ≠ g; omega)]; exact h3, h4⟩

theorem flat_cell (w : World) (b k : Nat) : ∀ (rows : List (List Value)) (off : Nat), (∀ r ∈ rows, r.length = k) → (∀ (q : Nat) cs, rows[q]? = some cs → ∀ (i : Nat) c, cs[i]? = some c → w.cell? ⟨b, off + q * k + i, none⟩ = some c) →
    ∀ (j : Nat) u, rows.flatten[j]? = some u → w.cell? ⟨b, off + j, none⟩ = some u
  | [], _, _, _, j, u, h => by simp at h
  | r :: rows, off, hl, hc, j, u, h => by
    have hr := hl r List.mem_cons_self
    rw [List.flatten_cons] at h
    by_cases hj : j < k
    · rw [List.getElem?_append_left (by omega)] at h
      have := hc 0 r rfl j u h
      rw [Nat.zero_mul, Nat.add_zero] at this
      exact this
    · rw [List.getElem?_append_right (by omega), hr] at h
      have := flat_cell w b k rows (off + k) (fun x hx => hl x (List.mem_cons_of_mem _ hx)) (fun q cs hq i c hi => by
        have := hc (q + 1) cs (by simpa using hq) i c hi
        rw [Nat.add_mul] at this
        rw [show off + k + q * k + i = off + (q * k + 1 * k) + i by omega]
        exact this) (j - k) u h
      rw [show off + k + (j - k) = off + j by omega] at this
      exact this

end Go.Proofs.YtfooiggedgcjcaaGreatDoor.R
