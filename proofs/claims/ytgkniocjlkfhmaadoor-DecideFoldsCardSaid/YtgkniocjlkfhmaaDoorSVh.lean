/-
  Layer 5, the program's side: Check.
  Layer 7, the program's side: mayBe, New, Right.
  Layer 7, a table, a state and a command in boxes.
  Layer 5, the program's side: For, and where a rule leads.
  Layer 7, the program's side: unfit.
-/
import Derived.Test.YtgkniocjlkfhmaaDoorRPw
import Derived.Test.YtgkniocjlkfhmaaDoorDPb
import Derived.Test.YtgkniocjlkfhmaaDoorSVg
import Derived.Test.YtgkniocjlkfhmaaDoorSVd
import Derived.BigQuiet
namespace Go.Proofs.YtgkniocjlkfhmaaDoor.R
open Go Go.RowKit Go.Proofs.YtgkniocjlkfhmaaDoor.B Go.Proofs.YtgkniocjlkfhmaaDoor.K Go.Proofs.YtgkniocjlkfhmaaDoor.E
set_option linter.unusedVariables false

theorem ffRules_at (t : Tb) (n m : Nat) (r : Rl) (h : t.rules[n]? = some r) : ffRules t n (m + 1) = if ff n (ruleParts t n r) ≠ (0, 0, 0, 0) then ff n (ruleParts t n r) else ffRules t (n + 1) m := by
  show (match t.rules[n]? with | some r => _ | none => _) = _
  rw [h]

theorem table_places (t : Tb) (hw : TbWf t) : ∀ p ∈ tableParts t, p.places ≤ 9223372036854775807 := by
  obtain ⟨⟨_, h0⟩, ⟨_, h1⟩, ⟨_, h2⟩, _, h3⟩ := hw
  intro p hp
  simp only [tableParts, List.mem_cons, List.not_mem_nil, or_false] at hp
  rcases hp with rfl | rfl | rfl | rfl
  · exact h0
  · exact h1
  · exact h2
  · exact Nat.zero_le _

theorem rule_places (t : Tb) (n : Nat) (r : Rl) (hw : RlWf r) : ∀ p ∈ ruleParts t n r, p.places ≤ 9223372036854775807 := by
  obtain ⟨_, _, ⟨_, h0⟩, ⟨_, h1⟩, ⟨_, h2⟩⟩ := hw
  intro p hp
  simp only [ruleParts, List.mem_cons, List.not_mem_nil, or_false] at hp
  rcases hp with rfl | rfl | rfl | rfl | rfl
  · exact Nat.zero_le _
  · exact Nat.zero_le _
  · exact h0
  · exact h1
  · exact h2

theorem ft_ne {f : Ft} (h : f ≠ (0, 0, 0, 0)) : (f.1 == 0 && (f.2.1 == 0 && (f.2.2.1 == 0 && f.2.2.2 == 0))) = false := by
  obtain ⟨a, b, c, d⟩ := f
  cases hx : (a == 0 && (b == 0 && (c == 0 && d == 0))) with
  | false => rfl
  | true =>
    simp only [Bool.and_eq_true, beq_iff_eq] at hx
    obtain ⟨rfl, rfl, rfl, rfl⟩ := hx
    exact absurd rfl h

/-- How the world of Check's loop stands: the box of the table, the result's cells, and the fault's so far. -/
structure Ck (w : World) (g2 g3 : Nat) (c0 c1 c2 c3 : Value) (wr : World) (f : Ft) : Prop where
  below : Below w.heap.size w wr
  le : w.heap.size ≤ g2
  lt : g2 < g3
  res : F4 wr g2 (0, 0, 0, 0)
  cur : F4 wr g3 f
  q0 : wr.cell? ⟨w.heap.size, 0, none⟩ = some c0
  q1 : wr.cell? ⟨w.heap.size, 1, none⟩ = some c1
  q2 : wr.cell? ⟨w.heap.size, 2, none⟩ = some c2
  q3 : wr.cell? ⟨w.heap.size, 3, none⟩ = some c3

theorem f4_kept {w : World} {g b : Nat} {f : Ft} (h : F4 w g f) (x y z u : Value) (hne : b ≠ g) : F4 ((((w.setCell ⟨b, 0, none⟩ x).setCell ⟨b, 1, none⟩ y).setCell ⟨b, 2, none⟩ z).setCell ⟨b, 3, none⟩ u) g f := by
  unfold F4 at h ⊢
  rw [heap_setCell_other _ _ _ _ hne.symm, heap_setCell_other _ _ _ _ hne.symm, heap_setCell_other _ _ _ _ hne.symm, heap_setCell_other _ _ _ _ hne.symm]
  exact h

theorem cell_kept4 {w : World} {g b j : Nat} {u : Value} (h : w.cell? ⟨b, j, none⟩ = some u) (hne : b ≠ g) (x y z v : Value) : ((((w.setCell ⟨g, 0, none⟩ x).setCell ⟨g, 1, none⟩ y).setCell ⟨g, 2, none⟩ z).setCell ⟨g, 3, none⟩ v).cell? ⟨b, j, none⟩ = some u := by
  have e : ∀ (W : World) (i : Nat) (v : Value), (W.setCell ⟨g, i, none⟩ v).cell? ⟨b, j, none⟩ = W.cell? ⟨b, j, none⟩ := fun W i v => World.cell?_setCell_other W ⟨g, i, none⟩ ⟨b, j, none⟩ v (by intro e; injection e; omega)
  rw [e, e, e, e]
  exact h

theorem Ck.set {w : World} {g2 g3 : Nat} {c0 c1 c2 c3 : Value} {wr : World} {f : Ft} (h : Ck w g2 g3 c0 c1 c2 c3 wr f) (x : Ft) :
    Ck w g2 g3 c0 c1 c2 c3 ((((wr.setCell ⟨g3, 0, none⟩ (.int .i64 x.1)).setCell ⟨g3, 1, none⟩ (.int .i64 x.2.1)).setCell ⟨g3, 2, none⟩ (.int .i64 x.2.2.1)).setCell ⟨g3, 3, none⟩ (.int .i64 x.2.2.2)) x := by
  have hl := h.le
  have ht := h.lt
  refine ⟨below_set4 h.below (by omega) _ _ _ _, hl, ht, f4_kept h.res _ _ _ _ (by omega), h.cur.set x, ?_, ?_, ?_, ?_⟩
  · exact cell_kept4 h.q0 (by omega) _ _ _ _
  · exact cell_kept4 h.q1 (by omega) _ _ _ _
  · exact cell_kept4 h.q2 (by omega) _ _ _ _
  · exact cell_kept4 h.q3 (by omega) _ _ _ _

theorem Ck.call {w : World} {g2 g3 : Nat} {c0 c1 c2 c3 : Value} {wr w' : World} {f : Ft} (h : Ck w g2 g3 c0 c1 c2 c3 wr f) (hb : Below wr.heap.size wr w') : Ck w g2 g3 c0 c1 c2 c3 w' f :=
  ⟨h.below.trans (hb.mono h.below.size), h.le, h.lt, h.res.below hb, h.cur.below hb, kept_cell hb h.q0, kept_cell hb h.q1, kept_cell hb h.q2, kept_cell hb h.q3⟩

/-- What the fault so far tells, K rules looked at. -/
def ChkAt (t : Tb) (N : Nat) (f : Ft) (K : Nat) : Prop := (f ≠ (0, 0, 0, 0) → f = chk5 t) ∧ (f = (0, 0, 0, 0) → ffRules t K (N - K) = chk5 t)

theorem chkAt_start {t : Tb} {N : Nat} {f : Ft} (hN : t.rules.length = N) (hf : ff (-1) (tableParts t) = f) : ChkAt t N f 0 := by
  subst hN
  unfold ChkAt chk5
  rw [hf]
  exact ⟨fun h => (if_pos h).symm, fun h => by rw [if_neg (fun e => e h)]; rfl⟩

theorem chkAt_next {t : Tb} {N : Nat} {K : Nat} {r : Rl} {f : Ft} (h : ChkAt t N (0, 0, 0, 0) K) (hr : t.rules[K]? = some r) (hK : K < N) (hf : ff K (ruleParts t K r) = f) : ChkAt t N f (K + 1) := by
  have h2 := h.2 rfl
  rw [show N - K = (N - (K + 1)) + 1 by omega, ffRules_at t K _ r hr, hf] at h2
  constructor
  · intro hne; rw [← h2, if_pos hne]
  · intro he; rw [← h2, if_neg (fun e => e he)]

set_option maxHeartbeats 8000000 in
set_option maxRecDepth 100000 in
theorem check_of (t : Tb) (c0 c1 c2 c3 : Value) (w : World) (h : TbIs w [c0, c1, c2, c3] t) (hw : TbWf t) (hG : I.Glob w)
    (HOR : ∀ W, Below w.heap.size w W → ∀ (n : Nat) r, t.rules[n]? = some r → Calls Tryd.prog 36 #[.agg #[c0, c1, c2, c3], .int .i64 (n : Int)] W fun z w' => (∃ v, z = .returned v ∧ SlOf w' 4 (PtIs w') v (ruleParts t n r)) ∧ Below W.heap.size W w') :
    Calls Tryd.prog 26 #[.agg #[c0, c1, c2, c3]] w fun z w' => z = .returned (chk5 t).v ∧ Below w.heap.size w w' := by
  have HT := Lib.hid h
  have HW := Lib.hid hw
  have HORH := Lib.hid HOR
  obtain ⟨d0, d1, d2, d3, e, h0, h1, h2, h3⟩ := h
  cases e
  obtain ⟨a3, cap3, rfl, h3⟩ := h3.open
  obtain ⟨N, hN⟩ : ∃ N, t.rules.length = N := ⟨_, rfl⟩
  have hNL := hw.2.2.2.2
  rw [hN] at HT HORH hNL ⊢
  have HN := Lib.hid hN
  have HNL := Lib.hid hNL
  have HOT := Lib.hid (fun (W : World) (hb : Below w.heap.size w W) => ofTable_any t c0 c1 c2 (.slice a3 N cap3) W (HT.out.below hb) HW.out (hG.below hb))
  obtain ⟨W0, hW0⟩ : ∃ W0, w.alloc (.cells #[c0, c1, c2, .slice a3 N cap3] 37) = W0 := ⟨_, rfl⟩
  have hB0 : Below w.heap.size w W0 := by rw [← hW0]; exact below_alloc _ _
  have q3 : W0.cell? ⟨w.heap.size, 3, none⟩ = some (.slice a3 N cap3) := by rw [← hW0]; exact box_cell _ _ _ _ _ rfl
  have q2 : W0.cell? ⟨w.heap.size, 2, none⟩ = some c2 := by rw [← hW0]; exact box_cell _ _ _ _ _ rfl
  have q1 : W0.cell? ⟨w.heap.size, 1, none⟩ = some c1 := by rw [← hW0]; exact box_cell _ _ _ _ _ rfl
  have q0 : W0.cell? ⟨w.heap.size, 0, none⟩ = some c0 := by rw [← hW0]; exact box_cell _ _ _ _ _ rfl
  obtain ⟨g2, hg2⟩ : ∃ g, W0.heap.size = g := ⟨_, rfl⟩
  obtain ⟨W1, hW1⟩ : ∃ W1, W0.alloc (.cells #[.int .i64 0, .int .i64 0, .int .i64 0, .int .i64 0] 69) = W1 := ⟨_, rfl⟩
  have hB1 : Below W0.heap.size W0 W1 := by rw [← hW1]; exact below_alloc _ _
  have hg2w : w.heap.size ≤ g2 := by rw [← hg2]; exact hB0.size
  have F2 : Hid (F4 W1 g2 (0, 0, 0, 0)) := Lib.hid (by rw [← hW1, ← hg2]; exact heap_alloc_at _ _)
  have r0 := kept_cell hB1 q0
  have r1 := kept_cell hB1 q1
  have r2 := kept_cell hB1 q2
  have r3 := kept_cell hB1 q3
  have HB1 := Lib.hid (hB0.trans (hB1.mono hB0.size))
  have HO1 := Lib.hid (HOT.out _ HB1.out)
  clear hN hNL h0 h1 h2 h3 hw hG HOR hB0 hB1 q0 q1 q2 q3
  go_enter Tryd.func26, Tryd.ntmps26
  go_wp2_with fail
  refine HO1.out.mono ?_
  rintro _ w2 ⟨⟨v2, rfl, hS2⟩, hb2⟩
  have HF2 := Lib.hid (firstFault_any (-1) (tableParts t) v2 w2 hS2 (show (4 : Nat) ≤ 100 by decide) (table_places t HW.out))
  have r0 := kept_cell hb2 r0
  have r1 := kept_cell hb2 r1
  have r2 := kept_cell hb2 r2
  have r3 := kept_cell hb2 r3
  have HB2 := Lib.hid (HB1.out.trans (hb2.mono HB1.out.size))
  have F2 := Lib.hid (F2.out.below hb2)
  clear hS2 hb2
  go_wp2_with fail
  refine HF2.out.mono ?_
  rintro _ w3 ⟨rfl, hb3⟩
  have r0 := kept_cell hb3 r0
  have r1 := kept_cell hb3 r1
  have r2 := kept_cell hb3 r2
  have r3 := kept_cell hb3 r3
  have HB3 := Lib.hid (HB2.out.trans (hb3.mono HB2.out.size))
  have F2 := Lib.hid (F2.out.below hb3)
  clear hb3
  obtain ⟨⟨e0, e1, e2, e3⟩, hf0⟩ : ∃ f, ff (-1) (tableParts t) = f := ⟨_, rfl⟩
  rw [hf0, show Ft.v (e0, e1, e2, e3) = .agg #[.int .i64 e0, .int .i64 e1, .int .i64 e2, .int .i64 e3] from rfl]
  have hg23 : g2 < w3.heap.size := (Array.getElem?_eq_some_iff.1 F2.out).1
  obtain ⟨g3, hg3⟩ : ∃ g, w3.heap.size = g := ⟨_, rfl⟩
  obtain ⟨W4, hW4⟩ : ∃ W4, w3.alloc (.cells #[.int .i64 0, .int .i64 0, .int .i64 0, .int .i64 0] 69) = W4 := ⟨_, rfl⟩
  have hB4 : Below w3.heap.size w3 W4 := by rw [← hW4]; exact below_alloc _ _
  have F3 : Hid (F4 W4 g3 (0, 0, 0, 0)) := Lib.hid (by rw [← hW4, ← hg3]; exact heap_alloc_at _ _)
  have r0 := kept_cell hB4 r0
  have r1 := kept_cell hB4 r1
  have r2 := kept_cell hB4 r2
  have r3 := kept_cell hB4 r3
  have HB4 := Lib.hid (HB3.out.trans (hB4.mono HB3.out.size))
  have F2 := Lib.hid (F2.out.below hB4)
  rw [hg3] at hg23
  obtain ⟨⟨s0, t0⟩, ⟨s1, t1⟩, ⟨s2, t2⟩, s3, t3⟩ := F3.out.cells
  clear hB4
  go_wp2_with fail
  have HCK : Hid (ChkAt t N (e0, e1, e2, e3) 0) := Lib.hid (chkAt_start HN.out hf0)
  obtain ⟨W5, hW5⟩ : ∃ W5, ((((W4.setCell ⟨g3, 0, none⟩ (.int .i64 e0)).setCell ⟨g3, 1, none⟩ (.int .i64 e1)).setCell ⟨g3, 2, none⟩ (.int .i64 e2)).setCell ⟨g3, 3, none⟩ (.int .i64 e3)) = W5 := ⟨_, rfl⟩
  rw [hW5]
  have HC5 : Hid (Ck w g2 g3 c0 c1 c2 (.slice a3 N cap3) W5 (e0, e1, e2, e3)) := Lib.hid (by
    rw [← hW5]
    exact Ck.set ⟨HB4.out, hg2w, hg23, F2.out, F3.out, r0, r1, r2, r3⟩ (e0, e1, e2, e3))
  clear hW5 hW4 hf0 HO1 HF2 HOT F2 F3 r0 r1 r2 r3 s0 s1 s2 s3 t0 t1 t2 t3 HB4 HB3 HB2 HB1 hW0 hW1 hg2 hg3
  go_loopw [4] (fun k wr => ∃ (K : Nat) (f : Ft), k = .int .i64 (K : Int) ∧ K ≤ N ∧ Hid (ChkAt t N f K) ∧ Hid (Ck w g2 g3 c0 c1 c2 (.slice a3 N cap3) wr f)) (fun k _ => N - (intOf k).toNat)
  case atStart => exact ⟨0, _, rfl, Nat.zero_le _, HCK, HC5⟩
  case round =>
    obtain ⟨K, ⟨e0, e1, e2, e3⟩, rfl, hK, HI, HC⟩ := hrel
    obtain ⟨⟨s0, t0⟩, ⟨s1, t1⟩, ⟨s2, t2⟩, s3, t3⟩ := HC.out.cur.cells
    obtain ⟨⟨u0, v0⟩, ⟨u1, v1⟩, ⟨u2, v2⟩, u3, v3⟩ := HC.out.res.cells
    have r0 := HC.out.q0
    have r1 := HC.out.q1
    have r2 := HC.out.q2
    have r3 := HC.out.q3
    by_cases hlt : K < N
    · have hltI : (K : Int) < (N : Int) := by omega
      by_cases hf : (e0, e1, e2, e3) = ((0, 0, 0, 0) : Ft)
      · cases hf
        obtain ⟨r, hr⟩ : ∃ r, t.rules[K]? = some r := ⟨_, List.getElem?_eq_getElem (by rw [HN.out]; exact hlt)⟩
        have HO := Lib.hid (HORH.out wr HC.out.below K r hr)
        have hRW := HW.out.2.2.2.1 r (List.mem_of_getElem? hr)
        have HRW := Lib.hid hRW
        clear hRW
        go_wp2_with fail
        refine HO.out.mono ?_
        rintro _ w6 ⟨⟨v6, rfl, hS6⟩, hb6⟩
        have HC6 := Lib.hid (HC.out.call hb6)
        have HF6 := Lib.hid (firstFault_any (K : Int) (ruleParts t K r) v6 w6 hS6 (show (5 : Nat) ≤ 100 by decide) (rule_places t K r HRW.out))
        clear hS6 hb6 HO s0 s1 s2 s3 t0 t1 t2 t3 u0 u1 u2 u3 v0 v1 v2 v3 r0 r1 r2 r3
        go_wp2_with fail
        refine HF6.out.mono ?_
        rintro _ w7 ⟨rfl, hb7⟩
        have HC7 := Lib.hid (HC6.out.call hb7)
        obtain ⟨⟨x0, x1, x2, x3⟩, hx⟩ : ∃ f, ff (K : Int) (ruleParts t K r) = f := ⟨_, rfl⟩
        have HI2 := Lib.hid (chkAt_next HI.out hr hlt hx)
        rw [hx, show Ft.v (x0, x1, x2, x3) = .agg #[.int .i64 x0, .int .i64 x1, .int .i64 x2, .int .i64 x3] from rfl]
        have HC8 := Lib.hid (HC7.out.set (x0, x1, x2, x3))
        obtain ⟨⟨s0, t0⟩, ⟨s1, t1⟩, ⟨s2, t2⟩, s3, t3⟩ := HC7.out.cur.cells
        have hwK := wrap_next K (Nat.lt_of_lt_of_le hlt HNL.out)
        clear hb7 hx HF6 HI
        go_wp2_with fail
        clear hwK hltI
        exact ⟨⟨K + 1, _, by go_num, by omega, HI2, HC8⟩, by simp [intOf]; omega⟩
      · have HV := Lib.hid (HI.out.1 hf)
        have hcase : e0 ≠ 0 ∨ (e0 = 0 ∧ e1 ≠ 0) ∨ (e0 = 0 ∧ e1 = 0 ∧ e2 ≠ 0) ∨ (e0 = 0 ∧ e1 = 0 ∧ e2 = 0 ∧ e3 ≠ 0) := by
          by_cases h0 : e0 = 0
          · by_cases h1 : e1 = 0
            · by_cases h2 : e2 = 0
              · by_cases h3 : e3 = 0
                · exact absurd (by rw [h0, h1, h2, h3]) hf
                · exact Or.inr (Or.inr (Or.inr ⟨h0, h1, h2, h3⟩))
              · exact Or.inr (Or.inr (Or.inl ⟨h0, h1, h2⟩))
            · exact Or.inr (Or.inl ⟨h0, h1⟩)
          · exact Or.inl h0
        clear hf HI
        rcases hcase with h0 | ⟨rfl, h1⟩ | ⟨rfl, rfl, h2⟩ | ⟨rfl, rfl, rfl, h3⟩
        · have hb : (e0 == 0) = false := beq_eq_false_iff_ne.2 h0
          go_wp2_with fail
          exact f4_end (e0, e1, e2, e3) rfl rfl rfl (HC.out.res.set (e0, e1, e2, e3)) ⟨by rw [HV.out], below_set4 HC.out.below HC.out.le _ _ _ _⟩
        · have hb : (e1 == 0) = false := beq_eq_false_iff_ne.2 h1
          go_wp2_with fail
          exact f4_end (0, e1, e2, e3) rfl rfl rfl (HC.out.res.set (0, e1, e2, e3)) ⟨by rw [HV.out], below_set4 HC.out.below HC.out.le _ _ _ _⟩
        · have hb : (e2 == 0) = false := beq_eq_false_iff_ne.2 h2
          go_wp2_with fail
          exact f4_end (0, 0, e2, e3) rfl rfl rfl (HC.out.res.set (0, 0, e2, e3)) ⟨by rw [HV.out], below_set4 HC.out.below HC.out.le _ _ _ _⟩
        · have hb : (e3 == 0) = false := beq_eq_false_iff_ne.2 h3
          go_wp2_with fail
          exact f4_end (0, 0, 0, e3) rfl rfl rfl (HC.out.res.set (0, 0, 0, e3)) ⟨by rw [HV.out], below_set4 HC.out.below HC.out.le _ _ _ _⟩
    · have hltI : ¬ (K : Int) < (N : Int) := by omega
      have hKN : K = N := by omega
      have hv : (e0, e1, e2, e3) = chk5 t := by
        by_cases hf : (e0, e1, e2, e3) = ((0, 0, 0, 0) : Ft)
        · have := HI.out.2 hf
          rw [hKN, Nat.sub_self] at this
          rw [← this, hf]; rfl
        · exact HI.out.1 hf
      have HV := Lib.hid hv
      clear hv hKN
      go_wp2_with fail
      exact f4_end (e0, e1, e2, e3) rfl rfl rfl (HC.out.res.set (e0, e1, e2, e3)) ⟨by rw [HV.out], below_set4 HC.out.below HC.out.le _ _ _ _⟩

theorem check_any (t : Tb) (c0 c1 c2 c3 : Value) (w : World) (h : TbIs w [c0, c1, c2, c3] t) (hw : TbWf t) (hG : I.Glob w) :
    Calls Tryd.prog 26 #[.agg #[c0, c1, c2, c3]] w fun z w' => z = .returned (chk5 t).v ∧ Below w.heap.size w w' :=
  check_of t c0 c1 c2 c3 w h hw hG fun W hb n r hr => ofRule_any t c0 c1 c2 c3 n r W (h.below hb) hw (hG.below hb) hr

/-- May a table be? -/
def mayB (t : Tb) : Bool := decide (chk5 t = (0, 0, 0, 0))

end Go.Proofs.YtgkniocjlkfhmaaDoor.R

namespace Go.Proofs.YtgkniocjlkfhmaaDoor.D
open Go Go.RowKit Go.Proofs.YtgkniocjlkfhmaaDoor.B Go.Proofs.YtgkniocjlkfhmaaDoor.K Go.Proofs.YtgkniocjlkfhmaaDoor.E Go.Proofs.YtgkniocjlkfhmaaDoor.R
set_option linter.unusedVariables false
set_option maxRecDepth 100000

theorem ff_first (rule : Int) : ∀ l : List Pt, (ff rule l).1 = 0 → ff rule l = (0, 0, 0, 0)
  | [], _ => rfl
  | p :: r, h => by
    unfold ff at h ⊢
    split at h
    · rename_i h1; exact absurd h h1
    · rename_i h1
      rw [if_neg h1]
      cases hx : firstBad p.wrong 0 p.places with
      | some x => rw [hx] at h; exact absurd h (firstBad_ne _ _ _ x hx)
      | none => rw [hx] at h; exact ff_first rule r h

theorem ffRules_first (t : Tb) : ∀ m n : Nat, (ffRules t n m).1 = 0 → ffRules t n m = (0, 0, 0, 0)
  | 0, _, _ => rfl
  | m + 1, n, h => by
    unfold ffRules at h ⊢
    cases hr : t.rules[n]? with
    | none => rfl
    | some r =>
      rw [hr] at h
      simp only at h ⊢
      split at h
      · rename_i h1; exact absurd (ff_first _ _ h) h1
      · rename_i h1
        rw [if_neg h1]
        exact ffRules_first t m (n + 1) h

theorem chk5_first (t : Tb) : (chk5 t).1 = 0 → chk5 t = (0, 0, 0, 0) := by
  intro h
  unfold chk5 at h ⊢
  split at h
  · rename_i h1; exact absurd (ff_first _ _ h) h1
  · rename_i h1
    rw [if_neg h1]
    exact ffRules_first t _ _ h

theorem mayB_first (t : Tb) : ((chk5 t).1 == 0) = mayB t := by
  unfold mayB
  rw [Bool.eq_iff_iff, beq_iff_eq, decide_eq_true_iff]
  exact ⟨chk5_first t, fun h => by rw [h]⟩

/-- Where a stream begins, of a table that may be. -/
theorem start_of {t : Tb} (h : chk5 t = (0, 0, 0, 0)) : t.start.length = t.vars.length ∧ t.start.all isVal = true := by
  obtain ⟨ht, _⟩ := (chk5_zero t).1 h
  obtain ⟨h1, h2⟩ := ht ⟨3, unlessE (decide ((t.start.length : Int) = t.vars.length)) 2, t.start.length, startBad t.start⟩ (by simp [tableParts])
  have h3 := of_decide_eq_true (unlessE_zero (by decide) h1)
  refine ⟨by omega, List.all_eq_true.2 fun x hx => ?_⟩
  obtain ⟨k, hk⟩ := List.getElem?_of_mem hx
  have h4 := h2 k (List.getElem?_eq_some_iff.1 hk).1
  simp only [startBad, hk] at h4
  exact unlessE_zero (by decide) h4

set_option maxHeartbeats 1000000 in
theorem mayBe7_any (t : Tb) (c0 c1 c2 c3 : Value) (w : World) (h : TbIs w [c0, c1, c2, c3] t) (hw : TbWf t) (hG : I.Glob w) :
    Calls Tryd.prog 20 #[.agg #[c0, c1, c2, c3]] w fun z w' => z = .returned (.bool (mayB t)) ∧ Below w.heap.size w w' := by
  have HC := Lib.hid (fun (W : World) (hb : Below w.heap.size w W) => check_any t c0 c1 c2 c3 W (h.below hb) hw (hG.below hb))
  rw [← mayB_first t]
  obtain ⟨d0, d1, d2, d3, e, h0, h1, h2, h3⟩ := h
  cases e
  obtain ⟨W0, hW0⟩ : ∃ W0, w.alloc (.cells #[c0, c1, c2, c3] 37) = W0 := ⟨_, rfl⟩
  have hB0 : Below w.heap.size w W0 := by rw [← hW0]; exact below_alloc _ _
  have q0 : W0.cell? ⟨w.heap.size, 0, none⟩ = some c0 := by rw [← hW0]; exact box_cell _ _ _ _ _ rfl
  have q1 : W0.cell? ⟨w.heap.size, 1, none⟩ = some c1 := by rw [← hW0]; exact box_cell _ _ _ _ _ rfl
  have q2 : W0.cell? ⟨w.heap.size, 2, none⟩ = some c2 := by rw [← hW0]; exact box_cell _ _ _ _ _ rfl
  have q3 : W0.cell? ⟨w.heap.size, 3, none⟩ = some c3 := by rw [← hW0]; exact box_cell _ _ _ _ _ rfl
  have H := Lib.hid (HC.out W0 hB0)
  have HB0 := Lib.hid hB0
  obtain ⟨⟨e0, e1, e2, e3⟩, hf⟩ : ∃ f, chk5 t = f := ⟨_, rfl⟩
  rw [hf, show Ft.v (e0, e1, e2, e3) = .agg #[.int .i64 e0, .int .i64 e1, .int .i64 e2, .int .i64 e3] from rfl] at H
  rw [hf]
  clear HC h0 h1 h2 h3 hw hG hf hB0
  go_enter Tryd.func20, Tryd.ntmps20
  go_wp2_with fail
  refine H.out.mono ?_
  rintro _ w1 ⟨rfl, hb⟩
  have HB1 := Lib.hid (HB0.out.trans (hb.mono HB0.out.size))
  clear hb
  have hfd : ∀ W : World, (Instr.field 69 (.agg #[.int .i64 e0, .int .i64 e1, .int .i64 e2, .int .i64 e3]) 0).run Tryd.prog W = .ok (.int .i64 e0) W := fun _ => by kernel_rfl
  go_wp2_with fail
  go_ret
  exact ⟨rfl, HB1.out⟩

/-- Three cells of their own. -/
def S3 (w : World) (g : Nat) (a b c : Value) : Prop := w.heap[g]? = some (.cells #[a, b, c] 24 (0, 0))
theorem s3_info : (Tryd.prog.info? 24).map (·.size) = some 3 := by kernel_rfl
theorem S3.set {w : World} {g : Nat} {a b c : Value} (h : S3 w g a b c) (x y z : Value) : S3 (((w.setCell ⟨g, 0, none⟩ x).setCell ⟨g, 1, none⟩ y).setCell ⟨g, 2, none⟩ z) g x y z :=
  heap_setCell_same _ g 2 _ 24 _ (heap_setCell_same _ g 1 _ 24 _ (heap_setCell_same _ g 0 _ 24 _ h))
theorem S3.cells {w : World} {g : Nat} {a b c : Value} (h : S3 w g a b c) : (w.cell? ⟨g, 0, none⟩ = some a ∧ w.frozen? ⟨g, 0, none⟩ = false) ∧ (w.cell? ⟨g, 1, none⟩ = some b ∧ w.frozen? ⟨g, 1, none⟩ = false) ∧ (w.cell? ⟨g, 2, none⟩ = some c ∧ w.frozen? ⟨g, 2, none⟩ = false) := by
  unfold S3 at h
  refine ⟨⟨?_, ?_⟩, ⟨?_, ?_⟩, ⟨?_, ?_⟩⟩ <;> simp [World.cell?, World.frozen?, h]
theorem S3.below {w w' : World} {g : Nat} {a b c : Value} (h : S3 w g a b c) (hb : Below w.heap.size w w') : S3 w' g a b c := (hb.block _ (Array.getElem?_eq_some_iff.1 h).1).trans h
theorem S3.new (w : World) (a b c : Value) : S3 (w.alloc (.cells #[a, b, c] 24)) w.heap.size a b c := heap_alloc_at _ _
theorem below_set3 {B : Nat} {w wr : World} (h : Below B w wr) {g : Nat} (hg : B ≤ g) (a b c : Value) : Below B w (((wr.setCell ⟨g, 0, none⟩ a).setCell ⟨g, 1, none⟩ b).setCell ⟨g, 2, none⟩ c) :=
  ((h.setCell (p := ⟨g, 0, none⟩) hg _).setCell (p := ⟨g, 1, none⟩) hg _).setCell (p := ⟨g, 2, none⟩) hg _
theorem heap_set3 {w : World} {g i : Nat} (h : i ≠ g) (a b c : Value) : (((w.setCell ⟨g, 0, none⟩ a).setCell ⟨g, 1, none⟩ b).setCell ⟨g, 2, none⟩ c).heap[i]? = w.heap[i]? := by
  rw [heap_setCell_other _ ⟨g, 2, none⟩ i _ h, heap_setCell_other _ ⟨g, 1, none⟩ i _ h, heap_setCell_other _ ⟨g, 0, none⟩ i _ h]

/-- The end of a function whose result is a state. -/
theorem s3_end {fn : Func} {p g : Nat} {R : Ending → World → Prop} {ac : Act} {w : World} (a b c : Value) (hres : fn.results = #[.cell p 24]) (hp : ac.tmps.getD p undef = .pointer (some ⟨g, 0, none⟩)) (hd : ac.defers = [])
    (hg : S3 w g a b c) (hR : R (.returned (.agg #[a, b, c])) w) : bodyPost Tryd.prog fn R .ret ac w :=
  bodyPost_ret (v := .agg #[a, b, c]) (results_cell_row hres _ _ g 24 _ (0, 0) _ hp hg Tryd.underlying24 rfl s3_info) hd hR

/-- A state that is handed out. -/
def StOut (s : Stt) (w : World) (z : Ending) (w' : World) : Prop := ∃ v, z = .returned (.agg #[.int .i64 s.pos, .int .i64 s.ver, v]) ∧ SlN w' v s.vars ∧ Below w.heap.size w w'

set_option maxHeartbeats 2000000 in
theorem new_any (t : Tb) (c0 c1 c2 c3 : Value) (w : World) (h : TbIs w [c0, c1, c2, c3] t) (hw : TbWf t) (hG : I.Glob w) :
    Calls Tryd.prog 12 #[.agg #[c0, c1, c2, c3]] w (StOut (begins t) w) := by
  have HC := Lib.hid (fun (W : World) (hb : Below w.heap.size w W) => mayBe7_any t c0 c1 c2 c3 W (h.below hb) hw (hG.below hb))
  have hx : ∃ d0 d1 d2 d3, [c0, c1, c2, c3] = [d0, d1, d2, d3] ∧ SlN w d2 t.start := by
    obtain ⟨d0, d1, d2, d3, e, h0, h1, h2, h3⟩ := h
    exact ⟨d0, d1, d2, d3, e, h2⟩
  obtain ⟨d0, d1, d2, d3, e, h2⟩ := hx
  cases e
  have HV := Lib.hid (fun (hl : t.start.length * 8 ≤ 281474976710656) (W : World) (hb : Below w.heap.size w W) => copied_any t.start c2 W (Sl.below h2 hb) hl)
  obtain ⟨W0, hW0⟩ : ∃ W0, w.alloc (.cells #[c0, c1, c2, c3] 37) = W0 := ⟨_, rfl⟩
  have hB0 : Below w.heap.size w W0 := by rw [← hW0]; exact below_alloc _ _
  have p0 : W0.cell? ⟨w.heap.size, 0, none⟩ = some c0 := by rw [← hW0]; exact box_cell _ _ _ _ _ rfl
  have p1 : W0.cell? ⟨w.heap.size, 1, none⟩ = some c1 := by rw [← hW0]; exact box_cell _ _ _ _ _ rfl
  have p2 : W0.cell? ⟨w.heap.size, 2, none⟩ = some c2 := by rw [← hW0]; exact box_cell _ _ _ _ _ rfl
  have p3 : W0.cell? ⟨w.heap.size, 3, none⟩ = some c3 := by rw [← hW0]; exact box_cell _ _ _ _ _ rfl
  obtain ⟨W1, hW1⟩ : ∃ W1, W0.alloc (.cells #[.int .i64 0, .int .i64 0, .slice none 0 0] 24) = W1 := ⟨_, rfl⟩
  obtain ⟨g, hg⟩ : ∃ g, W0.heap.size = g := ⟨_, rfl⟩
  have hB1 : Below W0.heap.size W0 W1 := by rw [← hW1]; exact below_alloc _ _
  have hs3 : S3 W1 g (.int .i64 0) (.int .i64 0) (.slice none 0 0) := by rw [← hW1, ← hg]; exact S3.new _ _ _ _
  have HB := Lib.hid (hB0.trans (hB1.mono hB0.size))
  have HS := Lib.hid hs3
  have hgw : w.heap.size ≤ g := by rw [← hg]; exact hB0.size
  have HGW := Lib.hid hgw
  have q0 := kept_cell hB1 p0
  have q1 := kept_cell hB1 p1
  have q2 := kept_cell hB1 p2
  have q3 := kept_cell hB1 p3
  have HQ2 := Lib.hid q2
  have H := Lib.hid (HC.out W1 HB.out)
  have HM := Lib.hid (show mayB t = decide (chk5 t = (0, 0, 0, 0)) from rfl)
  obtain ⟨B, hB⟩ : ∃ B, mayB t = B := ⟨_, rfl⟩
  rw [hB] at H HM
  clear p0 p1 p2 p3 hB0 hB1 HC h h2 hB hs3 hgw
  cases B with
  | false =>
    have hbeg : begins t = ⟨0, 0, []⟩ := by unfold begins; rw [if_neg (fun hc => by have := HM.out; rw [hc] at this; exact absurd this (by decide))]
    rw [hbeg]
    go_enter Tryd.func12, Tryd.ntmps12
    go_wp2_with fail
    refine H.out.mono ?_
    rintro _ w2 ⟨rfl, hb2⟩
    have HB2 := Lib.hid hb2
    have HS2 := Lib.hid (HS.out.below hb2)
    obtain ⟨⟨k0, f0⟩, ⟨k1, f1⟩, ⟨k2, f2⟩⟩ := HS2.out.cells
    clear hb2
    go_wp2_with fail
    refine s3_end _ _ _ rfl rfl rfl (HS2.out.set _ _ _) ⟨.slice none 0 0, rfl, Sl.nil _, below_set3 (HB.out.trans (HB2.out.mono HB.out.size)) HGW.out _ _ _⟩
  | true =>
    have hc : chk5 t = (0, 0, 0, 0) := of_decide_eq_true HM.out.symm
    have hbeg : begins t = ⟨0, 0, t.start⟩ := by unfold begins; rw [if_pos hc]
    have hsm : t.start.length * 8 ≤ 281474976710656 := by
      have h1 := (start_of hc).1
      have h2 := (fine_of hc).vars
      omega
    have HCP := Lib.hid (fun (W : World) (hb : Below W1.heap.size W1 W) => HV.out hsm W (HB.out.trans (hb.mono HB.out.size)))
    have HH := Lib.hid hbeg
    clear hbeg hsm hc HM
    rw [HH.out]
    go_enter Tryd.func12, Tryd.ntmps12
    go_wp2_with fail
    refine H.out.mono ?_
    rintro _ w2 ⟨rfl, hb2⟩
    have HB2 := Lib.hid hb2
    have r2 := kept_cell hb2 HQ2.out
    have HS2 := Lib.hid (HS.out.below hb2)
    have HC2 := Lib.hid (HCP.out w2 hb2)
    clear hb2
    go_wp2_with fail
    refine HC2.out.mono ?_
    rintro _ w3 ⟨k, rfl, hk, hn, hb3⟩
    have HB3 := Lib.hid hb3
    have HS3 := Lib.hid (HS2.out.below hb3)
    have HN := Lib.hid hn
    have hgk : g < k := Nat.lt_of_lt_of_le (Array.getElem?_eq_some_iff.1 HS2.out).1 hk
    have HGK := Lib.hid hgk
    obtain ⟨⟨k0, f0⟩, ⟨k1, f1⟩, ⟨k2, f2⟩⟩ := HS3.out.cells
    clear hb3 hn hk hgk
    go_wp2_with fail
    refine s3_end _ _ _ rfl rfl rfl (HS3.out.set _ _ _) ⟨_, rfl, ?_, below_set3 ((HB.out.trans (HB2.out.mono HB.out.size)).trans (HB3.out.mono (Nat.le_trans HB.out.size HB2.out.size))) HGW.out _ _ _⟩
    exact sln_own (show NumsAt _ _ _ by unfold NumsAt; rw [heap_set3 (by have := HGK.out; omega)]; exact HN.out) _

set_option maxHeartbeats 1000000 in
theorem right_any (t : Tb) (s : Stt) (c0 c1 c2 c3 v : Value) (w : World) (h : TbIs w [c0, c1, c2, c3] t) (hw : TbWf t) (hs : SlN w v s.vars) (hl : s.vars.length ≤ 9223372036854775807) (hG : I.Glob w) :
    Calls Tryd.prog 15 #[.agg #[c0, c1, c2, c3], .agg #[.int .i64 s.pos, .int .i64 s.ver, v]] w fun z w' => z = .returned (.bool (right7 t s)) ∧ Below w.heap.size w w' := by
  have HC := Lib.hid (fun (W : World) (hb : Below w.heap.size w W) => mayBe7_any t c0 c1 c2 c3 W (h.below hb) hw (hG.below hb))
  have HV := Lib.hid (fun (W : World) (hb : Below w.heap.size w W) => stands_any t s c0 c1 c2 c3 v W (h.below hb) hw (Sl.below hs hb) hl)
  obtain ⟨W0, hW0⟩ : ∃ W0, w.alloc (.cells #[c0, c1, c2, c3] 37) = W0 := ⟨_, rfl⟩
  have hB0 : Below w.heap.size w W0 := by rw [← hW0]; exact below_alloc _ _
  have p0 : W0.cell? ⟨w.heap.size, 0, none⟩ = some c0 := by rw [← hW0]; exact box_cell _ _ _ _ _ rfl
  have p1 : W0.cell? ⟨w.heap.size, 1, none⟩ = some c1 := by rw [← hW0]; exact box_cell _ _ _ _ _ rfl
  have p2 : W0.cell? ⟨w.heap.size, 2, none⟩ = some c2 := by rw [← hW0]; exact box_cell _ _ _ _ _ rfl
  have p3 : W0.cell? ⟨w.heap.size, 3, none⟩ = some c3 := by rw [← hW0]; exact box_cell _ _ _ _ _ rfl
  obtain ⟨p, hp⟩ : ∃ N, s.pos = N := ⟨_, rfl⟩
  obtain ⟨r, hr⟩ : ∃ N, s.ver = N := ⟨_, rfl⟩
  rw [hp, hr] at HV ⊢
  obtain ⟨W1, hW1⟩ : ∃ W1, W0.alloc (.cells #[.int .i64 p, .int .i64 r, v] 24) = W1 := ⟨_, rfl⟩
  obtain ⟨g, hg⟩ : ∃ g, W0.heap.size = g := ⟨_, rfl⟩
  have hB1 : Below W0.heap.size W0 W1 := by rw [← hW1]; exact below_alloc _ _
  have q0 := kept_cell hB1 p0
  have q1 := kept_cell hB1 p1
  have q2 := kept_cell hB1 p2
  have q3 := kept_cell hB1 p3
  have k0 : W1.cell? ⟨g, 0, none⟩ = some (.int .i64 p) := by rw [← hW1, ← hg]; exact (box3 _ _ _ _ _).1
  have k1 : W1.cell? ⟨g, 1, none⟩ = some (.int .i64 r) := by rw [← hW1, ← hg]; exact (box3 _ _ _ _ _).2.1
  have k2 : W1.cell? ⟨g, 2, none⟩ = some v := by rw [← hW1, ← hg]; exact (box3 _ _ _ _ _).2.2
  have HB := Lib.hid (hB0.trans (hB1.mono hB0.size))
  have HQ := Lib.hid (And.intro q0 (And.intro q1 (And.intro q2 (And.intro q3 (And.intro k0 (And.intro k1 k2))))))
  have H := Lib.hid (HC.out W1 HB.out)
  have hR : right7 t s = (mayB t && stands t s) := by
    unfold right7 mayB
    split
    · rename_i h; rw [decide_eq_true h, Bool.true_and]
    · rename_i h; rw [decide_eq_false h, Bool.false_and]
  rw [hR]
  obtain ⟨B, hB⟩ : ∃ B, mayB t = B := ⟨_, rfl⟩
  obtain ⟨C, hC⟩ : ∃ C, stands t s = C := ⟨_, rfl⟩
  rw [hB] at H
  rw [hC] at HV
  rw [hB, hC]
  have HV1 := Lib.hid (fun (W : World) (hb : Below W1.heap.size W1 W) => HV.out W (HB.out.trans (hb.mono HB.out.size)))
  clear p0 p1 p2 p3 hB0 hB1 HC HV h hs hB hC hR hp hr
  cases B with
  | false =>
    go_enter Tryd.func15, Tryd.ntmps15
    go_wp2_with fail
    refine H.out.mono ?_
    rintro _ w2 ⟨rfl, hb2⟩
    have HB2 := Lib.hid hb2
    clear hb2
    go_wp2_with fail
    go_ret
    exact ⟨rfl, HB.out.trans (HB2.out.mono HB.out.size)⟩
  | true =>
    go_enter Tryd.func15, Tryd.ntmps15
    go_wp2_with fail
    refine H.out.mono ?_
    rintro _ w2 ⟨rfl, hb2⟩
    have HB2 := Lib.hid hb2
    have hq := HQ.out
    have r0 := kept_cell hb2 hq.1
    have r1 := kept_cell hb2 hq.2.1
    have r2 := kept_cell hb2 hq.2.2.1
    have r3 := kept_cell hb2 hq.2.2.2.1
    have s0 := kept_cell hb2 hq.2.2.2.2.1
    have s1 := kept_cell hb2 hq.2.2.2.2.2.1
    have s2 := kept_cell hb2 hq.2.2.2.2.2.2
    have HV2 := Lib.hid (HV1.out w2 hb2)
    clear hb2 hq
    go_wp2_with fail
    refine HV2.out.mono ?_
    rintro _ w3 ⟨rfl, hb3⟩
    have HB3 := Lib.hid hb3
    clear hb3
    go_wp2_with fail
    go_ret
    exact ⟨rfl, (HB.out.trans (HB2.out.mono HB.out.size)).trans (HB3.out.mono (Nat.le_trans HB.out.size HB2.out.size))⟩
end Go.Proofs.YtgkniocjlkfhmaaDoor.D

namespace Go.Proofs.YtgkniocjlkfhmaaDoor.D
open Go Go.RowKit Go.Proofs.YtgkniocjlkfhmaaDoor.B Go.Proofs.YtgkniocjlkfhmaaDoor.K Go.Proofs.YtgkniocjlkfhmaaDoor.E Go.Proofs.YtgkniocjlkfhmaaDoor.R
set_option linter.unusedVariables false
set_option maxRecDepth 100000

/-- A table, a state and a command in boxes of their own. -/
structure Box3 (g0 g1 g2 : Nat) (c0 c1 c2 c3 : Value) (p r : Int) (v : Value) (cl sq : Int) (sr : Value) (rl : Int) (u : Value) (ex : Int) (W : World) : Prop where
  t0 : W.cell? ⟨g0, 0, none⟩ = some c0
  t1 : W.cell? ⟨g0, 1, none⟩ = some c1
  t2 : W.cell? ⟨g0, 2, none⟩ = some c2
  t3 : W.cell? ⟨g0, 3, none⟩ = some c3
  s0 : W.cell? ⟨g1, 0, none⟩ = some (.int .i64 p)
  s1 : W.cell? ⟨g1, 1, none⟩ = some (.int .i64 r)
  s2 : W.cell? ⟨g1, 2, none⟩ = some v
  m0 : W.cell? ⟨g2, 0, none⟩ = some (.int .i64 cl)
  m1 : W.cell? ⟨g2, 1, none⟩ = some (.int .i64 sq)
  m2 : W.cell? ⟨g2, 2, none⟩ = some sr
  m3 : W.cell? ⟨g2, 3, none⟩ = some (.int .i64 rl)
  m4 : W.cell? ⟨g2, 4, none⟩ = some u
  m5 : W.cell? ⟨g2, 5, none⟩ = some (.int .i64 ex)

theorem Box3.below {g0 g1 g2 : Nat} {c0 c1 c2 c3 : Value} {p r : Int} {v : Value} {cl sq : Int} {sr : Value} {rl : Int} {u : Value} {ex : Int} {W W' : World} (h : Box3 g0 g1 g2 c0 c1 c2 c3 p r v cl sq sr rl u ex W) (hb : Below W.heap.size W W') :
    Box3 g0 g1 g2 c0 c1 c2 c3 p r v cl sq sr rl u ex W' :=
  ⟨kept_cell hb h.t0, kept_cell hb h.t1, kept_cell hb h.t2, kept_cell hb h.t3, kept_cell hb h.s0, kept_cell hb h.s1, kept_cell hb h.s2, kept_cell hb h.m0, kept_cell hb h.m1, kept_cell hb h.m2, kept_cell hb h.m3, kept_cell hb h.m4, kept_cell hb h.m5⟩

theorem Box3.new (w : World) (c0 c1 c2 c3 : Value) (p r : Int) (v : Value) (cl sq : Int) (sr : Value) (rl : Int) (u : Value) (ex : Int) :
    Box3 w.heap.size (w.alloc (.cells #[c0, c1, c2, c3] 37)).heap.size ((w.alloc (.cells #[c0, c1, c2, c3] 37)).alloc (.cells #[.int .i64 p, .int .i64 r, v] 24)).heap.size c0 c1 c2 c3 p r v cl sq sr rl u ex
      (((w.alloc (.cells #[c0, c1, c2, c3] 37)).alloc (.cells #[.int .i64 p, .int .i64 r, v] 24)).alloc (.cells #[.int .i64 cl, .int .i64 sq, sr, .int .i64 rl, u, .int .i64 ex] 43)) := by
  refine ⟨?_, ?_, ?_, ?_, ?_, ?_, ?_, ?_, ?_, ?_, ?_, ?_, ?_⟩
  all_goals first
    | exact box_cell _ _ _ _ _ rfl
    | (refine kept_cell (below_alloc _ _) ?_; exact box_cell _ _ _ _ _ rfl)
    | (refine kept_cell (below_alloc _ _) ?_; refine kept_cell (below_alloc _ _) ?_; exact box_cell _ _ _ _ _ rfl)

end Go.Proofs.YtgkniocjlkfhmaaDoor.D

namespace Go.Proofs.YtgkniocjlkfhmaaDoor.R
open Go Go.RowKit Go.Proofs.YtgkniocjlkfhmaaDoor.B Go.Proofs.YtgkniocjlkfhmaaDoor.K Go.Proofs.YtgkniocjlkfhmaaDoor.E
set_option linter.unusedVariables false

theorem isAt_iff (n m : Int) : isAt n m = true ↔ 0 ≤ n ∧ n < m := by
  unfold isAt
  simp

set_option maxHeartbeats 2000000 in
theorem for_any (t : Tb) (c0 c1 c2 c3 : Value) (n s : Int) (w : World) (h : TbIs w [c0, c1, c2, c3] t) (hw : TbWf t) :
    Calls Tryd.prog 28 #[.agg #[c0, c1, c2, c3], .int .i64 n, .int .i64 s] w fun e w' => e = .returned (.bool (isFor t n s)) ∧ Below w.heap.size w w' := by
  obtain ⟨d0, d1, d2, d3, e, h0, h1, h2, h3⟩ := h
  cases e
  obtain ⟨⟨-, hl0⟩, -, -, ⟨hr3, hl3⟩⟩ := hw
  have HR := Lib.hid h3
  have HRW := Lib.hid hr3
  obtain ⟨a0, cap0, rfl, -⟩ := h0
  obtain ⟨a3, cap3, rfl, -⟩ := h3
  rw [List.length_map]
  obtain ⟨S, hS⟩ : ∃ S, t.states.length = S := ⟨_, rfl⟩
  obtain ⟨N, hN⟩ : ∃ N, t.rules.length = N := ⟨_, rfl⟩
  rw [hS] at hl0 ⊢
  rw [hN] at hl3 HR ⊢
  obtain ⟨W0, hW0⟩ : ∃ W0, w.alloc (.cells #[.slice a0 S cap0, c1, c2, .slice a3 N cap3] 37) = W0 := ⟨_, rfl⟩
  have hB0 : Below w.heap.size w W0 := by rw [← hW0]; exact (Below.refl w.heap.size w).alloc (Nat.le_refl _) _
  have HB := Lib.hid hB0
  have q0 : W0.cell? ⟨w.heap.size, 0, none⟩ = some (.slice a0 S cap0) := by rw [← hW0]; unfold World.cell?; rw [heap_alloc_at]; rfl
  have q3 : W0.cell? ⟨w.heap.size, 3, none⟩ = some (.slice a3 N cap3) := by rw [← hW0]; unfold World.cell?; rw [heap_alloc_at]; rfl
  have H1 := Lib.hid (isPlace_any n (N : Int) W0)
  have H2 := Lib.hid (isPlace_any s (S : Int) W0)
  cases x1 : isAt n (N : Int) with
  | false =>
    rw [isFor_no t n s (by rw [hS, hN]; intro hh; rw [(isAt_iff n N).2 ⟨hh.1, hh.2.1⟩] at x1; cases x1)]
    rw [x1] at H1
    clear hS hN h1 h2 hr3 x1 hB0
    go_enter Tryd.func28, Tryd.ntmps28
    go_wp2_with fail
    refine H1.out.mono ?_
    rintro _ w1 ⟨rfl, rfl⟩
    go_wp2_with fail
    go_ret
    exact ⟨rfl, HB.out⟩
  | true =>
    cases x2 : isAt s (S : Int) with
    | false =>
      rw [isFor_no t n s (by rw [hS, hN]; intro hh; rw [(isAt_iff s S).2 ⟨hh.2.2.1, hh.2.2.2⟩] at x2; cases x2)]
      rw [x1] at H1
      rw [x2] at H2
      clear hS hN h1 h2 hr3 x1 x2 hB0
      go_enter Tryd.func28, Tryd.ntmps28
      go_wp2_with fail
      refine H1.out.mono ?_
      rintro _ w1 ⟨rfl, rfl⟩
      go_wp2_with fail
      refine H2.out.mono ?_
      rintro _ w1 ⟨rfl, rfl⟩
      go_wp2_with fail
      go_ret
      exact ⟨rfl, HB.out⟩
    | true =>
      rw [x1] at H1
      rw [x2] at H2
      obtain ⟨y0, y1⟩ := (isAt_iff _ _).1 x1
      obtain ⟨y2, y3⟩ := (isAt_iff _ _).1 x2
      obtain ⟨m, rfl⟩ : ∃ m : Nat, n = m := ⟨n.toNat, by omega⟩
      obtain ⟨q, rfl⟩ : ∃ q : Nat, s = q := ⟨s.toNat, by omega⟩
      obtain ⟨r, hr⟩ : ∃ r, t.rules[m]? = some r := ⟨_, List.getElem?_eq_getElem (by omega)⟩
      rw [isFor_at t m q r (by omega) hr]
      obtain ⟨b, off, ea, cs, -, ⟨f, g, st, rfl, hf, -, -⟩, hc⟩ := HR.out.at hr
      subst ea
      have k2 := (kept_cell HB.out (hc 2 _ rfl))
      have HF := Lib.hid (Sl.below hf HB.out)
      have hfl : r.from_.length ≤ 9223372036854775807 := (HRW.out r (List.mem_of_getElem? hr)).2.2.1.2
      obtain ⟨af, capf, rfl, -⟩ := hf
      have HC := Lib.hid (containsInt_any r.from_ _ (q : Int) W0 HF.out hfl)
      have hE : rlFor r (q : Int) = (((r.from_.length : Int) == 0) || r.from_.any fun y => y == (q : Int)) := by
        rw [← for_end r q]
        congr 1
        rw [List.contains_eq_any_beq]
        congr 1
        funext x
        exact Bool.beq_comm
      rw [hE]
      rw [List.length_map] at HF k2 HC
      obtain ⟨F, hF⟩ : ∃ F, r.from_.length = F := ⟨_, rfl⟩
      rw [hF] at HF k2 hfl HC ⊢
      obtain ⟨B, hB⟩ : ∃ B, (r.from_.any fun y => y == (q : Int)) = B := ⟨_, rfl⟩
      rw [hB] at HC ⊢
      clear hc hS hN hF hfl hl0 hl3 h1 h2 hr3 hr x1 x2 hB0 hE hB
      by_cases hF0 : F = 0
      · subst hF0
        go_enter Tryd.func28, Tryd.ntmps28
        go_wp2_with fail
        refine H1.out.mono ?_
        rintro _ w1 ⟨rfl, rfl⟩
        go_wp2_with fail
        refine H2.out.mono ?_
        rintro _ w1 ⟨rfl, rfl⟩
        go_wp2_with fail
        go_ret
        exact ⟨rfl, HB.out⟩
      · have hFb : ((F : Int) == 0) = false := beq_eq_false_iff_ne.2 (by omega)
        rw [hFb, Bool.false_or]
        go_enter Tryd.func28, Tryd.ntmps28
        go_wp2_with fail
        refine H1.out.mono ?_
        rintro _ w1 ⟨rfl, rfl⟩
        go_wp2_with fail
        refine H2.out.mono ?_
        rintro _ w1 ⟨rfl, rfl⟩
        go_wp2_with fail
        refine HC.out.mono ?_
        rintro _ w1 ⟨rfl, rfl⟩
        go_wp2_with fail
        go_ret
        exact ⟨rfl, HB.out⟩

end Go.Proofs.YtgkniocjlkfhmaaDoor.R

namespace Go.Proofs.YtgkniocjlkfhmaaDoor.D
open Go Go.RowKit Go.Proofs.YtgkniocjlkfhmaaDoor.B Go.Proofs.YtgkniocjlkfhmaaDoor.K Go.Proofs.YtgkniocjlkfhmaaDoor.E Go.Proofs.YtgkniocjlkfhmaaDoor.R
set_option linter.unusedVariables false
set_option maxRecDepth 100000


section
variable {t : Tb} {s : Stt} {c : Cm}
theorem unfit_0 (h : stands t s = false) : unfit t s c = 3 := by unfold unfit; rw [if_pos h]
theorem unfit_1 (h : stands t s = true) (hr : ruleAt t c.rule = none) : unfit t s c = 1 := by unfold unfit; rw [if_neg (by rw [h]; decide), hr]
theorem unfit_some (h : stands t s = true) {r : Rl} (hr : ruleAt t c.rule = some r) : unfit t s c = if ((c.args.length : Int) = r.args ∧ c.args.all isVal = true) then
      (if isFor t c.rule s.pos = false then 3 else if 0 ≤ c.expect ∧ c.expect ≠ s.ver then 4 else 0) else 2 := by unfold unfit; rw [if_neg (by rw [h]; decide), hr]
end

set_option maxHeartbeats 4000000 in
theorem unfit_any (t : Tb) (s : Stt) (c : Cm) (c0 c1 c2 c3 v u : Value) (w : World) (h : TbIs w [c0, c1, c2, c3] t) (hw : TbWf t) (hs : SlN w v s.vars) (hl : s.vars.length ≤ 9223372036854775807) (hc : SlN w u c.args) (hcw : CmWf c) :
    Calls Tryd.prog 21 #[.agg #[c0, c1, c2, c3], .agg #[.int .i64 s.pos, .int .i64 s.ver, v], .agg #[.int .i64 c.client, .int .i64 c.seq, sv c.stream, .int .i64 c.rule, u, .int .i64 c.expect]] w fun z w' => z = .returned (.int .i64 (unfit t s c)) ∧ Below w.heap.size w w' := by
  have HST := Lib.hid (fun (W : World) (hb : Below w.heap.size w W) => stands_any t s c0 c1 c2 c3 v W (h.below hb) hw (Sl.below hs hb) hl)
  have HFR := Lib.hid (fun (W : World) (hb : Below w.heap.size w W) => for_any t c0 c1 c2 c3 c.rule s.pos W (h.below hb) hw)
  have HAV := Lib.hid (fun (W : World) (hb : Below w.heap.size w W) => areValues_any c.args u W (Sl.below hc hb) hcw.2.2.2.2.1.2)
  obtain ⟨au, capu, rfl⟩ := sl_len hc
  rw [List.length_map] at HAV ⊢
  have hx : ∃ a3 cap3, c3 = .slice a3 t.rules.length cap3 ∧ SlOf w 5 (RlIs w) c3 t.rules := by
    obtain ⟨d0, d1, d2, d3, e, h0, h1, h2, h3⟩ := h
    cases e
    have h3' := h3
    obtain ⟨a3, cap3, e, _⟩ := h3
    exact ⟨a3, cap3, e, h3'⟩
  obtain ⟨a3, cap3, rfl, h3⟩ := hx
  have H3 := Lib.hid h3
  obtain ⟨p, hp⟩ : ∃ N, s.pos = N := ⟨_, rfl⟩
  obtain ⟨r, hr⟩ : ∃ N, s.ver = N := ⟨_, rfl⟩
  obtain ⟨cl, hcl⟩ : ∃ N, c.client = N := ⟨_, rfl⟩
  obtain ⟨sq, hsq⟩ : ∃ N, c.seq = N := ⟨_, rfl⟩
  obtain ⟨sr, hsr⟩ : ∃ N, sv c.stream = N := ⟨_, rfl⟩
  obtain ⟨rl, hrl⟩ : ∃ N, c.rule = N := ⟨_, rfl⟩
  obtain ⟨ex, hex⟩ : ∃ N, c.expect = N := ⟨_, rfl⟩
  obtain ⟨R, hR⟩ : ∃ N, t.rules.length = N := ⟨_, rfl⟩
  obtain ⟨n, hn⟩ : ∃ N, c.args.length = N := ⟨_, rfl⟩
  have HU0 := Lib.hid (unfit_0 (t := t) (s := s) (c := c))
  have HU1 := Lib.hid (unfit_1 (t := t) (s := s) (c := c))
  have HU2 := Lib.hid (fun (r' : Rl) (h : stands t s = true) (hr' : ruleAt t c.rule = some r') => unfit_some (t := t) (s := s) (c := c) h hr')
  obtain ⟨U, hU⟩ : ∃ U, unfit t s c = U := ⟨_, rfl⟩
  rw [hU, hrl] at HU1
  rw [hU] at HU0
  rw [hrl, hp, hex, hr, hn, hU] at HU2
  have HR := Lib.hid hR
  rw [hp, hr] at HST
  rw [hrl, hp] at HFR
  rw [hR] at HST HFR H3
  rw [hn] at HAV
  rw [hU, hp, hr, hcl, hsq, hsr, hrl, hex, hR, hn]
  obtain ⟨Wz, hWz⟩ : ∃ Wz, ((w.alloc (.cells #[c0, c1, c2, .slice a3 R cap3] 37)).alloc (.cells #[.int .i64 p, .int .i64 r, v] 24)).alloc (.cells #[.int .i64 cl, .int .i64 sq, sr, .int .i64 rl, .slice au n capu, .int .i64 ex] 43) = Wz := ⟨_, rfl⟩
  have hbox := Box3.new w c0 c1 c2 (.slice a3 R cap3) p r v cl sq sr rl (.slice au n capu) ex
  rw [hWz] at hbox
  have hbz : Below w.heap.size w Wz := by
    rw [← hWz]
    exact ((below_alloc w _).alloc (below_alloc w _).size _).alloc (Nat.le_trans (below_alloc w _).size (below_alloc _ _).size) _
  obtain ⟨g1, hg1⟩ : ∃ g, (w.alloc (.cells #[c0, c1, c2, .slice a3 R cap3] 37)).heap.size = g := ⟨_, rfl⟩
  obtain ⟨g2, hg2⟩ : ∃ g, ((w.alloc (.cells #[c0, c1, c2, .slice a3 R cap3] 37)).alloc (.cells #[.int .i64 p, .int .i64 r, v] 24)).heap.size = g := ⟨_, rfl⟩
  rw [hg1, hg2] at hbox
  have HBX := Lib.hid hbox
  have HBZ := Lib.hid hbz
  have HS1 := Lib.hid (HST.out Wz hbz)
  have q0 := hbox.t0
  have q1 := hbox.t1
  have q2 := hbox.t2
  have q3 := hbox.t3
  have q4 := hbox.s0
  have q5 := hbox.s1
  have q6 := hbox.s2
  obtain ⟨B, hB⟩ : ∃ B, stands t s = B := ⟨_, rfl⟩
  rw [hB] at HS1 HU0 HU1 HU2
  have HRW := Lib.hid hw.2.2.2.2
  have HRI := Lib.hid hcw.2.2.2.1
  rw [hrl] at HRI
  rw [hR] at HRW
  clear h hw hs hl hc hcw h3 hp hr hcl hsq hsr hrl hex hR hn hU hbox hbz hB HST
  go_enter Tryd.func21, Tryd.ntmps21
  go_wp2_with fail
  refine HS1.out.mono ?_
  rintro _ w1 ⟨rfl, hb1⟩
  have HX1 := Lib.hid (HBX.out.below hb1)
  have HB1 := Lib.hid (HBZ.out.trans (hb1.mono HBZ.out.size))
  clear hb1 q0 q1 q2 q3 q4 q5 q6
  cases B with
  | false =>
    have hu := HU0.out rfl
    subst hu
    go_wp2_with fail
    go_ret
    exact ⟨rfl, HB1.out⟩
  | true =>
    have q3 := HX1.out.t3
    have e3 := HX1.out.m3
    by_cases x0 : rl < 0
    · have hu := HU1.out rfl (by unfold ruleAt; rw [if_neg (by omega)])
      subst hu
      have b0 : decide (rl < 0) = true := decide_eq_true x0
      clear HU1 HU2 HU0
      go_wp2_with fail
      go_ret
      exact ⟨rfl, HB1.out⟩
    · have b0 : decide (rl < 0) = false := decide_eq_false x0
      obtain ⟨m, rfl⟩ : ∃ m : Nat, rl = (m : Int) := ⟨rl.toNat, by omega⟩
      by_cases x1 : R ≤ m
      · have hu := HU1.out rfl (by unfold ruleAt; rw [if_pos (by omega), Int.toNat_natCast]; exact List.getElem?_eq_none (by have := HR.out; omega))
        subst hu
        have b1 : decide (R ≤ m) = true := decide_eq_true (by omega)
        clear HU1 HU2 HU0 x0
        go_wp2_with fail
        go_ret
        exact ⟨rfl, HB1.out⟩
      · have b1 : decide (R ≤ m) = false := decide_eq_false (by omega)
        obtain ⟨r0, hr0⟩ : ∃ r0, t.rules[m]? = some r0 := ⟨_, List.getElem?_eq_getElem (by have := HR.out; omega)⟩
        have hu := HU2.out r0 rfl (by unfold ruleAt; rw [if_pos (by omega), Int.toNat_natCast]; exact hr0)
        have HU := Lib.hid hu
        clear hu HU0 HU1 HU2
        obtain ⟨b, off, rfl, cs, -, hcs, hcell⟩ := H3.out.at hr0
        obtain ⟨f_, g_, s_, rfl, -, -, -⟩ := hcs.open
        have hrc : w1.cell? ⟨b, off + m * 5 + 1, none⟩ = some (.int .i64 r0.args) :=
          (HB1.out.cell (p := ⟨b, off + m * 5 + 1, none⟩) (World.block_lt_of_cell? w _ (hcell 1 _ rfl))).trans (hcell 1 _ rfl)
        have e4 := HX1.out.m4
        have x2 : m < R := by omega
        have HAV1 := Lib.hid (fun k : Nat => (HAV.out (w1.drewN k) (below_drewN HB1.out k)).mono fun _ _ h => And.intro h.1 h.2.symm)
        have HFR1 := Lib.hid (fun k : Nat => HFR.out (w1.drewN k) (below_drewN HB1.out k))
        obtain ⟨A, hA⟩ : ∃ A, r0.args = A := ⟨_, rfl⟩
        obtain ⟨V, hV⟩ : ∃ V, c.args.all isVal = V := ⟨_, rfl⟩
        rw [hA, hV] at HU
        rw [hA] at hrc
        rw [hV] at HAV1
        clear hcell hcs H3 hr0 hA hV HAV HFR x0 x1
        by_cases y0 : (n : Int) = A
        · have c0' : ((n : Int) == A) = true := by rw [beq_iff_eq]; exact y0
          subst y0
          cases V with
          | false =>
            have hu : U = 2 := by rw [HU.out, if_neg (by intro h; exact absurd h.2 (by decide))]
            subst hu
            go_wp2_with fail
            go_quiet ((go_at_call 27; exact Calls.quiet_of_same (HAV1.out _)))
            go_wp2_with fail
            go_ret
            exact ⟨rfl, below_drewN HB1.out _⟩
          | true =>
            go_wp2_with fail
            go_quiet ((go_at_call 27; exact Calls.quiet_of_same (HAV1.out _)))
            rename_i nq
            obtain ⟨w2, hw2⟩ : ∃ w2, w1.drewN nq = w2 := ⟨_, rfl⟩
            have hF2 := HFR1.out nq
            rw [hw2] at hF2 ⊢
            have HB2 := Lib.hid (show Below w.heap.size w w2 by rw [← hw2]; exact below_drewN HB1.out nq)
            have HX2 := Lib.hid (show Box3 _ _ _ _ _ _ _ _ _ _ _ _ _ _ _ _ w2 by rw [← hw2]; exact HX1.out.below (below_drewN (Below.refl _ _) nq))
            have HF2 := Lib.hid hF2
            obtain ⟨F, hF⟩ : ∃ F, isFor t (m : Int) p = F := ⟨_, rfl⟩
            rw [hF] at HU HF2
            clear hF2 hw2 hF hrc q3 e3 e4 HX1 HB1 HFR1 HAV1
            have q0 := HX2.out.t0
            have q1 := HX2.out.t1
            have q2 := HX2.out.t2
            have q3 := HX2.out.t3
            have k0 := HX2.out.s0
            have e3 := HX2.out.m3
            go_wp2_with fail
            refine HF2.out.mono ?_
            rintro _ w3 ⟨rfl, hb3⟩
            have HX3 := Lib.hid (HX2.out.below hb3)
            have HB3 := Lib.hid (HB2.out.trans (hb3.mono HB2.out.size))
            clear hb3 q0 q1 q2 q3 k0 e3
            cases F with
            | false =>
              have hu : U = 3 := by rw [HU.out]; simp
              subst hu
              go_wp2_with fail
              go_ret
              exact ⟨rfl, HB3.out⟩
            | true =>
              have k1 := HX3.out.s1
              have e5 := HX3.out.m5
              by_cases z0 : 0 ≤ ex
              · have d0 : decide (0 ≤ ex) = true := decide_eq_true z0
                by_cases z1 : ex = r
                · have d1 : (ex == r) = true := by rw [beq_iff_eq]; exact z1
                  have hu : U = 0 := by rw [HU.out]; simp [z1]
                  subst hu
                  clear HU
                  go_wp2_with fail
                  go_ret
                  exact ⟨rfl, HB3.out⟩
                · have d1 : (ex == r) = false := beq_eq_false_iff_ne.2 z1
                  have hu : U = 4 := by rw [HU.out]; simp [z0, z1]
                  subst hu
                  clear HU
                  go_wp2_with fail
                  go_ret
                  exact ⟨rfl, HB3.out⟩
              · have d0 : decide (0 ≤ ex) = false := decide_eq_false z0
                have hu : U = 0 := by rw [HU.out]; simp [z0]
                subst hu
                clear HU
                go_wp2_with fail
                go_ret
                exact ⟨rfl, HB3.out⟩
        · have c0' : ((n : Int) == A) = false := beq_eq_false_iff_ne.2 y0
          have hu : U = 2 := by rw [HU.out, if_neg (by intro h; exact y0 h.1)]
          subst hu
          go_wp2_with fail
          go_quiet (fail)
          go_wp2_with fail
          go_ret
          exact ⟨rfl, below_drewN HB1.out _⟩
end Go.Proofs.YtgkniocjlkfhmaaDoor.D
