/-
  Layer 5, the program's side: Check.
  Layer 6: Show.
  Contracts: the reference's comparisons of lists, where the two are the same.
  Contract of the reference of layer 3: Same, of lists that read the same.
-/
import Derived.Test.YtfooiggedgcjcaaGreatDoorRPw
import Derived.Test.YtfooiggedgcjcaaGreatDoorTSf
import Derived.Test.YtfooiggedgcjcaaGreatDoorKBase
import Derived.Test.YtfooiggedgcjcaaGreatDoorTSpec
import Derived.Deep.QuietTactic
import Derived.BigQuiet
import Derived.Deep.DeepCutAuto
namespace Go.Proofs.YtfooiggedgcjcaaGreatDoor.R
open Go Go.RowKit Go.Proofs.YtfooiggedgcjcaaGreatDoor.B Go.Proofs.YtfooiggedgcjcaaGreatDoor.K Go.Proofs.YtfooiggedgcjcaaGreatDoor.E
set_option linter.unusedVariables false

theorem ffRules_at (t : Tb) (n m : Nat) (r : Rl) (h : t.rules[n]? = some r) : ffRules t n (m + 1) = if ff n (ruleParts t n r) ≠ (0, 0, 0, 0) then ff n (ruleParts t n r) else ffRules t (n + 1) m := by
  show (match t.rules[n]? with | some r => _ | none => _) = _
  rw [h]

theorem table_places (t : Tb) (hw : TbWf t) : ∀ p ∈ tableParts t, p.places ≤ 9223372036854775807 := by
  obtain ⟨⟨_, h0⟩, ⟨_, h1⟩, ⟨_, h2⟩, _, h3⟩ := hw
  intro p hp
  simp only [tableParts, List.mem_cons, List.not_mem_nil, or_false] at hp
  rcases hp with rfl | rfl | rfl | rfl
  · exact h0
  · exact h1
  · exact h2
  · exact Nat.zero_le _

theorem rule_places (t : Tb) (n : Nat) (r : Rl) (hw : RlWf r) : ∀ p ∈ ruleParts t n r, p.places ≤ 9223372036854775807 := by
  obtain ⟨_, _, ⟨_, h0⟩, ⟨_, h1⟩, ⟨_, h2⟩⟩ := hw
  intro p hp
  simp only [ruleParts, List.mem_cons, List.not_mem_nil, or_false] at hp
  rcases hp with rfl | rfl | rfl | rfl | rfl
  · exact Nat.zero_le _
  · exact Nat.zero_le _
  · exact h0
  · exact h1
  · exact h2

theorem ft_ne {f : Ft} (h : f ≠ (0, 0, 0, 0)) : (f.1 == 0 && (f.2.1 == 0 && (f.2.2.1 == 0 && f.2.2.2 == 0))) = false := by
  obtain ⟨a, b, c, d⟩ := f
  cases hx : (a == 0 && (b == 0 && (c == 0 && d == 0))) with
  | false => rfl
  | true =>
    simp only [Bool.and_eq_true, beq_iff_eq] at hx
    obtain ⟨rfl, rfl, rfl, rfl⟩ := hx
    exact absurd rfl h

/-- How the world of Check's loop stands: the box of the table, the result's cells, and the fault's so far. -/
structure Ck (w : World) (g2 g3 : Nat) (c0 c1 c2 c3 : Value) (wr : World) (f : Ft) : Prop where
  below : Below w.heap.size w wr
  le : w.heap.size ≤ g2
  lt : g2 < g3
  res : F4 wr g2 (0, 0, 0, 0)
  cur : F4 wr g3 f
  q0 : wr.cell? ⟨w.heap.size, 0, none⟩ = some c0
  q1 : wr.cell? ⟨w.heap.size, 1, none⟩ = some c1
  q2 : wr.cell? ⟨w.heap.size, 2, none⟩ = some c2
  q3 : wr.cell? ⟨w.heap.size, 3, none⟩ = some c3

theorem f4_kept {w : World} {g b : Nat} {f : Ft} (h : F4 w g f) (x y z u : Value) (hne : b ≠ g) : F4 ((((w.setCell ⟨b, 0, none⟩ x).setCell ⟨b, 1, none⟩ y).setCell ⟨b, 2, none⟩ z).setCell ⟨b, 3, none⟩ u) g f := by
  unfold F4 at h ⊢
  rw [heap_setCell_other _ _ _ _ hne.symm, heap_setCell_other _ _ _ _ hne.symm, heap_setCell_other _ _ _ _ hne.symm, heap_setCell_other _ _ _ _ hne.symm]
  exact h

theorem cell_kept4 {w : World} {g b j : Nat} {u : Value} (h : w.cell? ⟨b, j, none⟩ = some u) (hne : b ≠ g) (x y z v : Value) : ((((w.setCell ⟨g, 0, none⟩ x).setCell ⟨g, 1, none⟩ y).setCell ⟨g, 2, none⟩ z).setCell ⟨g, 3, none⟩ v).cell? ⟨b, j, none⟩ = some u := by
  have e : ∀ (W : World) (i : Nat) (v : Value), (W.setCell ⟨g, i, none⟩ v).cell? ⟨b, j, none⟩ = W.cell? ⟨b, j, none⟩ := fun W i v => World.cell?_setCell_other W ⟨g, i, none⟩ ⟨b, j, none⟩ v (by intro e; injection e; omega)
  rw [e, e, e, e]
  exact h

theorem Ck.set {w : World} {g2 g3 : Nat} {c0 c1 c2 c3 : Value} {wr : World} {f : Ft} (h : Ck w g2 g3 c0 c1 c2 c3 wr f) (x : Ft) :
    Ck w g2 g3 c0 c1 c2 c3 ((((wr.setCell ⟨g3, 0, none⟩ (.int .i64 x.1)).setCell ⟨g3, 1, none⟩ (.int .i64 x.2.1)).setCell ⟨g3, 2, none⟩ (.int .i64 x.2.2.1)).setCell ⟨g3, 3, none⟩ (.int .i64 x.2.2.2)) x := by
  have hl := h.le
  have ht := h.lt
  refine ⟨below_set4 h.below (by omega) _ _ _ _, hl, ht, f4_kept h.res _ _ _ _ (by omega), h.cur.set x, ?_, ?_, ?_, ?_⟩
  · exact cell_kept4 h.q0 (by omega) _ _ _ _
  · exact cell_kept4 h.q1 (by omega) _ _ _ _
  · exact cell_kept4 h.q2 (by omega) _ _ _ _
  · exact cell_kept4 h.q3 (by omega) _ _ _ _

theorem Ck.call {w : World} {g2 g3 : Nat} {c0 c1 c2 c3 : Value} {wr w' : World} {f : Ft} (h : Ck w g2 g3 c0 c1 c2 c3 wr f) (hb : Below wr.heap.size wr w') : Ck w g2 g3 c0 c1 c2 c3 w' f :=
  ⟨h.below.trans (hb.mono h.below.size), h.le, h.lt, h.res.below hb, h.cur.below hb, kept_cell hb h.q0, kept_cell hb h.q1, kept_cell hb h.q2, kept_cell hb h.q3⟩

/-- What the fault so far tells, K rules looked at. -/
def ChkAt (t : Tb) (N : Nat) (f : Ft) (K : Nat) : Prop := (f ≠ (0, 0, 0, 0) → f = chk5 t) ∧ (f = (0, 0, 0, 0) → ffRules t K (N - K) = chk5 t)

theorem chkAt_start {t : Tb} {N : Nat} {f : Ft} (hN : t.rules.length = N) (hf : ff (-1) (tableParts t) = f) : ChkAt t N f 0 := by
  subst hN
  unfold ChkAt chk5
  rw [hf]
  exact ⟨fun h => (if_pos h).symm, fun h => by rw [if_neg (fun e => e h)]; rfl⟩

theorem chkAt_next {t : Tb} {N : Nat} {K : Nat} {r : Rl} {f : Ft} (h : ChkAt t N (0, 0, 0, 0) K) (hr : t.rules[K]? = some r) (hK : K < N) (hf : ff K (ruleParts t K r) = f) : ChkAt t N f (K + 1) := by
  have h2 := h.2 rfl
  rw [show N - K = (N - (K + 1)) + 1 by omega, ffRules_at t K _ r hr, hf] at h2
  constructor
  · intro hne; rw [← h2, if_pos hne]
  · intro he; rw [← h2, if_neg (fun e => e he)]

set_option maxHeartbeats 8000000 in
set_option maxRecDepth 100000 in
theorem check_of (t : Tb) (c0 c1 c2 c3 : Value) (w : World) (h : TbIs w [c0, c1, c2, c3] t) (hw : TbWf t) (hG : I.Glob w)
    (HOR : ∀ W, Below w.heap.size w W → ∀ (n : Nat) r, t.rules[n]? = some r → Calls Tryz.prog 20 #[.agg #[c0, c1, c2, c3], .int .i64 (n : Int)] W fun z w' => (∃ v, z = .returned v ∧ SlOf w' 4 (PtIs w') v (ruleParts t n r)) ∧ Below W.heap.size W w') :
    Calls Tryz.prog 7 #[.agg #[c0, c1, c2, c3]] w fun z w' => z = .returned (chk5 t).v ∧ Below w.heap.size w w' := by
  have HT := Lib.hid h
  have HW := Lib.hid hw
  have HORH := Lib.hid HOR
  obtain ⟨d0, d1, d2, d3, e, h0, h1, h2, h3⟩ := h
  cases e
  obtain ⟨a3, cap3, rfl, h3⟩ := h3.open
  obtain ⟨N, hN⟩ : ∃ N, t.rules.length = N := ⟨_, rfl⟩
  have hNL := hw.2.2.2.2
  rw [hN] at HT HORH hNL ⊢
  have HN := Lib.hid hN
  have HNL := Lib.hid hNL
  have HOT := Lib.hid (fun (W : World) (hb : Below w.heap.size w W) => ofTable_any t c0 c1 c2 (.slice a3 N cap3) W (HT.out.below hb) HW.out (hG.below hb))
  obtain ⟨W0, hW0⟩ : ∃ W0, w.alloc (.cells #[c0, c1, c2, .slice a3 N cap3] 26) = W0 := ⟨_, rfl⟩
  have hB0 : Below w.heap.size w W0 := by rw [← hW0]; exact below_alloc _ _
  have q3 : W0.cell? ⟨w.heap.size, 3, none⟩ = some (.slice a3 N cap3) := by rw [← hW0]; exact box_cell _ _ _ _ _ rfl
  have q2 : W0.cell? ⟨w.heap.size, 2, none⟩ = some c2 := by rw [← hW0]; exact box_cell _ _ _ _ _ rfl
  have q1 : W0.cell? ⟨w.heap.size, 1, none⟩ = some c1 := by rw [← hW0]; exact box_cell _ _ _ _ _ rfl
  have q0 : W0.cell? ⟨w.heap.size, 0, none⟩ = some c0 := by rw [← hW0]; exact box_cell _ _ _ _ _ rfl
  obtain ⟨g2, hg2⟩ : ∃ g, W0.heap.size = g := ⟨_, rfl⟩
  obtain ⟨W1, hW1⟩ : ∃ W1, W0.alloc (.cells #[.int .i64 0, .int .i64 0, .int .i64 0, .int .i64 0] 33) = W1 := ⟨_, rfl⟩
  have hB1 : Below W0.heap.size W0 W1 := by rw [← hW1]; exact below_alloc _ _
  have hg2w : w.heap.size ≤ g2 := by rw [← hg2]; exact hB0.size
  have F2 : Hid (F4 W1 g2 (0, 0, 0, 0)) := Lib.hid (by rw [← hW1, ← hg2]; exact heap_alloc_at _ _)
  have r0 := kept_cell hB1 q0
  have r1 := kept_cell hB1 q1
  have r2 := kept_cell hB1 q2
  have r3 := kept_cell hB1 q3
  have HB1 := Lib.hid (hB0.trans (hB1.mono hB0.size))
  have HO1 := Lib.hid (HOT.out _ HB1.out)
  clear hN hNL h0 h1 h2 h3 hw hG HOR hB0 hB1 q0 q1 q2 q3
  go_enter Tryz.func7, Tryz.ntmps7
  go_wp2_with fail
  refine HO1.out.mono ?_
  rintro _ w2 ⟨⟨v2, rfl, hS2⟩, hb2⟩
  have HF2 := Lib.hid (firstFault_any (-1) (tableParts t) v2 w2 hS2 (show (4 : Nat) ≤ 100 by decide) (table_places t HW.out))
  have r0 := kept_cell hb2 r0
  have r1 := kept_cell hb2 r1
  have r2 := kept_cell hb2 r2
  have r3 := kept_cell hb2 r3
  have HB2 := Lib.hid (HB1.out.trans (hb2.mono HB1.out.size))
  have F2 := Lib.hid (F2.out.below hb2)
  clear hS2 hb2
  go_wp2_with fail
  refine HF2.out.mono ?_
  rintro _ w3 ⟨rfl, hb3⟩
  have r0 := kept_cell hb3 r0
  have r1 := kept_cell hb3 r1
  have r2 := kept_cell hb3 r2
  have r3 := kept_cell hb3 r3
  have HB3 := Lib.hid (HB2.out.trans (hb3.mono HB2.out.size))
  have F2 := Lib.hid (F2.out.below hb3)
  clear hb3
  obtain ⟨⟨e0, e1, e2, e3⟩, hf0⟩ : ∃ f, ff (-1) (tableParts t) = f := ⟨_, rfl⟩
  rw [hf0, show Ft.v (e0, e1, e2, e3) = .agg #[.int .i64 e0, .int .i64 e1, .int .i64 e2, .int .i64 e3] from rfl]
  have hg23 : g2 < w3.heap.size := (Array.getElem?_eq_some_iff.1 F2.out).1
  obtain ⟨g3, hg3⟩ : ∃ g, w3.heap.size = g := ⟨_, rfl⟩
  obtain ⟨W4, hW4⟩ : ∃ W4, w3.alloc (.cells #[.int .i64 0, .int .i64 0, .int .i64 0, .int .i64 0] 33) = W4 := ⟨_, rfl⟩
  have hB4 : Below w3.heap.size w3 W4 := by rw [← hW4]; exact below_alloc _ _
  have F3 : Hid (F4 W4 g3 (0, 0, 0, 0)) := Lib.hid (by rw [← hW4, ← hg3]; exact heap_alloc_at _ _)
  have r0 := kept_cell hB4 r0
  have r1 := kept_cell hB4 r1
  have r2 := kept_cell hB4 r2
  have r3 := kept_cell hB4 r3
  have HB4 := Lib.hid (HB3.out.trans (hB4.mono HB3.out.size))
  have F2 := Lib.hid (F2.out.below hB4)
  rw [hg3] at hg23
  obtain ⟨⟨s0, t0⟩, ⟨s1, t1⟩, ⟨s2, t2⟩, s3, t3⟩ := F3.out.cells
  clear hB4
  go_wp2_with fail
  have HCK : Hid (ChkAt t N (e0, e1, e2, e3) 0) := Lib.hid (chkAt_start HN.out hf0)
  obtain ⟨W5, hW5⟩ : ∃ W5, ((((W4.setCell ⟨g3, 0, none⟩ (.int .i64 e0)).setCell ⟨g3, 1, none⟩ (.int .i64 e1)).setCell ⟨g3, 2, none⟩ (.int .i64 e2)).setCell ⟨g3, 3, none⟩ (.int .i64 e3)) = W5 := ⟨_, rfl⟩
  rw [hW5]
  have HC5 : Hid (Ck w g2 g3 c0 c1 c2 (.slice a3 N cap3) W5 (e0, e1, e2, e3)) := Lib.hid (by
    rw [← hW5]
    exact Ck.set ⟨HB4.out, hg2w, hg23, F2.out, F3.out, r0, r1, r2, r3⟩ (e0, e1, e2, e3))
  clear hW5 hW4 hf0 HO1 HF2 HOT F2 F3 r0 r1 r2 r3 s0 s1 s2 s3 t0 t1 t2 t3 HB4 HB3 HB2 HB1 hW0 hW1 hg2 hg3
  go_loopw [4] (fun k wr => ∃ (K : Nat) (f : Ft), k = .int .i64 (K : Int) ∧ K ≤ N ∧ Hid (ChkAt t N f K) ∧ Hid (Ck w g2 g3 c0 c1 c2 (.slice a3 N cap3) wr f)) (fun k _ => N - (intOf k).toNat)
  case atStart => exact ⟨0, _, rfl, Nat.zero_le _, HCK, HC5⟩
  case round =>
    obtain ⟨K, ⟨e0, e1, e2, e3⟩, rfl, hK, HI, HC⟩ := hrel
    obtain ⟨⟨s0, t0⟩, ⟨s1, t1⟩, ⟨s2, t2⟩, s3, t3⟩ := HC.out.cur.cells
    obtain ⟨⟨u0, v0⟩, ⟨u1, v1⟩, ⟨u2, v2⟩, u3, v3⟩ := HC.out.res.cells
    have r0 := HC.out.q0
    have r1 := HC.out.q1
    have r2 := HC.out.q2
    have r3 := HC.out.q3
    by_cases hlt : K < N
    · have hltI : (K : Int) < (N : Int) := by omega
      by_cases hf : (e0, e1, e2, e3) = ((0, 0, 0, 0) : Ft)
      · cases hf
        obtain ⟨r, hr⟩ : ∃ r, t.rules[K]? = some r := ⟨_, List.getElem?_eq_getElem (by rw [HN.out]; exact hlt)⟩
        have HO := Lib.hid (HORH.out wr HC.out.below K r hr)
        have hRW := HW.out.2.2.2.1 r (List.mem_of_getElem? hr)
        have HRW := Lib.hid hRW
        clear hRW
        go_wp2_with fail
        refine HO.out.mono ?_
        rintro _ w6 ⟨⟨v6, rfl, hS6⟩, hb6⟩
        have HC6 := Lib.hid (HC.out.call hb6)
        have HF6 := Lib.hid (firstFault_any (K : Int) (ruleParts t K r) v6 w6 hS6 (show (5 : Nat) ≤ 100 by decide) (rule_places t K r HRW.out))
        clear hS6 hb6 HO s0 s1 s2 s3 t0 t1 t2 t3 u0 u1 u2 u3 v0 v1 v2 v3 r0 r1 r2 r3
        go_wp2_with fail
        refine HF6.out.mono ?_
        rintro _ w7 ⟨rfl, hb7⟩
        have HC7 := Lib.hid (HC6.out.call hb7)
        obtain ⟨⟨x0, x1, x2, x3⟩, hx⟩ : ∃ f, ff (K : Int) (ruleParts t K r) = f := ⟨_, rfl⟩
        have HI2 := Lib.hid (chkAt_next HI.out hr hlt hx)
        rw [hx, show Ft.v (x0, x1, x2, x3) = .agg #[.int .i64 x0, .int .i64 x1, .int .i64 x2, .int .i64 x3] from rfl]
        have HC8 := Lib.hid (HC7.out.set (x0, x1, x2, x3))
        obtain ⟨⟨s0, t0⟩, ⟨s1, t1⟩, ⟨s2, t2⟩, s3, t3⟩ := HC7.out.cur.cells
        have hwK := wrap_next K (Nat.lt_of_lt_of_le hlt HNL.out)
        clear hb7 hx HF6 HI
        go_wp2_with fail
        clear hwK hltI
        exact ⟨⟨K + 1, _, by go_num, by omega, HI2, HC8⟩, by simp [intOf]; omega⟩
      · have HV := Lib.hid (HI.out.1 hf)
        have hcase : e0 ≠ 0 ∨ (e0 = 0 ∧ e1 ≠ 0) ∨ (e0 = 0 ∧ e1 = 0 ∧ e2 ≠ 0) ∨ (e0 = 0 ∧ e1 = 0 ∧ e2 = 0 ∧ e3 ≠ 0) := by
          by_cases h0 : e0 = 0
          · by_cases h1 : e1 = 0
            · by_cases h2 : e2 = 0
              · by_cases h3 : e3 = 0
                · exact absurd (by rw [h0, h1, h2, h3]) hf
                · exact Or.inr (Or.inr (Or.inr ⟨h0, h1, h2, h3⟩))
              · exact Or.inr (Or.inr (Or.inl ⟨h0, h1, h2⟩))
            · exact Or.inr (Or.inl ⟨h0, h1⟩)
          · exact Or.inl h0
        clear hf HI
        rcases hcase with h0 | ⟨rfl, h1⟩ | ⟨rfl, rfl, h2⟩ | ⟨rfl, rfl, rfl, h3⟩
        · have hb : (e0 == 0) = false := beq_eq_false_iff_ne.2 h0
          go_wp2_with fail
          exact f4_end (e0, e1, e2, e3) rfl rfl rfl (HC.out.res.set (e0, e1, e2, e3)) ⟨by rw [HV.out], below_set4 HC.out.below HC.out.le _ _ _ _⟩
        · have hb : (e1 == 0) = false := beq_eq_false_iff_ne.2 h1
          go_wp2_with fail
          exact f4_end (0, e1, e2, e3) rfl rfl rfl (HC.out.res.set (0, e1, e2, e3)) ⟨by rw [HV.out], below_set4 HC.out.below HC.out.le _ _ _ _⟩
        · have hb : (e2 == 0) = false := beq_eq_false_iff_ne.2 h2
          go_wp2_with fail
          exact f4_end (0, 0, e2, e3) rfl rfl rfl (HC.out.res.set (0, 0, e2, e3)) ⟨by rw [HV.out], below_set4 HC.out.below HC.out.le _ _ _ _⟩
        · have hb : (e3 == 0) = false := beq_eq_false_iff_ne.2 h3
          go_wp2_with fail
          exact f4_end (0, 0, 0, e3) rfl rfl rfl (HC.out.res.set (0, 0, 0, e3)) ⟨by rw [HV.out], below_set4 HC.out.below HC.out.le _ _ _ _⟩
    · have hltI : ¬ (K : Int) < (N : Int) := by omega
      have hKN : K = N := by omega
      have hv : (e0, e1, e2, e3) = chk5 t := by
        by_cases hf : (e0, e1, e2, e3) = ((0, 0, 0, 0) : Ft)
        · have := HI.out.2 hf
          rw [hKN, Nat.sub_self] at this
          rw [← this, hf]; rfl
        · exact HI.out.1 hf
      have HV := Lib.hid hv
      clear hv hKN
      go_wp2_with fail
      exact f4_end (e0, e1, e2, e3) rfl rfl rfl (HC.out.res.set (e0, e1, e2, e3)) ⟨by rw [HV.out], below_set4 HC.out.below HC.out.le _ _ _ _⟩

theorem check_any (t : Tb) (c0 c1 c2 c3 : Value) (w : World) (h : TbIs w [c0, c1, c2, c3] t) (hw : TbWf t) (hG : I.Glob w) :
    Calls Tryz.prog 7 #[.agg #[c0, c1, c2, c3]] w fun z w' => z = .returned (chk5 t).v ∧ Below w.heap.size w w' :=
  check_of t c0 c1 c2 c3 w h hw hG fun W hb n r hr => ofRule_any t c0 c1 c2 c3 n r W (h.below hb) hw (hG.below hb) hr

/-- May a table be? -/
def mayB (t : Tb) : Bool := decide (chk5 t = (0, 0, 0, 0))

end Go.Proofs.YtfooiggedgcjcaaGreatDoor.R

namespace Go.Proofs.YtfooiggedgcjcaaGreatDoor.T
open Go Go.RowKit Go.Proofs.YtfooiggedgcjcaaGreatDoor.B Go.Proofs.YtfooiggedgcjcaaGreatDoor.K Go.Proofs.YtfooiggedgcjcaaGreatDoor.E Go.Proofs.YtfooiggedgcjcaaGreatDoor.R
set_option linter.unusedVariables false

theorem show_any (t : Tb) (c0 c1 c2 c3 : Value) (w : World) (h : TbIs w [c0, c1, c2, c3] t) (hw : TbWf t) (hG : I.Glob w) (hcs : ∀ a l c, c0 = .slice a l c → l ≤ c) :
    Calls Tryz.prog 8 #[.agg #[c0, c1, c2, c3]] w fun z w' => z = .returned (.tuple #[sv (showT t), .int .i64 (chk5 t).1]) ∧ Below w.heap.size w w' :=
  show_of t c0 c1 c2 c3 w h hw hG hcs fun W hb => check_any t c0 c1 c2 c3 W (h.below hb) hw (hG.below hb)
end Go.Proofs.YtfooiggedgcjcaaGreatDoor.T

namespace Go.Proofs.YtfooiggedgcjcaaGreatDoor.V
open Go Go.RowKit Go.Proofs.YtfooiggedgcjcaaGreatDoor.B Go.Proofs.YtfooiggedgcjcaaGreatDoor.K Go.Proofs.YtfooiggedgcjcaaGreatDoor.E

set_option maxHeartbeats 1000000 in
theorem ints_same (v v' : Value) (xs : List Int) (w : World) (hn : xs.length ≤ 4611686018427387904) (h : Sl w v (xs.map (Value.int .i64))) (h' : Sl w v' (xs.map (Value.int .i64))) :
    Calls Tryz.prog 15 #[v, v'] w fun e w' => e = .returned (.bool true) ∧ Below w.heap.size w w' := by
  obtain ⟨a, cap, rfl, hc⟩ := h
  obtain ⟨a', cap', rfl, hc'⟩ := h'
  rw [List.length_map]
  have hnn : ((xs.length : Int) != (xs.length : Int)) = false := by simp
  have HC := Lib.hid hc; clear hc
  have HC' := Lib.hid hc'; clear hc'
  obtain ⟨n, hN⟩ : ∃ n, xs.length = n := ⟨_, rfl⟩
  rw [hN] at hn hnn ⊢
  have HN := Lib.hid hN; clear hN
  go_enter Tryz.func15, Tryz.ntmps15
  go_wp2_with fail
  go_loopw [5] (fun i wr => ∃ k : Nat, k ≤ n ∧ i = .int .i64 (k : Int) ∧ Below w.heap.size w wr) (fun i _ => n - (intOf i).toNat)
  case atStart => exact ⟨0, Nat.zero_le _, rfl, Below.refl _ _⟩
  case round =>
    obtain ⟨k, hk, rfl, hbel⟩ := hrel
    by_cases hlt : k < n
    · obtain ⟨x, hx⟩ : ∃ x, xs[k]? = some x := ⟨_, List.getElem?_eq_getElem (by rw [HN.out]; exact hlt)⟩
      obtain ⟨b, off, rfl, hcell⟩ := HC.out k (.int .i64 x) (by rw [List.getElem?_map, hx]; rfl)
      obtain ⟨b', off', rfl, hcell'⟩ := HC'.out k (.int .i64 x) (by rw [List.getElem?_map, hx]; rfl)
      have hc1 : wr.cell? ⟨b, off + k, none⟩ = some (.int .i64 x) := (hbel.cell (World.block_lt_of_cell? w _ hcell)).trans hcell
      have hc2 : wr.cell? ⟨b', off' + k, none⟩ = some (.int .i64 x) := (hbel.cell (World.block_lt_of_cell? w _ hcell')).trans hcell'
      have hltI : (k : Int) < (n : Int) := by omega
      have hk0 : 0 ≤ (k : Int) := by omega
      have hxx : (x != x) = false := by simp
      clear hcell hcell' hx
      go_wp2_with fail
      go_quiet (fail)
      go_wp2_with fail
      go_roundw
      case rel => exact ⟨k + 1, by omega, by go_num, below_drewN hbel _⟩
      case measure => simp [intOf]; omega
    · have hltI : ¬ (k : Int) < (n : Int) := by omega
      go_wp2_with fail
      go_ret
      exact ⟨rfl, hbel⟩

set_option maxHeartbeats 1000000 in
theorem same_same (v v' : Value) (xs : List (List UInt8)) (w : World) (hn : xs.length ≤ 4611686018427387904) (h : Sl w v (xs.map sv)) (h' : Sl w v' (xs.map sv)) :
    Calls Tryz.prog 14 #[v, v'] w fun e w' => e = .returned (.bool true) ∧ Below w.heap.size w w' := by
  obtain ⟨a, cap, rfl, hc⟩ := h
  obtain ⟨a', cap', rfl, hc'⟩ := h'
  rw [List.length_map]
  have hnn : ((xs.length : Int) != (xs.length : Int)) = false := by simp
  have HC := Lib.hid hc; clear hc
  have HC' := Lib.hid hc'; clear hc'
  obtain ⟨n, hN⟩ : ∃ n, xs.length = n := ⟨_, rfl⟩
  rw [hN] at hn hnn ⊢
  have HN := Lib.hid hN; clear hN
  go_enter Tryz.func14, Tryz.ntmps14
  go_wp2_with fail
  go_loopw [5] (fun i wr => ∃ k : Nat, k ≤ n ∧ i = .int .i64 (k : Int) ∧ Below w.heap.size w wr) (fun i _ => n - (intOf i).toNat)
  case atStart => exact ⟨0, Nat.zero_le _, rfl, Below.refl _ _⟩
  case round =>
    obtain ⟨k, hk, rfl, hbel⟩ := hrel
    by_cases hlt : k < n
    · obtain ⟨x, hx⟩ : ∃ x, xs[k]? = some x := ⟨_, List.getElem?_eq_getElem (by rw [HN.out]; exact hlt)⟩
      obtain ⟨b, off, rfl, hcell⟩ := HC.out k (.string (str x)) (by rw [List.getElem?_map, hx]; rfl)
      obtain ⟨b', off', rfl, hcell'⟩ := HC'.out k (.string (str x)) (by rw [List.getElem?_map, hx]; rfl)
      have hc1 : wr.cell? ⟨b, off + k, none⟩ = some (.string (str x)) := (hbel.cell (World.block_lt_of_cell? w _ hcell)).trans hcell
      have hc2 : wr.cell? ⟨b', off' + k, none⟩ = some (.string (str x)) := (hbel.cell (World.block_lt_of_cell? w _ hcell')).trans hcell'
      have hltI : (k : Int) < (n : Int) := by omega
      have hk0 : 0 ≤ (k : Int) := by omega
      clear hcell hcell' hx
      go_wp2_with fail
      go_quiet (fail)
      go_wp2_with fail
      go_roundw
      case rel => exact ⟨k + 1, by omega, by go_num, below_drewN hbel _⟩
      case measure => simp [intOf]; omega
    · have hltI : ¬ (k : Int) < (n : Int) := by omega
      go_wp2_with fail
      go_ret
      exact ⟨rfl, hbel⟩
end Go.Proofs.YtfooiggedgcjcaaGreatDoor.V

namespace Go.Proofs.YtfooiggedgcjcaaGreatDoor.E
open Go Go.RowKit Go.Proofs.YtfooiggedgcjcaaGreatDoor.B Go.Proofs.YtfooiggedgcjcaaGreatDoor.K
set_option linter.unusedVariables false

set_option maxHeartbeats 400000 in
theorem refSame_same (xs : List In) (v v' : Value) (w : World) (hs : SlI w v xs) (hs' : SlI w v' xs) (hl : xs.length ≤ 9223372036854775807) :
    Calls Tryz.prog 35 #[v, v'] w fun e w' => e = .returned (.bool true) ∧ Below w.heap.size w w' := by
  have HS := Lib.hid hs
  have HS' := Lib.hid hs'
  obtain ⟨a, cap, rfl, -⟩ := hs
  obtain ⟨a', cap', rfl, -⟩ := hs'
  have HL := Lib.hid hl; clear hl
  obtain ⟨n, hN⟩ : ∃ n, xs.length = n := ⟨_, rfl⟩
  rw [hN] at HL HS HS' ⊢
  have HN := Lib.hid hN
  clear hN
  go_enter Tryz.func35, Tryz.ntmps35
  go_wp2_with fail
  go_loopw [5] (fun k wr => ∃ (K : Nat), k = .int .i64 (K : Int) ∧ K ≤ n ∧ Hid (Below w.heap.size w wr)) (fun k _ => n - (intOf k).toNat)
  case atStart => exact ⟨0, rfl, Nat.zero_le _, Below.refl _ _⟩
  case round =>
    obtain ⟨K, rfl, hK, HBE⟩ := hrel
    by_cases hlt : K < n
    · obtain ⟨x, hx⟩ : ∃ x, xs[K]? = some x := ⟨_, List.getElem?_eq_getElem (by rw [HN.out]; exact hlt)⟩
      obtain ⟨b, off, ea, h1, h2⟩ := (HS.out.below HBE.out).at hx
      obtain ⟨b', off', ea', h1', h2'⟩ := (HS'.out.below HBE.out).at hx
      subst ea ea'
      have hwK : IntKind.i64.wrap ((K : Int) + 1) = (K : Int) + 1 := IntWalk.i64_in _ (by have := HL.out; omega)
      have hltI : (K : Int) < (n : Int) := by omega
      obtain ⟨o, y⟩ := x
      clear hx
      go_wp2_with fail
      go_quiet (fail)
      go_wp2_with fail
      go_roundw
      case rel => exact ⟨K + 1, by go_num, by omega, below_drewN HBE.out _⟩
      case measure => simp [intOf]; omega
    · have hltI : ¬ (K : Int) < (n : Int) := by omega
      go_wp2_with fail
      go_ret
      exact ⟨rfl, HBE.out⟩
end Go.Proofs.YtfooiggedgcjcaaGreatDoor.E
