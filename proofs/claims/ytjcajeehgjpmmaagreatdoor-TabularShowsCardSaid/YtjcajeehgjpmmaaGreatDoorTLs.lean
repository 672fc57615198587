/-
  Layer 6: the law TabularShows, walked: every table's text, or that it may not be.
-/
import Derived.Test.YtjcajeehgjpmmaaGreatDoorRSc
import Derived.Test.YtjcajeehgjpmmaaGreatDoorTAw
import Derived.Test.YtjcajeehgjpmmaaGreatDoorTSs
namespace Go.Proofs.YtjcajeehgjpmmaaGreatDoor.R
open Go Go.RowKit B K E
set_option linter.unusedVariables false
def ffd (rule : Int) (d : Ft) : List Pt -> Ft
 | [] => d
 | p :: l => if p.whole ≠ 0 then (p.whole, rule, p.number, 0) else orF (firstBad p.wrong 0 p.places) rule p.number (ffd rule d l)
theorem ff_first (rule : Int) : ∀ l : List Pt, ff rule l = (0, 0, 0, 0) \/ (ff rule l).1 ≠ 0
 | [] => Or.inl rfl
 | p :: l => by
  rw [ff_cons];split
  ·rename_i h; exact Or.inr h
  ·cases hf : firstBad p.wrong 0 p.places with
   | some x => exact Or.inr (firstBad_ne _ _ _ _ hf)
   | none => exact ff_first rule l
theorem ffd_eq (rule : Int) (d : Ft) : ∀ l : List Pt, (if ff rule l ≠ (0, 0, 0, 0) then ff rule l else d) = ffd rule d l
 | [] => by rw [if_neg (by exact fun h => h rfl)]; rfl
 | p :: l => by
  rw [ff_cons];unfold ffd;by_cases h : p.whole ≠ 0
  ·rw [if_pos h, if_pos h, if_pos (fun e => h (congrArg (·.1) e))]
  ·rw [if_neg h, if_neg h]
   cases hf : firstBad p.wrong 0 p.places with
   | some x =>
    have := firstBad_ne _ _ _ _ hf;unfold orF;rw [if_pos (fun e => this (congrArg (·.1) e))]
   | none => exact ffd_eq rule d l
theorem ffRules_next (t : Tb) (n m : Nat) (r : Rl) (h : t.rules[n]? = some r) : ffRules t n (m + 1) =
 if nameE r.name ((t.rules.take n).any fun x => x.name == r.name) ≠ 0 then (nameE r.name ((t.rules.take n).any fun x => x.name == r.name), (n : Int), 5, 0)
 else if unlessE (decide (0 <= r.args /\ r.args <= 4)) 3 ≠ 0 then (unlessE (decide (0 <= r.args /\ r.args <= 4)) 3, (n : Int), 6, 0)
 else if ff n (ruleTail t r) ≠ (0, 0, 0, 0) then ff n (ruleTail t r) else ffRules t (n + 1) m := by
 have h1 : ffRules t n (m + 1) = if ff n (ruleParts t n r) ≠ (0, 0, 0, 0) then ff n (ruleParts t n r) else ffRules t (n + 1) m := by
  show (match t.rules[n]? with | some r => _ | none => _) = _
  rw [h]
 rw [h1, ffd_eq, show ruleParts t n r = ⟨5, nameE r.name ((t.rules.take n).any fun x => x.name == r.name), 0, fun _ => 0⟩ :: ⟨6, unlessE (decide (0 <= r.args /\ r.args <= 4)) 3, 0, fun _ => 0⟩ :: ruleTail t r from rfl];rw [ffd_eq];rfl
theorem chk5_eq (t : Tb) : chk5 t = if countE t.states.length 1 8 ≠ 0 then (countE t.states.length 1 8, -1, 1, 0) else orF (firstBad (nameBad t.states) 0 t.states.length) (-1) 1
 (if countE t.vars.length 0 6 ≠ 0 then (countE t.vars.length 0 6, -1, 2, 0) else orF (firstBad (nameBad t.vars) 0 t.vars.length) (-1) 2
 (if unlessE (decide ((t.start.length : Int) = t.vars.length)) 2 ≠ 0 then (unlessE (decide ((t.start.length : Int) = t.vars.length)) 2, -1, 3, 0) else orF (firstBad (startBad t.start) 0 t.start.length) (-1) 3
 (if countE t.rules.length 0 12 ≠ 0 then (countE t.rules.length 0 12, -1, 4, 0) else ffRules t 0 t.rules.length))) := by
 unfold chk5;rw [ffd_eq];rfl
theorem names_part (l : List Bs) (least most : Int) (num : Int) (d : Ft) (h0 : 0 <= least /\ least <= 1) : (if countE l.length least most ≠ 0 then (countE l.length least most, -1, num, 0) else orF (firstBad (nameBad l) 0 l.length) (-1) num d) =
 (if (namesBad l most).2 ≠ 0 then ((namesBad l most).2, -1, num, (namesBad l most).1) else if (l.length : Int) < least then (2, -1, num, 0) else d) := by
 unfold namesBad;by_cases h1 : most < (l.length : Int)
 ·rw [countE_big h1, if_pos h1]; rfl
 ·rw [if_neg h1]
  by_cases h2 : (l.length : Int) < least
  ·have : l.length = 0 := by omega
   rw [countE_few h1 h2, if_pos (by decide), this, show firstBad (nameBad l) 0 0 = none from rfl, show (nbOf none).2 = 0 from rfl, if_neg (by decide)];rw [if_pos (by omega)]
  ·rw [countE_no h1 h2, if_neg (by decide)]
   cases hf : firstBad (nameBad l) 0 l.length with
   | none => rw [show (nbOf none).2 = 0 from rfl, if_neg (by decide), if_neg h2]; rfl
   | some x =>
    have := firstBad_ne _ _ _ _ hf;rw [show (nbOf (some x)).2 = x.2 from rfl, if_pos this]; rfl
theorem namesBad_zero {l : List Bs} {most : Int} (h : (namesBad l most).2 = 0) : (namesBad l most).1 = 0 := by
 unfold namesBad at h ⊢;split at h
 ·cases h
 ·rename_i h1
  rw [if_neg h1];cases hf : firstBad (nameBad l) 0 l.length with
  | none => rfl
  | some x => rw [hf] at h; exact absurd h (firstBad_ne _ _ _ _ hf)
theorem f4_fin {w wr : World} {g : Nat} {f R : Ft} (h : F4 wr g (0, 0, 0, 0)) (hb : Below w.heap.size w wr) (hg : w.heap.size <= g) (he : R = f) : f4_ok w wr g f R :=
 ⟨h.set f, by rw [he], below_set4 hb hg _ _ _ _⟩
theorem f4_other {w : World} {g b k : Nat} {f : Ft} (h : F4 w g f) (x : Value) (hne : g ≠ b) : F4 (w.setCell ⟨b, k, none⟩ x) g f := by
 unfold F4 at h ⊢;rw [heap_setCell_other _ ⟨b, k, none⟩ _ _ hne]; exact h
theorem cell_other {w : World} {g b j k : Nat} {u : Value} (h : w.cell? ⟨b, j, none⟩ = some u) (x : Value) (hne : b ≠ g) : (w.setCell ⟨g, k, none⟩ x).cell? ⟨b, j, none⟩ = some u := by
 rw [World.cell?_setCell_other w ⟨g, k, none⟩ ⟨b, j, none⟩ _ (by intro e; injection e; omega)]; exact h
theorem startBad_at (l : List Int) (K : Nat) (x : Int) (h : l[K]? = some x) : startBad l K = unlessE (isVal x) 3 := by unfold startBad; rw [h]
theorem any_take_name {l : List Rl} {J : Nat} {x : Bs} {y : Rl} (h : (l.take J).any (fun z => z.name == x) = false) (hy : l[J]? = some y) (hne : (y.name == x) = false) : (l.take (J + 1)).any (fun z => z.name == x) = false := by
 rw [List.take_add_one, hy, List.any_append, h, Bool.false_or];simp [hne]
set_option maxHeartbeats 8000000 in
set_option maxRecDepth 100000 in
theorem refCheck5_any (t : Tb) (c0 c1 c2 c3 : Value) (w : World) (h : TbIs w [c0, c1, c2, c3] t) (hw : TbWf t) :
 Calls Tryz.prog 7 #[.agg #[c0, c1, c2, c3]] w fun z w' => z = .returned (chk5 t).v /\ Below w.heap.size w w' := by
 have HT := Lib.hid h;have HW := Lib.hid hw;obtain ⟨d0, d1, d2, d3, e, h0, h1, h2, h3⟩ := h;cases e
 have HN1 := Lib.hid (fun (W : World) (hb : Below w.heap.size w W) => refNames5_any t.states c0 8 W (Sl.below h0 hb) hw.1.2 hw.1.1);have HN2 := Lib.hid (fun (W : World) (hb : Below w.heap.size w W) => refNames5_any t.vars c1 6 W (Sl.below h1 hb) hw.2.1.2 hw.2.1.1);obtain ⟨a0, cap0, rfl⟩ := sl_len h0;obtain ⟨a1, cap1, rfl⟩ := sl_len h1;have HSN : Hid (SlN w c2 t.start) := Lib.hid h2;obtain ⟨a2, cap2, rfl⟩ := sl_len h2;obtain ⟨a3, cap3, rfl, h3⟩ := h3.open;rw [List.length_map] at HT HN1 HN2 HSN ⊢;rw [List.length_map] at HT ⊢;rw [List.length_map] at HT ⊢;obtain ⟨R, hR⟩ : ∃ R, chk5 t = R := ⟨_, rfl⟩;have hR1 := hR;rw [chk5_eq, names_part t.states 1 8 1 _ (by decide), names_part t.vars 0 6 2 _ (by decide)] at hR1;rw [hR];obtain ⟨S, hS⟩ : ∃ N, t.states.length = N := ⟨_, rfl⟩;obtain ⟨V, hV⟩ : ∃ N, t.vars.length = N := ⟨_, rfl⟩;obtain ⟨M, hM⟩ : ∃ N, t.start.length = N := ⟨_, rfl⟩;obtain ⟨N, hN⟩ : ∃ N, t.rules.length = N := ⟨_, rfl⟩;have hML := hw.2.2.1.2;have hNL := hw.2.2.2.2;rw [hS, hV, hM, hN] at HT hR1;rw [hS, hV, hM, hN];rw [hS] at HN1;rw [hV] at HN2;rw [hM] at HSN hML;rw [hN] at h3 hNL;have HR3 := Lib.hid h3;have HML := Lib.hid hML;have HNL := Lib.hid hNL;have HM := Lib.hid hM;have HN := Lib.hid hN;have HR := Lib.hid hR1;obtain ⟨⟨b1, e1⟩, hb1⟩ : ∃ x, namesBad t.states 8 = x := ⟨_, rfl⟩;obtain ⟨⟨b2, e2⟩, hb2⟩ : ∃ x, namesBad t.vars 6 = x := ⟨_, rfl⟩;have hz1 := namesBad_zero (l := t.states) (most := 8);rw [hb1] at HN1 HR hz1;rw [hb2] at HN2 HR;have HZ1 : Hid (e1 = 0 -> b1 = 0) := Lib.hid hz1;unfold bv at HN1 HN2;obtain ⟨W0, hW0⟩ : ∃ W0, w.alloc (.cells #[.slice a0 S cap0, .slice a1 V cap1, .slice a2 M cap2, .slice a3 N cap3] 26) = W0 := ⟨_, rfl⟩;have hB0 : Below w.heap.size w W0 := by rw [<- hW0]; exact below_alloc _ _
 have q0 : W0.cell? ⟨w.heap.size, 0, none⟩ = some (.slice a0 S cap0) := by rw [<- hW0]; exact box_cell _ _ _ _ _ rfl
 have q1 : W0.cell? ⟨w.heap.size, 1, none⟩ = some (.slice a1 V cap1) := by rw [<- hW0]; exact box_cell _ _ _ _ _ rfl
 have q2 : W0.cell? ⟨w.heap.size, 2, none⟩ = some (.slice a2 M cap2) := by rw [<- hW0]; exact box_cell _ _ _ _ _ rfl
 have q3 : W0.cell? ⟨w.heap.size, 3, none⟩ = some (.slice a3 N cap3) := by rw [<- hW0]; exact box_cell _ _ _ _ _ rfl
 have hwW0 : w.heap.size < W0.heap.size := by rw [<- hW0]; show _ < (w.heap.push _).size; rw [Array.size_push]; omega
 obtain ⟨g2, hg2⟩ : ∃ g, W0.heap.size = g := ⟨_, rfl⟩;obtain ⟨W1, hW1⟩ : ∃ W1, W0.alloc (.cells #[.int .i64 0, .int .i64 0, .int .i64 0, .int .i64 0] 31) = W1 := ⟨_, rfl⟩;have hB1 : Below W0.heap.size W0 W1 := by rw [<- hW1]; exact below_alloc _ _
 have hF1 : F4 W1 g2 (0, 0, 0, 0) := by rw [<- hW1, <- hg2]; exact heap_alloc_at _ _
 have q0 := kept_cell hB1 q0;have q1 := kept_cell hB1 q1;have q2 := kept_cell hB1 q2;have q3 := kept_cell hB1 q3;have HB1 := Lib.hid (hB0.trans (hB1.mono hB0.size));have HGW := Lib.hid (show w.heap.size < g2 by rw [<- hg2]; exact hwW0);have HC1 := Lib.hid (HN1.out W1 HB1.out);have HF1 := Lib.hid hF1;clear h0 h1 h2 h3 hw hR hR1 hS hV hM hN hML hNL hb1 hb2 hz1 hB0 hB1 hF1 hwW0 HN1;go_enter Tryz.func7, Tryz.ntmps7;go_wp2_with fail;refine HC1.out.mono ?_;rintro _ w2 ⟨rfl, hb2⟩;have q0 := kept_cell hb2 q0;have q1 := kept_cell hb2 q1;have q2 := kept_cell hb2 q2;have q3 := kept_cell hb2 q3;have HB2 := Lib.hid (HB1.out.trans (hb2.mono HB1.out.size));have hF2 := HF1.out.below hb2;obtain ⟨g3, hg3⟩ : ∃ g, w2.heap.size = g := ⟨_, rfl⟩;have HG23 := Lib.hid (show g2 < g3 by rw [<- hg3]; exact (Array.getElem?_eq_some_iff.1 hF2).1);obtain ⟨Wz, hWz⟩ : ∃ Wz, w2.alloc (.cells #[.int .i64 0, .int .i64 0] 48) = Wz := ⟨_, rfl⟩;have hBz : Below w2.heap.size w2 Wz := by rw [<- hWz]; exact below_alloc _ _
 have hXz : F2 Wz g3 (0, 0) := by rw [<- hWz, <- hg3]; exact heap_alloc_at _ _
 obtain ⟨⟨y0, z0⟩, y1, z1⟩ := hXz.cells;obtain ⟨W3, hW3⟩ : ∃ W3, (Wz.setCell ⟨g3, 0, none⟩ (.int .i64 b1)).setCell ⟨g3, 1, none⟩ (.int .i64 e1) = W3 := ⟨_, rfl⟩;have hX3 : F2 W3 g3 (b1, e1) := by rw [<- hW3]; exact hXz.set (b1, e1)
 have hwg3 : w.heap.size < g3 := Nat.lt_trans HGW.out HG23.out;have q0 : W3.cell? ⟨w.heap.size, 0, none⟩ = some (.slice a0 S cap0) := by rw [<- hW3]; exact cell_other (cell_other (kept_cell hBz q0) _ (Nat.ne_of_lt hwg3)) _ (Nat.ne_of_lt hwg3)
 have q1 : W3.cell? ⟨w.heap.size, 1, none⟩ = some (.slice a1 V cap1) := by rw [<- hW3]; exact cell_other (cell_other (kept_cell hBz q1) _ (Nat.ne_of_lt hwg3)) _ (Nat.ne_of_lt hwg3)
 have q2 : W3.cell? ⟨w.heap.size, 2, none⟩ = some (.slice a2 M cap2) := by rw [<- hW3]; exact cell_other (cell_other (kept_cell hBz q2) _ (Nat.ne_of_lt hwg3)) _ (Nat.ne_of_lt hwg3)
 have q3 : W3.cell? ⟨w.heap.size, 3, none⟩ = some (.slice a3 N cap3) := by rw [<- hW3]; exact cell_other (cell_other (kept_cell hBz q3) _ (Nat.ne_of_lt hwg3)) _ (Nat.ne_of_lt hwg3)
 have HB3 : Hid (Below w.heap.size w W3) := Lib.hid (by rw [<- hW3]; exact below_set2 (HB2.out.trans (hBz.mono HB2.out.size)) (Nat.le_of_lt hwg3) _ _);have HF3 : Hid (F4 W3 g2 (0, 0, 0, 0)) := Lib.hid (by rw [<- hW3]; exact f4_other (f4_other (hF2.below hBz) _ (Nat.ne_of_lt HG23.out)) _ (Nat.ne_of_lt HG23.out));have HX3 := Lib.hid hX3;obtain ⟨⟨t0, v0⟩, t1, v1⟩ := hX3.cells;obtain ⟨⟨r0, s0⟩, ⟨r1, s1⟩, ⟨r2, s2⟩, r3, s3⟩ := HF3.out.cells;simp only at t0 t1;clear hb2 hF2 hBz hX3 hXz HC1 HF1 hwg3;by_cases he1 : e1 = 0
 case neg =>
  have hEb : (e1 == 0) = false := beq_eq_false_iff_ne.2 he1;have HV := Lib.hid (show R = (e1, -1, 1, b1) by have h := HR.out; rw [if_pos he1] at h; exact h.symm);clear he1 HR;go_wp2_with fail;obtain ⟨hx1, hx2, hx3⟩ := f4_fin HF3.out HB3.out (Nat.le_of_lt HGW.out) HV.out;exact f4_end (e1, -1, 1, b1) rfl rfl rfl hx1 ⟨by rw [hx2], hx3⟩
 subst he1;have hb10 := HZ1.out rfl;subst hb10;by_cases hS0 : S = 0
 ·subst hS0
  have HV := Lib.hid (show R = (2, -1, 1, 0) by have h := HR.out; rw [if_neg (by decide), if_pos (by decide)] at h; exact h.symm);obtain ⟨W4, hW4⟩ : ∃ W4, W3.setCell ⟨g3, 1, none⟩ (.int .i64 2) = W4 := ⟨_, rfl⟩;have hX4 : F2 W4 g3 (0, 2) := by
   rw [<- hW4];have := HX3.out;unfold F2 at this ⊢;exact heap_setCell_same _ g3 1 _ 48 _ this
  have HF4 : Hid (F4 W4 g2 (0, 0, 0, 0)) := Lib.hid (by rw [<- hW4]; exact f4_other HF3.out _ (Nat.ne_of_lt HG23.out));have HB4 : Hid (Below w.heap.size w W4) := Lib.hid (by rw [<- hW4]; exact HB3.out.setCell (p := ⟨g3, 1, none⟩) (Nat.le_of_lt (Nat.lt_trans HGW.out HG23.out)) _);obtain ⟨⟨y0, z0⟩, y1, z1⟩ := hX4.cells;obtain ⟨⟨m0, n0⟩, ⟨m1, n1⟩, ⟨m2, n2⟩, m3, n3⟩ := HF4.out.cells;clear HR hX4;go_wp2_with fail;obtain ⟨hx1, hx2, hx3⟩ := f4_fin HF4.out HB4.out (Nat.le_of_lt HGW.out) HV.out;exact f4_end (2, -1, 1, 0) rfl rfl rfl hx1 ⟨by rw [hx2], hx3⟩
 have hSb : ((S : Int) == 0) = false := beq_eq_false_iff_ne.2 (by omega);have HR1 := Lib.hid (show (if e2 ≠ 0 then (e2, -1, 2, b2) else if (V : Int) < 0 then (2, -1, 2, 0) else if unlessE (decide ((M : Int) = V)) 2 ≠ 0 then (unlessE (decide ((M : Int) = V)) 2, -1, 3, 0) else orF (firstBad (startBad t.start) 0 M) (-1) 3 (if countE (N : Int) 0 12 ≠ 0 then (countE (N : Int) 0 12, -1, 4, 0) else ffRules t 0 N)) = R by have h := HR.out; rw [if_neg (show ¬ (0 : Int) ≠ 0 by decide), if_neg (show ¬ (S : Int) < 1 by omega)] at h; exact h);have HC2 := Lib.hid (HN2.out W3 HB3.out);clear HR;go_wp2_with fail;trace_state
 refine HC2.out.mono ?_;rintro _ w4 ⟨rfl, hb4⟩;have hF4 := HF3.out.below hb4;have hX4 := HX3.out.below hb4;have hwg3 : w.heap.size < g3 := Nat.lt_trans HGW.out HG23.out;have hb3w := HB3.out.trans (hb4.mono HB3.out.size);obtain ⟨W5, hW5⟩ : ∃ W5, (w4.setCell ⟨g3, 0, none⟩ (.int .i64 b2)).setCell ⟨g3, 1, none⟩ (.int .i64 e2) = W5 := ⟨_, rfl⟩;have hX5 : F2 W5 g3 (b2, e2) := by rw [<- hW5]; exact hX4.set (b2, e2)
 obtain ⟨⟨y0, z0⟩, y1, z1⟩ := hX4.cells;have q0 : W5.cell? ⟨w.heap.size, 0, none⟩ = some (.slice a0 S cap0) := by rw [<- hW5]; exact cell_other (cell_other (kept_cell hb4 q0) _ (Nat.ne_of_lt hwg3)) _ (Nat.ne_of_lt hwg3)
 have q1 : W5.cell? ⟨w.heap.size, 1, none⟩ = some (.slice a1 V cap1) := by rw [<- hW5]; exact cell_other (cell_other (kept_cell hb4 q1) _ (Nat.ne_of_lt hwg3)) _ (Nat.ne_of_lt hwg3)
 have q2 : W5.cell? ⟨w.heap.size, 2, none⟩ = some (.slice a2 M cap2) := by rw [<- hW5]; exact cell_other (cell_other (kept_cell hb4 q2) _ (Nat.ne_of_lt hwg3)) _ (Nat.ne_of_lt hwg3)
 have q3 : W5.cell? ⟨w.heap.size, 3, none⟩ = some (.slice a3 N cap3) := by rw [<- hW5]; exact cell_other (cell_other (kept_cell hb4 q3) _ (Nat.ne_of_lt hwg3)) _ (Nat.ne_of_lt hwg3)
 have HB5 : Hid (Below w.heap.size w W5) := Lib.hid (by rw [<- hW5]; exact below_set2 hb3w (Nat.le_of_lt hwg3) _ _);have HF5 : Hid (F4 W5 g2 (0, 0, 0, 0)) := Lib.hid (by rw [<- hW5]; exact f4_other (f4_other hF4 _ (Nat.ne_of_lt HG23.out)) _ (Nat.ne_of_lt HG23.out));obtain ⟨⟨t0, v0⟩, t1, v1⟩ := hX5.cells;obtain ⟨⟨r0, s0⟩, ⟨r1, s1⟩, ⟨r2, s2⟩, r3, s3⟩ := HF5.out.cells;simp only at t0 t1;clear hb4 hF4 hX4 hwg3 hb3w hX5 HC2 hW0 hW1 hWz hW3 hg2 hg3 hSb;by_cases he2 : e2 = 0
 case neg =>
  have hEb : (e2 == 0) = false := beq_eq_false_iff_ne.2 he2;have HV := Lib.hid (show R = (e2, -1, 2, b2) by have h := HR1.out; rw [if_pos he2] at h; exact h.symm);clear he2 HR1;go_wp2_with fail;obtain ⟨hx1, hx2, hx3⟩ := f4_fin HF5.out HB5.out (Nat.le_of_lt HGW.out) HV.out;exact f4_end (e2, -1, 2, b2) rfl rfl rfl hx1 ⟨by rw [hx2], hx3⟩
 subst he2;have HR2 := Lib.hid (show (if unlessE (decide ((M : Int) = V)) 2 ≠ 0 then (unlessE (decide ((M : Int) = V)) 2, -1, 3, 0) else orF (firstBad (startBad t.start) 0 M) (-1) 3 (if countE (N : Int) 0 12 ≠ 0 then (countE (N : Int) 0 12, -1, 4, 0) else ffRules t 0 N)) = R by have h := HR1.out; rw [if_neg (show ¬ (0 : Int) ≠ 0 by decide), if_neg (show ¬ (V : Int) < 0 by omega)] at h; exact h);clear HR1;by_cases hMV : M = V
 case neg =>
  have hMb : ((M : Int) == (V : Int)) = false := beq_eq_false_iff_ne.2 (by omega);have HV := Lib.hid (show R = (2, -1, 3, 0) by have h := HR2.out; rw [show unlessE (decide ((M : Int) = V)) 2 = 2 by rw [decide_eq_false (show ¬ (M : Int) = V by omega)]; rfl, if_pos (by decide)] at h; exact h.symm);clear hMV HR2;go_wp2_with fail;obtain ⟨hx1, hx2, hx3⟩ := f4_fin HF5.out HB5.out (Nat.le_of_lt HGW.out) HV.out;exact f4_end (2, -1, 3, 0) rfl rfl rfl hx1 ⟨by rw [hx2], hx3⟩
 subst hMV;have HR3' := Lib.hid (show orF (firstBad (startBad t.start) 0 M) (-1) 3 (if countE (N : Int) 0 12 ≠ 0 then (countE (N : Int) 0 12, -1, 4, 0) else ffRules t 0 N) = R by have h := HR2.out; rw [show unlessE (decide ((M : Int) = M)) 2 = 0 by rw [decide_eq_true rfl]; rfl, if_neg (by decide)] at h; exact h);have HU := Lib.hid (show W5.cell? ⟨w.heap.size, 0, none⟩ = some (.slice a0 S cap0) /\ W5.cell? ⟨w.heap.size, 1, none⟩ = some (.slice a1 M cap1) /\ W5.cell? ⟨w.heap.size, 2, none⟩ = some (.slice a2 M cap2) /\ W5.cell? ⟨w.heap.size, 3, none⟩ = some (.slice a3 N cap3) from ⟨q0, q1, q2, q3⟩);clear HR2;go_wp2_with fail;go_loopw [4] (fun y wr => ∃ (K : Nat), y = .int .i64 (K : Int) /\ K <= M /\ Hid (Below W5.heap.size W5 wr) /\ Hid (firstBad (startBad t.start) K (M - K) = firstBad (startBad t.start) 0 M)) (fun y _ => M - (intOf y).toNat)
 case atStart => exact ⟨0, rfl, Nat.zero_le _, Lib.hid (Below.refl _ _), Lib.hid rfl⟩
 case round =>
  obtain ⟨K, rfl, hK, HBK, HI⟩ := hrel;clear q0 q1 q2 q3 t0 t1 v0 v1 r0 r1 r2 r3 s0 s1 s2 s3 y0 y1 z0 z1 hW5;obtain ⟨⟨r0, s0⟩, ⟨r1, s1⟩, ⟨r2, s2⟩, r3, s3⟩ := (HF5.out.below HBK.out).cells;have q2 := kept_cell HBK.out HU.out.2.2.1;have HBW := Lib.hid (HB5.out.trans (HBK.out.mono HB5.out.size));by_cases hlt : K < M
  ·have hltI : (K : Int) < (M : Int) := by omega
   obtain ⟨x, hx⟩ : ∃ x, t.start[K]? = some x := ⟨_, List.getElem?_eq_getElem (by rw [HM.out]; exact hlt)⟩;have hm : (t.start.map fun n => Value.int .i64 n)[K]? = some (.int .i64 x) := by rw [List.getElem?_map, hx]; rfl
   obtain ⟨bf, of_, ea, hc⟩ := HSN.out.at hm;subst ea;have z0 := kept_cell HBW.out hc;have hat := startBad_at t.start K x hx;have hwK := wrap_next K (by have := HML.out; omega);have HVX := Lib.hid (refValue_any x wr);clear hm hx hc;cases hv : isVal x with
   | false =>
    rw [hv] at hat HVX;have HV := Lib.hid (show R = (3, -1, 3, (K : Int)) by rw [<- HR3'.out, HI.out.symm.trans (firstBad_now _ K M 3 hlt hat (by decide))]; rfl);clear hv hat HI;go_wp2_with fail;refine HVX.out.mono ?_;rintro _ w1 ⟨rfl, rfl⟩;go_wp2_with fail;obtain ⟨hx1, hx2, hx3⟩ := f4_fin (HF5.out.below HBK.out) HBW.out (Nat.le_of_lt HGW.out) HV.out;exact f4_end (3, -1, 3, (K : Int)) rfl rfl rfl hx1 ⟨by rw [hx2], hx3⟩
   | true =>
    rw [hv] at hat HVX;have HI3 := Lib.hid ((firstBad_later _ K M hlt hat).trans HI.out);clear hv hat HI;go_wp2_with fail;refine HVX.out.mono ?_;rintro _ w1 ⟨rfl, rfl⟩;go_wp2_with fail;clear hwK hltI;exact ⟨⟨K + 1, by go_num, by omega, HBK, HI3⟩, by simp [intOf]; omega⟩
  ·have hltI : ¬ (K : Int) < (M : Int) := by omega
   have e : K = M := by omega
   have hz : firstBad (startBad t.start) 0 M = none := by rw [<- HI.out, e, Nat.sub_self]; rfl
   have HR4 := Lib.hid (show (if countE (N : Int) 0 12 ≠ 0 then (countE (N : Int) 0 12, -1, 4, 0) else ffRules t 0 N) = R by have h := HR3'.out; rw [hz] at h; exact h);have q3 := kept_cell HBK.out HU.out.2.2.2;obtain ⟨Z, rfl⟩ : ∃ Z, Z = wr := ⟨_, rfl⟩;clear hz HI HR3';by_cases hN12 : 12 < (N : Int)
   ·have HV := Lib.hid (show R = (4, -1, 4, 0) by rw [<- HR4.out, countE_big hN12, if_pos (by decide)])
    clear HR4;go_wp2_with fail;obtain ⟨hx1, hx2, hx3⟩ := f4_fin (HF5.out.below HBK.out) HBW.out (Nat.le_of_lt HGW.out) HV.out;exact f4_end (4, -1, 4, 0) rfl rfl rfl hx1 ⟨by rw [hx2], hx3⟩
   have HR5 := Lib.hid (show ffRules t 0 N = R by have h := HR4.out; rw [countE_no hN12 (by omega), if_neg (by decide)] at h; exact h);clear HR4;go_wp2_with fail;go_loopw [5] (fun y wr => ∃ (K : Nat), y = .int .i64 (K : Int) /\ K <= N /\ Hid (Below W5.heap.size W5 wr) /\ Hid (ffRules t K (N - K) = R)) (fun y _ => N - (intOf y).toNat)
   case atStart => exact ⟨0, rfl, Nat.zero_le _, HBK, HR5⟩
   case round =>
    clear q2 q3 r0 r1 r2 r3 s0 s1 s2 s3 HBW HBK HR5;obtain ⟨K, rfl, hK, HBK, HI⟩ := hrel;obtain ⟨⟨r0, s0⟩, ⟨r1, s1⟩, ⟨r2, s2⟩, r3, s3⟩ := (HF5.out.below HBK.out).cells;have q3 := kept_cell HBK.out HU.out.2.2.2;have HBW := Lib.hid (HB5.out.trans (HBK.out.mono HB5.out.size));by_cases hlt : K < N
    ·have hltI : (K : Int) < (N : Int) := by omega
     obtain ⟨r, hr⟩ : ∃ r, t.rules[K]? = some r := ⟨_, List.getElem?_eq_getElem (by rw [HN.out]; exact hlt)⟩;have hrw := HW.out.2.2.2.1 r (List.mem_of_getElem? hr);have HRC := Lib.hid (fun (W : World) (hb : Below w.heap.size w W) => refRule_any t _ _ _ _ K r W (HT.out.below hb) HW.out hr);obtain ⟨b, off, ea, cs, -, ⟨vf, vg, vp, rfl, hf, hg, hp⟩, hc⟩ := HR3.out.at hr;subst ea;obtain ⟨af, capf, rfl⟩ := sl_len hf;obtain ⟨ag, capg, rfl, -⟩ := hg.open;obtain ⟨ap, capp, rfl, -⟩ := hp.open;have HNM := Lib.hid (fun (W : World) => I.refName_any r.name W hrw.1);have hst := ffRules_next t K (N - (K + 1)) r hr;rw [show N - (K + 1) + 1 = N - K by omega] at hst;have hst := hst.symm.trans HI.out;obtain ⟨nm, hnm⟩ : ∃ x, r.name = x := ⟨_, rfl⟩;obtain ⟨A, hA⟩ : ∃ x, r.args = x := ⟨_, rfl⟩;obtain ⟨lf, hlf⟩ : ∃ x, (r.from_.map fun n => Value.int .i64 n).length = x := ⟨_, rfl⟩;obtain ⟨lg, hlg⟩ : ∃ x, r.guards.length = x := ⟨_, rfl⟩;obtain ⟨lp, hlp⟩ : ∃ x, r.steps.length = x := ⟨_, rfl⟩;obtain ⟨⟨f0, f1, f2, f3⟩, hf0⟩ : ∃ f, ff (K : Int) (ruleTail t r) = f := ⟨_, rfl⟩;have hff := ff_first (K : Int) (ruleTail t r);rw [hnm, hA, hf0] at hst;rw [hf0] at HRC hff;rw [show Ft.v (f0, f1, f2, f3) = .agg #[.int .i64 f0, .int .i64 f1, .int .i64 f2, .int .i64 f3] from rfl] at HRC;rw [hnm, hA, hlf, hlg, hlp] at hc;rw [hnm] at HNM;have hc0 : w.cell? ⟨b, off + K * 5, none⟩ = some (.string (str nm)) := hc 0 _ rfl;have k0 := kept_cell HBW.out hc0;have k1 := kept_cell HBW.out (hc 1 _ rfl);have k2 := kept_cell HBW.out (hc 2 _ rfl);have k3 := kept_cell HBW.out (hc 3 _ rfl);have k4 := kept_cell HBW.out (hc 4 _ rfl);have HST := Lib.hid hst;have HFF := Lib.hid hff;have HNK := Lib.hid (show (K : Nat) < t.rules.length by rw [HN.out]; exact hlt);have hwK := wrap_next K (by have := HNL.out; omega);obtain ⟨g6, hg6⟩ : ∃ g, wr.heap.size = g := ⟨_, rfl⟩;obtain ⟨W6, hW6⟩ : ∃ W6, wr.alloc (.cells #[.string (str nm), .int .i64 A, .slice af lf capf, .slice ag lg capg, .slice ap lp capp] 44) = W6 := ⟨_, rfl⟩;have hB6 : Below wr.heap.size wr W6 := by rw [<- hW6]; exact below_alloc _ _
     have u0 : W6.cell? ⟨g6, 0, none⟩ = some (.string (str nm)) := by rw [<- hW6, <- hg6]; exact box_cell _ _ _ _ _ rfl
     have u1 : W6.cell? ⟨g6, 1, none⟩ = some (.int .i64 A) := by rw [<- hW6, <- hg6]; exact box_cell _ _ _ _ _ rfl
     have HB6 := Lib.hid (HBK.out.trans (hB6.mono HBK.out.size));have HBW6 := Lib.hid (HBW.out.trans (hB6.mono HBW.out.size));obtain ⟨⟨m0, n0⟩, ⟨m1, n1⟩, ⟨m2, n2⟩, m3, n3⟩ := (HF5.out.below HB6.out).cells;have HN6 := Lib.hid (HNM.out W6);unfold sv at HN6;clear hr hrw hf hg hp hst hnm hA hlf hlg hlp hf0 hff hc hc0 HNM hB6 HI;cases hn : I.isName nm with
     | false =>
      rw [hn] at HN6;have HV := Lib.hid (show R = (6, (K : Int), 5, 0) by rw [<- HST.out, show nameE nm ((t.rules.take K).any fun x => x.name == nm) = 6 by unfold nameE; rw [hn, if_pos rfl], if_pos (by decide)]);clear hn HST HFF HRC;go_wp2_with fail;refine HN6.out.mono ?_;rintro _ w7 ⟨rfl, rfl⟩;go_wp2_with fail;obtain ⟨hx1, hx2, hx3⟩ := f4_fin (HF5.out.below HB6.out) HBW6.out (Nat.le_of_lt HGW.out) HV.out;exact f4_end (6, (K : Int), 5, 0) rfl rfl rfl hx1 ⟨by rw [hx2], hx3⟩
     | true =>
      rw [hn] at HN6;have HNE := Lib.hid (show nameE nm ((t.rules.take K).any fun x => x.name == nm) = if ((t.rules.take K).any fun x => x.name == nm) = true then 9 else 0 by unfold nameE; rw [hn, if_neg (by decide)]);clear hn;go_wp2_with fail;refine HN6.out.mono ?_;rintro _ w7 ⟨rfl, rfl⟩;go_wp2_with fail;clear HN6 k0 k1 k2 k3 k4 r0 r1 r2 r3 s0 s1 s2 s3 q3 hW6 hg6;go_loopw [7] (fun y wy => ∃ (J : Nat), y = .int .i64 (J : Int) /\ J <= K /\ Hid (Below W6.heap.size W6 wy) /\ Hid ((t.rules.take J).any (fun z => z.name == nm) = false)) (fun y _ => K - (intOf y).toNat)
      case atStart => exact ⟨0, rfl, Nat.zero_le _, Lib.hid (Below.refl _ _), Lib.hid rfl⟩
      case round =>
       obtain ⟨J, rfl, hJ, HBJ, HJ⟩ := hrel;have HB7 := Lib.hid (HB6.out.trans (HBJ.out.mono HB6.out.size));have HBW7 := Lib.hid (HBW6.out.trans (HBJ.out.mono HBW6.out.size));have u0 := kept_cell HBJ.out u0;have u1 := kept_cell HBJ.out u1;have q3 := kept_cell HB7.out HU.out.2.2.2;clear m0 m1 m2 m3 n0 n1 n2 n3;obtain ⟨⟨m0, n0⟩, ⟨m1, n1⟩, ⟨m2, n2⟩, m3, n3⟩ := (HF5.out.below HB7.out).cells;by_cases hltJ : J < K
       ·have hltJI : (J : Int) < (K : Int) := by omega
        have hltJN : (J : Int) < (N : Int) := by omega
        obtain ⟨y, hy⟩ : ∃ y, t.rules[J]? = some y := ⟨_, List.getElem?_eq_getElem (by rw [HN.out]; omega)⟩;obtain ⟨b2', o2, ea, cs, -, ⟨vf2, vg2, vp2, rfl, -, -, -⟩, hc⟩ := HR3.out.at hy;cases ea
        obtain ⟨nm2, hnm2⟩ : ∃ x, y.name = x := ⟨_, rfl⟩;rw [hnm2] at hc;have d0 : w.cell? ⟨b, off + J * 5, none⟩ = some (.string (str nm2)) := hc 0 _ rfl;have d0 := kept_cell HBW7.out d0;have HYJ := Lib.hid hy;have hwJ := wrap_next J (by have := HNL.out; omega);clear hc hy;by_cases hq : nm2 = nm
        ·have hqb : ((str nm2).toList == (str nm).toList) = true := by rw [hq]; simp
         have hany : ((t.rules.take K).any fun z => z.name == nm) = true := by
          rw [List.any_eq_true];exact ⟨y, List.mem_of_getElem? (i := J) (by rw [List.getElem?_take, if_pos hltJ]; exact HYJ.out), beq_iff_eq.2 (hnm2.trans hq)⟩
         have HV := Lib.hid (show R = (9, (K : Int), 5, 0) by
          have hne := HNE.out;rw [hany, if_pos rfl] at hne;rw [<- HST.out, hany, hne, if_pos (by decide)])
         clear hq hany HST HFF HRC HNE hnm2;go_wp2_with fail;go_quiet (fail)
         go_wp2_with fail;obtain ⟨hx1, hx2, hx3⟩ := f4_fin (HF5.out.below (below_drewN HB7.out _)) (below_drewN HBW7.out _) (Nat.le_of_lt HGW.out) HV.out;exact f4_end (9, (K : Int), 5, 0) rfl rfl rfl hx1 ⟨by rw [hx2], hx3⟩
        ·have hqb : ((str nm2).toList == (str nm).toList) = false := str_ne hq
         have HQ := Lib.hid (show (y.name == nm) = false from beq_eq_false_iff_ne.2 (by rw [hnm2]; exact hq));clear hq hnm2;go_wp2_with fail;go_quiet (fail)
         go_wp2_with fail;clear hwJ hltI hltJI hwK hltJN;exact ⟨⟨J + 1, by go_num, by omega, Lib.hid (below_drewN HBJ.out _), Lib.hid (any_take_name HJ.out HYJ.out HQ.out)⟩, by simp [intOf]; omega⟩
       ·have hltJI : ¬ (J : Int) < (K : Int) := by omega
        have e : J = K := by omega
        have HS2 := Lib.hid (show (if unlessE (decide (0 <= A /\ A <= 4)) 3 ≠ 0 then (unlessE (decide (0 <= A /\ A <= 4)) 3, (K : Int), 6, 0) else if ((f0, f1, f2, f3) : Ft) ≠ (0, 0, 0, 0) then (f0, f1, f2, f3) else ffRules t (K + 1) (N - (K + 1))) = R by
         have hs := HST.out;have hne := HNE.out;have hj := HJ.out;rw [e] at hj;rw [hj, show (if false = true then (9 : Int) else 0) = 0 from rfl] at hne;rw [hj, hne, if_neg (by decide)] at hs;exact hs)
        have HCR := Lib.hid (HRC.out wr HBW7.out);clear HST HNE HRC;by_cases hA : 0 <= A /\ A <= 4
        case neg =>
         have HV := Lib.hid (show R = (3, (K : Int), 6, 0) by rw [<- HS2.out, show unlessE (decide (0 <= A /\ A <= 4)) 3 = 3 by rw [decide_eq_false hA]; rfl, if_pos (by decide)]);clear HS2 HFF HCR;by_cases hA0 : A < 0
         ·clear hA
          go_wp2_with fail;obtain ⟨hx1, hx2, hx3⟩ := f4_fin (HF5.out.below HB7.out) HBW7.out (Nat.le_of_lt HGW.out) HV.out;exact f4_end (3, (K : Int), 6, 0) rfl rfl rfl hx1 ⟨by rw [hx2], hx3⟩
         ·have hA4 : 4 < A := by omega
          clear hA;go_wp2_with fail;obtain ⟨hx1, hx2, hx3⟩ := f4_fin (HF5.out.below HB7.out) HBW7.out (Nat.le_of_lt HGW.out) HV.out;exact f4_end (3, (K : Int), 6, 0) rfl rfl rfl hx1 ⟨by rw [hx2], hx3⟩
        have HS3 := Lib.hid (show (if ((f0, f1, f2, f3) : Ft) ≠ (0, 0, 0, 0) then (f0, f1, f2, f3) else ffRules t (K + 1) (N - (K + 1))) = R by
         have hs := HS2.out;rw [show unlessE (decide (0 <= A /\ A <= 4)) 3 = 0 by rw [decide_eq_true hA]; rfl, if_neg (by decide)] at hs;exact hs)
        have hA0 : ¬ A < 0 := by omega
        have hA4 : ¬ 4 < A := by omega
        have p0 := kept_cell HB7.out HU.out.1;have p1 := kept_cell HB7.out HU.out.2.1;have p2 := kept_cell HB7.out HU.out.2.2.1;clear HS2 hA;go_wp2_with fail;refine HCR.out.mono ?_;rintro _ w8 ⟨rfl, hb8⟩;have HB8 := Lib.hid (HB7.out.trans (hb8.mono HB7.out.size));have HBW8 := Lib.hid (HBW7.out.trans (hb8.mono HBW7.out.size));obtain ⟨W9, hW9⟩ : ∃ W9, w8.alloc (.cells #[.int .i64 f0, .int .i64 f1, .int .i64 f2, .int .i64 f3] 31) = W9 := ⟨_, rfl⟩;have hB9 : Below w8.heap.size w8 W9 := by rw [<- hW9]; exact below_alloc _ _
        have x0 : W9.cell? ⟨w8.heap.size, 0, none⟩ = some (.int .i64 f0) := by rw [<- hW9]; exact box_cell _ _ _ _ _ rfl
        have x1 : W9.cell? ⟨w8.heap.size, 1, none⟩ = some (.int .i64 f1) := by rw [<- hW9]; exact box_cell _ _ _ _ _ rfl
        have x2 : W9.cell? ⟨w8.heap.size, 2, none⟩ = some (.int .i64 f2) := by rw [<- hW9]; exact box_cell _ _ _ _ _ rfl
        have x3 : W9.cell? ⟨w8.heap.size, 3, none⟩ = some (.int .i64 f3) := by rw [<- hW9]; exact box_cell _ _ _ _ _ rfl
        have HB9 := Lib.hid (HB8.out.trans (hB9.mono HB8.out.size));have HBW9 := Lib.hid (HBW8.out.trans (hB9.mono HBW8.out.size));clear m0 m1 m2 m3 n0 n1 n2 n3;obtain ⟨⟨m0, n0⟩, ⟨m1, n1⟩, ⟨m2, n2⟩, m3, n3⟩ := (HF5.out.below HB9.out).cells;clear hb8 hB9 HCR;by_cases hz : f0 = 0
        ·have hzb : (f0 == 0) = true := beq_iff_eq.2 hz
         have HI9 := Lib.hid (show ffRules t (K + 1) (N - (K + 1)) = R by
          have hs := HS3.out;rcases HFF.out with h | h
          ·rw [h, if_neg (by decide)] at hs; exact hs
          ·exact absurd hz h)
         clear hz HS3 HFF;go_wp2_with fail;clear hwK hltI hltJI hA0 hA4;exact ⟨⟨K + 1, by go_num, by omega, HB9, HI9⟩, by simp [intOf]; omega⟩
        ·have hzb : (f0 == 0) = false := beq_eq_false_iff_ne.2 hz
         have HV := Lib.hid (show R = (f0, f1, f2, f3) by rw [<- HS3.out, if_pos (fun e => hz (congrArg (·.1) e))]);clear hz HS3 HFF;go_wp2_with fail;obtain ⟨hx1, hx2, hx3⟩ := f4_fin (HF5.out.below HB9.out) HBW9.out (Nat.le_of_lt HGW.out) HV.out;exact f4_end (f0, f1, f2, f3) rfl rfl rfl hx1 ⟨by rw [hx2], hx3⟩
    ·have hltI : ¬ (K : Int) < (N : Int) := by omega
     have e : K = N := by omega
     have HV := Lib.hid (show R = (0, 0, 0, 0) by rw [<- HI.out, e, Nat.sub_self]; rfl);clear HI;go_wp2_with fail;obtain ⟨hx1, hx2, hx3⟩ := f4_fin (HF5.out.below HBK.out) HBW.out (Nat.le_of_lt HGW.out) HV.out;exact f4_end (0, 0, 0, 0) rfl rfl rfl hx1 ⟨by rw [hx2], hx3⟩
end Go.Proofs.YtjcajeehgjpmmaaGreatDoor.R
namespace Go.Proofs.YtjcajeehgjpmmaaGreatDoor.T
open Go Go.RowKit B K E R
set_option linter.unusedVariables false
set_option maxRecDepth 100000
set_option maxHeartbeats 4000000 in
theorem shows_any (t : Tb) (c0 c1 c2 c3 : Value) (w : World) (h : TbIs w [c0, c1, c2, c3] t) (hw : TbWf t) (hG : Globs w) (hcs : ∀ a l c, c0 = .slice a l c -> l <= c) :
 Calls Tryz.prog 3 #[.agg #[c0, c1, c2, c3]] w fun z w' => z = .returned (.bool true) /\ Below w.heap.size w w' := by
 have HGL := Lib.hid hG;have hsh := fun (W : World) (hb : Below w.heap.size w W) => show_any t c0 c1 c2 c3 W (h.below hb) hw (hG.glob.below hb) hcs
 have hck := fun (W : World) (hb : Below w.heap.size w W) => refCheck5_any t c0 c1 c2 c3 W (h.below hb) hw
 have hrs := fun (hc : chk5 t = (0, 0, 0, 0)) (W : World) (hb : Below w.heap.size w W) => refShow6_any t c0 c1 c2 c3 W (h.below hb) hc
 obtain ⟨_, _, _, _, he, hs, hx, hm, hr⟩ := h;injection he with e0 he; injection he with e1 he; injection he with e2 he; injection he with e3 he
 subst e0 e1 e2 e3; clear he
 obtain ⟨aS, kS, rfl⟩ := sl_len hs;obtain ⟨aX, kX, rfl⟩ := sl_len hx;obtain ⟨aM, kM, rfl⟩ := sl_len hm;obtain ⟨aR, kR, rfl, -⟩ := hr.open;clear hs hx hm hr hcs hw hG;obtain ⟨NS, hNS⟩ : ∃ N, (t.states.map sv).length = N := ⟨_, rfl⟩;obtain ⟨NX, hNX⟩ : ∃ N, (t.vars.map sv).length = N := ⟨_, rfl⟩;obtain ⟨NM, hNM⟩ : ∃ N, (t.start.map fun n => Value.int .i64 n).length = N := ⟨_, rfl⟩;obtain ⟨NR, hNR⟩ : ∃ N, t.rules.length = N := ⟨_, rfl⟩;rw [hNS, hNX, hNM, hNR] at hsh hck hrs ⊢;obtain ⟨W1, hW1⟩ : ∃ W, w.alloc (.cells #[.slice aS NS kS, .slice aX NX kX, .slice aM NM kM, .slice aR NR kR] 26) = W := ⟨_, rfl⟩;obtain ⟨g1, hg1⟩ : ∃ g, w.heap.size = g := ⟨_, rfl⟩;have hB1 : Below w.heap.size w W1 := by rw [<- hW1]; exact below_alloc _ _
 have a0 : W1.cell? ⟨g1, 0, none⟩ = some (.slice aS NS kS) := by rw [<- hW1, <- hg1]; exact box_cell _ _ _ _ _ rfl
 have a1 : W1.cell? ⟨g1, 1, none⟩ = some (.slice aX NX kX) := by rw [<- hW1, <- hg1]; exact box_cell _ _ _ _ _ rfl
 have a2 : W1.cell? ⟨g1, 2, none⟩ = some (.slice aM NM kM) := by rw [<- hW1, <- hg1]; exact box_cell _ _ _ _ _ rfl
 have a3 : W1.cell? ⟨g1, 3, none⟩ = some (.slice aR NR kR) := by rw [<- hW1, <- hg1]; exact box_cell _ _ _ _ _ rfl
 have HB1 := Lib.hid hB1;have HAW := Lib.hid (fun (W : World) (hb : Below w.heap.size w W) => awake_any W (HGL.out.below hb));have hsh1 := hsh W1 hB1;have HCK := Lib.hid hck;have HRS := Lib.hid hrs;clear hNS hNX hNM hNR hB1 hsh hck hrs;obtain ⟨⟨f0, f1, f2, f3⟩, hF⟩ : ∃ F, chk5 t = F := ⟨_, rfl⟩;have hck2 := HCK.out;rw [hF] at hck2 hsh1;unfold Ft.v at hck2;have HCK2 := Lib.hid hck2;clear hck2;by_cases hc : f0 = 0
 ·subst hc
  have hc0 : chk5 t = (0, 0, 0, 0) := chk5_first t (by rw [hF]);have hrs := HRS.out hc0;rw [show_fine hc0] at hsh1;obtain ⟨S, hS⟩ : ∃ S, shownT t = S := ⟨_, rfl⟩;rw [hS] at hsh1 hrs;unfold sv at hsh1 hrs;have HSH := Lib.hid hsh1;have HRS2 := Lib.hid hrs;clear hsh1 hrs hS hc0 hF HCK HRS;go_enter Tryz.func3, Tryz.ntmps3;go_wp2_with fail;refine HSH.out.mono ?_;rintro _ w2 ⟨rfl, hb2⟩;have HB2 := Lib.hid (HB1.out.trans (hb2.mono HB1.out.size));have b0 := kept_cell hb2 a0;have b1 := kept_cell hb2 a1;have b2 := kept_cell hb2 a2;have b3 := kept_cell hb2 a3;clear hb2 HSH hW1 a0 a1 a2 a3;go_wp2_with fail;refine (HCK2.out w2 HB2.out).mono ?_;rintro _ w3 ⟨rfl, hb3⟩;have HB3 := Lib.hid (HB2.out.trans (hb3.mono HB2.out.size));have d0 := kept_cell hb3 b0;have d1 := kept_cell hb3 b1;have d2 := kept_cell hb3 b2;have d3 := kept_cell hb3 b3;clear hb3 b0 b1 b2 b3;go_upto_region 5 with fail
  obtain ⟨W4, hW4⟩ : ∃ W, w3.alloc (.cells #[.int .i64 0, .int .i64 f1, .int .i64 f2, .int .i64 f3] 31) = W := ⟨_, rfl⟩;have hb4 : Below w3.heap.size w3 W4 := by rw [<- hW4]; exact below_alloc _ _
  rw [hW4];have HB4 := Lib.hid (HB3.out.trans (hb4.mono HB3.out.size));have m0 := kept_cell hb4 d0;have m1 := kept_cell hb4 d1;have m2 := kept_cell hb4 d2;have m3 := kept_cell hb4 d3;clear hb4 hW4 d0 d1 d2 d3;go_wp2_with fail;refine (HAW.out W4 HB4.out).mono ?_;rintro _ w5 ⟨rfl, hb5⟩;have HB5 := Lib.hid (HB4.out.trans (hb5.mono HB4.out.size));have n0 := kept_cell hb5 m0;have n1 := kept_cell hb5 m1;have n2 := kept_cell hb5 m2;have n3 := kept_cell hb5 m3;clear hb5 m0 m1 m2 m3;go_wp2_with fail;refine (HRS2.out w5 HB5.out).mono ?_;rintro _ w6 ⟨rfl, hb6⟩;have HB6 := Lib.hid (HB5.out.trans (hb6.mono HB5.out.size));clear hb6;go_wp2_with fail;go_ret;exact ⟨rfl, HB6.out⟩
 ·have hse : showT t = [] := by unfold showT; rw [if_neg (by rw [hF]; exact hc)]
  rw [hse] at hsh1;unfold sv at hsh1;rw [show (str [] : ByteArray) = ⟨#[]⟩ from rfl] at hsh1;have HSH := Lib.hid hsh1;clear hse hsh1 hF HCK HRS;go_enter Tryz.func3, Tryz.ntmps3;go_wp2_with fail;refine HSH.out.mono ?_;rintro _ w2 ⟨rfl, hb2⟩;have HB2 := Lib.hid (HB1.out.trans (hb2.mono HB1.out.size));have b0 := kept_cell hb2 a0;have b1 := kept_cell hb2 a1;have b2 := kept_cell hb2 a2;have b3 := kept_cell hb2 a3;clear hb2 HSH hW1 a0 a1 a2 a3;go_wp2_with fail;refine (HCK2.out w2 HB2.out).mono ?_;rintro _ w3 ⟨rfl, hb3⟩;have HB3 := Lib.hid (HB2.out.trans (hb3.mono HB2.out.size));clear hb3 b0 b1 b2 b3;go_upto_region 4 with fail
  obtain ⟨g3, hg3⟩ : ∃ g, w3.heap.size = g := ⟨_, rfl⟩;obtain ⟨W4, hW4⟩ : ∃ W, w3.alloc (.cells #[.int .i64 f0, .int .i64 f1, .int .i64 f2, .int .i64 f3] 31) = W := ⟨_, rfl⟩;have hb4 : Below w3.heap.size w3 W4 := by rw [<- hW4]; exact below_alloc _ _
  have q0 : W4.cell? ⟨g3, 0, none⟩ = some (.int .i64 f0) := by rw [<- hW4, <- hg3]; exact box_cell _ _ _ _ _ rfl
  rw [hW4, hg3];have HB4 := Lib.hid (HB3.out.trans (hb4.mono HB3.out.size));clear hb4 hW4 hg3;go_wp2_with fail;refine (HAW.out W4 HB4.out).mono ?_;rintro _ w5 ⟨rfl, hb5⟩;have HB5 := Lib.hid (HB4.out.trans (hb5.mono HB4.out.size));have q1 := kept_cell hb5 q0;clear hb5 q0;go_wp2_with fail;go_ret;exact ⟨rfl, HB5.out⟩
end Go.Proofs.YtjcajeehgjpmmaaGreatDoor.T
