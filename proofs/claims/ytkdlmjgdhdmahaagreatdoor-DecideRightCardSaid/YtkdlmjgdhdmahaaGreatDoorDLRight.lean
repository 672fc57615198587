/-
  DecideRight: behind an accepted command's events the state may be, and its version is as many more as the rule has steps.
-/
import Derived.Test.YtkdlmjgdhdmahaaGreatDoorRows
import Derived.Test.YtkdlmjgdhdmahaaGreatDoorTie
import Derived.Test.YtkdlmjgdhdmahaaGreatDoorCards
import Derived.Test.YtkdlmjgdhdmahaaGreatDoorSVc
import Derived.Test.YtkdlmjgdhdmahaaGreatDoorSVd
import Derived.Test.YtkdlmjgdhdmahaaGreatDoorSVm
import Derived.Test.YtkdlmjgdhdmahaaGreatDoorSVn
import Derived.Test.YtkdlmjgdhdmahaaGreatDoorDSz
import Derived.OpenShut
namespace Go.Proofs.YtkdlmjgdhdmahaaGreatDoor.decideRight
open Go Go.ChangeShapes Go.WideShapes Go.ChangeAt Go.RowKit
open Go.Proofs.YtkdlmjgdhdmahaaGreatDoor.B Go.Proofs.YtkdlmjgdhdmahaaGreatDoor.K Go.Proofs.YtkdlmjgdhdmahaaGreatDoor.E Go.Proofs.YtkdlmjgdhdmahaaGreatDoor.R Go.Proofs.YtkdlmjgdhdmahaaGreatDoor.D
set_option linter.unusedVariables false
set_option maxRecDepth 100000

theorem own : ownKnob Tryz.prog.godebug = none := by kernel_rfl
theorem laidOut : laidOutB Tryz.prog = true := by kernel_rfl

/-- Where the walk through the commands stands. -/
structure Dw (t : Tb) (w : World) (g1 : Nat) (c0 c1 c2 c3 : Value) (K : Nat) (s : Stt) (a : Option Addr) (n c : Nat) (wr : World) : Prop where
  bel : Below w.heap.size w wr
  tb : wr.cell? ⟨w.heap.size, 0, none⟩ = some c0 ∧ wr.cell? ⟨w.heap.size, 1, none⟩ = some c1 ∧ wr.cell? ⟨w.heap.size, 2, none⟩ = some c2 ∧ wr.cell? ⟨w.heap.size, 3, none⟩ = some c3
  st : S3 wr g1 (.int .i64 s.pos) (.int .i64 s.ver) (.slice a n c)
  sl : SlN wr (.slice a n c) s.vars
  ok : stands t s = true
  ver : s.ver ≤ 3 * (K : Int)
  lo : w.heap.size < g1
theorem Dw.below {t : Tb} {w : World} {g1 K n c : Nat} {c0 c1 c2 c3 : Value} {s : Stt} {a : Option Addr} {wr w' : World} (h : Dw t w g1 c0 c1 c2 c3 K s a n c wr) (hb : Below wr.heap.size wr w') : Dw t w g1 c0 c1 c2 c3 K s a n c w' :=
  ⟨h.bel.trans (hb.mono h.bel.size), ⟨kept_cell hb h.tb.1, kept_cell hb h.tb.2.1, kept_cell hb h.tb.2.2.1, kept_cell hb h.tb.2.2.2⟩, h.st.below hb, Sl.below h.sl hb, h.ok, h.ver, h.lo⟩
theorem Dw.up {t : Tb} {w : World} {g1 K K' n c : Nat} {c0 c1 c2 c3 : Value} {s : Stt} {a : Option Addr} {wr : World} (h : Dw t w g1 c0 c1 c2 c3 K s a n c wr) (hk : K ≤ K') : Dw t w g1 c0 c1 c2 c3 K' s a n c wr :=
  ⟨h.bel, h.tb, h.st, h.sl, h.ok, by have := h.ver; omega, h.lo⟩
theorem Dw.set {t : Tb} {w : World} {g1 K n c k n2 : Nat} {c0 c1 c2 c3 : Value} {s s2 : Stt} {a : Option Addr} {wr : World} (h : Dw t w g1 c0 c1 c2 c3 K s a n c wr) (hn : NumsAt wr k s2.vars) (hl : s2.vars.length = n2) (hst : stands t s2 = true) (hv : s2.ver ≤ 3 * ((K + 1 : Nat) : Int)) (hne : k ≠ g1) :
    Dw t w g1 c0 c1 c2 c3 (K + 1) s2 (some ⟨k, 0, none⟩) n2 n2 (((wr.setCell ⟨g1, 0, none⟩ (.int .i64 s2.pos)).setCell ⟨g1, 1, none⟩ (.int .i64 s2.ver)).setCell ⟨g1, 2, none⟩ (.slice (some ⟨k, 0, none⟩) n2 n2)) := by
  have hlo := h.lo
  have hc : ∀ (o : Nat) u, wr.cell? ⟨w.heap.size, o, none⟩ = some u → (((wr.setCell ⟨g1, 0, none⟩ (.int .i64 s2.pos)).setCell ⟨g1, 1, none⟩ (.int .i64 s2.ver)).setCell ⟨g1, 2, none⟩ (.slice (some ⟨k, 0, none⟩) n2 n2)).cell? ⟨w.heap.size, o, none⟩ = some u := by
    intro o u hu
    unfold World.cell? at hu ⊢
    rw [heap_set3 (show w.heap.size ≠ g1 by omega)]; exact hu
  exact ⟨below_set3 h.bel (Nat.le_of_lt hlo) _ _ _, ⟨hc _ _ h.tb.1, hc _ _ h.tb.2.1, hc _ _ h.tb.2.2.1, hc _ _ h.tb.2.2.2⟩, h.st.set _ _ _, sln_ownN (show NumsAt _ _ _ by unfold NumsAt; rw [heap_set3 hne]; exact hn) hl _, hst, hv, hlo⟩
theorem stands_room {t : Tb} {s : Stt} (h : chk5 t = (0, 0, 0, 0)) (hs : stands t s = true) : s.vars.length ≤ 9223372036854775807 := by
  have := (stands_len hs).1; have := (fine_of h).vars; omega

set_option maxHeartbeats 8000000 in
theorem walk (t : Tb) (c0 c1 c2 c3 : Value) (l : List Cm) (cl : Value) (w : World) (h : TbIs w [c0, c1, c2, c3] t) (hw : TbWf t) (hl : SlOf w 6 (CmIs w) cl l) (hlw : ∀ x ∈ l, CmWf x) (hll : l.length ≤ 9223372036854775807) (hG : I.Glob w) :
    Calls Tryz.prog 8 #[.agg #[c0, c1, c2, c3], cl] w fun e w' => e = .returned (.bool true) ∧ Below w.heap.size w w' := by
  have hx : ∃ a3 cap3, c3 = .slice a3 t.rules.length cap3 ∧ SlOf w 5 (RlIs w) c3 t.rules := by
    obtain ⟨d0, d1, d2, d3, e, h0, h1, h2, h3⟩ := h
    cases e
    have h3' := h3
    obtain ⟨a3, cap3, e, _⟩ := h3
    exact ⟨a3, cap3, e, h3'⟩
  obtain ⟨a3, cap3, rfl, h3⟩ := hx
  obtain ⟨R, hR_⟩ : ∃ N, t.rules.length = N := ⟨_, rfl⟩
  rw [hR_] at h h3 ⊢
  have H3 := Lib.hid h3
  have HRR := Lib.hid hR_
  have HT := Lib.hid h
  have HWF := Lib.hid hw
  have HG := Lib.hid hG
  have HLW := Lib.hid hlw
  obtain ⟨al, capl, rfl, hl⟩ := hl.open
  obtain ⟨N, hN⟩ : ∃ N, l.length = N := ⟨_, rfl⟩
  rw [hN] at hl hll ⊢
  have HLS := Lib.hid hl
  have HN := Lib.hid hN
  have HLL := Lib.hid hll
  obtain ⟨W0, hW0⟩ : ∃ W0, w.alloc (.cells #[c0, c1, c2, .slice a3 R cap3] 26) = W0 := ⟨_, rfl⟩
  have hB0 : Below w.heap.size w W0 := by rw [← hW0]; exact below_alloc _ _
  have q0 : W0.cell? ⟨w.heap.size, 0, none⟩ = some (c0) := by rw [← hW0]; exact box_cell _ _ _ _ _ rfl
  have q1 : W0.cell? ⟨w.heap.size, 1, none⟩ = some (c1) := by rw [← hW0]; exact box_cell _ _ _ _ _ rfl
  have q2 : W0.cell? ⟨w.heap.size, 2, none⟩ = some (c2) := by rw [← hW0]; exact box_cell _ _ _ _ _ rfl
  have q3 : W0.cell? ⟨w.heap.size, 3, none⟩ = some (.slice a3 R cap3) := by rw [← hW0]; exact box_cell _ _ _ _ _ rfl
  have HR0 := lawRight_any t c0 c1 c2 _ W0 (h.below hB0) hw
  obtain ⟨B, hB⟩ : ∃ B, mayB t = B := ⟨_, rfl⟩
  rw [hB] at HR0
  have HR := Lib.hid HR0
  have HBB := Lib.hid hB
  have HB0 := Lib.hid hB0
  have HQ := Lib.hid (And.intro q0 (And.intro q1 (And.intro q2 q3)))
  clear h hw hG hl hlw hll hN hB HR0 hB0 h3 hR_
  go_enter Tryz.func8, Tryz.ntmps8
  go_wp2_with fail
  refine HR.out.mono ?_
  rintro _ w1 ⟨rfl, hb1⟩
  have HB1 := Lib.hid (HB0.out.trans (hb1.mono HB0.out.size))
  have HQ1 := Lib.hid (And.intro (kept_cell hb1 HQ.out.1) (And.intro (kept_cell hb1 HQ.out.2.1) (And.intro (kept_cell hb1 HQ.out.2.2.1) (kept_cell hb1 HQ.out.2.2.2))))
  have HA1 := Lib.hid (awake_any w1 (HG.out.below HB1.out))
  clear hb1 q0 q1 q2 q3 HR
  cases B with
  | false =>
    go_wp2_with fail
    refine HA1.out.mono ?_
    rintro _ w2 ⟨rfl, hb2⟩
    have HB2 := Lib.hid (HB1.out.trans (hb2.mono HB1.out.size))
    clear hb2
    go_wp2_with fail
    go_ret
    exact ⟨rfl, HB2.out⟩
  | true =>
    have hchk : chk5 t = (0, 0, 0, 0) := of_decide_eq_true HBB.out
    have HCH := Lib.hid hchk
    go_wp2_with fail
    refine HA1.out.mono ?_
    rintro _ w2 ⟨rfl, hb2⟩
    have HB2 := Lib.hid (HB1.out.trans (hb2.mono HB1.out.size))
    have hbeg : begins t = ⟨0, 0, t.start⟩ := by unfold begins; rw [if_pos hchk]
    have hnew := new_any t c0 c1 c2 _ w2 (HT.out.below HB2.out) HWF.out (HG.out.below HB2.out)
    rw [hbeg] at hnew
    have HNW := Lib.hid hnew
    have q0 := kept_cell hb2 HQ1.out.1
    have q1 := kept_cell hb2 HQ1.out.2.1
    have q2 := kept_cell hb2 HQ1.out.2.2.1
    have q3 := kept_cell hb2 HQ1.out.2.2.2
    have HQ2 := Lib.hid (And.intro q0 (And.intro q1 (And.intro q2 q3)))
    clear hb2 hchk hbeg hnew HA1
    go_wp2_with fail
    refine HNW.out.mono ?_
    rintro _ w3 ⟨vn, rfl, hvn, hb3⟩
    have hvn : SlN w3 vn t.start := hvn
    have HVN := Lib.hid hvn
    obtain ⟨av, cv, rfl⟩ := sl_len hvn
    obtain ⟨nv, hnv⟩ : ∃ nv, (List.map (fun n => Value.int IntKind.i64 n) t.start).length = nv := ⟨_, rfl⟩
    rw [hnv] at HVN ⊢
    obtain ⟨g1, hg1⟩ : ∃ g, w3.heap.size = g := ⟨_, rfl⟩
    obtain ⟨W4, hW4⟩ : ∃ W4, w3.alloc (.cells #[.int .i64 0, .int .i64 0, .slice av nv cv] 41) = W4 := ⟨_, rfl⟩
    have hB4 : Below w3.heap.size w3 W4 := by rw [← hW4]; exact below_alloc _ _
    have hb24 := hb3.trans (hB4.mono hb3.size)
    have hdw : Dw t w g1 c0 c1 c2 (.slice a3 R cap3) 0 ⟨0, 0, t.start⟩ av nv cv W4 := ⟨HB2.out.trans (hb24.mono HB2.out.size), ⟨kept_cell hb24 HQ2.out.1, kept_cell hb24 HQ2.out.2.1, kept_cell hb24 HQ2.out.2.2.1, kept_cell hb24 HQ2.out.2.2.2⟩,
      (by rw [← hW4, ← hg1]; exact S3.new _ _ _ _), Sl.below HVN.out hB4, begins_stands HCH.out, by show (0 : Int) ≤ 3 * ((0 : Nat) : Int); decide, by rw [← hg1]; exact Nat.lt_of_lt_of_le (World.block_lt_of_cell? w2 _ HQ2.out.1) hb3.size⟩
    have HDW := Lib.hid hdw
    clear hvn hb3 hB4 hb24 hnv hdw q0 q1 q2 q3 HNW HVN
    go_wp2_with fail
    go_loopw [6] (fun i wr => ∃ (K : Nat) (s' : Stt) (av : Option Addr) (nv cv : Nat), i = .int .i64 (K : Int) ∧ K ≤ N ∧ K ≤ 40 ∧ Hid (Dw t w g1 c0 c1 c2 (.slice a3 R cap3) K s' av nv cv wr)) (fun i _ => N - (intOf i).toNat)
    case atStart => exact ⟨0, _, _, _, _, rfl, Nat.zero_le _, Nat.zero_le _, HDW⟩
    case round =>
      obtain ⟨K, s', av, nv, cv, rfl, hK, hK40, HD⟩ := hrel
      by_cases hlt : K < N
      rotate_left
      · have hltI : ¬ (K : Int) < (N : Int) := by omega
        go_wp2_with fail
        go_ret
        exact ⟨rfl, HD.out.bel⟩
      have hltI : (K : Int) < (N : Int) := by omega
      by_cases hl40 : K < 40
      rotate_left
      · have hltJ : ¬ (K : Int) < 40 := by omega
        have hltb : decide ((K : Int) < 40) = false := decide_eq_false hltJ
        go_wp2_with fail
        go_ret
        exact ⟨rfl, HD.out.bel⟩
      have hltJ : (K : Int) < 40 := by omega
      obtain ⟨cm, hcm⟩ : ∃ x, l[K]? = some x := ⟨_, List.getElem?_eq_getElem (by rw [HN.out]; exact hlt)⟩
      obtain ⟨b, off, ea, cs, -, ⟨cu, rfl, hcu⟩, hc⟩ := HLS.out.at hcm
      subst ea
      have HCW := Lib.hid (HLW.out cm (List.mem_of_getElem? hcm))
      have HCU := Lib.hid hcu
      have hcell : ∀ (i : Nat) c, [.int .i64 cm.client, .int .i64 cm.seq, sv cm.stream, .int .i64 cm.rule, cu, Value.int .i64 cm.expect][i]? = some c → wr.cell? ⟨b, off + K * 6 + i, none⟩ = some c := fun i c hi => (HD.out.bel.cell (p := ⟨b, off + K * 6 + i, none⟩) (World.block_lt_of_cell? w _ (hc i c hi))).trans (hc i c hi)
      have hdec := fun (W : World) (hb : Below wr.heap.size wr W) => decide_any t s' cm c0 c1 c2 (.slice a3 R cap3) (.slice av nv cv) cu W (HT.out.below (HD.out.bel.trans (hb.mono HD.out.bel.size))) HWF.out (Sl.below HD.out.sl hb) (stands_room HCH.out HD.out.ok) (Sl.below hcu (HD.out.bel.trans (hb.mono HD.out.bel.size))) HCW.out (HG.out.below (HD.out.bel.trans (hb.mono HD.out.bel.size)))
      obtain ⟨cc, hcc⟩ : ∃ x, cm.client = x := ⟨_, rfl⟩
      obtain ⟨cq, hcq⟩ : ∃ x, cm.seq = x := ⟨_, rfl⟩
      obtain ⟨sx, hsx⟩ : ∃ x, sv cm.stream = x := ⟨_, rfl⟩
      obtain ⟨cr, hcr⟩ : ∃ x, cm.rule = x := ⟨_, rfl⟩
      obtain ⟨ce, hce⟩ : ∃ x, cm.expect = x := ⟨_, rfl⟩
      obtain ⟨sp, hsp⟩ : ∃ x, s'.pos = x := ⟨_, rfl⟩
      obtain ⟨sr, hsr⟩ : ∃ x, s'.ver = x := ⟨_, rfl⟩
      rw [hcc, hcq, hsx, hcr, hce] at hcell
      rw [hcc, hcq, hsx, hcr, hce, hsp, hsr] at hdec
      obtain ⟨evs, hevs⟩ : ∃ x, (decide7 t s' cm).1 = x := ⟨_, rfl⟩
      obtain ⟨code, hcode⟩ : ∃ x, (decide7 t s' cm).2 = x := ⟨_, rfl⟩
      have HEV := Lib.hid (And.intro hevs hcode)
      have HSP := Lib.hid (And.intro hsp (And.intro hsr hcr))
      have hst := HD.out.st
      rw [hsp, hsr] at hst
      obtain ⟨⟨s0, f0⟩, ⟨s1, f1⟩, ⟨s2, f2⟩⟩ := hst.cells
      obtain ⟨q0, q1, q2, q3⟩ := HD.out.tb
      have HKP := Lib.hid (fun (Wa Wb : World) (hb : Below Wa.heap.size Wa Wb) (h : Wa.cell? ⟨w.heap.size, 0, none⟩ = some (c0) ∧ Wa.cell? ⟨w.heap.size, 1, none⟩ = some (c1) ∧ Wa.cell? ⟨w.heap.size, 2, none⟩ = some (c2) ∧ Wa.cell? ⟨w.heap.size, 3, none⟩ = some (.slice a3 R cap3) ∧ Wa.cell? ⟨g1, 0, none⟩ = some (.int .i64 sp) ∧ Wa.cell? ⟨g1, 1, none⟩ = some (.int .i64 sr) ∧ Wa.cell? ⟨g1, 2, none⟩ = some (.slice av nv cv) ∧ Wa.cell? ⟨b, off + K * 6, none⟩ = some (.int .i64 cc) ∧ Wa.cell? ⟨b, off + K * 6 + 1, none⟩ = some (.int .i64 cq) ∧ Wa.cell? ⟨b, off + K * 6 + 2, none⟩ = some (sx) ∧ Wa.cell? ⟨b, off + K * 6 + 3, none⟩ = some (.int .i64 cr) ∧ Wa.cell? ⟨b, off + K * 6 + 4, none⟩ = some (cu) ∧ Wa.cell? ⟨b, off + K * 6 + 5, none⟩ = some (.int .i64 ce) ∧ Below wr.heap.size wr Wa) => show Wb.cell? ⟨w.heap.size, 0, none⟩ = some (c0) ∧ Wb.cell? ⟨w.heap.size, 1, none⟩ = some (c1) ∧ Wb.cell? ⟨w.heap.size, 2, none⟩ = some (c2) ∧ Wb.cell? ⟨w.heap.size, 3, none⟩ = some (.slice a3 R cap3) ∧ Wb.cell? ⟨g1, 0, none⟩ = some (.int .i64 sp) ∧ Wb.cell? ⟨g1, 1, none⟩ = some (.int .i64 sr) ∧ Wb.cell? ⟨g1, 2, none⟩ = some (.slice av nv cv) ∧ Wb.cell? ⟨b, off + K * 6, none⟩ = some (.int .i64 cc) ∧ Wb.cell? ⟨b, off + K * 6 + 1, none⟩ = some (.int .i64 cq) ∧ Wb.cell? ⟨b, off + K * 6 + 2, none⟩ = some (sx) ∧ Wb.cell? ⟨b, off + K * 6 + 3, none⟩ = some (.int .i64 cr) ∧ Wb.cell? ⟨b, off + K * 6 + 4, none⟩ = some (cu) ∧ Wb.cell? ⟨b, off + K * 6 + 5, none⟩ = some (.int .i64 ce) ∧ Below wr.heap.size wr Wb from ⟨kept_cell hb h.1, kept_cell hb h.2.1, kept_cell hb h.2.2.1, kept_cell hb h.2.2.2.1, kept_cell hb h.2.2.2.2.1, kept_cell hb h.2.2.2.2.2.1, kept_cell hb h.2.2.2.2.2.2.1, kept_cell hb h.2.2.2.2.2.2.2.1, kept_cell hb h.2.2.2.2.2.2.2.2.1, kept_cell hb h.2.2.2.2.2.2.2.2.2.1, kept_cell hb h.2.2.2.2.2.2.2.2.2.2.1, kept_cell hb h.2.2.2.2.2.2.2.2.2.2.2.1, kept_cell hb h.2.2.2.2.2.2.2.2.2.2.2.2.1, h.2.2.2.2.2.2.2.2.2.2.2.2.2.trans (hb.mono h.2.2.2.2.2.2.2.2.2.2.2.2.2.size)⟩)
      have HSD := Lib.hid (show wr.drew.cell? ⟨w.heap.size, 0, none⟩ = some (c0) ∧ wr.drew.cell? ⟨w.heap.size, 1, none⟩ = some (c1) ∧ wr.drew.cell? ⟨w.heap.size, 2, none⟩ = some (c2) ∧ wr.drew.cell? ⟨w.heap.size, 3, none⟩ = some (.slice a3 R cap3) ∧ wr.drew.cell? ⟨g1, 0, none⟩ = some (.int .i64 sp) ∧ wr.drew.cell? ⟨g1, 1, none⟩ = some (.int .i64 sr) ∧ wr.drew.cell? ⟨g1, 2, none⟩ = some (.slice av nv cv) ∧ wr.drew.cell? ⟨b, off + K * 6, none⟩ = some (.int .i64 cc) ∧ wr.drew.cell? ⟨b, off + K * 6 + 1, none⟩ = some (.int .i64 cq) ∧ wr.drew.cell? ⟨b, off + K * 6 + 2, none⟩ = some (sx) ∧ wr.drew.cell? ⟨b, off + K * 6 + 3, none⟩ = some (.int .i64 cr) ∧ wr.drew.cell? ⟨b, off + K * 6 + 4, none⟩ = some (cu) ∧ wr.drew.cell? ⟨b, off + K * 6 + 5, none⟩ = some (.int .i64 ce) ∧ Below wr.heap.size wr wr.drew from ⟨q0, q1, q2, q3, s0, s1, s2, hcell 0 _ rfl, hcell 1 _ rfl, hcell 2 _ rfl, hcell 3 _ rfl, hcell 4 _ rfl, hcell 5 _ rfl, (Below.refl _ _).drew⟩)
      have HDC := Lib.hid (fun (W : World) (hS : W.cell? ⟨w.heap.size, 0, none⟩ = some (c0) ∧ W.cell? ⟨w.heap.size, 1, none⟩ = some (c1) ∧ W.cell? ⟨w.heap.size, 2, none⟩ = some (c2) ∧ W.cell? ⟨w.heap.size, 3, none⟩ = some (.slice a3 R cap3) ∧ W.cell? ⟨g1, 0, none⟩ = some (.int .i64 sp) ∧ W.cell? ⟨g1, 1, none⟩ = some (.int .i64 sr) ∧ W.cell? ⟨g1, 2, none⟩ = some (.slice av nv cv) ∧ W.cell? ⟨b, off + K * 6, none⟩ = some (.int .i64 cc) ∧ W.cell? ⟨b, off + K * 6 + 1, none⟩ = some (.int .i64 cq) ∧ W.cell? ⟨b, off + K * 6 + 2, none⟩ = some (sx) ∧ W.cell? ⟨b, off + K * 6 + 3, none⟩ = some (.int .i64 cr) ∧ W.cell? ⟨b, off + K * 6 + 4, none⟩ = some (cu) ∧ W.cell? ⟨b, off + K * 6 + 5, none⟩ = some (.int .i64 ce) ∧ Below wr.heap.size wr W) => (hdec W hS.2.2.2.2.2.2.2.2.2.2.2.2.2).mono (fun z w' (hz : DecOut (decide7 t s' cm) W z w') => show ∃ a n c, z = .returned (.tuple #[.slice a n c, .int .i64 code]) ∧ (evs.length = n ∧ EvsIs w' (.slice a n c) evs) ∧ w'.cell? ⟨w.heap.size, 0, none⟩ = some (c0) ∧ w'.cell? ⟨w.heap.size, 1, none⟩ = some (c1) ∧ w'.cell? ⟨w.heap.size, 2, none⟩ = some (c2) ∧ w'.cell? ⟨w.heap.size, 3, none⟩ = some (.slice a3 R cap3) ∧ w'.cell? ⟨g1, 0, none⟩ = some (.int .i64 sp) ∧ w'.cell? ⟨g1, 1, none⟩ = some (.int .i64 sr) ∧ w'.cell? ⟨g1, 2, none⟩ = some (.slice av nv cv) ∧ w'.cell? ⟨b, off + K * 6, none⟩ = some (.int .i64 cc) ∧ w'.cell? ⟨b, off + K * 6 + 1, none⟩ = some (.int .i64 cq) ∧ w'.cell? ⟨b, off + K * 6 + 2, none⟩ = some (sx) ∧ w'.cell? ⟨b, off + K * 6 + 3, none⟩ = some (.int .i64 cr) ∧ w'.cell? ⟨b, off + K * 6 + 4, none⟩ = some (cu) ∧ w'.cell? ⟨b, off + K * 6 + 5, none⟩ = some (.int .i64 ce) ∧ Below wr.heap.size wr w' from (by
        obtain ⟨vz, hzz, hvz, hbz⟩ := hz
        rw [hevs] at hvz
        rw [hcode] at hzz
        have hv0 := hvz
        obtain ⟨a, c, rfl, -⟩ := hvz.open
        exact ⟨_, _, _, hzz, ⟨rfl, hv0⟩, HKP.out W w' hbz hS⟩)))
      have hwK := wrap_next K (by omega)
      clear hcm hcu hc hcell hdec hcc hcq hsx hcr hce hsp hsr hevs hcode hst s0 f0 s1 f1 s2 f2 q0 q1 q2 q3
      go_upto_region 7 with fail
      have hS0 : wr.drew.cell? ⟨w.heap.size, 0, none⟩ = some (c0) ∧ wr.drew.cell? ⟨w.heap.size, 1, none⟩ = some (c1) ∧ wr.drew.cell? ⟨w.heap.size, 2, none⟩ = some (c2) ∧ wr.drew.cell? ⟨w.heap.size, 3, none⟩ = some (.slice a3 R cap3) ∧ wr.drew.cell? ⟨g1, 0, none⟩ = some (.int .i64 sp) ∧ wr.drew.cell? ⟨g1, 1, none⟩ = some (.int .i64 sr) ∧ wr.drew.cell? ⟨g1, 2, none⟩ = some (.slice av nv cv) ∧ wr.drew.cell? ⟨b, off + K * 6, none⟩ = some (.int .i64 cc) ∧ wr.drew.cell? ⟨b, off + K * 6 + 1, none⟩ = some (.int .i64 cq) ∧ wr.drew.cell? ⟨b, off + K * 6 + 2, none⟩ = some (sx) ∧ wr.drew.cell? ⟨b, off + K * 6 + 3, none⟩ = some (.int .i64 cr) ∧ wr.drew.cell? ⟨b, off + K * 6 + 4, none⟩ = some (cu) ∧ wr.drew.cell? ⟨b, off + K * 6 + 5, none⟩ = some (.int .i64 ce) ∧ Below wr.heap.size wr wr.drew := HSD.out
      go_region_held3 (fun Wz => Wz.cell? ⟨w.heap.size, 0, none⟩ = some (c0) ∧ Wz.cell? ⟨w.heap.size, 1, none⟩ = some (c1) ∧ Wz.cell? ⟨w.heap.size, 2, none⟩ = some (c2) ∧ Wz.cell? ⟨w.heap.size, 3, none⟩ = some (.slice a3 R cap3) ∧ Wz.cell? ⟨g1, 0, none⟩ = some (.int .i64 sp) ∧ Wz.cell? ⟨g1, 1, none⟩ = some (.int .i64 sr) ∧ Wz.cell? ⟨g1, 2, none⟩ = some (.slice av nv cv) ∧ Wz.cell? ⟨b, off + K * 6, none⟩ = some (.int .i64 cc) ∧ Wz.cell? ⟨b, off + K * 6 + 1, none⟩ = some (.int .i64 cq) ∧ Wz.cell? ⟨b, off + K * 6 + 2, none⟩ = some (sx) ∧ Wz.cell? ⟨b, off + K * 6 + 3, none⟩ = some (.int .i64 cr) ∧ Wz.cell? ⟨b, off + K * 6 + 4, none⟩ = some (cu) ∧ Wz.cell? ⟨b, off + K * 6 + 5, none⟩ = some (.int .i64 ce) ∧ Below wr.heap.size wr Wz) (first | exact hS0 | assumption) (first | (go_at_call 17; ((with_reducible refine (HDC.out _ ?_).mono ?_); (first | exact hS0 | assumption)); rintro _ w2 ⟨ae, ne, cae, rfl, hev, hS1⟩))
      have HEE := Lib.hid hev
      have HS1 := Lib.hid hS1
      clear hS0 hS1 hev HSD HDC
      by_cases x0 : code = 0
      rotate_left
      · have bx : (code == 0) = false := beq_eq_false_iff_ne.2 x0
        obtain ⟨h1, h2, h3⟩ := dec_code (t := t) (s := s') (c := cm) (by rw [HEV.out.2]; exact x0)
        rw [HEV.out.1] at h1
        rw [HEV.out.2] at h2 h3
        have hne : ne = 0 := by rw [← HEE.out.1, h1]; rfl
        subst hne
        have b1 : decide (code < 0) = false := decide_eq_false (by omega)
        have b2 : decide (63 < code) = false := decide_eq_false (by omega)
        have HD2 := Lib.hid (HD.out.below HS1.out.2.2.2.2.2.2.2.2.2.2.2.2.2)
        clear x0 h1 h2 h3 HD
        go_wp2_with fail
        go_round
        case rel => exact ⟨K + 1, s', av, nv, cv, by go_num, by omega, by omega, Lib.hid (HD2.out.up (by omega))⟩
        case measure => simp [intOf]; omega
      subst x0
      obtain ⟨m, r0, hm, hr0, hle, hl3, hall⟩ := dec_ok (t := t) (s := s') (c := cm) HCH.out HEV.out.2
      rw [HEV.out.1] at hle hall
      have hcrm : cr = (m : Int) := by rw [← HSP.out.2.2]; exact hm
      subst hcrm
      have hne : ne = r0.steps.length := by rw [← HEE.out.1, hle]
      have hok := HD.out.ok
      have hver := HD.out.ver
      have hln : (evs.length : Int) ≤ 3 := by omega
      obtain ⟨hst2, hver2⟩ := fold_stands evs s' hok hall (by omega)
      have hlen := stands_len hok
      have hfine := fine_of HCH.out
      have hSL := Sl.below HD.out.sl HS1.out.2.2.2.2.2.2.2.2.2.2.2.2.2
      have hfo := fold_new s' evs (.slice av nv cv) (.slice ae ne cae) w2 (by unfold I64; omega) hSL (by have := hfine.vars; omega) HEE.out.2 (by omega) (fun e he => by have := (hall e he).2.1; have := hfine.vars; omega)
      rw [HSP.out.1, HSP.out.2.1] at hfo
      have HFO := Lib.hid hfo
      have HF2 := Lib.hid (And.intro hst2 hver2)
      have HD2 := Lib.hid (HD.out.below HS1.out.2.2.2.2.2.2.2.2.2.2.2.2.2)
      obtain ⟨b3, o3, ea3, cs3, -, hcs3, hcell3⟩ := H3.out.at hr0
      subst ea3
      have hmR : m < R := by rw [← HRR.out]; exact (List.getElem?_eq_some_iff.1 hr0).1
      obtain ⟨f_, g_, s_, rfl, -, -, hs_⟩ := hcs3.open
      obtain ⟨as_, caps_, rfl, -⟩ := hs_.open
      have h4 := hcell3 4 _ rfl
      rw [← hne] at h4
      have y4 : w2.cell? ⟨b3, o3 + m * 5 + 4, none⟩ = some (.slice as_ ne caps_) := (HD2.out.bel.cell (p := ⟨b3, o3 + m * 5 + 4, none⟩) (World.block_lt_of_cell? w _ h4)).trans h4
      obtain ⟨np, hnp⟩ : ∃ x, (fold7 s' evs).pos = x := ⟨_, rfl⟩
      obtain ⟨nr, hnr⟩ : ∃ x, (fold7 s' evs).ver = x := ⟨_, rfl⟩
      have HNP := Lib.hid (And.intro hnp hnr)
      have hfo2 : Calls Tryz.prog 27 #[.agg #[.int .i64 sp, .int .i64 sr, .slice av nv cv], .slice ae ne cae] w2 (fun z w' => ∃ k n, z = .returned (.agg #[.int .i64 np, .int .i64 nr, .slice (some ⟨k, 0, none⟩) n n]) ∧ w2.heap.size ≤ k ∧ NumsAt w' k (fold7 s' evs).vars ∧ (fold7 s' evs).vars.length = n ∧ Below w2.heap.size w2 w') := by
        rw [← hnp, ← hnr]; exact HFO.out
      have HF3 := Lib.hid hfo2
      have hnrs : nr = sr + (ne : Int) := by rw [← hnr, hver2, HSP.out.2.1, HEE.out.1]
      have hwr : IntKind.i64.wrap (sr + (ne : Int)) = nr := by
        rw [← hnrs]; exact IntWalk.i64_in _ (by have := HSP.out.2.1; omega)
      have HWR := Lib.hid hwr
      have hv3 : (fold7 s' evs).ver ≤ 3 * ((K + 1 : Nat) : Int) := by rw [hver2]; omega
      have HV3 := Lib.hid hv3
      have HLN := Lib.hid (show (fold7 s' evs).vars.length ≤ 9223372036854775807 from stands_room HCH.out hst2)
      obtain ⟨q0, q1, q2, q3, s0, s1, s2, e0, e1, e2, e3, e4, e5, hbs⟩ := HS1.out
      clear hm hr0 hle hl3 hall hne hok hver hln hst2 hver2 hlen hfine hSL hfo hcs3 hcell3 hs_ h4 hnp hnr hfo2 hnrs hwr hv3 hbs HFO e0 e1 e2 e4 e5
      go_wp2_with fail
      refine HF3.out.mono ?_
      rintro _ w3 ⟨k2, n2, rfl, hk2, hn2, hl2, hb3⟩
      obtain ⟨g9, hg9⟩ : ∃ g, w3.heap.size = g := ⟨_, rfl⟩
      obtain ⟨W5, hW5⟩ : ∃ W5, w3.alloc (.cells #[.int .i64 np, .int .i64 nr, .slice (some ⟨k2, 0, none⟩) n2 n2] 41) = W5 := ⟨_, rfl⟩
      have hB5 : Below w3.heap.size w3 W5 := by rw [← hW5]; exact below_alloc _ _
      have hb25 := hb3.trans (hB5.mono hb3.size)
      have z9 : S3 W5 g9 (.int .i64 np) (.int .i64 nr) (.slice (some ⟨k2, 0, none⟩) n2 n2) := by rw [← hW5, ← hg9]; exact S3.new _ _ _ _
      obtain ⟨⟨z0, -⟩, ⟨z1, -⟩, ⟨z2, -⟩⟩ := z9.cells
      have HD5 := Lib.hid (HD2.out.below hb25)
      have hn5 := hn2.below hB5
      have HN5 := Lib.hid hn5
      have HNL := Lib.hid hl2
      have HK2 := Lib.hid (show k2 ≠ g1 by have := (Array.getElem?_eq_some_iff.1 HD2.out.st).1; omega)
      have HKB := Lib.hid (fun (Wa Wb : World) (hb : Below Wa.heap.size Wa Wb) (h : Wa.cell? ⟨w.heap.size, 0, none⟩ = some (c0) ∧ Wa.cell? ⟨w.heap.size, 1, none⟩ = some (c1) ∧ Wa.cell? ⟨w.heap.size, 2, none⟩ = some (c2) ∧ Wa.cell? ⟨w.heap.size, 3, none⟩ = some (.slice (some ⟨b3, o3, none⟩) R cap3) ∧ Wa.cell? ⟨g1, 0, none⟩ = some (.int .i64 sp) ∧ Wa.cell? ⟨g1, 1, none⟩ = some (.int .i64 sr) ∧ Wa.cell? ⟨g1, 2, none⟩ = some (.slice av nv cv) ∧ Wa.cell? ⟨b, off + K * 6 + 3, none⟩ = some (.int .i64 (m : Int)) ∧ Wa.cell? ⟨b3, o3 + m * 5 + 4, none⟩ = some (.slice as_ ne caps_) ∧ Wa.cell? ⟨g9, 0, none⟩ = some (.int .i64 np) ∧ Wa.cell? ⟨g9, 1, none⟩ = some (.int .i64 nr) ∧ Wa.cell? ⟨g9, 2, none⟩ = some (.slice (some ⟨k2, 0, none⟩) n2 n2) ∧ Below W5.heap.size W5 Wa) => show Wb.cell? ⟨w.heap.size, 0, none⟩ = some (c0) ∧ Wb.cell? ⟨w.heap.size, 1, none⟩ = some (c1) ∧ Wb.cell? ⟨w.heap.size, 2, none⟩ = some (c2) ∧ Wb.cell? ⟨w.heap.size, 3, none⟩ = some (.slice (some ⟨b3, o3, none⟩) R cap3) ∧ Wb.cell? ⟨g1, 0, none⟩ = some (.int .i64 sp) ∧ Wb.cell? ⟨g1, 1, none⟩ = some (.int .i64 sr) ∧ Wb.cell? ⟨g1, 2, none⟩ = some (.slice av nv cv) ∧ Wb.cell? ⟨b, off + K * 6 + 3, none⟩ = some (.int .i64 (m : Int)) ∧ Wb.cell? ⟨b3, o3 + m * 5 + 4, none⟩ = some (.slice as_ ne caps_) ∧ Wb.cell? ⟨g9, 0, none⟩ = some (.int .i64 np) ∧ Wb.cell? ⟨g9, 1, none⟩ = some (.int .i64 nr) ∧ Wb.cell? ⟨g9, 2, none⟩ = some (.slice (some ⟨k2, 0, none⟩) n2 n2) ∧ Below W5.heap.size W5 Wb from ⟨kept_cell hb h.1, kept_cell hb h.2.1, kept_cell hb h.2.2.1, kept_cell hb h.2.2.2.1, kept_cell hb h.2.2.2.2.1, kept_cell hb h.2.2.2.2.2.1, kept_cell hb h.2.2.2.2.2.2.1, kept_cell hb h.2.2.2.2.2.2.2.1, kept_cell hb h.2.2.2.2.2.2.2.2.1, kept_cell hb h.2.2.2.2.2.2.2.2.2.1, kept_cell hb h.2.2.2.2.2.2.2.2.2.2.1, kept_cell hb h.2.2.2.2.2.2.2.2.2.2.2.1, h.2.2.2.2.2.2.2.2.2.2.2.2.trans (hb.mono h.2.2.2.2.2.2.2.2.2.2.2.2.size)⟩)
      have hb25d : Below w2.heap.size w2 W5.drew := hb25.drew
      have HSE := Lib.hid (show W5.drew.cell? ⟨w.heap.size, 0, none⟩ = some (c0) ∧ W5.drew.cell? ⟨w.heap.size, 1, none⟩ = some (c1) ∧ W5.drew.cell? ⟨w.heap.size, 2, none⟩ = some (c2) ∧ W5.drew.cell? ⟨w.heap.size, 3, none⟩ = some (.slice (some ⟨b3, o3, none⟩) R cap3) ∧ W5.drew.cell? ⟨g1, 0, none⟩ = some (.int .i64 sp) ∧ W5.drew.cell? ⟨g1, 1, none⟩ = some (.int .i64 sr) ∧ W5.drew.cell? ⟨g1, 2, none⟩ = some (.slice av nv cv) ∧ W5.drew.cell? ⟨b, off + K * 6 + 3, none⟩ = some (.int .i64 (m : Int)) ∧ W5.drew.cell? ⟨b3, o3 + m * 5 + 4, none⟩ = some (.slice as_ ne caps_) ∧ W5.drew.cell? ⟨g9, 0, none⟩ = some (.int .i64 np) ∧ W5.drew.cell? ⟨g9, 1, none⟩ = some (.int .i64 nr) ∧ W5.drew.cell? ⟨g9, 2, none⟩ = some (.slice (some ⟨k2, 0, none⟩) n2 n2) ∧ Below W5.heap.size W5 W5.drew from ⟨kept_cell hb25d q0, kept_cell hb25d q1, kept_cell hb25d q2, kept_cell hb25d q3, kept_cell hb25d s0, kept_cell hb25d s1, kept_cell hb25d s2, kept_cell hb25d e3, kept_cell hb25d y4, z0, z1, z2, (Below.refl _ _).drew⟩)
      have HY := Lib.hid (fun (W : World) (hS : W.cell? ⟨w.heap.size, 0, none⟩ = some (c0) ∧ W.cell? ⟨w.heap.size, 1, none⟩ = some (c1) ∧ W.cell? ⟨w.heap.size, 2, none⟩ = some (c2) ∧ W.cell? ⟨w.heap.size, 3, none⟩ = some (.slice (some ⟨b3, o3, none⟩) R cap3) ∧ W.cell? ⟨g1, 0, none⟩ = some (.int .i64 sp) ∧ W.cell? ⟨g1, 1, none⟩ = some (.int .i64 sr) ∧ W.cell? ⟨g1, 2, none⟩ = some (.slice av nv cv) ∧ W.cell? ⟨b, off + K * 6 + 3, none⟩ = some (.int .i64 (m : Int)) ∧ W.cell? ⟨b3, o3 + m * 5 + 4, none⟩ = some (.slice as_ ne caps_) ∧ W.cell? ⟨g9, 0, none⟩ = some (.int .i64 np) ∧ W.cell? ⟨g9, 1, none⟩ = some (.int .i64 nr) ∧ W.cell? ⟨g9, 2, none⟩ = some (.slice (some ⟨k2, 0, none⟩) n2 n2) ∧ Below W5.heap.size W5 W) => (show Calls Tryz.prog 24 #[.agg #[c0, c1, c2, .slice (some ⟨b3, o3, none⟩) R cap3], .agg #[.int .i64 np, .int .i64 nr, .slice (some ⟨k2, 0, none⟩) n2 n2]] W (fun z w' => z = .returned (.bool true) ∧ w'.cell? ⟨w.heap.size, 0, none⟩ = some (c0) ∧ w'.cell? ⟨w.heap.size, 1, none⟩ = some (c1) ∧ w'.cell? ⟨w.heap.size, 2, none⟩ = some (c2) ∧ w'.cell? ⟨w.heap.size, 3, none⟩ = some (.slice (some ⟨b3, o3, none⟩) R cap3) ∧ w'.cell? ⟨g1, 0, none⟩ = some (.int .i64 sp) ∧ w'.cell? ⟨g1, 1, none⟩ = some (.int .i64 sr) ∧ w'.cell? ⟨g1, 2, none⟩ = some (.slice av nv cv) ∧ w'.cell? ⟨b, off + K * 6 + 3, none⟩ = some (.int .i64 (m : Int)) ∧ w'.cell? ⟨b3, o3 + m * 5 + 4, none⟩ = some (.slice as_ ne caps_) ∧ w'.cell? ⟨g9, 0, none⟩ = some (.int .i64 np) ∧ w'.cell? ⟨g9, 1, none⟩ = some (.int .i64 nr) ∧ w'.cell? ⟨g9, 2, none⟩ = some (.slice (some ⟨k2, 0, none⟩) n2 n2) ∧ Below W5.heap.size W5 w') from by
        have hb := HD5.out.bel.trans (hS.2.2.2.2.2.2.2.2.2.2.2.2.mono HD5.out.bel.size)
        have hq := right_any t (fold7 s' evs) c0 c1 c2 _ (.slice (some ⟨k2, 0, none⟩) n2 n2) W (HT.out.below hb) HWF.out (sln_ownN (hn5.below hS.2.2.2.2.2.2.2.2.2.2.2.2) hl2 _) HLN.out (HG.out.below hb)
        rw [right7_of, mayB_of HCH.out, HF2.out.1, HNP.out.1, HNP.out.2] at hq
        exact hq.mono fun z w' hz => ⟨hz.1, HKB.out W w' hz.2 hS⟩))
      have hwr := HWR.out
      have hmI : (m : Int) < (R : Int) := by omega
      clear hk2 hn2 hl2 hb3 hB5 hb25 hb25d z9 z0 z1 z2 hn5 q0 q1 q2 q3 s0 s1 s2 e3 y4 HF3
      go_upto_region 12 with fail
      clear hW5 hg9
      have hS0 : W5.drew.cell? ⟨w.heap.size, 0, none⟩ = some (c0) ∧ W5.drew.cell? ⟨w.heap.size, 1, none⟩ = some (c1) ∧ W5.drew.cell? ⟨w.heap.size, 2, none⟩ = some (c2) ∧ W5.drew.cell? ⟨w.heap.size, 3, none⟩ = some (.slice (some ⟨b3, o3, none⟩) R cap3) ∧ W5.drew.cell? ⟨g1, 0, none⟩ = some (.int .i64 sp) ∧ W5.drew.cell? ⟨g1, 1, none⟩ = some (.int .i64 sr) ∧ W5.drew.cell? ⟨g1, 2, none⟩ = some (.slice av nv cv) ∧ W5.drew.cell? ⟨b, off + K * 6 + 3, none⟩ = some (.int .i64 (m : Int)) ∧ W5.drew.cell? ⟨b3, o3 + m * 5 + 4, none⟩ = some (.slice as_ ne caps_) ∧ W5.drew.cell? ⟨g9, 0, none⟩ = some (.int .i64 np) ∧ W5.drew.cell? ⟨g9, 1, none⟩ = some (.int .i64 nr) ∧ W5.drew.cell? ⟨g9, 2, none⟩ = some (.slice (some ⟨k2, 0, none⟩) n2 n2) ∧ Below W5.heap.size W5 W5.drew := HSE.out
      go_region_held3 (fun Wz => Wz.cell? ⟨w.heap.size, 0, none⟩ = some (c0) ∧ Wz.cell? ⟨w.heap.size, 1, none⟩ = some (c1) ∧ Wz.cell? ⟨w.heap.size, 2, none⟩ = some (c2) ∧ Wz.cell? ⟨w.heap.size, 3, none⟩ = some (.slice (some ⟨b3, o3, none⟩) R cap3) ∧ Wz.cell? ⟨g1, 0, none⟩ = some (.int .i64 sp) ∧ Wz.cell? ⟨g1, 1, none⟩ = some (.int .i64 sr) ∧ Wz.cell? ⟨g1, 2, none⟩ = some (.slice av nv cv) ∧ Wz.cell? ⟨b, off + K * 6 + 3, none⟩ = some (.int .i64 (m : Int)) ∧ Wz.cell? ⟨b3, o3 + m * 5 + 4, none⟩ = some (.slice as_ ne caps_) ∧ Wz.cell? ⟨g9, 0, none⟩ = some (.int .i64 np) ∧ Wz.cell? ⟨g9, 1, none⟩ = some (.int .i64 nr) ∧ Wz.cell? ⟨g9, 2, none⟩ = some (.slice (some ⟨k2, 0, none⟩) n2 n2) ∧ Below W5.heap.size W5 Wz) (first | exact hS0 | assumption) (first | (go_at_call 24; ((with_reducible refine (HY.out _ ?_).mono ?_); (first | exact hS0 | assumption)); rintro _ w6 ⟨rfl, hS6⟩))
      have HS6 := Lib.hid hS6
      clear hS0 hS6 HSE HY
      have HD6 := Lib.hid (HD5.out.below HS6.out.2.2.2.2.2.2.2.2.2.2.2.2)
      have HN6 := Lib.hid (HN5.out.below HS6.out.2.2.2.2.2.2.2.2.2.2.2.2)
      have hst6 := HD6.out.st
      obtain ⟨⟨-, f0⟩, ⟨-, f1⟩, ⟨-, f2⟩⟩ := hst6.cells
      obtain ⟨q0, q1, q2, q3, s0, s1, s2, e3, y4, z0, z1, z2, hbs⟩ := HS6.out
      have hset := HD6.out.set (s2 := fold7 s' evs) (k := k2) (n2 := n2) HN6.out HNL.out HF2.out.1 HV3.out HK2.out
      rw [HNP.out.1, HNP.out.2] at hset
      have HSET := Lib.hid hset
      clear hset hst6 q0 q1 q2 q3 e3 y4 hbs hwr hmI
      go_wp2_with fail
      go_round
      case rel => exact ⟨K + 1, fold7 s' evs, _, _, _, by go_num, by omega, by omega, HSET⟩
      case measure => simp [intOf]; omega

/-- WHAT THE WALK GIVES, FOR EVERY ARGUMENT AND EVERY WORLD THAT HOLDS WHAT THE ROW LISTS. -/
theorem contract (H : Type) (enc : TypeId × Value → H) (W : World) (base : Nat) (args : Array Value) (ds gs : List (DataW H)) (before : List MemPlace)
    (hval0 : ∀ (j : Nat) t v, Tryz.f8.params[j]? = some t → args[j]? = some v → Value.okWide Tryz.prog W .any base t v)
    (hW : DataW.Whole enc Tryz.prog Tryz.f8.params.toList Rows.decideRightSpec.vars false W args.toList ds gs before) (hL : laidMetH Tryz.prog I.laid1 W) :
    Calls Tryz.prog 8 args W fun e W' => ∃ v, e = .returned v ∧ Rows.decideRightSpec.post enc Tryz.prog Tryz.f8 false true false false W args v W' := by
  have hval : ∀ (j : Nat) t v, Tryz.f8.params[j]? = some t → args[j]? = some v → Value.okWide Tryz.prog W .any base t v := hval0
  have hW' := hW
  obtain ⟨p, q, hA0, hV, rfl, hfz, hnd⟩ := hW
  have hA : DataW.TrodAll enc Tryz.prog W 0 (fun _ => true) true Tryz.f8.params.toList args.toList ds p := hA0
  rw [Tryz.params8] at hA hval
  obtain ⟨v0, vs0, d0, ds0, p0, q0, hargs, rfl, rfl, h0, r0⟩ := trodAll_cons hA
  obtain ⟨v1, vs1, d1, ds1, p1, q1, rfl, rfl, rfl, h1, r1⟩ := trodAll_cons r0
  obtain ⟨rfl, rfl, rfl⟩ := trodAll_nil r1
  obtain rfl : args = #[v0, v1] := by cases args; simp_all
  obtain ⟨c0, c1, c2, c3, t, rfl, ht, hwf⟩ := tb_arg (hval 0 26 v0 rfl rfl) h0
  obtain ⟨as1, ns1, ks1, rfl⟩ := okWide_slice Tryz.underlying52 (hval 1 52 v1 rfl rfl)
  obtain ⟨f1, hf1⟩ := h1
  obtain ⟨l, hl, hlw, hll⟩ := evs_cms (c := .slice as1 ns1 ks1) (by simpa [Value.cells] using hf1)
  refine (walk t c0 c1 c2 c3 l _ W ht hwf hl hlw hll (I.glob_of hL)).mono fun e W' ⟨he, hb⟩ => ?_
  subst he
  exact ⟨_, rfl, post_law hW' hb laidOut rfl rfl rfl Tryz.underlying4 (by rw [Tryz.params8]; decide +kernel)⟩

theorem reads (os : Os) {H : Type} (enc : TypeId × Value → H) : ∃ places, DataW.whole enc Tryz.prog ((World.doorLaid Tryz.prog 77 os).forCall (fun _ _ => 0) ⟨#[], #[.agg #[.slice none 0 0, .slice none 0 0, .slice none 0 0, .slice none 0 0], .slice none 0 0], []⟩).memory Tryz.f8.params.toList Rows.decideRightSpec.vars false (#[.agg #[.slice none 0 0, .slice none 0 0, .slice none 0 0, .slice none 0 0], .slice none 0 0] : Array Value).toList 8 = some ([.agg [.nil, .nil, .nil, .nil], .nil], [], places) :=
  ⟨[], by kernel_rfl⟩

theorem lifted (os : Os) (started : os.Started) (H : Type) (enc : TypeId × Value → H) (F : Stop.Interp) :
    ReturnsInHanded {} Tryz.checked os 8 .any ((OpenSpec.ofChange Rows.decideRightSpec).preRow enc Tryz.prog Tryz.f8 Rows.decideRightRow.domain false Rows.decideRightRow.laid) (((OpenSpec.ofChange Rows.decideRightSpec).at F).post enc Tryz.prog Tryz.f8 false true false false) := by
  obtain ⟨places, hx⟩ := reads os enc
  refine returnsInHanded_of_row (C := Tryz.checked) (s := OpenSpec.ofChange Rows.decideRightSpec) own started (by kernel_rfl) Tryz.func8
    (witness_row_atRef (enc := enc) (C := Tryz.checked) false (World.doorLaid Tryz.prog 77 os) #[.agg #[.slice none 0 0, .slice none 0 0, .slice none 0 0, .slice none 0 0], .slice none 0 0] rfl (by kernel_rfl) (by kernel_rfl) (by kernel_rfl)
      (OpenSpec.preRow_of_cond 8 hx (by kernel_rfl) (fun k hk => by cases hk) (by kernel_rfl) (I.laid_met os _))) ?_
  intro W base args ds gs before hval hW _ _ hsz hL _ _
  exact contract H enc W base args ds gs before hval hW hL

theorem said : Rows.DecideRightSaid :=
  OpenClaim.holds_of_cond 8 Tryz.f8 rfl rfl rfl rfl rfl rfl rfl ⟨rfl, rfl, rfl, rfl, rfl⟩ rfl rfl rfl rfl rfl (by kernel_rfl) Tryz.func8 (by kernel_rfl)
    (of_decide_eq_true (by kernel_rfl)) (by unfold Func.isWrapper; first | (rw [if_pos (by decide +kernel)]; kernel_rfl) | (rw [if_neg (by decide +kernel)]; exact ⟨rfl, rfl⟩))
    (fun os started H enc _ F => by rw [OpenClaim.pre_eq_preRow]; exact lifted os started H enc F)

theorem plain (f : FuncId) (fn : Func) (hf : Tryz.pinned.checked.prog.funcNamed "surmise/surmiselaw07.DecideRight" = some f) (hfn : Tryz.pinned.checked.prog.funcs[f]? = some fn) :
    true = Tryz.pinned.checked.prog.looks [] ∧ ∀ (j : Nat) t, fn.params[j]? = some t → Tryz.pinned.checked.prog.wantsStandIn t = false := by
  obtain rfl : f = 8 := Option.some.inj ((show Tryz.prog.funcNamed "surmise/surmiselaw07.DecideRight" = some 8 by kernel_rfl).symm.trans hf) |>.symm
  obtain rfl : fn = Tryz.f8 := (Option.some.inj (Tryz.func8.symm.trans hfn)).symm
  refine ⟨by kernel_rfl, fun j t ht => ?_⟩
  rw [Tryz.params8] at ht
  have hm := Array.mem_of_getElem? ht
  simp only [Array.mem_def, List.mem_cons, List.not_mem_nil, or_false] at hm
  rcases hm with rfl | rfl
  · exact (show Tryz.prog.wantsStandIn 26 = false by kernel_rfl)
  · exact (show Tryz.prog.wantsStandIn 52 = false by kernel_rfl)

/-- THE CARD. -/
theorem given : Rows.DecideRightCardSaid :=
  Claim7.holds_tied_plain_at .later [] _ _ _ _ said (fun _ h => by cases h) (by kernel_rfl) (fun _ h => by cases h) decideRight_row_tie rfl ⟨rfl, rfl⟩ (by kernel_rfl) rfl plain (by kernel_rfl)
end Go.Proofs.YtkdlmjgdhdmahaaGreatDoor.decideRight
