/-
  Layer 7, the program's side: Decide.
  Layer 7, the program's side: Apply.
-/
import Derived.Test.YtgkniocjlkfhmaaDoorDPj
import Derived.Test.YtgkniocjlkfhmaaDoorSVk
namespace Go.Proofs.YtgkniocjlkfhmaaDoor.D
open Go Go.RowKit Go.Proofs.YtgkniocjlkfhmaaDoor.B Go.Proofs.YtgkniocjlkfhmaaDoor.K Go.Proofs.YtgkniocjlkfhmaaDoor.E Go.Proofs.YtgkniocjlkfhmaaDoor.R
set_option linter.unusedVariables false
set_option maxRecDepth 100000

theorem unfit_zero {t : Tb} {s : Stt} {c : Cm} (h : unfit t s c = 0) : stands t s = true ∧ ∃ (n : Nat) (r : Rl), c.rule = (n : Int) ∧ t.rules[n]? = some r := by
  have h1 : stands t s = true := by
    cases hx : stands t s with
    | true => rfl
    | false => rw [unfit_0 hx] at h; cases h
  refine ⟨h1, ?_⟩
  cases hr : ruleAt t c.rule with
  | none => rw [unfit_1 h1 hr] at h; cases h
  | some r =>
    unfold ruleAt at hr
    split at hr
    · exact ⟨c.rule.toNat, r, by omega, hr⟩
    · cases hr

theorem stands_len {t : Tb} {s : Stt} (h : stands t s = true) : s.vars.length = t.vars.length ∧ s.vars.all isVal = true ∧ (0 ≤ s.pos ∧ s.pos < t.states.length) ∧ 0 ≤ s.ver ∧ s.ver ≤ 1099511627776 := by
  unfold stands at h
  rw [Bool.and_eq_true, decide_eq_true_iff] at h
  exact ⟨h.1.2.2.2.2, h.2, ⟨h.1.1, h.1.2.1⟩, h.1.2.2.1, h.1.2.2.2.1⟩

/-- What comes of a rule: of its guards, of its steps. -/
def byRule (s : Stt) (c : Cm) (r : Rl) : List Ev × Int :=
  if refusal s.vars c.args r.guards ≠ 0 then ([], refusal s.vars c.args r.guards) else match stepsDo c.args r.steps s.pos s.vars with
    | none => ([], 5)
    | some l => (l, 0)

section
variable {t : Tb} {s : Stt} {c : Cm}
theorem dec_bad (h : mayB t = false) : decide7 t s c = ([], 1) := by
  unfold decide7; rw [if_neg (fun hc => by unfold mayB at h; rw [hc] at h; exact absurd h (by decide))]
theorem dec_unfit (h : chk5 t = (0, 0, 0, 0)) (hu : unfit t s c ≠ 0) : decide7 t s c = ([], unfit t s c) := by
  unfold decide7; rw [if_pos h]; unfold decided; rw [if_pos hu]
theorem dec_rule (h : chk5 t = (0, 0, 0, 0)) (hu : unfit t s c = 0) {n : Nat} {r : Rl} (hn : c.rule = (n : Int)) (hr : t.rules[n]? = some r) : decide7 t s c = byRule s c r := by
  unfold decide7; rw [if_pos h]; unfold decided; rw [if_neg (by rw [hu]; decide)]
  rw [show ruleAt t c.rule = some r by unfold ruleAt; rw [hn, if_pos (by omega), Int.toNat_natCast]; exact hr]
  rfl
theorem byRule_no {r : Rl} (h : refusal s.vars c.args r.guards ≠ 0) : byRule s c r = ([], refusal s.vars c.args r.guards) := by unfold byRule; rw [if_pos h]
theorem byRule_none {r : Rl} (h : refusal s.vars c.args r.guards = 0) (hs : stepsDo c.args r.steps s.pos s.vars = none) : byRule s c r = ([], 5) := by unfold byRule; rw [if_neg (by rw [h]; decide), hs]
theorem byRule_some {r : Rl} (h : refusal s.vars c.args r.guards = 0) {l : List Ev} (hs : stepsDo c.args r.steps s.pos s.vars = some l) : byRule s c r = (l, 0) := by unfold byRule; rw [if_neg (by rw [h]; decide), hs]
end

/-- What becomes of a command. -/
def DecOut (o : List Ev × Int) (w : World) (z : Ending) (w' : World) : Prop := ∃ v, z = .returned (.tuple #[v, .int .i64 o.2]) ∧ EvNew w w' v o.1 ∧ Below w.heap.size w w'

def DecMid (w : World) (g0 g1 g2 g9 : Nat) (c0 c1 c2 c3 : Value) (p r : Int) (v : Value) (cl sq : Int) (sr : Value) (rl : Int) (u : Value) (ex RC : Int) (st : Value) (s10 : Value) (wx : World) : Prop :=
  s10 = .int .i64 RC ∧ Box3 g0 g1 g2 c0 c1 c2 c3 p r v cl sq sr rl u ex wx ∧ wx.cell? ⟨g9, 4, none⟩ = some st ∧ Below w.heap.size w wx


set_option maxHeartbeats 8000000 in
theorem decide_any (t : Tb) (s : Stt) (c : Cm) (c0 c1 c2 c3 v u : Value) (w : World) (h : TbIs w [c0, c1, c2, c3] t) (hw : TbWf t) (hs : SlN w v s.vars) (hl : s.vars.length ≤ 9223372036854775807) (hc : SlN w u c.args) (hcw : CmWf c) (hG : I.Glob w) :
    Calls Tryd.prog 13 #[.agg #[c0, c1, c2, c3], .agg #[.int .i64 s.pos, .int .i64 s.ver, v], .agg #[.int .i64 c.client, .int .i64 c.seq, sv c.stream, .int .i64 c.rule, u, .int .i64 c.expect]] w (DecOut (decide7 t s c) w) := by
  have HMB := Lib.hid (fun (W : World) (hb : Below w.heap.size w W) => mayBe7_any t c0 c1 c2 c3 W (h.below hb) hw (hG.below hb))
  have HUN := Lib.hid (fun (W : World) (hb : Below w.heap.size w W) => unfit_any t s c c0 c1 c2 c3 v u W (h.below hb) hw (Sl.below hs hb) hl (Sl.below hc hb) hcw)
  have HTS := Lib.hid (fun (W : World) (hb : Below w.heap.size w W) => tester_any s c v u W (Sl.below hs hb) (Sl.below hc hb) hl hcw.2.2.2.2.1.2)
  have HV := Lib.hid hs
  have HA := Lib.hid hc
  have HAL := Lib.hid hcw.2.2.2.2.1.2
  have HRW := Lib.hid hw.2.2.2
  obtain ⟨au, capu, rfl⟩ := sl_len hc
  rw [List.length_map] at HUN HTS HA ⊢
  have hx : ∃ a3 cap3, c3 = .slice a3 t.rules.length cap3 ∧ SlOf w 5 (RlIs w) c3 t.rules := by
    obtain ⟨d0, d1, d2, d3, e, h0, h1, h2, h3⟩ := h
    cases e
    have h3' := h3
    obtain ⟨a3, cap3, e, _⟩ := h3
    exact ⟨a3, cap3, e, h3'⟩
  obtain ⟨a3, cap3, rfl, h3⟩ := hx
  have H3 := Lib.hid h3
  have HD0 := Lib.hid (dec_bad (t := t) (s := s) (c := c))
  have HD1 := Lib.hid (dec_unfit (t := t) (s := s) (c := c))
  have HD2 := Lib.hid (fun (h : chk5 t = (0, 0, 0, 0)) (hu : unfit t s c = 0) (n : Nat) (r : Rl) (hn : c.rule = (n : Int)) (hr : t.rules[n]? = some r) => dec_rule (t := t) (s := s) (c := c) h hu hn hr)
  have HUZ := Lib.hid (unfit_zero (t := t) (s := s) (c := c))
  have HEV := Lib.hid (fun (l : List Sp) (sl : Value) (n : Nat) (W : World) (hb : Below w.heap.size w W) (h : SlOf W 2 (SpIs W) sl l) (hw : ∀ p ∈ l, SpWf p) (hl : l.length ≤ 3) (hvar : ∀ p ∈ l, ∀ x ∈ p.sets, 0 ≤ x.var ∧ x.var < (n : Int)) (hn : s.vars.length = n) (hn8 : n * 8 ≤ 281474976710656) =>
    events_any l s c sl v _ n W h hw hl hvar (Sl.below hs hb) hn hn8 (Sl.below HA.out hb) hcw.2.2.2.2.1.2)
  obtain ⟨p, hp⟩ : ∃ N, s.pos = N := ⟨_, rfl⟩
  obtain ⟨r, hr⟩ : ∃ N, s.ver = N := ⟨_, rfl⟩
  obtain ⟨cl, hcl⟩ : ∃ N, c.client = N := ⟨_, rfl⟩
  obtain ⟨sq, hsq⟩ : ∃ N, c.seq = N := ⟨_, rfl⟩
  obtain ⟨sr, hsr⟩ : ∃ N, sv c.stream = N := ⟨_, rfl⟩
  obtain ⟨rl, hrl⟩ : ∃ N, c.rule = N := ⟨_, rfl⟩
  obtain ⟨ex, hex⟩ : ∃ N, c.expect = N := ⟨_, rfl⟩
  obtain ⟨R, hR⟩ : ∃ N, t.rules.length = N := ⟨_, rfl⟩
  obtain ⟨n, hn⟩ : ∃ N, c.args.length = N := ⟨_, rfl⟩
  have HR := Lib.hid hR
  have HPP := Lib.hid hp
  rw [hp, hr, hcl, hsq, hsr, hrl, hex, hn] at HUN HTS HEV
  rw [hR] at HMB HUN H3
  rw [hrl] at HD2 HUZ
  rw [hn] at HA
  rw [hp, hr, hcl, hsq, hsr, hrl, hex, hR, hn]
  obtain ⟨Wz, hWz⟩ : ∃ Wz, ((w.alloc (.cells #[c0, c1, c2, .slice a3 R cap3] 37)).alloc (.cells #[.int .i64 p, .int .i64 r, v] 24)).alloc (.cells #[.int .i64 cl, .int .i64 sq, sr, .int .i64 rl, .slice au n capu, .int .i64 ex] 43) = Wz := ⟨_, rfl⟩
  have hbox := Box3.new w c0 c1 c2 (.slice a3 R cap3) p r v cl sq sr rl (.slice au n capu) ex
  rw [hWz] at hbox
  have hbz : Below w.heap.size w Wz := by
    rw [← hWz]
    exact ((below_alloc w _).alloc (below_alloc w _).size _).alloc (Nat.le_trans (below_alloc w _).size (below_alloc _ _).size) _
  obtain ⟨g1, hg1⟩ : ∃ g, (w.alloc (.cells #[c0, c1, c2, .slice a3 R cap3] 37)).heap.size = g := ⟨_, rfl⟩
  obtain ⟨g2, hg2⟩ : ∃ g, ((w.alloc (.cells #[c0, c1, c2, .slice a3 R cap3] 37)).alloc (.cells #[.int .i64 p, .int .i64 r, v] 24)).heap.size = g := ⟨_, rfl⟩
  rw [hg1, hg2] at hbox
  have HBX := Lib.hid hbox
  have HBZ := Lib.hid hbz
  have HM1 := Lib.hid (HMB.out Wz hbz)
  have q0 := hbox.t0
  have q1 := hbox.t1
  have q2 := hbox.t2
  have q3 := hbox.t3
  obtain ⟨B, hB⟩ : ∃ B, mayB t = B := ⟨_, rfl⟩
  rw [hB] at HM1
  have HBB := Lib.hid hB
  obtain ⟨D, hD⟩ : ∃ D, decide7 t s c = D := ⟨_, rfl⟩
  rw [hD] at HD0 HD1 HD2
  rw [hD]
  clear h hw hs hl hc hcw h3 hp hr hcl hsq hsr hrl hex hR hn hbox hbz hB HMB hD hG
  go_enter Tryd.func13, Tryd.ntmps13
  go_wp2_with fail
  refine HM1.out.mono ?_
  rintro _ w1 ⟨rfl, hb1⟩
  have HX1 := Lib.hid (HBX.out.below hb1)
  have HB1 := Lib.hid (HBZ.out.trans (hb1.mono HBZ.out.size))
  clear hb1 q0 q1 q2 q3 HM1 HBX HBZ hWz hg1 hg2
  cases B with
  | false =>
    have hd := HD0.out HBB.out
    subst hd
    go_wp2_with fail
    go_ret2
    exact ⟨_, rfl, EvNew.nil _ _, HB1.out⟩
  | true =>
    have hchk : chk5 t = (0, 0, 0, 0) := of_decide_eq_true HBB.out
    have q0 := HX1.out.t0
    have q1 := HX1.out.t1
    have q2 := HX1.out.t2
    have q3 := HX1.out.t3
    have s0 := HX1.out.s0
    have s1 := HX1.out.s1
    have s2 := HX1.out.s2
    have m0 := HX1.out.m0
    have m1 := HX1.out.m1
    have m2 := HX1.out.m2
    have m3 := HX1.out.m3
    have m4 := HX1.out.m4
    have m5 := HX1.out.m5
    have HU1 := HUN.out w1 HB1.out
    obtain ⟨U, hU⟩ : ∃ U, unfit t s c = U := ⟨_, rfl⟩
    rw [hU] at HU1 HD1 HD2 HUZ
    have HU1 := Lib.hid HU1
    have HCH := Lib.hid hchk
    clear hU hchk HUN
    go_wp2_with fail
    refine HU1.out.mono ?_
    rintro _ w2 ⟨rfl, hb2⟩
    have HX2 := Lib.hid (HX1.out.below hb2)
    have HB2 := Lib.hid (HB1.out.trans (hb2.mono HB1.out.size))
    clear hb2 q0 q1 q2 q3 s0 s1 s2 m0 m1 m2 m3 m4 m5 HX1 HB1 HU1
    by_cases xu : U = 0
    · have bu : (U == 0) = true := beq_iff_eq.2 xu
      obtain ⟨hst, m, r0, hm, hr0⟩ := HUZ.out xu
      subst hm
      have hd := HD2.out HCH.out xu m r0 rfl hr0
      have HD := Lib.hid hd
      have HF := Lib.hid (firm_of HCH.out hr0)
      have HST := Lib.hid (stands_len hst)
      have HFN := Lib.hid (fine_of HCH.out)
      obtain ⟨b, off, rfl, cs, -, hcs, hcell⟩ := H3.out.at hr0
      have hmR : m < R := by rw [← HR.out]; exact (List.getElem?_eq_some_iff.1 hr0).1
      obtain ⟨f_, g_, s_, rfl, hf_, hg_, hs_⟩ := hcs.open
      have hrw := HRW.out.1 r0 (List.mem_of_getElem? hr0)
      have hG_ := hg_
      have hS_ := hs_
      obtain ⟨af, capf, rfl⟩ := sl_len hf_
      obtain ⟨ag, capg, rfl, -⟩ := hg_.open
      obtain ⟨as_, caps_, rfl, -⟩ := hs_.open
      obtain ⟨nf, hnf⟩ : ∃ k, (List.map (fun n => Value.int IntKind.i64 n) r0.from_).length = k := ⟨_, rfl⟩
      obtain ⟨ng, hng⟩ : ∃ k, r0.guards.length = k := ⟨_, rfl⟩
      obtain ⟨ns, hns⟩ : ∃ k, r0.steps.length = k := ⟨_, rfl⟩
      obtain ⟨nm, hnm⟩ : ∃ k, str r0.name = k := ⟨_, rfl⟩
      obtain ⟨ra, hra⟩ : ∃ k, r0.args = k := ⟨_, rfl⟩
      rw [hnf, hng, hns, hra] at hcell
      rw [hng] at hG_
      rw [hns] at hS_
      have hcell' : ∀ (i : Nat) (c : Value), [Value.string nm, .int .i64 ra, .slice af nf capf, .slice ag ng capg, .slice as_ ns caps_][i]? = some c → w2.cell? ⟨b, off + m * 5 + i, none⟩ = some c := by
        intro i c hi
        have h1 := hcell i c (by unfold sv; rw [hnm]; exact hi)
        exact (HB2.out.cell (p := ⟨b, off + m * 5 + i, none⟩) (World.block_lt_of_cell? w _ h1)).trans h1
      have y0 := hcell' 0 _ rfl
      have y0 : w2.cell? ⟨b, off + m * 5, none⟩ = some (.string nm) := y0
      have y1 := hcell' 1 _ rfl
      have y2 := hcell' 2 _ rfl
      have y3 := hcell' 3 _ rfl
      have y4 := hcell' 4 _ rfl
      have q3 := HX2.out.t3
      have m3 := HX2.out.m3
      obtain ⟨W3, hW3⟩ : ∃ W3, w2.alloc (.cells #[.string nm, .int .i64 ra, .slice af nf capf, .slice ag ng capg, .slice as_ ns caps_] 60) = W3 := ⟨_, rfl⟩
      obtain ⟨g9, hg9⟩ : ∃ g, w2.heap.size = g := ⟨_, rfl⟩
      have hB3 : Below w2.heap.size w2 W3 := by rw [← hW3]; exact below_alloc _ _
      have z3 : W3.cell? ⟨g9, 3, none⟩ = some (.slice ag ng capg) := by rw [← hW3, ← hg9]; exact box_cell _ _ _ _ _ rfl
      have z4 : W3.cell? ⟨g9, 4, none⟩ = some (.slice as_ ns caps_) := by rw [← hW3, ← hg9]; exact box_cell _ _ _ _ _ rfl
      have HX3 := Lib.hid (HX2.out.below hB3)
      have hb3 := HB2.out.trans (hB3.mono HB2.out.size)
      have HB3 := Lib.hid hb3
      have HZ := Lib.hid (And.intro z3 z4)
      have HT := Lib.hid (fun (W : World) (hb : Below W3.heap.size W3 W) => HTS.out W (hb3.trans (hb.mono hb3.size)))
      have HRF := Lib.hid (fun (W : World) (hb : Below W3.heap.size W3 W) (fv : Value) (hf : TestF W fv (guardCode s.vars c.args)) => refusal_any r0.guards (.slice ag ng capg) fv (guardCode s.vars c.args) W (hG_.below (hb3.trans (hb.mono hb3.size)) (fun _ _ q => q.below (hb3.trans (hb.mono hb3.size)))) hrw.2.2.2.1.2 hrw.2.2.2.1.1 hf)
      rw [← refusal_code] at HRF
      have hls := HST.out
      have HES := Lib.hid (fun (W : World) (hb : Below w.heap.size w W) => HEV.out r0.steps (.slice as_ ns caps_) s.vars.length W hb (hS_.below hb (fun _ _ q => q.below hb)) hrw.2.2.2.2.1 HF.out.some_.2 (fun p hp x hx => by have := HF.out.sets p hp x hx; rw [hls.1]; exact this) rfl (by rw [hls.1]; have := HFN.out.vars; omega))
      have HN0 := Lib.hid (fun h => byRule_no (s := s) (c := c) (r := r0) h)
      have HN1 := Lib.hid (fun h hs => byRule_none (s := s) (c := c) (r := r0) h hs)
      have HN2 := Lib.hid (fun h (l : List Ev) hs => byRule_some (s := s) (c := c) (r := r0) h (l := l) hs)
      obtain ⟨RC, hRC⟩ : ∃ RC, refusal s.vars c.args r0.guards = RC := ⟨_, rfl⟩
      rw [hRC] at HRF HN0 HN1 HN2
      have hmI : (m : Int) < (R : Int) := by omega
      have s0 := HX3.out.s0
      have s1 := HX3.out.s1
      have s2 := HX3.out.s2
      have m0 := HX3.out.m0
      have m1 := HX3.out.m1
      have m2 := HX3.out.m2
      have m3' := HX3.out.m3
      have m4 := HX3.out.m4
      have m5 := HX3.out.m5
      clear hcell hcell' hcs hr0 hd hf_ hg_ hs_ hG_ hS_ hnf hng hns hnm hra hB3 hb3 hls hRC hst HD0 HD1 HD2 HUZ hrw xu HTS HEV z4
      go_upto_region 7 with fail
      clear hW3 hg9 y0 y1 y2 y3 y4 q3 m3 hmI
      go_cut [10] from 18 to 32 (fun s10 wx => DecMid w w.heap.size g1 g2 g9 c0 c1 c2 (.slice (some ⟨b, off, none⟩) R cap3) p r v cl sq sr (m : Int) (.slice au n capu) ex RC (.slice as_ ns caps_) s10 wx)
      case first =>
        go_region_law (first | (go_simp; go_at_call 23; refine (HT.out _ ((Below.refl W3.heap.size W3).drew)).mono ?_; rintro _ w4 ⟨fv, rfl, htf, hb4'⟩; have HTF := Lib.hid htf; have hb4 := Below.trans ((Below.refl W3.heap.size W3).drew) hb4'; have z34 := kept_cell hb4 z3; have HB4 := Lib.hid hb4; clear htf hb4 hb4') | (go_simp; go_at_call 22; refine (HRF.out _ HB4.out _ HTF.out).mono ?_; rintro _ w5 ⟨rfl, hb5⟩; have HB5 := Lib.hid hb5; clear hb5))
        all_goals
          go_simp
          go_wp2_with fail
          go_meet
          have hb5 : Below W3.heap.size W3 w5 := HB4.out.trans (HB5.out.mono HB4.out.size)
          exact ⟨rfl, HX3.out.below hb5, kept_cell hb5 HZ.out.2, HB3.out.trans (hb5.mono HB3.out.size)⟩
      case rest =>
        obtain ⟨W6, rfl⟩ : ∃ W : World, W = wc := ⟨_, rfl⟩
        obtain ⟨rfl, hx6, z46, hb6⟩ := (show DecMid w w.heap.size g1 g2 g9 c0 c1 c2 (.slice (some ⟨b, off, none⟩) R cap3) p r v cl sq sr (m : Int) (.slice au n capu) ex RC (.slice as_ ns caps_) _ _ from hcut)
        have HB6 := Lib.hid hb6
        have HE6 := Lib.hid (HES.out _ hb6)
        clear hcut z3 s0 s1 s2 m0 m1 m2 m3' m4 m5 HT HRF HES HX3 HB3 HZ
        have s0 := hx6.s0
        have s1 := hx6.s1
        have s2 := hx6.s2
        have m0 := hx6.m0
        have m1 := hx6.m1
        have m2 := hx6.m2
        have m3' := hx6.m3
        have m4 := hx6.m4
        have m5 := hx6.m5
        clear hx6 hb6
        by_cases xr : RC = 0
        · have br : (RC == 0) = true := beq_iff_eq.2 xr
          have HXR := Lib.hid xr
          clear xr
          go_wp2_with fail
          refine HE6.out.mono ?_
          rintro _ w7 ⟨hb7, ⟨hno, rfl⟩ | ⟨evs, ve, hso, rfl, hev⟩⟩
          · have hd := HD.out.trans (HN1.out HXR.out (by rw [HPP.out]; exact hno))
            have HDD := Lib.hid hd
            have HB7 := Lib.hid (HB6.out.trans (hb7.mono HB6.out.size))
            clear hno hb7 hd s0 s1 s2 m0 m1 m2 m3' m4 m5 z46
            go_wp2_with fail
            go_ret2
            exact ⟨.slice none 0 0, by rw [HDD.out]; rfl, by rw [HDD.out]; exact EvNew.nil _ _, HB7.out⟩
          · have hd := HD.out.trans (HN2.out HXR.out evs (by rw [HPP.out]; exact hso))
            have HDD := Lib.hid hd
            have HEE := Lib.hid (EvNew.mono (w := w) hev HB6.out.size)
            have HB7 := Lib.hid (HB6.out.trans (hb7.mono HB6.out.size))
            clear hso hb7 hev hd s0 s1 s2 m0 m1 m2 m3' m4 m5 z46
            go_wp2_with fail
            go_ret2
            exact ⟨ve, by rw [HDD.out]; rfl, by rw [HDD.out]; exact HEE.out, HB7.out⟩
        · have br : (RC == 0) = false := beq_eq_false_iff_ne.2 xr
          have HDD := Lib.hid (HD.out.trans (HN0.out xr))
          clear xr s0 s1 s2 m0 m1 m2 m3' m4 m5 z46
          go_wp2_with fail
          go_ret2
          exact ⟨.slice none 0 0, by rw [HDD.out]; rfl, by rw [HDD.out]; exact EvNew.nil _ _, HB6.out⟩
    · have bu : (U == 0) = false := beq_eq_false_iff_ne.2 xu
      have hd := HD1.out HCH.out xu
      subst hd
      clear xu HD0 HD1 HD2 HUZ
      go_wp2_with fail
      go_ret2
      exact ⟨_, rfl, EvNew.nil _ _, HB2.out⟩
end Go.Proofs.YtgkniocjlkfhmaaDoor.D

namespace Go.Proofs.YtgkniocjlkfhmaaDoor.D
open Go Go.RowKit Go.Proofs.YtgkniocjlkfhmaaDoor.B Go.Proofs.YtgkniocjlkfhmaaDoor.K Go.Proofs.YtgkniocjlkfhmaaDoor.E Go.Proofs.YtgkniocjlkfhmaaDoor.R
set_option linter.unusedVariables false
set_option maxRecDepth 100000

/-- A state's box, an event's box, the result's cells. -/
structure Ap (w : World) (g0 g1 g2 : Nat) (p r : Int) (v : Value) (ep : Int) (u : Value) (wx : World) : Prop where
  bel : Below w.heap.size w wx
  st : S3 wx g0 (.int .i64 p) (.int .i64 r) v
  ev : E2 wx g1 (.int .i64 ep) u
  res : S3 wx g2 (.int .i64 0) (.int .i64 0) (.slice none 0 0)
  lo : w.heap.size ≤ g0 ∧ g0 < g1 ∧ g1 < g2

theorem Ap.new (w : World) (p r : Int) (v : Value) (ep : Int) (u : Value) (a b c : Obj) (ha : a = .cells #[.int .i64 p, .int .i64 r, v] 24) (hb : b = .cells #[.int .i64 ep, u] 31) (hc : c = .cells #[.int .i64 0, .int .i64 0, .slice none 0 0] 24) :
    Ap w w.heap.size (w.alloc a).heap.size ((w.alloc a).alloc b).heap.size p r v ep u (((w.alloc a).alloc b).alloc c) := by
  have h1 := below_alloc w a
  have h2 := below_alloc (w.alloc a) b
  have h3 := below_alloc ((w.alloc a).alloc b) c
  subst ha hb hc
  refine ⟨h1.trans ((h2.mono h1.size).trans (h3.mono (Nat.le_trans h1.size h2.size))), ?_, ?_, heap_alloc_at _ _, Nat.le_refl _, heap_alloc_lt _ _, heap_alloc_lt _ _⟩
  · exact (S3.below (S3.below (S3.new w _ _ _) h2) h3)
  · exact E2.below (show E2 _ _ _ _ from heap_alloc_at _ _) h3

section
variable {w wx wy : World} {g0 g1 g2 : Nat} {p r ep : Int} {v u : Value}
theorem Ap.below (h : Ap w g0 g1 g2 p r v ep u wx) (hb : Below wx.heap.size wx wy) : Ap w g0 g1 g2 p r v ep u wy :=
  ⟨h.bel.trans (hb.mono h.bel.size), h.st.below hb, h.ev.below hb, h.res.below hb, h.lo⟩
theorem Ap.up (h : Ap w g0 g1 g2 p r v ep u wx) (r' : Int) : Ap w g0 g1 g2 p r' v ep u (wx.setCell ⟨g0, 1, none⟩ (.int .i64 r')) := by
  obtain ⟨l0, l1, l2⟩ := h.lo
  refine ⟨h.bel.setCell (p := ⟨g0, 1, none⟩) l0 _, heap_setCell_same _ g0 1 _ 24 _ h.st, ?_, ?_, h.lo⟩
  · exact (heap_setCell_other _ ⟨g0, 1, none⟩ g1 _ (by show g1 ≠ g0; omega)).trans h.ev
  · exact (heap_setCell_other _ ⟨g0, 1, none⟩ g2 _ (by show g2 ≠ g0; omega)).trans h.res
theorem E2.cells' {w : World} {g : Nat} {a b : Value} (h : E2 w g a b) : w.cell? ⟨g, 0, none⟩ = some a ∧ w.cell? ⟨g, 1, none⟩ = some b := ⟨h.cells.1.1, h.cells.2.1⟩
end

set_option maxHeartbeats 4000000 in
theorem apply_any (s : Stt) (e : Ev) (v u : Value) (n : Nat) (w : World) (hr : I64 s.ver) (hu : SlN w u e.vars) (hn : e.vars.length = n) (hl : n * 8 ≤ 281474976710656) :
    Calls Tryd.prog 8 #[.agg #[.int .i64 s.pos, .int .i64 s.ver, v], .agg #[.int .i64 e.pos, u]] w fun z w' => ∃ k, z = .returned (.agg #[.int .i64 e.pos, .int .i64 (next s.ver), .slice (some ⟨k, 0, none⟩) n n]) ∧ w.heap.size ≤ k ∧ NumsAt w' k e.vars ∧ Below w.heap.size w w' := by
  have HP0 := Lib.hid (fun (W : World) (hb : Below w.heap.size w W) => copied_n e.vars n u W (Sl.below hu hb) hn hl)
  obtain ⟨p, hp⟩ : ∃ N, s.pos = N := ⟨_, rfl⟩
  obtain ⟨r, hre⟩ : ∃ N, s.ver = N := ⟨_, rfl⟩
  obtain ⟨ep, hep⟩ : ∃ N, e.pos = N := ⟨_, rfl⟩
  obtain ⟨vs, hvs⟩ : ∃ N, e.vars = N := ⟨_, rfl⟩
  rw [hvs] at HP0
  rw [hre] at hr
  obtain ⟨nr, hnr⟩ : ∃ nr, next r = nr := ⟨_, rfl⟩
  rw [hp, hre, hep, hvs, hnr]
  have HNR := Lib.hid hnr
  clear hnr
  obtain ⟨W0, hW0⟩ : ∃ W0, w.alloc (.cells #[.int .i64 p, .int .i64 r, v] 24) = W0 := ⟨_, rfl⟩
  obtain ⟨g1, hg1⟩ : ∃ g, W0.heap.size = g := ⟨_, rfl⟩
  obtain ⟨W1, hW1⟩ : ∃ W1, W0.alloc (.cells #[.int .i64 ep, u] 31) = W1 := ⟨_, rfl⟩
  obtain ⟨g2, hg2⟩ : ∃ g, W1.heap.size = g := ⟨_, rfl⟩
  obtain ⟨W2, hW2⟩ : ∃ W2, W1.alloc (.cells #[.int .i64 0, .int .i64 0, .slice none 0 0] 24) = W2 := ⟨_, rfl⟩
  have hap := Ap.new w p r v ep u _ _ _ rfl rfl rfl
  rw [hW0, hg1, hW1, hg2, hW2] at hap
  have HA := Lib.hid hap
  obtain ⟨-, ⟨k1, f1⟩, -⟩ := hap.st.cells
  have HRR := Lib.hid hr
  clear hap hu hn hl hp hre hep hvs hr
  go_enter Tryd.func8, Tryd.ntmps8
  go_upto_if 7 with fail
  clear hW0 hW1 hW2 hg1 hg2
  go_cut [] from 7 to 11 (fun wx => Ap w w.heap.size g1 g2 p nr v ep u wx)
  case first =>
    by_cases x : r < 1099511627776
    · have b : decide (r < 1099511627776) = true := decide_eq_true x
      have hnx : nr = r + 1 := by rw [← HNR.out]; unfold next; rw [if_pos x]
      have hw1 : IntKind.i64.wrap (r + 1) = r + 1 := IntWalk.i64_in _ (by have h1 := HRR.out; unfold I64 at h1; omega)
      have HNX := Lib.hid hnx
      clear hnx
      go_wp2_with fail
      go_meet
      rw [HNX.out]
      exact HA.out.up (r + 1)
    · have b : decide (r < 1099511627776) = false := decide_eq_false x
      have hnx : nr = r := by rw [← HNR.out]; unfold next; rw [if_neg x]
      have HNX := Lib.hid hnx
      clear hnx
      go_wp2_with fail
      go_meet
      rw [HNX.out]
      exact HA.out
  case rest =>
    obtain ⟨W3, rfl⟩ : ∃ W : World, W = wc := ⟨_, rfl⟩
    have hap := (show Ap w w.heap.size g1 g2 p nr v ep u _ from hcut)
    clear hcut k1 f1 HA
    have HA := Lib.hid hap
    have HP := Lib.hid (fun (W : World) (hb : Below W3.heap.size W3 W) => HP0.out W (hap.bel.trans (hb.mono hap.bel.size)))
    obtain ⟨-, ⟨k1, -⟩, -⟩ := hap.st.cells
    obtain ⟨e0, e1⟩ := hap.ev.cells'
    obtain ⟨⟨r0, f0⟩, ⟨r1, f1⟩, ⟨r2, f2⟩⟩ := hap.res.cells
    clear hap HP0
    go_wp2_with fail
    go_region_law (go_simp; go_at_call 10; refine (HP.out _ ((Below.refl W3.heap.size W3).drew)).mono ?_; rintro _ w2 ⟨k, rfl, hk, hnk, hb2'⟩; have hb2 : Below W3.heap.size W3 w2 := ((Below.refl W3.heap.size W3).drew).trans hb2'; clear hb2'; have HK := Lib.hid hk; have HN := Lib.hid hnk; have HA2 := Lib.hid (HA.out.below hb2); have k12 := kept_cell hb2 k1; have e02 := kept_cell hb2 e0; have e12 := kept_cell hb2 e1; obtain ⟨⟨r02, f02⟩, ⟨r12, f12⟩, ⟨r22, f22⟩⟩ := HA2.out.res.cells; clear hk hnk hb2)
    all_goals
      go_wp2_with fail
      have hk : W3.heap.size ≤ k := HK.out
      have hlt : g2 < W3.heap.size := (Array.getElem?_eq_some_iff.1 HA.out.res).1
      have hlo := HA.out.lo
      have hs := HA.out.bel.size
      refine s3_end _ _ _ rfl rfl rfl (HA2.out.res.set _ _ _) ⟨k, rfl, by omega, ?_, below_set3 HA2.out.bel (by omega) _ _ _⟩
      unfold NumsAt; rw [heap_set3 (by omega)]; exact HN.out

/-- All events, and how many numbers each has. -/
theorem fold7_ver (s : Stt) (l : List Ev) : (∀ e ∈ l, True) → I64 s.ver → I64 (fold7 s l).ver := by
  induction l generalizing s with
  | nil => exact fun _ h => h
  | cons e l ih =>
    intro _ h
    refine ih _ (fun _ _ => trivial) ?_
    show I64 (next s.ver)
    unfold I64 next at *
    split <;> omega

/-- The state's box, the result's cells; the variables in a block of their own. -/
structure Fo (w : World) (g g2 k n : Nat) (s : Stt) (wx : World) : Prop where
  bel : Below w.heap.size w wx
  st : S3 wx g (.int .i64 s.pos) (.int .i64 s.ver) (.slice (some ⟨k, 0, none⟩) n n)
  res : S3 wx g2 (.int .i64 0) (.int .i64 0) (.slice none 0 0)
  nums : NumsAt wx k s.vars
  len : s.vars.length = n
  ver : I64 s.ver
  lo : w.heap.size ≤ g ∧ g < g2 ∧ g2 < k

section
variable {w wx wy : World} {g g2 k n : Nat} {s : Stt}
theorem Fo.below (h : Fo w g g2 k n s wx) (hb : Below wx.heap.size wx wy) : Fo w g g2 k n s wy :=
  ⟨h.bel.trans (hb.mono h.bel.size), h.st.below hb, h.res.below hb, h.nums.below hb, h.len, h.ver, h.lo⟩
theorem Fo.set (h : Fo w g g2 k n s wx) {k' n' : Nat} {s' : Stt} (hn : NumsAt wx k' s'.vars) (hl : s'.vars.length = n') (hv : I64 s'.ver) (hk : g2 < k') :
    Fo w g g2 k' n' s' (((wx.setCell ⟨g, 0, none⟩ (.int .i64 s'.pos)).setCell ⟨g, 1, none⟩ (.int .i64 s'.ver)).setCell ⟨g, 2, none⟩ (.slice (some ⟨k', 0, none⟩) n' n')) := by
  obtain ⟨l0, l1, l2⟩ := h.lo
  refine ⟨below_set3 h.bel l0 _ _ _, h.st.set _ _ _, ?_, ?_, hl, hv, l0, l1, hk⟩
  · unfold S3; rw [heap_set3 (by omega)]; exact h.res
  · unfold NumsAt; rw [heap_set3 (by omega)]; exact hn
end

/-- A state that is handed out, its variables in a block of their own. -/
def StNew (s : Stt) (w : World) (z : Ending) (w' : World) : Prop := ∃ k n, z = .returned (.agg #[.int .i64 s.pos, .int .i64 s.ver, .slice (some ⟨k, 0, none⟩) n n]) ∧ w.heap.size ≤ k ∧ NumsAt w' k s.vars ∧ s.vars.length = n ∧ Below w.heap.size w w'
theorem StNew.out {s : Stt} {w : World} {z : Ending} {w' : World} (h : StNew s w z w') : StOut s w z w' := by
  obtain ⟨k, n, e, _, h1, h2, h3⟩ := h
  exact ⟨_, e, sln_ownN h1 h2 _, h3⟩

set_option maxHeartbeats 4000000 in
theorem fold_new (s : Stt) (l : List Ev) (v u : Value) (w : World) (hr : I64 s.ver) (hs : SlN w v s.vars) (hs8 : s.vars.length * 8 ≤ 281474976710656) (hu : EvsIs w u l) (hl : l.length ≤ 9223372036854775807) (hl8 : ∀ e ∈ l, e.vars.length * 8 ≤ 281474976710656) :
    Calls Tryd.prog 4 #[.agg #[.int .i64 s.pos, .int .i64 s.ver, v], u] w (StNew (fold7 s l) w) := by
  obtain ⟨a, cap, rfl, hu⟩ := hu.open
  have HU := Lib.hid hu
  have HL8 := Lib.hid hl8
  have HL := Lib.hid hl
  obtain ⟨N, hN⟩ : ∃ N, l.length = N := ⟨_, rfl⟩
  rw [hN] at HU HL ⊢
  have HN := Lib.hid hN
  have HRS := Lib.hid hr
  obtain ⟨p, hp⟩ : ∃ N, s.pos = N := ⟨_, rfl⟩
  obtain ⟨r, hre⟩ : ∃ N, s.ver = N := ⟨_, rfl⟩
  obtain ⟨n, hn⟩ : ∃ n, s.vars.length = n := ⟨_, rfl⟩
  have hFO : ∀ (w' : World) (g g2 k : Nat), Below w.heap.size w w' → S3 w' g (.int .i64 p) (.int .i64 r) (.slice (some ⟨k, 0, none⟩) n n) → S3 w' g2 (.int .i64 0) (.int .i64 0) (.slice none 0 0) → NumsAt w' k s.vars → w.heap.size ≤ g ∧ g < g2 ∧ g2 < k → Fo w g g2 k n s w' :=
    fun w' g g2 k h1 h2 h3 h4 h5 => ⟨h1, by rw [hp, hre]; exact h2, h3, h4, hn, hr, h5⟩
  have HFO := Lib.hid hFO
  rw [hn] at hs8
  rw [hp, hre]
  obtain ⟨W0, hW0⟩ : ∃ W0, w.alloc (.cells #[.int .i64 p, .int .i64 r, v] 24) = W0 := ⟨_, rfl⟩
  obtain ⟨g2, hg2⟩ : ∃ g, W0.heap.size = g := ⟨_, rfl⟩
  obtain ⟨W1, hW1⟩ : ∃ W1, W0.alloc (.cells #[.int .i64 0, .int .i64 0, .slice none 0 0] 24) = W1 := ⟨_, rfl⟩
  have hB0 : Below w.heap.size w W0 := by rw [← hW0]; exact below_alloc _ _
  have hB1 : Below W0.heap.size W0 W1 := by rw [← hW1]; exact below_alloc _ _
  have hb := hB0.trans (hB1.mono hB0.size)
  have hst : S3 W1 w.heap.size (.int .i64 p) (.int .i64 r) v := (show S3 W0 _ _ _ _ by rw [← hW0]; exact S3.new _ _ _ _).below hB1
  have hres : S3 W1 g2 (.int .i64 0) (.int .i64 0) (.slice none 0 0) := by rw [← hW1, ← hg2]; exact S3.new _ _ _ _
  have hgg : w.heap.size < g2 := by rw [← hg2, ← hW0]; exact heap_alloc_lt _ _
  have HST := Lib.hid hst
  have HRES := Lib.hid hres
  have HGG := Lib.hid hgg
  have HB := Lib.hid hb
  have HP := Lib.hid (copied_n s.vars n v W1 (Sl.below hs hb) hn hs8)
  obtain ⟨-, -, k2, -⟩ := hst.cells
  clear hu hl8 hl hN hr hp hre hn hs8 hs hB0 hB1 hb hst hres hgg hFO
  go_enter Tryd.func4, Tryd.ntmps4
  go_wp2_with fail
  refine HP.out.mono ?_
  rintro _ w1 ⟨k, rfl, hk, hnk, hb1⟩
  have HB1 := Lib.hid (HB.out.trans (hb1.mono HB.out.size))
  have HS1 := Lib.hid (HST.out.below hb1)
  have HR1 := Lib.hid (HRES.out.below hb1)
  have HN1 := Lib.hid hnk
  have hlt2 : g2 < W1.heap.size := (Array.getElem?_eq_some_iff.1 HRES.out).1
  have HGK := Lib.hid (show g2 < k by omega)
  obtain ⟨-, -, k2, f2⟩ := HS1.out.cells
  clear hk hnk hb1 hlt2 hW0 hW1 hg2 HST HRES HB HP
  go_wp2_with fail
  have hfo : Fo w w.heap.size g2 k n s (w1.setCell ⟨w.heap.size, 2, none⟩ (.slice (some ⟨k, 0, none⟩) n n)) := by
    have h0 := HGG.out
    have h1 := HGK.out
    refine HFO.out _ _ _ _ (HB1.out.setCell (p := ⟨w.heap.size, 2, none⟩) (Nat.le_refl _) _) (heap_setCell_same _ w.heap.size 2 _ 24 _ HS1.out) ?_ ?_ ⟨Nat.le_refl _, h0, h1⟩
    · exact (heap_setCell_other _ ⟨w.heap.size, 2, none⟩ g2 _ (by show g2 ≠ w.heap.size; omega)).trans HR1.out
    · exact (heap_setCell_other _ ⟨w.heap.size, 2, none⟩ k _ (by show k ≠ w.heap.size; omega)).trans HN1.out
  have HF0 := Lib.hid hfo
  clear hfo k2 f2 HFO HS1 HR1 HN1 HB1 HGK HGG
  go_loopw [13] (fun i wr => ∃ (K : Nat) (s' : Stt) (k n : Nat), i = .int .i64 (K : Int) ∧ K ≤ N ∧ Hid (Fo w w.heap.size g2 k n s' wr) ∧ Hid (fold7 s' (l.drop K) = fold7 s l)) (fun i _ => N - (intOf i).toNat)
  case atStart => exact ⟨0, s, k, n, rfl, Nat.zero_le _, HF0, Lib.hid rfl⟩
  case round =>
    obtain ⟨K, s', k', n', rfl, hK, HF, HI⟩ := hrel
    by_cases hlt : K < N
    · have hltI : (K : Int) < (N : Int) := by omega
      obtain ⟨e, he⟩ : ∃ e, l[K]? = some e := ⟨_, List.getElem?_eq_getElem (by rw [HN.out]; exact hlt)⟩
      obtain ⟨b, off, ea, cs, -, ⟨ev, rfl, hev⟩, hc⟩ := HU.out.at he
      subst ea
      obtain ⟨m, hm⟩ : ∃ m, e.vars.length = m := ⟨_, rfl⟩
      have hev0 := hev
      obtain ⟨av, capv, rfl⟩ := sl_len hev
      rw [List.length_map, hm] at hc hev0
      have hem := List.mem_of_getElem? he
      have k0 : wr.cell? ⟨b, off + K * 2, none⟩ = some (.int .i64 e.pos) := (HF.out.bel.cell (p := ⟨b, off + K * 2, none⟩) (World.block_lt_of_cell? w _ (hc 0 _ rfl))).trans (hc 0 _ rfl)
      have k1 : wr.cell? ⟨b, off + K * 2 + 1, none⟩ = some (.slice av m capv) := (HF.out.bel.cell (p := ⟨b, off + K * 2 + 1, none⟩) (World.block_lt_of_cell? w _ (hc 1 _ rfl))).trans (hc 1 _ rfl)
      have hfs : fold7 s' (l.drop K) = fold7 (apply7 s' e) (l.drop (K + 1)) := by
        obtain ⟨hk, e'⟩ := List.getElem?_eq_some_iff.1 he
        rw [List.drop_eq_getElem_cons hk, e']; rfl
      have HFS := Lib.hid hfs
      obtain ⟨W1, hW1⟩ : ∃ W1, wr.alloc (.cells #[.int .i64 e.pos, .slice av m capv] 31) = W1 := ⟨_, rfl⟩
      have hB1 : Below wr.heap.size wr W1 := by rw [← hW1]; exact below_alloc _ _
      obtain ⟨z, hz⟩ : ∃ z, wr.heap.size = z := ⟨_, rfl⟩
      have c0 : W1.cell? ⟨z, 0, none⟩ = some (.int .i64 e.pos) := by rw [← hW1, ← hz]; exact box_cell _ _ _ _ _ rfl
      have c1 : W1.cell? ⟨z, 1, none⟩ = some (.slice av m capv) := by rw [← hW1, ← hz]; exact box_cell _ _ _ _ _ rfl
      have HF1 := Lib.hid (HF.out.below hB1)
      have HAP := Lib.hid (apply_any s' e (.slice (some ⟨k', 0, none⟩) n' n') (.slice av m capv) m W1 HF.out.ver (Sl.below hev0 (HF1.out.bel)) hm (by rw [← hm]; exact HL8.out e hem))
      obtain ⟨⟨s0, -⟩, ⟨s1, -⟩, ⟨s2, -⟩⟩ := HF1.out.st.cells
      obtain ⟨ep, hep⟩ : ∃ ep, e.pos = ep := ⟨_, rfl⟩
      obtain ⟨nv, hnv⟩ : ∃ nv, next s'.ver = nv := ⟨_, rfl⟩
      obtain ⟨sp, hsp⟩ : ∃ sp, s'.pos = sp := ⟨_, rfl⟩
      obtain ⟨sv', hsv⟩ : ∃ sv', s'.ver = sv' := ⟨_, rfl⟩
      rw [hep, hnv, hsp, hsv] at HAP
      rw [hep] at k0 c0 hW1
      rw [hsp] at s0
      rw [hsv] at s1
      have HEQ := Lib.hid (And.intro hep (And.intro hnv hm))
      have hwK := wrap_next K (Nat.lt_of_lt_of_le hlt HL.out)
      clear he hev hev0 hc hem hfs hB1 HF hep hnv hsp hsv hm
      go_wp2_with fail
      refine HAP.out.mono ?_
      rintro _ w2 ⟨k2, rfl, hk2, hn2, hb2⟩
      have HF2 := Lib.hid (HF1.out.below hb2)
      obtain ⟨⟨s02, f02⟩, ⟨s12, f12⟩, ⟨s22, f22⟩⟩ := HF2.out.st.cells
      have hgk : g2 < k2 := by have := (Array.getElem?_eq_some_iff.1 HF1.out.res).1; omega
      have hset := HF2.out.set (s' := apply7 s' e) (k' := k2) (n' := m) hn2 HEQ.out.2.2 (by
        show I64 (next s'.ver)
        have := HF2.out.ver
        unfold I64 next at *
        split <;> omega) hgk
      rw [show (apply7 s' e).pos = ep from HEQ.out.1, show (apply7 s' e).ver = nv from HEQ.out.2.1] at hset
      have HSET := Lib.hid hset
      have HJ := Lib.hid (show fold7 (apply7 s' e) (l.drop (K + 1)) = fold7 s l by rw [← HI.out, HFS.out])
      clear hset hgk hk2 hn2 hb2 s0 s1 s2 c0 c1 k0 k1 hW1 hz
      go_wp2_with fail
      go_round
      case rel => exact ⟨K + 1, apply7 s' e, k2, m, by go_num, by omega, HSET, HJ⟩
      case measure => simp [intOf]; omega
    · have hltI : ¬ (K : Int) < (N : Int) := by omega
      have hfin : s' = fold7 s l := by rw [← HI.out, List.drop_of_length_le (by have := HN.out; omega)]; rfl
      have HFIN := Lib.hid hfin
      obtain ⟨⟨s0, -⟩, ⟨s1, -⟩, ⟨s2, -⟩⟩ := HF.out.st.cells
      obtain ⟨⟨r0, f0⟩, ⟨r1, f1⟩, ⟨r2, f2⟩⟩ := HF.out.res.cells
      clear hfin
      go_wp2_with fail
      obtain ⟨l0, l1, l2⟩ := HF.out.lo
      have hlo := HF.out.lo
      refine s3_end _ _ _ rfl rfl rfl (HF.out.res.set _ _ _) ⟨k', n', by rw [← HFIN.out], by omega, ?_, by rw [← HFIN.out]; exact HF.out.len, below_set3 HF.out.bel (by omega) _ _ _⟩
      rw [← HFIN.out]
      unfold NumsAt; rw [heap_set3 (by omega)]; exact HF.out.nums

theorem fold_any (s : Stt) (l : List Ev) (v u : Value) (w : World) (hr : I64 s.ver) (hs : SlN w v s.vars) (hs8 : s.vars.length * 8 ≤ 281474976710656) (hu : EvsIs w u l) (hl : l.length ≤ 9223372036854775807) (hl8 : ∀ e ∈ l, e.vars.length * 8 ≤ 281474976710656) :
    Calls Tryd.prog 4 #[.agg #[.int .i64 s.pos, .int .i64 s.ver, v], u] w (StOut (fold7 s l) w) :=
  (fold_new s l v u w hr hs hs8 hu hl hl8).mono fun _ _ h => h.out
end Go.Proofs.YtgkniocjlkfhmaaDoor.D
