/-
  Layer 7, the reference: Decide, up to a rule's steps.
-/
import Derived.Test.YtgkniocjlkfhmaaGreatDoorDSz
import Derived.Test.YtgkniocjlkfhmaaGreatDoorSVn
import Derived.Test.YtgkniocjlkfhmaaGreatDoorRRefF
import Derived.Test.YtgkniocjlkfhmaaGreatDoorEEval
import Derived.BigQuiet
import Derived.Deep.RegionHeld3
namespace Go.Proofs.YtgkniocjlkfhmaaGreatDoor.D
open Go Go.RowKit Go.Proofs.YtgkniocjlkfhmaaGreatDoor.B Go.Proofs.YtgkniocjlkfhmaaGreatDoor.K Go.Proofs.YtgkniocjlkfhmaaGreatDoor.E Go.Proofs.YtgkniocjlkfhmaaGreatDoor.R
set_option linter.unusedVariables false
set_option maxRecDepth 100000

/-- What the walk through a rule has: the boxes, the rule's box. -/
structure Rb (w : World) (g0 g1 g2 g8 : Nat) (c0 c1 c2 c3 : Value) (p r : Int) (v : Value) (cl sq : Int) (sr : Value) (rl : Int) (u : Value) (ex : Int) (gs ss : Value) (wr : World) : Prop where
  bel : Below w.heap.size w wr
  box : Box3 g0 g1 g2 c0 c1 c2 c3 p r v cl sq sr rl u ex wr
  r3 : wr.cell? ⟨g8, 3, none⟩ = some gs
  r4 : wr.cell? ⟨g8, 4, none⟩ = some ss
theorem Rb.below {w : World} {g0 g1 g2 g8 : Nat} {c0 c1 c2 c3 : Value} {p r : Int} {v : Value} {cl sq : Int} {sr : Value} {rl : Int} {u : Value} {ex : Int} {gs ss : Value} {wr wx : World} (h : Rb w g0 g1 g2 g8 c0 c1 c2 c3 p r v cl sq sr rl u ex gs ss wr) (hb : Below wr.heap.size wr wx) :
    Rb w g0 g1 g2 g8 c0 c1 c2 c3 p r v cl sq sr rl u ex gs ss wx :=
  ⟨h.bel.trans (hb.mono h.bel.size), h.box.below hb, kept_cell hb h.r3, kept_cell hb h.r4⟩

/-- The boxes lie below what turned. -/
theorem Rb.grown {w : World} {g0 g1 g2 g8 : Nat} {c0 c1 c2 c3 : Value} {p r : Int} {v : Value} {cl sq : Int} {sr : Value} {rl : Int} {u : Value} {ex : Int} {gs ss : Value} {wr wx : World} (h : Rb w g0 g1 g2 g8 c0 c1 c2 c3 p r v cl sq sr rl u ex gs ss wr) {q : Option Nat} {M : Nat} (hg : wr.grownBy wx q) (hq : ∀ b, q = some b → M ≤ b) (hw : w.heap.size ≤ M) (hM : g0 < M ∧ g1 < M ∧ g2 < M ∧ g8 < M) :
    Rb w g0 g1 g2 g8 c0 c1 c2 c3 p r v cl sq sr rl u ex gs ss wx := by
  have k : ∀ {g o : Nat} {x : Value}, g < M → wr.cell? ⟨g, o, none⟩ = some x → wx.cell? ⟨g, o, none⟩ = some x := fun hl hc => World.grownBy.cell hg hc (fun e => Nat.lt_irrefl _ (Nat.lt_of_lt_of_le hl (hq _ e.symm)))
  obtain ⟨m0, m1, m2, m8⟩ := hM
  exact ⟨h.bel.grown hg h.bel.size (fun b hb => Nat.le_trans hw (hq b hb)), ⟨k m0 h.box.t0, k m0 h.box.t1, k m0 h.box.t2, k m0 h.box.t3, k m1 h.box.s0, k m1 h.box.s1, k m1 h.box.s2, k m2 h.box.m0, k m2 h.box.m1, k m2 h.box.m2, k m2 h.box.m3, k m2 h.box.m4, k m2 h.box.m5⟩, k m8 h.r3, k m8 h.r4⟩
theorem two_ones (x : Int) {v : Value} (h : v.oneCell' = true) : ∀ u ∈ [Value.int .i64 x, v], u.oneCell' = true := by
  intro u hu
  rcases List.mem_cons.1 hu with rfl | hu
  · rfl
  · rw [List.mem_singleton] at hu; subst hu; exact h

/-- What the answer hangs on. -/
theorem refused_0 {t : Tb} {s : Stt} {c : Cm} (h : stands t s = false) : decided t s c = ([], 3) := by
  unfold decided; rw [if_pos (by rw [unfit_0 h]; decide), unfit_0 h]
theorem refused_1 {t : Tb} {s : Stt} {c : Cm} (h : stands t s = true) (hr : ruleAt t c.rule = none) : decided t s c = ([], 1) := by
  unfold decided; rw [if_pos (by rw [unfit_1 h hr]; decide), unfit_1 h hr]
theorem refused_2 {t : Tb} {s : Stt} {c : Cm} {r : Rl} (h : stands t s = true) (hr : ruleAt t c.rule = some r) (q : ¬ ((c.args.length : Int) = r.args ∧ c.args.all isVal = true)) : decided t s c = ([], 2) := by
  have e : unfit t s c = 2 := by rw [unfit_some h hr, if_neg q]
  unfold decided; rw [if_pos (by rw [e]; decide), e]
theorem refused_3 {t : Tb} {s : Stt} {c : Cm} {r : Rl} (h : stands t s = true) (hr : ruleAt t c.rule = some r) (q : (c.args.length : Int) = r.args ∧ c.args.all isVal = true) (f : isFor t c.rule s.pos = false) : decided t s c = ([], 3) := by
  have e : unfit t s c = 3 := by rw [unfit_some h hr, if_pos q, if_pos f]
  unfold decided; rw [if_pos (by rw [e]; decide), e]
theorem refused_4 {t : Tb} {s : Stt} {c : Cm} {r : Rl} (h : stands t s = true) (hr : ruleAt t c.rule = some r) (q : (c.args.length : Int) = r.args ∧ c.args.all isVal = true) (f : isFor t c.rule s.pos = true) (x : 0 ≤ c.expect ∧ c.expect ≠ s.ver) : decided t s c = ([], 4) := by
  have e : unfit t s c = 4 := by rw [unfit_some h hr, if_pos q, if_neg (by rw [f]; decide), if_pos x]
  unfold decided; rw [if_pos (by rw [e]; decide), e]
theorem byRule_of {t : Tb} {s : Stt} {c : Cm} {r : Rl} (h : stands t s = true) (hr : ruleAt t c.rule = some r) (q : (c.args.length : Int) = r.args ∧ c.args.all isVal = true) (f : isFor t c.rule s.pos = true) (x : ¬ (0 ≤ c.expect ∧ c.expect ≠ s.ver)) : decided t s c = byRule s c r := by
  have e : unfit t s c = 0 := by rw [unfit_some h hr, if_pos q, if_neg (by rw [f]; decide), if_neg x]
  unfold decided; rw [if_neg (by rw [e]; decide), hr]; rfl

/-- What reads elsewhere than in the block that turned. -/
theorem sl_grown {w w' : World} {q : Option Nat} {v : Value} {xs : List Value} (h : Sl w v xs) (hg : w.grownBy w' q) (hne : 0 < xs.length → ∀ b, v.ownBlock = some b → q ≠ some b) : Sl w' v xs := by
  obtain ⟨a, cap, rfl, hc⟩ := h
  refine ⟨a, cap, rfl, fun j u hj => ?_⟩
  obtain ⟨b, off, ea, hcell⟩ := hc j u hj
  refine ⟨b, off, ea, World.grownBy.cell hg hcell ?_⟩
  subst ea
  exact fun e => hne (by have := (List.getElem?_eq_some_iff.1 hj).1; omega) b rfl e.symm
theorem sl_block {w : World} {v : Value} {xs : List Value} (h : Sl w v xs) (h0 : 0 < xs.length) : ∀ b, v.ownBlock = some b → b < w.heap.size := by
  obtain ⟨a, cap, rfl, hc⟩ := h
  obtain ⟨b, off, ea, hcell⟩ := hc 0 _ (List.getElem?_eq_getElem h0)
  subst ea
  intro b' e
  cases e
  exact World.block_lt_of_cell? w _ hcell

theorem sl_one {w : World} {v : Value} {xs : List Value} (h : Sl w v xs) : v.oneCell' = true := by obtain ⟨a, cap, rfl, _⟩ := h; rfl

theorem own_zero {w : World} {q : Nat} {e : TypeId} {v : Value} {n : Nat} {xs : List Value} (h : w.ownsRow q e 1 v (0 + n) ([] ++ xs)) : w.ownsRow q e 1 v n xs := by rwa [Nat.zero_add, List.nil_append] at h
theorem turned_new {wo W1 w3 : World} {q : Nat} (hB : Below wo.heap.size wo W1) (hg : W1.grownBy w3 (some q)) (hq : wo.heap.size = q) : Below wo.heap.size wo w3 := Tch.below (B := q) hg hB hB.size (Nat.le_of_eq hq)
theorem own_addr {w : World} {q : Nat} {e : TypeId} {a : Option Addr} {n c : Nat} {xs : List Value} (h : w.ownsRow q e 1 (.slice a n c) n xs) (h0 : 0 < n) : ∃ b, a = some ⟨b, 0, none⟩ ∧ q ≤ b := by
  rcases h.2 with ⟨e1, h1⟩ | ⟨g, cap, cur, e1, h2, _⟩
  · omega
  · cases e1; exact ⟨g, rfl, h2⟩

theorem nums_setl (l : List Int) (k : Nat) (x : Int) : nums (l.set k x) = (nums l).set k (.int .i64 x) := by unfold nums; rw [List.map_set]

def evR (L : List (Ev × Value)) : List (List Value) := L.map fun x => [.int .i64 x.1.pos, x.2]

/-- Events that were pushed, and the variables as they stand. -/
structure Sr (w : World) (M n0 : Nat) (L : List (Ev × Value)) (lv : Value) (now : List Int) (vv : Value) (wr : World) : Prop where
  own : wr.ownsRow M 108 2 lv L.length (evR L).flatten
  evs : ∀ x ∈ L, SlN wr x.2 x.1.vars ∧ x.2.oneCell' = true ∧ (0 < x.1.vars.length → ∀ b, x.2.ownBlock = some b → lv.ownBlock ≠ some b)
  var : SlN wr vv now ∧ vv.oneCell' = true ∧ (0 < now.length → ∀ b, vv.ownBlock = some b → lv.ownBlock ≠ some b)
  len : now.length = n0
  lo : w.heap.size ≤ M ∧ M ≤ wr.heap.size

section
variable {w wr wx : World} {M n0 : Nat} {L : List (Ev × Value)} {lv vv : Value} {now : List Int}
theorem Sr.below (h : Sr w M n0 L lv now vv wr) (hb : Below wr.heap.size wr wx) : Sr w M n0 L lv now vv wx :=
  ⟨own_kept h.own hb, fun x hx => ⟨Sl.below (h.evs x hx).1 hb, (h.evs x hx).2⟩, ⟨Sl.below h.var.1 hb, h.var.2⟩, h.len, h.lo.1, Nat.le_trans h.lo.2 hb.size⟩
theorem Sr.read (h : Sr w M n0 L lv now vv wr) : EvsIs wr lv (L.map (·.1)) := by
  refine slof_own h.own (by unfold evR; simp) (by simp) ?_ ?_
  · intro r hr
    obtain ⟨x, _, rfl⟩ := List.mem_map.1 hr
    rfl
  · intro j e cs he hcs
    unfold evR at hcs
    rw [List.getElem?_map] at hcs
    obtain ⟨x, hx, rfl⟩ := Option.map_eq_some_iff.1 hcs
    rw [List.getElem?_map, hx] at he
    cases he
    exact ⟨rfl, _, rfl, (h.evs x (List.mem_of_getElem? hx)).1⟩

/-- Other variables, in memory that is new: nothing of what was there has turned. -/
theorem Sr.turn (h : Sr w M n0 L lv now vv wr) (hb : Below wr.heap.size wr wx) {q : Nat} {nw : List Int} {nx : Value} (ho : wx.ownsRow q 3 1 nx n0 (nums nw)) (hq : wr.heap.size ≤ q) (h1 : nx.oneCell' = true) (hl : nw.length = n0) : Sr w M n0 L lv nw nx wx :=
  ⟨own_kept h.own hb, fun x hx => ⟨Sl.below (h.evs x hx).1 hb, (h.evs x hx).2⟩, ⟨Sl.owns ho, h1, fun h0 b hbk e => by
    have h2 := own_lt h.own b e
    have h3 : q ≤ b := owns_block ho b hbk
    omega⟩, hl, h.lo.1, Nat.le_trans h.lo.2 hb.size⟩

/-- One event more. -/
theorem Sr.push (h : Sr w M n0 L lv now vv wr) {b cap H : Nat} {pos : Int} {u : List Value} (hu : u = [.int .i64 pos, vv]) (hH : wr.heap.size = H) (ho : wx.ownsRow M 108 2 (.slice (some ⟨b, 0, none⟩) (L.length + 1) cap) (L.length + 1) ((evR L).flatten ++ u)) (hgr : wr.grownBy wx lv.ownBlock) (hbk : lv.ownBlock = some b ∨ b = H) :
    Sr w M n0 (L ++ [(⟨pos, now⟩, vv)]) (.slice (some ⟨b, 0, none⟩) (L.length + 1) cap) now vv wx := by
  have hap : ∀ (x : Value) (xs : List Int), SlN wr x xs → (0 < xs.length → ∀ c, x.ownBlock = some c → lv.ownBlock ≠ some c) → SlN wx x xs ∧ (0 < xs.length → ∀ c, x.ownBlock = some c → (Value.slice (some ⟨b, 0, none⟩) (L.length + 1) cap).ownBlock ≠ some c) := by
    intro x xs hx hne
    refine ⟨sl_grown hx hgr (fun h0 => hne (by simpa using h0)), fun h0 c hc e => ?_⟩
    have e2 : b = c := by cases e; rfl
    rcases hbk with h1 | h1
    · exact hne h0 c hc (by rw [h1, e2])
    · have := sl_block hx (by simpa using h0) c hc; omega
  obtain ⟨v1, v2⟩ := hap vv now h.var.1 h.var.2.2
  refine ⟨?_, ?_, ⟨v1, h.var.2.1, v2⟩, h.len, h.lo.1, Nat.le_trans h.lo.2 hgr.size⟩
  · rw [List.length_append, List.length_singleton]
    have e1 : (evR (L ++ [((⟨pos, now⟩ : Ev), vv)])).flatten = (evR L).flatten ++ u := by
      unfold evR; rw [List.map_append, List.flatten_append, hu]; simp
    rw [e1]; exact ho
  · intro x hx
    rcases List.mem_append.1 hx with hx | hx
    · obtain ⟨x1, x2, x3⟩ := h.evs x hx
      obtain ⟨y1, y2⟩ := hap x.2 x.1.vars x1 x3
      exact ⟨y1, x2, y2⟩
    · rw [List.mem_singleton] at hx
      subst hx
      exact ⟨v1, h.var.2.1, v2⟩
end

/-- What the reference answers. -/
def RefOut (o : List Ev × Int) (w : World) (z : Ending) (w' : World) : Prop := ∃ v, z = .returned (.tuple #[v, .int .i64 o.2]) ∧ EvsIs w' v o.1 ∧ Below w.heap.size w w'
theorem evs_none (w : World) : EvsIs w (.slice none 0 0) [] := SlOf.nil w 2 _

set_option maxHeartbeats 8000000 in
theorem refDecide_any (t : Tb) (s : Stt) (c : Cm) (c0 c1 c2 c3 v u : Value) (w : World) (hchk : chk5 t = (0, 0, 0, 0)) (h : TbIs w [c0, c1, c2, c3] t) (hw : TbWf t) (hs : SlN w v s.vars) (hl : s.vars.length ≤ 9223372036854775807) (hc : SlN w u c.args) (hcw : CmWf c) :
    Calls Tryz.prog 20 #[.agg #[c0, c1, c2, c3], .agg #[.int .i64 s.pos, .int .i64 s.ver, v], .agg #[.int .i64 c.client, .int .i64 c.seq, sv c.stream, .int .i64 c.rule, u, .int .i64 c.expect]] w (RefOut (decided t s c) w) := by
  have HRT := Lib.hid (fun (W : World) (hb : Below w.heap.size w W) => refRight7_any t s c0 c1 c2 c3 v W (h.below hb) hw (Sl.below hs hb) hl)
  have HFR := Lib.hid (fun (W : World) (hb : Below w.heap.size w W) => refFor_any t c0 c1 c2 c3 c.rule s.pos W (h.below hb) hw)
  have HAV := Lib.hid (fun (W : World) (hb : Below w.heap.size w W) => all_any c.args u W (Sl.below hc hb) hcw.2.2.2.2.1.2)
  have HV := Lib.hid hs
  have HA := Lib.hid hc
  have HAL := Lib.hid hcw.2.2.2.2.1.2
  have HRW := Lib.hid hw.2.2.2
  have HCH := Lib.hid hchk
  obtain ⟨au, capu, rfl⟩ := sl_len hc
  rw [List.length_map] at HAV HA ⊢
  have hx : ∃ a3 cap3, c3 = .slice a3 t.rules.length cap3 ∧ SlOf w 5 (RlIs w) c3 t.rules := by
    obtain ⟨d0, d1, d2, d3, e, h0, h1, h2, h3⟩ := h
    cases e
    have h3' := h3
    obtain ⟨a3, cap3, e, _⟩ := h3
    exact ⟨a3, cap3, e, h3'⟩
  obtain ⟨a3, cap3, rfl, h3⟩ := hx
  have H3 := Lib.hid h3
  have HD0 := Lib.hid (refused_0 (t := t) (s := s) (c := c))
  have HD1 := Lib.hid (refused_1 (t := t) (s := s) (c := c))
  have HD2 := Lib.hid (fun (h : stands t s = true) (r : Rl) (hr : ruleAt t c.rule = some r) => And.intro (refused_2 (t := t) (s := s) (c := c) h hr) (And.intro (refused_3 h hr) (And.intro (refused_4 h hr) (byRule_of h hr))))
  obtain ⟨p, hp⟩ : ∃ N, s.pos = N := ⟨_, rfl⟩
  obtain ⟨r, hr⟩ : ∃ N, s.ver = N := ⟨_, rfl⟩
  obtain ⟨cl, hcl⟩ : ∃ N, c.client = N := ⟨_, rfl⟩
  obtain ⟨sq, hsq⟩ : ∃ N, c.seq = N := ⟨_, rfl⟩
  obtain ⟨sr, hsr⟩ : ∃ N, sv c.stream = N := ⟨_, rfl⟩
  obtain ⟨rl, hrl⟩ : ∃ N, c.rule = N := ⟨_, rfl⟩
  obtain ⟨ex, hex⟩ : ∃ N, c.expect = N := ⟨_, rfl⟩
  obtain ⟨R, hR⟩ : ∃ N, t.rules.length = N := ⟨_, rfl⟩
  obtain ⟨n, hn⟩ : ∃ N, c.args.length = N := ⟨_, rfl⟩
  have HR := Lib.hid hR
  have HPP := Lib.hid hp
  rw [hp, hr] at HRT
  rw [hrl, hp] at HFR
  rw [hR] at HRT HFR H3
  rw [hn] at HAV HA
  rw [hrl] at HD1
  rw [hrl, hn, hp, hex, hr] at HD2
  rw [hp, hr, hcl, hsq, hsr, hrl, hex, hR, hn]
  obtain ⟨Wz, hWz⟩ : ∃ Wz, ((w.alloc (.cells #[c0, c1, c2, .slice a3 R cap3] 26)).alloc (.cells #[.int .i64 p, .int .i64 r, v] 41)).alloc (.cells #[.int .i64 cl, .int .i64 sq, sr, .int .i64 rl, .slice au n capu, .int .i64 ex] 43) = Wz := ⟨_, rfl⟩
  have hbox := Box3.new w c0 c1 c2 (.slice a3 R cap3) p r v cl sq sr rl (.slice au n capu) ex
  rw [hWz] at hbox
  have hbz : Below w.heap.size w Wz := by
    rw [← hWz]
    exact ((below_alloc w _).alloc (below_alloc w _).size _).alloc (Nat.le_trans (below_alloc w _).size (below_alloc _ _).size) _
  obtain ⟨g1, hg1⟩ : ∃ g, (w.alloc (.cells #[c0, c1, c2, .slice a3 R cap3] 26)).heap.size = g := ⟨_, rfl⟩
  obtain ⟨g2, hg2⟩ : ∃ g, ((w.alloc (.cells #[c0, c1, c2, .slice a3 R cap3] 26)).alloc (.cells #[.int .i64 p, .int .i64 r, v] 41)).heap.size = g := ⟨_, rfl⟩
  rw [hg1, hg2] at hbox
  have HBX := Lib.hid hbox
  have HBZ := Lib.hid hbz
  have HM1 := Lib.hid (HRT.out Wz hbz)
  have q0 := hbox.t0
  have q1 := hbox.t1
  have q2 := hbox.t2
  have q3 := hbox.t3
  have s0 := hbox.s0
  have s1 := hbox.s1
  have s2 := hbox.s2
  obtain ⟨B, hB⟩ : ∃ B, stands t s = B := ⟨_, rfl⟩
  rw [hB] at HM1 HD0 HD1 HD2
  have HBB := Lib.hid hB
  obtain ⟨D, hD⟩ : ∃ D, decided t s c = D := ⟨_, rfl⟩
  rw [hD] at HD0 HD1 HD2
  rw [hD]
  clear h hw hs hl hc hcw h3 hp hr hcl hsq hsr hrl hex hR hn hbox hbz hB HRT hD hchk
  go_enter Tryz.func20, Tryz.ntmps20
  go_wp2_with fail
  refine HM1.out.mono ?_
  rintro _ w1 ⟨rfl, hb1⟩
  have HX1 := Lib.hid (HBX.out.below hb1)
  have HB1 := Lib.hid (HBZ.out.trans (hb1.mono HBZ.out.size))
  clear hb1 q0 q1 q2 q3 s0 s1 s2 HM1 HBX HBZ hWz hg1 hg2
  cases B with
  | false =>
    have hd := HD0.out rfl
    subst hd
    go_wp2_with fail
    go_ret2
    exact ⟨_, rfl, evs_none _, HB1.out⟩
  | true =>
    have q3 := HX1.out.t3
    have e3 := HX1.out.m3
    by_cases x0 : rl < 0
    · have hu := HD1.out rfl (by unfold ruleAt; rw [if_neg (by omega)])
      subst hu
      have b0 : decide (rl < 0) = true := decide_eq_true x0
      clear HD1 HD2 HD0
      go_wp2_with fail
      go_ret2
      exact ⟨_, rfl, evs_none _, HB1.out⟩
    · have b0 : decide (rl < 0) = false := decide_eq_false x0
      obtain ⟨m, rfl⟩ : ∃ m : Nat, rl = (m : Int) := ⟨rl.toNat, by omega⟩
      by_cases x1 : R ≤ m
      · have hu := HD1.out rfl (by unfold ruleAt; rw [if_pos (by omega), Int.toNat_natCast]; exact List.getElem?_eq_none (by have := HR.out; omega))
        subst hu
        have b1 : decide (R ≤ m) = true := decide_eq_true (by omega)
        clear HD1 HD2 HD0 x0
        go_wp2_with fail
        go_ret2
        exact ⟨_, rfl, evs_none _, HB1.out⟩
      · have b1 : decide (R ≤ m) = false := decide_eq_false (by omega)
        obtain ⟨r0, hr0⟩ : ∃ r0, t.rules[m]? = some r0 := ⟨_, List.getElem?_eq_getElem (by have := HR.out; omega)⟩
        have hu := HD2.out rfl r0 (by unfold ruleAt; rw [if_pos (by omega), Int.toNat_natCast]; exact hr0)
        have HU := Lib.hid hu
        clear hu HD0 HD1 HD2
        obtain ⟨b, off, rfl, cs, -, hcs, hcell⟩ := H3.out.at hr0
        obtain ⟨f_, g_, s_, rfl, hf_, hg_, hs_⟩ := hcs.open
        have hrw := HRW.out.1 r0 (List.mem_of_getElem? hr0)
        have HRWF := Lib.hid hrw
        have HFIRM := Lib.hid (firm_of HCH.out hr0)
        have HGS := Lib.hid hg_
        have HSS := Lib.hid hs_
        obtain ⟨af, capf, rfl⟩ := sl_len hf_
        obtain ⟨ag, capg, rfl, -⟩ := hg_.open
        obtain ⟨as_, caps_, rfl, -⟩ := hs_.open
        obtain ⟨nf, hnf⟩ : ∃ k, (List.map (fun n => Value.int IntKind.i64 n) r0.from_).length = k := ⟨_, rfl⟩
        obtain ⟨ng, hng⟩ : ∃ k, r0.guards.length = k := ⟨_, rfl⟩
        obtain ⟨ns, hns⟩ : ∃ k, r0.steps.length = k := ⟨_, rfl⟩
        obtain ⟨nm, hnm⟩ : ∃ k, str r0.name = k := ⟨_, rfl⟩
        obtain ⟨ra, hra⟩ : ∃ k, r0.args = k := ⟨_, rfl⟩
        have HNG := Lib.hid hng
        have HNS := Lib.hid hns
        rw [hnf, hng, hns, hra] at hcell
        rw [hng] at HGS
        rw [hns] at HSS
        rw [hra] at HU
        have hcell' : ∀ (i : Nat) (c : Value), [Value.string nm, .int .i64 ra, .slice af nf capf, .slice ag ng capg, .slice as_ ns caps_][i]? = some c → w1.cell? ⟨b, off + m * 5 + i, none⟩ = some c := by
          intro i c hi
          have h1 := hcell i c (by unfold sv; rw [hnm]; exact hi)
          exact (HB1.out.cell (p := ⟨b, off + m * 5 + i, none⟩) (World.block_lt_of_cell? w _ h1)).trans h1
        have y0 : w1.cell? ⟨b, off + m * 5, none⟩ = some (.string nm) := hcell' 0 _ rfl
        have y1 := hcell' 1 _ rfl
        have y2 := hcell' 2 _ rfl
        have y3 := hcell' 3 _ rfl
        have y4 := hcell' 4 _ rfl
        obtain ⟨W3, hW3⟩ : ∃ W3, w1.alloc (.cells #[.string nm, .int .i64 ra, .slice af nf capf, .slice ag ng capg, .slice as_ ns caps_] 57) = W3 := ⟨_, rfl⟩
        obtain ⟨g8, hg8⟩ : ∃ g, w1.heap.size = g := ⟨_, rfl⟩
        have hB3 : Below w1.heap.size w1 W3 := by rw [← hW3]; exact below_alloc _ _
        have z1 : W3.cell? ⟨g8, 1, none⟩ = some (.int .i64 ra) := by rw [← hW3, ← hg8]; exact box_cell _ _ _ _ _ rfl
        have z3 : W3.cell? ⟨g8, 3, none⟩ = some (.slice ag ng capg) := by rw [← hW3, ← hg8]; exact box_cell _ _ _ _ _ rfl
        have z4 : W3.cell? ⟨g8, 4, none⟩ = some (.slice as_ ns caps_) := by rw [← hW3, ← hg8]; exact box_cell _ _ _ _ _ rfl
        have HRB := Lib.hid (show Rb w w.heap.size g1 g2 g8 c0 c1 c2 (.slice (some ⟨b, off, none⟩) R cap3) p r v cl sq sr (m : Int) (.slice au n capu) ex (.slice ag ng capg) (.slice as_ ns caps_) W3 from ⟨HB1.out.trans (hB3.mono HB1.out.size), HX1.out.below hB3, z3, z4⟩)
        have e4 := HRB.out.box.m4
        have hmI : (m : Int) < (R : Int) := by omega
        obtain ⟨V, hV⟩ : ∃ V, c.args.all isVal = V := ⟨_, rfl⟩
        rw [hV] at HU
        have hav := HAV.out W3 HRB.out.bel
        rw [hV] at hav
        have HAV3 := Lib.hid hav
        clear hcell hcell' hcs H3 hr0 hV HAV hf_ hg_ hs_ hnf hng hns hnm hra hrw hB3 hav z3 z4 x0 x1
        by_cases k0 : (n : Int) = ra
        rotate_left
        · have k1 : ((n : Int) == ra) = false := beq_eq_false_iff_ne.2 k0
          have hu := HU.out.1 (fun q => k0 q.1)
          subst hu
          clear HU
          go_wp2_with fail
          go_ret2
          exact ⟨_, rfl, evs_none _, HRB.out.bel⟩
        have k1 : ((n : Int) == ra) = true := by rw [beq_iff_eq]; exact k0
        subst k0
        cases V with
        | false =>
          have hu := HU.out.1 (fun q => by have := q.2; cases this)
          subst hu
          clear HU
          go_wp2_with fail
          refine HAV3.out.mono ?_
          rintro _ w4 ⟨rfl, rfl⟩
          go_wp2_with fail
          go_ret2
          exact ⟨_, rfl, evs_none _, HRB.out.bel⟩
        | true =>
          have q0 := HRB.out.box.t0
          have q1 := HRB.out.box.t1
          have q2 := HRB.out.box.t2
          have q3' := HRB.out.box.t3
          have t0 := HRB.out.box.s0
          have e3' := HRB.out.box.m3
          obtain ⟨F, hF⟩ : ∃ F, isFor t (m : Int) p = F := ⟨_, rfl⟩
          rw [hF] at HU HFR
          have HFR3 := Lib.hid (HFR.out W3 HRB.out.bel)
          clear hF
          go_wp2_with fail
          refine HAV3.out.mono ?_
          rintro _ w4 ⟨rfl, rfl⟩
          go_wp2_with fail
          refine HFR3.out.mono ?_
          rintro _ w5 ⟨rfl, hb5⟩
          have HRB5 := Lib.hid (HRB.out.below hb5)
          clear hb5 q0 q1 q2 q3' t0 e3' z1 e4 hW3 hg8 y0 y1 y2 y3 y4 q3 e3 hmI k1 b0 b1
          cases F with
          | false =>
            have hu := (HU.out.2.1 (by simp) (by simp))
            subst hu
            clear HU
            go_wp2_with fail
            go_ret2
            exact ⟨_, rfl, evs_none _, HRB5.out.bel⟩
          | true =>
            have e5 := HRB5.out.box.m5
            have s1 := HRB5.out.box.s1
            by_cases x5 : 0 ≤ ex ∧ ex ≠ r
            · have hu := (HU.out.2.2.1 (by simp) (by simp) x5)
              subst hu
              have d0 : decide (0 ≤ ex) = true := decide_eq_true x5.1
              have d1 : (ex == r) = false := beq_eq_false_iff_ne.2 x5.2
              clear HU x5
              go_wp2_with fail
              go_ret2
              exact ⟨_, rfl, evs_none _, HRB5.out.bel⟩
            have hu := (HU.out.2.2.2 (by simp) (by simp) x5)
            have HD := Lib.hid hu
            have HX := Lib.hid (fun (W : World) => And.intro (byRule_no (s := s) (c := c) (r := r0)) (And.intro (byRule_none (s := s) (c := c) (r := r0)) (fun h (l : List Ev) hs => byRule_some (s := s) (c := c) (r := r0) h (l := l) hs)))
            clear HU hu
            go_upto_region 10 with fail
            go_cut [69] from 60 to 68 (fun s69 wx => s69 = .bool false ∧ w5 = wx)
            case first =>
              by_cases y5 : 0 ≤ ex
              · have d0 : decide (0 ≤ ex) = true := decide_eq_true y5
                have y6 : ex = r := by
                  rcases Decidable.em (ex = r) with h | h
                  · exact h
                  · exact absurd ⟨y5, h⟩ x5
                subst y6
                clear x5
                go_wp2_with fail
                go_meet
                exact ⟨by simp, rfl⟩
              · have d0 : decide (0 ≤ ex) = false := decide_eq_false y5
                clear x5
                go_wp2_with fail
                go_meet
                exact ⟨by simp, rfl⟩
            case rest =>
              obtain ⟨w6, rfl⟩ : ∃ W : World, W = wc := ⟨_, rfl⟩
              obtain ⟨rfl, rfl⟩ := hcut
              clear x5 e5 s1
              have r3 := HRB5.out.r3
              go_wp2_with fail
              clear r3
              go_loopw [9] (fun k wr => ∃ (K : Nat), k = .int .i64 (K : Int) ∧ K ≤ ng ∧ Hid (Rb w w.heap.size g1 g2 g8 c0 c1 c2 (.slice (some ⟨b, off, none⟩) R cap3) p r v cl sq sr (m : Int) (.slice au n capu) ex (.slice ag ng capg) (.slice as_ ns caps_) wr) ∧ Hid (firstCode (guardCode s.vars c.args) (r0.guards.drop K) = firstCode (guardCode s.vars c.args) r0.guards)) (fun k _ => ng - (intOf k).toNat)
              case atStart => exact ⟨0, rfl, Nat.zero_le _, HRB5, Lib.hid rfl⟩
              case round =>
                obtain ⟨K, rfl, hK, HR6, HI⟩ := hrel
                by_cases hlt : K < ng
                · have hltI : (K : Int) < (ng : Int) := by omega
                  obtain ⟨g, hg⟩ : ∃ g, r0.guards[K]? = some g := ⟨_, List.getElem?_eq_getElem (by rw [HNG.out]; exact hlt)⟩
                  obtain ⟨gb, go_, ea, cs, -, ⟨gt, rfl, hgt⟩, hc⟩ := HGS.out.at hg
                  subst ea
                  have hb6 := HR6.out.bel
                  have k0 : wr.cell? ⟨gb, go_ + K * 2, none⟩ = some (.int .i64 g.code) := (hb6.cell (p := ⟨gb, go_ + K * 2, none⟩) (World.block_lt_of_cell? w _ (hc 0 _ rfl))).trans (hc 0 _ rfl)
                  have k1 : wr.cell? ⟨gb, go_ + K * 2 + 1, none⟩ = some gt := (hb6.cell (p := ⟨gb, go_ + K * 2 + 1, none⟩) (World.block_lt_of_cell? w _ (hc 1 _ rfl))).trans (hc 1 _ rfl)
                  have hgw := HRWF.out.2.2.2.1.1 g (List.mem_of_getElem? hg)
                  have hfc := firstCode_at (guardCode s.vars c.args) r0.guards K g hg
                  have hst := stands_len HBB.out
                  have hev := fun (W : World) (hb : Below wr.heap.size wr W) => refEval_any g.test s.vars c.args gt v (.slice au n capu) W (hgt.below (hb6.trans (hb.mono hb6.size))) (Sl.below HV.out (hb6.trans (hb.mono hb6.size))) (Sl.below HA.out (hb6.trans (hb.mono hb6.size))) hgw.2.2 (by have := (fine_of HCH.out).vars; omega) HAL.out
                  obtain ⟨y, hy⟩ : ∃ y, guardCode s.vars c.args g = y := ⟨_, rfl⟩
                  have hgy : y = if (eval g.test s.vars c.args).2 ≠ 0 then 5 else if (eval g.test s.vars c.args).1 = 0 then g.code else 0 := by rw [← hy]; rfl
                  obtain ⟨⟨xn, xe⟩, hxe⟩ : ∃ q, eval g.test s.vars c.args = q := ⟨_, rfl⟩
                  rw [hxe] at hev hgy
                  rw [hy] at hfc
                  obtain ⟨code, hcode⟩ : ∃ code, g.code = code := ⟨_, rfl⟩
                  rw [hcode] at k0 hgy
                  have HCD := Lib.hid (show code ≠ 0 by have := HFIRM.out.codes g (List.mem_of_getElem? hg); omega)
                  have HGY := Lib.hid hgy
                  have HFC := Lib.hid hfc
                  have HK0 := Lib.hid k0
                  have HEV := Lib.hid (fun (W : World) (hS : W.cell? ⟨g8, 3, none⟩ = some (.slice (some ⟨gb, go_, none⟩) ng capg) ∧ W.cell? ⟨gb, go_ + K * 2 + 1, none⟩ = some gt ∧ W.cell? ⟨g1, 2, none⟩ = some v ∧ W.cell? ⟨g2, 4, none⟩ = some (.slice au n capu) ∧ Below wr.heap.size wr W) => (hev W hS.2.2.2.2).mono (fun z w' (hz : z = .returned (.tuple #[.int .i64 xn, .int .i64 xe]) ∧ Below W.heap.size W w') => show z = .returned (.tuple #[.int .i64 xn, .int .i64 xe]) ∧ w'.cell? ⟨g8, 3, none⟩ = some (.slice (some ⟨gb, go_, none⟩) ng capg) ∧ w'.cell? ⟨gb, go_ + K * 2 + 1, none⟩ = some gt ∧ w'.cell? ⟨g1, 2, none⟩ = some v ∧ w'.cell? ⟨g2, 4, none⟩ = some (.slice au n capu) ∧ Below wr.heap.size wr w' from ⟨hz.1, kept_cell hz.2 hS.1, kept_cell hz.2 hS.2.1, kept_cell hz.2 hS.2.2.1, kept_cell hz.2 hS.2.2.2.1, hS.2.2.2.2.trans (hz.2.mono hS.2.2.2.2.size)⟩))
                  have HSD := Lib.hid (show wr.drew.cell? ⟨g8, 3, none⟩ = some (.slice (some ⟨gb, go_, none⟩) ng capg) ∧ wr.drew.cell? ⟨gb, go_ + K * 2 + 1, none⟩ = some gt ∧ wr.drew.cell? ⟨g1, 2, none⟩ = some v ∧ wr.drew.cell? ⟨g2, 4, none⟩ = some (.slice au n capu) ∧ Below wr.heap.size wr wr.drew from ⟨HR6.out.r3, k1, HR6.out.box.s2, HR6.out.box.m4, (Below.refl _ _).drew⟩)
                  have r3 := HR6.out.r3
                  have hwK := wrap_next K (by have := HFIRM.out.few; have := HNG.out; omega)
                  clear hg hc hgt hgw hfc hst hev hy hgy hxe hcode k0 k1 hb6
                  go_upto_region 15 with fail
                  have hS0 : wr.drew.cell? ⟨g8, 3, none⟩ = some (.slice (some ⟨gb, go_, none⟩) ng capg) ∧ wr.drew.cell? ⟨gb, go_ + K * 2 + 1, none⟩ = some gt ∧ wr.drew.cell? ⟨g1, 2, none⟩ = some v ∧ wr.drew.cell? ⟨g2, 4, none⟩ = some (.slice au n capu) ∧ Below wr.heap.size wr wr.drew := HSD.out
                  go_region_held3 (fun Wz => Wz.cell? ⟨g8, 3, none⟩ = some (.slice (some ⟨gb, go_, none⟩) ng capg) ∧ Wz.cell? ⟨gb, go_ + K * 2 + 1, none⟩ = some gt ∧ Wz.cell? ⟨g1, 2, none⟩ = some v ∧ Wz.cell? ⟨g2, 4, none⟩ = some (.slice au n capu) ∧ Below wr.heap.size wr Wz) (first | exact hS0 | assumption) (first | (go_at_call 56; ((with_reducible refine (HEV.out _ ?_).mono ?_); (first | exact hS0 | assumption)); rintro _ w7 ⟨rfl, hS1⟩))
                  have hb7 := hS1.2.2.2.2
                  have HR7 := Lib.hid (HR6.out.below hb7)
                  have k0 := kept_cell hb7 HK0.out
                  have r3 := HR7.out.r3
                  clear hS1 hS0 hb7 HSD HEV
                  by_cases x7 : xe = 0
                  rotate_left
                  · have b7 : (xe == 0) = false := beq_eq_false_iff_ne.2 x7
                    have hy5 : y = 5 := by rw [HGY.out, if_pos x7]
                    have hrf : refusal s.vars c.args r0.guards = 5 := by rw [refusal_code, ← HI.out, HFC.out, hy5]; rfl
                    have hdd := HD.out.trans (byRule_no (by rw [hrf]; decide))
                    rw [hrf] at hdd
                    have HDD := Lib.hid hdd
                    clear x7 hy5 hrf hdd k0 r3
                    go_wp2_with fail
                    go_ret2
                    exact ⟨.slice none 0 0, by rw [HDD.out]; rfl, by rw [HDD.out]; exact evs_none _, HR7.out.bel⟩
                  have b7 : (xe == 0) = true := beq_iff_eq.2 x7
                  by_cases x8 : xn = 0
                  · have b8 : (xn == 0) = true := beq_iff_eq.2 x8
                    have hyc : y = code := by rw [HGY.out, if_neg (by rw [x7]; decide), if_pos x8]
                    have hne : code ≠ 0 := HCD.out
                    have hrf : refusal s.vars c.args r0.guards = code := by rw [refusal_code, ← HI.out, HFC.out, hyc, if_pos hne]
                    have hdd := HD.out.trans (byRule_no (by rw [hrf]; exact hne))
                    rw [hrf] at hdd
                    have HDD := Lib.hid hdd
                    clear x7 x8 hyc hne hrf hdd
                    go_upto_region 19 with fail
                    go_quiet (fail)
                    go_wp2_with fail
                    go_ret2
                    exact ⟨.slice none 0 0, by rw [HDD.out]; rfl, by rw [HDD.out]; exact evs_none _, below_drewN HR7.out.bel _⟩
                  have b8 : (xn == 0) = false := beq_eq_false_iff_ne.2 x8
                  have hy0 : y = 0 := by rw [HGY.out, if_neg (by rw [x7]; decide), if_neg x8]
                  have HJ := Lib.hid (show firstCode (guardCode s.vars c.args) (r0.guards.drop (K + 1)) = firstCode (guardCode s.vars c.args) r0.guards by rw [← HI.out, HFC.out, hy0]; rfl)
                  clear x7 x8 hy0 k0 r3
                  go_wp2_with fail
                  go_round
                  case rel => exact ⟨K + 1, by go_num, by omega, HR7, HJ⟩
                  case measure => simp [intOf]; omega
                · have hltI : ¬ (K : Int) < (ng : Int) := by omega
                  have hrf : refusal s.vars c.args r0.guards = 0 := by
                    rw [refusal_code, ← HI.out, List.drop_of_length_le (by have := HNG.out; omega)]; rfl
                  have HRF := Lib.hid hrf
                  have r3 := HR6.out.r3
                  have s0 := HR6.out.box.s0
                  have s2 := HR6.out.box.s2
                  clear hrf
                  go_upto_region 21 with fail
                  go_quiet (fail)
                  rename_i nq
                  obtain ⟨wq, hwq⟩ : ∃ W, wr.drewN nq = W := ⟨_, rfl⟩
                  rw [hwq]
                  have HRQ := Lib.hid (show Rb w w.heap.size g1 g2 g8 c0 c1 c2 (.slice (some ⟨b, off, none⟩) R cap3) p r v cl sq sr (m : Int) (.slice au n capu) ex (.slice ag ng capg) (.slice as_ ns caps_) wq by rw [← hwq]; exact HR6.out.below (below_drewN (Below.refl _ _) nq))
                  clear hwq r3 s0 s2 HR6 HI
                  obtain ⟨n0, hn0⟩ : ∃ n0, s.vars.length = n0 := ⟨_, rfl⟩
                  have hlen := stands_len HBB.out
                  have hn6 : n0 ≤ 6 := by rw [← hn0, hlen.1]; exact (fine_of HCH.out).vars
                  have hsr0 : Sr w wq.heap.size n0 [] (.slice none 0 0) s.vars v wq := ⟨⟨rfl, Or.inl ⟨rfl, rfl⟩⟩, (fun x hx => by cases hx), ⟨Sl.below HV.out HRQ.out.bel, sl_one HV.out, fun _ _ _ h => by cases h⟩, hn0, HRQ.out.bel.size, Nat.le_refl _⟩
                  have HSR := Lib.hid hsr0
                  have HN6 := Lib.hid hn6
                  have HTV := Lib.hid (show (t.vars.length : Int) = n0 by rw [← hn0, hlen.1])
                  obtain ⟨i0, hi, hz0, hz1, hz2⟩ := info3 int_infos
                  obtain ⟨i1, hj, hy0, hy1, hy2⟩ := info3 ev_infos
                  obtain ⟨M, hM⟩ : ∃ M, wq.heap.size = M := ⟨_, rfl⟩
                  rw [hM] at HSR
                  have r4 := HRQ.out.r4
                  have HGM := Lib.hid (show w.heap.size < M ∧ g1 < M ∧ g2 < M ∧ g8 < M by rw [← hM]; exact ⟨World.block_lt_of_cell? _ _ HRQ.out.box.t0, World.block_lt_of_cell? _ _ HRQ.out.box.s0, World.block_lt_of_cell? _ _ HRQ.out.box.m0, World.block_lt_of_cell? _ _ HRQ.out.r3⟩)
                  clear hsr0 hn6 hlen hn0 hM
                  go_wp2_with fail
                  clear r4
                  go_loopw [12, 13, 14, 15] (fun lv ps vv k wr => ∃ (K : Nat) (L : List (Ev × Value)) (pos : Int) (now : List Int), k = .int .i64 (K : Int) ∧ ps = .int .i64 pos ∧ K ≤ ns ∧ L.length = K ∧ Hid (Rb w w.heap.size g1 g2 g8 c0 c1 c2 (.slice (some ⟨b, off, none⟩) R cap3) p r v cl sq sr (m : Int) (.slice au n capu) ex (.slice ag ng capg) (.slice as_ ns caps_) wr) ∧ Hid (Sr w M n0 L lv now vv wr) ∧ Hid (stepsDo c.args r0.steps p s.vars = match stepsDo c.args (r0.steps.drop K) pos now with | none => none | some l => some (L.map (·.1) ++ l))) (fun _ _ _ k _ => ns - (intOf k).toNat)
                  case atStart => exact ⟨0, [], p, s.vars, rfl, rfl, Nat.zero_le _, rfl, HRQ, HSR, Lib.hid (by rw [List.drop_zero]; cases stepsDo c.args r0.steps p s.vars <;> rfl)⟩
                  case round =>
                    obtain ⟨K2, L, pos, now, rfl, rfl, hK2, hLK, HR7, HS7, HI7⟩ := hrel
                    have r4 := HR7.out.r4
                    by_cases hlt2 : K2 < ns
                    rotate_left
                    · have hltJ : ¬ (K2 : Int) < (ns : Int) := by omega
                      have hfin : stepsDo c.args r0.steps s.pos s.vars = some (L.map (·.1)) := by
                        rw [HPP.out, HI7.out, List.drop_of_length_le (by have := HNS.out; omega)]
                        show some (L.map (·.1) ++ []) = _
                        rw [List.append_nil]
                      have HDD := Lib.hid (HD.out.trans (byRule_some HRF.out hfin))
                      clear hfin
                      go_wp2_with fail
                      go_ret2
                      exact ⟨_, by rw [HDD.out]; rfl, by rw [HDD.out]; exact HS7.out.read, HR7.out.bel⟩
                    have hltJ : (K2 : Int) < (ns : Int) := by omega
                    obtain ⟨wo, rfl⟩ : ∃ W, W = wr := ⟨_, rfl⟩
                    obtain ⟨st, hst⟩ : ∃ st, r0.steps[K2]? = some st := ⟨_, List.getElem?_eq_getElem (by rw [HNS.out]; exact hlt2)⟩
                    obtain ⟨sb, so, ea, cs, -, ⟨cv, rfl, hcv⟩, hc⟩ := HSS.out.at hst
                    subst ea
                    obtain ⟨a0, cap0, hce, -⟩ := hcv.open
                    obtain ⟨nz, hnz⟩ : ∃ k, st.sets.length = k := ⟨_, rfl⟩
                    rw [hnz] at hce
                    subst hce
                    have HCV := Lib.hid hcv
                    have HNZ := Lib.hid hnz
                    obtain ⟨T, hT⟩ : ∃ T, st.to = T := ⟨_, rfl⟩
                    have hb7 := HR7.out.bel
                    have k0 : wo.cell? ⟨sb, so + K2 * 2, none⟩ = some (.slice a0 nz cap0) := (hb7.cell (p := ⟨sb, so + K2 * 2, none⟩) (World.block_lt_of_cell? w _ (hc 0 _ rfl))).trans (hc 0 _ rfl)
                    have k1 : wo.cell? ⟨sb, so + K2 * 2 + 1, none⟩ = some (.int .i64 T) := by rw [← hT]; exact (hb7.cell (p := ⟨sb, so + K2 * 2 + 1, none⟩) (World.block_lt_of_cell? w _ (hc 1 _ rfl))).trans (hc 1 _ rfl)
                    have hsm := List.mem_of_getElem? hst
                    have HSP := Lib.hid (HRWF.out.2.2.2.2.1 st hsm)
                    have HVS := Lib.hid (HFIRM.out.sets st hsm)
                    have hsd := stepsDo_at c.args r0.steps K2 st pos now hst
                    have hgo : goTo st pos = if 0 ≤ T then T else pos := by unfold goTo; rw [hT]
                    obtain ⟨gp, hgp⟩ : ∃ gp, goTo st pos = gp := ⟨_, rfl⟩
                    rw [hgp] at hsd hgo
                    have HSD := Lib.hid hsd
                    have HGO := Lib.hid hgo
                    obtain ⟨av, kv, rfl⟩ := sl_len HS7.out.var.1
                    have e1 : (List.map (fun n => Value.int IntKind.i64 n) now).length = n0 := by rw [List.length_map]; exact HS7.out.len
                    rw [e1] at HS7 ⊢
                    obtain ⟨q, hq⟩ : ∃ q, wo.heap.size = q := ⟨_, rfl⟩
                    obtain ⟨W1, hW1⟩ : ∃ W1, wo.alloc (.cells #[] 3) = W1 := ⟨_, rfl⟩
                    have hB1 : Below wo.heap.size wo W1 := by rw [← hW1]; exact below_alloc _ _
                    have hown : W1.ownsRow q 3 1 (.slice (some ⟨q, 0, none⟩) 0 0) 0 [] := by rw [← hW1, ← hq]; exact own_empty5 wo wo.heap.size 3 1 (Nat.le_refl _)
                    have HOWN := Lib.hid hown
                    have HSL := Lib.hid (show Sl W1 (.slice av n0 kv) (nums now) from Sl.below HS7.out.var.1 hB1)
                    have HL0 := Lib.hid (show (nums now).length = n0 * 1 by rw [nums_length, HS7.out.len, Nat.mul_one])
                    have HL1 := Lib.hid (show 0 + n0 ≤ maxLen by have := HN6.out; unfold maxLen; omega)
                    have HL2 := Lib.hid (show (0 + n0) * 8 ≤ 140737488355328 by have := HN6.out; omega)
                    have HL3 := Lib.hid (show q ≤ W1.heap.size by rw [← hq]; exact hB1.size)
                    have HB1' := Lib.hid hB1
                    have HQ := Lib.hid hq
                    have HCL := Lib.hid (And.intro k0 k1)
                    clear hst hcv hc hnz hT hsm hsd hgo hgp hb7 e1 hB1 hown k0 k1
                    go_wp2_with (at_builtin; go_must (refine wpList_append_all rfl _ _ 23 rfl q 3 i0 (.int .i64 0) 1 8 Tryz.underlying23 hi hz0 hz1 hz2 rfl (by decide) _ 0 [] rfl HOWN.out av n0 kv (nums now) rfl HL0.out (sl_none HSL.out (by rw [nums_length]; exact HS7.out.len)) (sl_news HSL.out) (nums_one _) HL1.out HL2.out HL3.out ?_); intro v' w3 hown3 hgr3; have hown4 := own_zero hown3; clear hown3; obtain ⟨an, cn, rfl⟩ := own_shape5 hown4; have HO3 := Lib.hid hown4; have HB3 := Lib.hid (turned_new HB1'.out hgr3 HQ.out); have k0 := kept_cell HB3.out HCL.out.1; have k1 := kept_cell HB3.out HCL.out.2; have r4 := kept_cell HB3.out HR7.out.r4; clear hown4 hgr3)
                    clear r4 k0 k1 hW1
                    go_loopw [17] (fun k wr => ∃ (J : Nat) (nw : List Int), k = .int .i64 (J : Int) ∧ J ≤ nz ∧ nw.length = n0 ∧ Hid (Below wo.heap.size wo wr) ∧ Hid (wr.ownsRow q 3 1 (.slice an n0 cn) n0 (nums nw)) ∧ Hid (setsDo now c.args (st.sets.drop J) nw = setsDo now c.args st.sets now)) (fun k _ => nz - (intOf k).toNat)
                    case atStart => exact ⟨0, now, rfl, Nat.zero_le _, HS7.out.len, HB3, HO3, Lib.hid rfl⟩
                    case round =>
                      obtain ⟨J, nw, rfl, hJ, hnw, HB4, HO4, HI4⟩ := hrel
                      have r4 := kept_cell HB4.out HR7.out.r4
                      have k0 := kept_cell HB4.out HCL.out.1
                      by_cases hlt3 : J < nz
                      · have hltL : (J : Int) < (nz : Int) := by omega
                        obtain ⟨x, hx⟩ : ∃ x, st.sets[J]? = some x := ⟨_, List.getElem?_eq_getElem (by rw [HNZ.out]; exact hlt3)⟩
                        obtain ⟨xb, xo, ea, cs, -, ⟨cx, rfl, hcx⟩, hc⟩ := (show SlOf w 2 (SeIs w) (.slice a0 st.sets.length cap0) st.sets by rw [HNZ.out]; exact HCV.out).at hx
                        subst ea
                        have hb4 := HR7.out.bel.trans (HB4.out.mono HR7.out.bel.size)
                        obtain ⟨j, hjv⟩ : ∃ j : Nat, x.var = (j : Int) := ⟨x.var.toNat, by have := (HVS.out x (List.mem_of_getElem? hx)).1; omega⟩
                        have hjn : j < n0 := by have := (HVS.out x (List.mem_of_getElem? hx)).2; have := HTV.out; omega
                        have x0 : wr.cell? ⟨xb, xo + J * 2, none⟩ = some (.int .i64 (j : Int)) := by rw [← hjv]; exact (hb4.cell (p := ⟨xb, xo + J * 2, none⟩) (World.block_lt_of_cell? w _ (hc 0 _ rfl))).trans (hc 0 _ rfl)
                        have x1 : wr.cell? ⟨xb, xo + J * 2 + 1, none⟩ = some cx := (hb4.cell (p := ⟨xb, xo + J * 2 + 1, none⟩) (World.block_lt_of_cell? w _ (hc 1 _ rfl))).trans (hc 1 _ rfl)
                        have hsw := HSP.out.1 x (List.mem_of_getElem? hx)
                        have hsd := setsDo_at now c.args st.sets J x nw hx
                        have hev := fun (W : World) (hb : Below wr.heap.size wr W) => refEval_any x.value now c.args cx (.slice av n0 kv) (.slice au n capu) W (hcx.below (hb4.trans (hb.mono hb4.size))) (Sl.below HS7.out.var.1 (HB4.out.trans (hb.mono HB4.out.size))) (Sl.below HA.out (hb4.trans (hb.mono hb4.size))) hsw.2.2 (by have := HS7.out.len; have := HN6.out; omega) HAL.out
                        obtain ⟨⟨xn, xe⟩, hxe⟩ : ∃ q, eval x.value now c.args = q := ⟨_, rfl⟩
                        rw [hxe, hjv, Int.toNat_natCast] at hsd
                        rw [hxe] at hev
                        have HSJ := Lib.hid hsd
                        have HX0 := Lib.hid x0
                        have HEV := Lib.hid (fun (W : World) (hS : W.cell? ⟨g8, 4, none⟩ = some (.slice (some ⟨sb, so, none⟩) ns caps_) ∧ W.cell? ⟨sb, so + K2 * 2, none⟩ = some (.slice (some ⟨xb, xo, none⟩) nz cap0) ∧ W.cell? ⟨xb, xo + J * 2 + 1, none⟩ = some cx ∧ W.cell? ⟨g2, 4, none⟩ = some (.slice au n capu) ∧ Below wr.heap.size wr W) => (hev W hS.2.2.2.2).mono (fun z w' (hz : z = .returned (.tuple #[.int .i64 xn, .int .i64 xe]) ∧ Below W.heap.size W w') => show z = .returned (.tuple #[.int .i64 xn, .int .i64 xe]) ∧ w'.cell? ⟨g8, 4, none⟩ = some (.slice (some ⟨sb, so, none⟩) ns caps_) ∧ w'.cell? ⟨sb, so + K2 * 2, none⟩ = some (.slice (some ⟨xb, xo, none⟩) nz cap0) ∧ w'.cell? ⟨xb, xo + J * 2 + 1, none⟩ = some cx ∧ w'.cell? ⟨g2, 4, none⟩ = some (.slice au n capu) ∧ Below wr.heap.size wr w' from ⟨hz.1, kept_cell hz.2 hS.1, kept_cell hz.2 hS.2.1, kept_cell hz.2 hS.2.2.1, kept_cell hz.2 hS.2.2.2.1, hS.2.2.2.2.trans (hz.2.mono hS.2.2.2.2.size)⟩))
                        have HSE := Lib.hid (show wr.drew.cell? ⟨g8, 4, none⟩ = some (.slice (some ⟨sb, so, none⟩) ns caps_) ∧ wr.drew.cell? ⟨sb, so + K2 * 2, none⟩ = some (.slice (some ⟨xb, xo, none⟩) nz cap0) ∧ wr.drew.cell? ⟨xb, xo + J * 2 + 1, none⟩ = some cx ∧ wr.drew.cell? ⟨g2, 4, none⟩ = some (.slice au n capu) ∧ Below wr.heap.size wr wr.drew from ⟨r4, k0, x1, kept_cell (HB4.out.drew) HR7.out.box.m4, (Below.refl _ _).drew⟩)
                        obtain ⟨qb, hqa, hqb⟩ := own_addr HO4.out (by omega)
                        subst hqa
                        obtain ⟨old, hold⟩ : ∃ o, nw[j]? = some o := ⟨_, List.getElem?_eq_getElem (by omega)⟩
                        have HOLD := Lib.hid hold
                        have hwK := wrap_next J (by have := HSP.out.2.1; have := HNZ.out; omega)
                        have HQB := Lib.hid hqb
                        clear hx hcx hc hb4 hjv hsw hsd hev hxe x0 x1 hold hqb
                        go_upto_region 29 with fail
                        have hS0 : wr.drew.cell? ⟨g8, 4, none⟩ = some (.slice (some ⟨sb, so, none⟩) ns caps_) ∧ wr.drew.cell? ⟨sb, so + K2 * 2, none⟩ = some (.slice (some ⟨xb, xo, none⟩) nz cap0) ∧ wr.drew.cell? ⟨xb, xo + J * 2 + 1, none⟩ = some cx ∧ wr.drew.cell? ⟨g2, 4, none⟩ = some (.slice au n capu) ∧ Below wr.heap.size wr wr.drew := HSE.out
                        clear r4 k0
                        go_region_held3 (fun Wz => Wz.cell? ⟨g8, 4, none⟩ = some (.slice (some ⟨sb, so, none⟩) ns caps_) ∧ Wz.cell? ⟨sb, so + K2 * 2, none⟩ = some (.slice (some ⟨xb, xo, none⟩) nz cap0) ∧ Wz.cell? ⟨xb, xo + J * 2 + 1, none⟩ = some cx ∧ Wz.cell? ⟨g2, 4, none⟩ = some (.slice au n capu) ∧ Below wr.heap.size wr Wz) (first | exact hS0 | assumption) (first | (go_at_call 56; ((with_reducible refine (HEV.out _ ?_).mono ?_); (first | exact hS0 | assumption)); rintro _ w5 ⟨rfl, hS1⟩))
                        obtain ⟨r4, k0, -, -, hb5⟩ := hS1
                        have HB5 := Lib.hid (HB4.out.trans (hb5.mono HB4.out.size))
                        have HO5 := Lib.hid (own_kept HO4.out hb5)
                        have x0 := kept_cell hb5 HX0.out
                        clear hS0 HSE HEV hb5
                        by_cases x7 : xe = 0
                        rotate_left
                        · have b7 : (xe == 0) = false := beq_eq_false_iff_ne.2 x7
                          have hno : setsDo now c.args st.sets now = none := by rw [← HI4.out, HSJ.out, if_pos x7]
                          have hfin : stepsDo c.args r0.steps s.pos s.vars = none := by rw [HPP.out, HI7.out, HSD.out, hno]
                          have HDD := Lib.hid (HD.out.trans (byRule_none HRF.out hfin))
                          have HBF := Lib.hid (HR7.out.bel.trans (HB5.out.mono HR7.out.bel.size))
                          clear x7 hno hfin r4 k0 x0
                          go_wp2_with fail
                          go_ret2
                          exact ⟨.slice none 0 0, by rw [HDD.out]; rfl, by rw [HDD.out]; exact evs_none _, HBF.out⟩
                        have b7 : (xe == 0) = true := beq_iff_eq.2 x7
                        have HJ := Lib.hid (show setsDo now c.args (st.sets.drop (J + 1)) (nw.set j xn) = setsDo now c.args st.sets now by rw [← HI4.out, HSJ.out, if_neg (by rw [x7]; decide)])
                        have d0 : w5.cell? ⟨qb, j, none⟩ = some (.int .i64 old) := by rw [HO5.out.cellAt j (by omega)]; exact nums_at nw j old HOLD.out
                        have f0 := HO5.out.frozenAt j
                        have HST := Lib.hid (HO5.out.stored j (.int .i64 xn)).1
                        have HBS := Lib.hid (HB5.out.setCell (p := ⟨qb, j, none⟩) (show wo.heap.size ≤ qb by rw [HQ.out]; exact HQB.out) (.int .i64 xn))
                        clear x7 HSJ
                        go_wp2_with fail
                        go_round
                        case rel => exact ⟨J + 1, nw.set j xn, by go_num, by omega, by rw [List.length_set]; exact hnw, HBS, Lib.hid (by have h := HST.out; rw [← nums_setl] at h; exact h), HJ⟩
                        case measure => simp [intOf]; omega
                      · have hltL : ¬ (J : Int) < (nz : Int) := by omega
                        have HSO := Lib.hid (show setsDo now c.args st.sets now = some nw by rw [← HI4.out, List.drop_of_length_le (by have := HNZ.out; omega)]; rfl)
                        have HR8 := Lib.hid (HR7.out.below HB4.out)
                        have HS8 := Lib.hid (HS7.out.turn HB4.out HO4.out (by rw [HQ.out]; exact Nat.le_refl _) rfl hnw)
                        have k1 := kept_cell HB4.out HCL.out.2
                        have hwK := wrap_next K2 (by have := HFIRM.out.some_; have := HNS.out; omega)
                        have hb4 := below_alloc wr (.cells #[.int .i64 gp, .slice an n0 cn] 108)
                        have HS4 := Lib.hid (HS8.out.below hb4)
                        have HRB4 := Lib.hid (HR8.out.below hb4)
                        have HM4 := Lib.hid HS4.out.lo.2
                        have HON := Lib.hid (two_ones gp HS8.out.var.2.1)
                        have HR1 := Lib.hid (show L.length + 1 ≤ maxLen by have := HFIRM.out.some_; have := HNS.out; unfold maxLen; omega)
                        have HR2 := Lib.hid (show (L.length + 1) * 32 ≤ 140737488355328 by have := HFIRM.out.some_; have := HNS.out; omega)
                        have HI5 := Lib.hid (show stepsDo c.args r0.steps p s.vars = match stepsDo c.args (r0.steps.drop (K2 + 1)) gp nw with | none => none | some r => some ((L ++ [((⟨gp, nw⟩ : Ev), Value.slice an n0 cn)]).map (·.1) ++ r) by
                          rw [HI7.out, HSD.out, HSO.out]
                          obtain ⟨o, ho⟩ : ∃ o, stepsDo c.args (r0.steps.drop (K2 + 1)) gp nw = o := ⟨_, rfl⟩
                          simp only [ho]
                          cases o <;> simp)
                        have hG : (0 ≤ T ∧ gp = T) ∨ (¬ 0 ≤ T ∧ gp = pos) := by
                          have h := HGO.out
                          by_cases q : 0 ≤ T
                          · rw [if_pos q] at h; exact Or.inl ⟨q, h⟩
                          · rw [if_neg q] at h; exact Or.inr ⟨q, h⟩
                        clear HGO HSD HI7 hb4
                        rcases hG with ⟨hT0, rfl⟩ | ⟨hT0, rfl⟩
                        all_goals
                          go_wp2_with (at_builtin; go_must (refine wpList_append_lies _ rfl _ _ 44 rfl M 108 i1 (.agg #[.int .i64 0, .slice none 0 0]) 2 32 Tryz.underlying44 hj hy0 hy1 hy2 rfl (by decide) _ _ _ rfl HS4.out.own ⟨wr.heap.size, 0, none⟩ 1 1 [.int .i64 gp, .slice an n0 cn] rfl rfl (new_two _ _ _ _) HON.out (by decide) HR1.out HR2.out HM4.out _ rfl ?_); intro b' cap' wy hown5 hgr5 hbk5 hlt5)
                          have hp := HS4.out.push rfl rfl hown5 hgr5 hbk5
                          rw [hLK] at hp
                          have HP := Lib.hid hp
                          have HRP := Lib.hid (HRB4.out.grown (M := M) hgr5 (fun b hb => owns_block HS4.out.own b hb) HS4.out.lo.1 HGM.out)
                          go_round
                          case rel => exact ⟨K2 + 1, L ++ [((⟨gp, nw⟩ : Ev), Value.slice an n0 cn)], gp, nw, by go_num, rfl, by omega, by rw [List.length_append, hLK]; rfl, HRP, HP, HI5⟩
                          case measure => simp [intOf]; omega
end Go.Proofs.YtgkniocjlkfhmaaGreatDoor.D
