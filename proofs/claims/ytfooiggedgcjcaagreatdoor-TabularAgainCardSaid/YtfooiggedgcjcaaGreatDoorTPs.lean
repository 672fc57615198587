/-
  Layer 6: the reader of a line, by its first word.
  Layer 6: the reader of a line, walked.
  Layer 6: a draft's beginning, its next line, and its end.
  Layer 6: a text's lines, as the library parts them.
  Layer 6: a text's lines, one behind the other.
-/
import Derived.Test.YtfooiggedgcjcaaGreatDoorTPp
import Derived.Test.YtfooiggedgcjcaaGreatDoorTPg
import Derived.Test.YtfooiggedgcjcaaGreatDoorTDt
import Derived.Test.YtfooiggedgcjcaaGreatDoorIPWords
import Derived.Lib.SplitLaws
namespace Go.Proofs.YtfooiggedgcjcaaGreatDoor.T
open Go Go.RowKit Go.Proofs.YtfooiggedgcjcaaGreatDoor.B Go.Proofs.YtfooiggedgcjcaaGreatDoor.K Go.Proofs.YtfooiggedgcjcaaGreatDoor.E Go.Proofs.YtfooiggedgcjcaaGreatDoor.R
set_option linter.unusedVariables false

section
variable {D LB : Nat} {t : Tb} {said : Nat} {q : Dq} {w : World}

/-- A function that reads what is left of a line. -/
def RdOut (D LB : Nat) (val : Ix → Value) (said : Nat) (o : Ln) (w : World) (z : Ending) (w' : World) : Prop :=
  ∃ N caps, z = .returned (.func (.func N) #[] caps) ∧ I.Ent N ∧ Below w.heap.size w w' ∧ Calls Tryz.prog N (#[.pointer (some ⟨LB, 0, none⟩)] ++ caps) w' (LnOut D LB val said o w')

theorem ent_states : I.Ent 66 := fun args w => enters_of Tryz.func66 (by kernel_rfl) rfl args w
theorem ent_vars : I.Ent 72 := fun args w => enters_of Tryz.func72 (by kernel_rfl) rfl args w
theorem ent_rule : I.Ent 75 := fun args w => enters_of Tryz.func75 (by kernel_rfl) rfl args w
theorem ent_guard : I.Ent 78 := fun args w => enters_of Tryz.func78 (by kernel_rfl) rfl args w
theorem ent_step : I.Ent 80 := fun args w => enters_of Tryz.func80 (by kernel_rfl) rfl args w
theorem ent_refuse : I.Ent 32 := fun args w => enters_of Tryz.func32 (by kernel_rfl) rfl args w

/-- What stands at a reader's beginning. -/
structure RdIn (D LB : Nat) (t : Tb) (said : Nat) (q : Dq) (s : Bs) (w : World) : Prop where
  dr : Dr D (fun k => k = LB) t said q w
  gl : GlD D w
  line : LnAt w LB s
  tb : TbN t said
  hs : s.length ≤ 8192
  hsaid : said ≤ 100000

theorem rd_states {s : Bs} {w w' : World} (h : RdIn D LB t said q s w) (h0 : said = 0) {z : Ending} (hm : Mk1 D (fun k => k = LB) q 66 w z w') : RdOut D LB q.val said (stLine t s) w z w' := by
  obtain ⟨cb, rfl, hb, hx⟩ := hm
  subst h0
  refine ⟨_, _, rfl, ent_states, hb, states1_any cb s (by have := h.hs; omega) ?_ ?_ (h.dr.grow hb) hx (h.gl.step (hb.mono (Nat.le_of_lt h.dr.lt))) (h.line.chg (Chg.of (S := fun _ => False) hb) fun h => h)⟩
  · rw [h.tb.st0 rfl]; simp
  · rw [h.tb.st0 rfl]; simp
theorem rd_vars {s : Bs} {w w' : World} (h : RdIn D LB t said q s w) (h0 : said = 1) {z : Ending} (hm : Mk1 D (fun k => k = LB) q 72 w z w') : RdOut D LB q.val said (vrLine t s) w z w' := by
  obtain ⟨cb, rfl, hb, hx⟩ := hm
  subst h0
  obtain ⟨h1, h2⟩ := h.tb.va0 (by omega)
  refine ⟨_, _, rfl, ent_vars, hb, vars1_any cb s (by have := h.hs; omega) ?_ ?_ ?_ (h.dr.grow hb) hx (h.gl.step (hb.mono (Nat.le_of_lt h.dr.lt))) (h.line.chg (Chg.of (S := fun _ => False) hb) fun h => h)⟩
  · rw [h1]; simp
  · rw [h2]; simp
  · rw [h1]; simp
theorem rd_rule {s : Bs} {w w' : World} (h : RdIn D LB t said q s w) (h0 : 2 ≤ said) {z : Ending} (hm : Mk1 D (fun k => k = LB) q 75 w z w') : RdOut D LB q.val said (rlLine t s) w z w' := by
  obtain ⟨cb, rfl, hb, hx⟩ := hm
  exact ⟨_, _, rfl, ent_rule, hb, rule1_any cb s (by have := h.hs; omega) (by have := h.tb.rn; have := h.hsaid; omega) h0 (h.dr.grow hb) hx (h.gl.step (hb.mono (Nat.le_of_lt h.dr.lt))) (h.line.chg (Chg.of (S := fun _ => False) hb) fun h => h)⟩
theorem rd_guard {ip : Ip} (hip : IpOk ip) {s : Bs} {w w' : World} (h : RdIn D LB t said q s w) {rs : List Rl} {r : Rl} (ht : t.rules = rs ++ [r]) {o : Ln} (ho : gdLine ip t r s = some o) {eb cb : Nat} (hb : Below w.heap.size w w') (hx : Box D (fun k => k = LB) q.val cb w') (he : ExBox D (fun k => k = LB) q.val eb w') :
    RdOut D LB q.val said o w (.returned (.func (.func 78) #[] #[.pointer (some ⟨eb, 0, none⟩), .pointer (some ⟨cb, 0, none⟩)])) w' := by
  have hr := h.tb.rl r (by rw [ht]; simp)
  have hrn := h.tb.rn
  rw [ht] at hrn
  simp at hrn
  have h2 : 2 ≤ said := by
    by_cases h2 : said < 2
    · have := h.dr.none_ h2; rw [ht] at this; simp at this
    · omega
  exact ⟨_, _, rfl, ent_guard, hb, guard1_any hip eb cb s h.hs ht (by have := h.hsaid; omega) (by have := h.hsaid; omega) h.tb.va h.tb.nm hr.2.2 h2 ho (h.dr.grow hb) hx he (h.gl.step (hb.mono (Nat.le_of_lt h.dr.lt))) (h.line.chg (Chg.of (S := fun _ => False) hb) fun h => h)⟩
theorem rd_step {ip : Ip} (hip : IpOk ip) {s : Bs} {w w' : World} (h : RdIn D LB t said q s w) {rs : List Rl} {r : Rl} (ht : t.rules = rs ++ [r]) {o : Ln} (ho : spLine ip t r s = some o) {cb sb : Nat} (hb : Below w.heap.size w w') (hx : Box D (fun k => k = LB) q.val cb w') (he : SeBox D (fun k => k = LB) q.val sb w') :
    RdOut D LB q.val said o w (.returned (.func (.func 80) #[] #[.pointer (some ⟨cb, 0, none⟩), .pointer (some ⟨sb, 0, none⟩)])) w' := by
  have hr := h.tb.rl r (by rw [ht]; simp)
  have hrn := h.tb.rn
  rw [ht] at hrn
  simp at hrn
  have h2 : 2 ≤ said := by
    by_cases h2 : said < 2
    · have := h.dr.none_ h2; rw [ht] at this; simp at this
    · omega
  exact ⟨_, _, rfl, ent_step, hb, step1_any hip cb sb s h.hs ht (by have := h.hsaid; omega) (by have := h.hsaid; omega) h.tb.va h.tb.nm hr.2.2 h2 ho (h.dr.grow hb) hx he (h.gl.step (hb.mono (Nat.le_of_lt h.dr.lt))) (h.line.chg (Chg.of (S := fun _ => False) hb) fun h => h)⟩
theorem rd_refuse (q : Dq) (w w' : World) (hb : Below w.heap.size w w') (hD : D ≤ w.heap.size) : RdOut D LB q.val said (.error 6) w (.returned (.func (.func 32) #[] #[])) w' :=
  ⟨_, _, rfl, ent_refuse, hb, (refuse_any _ w').mono fun z w2 ⟨h1, h2⟩ => by
    subst h2
    exact ⟨Chg.refl _ _, h1, by decide⟩⟩
end
end Go.Proofs.YtfooiggedgcjcaaGreatDoor.T

namespace Go.Proofs.YtfooiggedgcjcaaGreatDoor.T
open Go Go.RowKit Go.Proofs.YtfooiggedgcjcaaGreatDoor.B Go.Proofs.YtfooiggedgcjcaaGreatDoor.K Go.Proofs.YtfooiggedgcjcaaGreatDoor.E Go.Proofs.YtfooiggedgcjcaaGreatDoor.R
set_option linter.unusedVariables false

theorem word_yes (x : Bs) : ((str x).toList == x) = true := by rw [str_toList]; exact beq_iff_eq.2 rfl
theorem word_not {x y : Bs} (h : x ≠ y) : ((str x).toList == y) = false := by rw [str_toList]; exact beq_eq_false_iff_ne.2 h

theorem line_refuse {ip : Ip} {t : Tb} {said : Nat} {s : Bs} (h1 : ¬ (wd s = wStates ∧ said = 0)) (h2 : ¬ (wd s = wVars ∧ said = 1)) (h3 : ¬ (wd s = wRule ∧ 2 ≤ said)) (h4 : ∀ r, t.rules.getLast? = some r → ¬ (wd s = wGuard ∧ r.steps = []) ∧ ¬ wd s = wStep) : T.line ip t said s = some (.error 6) := by
  unfold T.line
  rw [if_neg h1, if_neg h2, if_neg h3]
  cases hq : t.rules.getLast? with
  | none => rfl
  | some r => dsimp only; rw [if_neg (h4 r hq).1, if_neg (h4 r hq).2]

section
variable {D LB : Nat} {t : Tb} {said : Nat} {q : Dq} {w : World}

set_option maxHeartbeats 4000000 in
set_option maxRecDepth 100000 in
theorem readerOf_any {ip : Ip} (hip : IpOk ip) (s0 : Bs) (h : RdIn D LB t said q (nx s0) w) {o : Ln} (ho : T.line ip t said s0 = some o) :
    Calls Tryz.prog 12 #[.pointer (some ⟨D, 0, none⟩), sv (wd s0)] w (RdOut D LB q.val said o w) := by
  have c3 := h.dr.cell 3 (v := q.val .ru) rfl
  have c4 := h.dr.cell 4 (v := .int .i64 (said : Int)) rfl
  obtain ⟨aR, capR, hru⟩ := own_shape5 (h.dr.rows.own .ru)
  rw [hru] at c3
  have hru' : q.val .ru = .slice aR t.rules.length capR := hru
  have c3' : w.cell? ⟨D, 3, none⟩ = some (.slice aR t.rules.length capR) := c3
  have HRU := Lib.hid hru'
  have HR := Lib.hid h
  have HLN := Lib.hid ho
  have hDs := Nat.le_of_lt h.dr.lt
  have HDS := Lib.hid hDs
  have hsaid := h.hsaid
  clear c3 hru hru'
  obtain ⟨x, hx⟩ : ∃ x, wd s0 = x := ⟨_, rfl⟩
  rw [hx]
  have HX := Lib.hid hx
  clear h ho hx hDs
  obtain ⟨n, hn⟩ : ∃ n : Int, (said : Int) = n := ⟨_, rfl⟩
  rw [hn] at c4
  have HN := Lib.hid hn
  unfold sv
  by_cases w1 : x = wStates
  · subst w1
    have e1 : ((str wStates).toList == ([115, 116, 97, 116, 101, 115] : Bs)) = true := word_yes wStates
    have e2 : ((str wStates).toList == ([118, 97, 114, 115] : Bs)) = false := word_not (by decide)
    have e3 : ((str wStates).toList == ([114, 117, 108, 101] : Bs)) = false := word_not (by decide)
    have e4 : ((str wStates).toList == ([103, 117, 97, 114, 100] : Bs)) = false := word_not (by decide)
    have e5 : ((str wStates).toList == ([115, 116, 101, 112] : Bs)) = false := word_not (by decide)
    by_cases h0 : n = 0
    · subst h0
      have HM := Lib.hid (states_mk HR.out.dr)
      have HO : Hid (o = stLine t (nx s0)) := Lib.hid (by
        have h1 := HLN.out
        have h2 := HN.out
        unfold T.line at h1
        rw [if_pos ⟨HX.out, by omega⟩] at h1
        cases h1; rfl)
      clear hn hsaid
      go_enter Tryz.func12, Tryz.ntmps12
      go_wp2_with (go_at_call 26; refine HM.out.mono ?_; rintro _ w2 hm; obtain ⟨cb, hz, hm1, hm2⟩ := hm; subst hz; have HM2 := Lib.hid (And.intro hm1 hm2); clear hm1 hm2)
      go_ret
      rw [HO.out]
      exact rd_states HR.out (by have := HN.out; omega) ⟨cb, rfl, HM2.out.1, HM2.out.2⟩
    · have hb : (n == 0) = false := beq_eq_false_iff_ne.2 h0
      have HO : Hid (o = .error 6) := Lib.hid (by
        have h1 := HLN.out
        have h2 := HN.out
        rw [line_refuse (by rw [HX.out]; rintro ⟨-, h⟩; omega) (by rw [HX.out]; rintro ⟨h, -⟩; cases h) (by rw [HX.out]; rintro ⟨h, -⟩; cases h) (fun r _ => by rw [HX.out]; exact ⟨(by rintro ⟨h, -⟩; cases h), (by intro h; cases h)⟩)] at h1
        cases h1; rfl)
      clear hn hsaid h0
      go_enter Tryz.func12, Tryz.ntmps12
      go_wp2_with fail
      go_ret
      rw [HO.out]
      exact rd_refuse q w w (Below.refl _ _) HDS.out
  · by_cases w2 : x = wVars
    · subst w2
      have e1 : ((str wVars).toList == ([115, 116, 97, 116, 101, 115] : Bs)) = false := word_not (by decide)
      have e2 : ((str wVars).toList == ([118, 97, 114, 115] : Bs)) = true := word_yes wVars
      have e3 : ((str wVars).toList == ([114, 117, 108, 101] : Bs)) = false := word_not (by decide)
      have e4 : ((str wVars).toList == ([103, 117, 97, 114, 100] : Bs)) = false := word_not (by decide)
      have e5 : ((str wVars).toList == ([115, 116, 101, 112] : Bs)) = false := word_not (by decide)
      clear w1
      by_cases h0 : n = 1
      · subst h0
        have HM := Lib.hid (vars_mk HR.out.dr)
        have HO : Hid (o = vrLine t (nx s0)) := Lib.hid (by
          have h1 := HLN.out
          have h2 := HN.out
          unfold T.line at h1
          rw [HX.out, if_neg (by rintro ⟨h, -⟩; cases h), if_pos ⟨rfl, by omega⟩] at h1
          cases h1; rfl)
        clear hn hsaid
        go_enter Tryz.func12, Tryz.ntmps12
        go_wp2_with (go_at_call 27; refine HM.out.mono ?_; rintro _ w2 hm; obtain ⟨cb, hz, hm1, hm2⟩ := hm; subst hz; have HM2 := Lib.hid (And.intro hm1 hm2); clear hm1 hm2)
        go_ret
        rw [HO.out]
        exact rd_vars HR.out (by have := HN.out; omega) ⟨cb, rfl, HM2.out.1, HM2.out.2⟩
      · have hb : (n == 1) = false := beq_eq_false_iff_ne.2 h0
        have HO : Hid (o = .error 6) := Lib.hid (by
          have h1 := HLN.out
          have h2 := HN.out
          rw [line_refuse (by rw [HX.out]; rintro ⟨h, -⟩; cases h) (by rw [HX.out]; rintro ⟨-, h⟩; omega) (by rw [HX.out]; rintro ⟨h, -⟩; cases h) (fun r _ => by rw [HX.out]; exact ⟨(by rintro ⟨h, -⟩; cases h), (by intro h; cases h)⟩)] at h1
          cases h1; rfl)
        clear hn hsaid h0
        go_enter Tryz.func12, Tryz.ntmps12
        go_wp2_with fail
        go_ret
        rw [HO.out]
        exact rd_refuse q w w (Below.refl _ _) HDS.out
    · by_cases w3 : x = wRule
      · subst w3
        have e1 : ((str wRule).toList == ([115, 116, 97, 116, 101, 115] : Bs)) = false := word_not (by decide)
        have e2 : ((str wRule).toList == ([118, 97, 114, 115] : Bs)) = false := word_not (by decide)
        have e3 : ((str wRule).toList == ([114, 117, 108, 101] : Bs)) = true := word_yes wRule
        have e4 : ((str wRule).toList == ([103, 117, 97, 114, 100] : Bs)) = false := word_not (by decide)
        have e5 : ((str wRule).toList == ([115, 116, 101, 112] : Bs)) = false := word_not (by decide)
        clear w1 w2
        by_cases h0 : 2 ≤ n
        · have hb : decide (2 ≤ n) = true := decide_eq_true h0
          have HM := Lib.hid (rule_mk HR.out.dr)
          have HO : Hid (o = rlLine t (nx s0)) := Lib.hid (by
            have h1 := HLN.out
            have h2 := HN.out
            unfold T.line at h1
            rw [HX.out, if_neg (by rintro ⟨h, -⟩; cases h), if_neg (by rintro ⟨h, -⟩; cases h), if_pos ⟨rfl, by omega⟩] at h1
            cases h1; rfl)
          have H0 := Lib.hid h0
          clear hn hsaid
          go_enter Tryz.func12, Tryz.ntmps12
          go_wp2_with (go_at_call 28; refine HM.out.mono ?_; rintro _ w2 hm; obtain ⟨cb, hz, hm1, hm2⟩ := hm; subst hz; have HM2 := Lib.hid (And.intro hm1 hm2); clear hm1 hm2)
          go_ret
          rw [HO.out]
          exact rd_rule HR.out (by have := HN.out; have := H0.out; omega) ⟨cb, rfl, HM2.out.1, HM2.out.2⟩
        · have hb : decide (2 ≤ n) = false := decide_eq_false h0
          have HO : Hid (o = .error 6) := Lib.hid (by
            have h1 := HLN.out
            have h2 := HN.out
            rw [line_refuse (by rw [HX.out]; rintro ⟨h, -⟩; cases h) (by rw [HX.out]; rintro ⟨h, -⟩; cases h) (by rw [HX.out]; rintro ⟨-, h⟩; omega) (fun r _ => by rw [HX.out]; exact ⟨(by rintro ⟨h, -⟩; cases h), (by intro h; cases h)⟩)] at h1
            cases h1; rfl)
          clear hn hsaid
          go_enter Tryz.func12, Tryz.ntmps12
          go_wp2_with fail
          go_ret
          rw [HO.out]
          exact rd_refuse q w w (Below.refl _ _) HDS.out
      · by_cases w4 : x = wGuard
        · subst w4
          have e1 : ((str wGuard).toList == ([115, 116, 97, 116, 101, 115] : Bs)) = false := word_not (by decide)
          have e2 : ((str wGuard).toList == ([118, 97, 114, 115] : Bs)) = false := word_not (by decide)
          have e3 : ((str wGuard).toList == ([114, 117, 108, 101] : Bs)) = false := word_not (by decide)
          have e4 : ((str wGuard).toList == ([103, 117, 97, 114, 100] : Bs)) = true := word_yes wGuard
          have e5 : ((str wGuard).toList == ([115, 116, 101, 112] : Bs)) = false := word_not (by decide)
          clear w1 w2 w3
          cases hq : t.rules.getLast? with
          | none =>
            have hnil : t.rules = [] := List.getLast?_eq_none_iff.1 hq
            have HO : Hid (o = .error 6) := Lib.hid (by
              have h1 := HLN.out
              rw [line_refuse (by rw [HX.out]; rintro ⟨h, -⟩; cases h) (by rw [HX.out]; rintro ⟨h, -⟩; cases h) (by rw [HX.out]; rintro ⟨h, -⟩; cases h) (fun r hr => by rw [hq] at hr; cases hr)] at h1
              cases h1; rfl)
            have hlen : t.rules.length = 0 := by rw [hnil]; rfl
            rw [hlen] at c3'
            clear hn hsaid hq hnil hlen
            go_enter Tryz.func12, Tryz.ntmps12
            go_wp2_with fail
            go_ret
            rw [HO.out]
            exact rd_refuse q w w (Below.refl _ _) HDS.out
          | some r =>
            obtain ⟨rs, ht⟩ := lastR_snoc hq
            obtain ⟨gR, cap, hru, hgD, hgl, hcells⟩ := HR.out.dr.last ht
            have hrn := HR.out.tb.rn
            have hlen : t.rules.length = rs.length + 1 := by rw [ht]; simp
            have HRO := Lib.hid (ruleOf_any HR.out.dr ht hru (by omega))
            obtain ⟨aS, capS, hsS⟩ := own_shape5 (HR.out.dr.rows.own (.s rs.length))
            have hsl2 : (ent q t (.s rs.length)).n = r.steps.length := by
              have := (HR.out.dr.closed.out (fix_mono q t)) rs.length r (by rw [ht]; simp)
              exact this.2.2.1
            rw [hsl2] at hsS
            have gS := (hcells 4 (q.val (.s rs.length)) rfl).1
            rw [hsS] at gS
            have HT := Lib.hid ht
            have HQ := Lib.hid hq
            obtain ⟨m, hm⟩ : ∃ m, rs.length = m := ⟨_, rfl⟩
            rw [hm] at HRO gS hlen
            rw [hlen] at c3'
            obtain ⟨k, hk⟩ : ∃ k, r.steps.length = k := ⟨_, rfl⟩
            rw [hk] at gS
            have HK := Lib.hid hk
            have HM := Lib.hid (fun n => guard_mk (HR.out.dr.grow (below_drewN (Below.refl w.heap.size w) n)))
            have HZ := Lib.hid (fun n => below_drewN (Below.refl w.heap.size w) n)
            clear hn hsaid hq ht hru hgD hgl hcells hrn hlen hsS hsl2 hm hk
            by_cases hk0 : k = 0
            · subst hk0
              have HO : Hid (gdLine ip t r (nx s0) = some o) := Lib.hid (by
                have h1 := HLN.out
                unfold T.line at h1
                rw [HX.out, if_neg (by rintro ⟨h, -⟩; cases h), if_neg (by rintro ⟨h, -⟩; cases h), if_neg (by rintro ⟨h, -⟩; cases h), HQ.out] at h1
                dsimp only at h1
                rw [if_pos ⟨rfl, List.eq_nil_of_length_eq_zero HK.out⟩] at h1
                exact h1)
              go_enter Tryz.func12, Tryz.ntmps12
              go_wp2_with (first | (go_at_call 29; refine HRO.out.mono ?_; rintro _ w6 ⟨rfl, n6, rfl⟩) | (go_at_call 30; refine (HM.out n6).mono ?_; rintro _ w2 ⟨eb, cb, hz, hm1, hm2, hm3⟩; subst hz; have HM2 := Lib.hid (And.intro hm1 (And.intro hm2 hm3)); clear hm1 hm2 hm3))
              go_ret
              exact rd_guard hip HR.out HT.out HO.out ((HZ.out n6).trans HM2.out.1) HM2.out.2.1 HM2.out.2.2
            · have hb : ((k : Int) == 0) = false := beq_eq_false_iff_ne.2 (by omega)
              have HO : Hid (o = .error 6) := Lib.hid (by
                have h1 := HLN.out
                have hk1 := HK.out
                rw [line_refuse (by rw [HX.out]; rintro ⟨h, -⟩; cases h) (by rw [HX.out]; rintro ⟨h, -⟩; cases h) (by rw [HX.out]; rintro ⟨h, -⟩; cases h) (fun r' hr => by
                  rw [HQ.out] at hr
                  cases hr
                  rw [HX.out]
                  exact ⟨(by rintro ⟨-, h⟩; rw [h] at hk1; exact hk0 hk1.symm), (by intro h; cases h)⟩)] at h1
                cases h1; rfl)
              go_enter Tryz.func12, Tryz.ntmps12
              go_wp2_with (go_at_call 29; refine HRO.out.mono ?_; rintro _ w6 ⟨rfl, n6, rfl⟩)
              go_ret
              rw [HO.out]
              exact rd_refuse q w _ (HZ.out n6) HDS.out
        · by_cases w5 : x = wStep
          · subst w5
            have e1 : ((str wStep).toList == ([115, 116, 97, 116, 101, 115] : Bs)) = false := word_not (by decide)
            have e2 : ((str wStep).toList == ([118, 97, 114, 115] : Bs)) = false := word_not (by decide)
            have e3 : ((str wStep).toList == ([114, 117, 108, 101] : Bs)) = false := word_not (by decide)
            have e4 : ((str wStep).toList == ([103, 117, 97, 114, 100] : Bs)) = false := word_not (by decide)
            have e5 : ((str wStep).toList == ([115, 116, 101, 112] : Bs)) = true := word_yes wStep
            clear w1 w2 w3 w4
            cases hq : t.rules.getLast? with
            | none =>
              have hnil : t.rules = [] := List.getLast?_eq_none_iff.1 hq
              have HO : Hid (o = .error 6) := Lib.hid (by
                have h1 := HLN.out
                rw [line_refuse (by rw [HX.out]; rintro ⟨h, -⟩; cases h) (by rw [HX.out]; rintro ⟨h, -⟩; cases h) (by rw [HX.out]; rintro ⟨h, -⟩; cases h) (fun r hr => by rw [hq] at hr; cases hr)] at h1
                cases h1; rfl)
              have hlen : t.rules.length = 0 := by rw [hnil]; rfl
              rw [hlen] at c3'
              clear hn hsaid hq hnil hlen
              go_enter Tryz.func12, Tryz.ntmps12
              go_wp2_with fail
              go_ret
              rw [HO.out]
              exact rd_refuse q w w (Below.refl _ _) HDS.out
            | some r =>
              obtain ⟨rs, ht⟩ := lastR_snoc hq
              have hlen : t.rules.length = rs.length + 1 := by rw [ht]; simp
              have HT := Lib.hid ht
              have HM := Lib.hid (step_mk HR.out.dr)
              have HO : Hid (spLine ip t r (nx s0) = some o) := Lib.hid (by
                have h1 := HLN.out
                unfold T.line at h1
                rw [HX.out, if_neg (by rintro ⟨h, -⟩; cases h), if_neg (by rintro ⟨h, -⟩; cases h), if_neg (by rintro ⟨h, -⟩; cases h), hq] at h1
                dsimp only at h1
                rw [if_neg (by rintro ⟨h, -⟩; cases h), if_pos rfl] at h1
                exact h1)
              obtain ⟨m, hm⟩ : ∃ m, rs.length = m := ⟨_, rfl⟩
              rw [hm] at hlen
              rw [hlen] at c3'
              clear hn hsaid hq ht hlen hm
              go_enter Tryz.func12, Tryz.ntmps12
              go_wp2_with (go_at_call 31; refine HM.out.mono ?_; rintro _ w2 ⟨cb, sb, hz, hm1, hm2, hm3⟩; subst hz; have HM2 := Lib.hid (And.intro hm1 (And.intro hm2 hm3)); clear hm1 hm2 hm3)
              go_ret
              exact rd_step hip HR.out HT.out HO.out HM2.out.1 HM2.out.2.1 HM2.out.2.2
          · have e1 : ((str x).toList == ([115, 116, 97, 116, 101, 115] : Bs)) = false := word_not w1
            have e2 : ((str x).toList == ([118, 97, 114, 115] : Bs)) = false := word_not w2
            have e3 : ((str x).toList == ([114, 117, 108, 101] : Bs)) = false := word_not w3
            have e4 : ((str x).toList == ([103, 117, 97, 114, 100] : Bs)) = false := word_not w4
            have e5 : ((str x).toList == ([115, 116, 101, 112] : Bs)) = false := word_not w5
            have HO : Hid (o = .error 6) := Lib.hid (by
              have h1 := HLN.out
              rw [line_refuse (by rw [HX.out]; rintro ⟨h, -⟩; exact w1 h) (by rw [HX.out]; rintro ⟨h, -⟩; exact w2 h) (by rw [HX.out]; rintro ⟨h, -⟩; exact w3 h) (fun r _ => by rw [HX.out]; exact ⟨by rintro ⟨h, -⟩; exact w4 h, w5⟩)] at h1
              cases h1; rfl)
            clear hn hsaid w1 w2 w3 w4 w5
            go_enter Tryz.func12, Tryz.ntmps12
            go_wp2_with fail
            go_ret
            rw [HO.out]
            exact rd_refuse q w w (Below.refl _ _) HDS.out
end
end Go.Proofs.YtfooiggedgcjcaaGreatDoor.T

namespace Go.Proofs.YtfooiggedgcjcaaGreatDoor.T
open Go Go.RowKit Go.Proofs.YtfooiggedgcjcaaGreatDoor.B Go.Proofs.YtfooiggedgcjcaaGreatDoor.K Go.Proofs.YtfooiggedgcjcaaGreatDoor.E Go.Proofs.YtfooiggedgcjcaaGreatDoor.R
set_option linter.unusedVariables false

/-! ## What reads numbers reads no block of slices -/

/-- F and w have the same cells but at R, where w has slices alone. -/
structure Skip (R : Nat) (w F : World) : Prop where
  same : ∀ k o, k ≠ R → F.cell? ⟨k, o, none⟩ = w.cell? ⟨k, o, none⟩
  nils : ∀ o c, w.cell? ⟨R, o, none⟩ = some c → c = .slice none 0 0

theorem Skip.int {R : Nat} {w F : World} (h : Skip R w F) {b o : Nat} {k : IntKind} {n : Int} (hc : w.cell? ⟨b, o, none⟩ = some (.int k n)) : b ≠ R := by
  rintro rfl
  have := h.nils o _ hc
  cases this
theorem Skip.sln {R : Nat} {w F : World} (h : Skip R w F) {v : Value} {xs : List Int} (hs : SlN w v xs) : SlN F v xs := by
  obtain ⟨a, cap, rfl, hc⟩ := hs
  refine ⟨a, cap, rfl, fun j u hj => ?_⟩
  obtain ⟨b, off, rfl, h1⟩ := hc j u hj
  rw [List.getElem?_map] at hj
  obtain ⟨n, _, hn⟩ := Option.map_eq_some_iff.1 hj
  subst hn
  exact ⟨b, off, rfl, by rw [h.same b _ (h.int h1)]; exact h1⟩
theorem Skip.sli {R : Nat} {w F : World} (h : Skip R w F) {v : Value} {xs : List (Int × Int)} (hs : SlI w v xs) : SlI F v xs := by
  obtain ⟨a, cap, rfl, hc⟩ := hs
  refine ⟨a, cap, rfl, fun j i hj => ?_⟩
  obtain ⟨b, off, rfl, h1, h2⟩ := hc j i hj
  exact ⟨b, off, rfl, by rw [h.same b _ (h.int h1)]; exact h1, by rw [h.same b _ (h.int h1)]; exact h2⟩
theorem Skip.slof {X : Type} {R : Nat} {w F : World} (h : Skip R w F) {k : Nat} {Q Q' : List Value → X → Prop} {v : Value} {xs : List X} (hs : SlOf w k Q v xs) (hq : ∀ cs x, Q cs x → Q' cs x ∧ ∃ (i : Nat) (k : IntKind) (n : Int), cs[i]? = some (Value.int k n)) : SlOf F k Q' v xs := by
  obtain ⟨a, cap, rfl, hc⟩ := hs
  refine ⟨a, cap, rfl, fun j x hj => ?_⟩
  obtain ⟨b, off, rfl, cs, hl, hQ, h1⟩ := hc j x hj
  obtain ⟨hQ', i, kk, n, hi⟩ := hq cs x hQ
  have hb := h.int (h1 i _ hi)
  exact ⟨b, off, rfl, cs, hl, hQ', fun i c hi => by rw [h.same b _ hb]; exact h1 i c hi⟩
theorem Skip.gd {R : Nat} {w F : World} (h : Skip R w F) {cs : List Value} {g : Gd} (hs : GdIs w cs g) : GdIs F cs g := by obtain ⟨t, rfl, h1⟩ := hs; exact ⟨t, rfl, h.sli h1⟩
theorem Skip.se {R : Nat} {w F : World} (h : Skip R w F) {cs : List Value} {g : Se} (hs : SeIs w cs g) : SeIs F cs g ∧ ∃ (i : Nat) (k : IntKind) (n : Int), cs[i]? = some (Value.int k n) := by obtain ⟨t, rfl, h1⟩ := hs; exact ⟨⟨t, rfl, h.sli h1⟩, 0, _, _, rfl⟩
theorem Skip.sp {R : Nat} {w F : World} (h : Skip R w F) {cs : List Value} {g : Sp} (hs : SpIs w cs g) : SpIs F cs g := by obtain ⟨t, rfl, h1⟩ := hs; exact ⟨t, rfl, h.slof h1 fun _ _ q => h.se q⟩
theorem Skip.fix {R : Nat} {w F : World} (h : Skip R w F) {q : Dq} {t : Tb} (hs : Fix q t w) : Fix q t F := fun j r hr => by
  obtain ⟨h1, h2, h3⟩ := hs j r hr
  exact ⟨h.sln h1, h2.imp fun _ _ x => h.gd x, h3.imp fun _ _ x => h.sp x⟩

section
variable {D : Nat} {X : Nat → Prop} {t : Tb} {said : Nat} {q : Dq} {w w' : World}

theorem table_of (own : ∀ i, w.ownsRow (D + 1) (ent q t i).e (ent q t i).k (q.val i) (ent q t i).n (ent q t i).xs) (hF : Fix q t w) : TbIs w [q.val .st, q.val .va, q.val .nu, q.val .ru] t := by
  refine ⟨_, _, _, _, rfl, Sl.owns (own .st), Sl.owns (own .va), Sl.owns (own .nu), ?_⟩
  refine slof_own (own .ru) (rrows_len q _) rfl (rrows_five q _) fun j r cs hr hcs => ?_
  rw [rrows_at q _ _ _ hr] at hcs
  cases hcs
  obtain ⟨h1, h2, h3⟩ := hF j r hr
  have e1 : (q.gl j).length = r.guards.length := h2.1
  have e2 : (q.sl j).length = r.steps.length := h3.1
  exact ⟨rfl, _, _, _, rfl, h1, slof_own (own (.g j)) e1 e1.symm h2.lens fun i x cs hx hcs => h2.2 i cs x hcs hx, slof_own (own (.s j)) e2 e2.symm h3.lens fun i x cs hx hcs => h3.2 i cs x hcs hx⟩

/-- The table, where a block of slices ahead of the draft has turned. -/
theorem Dr.table_skip (h : Dr D X t said q w) {R : Nat} (hR : R < D) (hn : ∀ o c, w.cell? ⟨R, o, none⟩ = some c → c = .slice none 0 0) (hc : Chg (fun k => k = R) w w') : TbIs w' [q.val .st, q.val .va, q.val .nu, q.val .ru] t := by
  refine table_of (fun i => hc.own (h.rows.own i) fun k hk e => by have := own_block_lt (h.rows.own i) hk; omega) ?_
  obtain ⟨F, g1, g2⟩ := exists_hide (fun k => k = R) w
  have hs : Skip R w F := ⟨fun k o hk => g2 k o hk, hn⟩
  refine fix_mono q t F w' (fun b o c hb => ?_) (hs.fix (h.closed.out (fix_mono q t)))
  by_cases e : b = R
  · rw [g1 b o e] at hb; cases hb
  · rw [g2 b o e] at hb
    exact hc.cell hb e

def q0 (m : Value) : Dq := ⟨fun _ => .slice none 0 0, fun _ => .slice none 0 0, fun _ => [], fun _ => [], m, m⟩
theorem Dr.start (m : Value) (h : w.heap[D]? = some (.cells (drCells (q0 m) 0) 41 (0, 0))) : Dr D (fun _ => False) empty 0 (q0 m) w := by
  refine ⟨h, fun _ h => h.elim, ⟨fun i => ?_, fun i i' k hk => (by cases hk), fun i k hk => (by cases hk)⟩, ?_, fun h => by omega, fun h => by omega, fun _ => rfl, fun j _ => ⟨⟨rfl, rfl⟩, rfl, rfl⟩⟩
  · cases i <;> exact World.ownsRow_nil _ _ _ _
  · exact (Closed.nothing _ _).imp fun F _ j r hr => by simp [empty] at hr

/-- A line more is read. -/
theorem Dr.onward (h : Dr D X t said q w) (h0 : said = 0 → Where D X q.val w q.mS t.states) (h1 : said = 1 → Where D X q.val w q.mV t.vars) : Dr D (fun _ => False) t (said + 1) q (w.setCell ⟨D, 4, none⟩ (.int .i64 ((said : Int) + 1))) := by
  have c : Chg (fun k => k = D) w (w.setCell ⟨D, 4, none⟩ (.int .i64 ((said : Int) + 1))) := Chg.set w 4 _ rfl
  have hT : ∀ k, k = D → k < w.heap.size → Opn D X q.val k := fun k hk _ => Or.inl hk
  have hO : ∀ k, Opn D (fun _ => False) q.val k → k < w.heap.size → Opn D X q.val k := fun k hk _ => by
    rcases hk with hk | hk | hk
    · exact Or.inl hk
    · exact hk.elim
    · exact Or.inr (Or.inr hk)
  refine ⟨?_, fun _ h => h.elim, ⟨fun i => c.own (h.rows.own i) fun k hk e => by have := own_block_lt (h.rows.own i) hk; omega, h.rows.one, fun _ _ _ hx => hx⟩, h.closed.step c hT hO, fun _ => ?_, fun hs => ?_, fun hs => h.none_ (by omega), h.rest⟩
  · have := heap_setCell_same w D 4 (drCells q said) 41 (.int .i64 ((said : Int) + 1)) h.heap
    have e : (drCells q said).setIfInBounds 4 (.int .i64 ((said : Int) + 1)) = drCells q (said + 1) := by
      unfold drCells
      push_cast
      rfl
    rw [← e]; exact this
  · by_cases hz : said = 0
    · exact (h0 hz).step c hT hO
    · exact (h.mS (by omega)).step c hT hO
  · by_cases hz : said = 1
    · exact (h1 hz).step c hT hO
    · exact (h.mV (by omega)).step c hT hO

/-- A block of another's is open as well. -/
theorem Dr.more (h : Dr D (fun _ => False) t said q w) {L : Nat} (hc : Below w.heap.size w w') (hL : w.heap.size ≤ L ∧ L < w'.heap.size) : Dr D (fun k => k = L) t said q w' :=
  h.keep (S := fun _ => False) (Chg.of hc) (fun _ h _ => h) (fun k hk => by have := h.lt; subst hk; omega) fun k hk hl => by omega
end
end Go.Proofs.YtfooiggedgcjcaaGreatDoor.T

namespace Go.Proofs.YtfooiggedgcjcaaGreatDoor.T
open Go Go.RowKit Go.Proofs.YtfooiggedgcjcaaGreatDoor.B Go.Proofs.YtfooiggedgcjcaaGreatDoor.K Go.Proofs.YtfooiggedgcjcaaGreatDoor.E Go.Proofs.YtfooiggedgcjcaaGreatDoor.R
set_option linter.unusedVariables false

theorem idx_cases (c : UInt8) (s : Bs) : (Lib.indexByte s c = -1 ∧ hasB c s = false) ∨ (∃ n : Nat, Lib.indexByte s c = n ∧ upTo c s = s.take n ∧ past c s = s.drop (n + 1) ∧ hasB c s = true) := by
  induction s with
  | nil => exact Or.inl ⟨rfl, rfl⟩
  | cons b s ih =>
    by_cases hb : b = c
    · subst hb
      right
      refine ⟨0, by simp [Lib.indexByte], by simp [upTo], by simp [past], by simp [hasB]⟩
    · have hbb : (b == c) = false := beq_eq_false_iff_ne.2 hb
      have h2 : upTo c (b :: s) = b :: upTo c s := by unfold upTo; rw [List.takeWhile_cons_of_pos (by simpa using hb)]
      have h3 : past c (b :: s) = past c s := by unfold past; rw [List.dropWhile_cons_of_pos (by simpa using hb)]
      have h4 : hasB c (b :: s) = hasB c s := by unfold hasB; rw [List.any_cons, hbb, Bool.false_or]
      rcases ih with ⟨e1, e4⟩ | ⟨n, e1, e2, e3, e4⟩
      · left
        refine ⟨?_, by rw [h4, e4]⟩
        simp [Lib.indexByte, hbb, e1]
      · right
        refine ⟨n + 1, ?_, by rw [h2, e2]; rfl, by rw [h3, e3]; rfl, by rw [h4, e4]⟩
        have : ((n : Int) == -1) = false := by rw [beq_eq_false_iff_ne]; omega
        simp [Lib.indexByte, hbb, e1, this]

theorem cutL_is : ∀ (s w : Bs), cutL s w = if hasB 10 s = true then (w ++ upTo 10 s) :: cutL (past 10 s) [] else [w ++ s]
  | [], w => by simp [cutL, hasB]
  | c :: r, w => by
    by_cases h : c = 10
    · subst h
      have h2 : upTo 10 (10 :: r) = [] := by simp [upTo]
      have h3 : past 10 (10 :: r) = r := by simp [past]
      have h4 : hasB 10 (10 :: r) = true := by simp [hasB]
      rw [cutL, if_pos rfl, h2, h3, if_pos h4, List.append_nil]
    · have hbb : (c == 10) = false := beq_eq_false_iff_ne.2 h
      have h2 : upTo 10 (c :: r) = c :: upTo 10 r := by unfold upTo; rw [List.takeWhile_cons_of_pos (by simpa using h)]
      have h3 : past 10 (c :: r) = past 10 r := by unfold past; rw [List.dropWhile_cons_of_pos (by simpa using h)]
      have h4 : hasB 10 (c :: r) = hasB 10 r := by unfold hasB; rw [List.any_cons, hbb, Bool.false_or]
      rw [cutL, if_neg h, cutL_is r (w ++ [c]), h2, h3, h4]
      simp

theorem split_is (n : Nat) : ∀ s : Bs, s.length ≤ n → Lib.splitK [10] 0 (Lib.count s [10]) s = cutL s [] := by
  induction n with
  | zero =>
    intro s hs
    have : s = [] := List.eq_nil_of_length_eq_zero (by omega)
    subst this
    rw [Lib.count_miss (by rw [Lib.index_one]; rfl)]
    rfl
  | succ n ih =>
    intro s hs
    rw [cutL_is]
    rcases idx_cases 10 s with ⟨e1, e4⟩ | ⟨k, e1, e2, e3, e4⟩
    · rw [Lib.count_miss (by rw [Lib.index_one]; exact e1), e4]
      rfl
    · have hk : Lib.index s [10] = (k : Int) := by rw [Lib.index_one]; exact e1
      have h0 : s ≠ [] := by rintro rfl; cases e4
      have hlt := past_lt 10 s h0
      have hc := Lib.count_hit (s := s) (sub := [10]) (by simp) hk
      have hs2 : (s.drop (k + 1)) = past 10 s := e3.symm
      rw [hc, Nat.add_comm 1, if_pos e4]
      have hm : ¬ (Lib.index s [10] == -1) = true := fun e => by have := beq_iff_eq.1 e; omega
      rw [Lib.splitK, if_neg hm, hk]
      show s.take (k + 0) :: Lib.splitK [10] 0 (Lib.count (s.drop (k + 1)) [10]) (s.drop (k + 1)) = _
      rw [hs2, ih (past 10 s) (by omega), e2, Nat.add_zero, List.nil_append]

theorem lines_is (s : Bs) : (Lib.splitB ⟨#[10]⟩ 0 (Lib.countB (str s) ⟨#[10]⟩) (str s)) = (cutL s []).map str := by
  have h := Lib.splitB_data ⟨#[10]⟩ 0 (Lib.countB (str s) ⟨#[10]⟩) (str s)
  rw [str_data] at h
  have h2 := h.trans (split_is s.length s (Nat.le_refl _))
  have h3 : ∀ l : List ByteArray, (l.map (·.data.toList)).map str = l := by
    intro l
    induction l with
    | nil => rfl
    | cons x l ih => simp only [List.map_cons]; rw [ih]; rfl
  rw [← h2, h3]
theorem cutL_len (n : Nat) : ∀ s : Bs, s.length ≤ n → (cutL s []).length ≤ s.length + 1 ∧ ∀ x ∈ cutL s [], x.length ≤ s.length := by
  induction n with
  | zero =>
    intro s hs
    have : s = [] := List.eq_nil_of_length_eq_zero (by omega)
    subst this
    simp [cutL]
  | succ n ih =>
    intro s hs
    rw [cutL_is]
    by_cases h : hasB 10 s = true
    · have h0 : s ≠ [] := by rintro rfl; cases h
      have hlt := past_lt 10 s h0
      obtain ⟨h1, h2⟩ := ih (past 10 s) (by omega)
      rw [if_pos h]
      refine ⟨by simp; omega, fun x hx => ?_⟩
      rcases List.mem_cons.1 hx with rfl | hx
      · rw [List.nil_append]; exact (List.takeWhile_prefix _).length_le
      · have := h2 x hx; omega
    · rw [if_neg h]; simp

theorem split_any (s : Bs) (w : World) (hs : s.length < 4294967281) :
    Calls Tryz.prog 9 #[sv s, .string ⟨#[10]⟩] w fun e w' => e = .returned (.slice (some ⟨w.heap.size, 0, none⟩) (cutL s []).length (cutL s []).length) ∧ w' = w.alloc (.cells ((cutL s []).map sv).toArray 9) := by
  have h := S.strs_Split_one S.lays146 (by kernel_rfl) (str s) 10 w (by rw [str_size]; exact hs)
  have hlen := Lib.splitB_all ⟨#[10]⟩ (by decide) 0 _ (str s) rfl
  rw [lines_is] at h hlen
  rw [List.length_map] at hlen
  rw [← hlen] at h
  refine h.mono fun e w' ⟨h1, h2⟩ => ⟨h1, h2.trans ?_⟩
  rw [List.map_map]
  rfl
end Go.Proofs.YtfooiggedgcjcaaGreatDoor.T

namespace Go.Proofs.YtfooiggedgcjcaaGreatDoor.T
open Go Go.RowKit Go.Proofs.YtfooiggedgcjcaaGreatDoor.B Go.Proofs.YtfooiggedgcjcaaGreatDoor.K Go.Proofs.YtfooiggedgcjcaaGreatDoor.E Go.Proofs.YtfooiggedgcjcaaGreatDoor.R
set_option linter.unusedVariables false

theorem four_set (w : World) (B : Nat) (y0 y1 y2 y3 : Value) {a0 a1 a2 a3 : Value} (h0 : w.cell? ⟨B, 0, none⟩ = some a0) (h1 : w.cell? ⟨B, 1, none⟩ = some a1) (h2 : w.cell? ⟨B, 2, none⟩ = some a2) (h3 : w.cell? ⟨B, 3, none⟩ = some a3) :
    ((((w.setCell ⟨B, 0, none⟩ y0).setCell ⟨B, 1, none⟩ y1).setCell ⟨B, 2, none⟩ y2).setCell ⟨B, 3, none⟩ y3).cell? ⟨B, 0, none⟩ = some y0 ∧
    ((((w.setCell ⟨B, 0, none⟩ y0).setCell ⟨B, 1, none⟩ y1).setCell ⟨B, 2, none⟩ y2).setCell ⟨B, 3, none⟩ y3).cell? ⟨B, 1, none⟩ = some y1 ∧
    ((((w.setCell ⟨B, 0, none⟩ y0).setCell ⟨B, 1, none⟩ y1).setCell ⟨B, 2, none⟩ y2).setCell ⟨B, 3, none⟩ y3).cell? ⟨B, 2, none⟩ = some y2 ∧
    ((((w.setCell ⟨B, 0, none⟩ y0).setCell ⟨B, 1, none⟩ y1).setCell ⟨B, 2, none⟩ y2).setCell ⟨B, 3, none⟩ y3).cell? ⟨B, 3, none⟩ = some y3 := by
  have o : ∀ (W : World) (i j : Nat) (y : Value), i ≠ j → (W.setCell ⟨B, i, none⟩ y).cell? ⟨B, j, none⟩ = W.cell? ⟨B, j, none⟩ := fun W i j y hij => World.cell?_setCell_other W ⟨B, i, none⟩ ⟨B, j, none⟩ y (by intro e; injection e; omega)
  refine ⟨?_, ?_, ?_, ?_⟩
  · rw [o _ 3 0 _ (by decide), o _ 2 0 _ (by decide), o _ 1 0 _ (by decide)]
    exact World.cell?_setCell_same _ _ _ h0
  · rw [o _ 3 1 _ (by decide), o _ 2 1 _ (by decide)]
    exact World.cell?_setCell_same _ _ _ (show _ = some a1 by rw [o _ 0 1 _ (by decide)]; exact h1)
  · rw [o _ 3 2 _ (by decide)]
    exact World.cell?_setCell_same _ _ _ (show _ = some a2 by rw [o _ 1 2 _ (by decide), o _ 0 2 _ (by decide)]; exact h2)
  · exact World.cell?_setCell_same _ _ _ (show _ = some a3 by rw [o _ 2 3 _ (by decide), o _ 1 3 _ (by decide), o _ 0 3 _ (by decide)]; exact h3)
theorem four_chg (w : World) (B : Nat) (y0 y1 y2 y3 : Value) : Chg (fun k => k = B) w ((((w.setCell ⟨B, 0, none⟩ y0).setCell ⟨B, 1, none⟩ y1).setCell ⟨B, 2, none⟩ y2).setCell ⟨B, 3, none⟩ y3) :=
  (((Chg.set (S := fun k => k = B) w 0 y0 rfl).trans (Chg.set _ 1 y1 rfl)).trans (Chg.set _ 2 y2 rfl)).trans (Chg.set _ 3 y3 rfl)

theorem trim_le (s : Bs) : (trim s).length ≤ s.length := by
  show (List.dropWhile _ ((List.dropWhile _ s.reverse).reverse)).length ≤ _
  refine Nat.le_trans (List.dropWhile_suffix _).length_le ?_
  rw [List.length_reverse]
  have := (List.dropWhile_suffix (l := s.reverse) (· == (32 : UInt8))).length_le
  rw [List.length_reverse] at this
  exact this

/-- The loop's world. -/
structure PsJ (D K RC : Nat) (ip : Ip) (L : List Bs) (w0 : World) (n : Nat) (t : Tb) (said : Nat) (q : Dq) (wr : World) : Prop where
  dr : Dr D (fun _ => False) t said q wr
  gl : GlD D wr
  tb : TbN t said
  le : said ≤ n
  bel : Below RC w0 wr
  rc : wr.heap[RC]? = some (.cells #[.slice none 0 0, .slice none 0 0, .slice none 0 0, .slice none 0 0] 26 (0, 0))
  ln : wr.heap[K]? = some (.cells (L.map sv).toArray 9 (0, 0))
  kn : ¬ Opn D (fun _ => False) q.val K
  lt : RC < D ∧ D < K
  goes : readL ip L 0 empty 0 = readL ip (L.drop n) n t said

section
variable {D K RC : Nat} {ip : Ip} {L : List Bs} {w0 : World} {n : Nat} {t : Tb} {said : Nat} {q : Dq} {wr : World}

theorem PsJ.unroll (h : PsJ D K RC ip L w0 n t said q wr) {x : Bs} (hx : L[n]? = some x) : readL ip L 0 empty 0 = if trim x = [] then readL ip (L.drop (n + 1)) (n + 1) t said else match T.line ip t said (trim x) with
    | none => none
    | some (.error e) => some (empty, n, e)
    | some (.ok u) => readL ip (L.drop (n + 1)) (n + 1) u (said + 1) := by
  obtain ⟨hn, rfl⟩ := List.getElem?_eq_some_iff.1 hx
  rw [h.goes, List.drop_eq_getElem_cons hn, readL]
  by_cases hz : trim L[n] = []
  · rw [if_pos hz, if_pos hz]
  · rw [if_neg hz, if_neg hz]
    rcases T.line ip t said (trim L[n]) with _ | (e | u) <;> rfl

/-- A line that says nothing. -/
theorem PsJ.skip (h : PsJ D K RC ip L w0 n t said q wr) {x : Bs} (hx : L[n]? = some x) (hz : trim x = []) {w' : World} (hb : Below wr.heap.size wr w') : PsJ D K RC ip L w0 (n + 1) t said q w' := by
  have c := Chg.of (S := fun _ => False) hb
  refine ⟨h.dr.grow hb, h.gl.step (hb.mono (Nat.le_of_lt h.dr.lt)), h.tb, Nat.le_succ_of_le h.le, h.bel.trans (hb.mono ?_), c.heap h.rc (fun h => h), c.heap h.ln (fun h => h), h.kn, h.lt, ?_⟩
  · have := h.dr.lt; have := h.lt; omega
  · rw [h.unroll hx, if_pos hz]

/-- A line's cell, and all behind it. -/
theorem PsJ.cell (h : PsJ D K RC ip L w0 n t said q wr) {W2 : World} {LB : Nat} (hb : Below wr.heap.size wr W2) (hL : wr.heap.size ≤ LB ∧ LB < W2.heap.size) {s : Bs} (hl : LnAt W2 LB s) (hs : s.length ≤ 8192) (hn : n ≤ 100000) (m : Nat) :
    RdIn D LB t said q (nx s) ((W2.drewN m).setCell ⟨LB, 0, none⟩ (sv (nx s))) := by
  have hd := (h.dr.more hb hL)
  refine ⟨hd.lined m (nx s), (h.gl.step (hb.mono (Nat.le_of_lt h.dr.lt))).step (lined_below (Nat.le_of_lt hd.lt) (hd.xD LB rfl).1 m (nx s)), hl.set m (nx s), h.tb, ?_, ?_⟩
  · have := nx_le s; omega
  · have := h.le; omega

/-- What no reader turns. -/
theorem PsJ.kept (h : PsJ D K RC ip L w0 n t said q wr) {W2 w4 w5 : World} {LB : Nat} (hb : Below wr.heap.size wr W2) (hL : wr.heap.size ≤ LB ∧ LB < W2.heap.size) {s : Bs} {m : Nat} (h4 : Below ((W2.drewN m).setCell ⟨LB, 0, none⟩ (sv s)).heap.size ((W2.drewN m).setCell ⟨LB, 0, none⟩ (sv s)) w4)
    (h5 : Chg (Opn D (fun k => k = LB) q.val) w4 w5) : Chg (Opn D (fun k => k = LB) q.val) wr w5 ∧ Below RC w0 w5 ∧ ¬ Opn D (fun k => k = LB) q.val RC ∧ ¬ Opn D (fun k => k = LB) q.val K ∧ wr.heap.size ≤ w4.heap.size := by
  have hd := h.dr.more hb hL
  have c1 : Chg (Opn D (fun k => k = LB) q.val) wr w5 := (((Chg.of (S := fun _ => False) hb).mono fun _ h => h.elim).trans ((lined_chg W2 m s).mono fun k hk => Or.inr (Or.inl hk))).trans (((Chg.of (S := fun _ => False) h4).mono fun _ h => h.elim).trans h5)
  have hlt := h.lt
  have hKlt : K < wr.heap.size := (Array.getElem?_eq_some_iff.1 h.ln).1
  have hge : ∀ k, Opn D (fun k => k = LB) q.val k → D ≤ k := fun k hk => (hd.open_ge hk).1
  have hsz := (((Chg.of (S := fun _ => False) hb).mono fun _ h => h.elim).trans ((lined_chg W2 m s).mono (S' := fun k => k = LB) fun k hk => hk)).size
  refine ⟨c1, h.bel.trans (c1.below (fun k hk => by have := hge k hk; omega) (by have := h.dr.lt; omega)), fun ho => by have := hge _ ho; omega, fun ho => ?_, Nat.le_trans hsz h4.size⟩
  rcases ho with e | e | e
  · omega
  · omega
  · exact h.kn (Or.inr (Or.inr e))

/-- A line that was read. -/
theorem PsJ.next (h : PsJ D K RC ip L w0 n t said q wr) {x : Bs} (hx : L[n]? = some x) (hz : trim x ≠ []) {u : Tb} (hu : T.line ip t said (trim x) = some (.ok u)) (hxl : x.length ≤ 8192) {W2 w4 w5 : World} {LB : Nat} (hb : Below wr.heap.size wr W2) (hL : wr.heap.size ≤ LB ∧ LB < W2.heap.size) {s : Bs} {m : Nat}
    (h4 : Below ((W2.drewN m).setCell ⟨LB, 0, none⟩ (sv s)).heap.size ((W2.drewN m).setCell ⟨LB, 0, none⟩ (sv s)) w4) {q' : Dq} (hd5 : Dr D (fun k => k = LB) u said q' w5) (hf : Fr D LB q.val q'.val w4 w5)
    (g0 : said = 0 → Where D (fun k => k = LB) q'.val w5 q'.mS u.states) (g1 : said = 1 → Where D (fun k => k = LB) q'.val w5 q'.mV u.vars) : PsJ D K RC ip L w0 (n + 1) u (said + 1) q' (w5.setCell ⟨D, 4, none⟩ (.int .i64 ((said : Int) + 1))) := by
  obtain ⟨c1, b1, hR, hK, hsz⟩ := h.kept hb hL h4 hf.chg
  have c2 : Chg (fun k => k = D) w5 (w5.setCell ⟨D, 4, none⟩ (.int .i64 ((said : Int) + 1))) := Chg.set w5 4 _ rfl
  have hlt := h.lt
  have hKlt : K < wr.heap.size := (Array.getElem?_eq_some_iff.1 h.ln).1
  have hDlt := h.dr.lt
  have hd := h.dr.more hb hL
  have hB : Below D wr (w5.setCell ⟨D, 4, none⟩ (.int .i64 ((said : Int) + 1))) := (c1.below (fun k hk => (hd.open_ge hk).1) (by omega)).trans (c2.below (fun k hk => by omega) (by have := c1.size; omega))
  have hxt : (trim x).length ≤ 8192 := Nat.le_trans (trim_le x) hxl
  refine ⟨hd5.onward g0 g1, h.gl.step hB, h.tb.line hxt hu, by have := h.le; omega, h.bel.trans (hB.mono (by omega)), c2.heap (c1.heap h.rc hR) (by omega), c2.heap (c1.heap h.ln hK) (by omega), fun ho => ?_, hlt, ?_⟩
  · refine hK (hf.opn K ?_ (by omega))
    rcases ho with e | e | e
    · exact Or.inl e
    · exact e.elim
    · exact Or.inr (Or.inr e)
  · rw [h.unroll hx, if_neg hz, hu]

theorem ps_start (w : World) (hg : Globs w) (RC : Nat) (hRC : w.heap.size = RC) : PsJ (RC + 1) (RC + 1 + 1) RC ip L w 0 empty 0 (q0 (.map none)) (((w.alloc (.cells #[.slice none 0 0, .slice none 0 0, .slice none 0 0, .slice none 0 0] 26)).alloc (.cells #[.slice none 0 0, .slice none 0 0, .slice none 0 0, .slice none 0 0, .int .i64 0, .map none, .map none] 41)).alloc (.cells (L.map sv).toArray 9)) := by
  obtain ⟨A, hA⟩ : ∃ A, w.alloc (.cells #[.slice none 0 0, .slice none 0 0, .slice none 0 0, .slice none 0 0] 26) = A := ⟨_, rfl⟩
  obtain ⟨B, hB⟩ : ∃ B, A.alloc (.cells #[.slice none 0 0, .slice none 0 0, .slice none 0 0, .slice none 0 0, .int .i64 0, .map none, .map none] 41) = B := ⟨_, rfl⟩
  obtain ⟨C, hC⟩ : ∃ C, B.alloc (.cells (L.map sv).toArray 9) = C := ⟨_, rfl⟩
  rw [hA, hB, hC]
  have sA : A.heap.size = RC + 1 := by rw [← hA, ← hRC]; simp
  have sB : B.heap.size = RC + 1 + 1 := by rw [← hB, ← sA]; simp
  have sC : C.heap.size = RC + 1 + 1 + 1 := by rw [← hC, ← sB]; simp
  have a1 : A.heap[RC]? = some (.cells #[.slice none 0 0, .slice none 0 0, .slice none 0 0, .slice none 0 0] 26 (0, 0)) := by rw [← hA, ← hRC]; exact heap_alloc_at w _
  have b1 : B.heap[RC + 1]? = some (.cells #[.slice none 0 0, .slice none 0 0, .slice none 0 0, .slice none 0 0, .int .i64 0, .map none, .map none] 41 (0, 0)) := by rw [← hB, ← sA]; exact heap_alloc_at A _
  have c1 : C.heap[RC + 1 + 1]? = some (.cells (L.map sv).toArray 9 (0, 0)) := by rw [← hC, ← sB]; exact heap_alloc_at B _
  have cB : Chg (fun _ => False) A B := by rw [← hB]; exact Chg.alloc _ _
  have cC : Chg (fun _ => False) B C := by rw [← hC]; exact Chg.alloc _ _
  have cA : Chg (fun _ => False) w A := by rw [← hA]; exact Chg.alloc _ _
  have hb : Below RC w C := ((cA.trans cB).trans cC).below (fun k hk => hk.elim) (by omega)
  refine ⟨Dr.start _ (cC.heap b1 (fun h => h)), GlD.of hg (by omega) C (by rw [hRC]; exact hb) (by omega), TbN.empty, Nat.le_refl _, hb, cC.heap (cB.heap a1 (fun h => h)) (fun h => h), c1, fun ho => ?_, by omega, rfl⟩
  rcases ho with e | e | ⟨i, e⟩
  · omega
  · exact e.elim
  · cases e
end
end Go.Proofs.YtfooiggedgcjcaaGreatDoor.T
