/-
  PatternMeets: if one name is matched by two patterns, they meet; if one covers another one, they meet; and Compare tells which text is ahead. No condition.
-/
import Derived.Test.YtfgjnhgaphcgcaaRows
import Derived.Test.YtfgjnhgaphcgcaaP8RefE
import Derived.Test.YtfgjnhgaphcgcaaKLaw
import Derived.SizedLaws
namespace Go.Proofs.Ytfgjnhgaphcgcaa.patternMeets
open Go.ChangeShapes Go.WideShapes Go.ChangeAt Go.RowKit Go.Shelf Go.Proofs
open Go.ChangeMaps (open_string shut_string)
open Go.Proofs.Ytfgjnhgaphcgcaa.P8 Go.Proofs.Ytfgjnhgaphcgcaa.K Go.Proofs.Ytfgjnhgaphcgcaa.B
set_option linter.unusedVariables false

theorem own : ownKnob Try.prog.godebug = none := by kernel_rfl
theorem laidOut : laidOutB Try.prog = true := by kernel_rfl

theorem mat_meet {p q s : List UInt8} (h1 : matT p s = true) (h2 : matT q s = true) : metT p q = true := by
  rw [mat_cov, Bool.and_eq_true] at h1 h2
  obtain ⟨a, b, c⟩ : patP p = true ∧ patP s = true ∧ coversL (parts p) (parts s) = true := by simpa [covT] using h1.2
  obtain ⟨d, _, e⟩ : patP q = true ∧ patP s = true ∧ coversL (parts q) (parts s) = true := by simpa [covT] using h2.2
  unfold metT
  rw [a, d, meets_both _ _ _ (pat_all a).2.1 (pat_all d).2.1 c e]; rfl

theorem cov_meet {p q : List UInt8} (h : covT p q = true) : metT p q = true := by
  obtain ⟨a, b, c⟩ : patP p = true ∧ patP q = true ∧ coversL (parts p) (parts q) = true := by simpa [covT] using h
  unfold metT
  rw [a, b, covers_meets _ _ (pat_all a).2.1 (pat_all b).2.1 c]; rfl

theorem cmp_facts (p q : List UInt8) : decide (Lib.compareBytes p q < 0) = lessL p q ∧ (Lib.compareBytes p q == 0) = ((str p).toList == (str q).toList) ∧ decide (0 < Lib.compareBytes p q) = lessL q p := by
  refine ⟨cmp_less p q, ?_, cmp_more p q⟩
  rw [eq_bool, Bool.eq_iff_iff, beq_iff_eq, beq_iff_eq]
  exact cmp_zero p q

set_option maxHeartbeats 2000000 in
set_option maxRecDepth 100000 in
theorem walk (p q s : List UInt8) (hp : p.length ≤ 140737488355328) (hq : q.length ≤ 140737488355328) (hs : s.length ≤ 140737488355328) (w : World) :
    Calls Try.prog 7 #[.string (str p), .string (str q), .string (str s)] w fun e w' => e = .returned (.bool true) ∧ Below w.heap.size w w' := by
  have M1 := fun W => match_any p s (by omega) (by omega) W
  have M2 := fun W => match_any q s (by omega) (by omega) W
  have T1 := fun W => meets_any p q (by omega) (by omega) W
  have C1 := fun W => covers_any p q (by omega) (by omega) W
  have A := fun W => awake_any W
  have K1 := fun W => comp_any p q W
  have L1 := fun W => less_any p q (by omega) (by omega) W
  have L2 := fun W => less_any q p (by omega) (by omega) W
  obtain ⟨g1, g2, g3⟩ := cmp_facts p q
  obtain ⟨c, hc⟩ : ∃ c, Lib.compareBytes p q = c := ⟨_, rfl⟩
  rw [hc] at g1 g2 g3 K1
  rw [← g1] at L1
  rw [← g3] at L2
  obtain ⟨x1, hx1⟩ : ∃ b, decide (c < 0) = b := ⟨_, rfl⟩
  obtain ⟨x2, hx2⟩ : ∃ b, ((str p).toList == (str q).toList) = b := ⟨_, rfl⟩
  obtain ⟨x3, hx3⟩ : ∃ b, decide (0 < c) = b := ⟨_, rfl⟩
  rw [hx1] at L1
  rw [hx2] at g2
  rw [hx3] at L2
  have f1 : matT p s = true → matT q s = true → metT p q = true := mat_meet
  have f2 : covT p q = true → metT p q = true := cov_meet
  obtain ⟨m1, e1⟩ : ∃ b, matT p s = b := ⟨_, rfl⟩
  obtain ⟨m2, e2⟩ : ∃ b, matT q s = b := ⟨_, rfl⟩
  obtain ⟨t1, e3⟩ : ∃ b, metT p q = b := ⟨_, rfl⟩
  obtain ⟨c1, e4⟩ : ∃ b, covT p q = b := ⟨_, rfl⟩
  rw [e1] at M1 f1; rw [e2] at M2 f1; rw [e3] at T1 f1 f2; rw [e4] at C1 f2
  clear e1 e2 e3 e4 g1 g3 hc
  have hbb : ∀ b : Bool, (b == b) = true := fun b => by cases b <;> rfl
  have h0 := Below.refl w.heap.size w
  go_enter Try.func7, Try.ntmps7
  go_wp2_with fail
  refine (M1 _).mono ?_
  rintro _ w1 ⟨rfl, hb1⟩
  have h1 := h0.trans (hb1.mono h0.size)
  clear h0 hb1
  cases m1 with
  | false =>
    go_wp2_with fail
    refine (C1 _).mono ?_
    rintro _ w2 ⟨rfl, hb2⟩
    have h2 := h1.trans (hb2.mono h1.size)
    clear h1 hb2
    cases c1 with
    | false =>
      go_wp2_with fail
      refine (K1 _).mono ?_
      rintro _ w3 ⟨rfl, rfl⟩
      go_wp2_with fail
      refine (A _).mono ?_
      rintro _ w3 ⟨rfl, hb3⟩
      have h3 := h2.trans (hb3.mono h2.size)
      clear h2 hb3
      go_wp2_with fail
      refine (L1 _).mono ?_
      rintro _ w4 ⟨rfl, hb4⟩
      have h4 := h3.trans (hb4.mono h3.size)
      clear h3 hb4
      go_wp2_with fail
      refine (L2 _).mono ?_
      rintro _ w5 ⟨rfl, hb5⟩
      have h5 := h4.trans (hb5.mono h4.size)
      clear h4 hb5
      go_wp2_with fail
      go_ret
      exact ⟨by simp, h5⟩
    | true =>
      obtain rfl : t1 = true := by first | exact f2 rfl | simpa using f2
      go_wp2_with fail
      refine (T1 _).mono ?_
      rintro _ w3 ⟨rfl, hb3⟩
      have h3 := h2.trans (hb3.mono h2.size)
      clear h2 hb3
      go_wp2_with fail
      refine (K1 _).mono ?_
      rintro _ w4 ⟨rfl, rfl⟩
      go_wp2_with fail
      refine (A _).mono ?_
      rintro _ w4 ⟨rfl, hb4⟩
      have h4 := h3.trans (hb4.mono h3.size)
      clear h3 hb4
      go_wp2_with fail
      refine (L1 _).mono ?_
      rintro _ w5 ⟨rfl, hb5⟩
      have h5 := h4.trans (hb5.mono h4.size)
      clear h4 hb5
      go_wp2_with fail
      refine (L2 _).mono ?_
      rintro _ w6 ⟨rfl, hb6⟩
      have h6 := h5.trans (hb6.mono h5.size)
      clear h5 hb6
      go_wp2_with fail
      go_ret
      exact ⟨by simp, h6⟩
  | true =>
    go_wp2_with fail
    refine (M2 _).mono ?_
    rintro _ w2 ⟨rfl, hb2⟩
    have h2 := h1.trans (hb2.mono h1.size)
    clear h1 hb2
    cases m2 with
    | false =>
      go_wp2_with fail
      refine (C1 _).mono ?_
      rintro _ w3 ⟨rfl, hb3⟩
      have h3 := h2.trans (hb3.mono h2.size)
      clear h2 hb3
      cases c1 with
      | false =>
        go_wp2_with fail
        refine (K1 _).mono ?_
        rintro _ w4 ⟨rfl, rfl⟩
        go_wp2_with fail
        refine (A _).mono ?_
        rintro _ w4 ⟨rfl, hb4⟩
        have h4 := h3.trans (hb4.mono h3.size)
        clear h3 hb4
        go_wp2_with fail
        refine (L1 _).mono ?_
        rintro _ w5 ⟨rfl, hb5⟩
        have h5 := h4.trans (hb5.mono h4.size)
        clear h4 hb5
        go_wp2_with fail
        refine (L2 _).mono ?_
        rintro _ w6 ⟨rfl, hb6⟩
        have h6 := h5.trans (hb6.mono h5.size)
        clear h5 hb6
        go_wp2_with fail
        go_ret
        exact ⟨by simp, h6⟩
      | true =>
        obtain rfl : t1 = true := by first | exact f2 rfl | simpa using f2
        go_wp2_with fail
        refine (T1 _).mono ?_
        rintro _ w4 ⟨rfl, hb4⟩
        have h4 := h3.trans (hb4.mono h3.size)
        clear h3 hb4
        go_wp2_with fail
        refine (K1 _).mono ?_
        rintro _ w5 ⟨rfl, rfl⟩
        go_wp2_with fail
        refine (A _).mono ?_
        rintro _ w5 ⟨rfl, hb5⟩
        have h5 := h4.trans (hb5.mono h4.size)
        clear h4 hb5
        go_wp2_with fail
        refine (L1 _).mono ?_
        rintro _ w6 ⟨rfl, hb6⟩
        have h6 := h5.trans (hb6.mono h5.size)
        clear h5 hb6
        go_wp2_with fail
        refine (L2 _).mono ?_
        rintro _ w7 ⟨rfl, hb7⟩
        have h7 := h6.trans (hb7.mono h6.size)
        clear h6 hb7
        go_wp2_with fail
        go_ret
        exact ⟨by simp, h7⟩
    | true =>
      obtain rfl : t1 = true := by first | exact f1 rfl rfl | simpa using f1
      go_wp2_with fail
      refine (T1 _).mono ?_
      rintro _ w3 ⟨rfl, hb3⟩
      have h3 := h2.trans (hb3.mono h2.size)
      clear h2 hb3
      go_wp2_with fail
      refine (C1 _).mono ?_
      rintro _ w4 ⟨rfl, hb4⟩
      have h4 := h3.trans (hb4.mono h3.size)
      clear h3 hb4
      cases c1 with
      | false =>
        go_wp2_with fail
        refine (K1 _).mono ?_
        rintro _ w5 ⟨rfl, rfl⟩
        go_wp2_with fail
        refine (A _).mono ?_
        rintro _ w5 ⟨rfl, hb5⟩
        have h5 := h4.trans (hb5.mono h4.size)
        clear h4 hb5
        go_wp2_with fail
        refine (L1 _).mono ?_
        rintro _ w6 ⟨rfl, hb6⟩
        have h6 := h5.trans (hb6.mono h5.size)
        clear h5 hb6
        go_wp2_with fail
        refine (L2 _).mono ?_
        rintro _ w7 ⟨rfl, hb7⟩
        have h7 := h6.trans (hb7.mono h6.size)
        clear h6 hb7
        go_wp2_with fail
        go_ret
        exact ⟨by simp, h7⟩
      | true =>
        go_wp2_with fail
        refine (T1 _).mono ?_
        rintro _ w5 ⟨rfl, hb5⟩
        have h5 := h4.trans (hb5.mono h4.size)
        clear h4 hb5
        go_wp2_with fail
        refine (K1 _).mono ?_
        rintro _ w6 ⟨rfl, rfl⟩
        go_wp2_with fail
        refine (A _).mono ?_
        rintro _ w6 ⟨rfl, hb6⟩
        have h6 := h5.trans (hb6.mono h5.size)
        clear h5 hb6
        go_wp2_with fail
        refine (L1 _).mono ?_
        rintro _ w7 ⟨rfl, hb7⟩
        have h7 := h6.trans (hb7.mono h6.size)
        clear h6 hb7
        go_wp2_with fail
        refine (L2 _).mono ?_
        rintro _ w8 ⟨rfl, hb8⟩
        have h8 := h7.trans (hb8.mono h7.size)
        clear h7 hb8
        go_wp2_with fail
        go_ret
        exact ⟨by simp, h8⟩

set_option maxRecDepth 100000 in
theorem lifted (os : Os) (started : os.Started) (H : Type) (enc : TypeId × Value → H) :
    ReturnsInHanded {} Try.checked os 7 .any (Rows.patternMeetsSpec.pre6 enc Try.prog Try.f7 Rows.patternMeetsRow.domain false) (Rows.patternMeetsSpec.post enc Try.prog Try.f7 false true false false) := by
  refine returnsInHanded_of_change_sized (C := Try.checked) own started (by kernel_rfl) Try.func7
    (ChangeSpec.witness6 (enc := enc) (C := Try.checked) false ⟨#[], #[.string ⟨#[]⟩, .string ⟨#[]⟩, .string ⟨#[]⟩], []⟩ 8 (by kernel_rfl) (by kernel_rfl) (by kernel_rfl) (by kernel_rfl)) ?_
  intro W base args ds gs before hval0 hW hcnd hsz0 _
  have hsz : (DataW.weightsEach Try.prog (Try.f7.params.toList ++ Rows.patternMeetsSpec.plain.varTypes Try.prog) (ds ++ gs)).all (· ≤ reachBytes) = true := hsz0
  clear hsz0
  have hval : ∀ (j : Nat) t v, Try.f7.params[j]? = some t → args[j]? = some v → Value.okWide Try.prog W .any base t v := hval0
  have hW' := hW
  obtain ⟨p, q, hA0, hV, rfl, hfz, hnd⟩ := hW
  have hA : DataW.TrodAll enc Try.prog W 0 (fun _ => true) true Try.f7.params.toList args.toList ds p := hA0
  rw [Try.params7] at hA hval hsz
  obtain ⟨v0, vs0, d0, ds0, p0, q0, hargs, rfl, rfl, h0, r0⟩ := trodAll_cons hA
  obtain ⟨v1, vs1, d1, ds1, p1, q1, rfl, rfl, rfl, h1, r1⟩ := trodAll_cons r0
  obtain ⟨v2, vs2, d2, ds2, p2, q2, rfl, rfl, rfl, h2, r2⟩ := trodAll_cons r1
  obtain ⟨rfl, rfl, rfl⟩ := trodAll_nil r2
  obtain rfl : args = #[v0, v1, v2] := by cases args; simp_all
  obtain ⟨s0, rfl, rfl, rfl, ws0⟩ := open_string Try.underlying9 (hval 0 9 v0 rfl rfl) h0
  obtain ⟨s1, rfl, rfl, rfl, ws1⟩ := open_string Try.underlying9 (hval 1 9 v1 rfl rfl) h1
  obtain ⟨s2, rfl, rfl, rfl, ws2⟩ := open_string Try.underlying9 (hval 2 9 v2 rfl rfl) h2
  have hs0 : s0.data.toList.length ≤ 140737488355328 := by
    have h1 := sized_string hsz (j := 0) (t := 9) rfl rfl
    have h2 := reachBytes_lt
    omega
  have hs1 : s1.data.toList.length ≤ 140737488355328 := by
    have h1 := sized_string hsz (j := 1) (t := 9) rfl rfl
    have h2 := reachBytes_lt
    omega
  have hs2 : s2.data.toList.length ≤ 140737488355328 := by
    have h1 := sized_string hsz (j := 2) (t := 9) rfl rfl
    have h2 := reachBytes_lt
    omega
  have hw := walk s0.data.toList s1.data.toList s2.data.toList hs0 hs1 hs2 W
  rw [str_eq, str_eq, str_eq] at hw
  refine hw.mono fun e W' ⟨he, hb⟩ => ?_
  subst he
  exact ⟨_, rfl, post_law hW' hb laidOut rfl rfl rfl Try.underlying4 (by rw [Try.params7]; decide +kernel)⟩

theorem over : Rows.patternMeetsRow.holds Try.pinned (OpenSpec.ofChange Rows.patternMeetsSpec) :=
  OpenClaim.holds_of_wide 7 Try.f7 rfl rfl rfl rfl rfl rfl rfl ⟨rfl, rfl, rfl, rfl, rfl⟩ rfl rfl rfl rfl rfl (by kernel_rfl) Try.func7 (by kernel_rfl)
    (of_decide_eq_true (by kernel_rfl)) (by unfold Func.isWrapper; first | (rw [if_pos (by decide +kernel)]; kernel_rfl) | (rw [if_neg (by decide +kernel)]; exact ⟨rfl, rfl⟩))
    (fun os started H enc _ => lifted os started H enc)

theorem proved : Rows.PatternMeetsSaid := over
#print axioms proved
end Go.Proofs.Ytfgjnhgaphcgcaa.patternMeets
