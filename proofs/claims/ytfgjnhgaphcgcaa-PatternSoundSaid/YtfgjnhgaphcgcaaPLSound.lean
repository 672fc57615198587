/-
  PatternSound: what a pattern matches, each one that covers it matches, too; covering goes on over a third one; each pattern covers itself. No condition.
-/
import Derived.Test.YtfgjnhgaphcgcaaRows
import Derived.Test.YtfgjnhgaphcgcaaP8RefE
import Derived.Test.YtfgjnhgaphcgcaaKLaw
import Derived.SizedLaws
namespace Go.Proofs.Ytfgjnhgaphcgcaa.patternSound
open Go.ChangeShapes Go.WideShapes Go.ChangeAt Go.RowKit Go.Shelf Go.Proofs
open Go.ChangeMaps (open_string shut_string)
open Go.Proofs.Ytfgjnhgaphcgcaa.P8 Go.Proofs.Ytfgjnhgaphcgcaa.K Go.Proofs.Ytfgjnhgaphcgcaa.B
set_option linter.unusedVariables false

theorem own : ownKnob Try.prog.godebug = none := by kernel_rfl
theorem laidOut : laidOutB Try.prog = true := by kernel_rfl

theorem cov_parts {p q : List UInt8} (h : covT p q = true) : patP p = true ∧ patP q = true ∧ coversL (parts p) (parts q) = true := by
  simpa [covT] using h

theorem cov_trans {p q s : List UInt8} (h1 : covT p q = true) (h2 : covT q s = true) : covT p s = true := by
  obtain ⟨a, b, c⟩ := cov_parts h1
  obtain ⟨_, e, f⟩ := cov_parts h2
  unfold covT
  rw [a, e, covers_trans _ _ _ (pat_all a).2.1 (pat_all b).2.1 (pat_all e).2.1 c f]; rfl

theorem mat_trans {p q s : List UInt8} (h1 : covT p q = true) (h2 : matT q s = true) : matT p s = true := by
  rw [mat_cov, Bool.and_eq_true] at h2 ⊢
  exact ⟨h2.1, cov_trans h1 h2.2⟩

theorem cov_self (p : List UInt8) : covT p p = patP p := by
  unfold covT
  cases hp : patP p
  · rfl
  · rw [covers_self _ (pat_all hp).2.1]; rfl

set_option maxHeartbeats 2000000 in
set_option maxRecDepth 100000 in
theorem walk (p q s : List UInt8) (hp : p.length ≤ 140737488355328) (hq : q.length ≤ 140737488355328) (hs : s.length ≤ 140737488355328) (w : World) :
    Calls Try.prog 5 #[.string (str p), .string (str q), .string (str s)] w fun e w' => e = .returned (.bool true) ∧ Below w.heap.size w w' := by
  have C1 := fun W => covers_any p q (by omega) (by omega) W
  have M1 := fun W => match_any q s (by omega) (by omega) W
  have M2 := fun W => match_any p s (by omega) (by omega) W
  have C2 := fun W => covers_any q s (by omega) (by omega) W
  have C3 := fun W => covers_any p s (by omega) (by omega) W
  have A := fun W => awake_any W
  have C4 := fun W => covers_any p p (by omega) (by omega) W
  have P2 := fun W => refPattern_any p (by omega) W
  rw [cov_self p] at C4
  have f1 : covT p q = true → matT q s = true → matT p s = true := mat_trans
  have f2 : covT p q = true → covT q s = true → covT p s = true := cov_trans
  obtain ⟨c1, e1⟩ : ∃ b, covT p q = b := ⟨_, rfl⟩
  obtain ⟨m1, e2⟩ : ∃ b, matT q s = b := ⟨_, rfl⟩
  obtain ⟨m2, e3⟩ : ∃ b, matT p s = b := ⟨_, rfl⟩
  obtain ⟨c2, e4⟩ : ∃ b, covT q s = b := ⟨_, rfl⟩
  obtain ⟨c3, e5⟩ : ∃ b, covT p s = b := ⟨_, rfl⟩
  obtain ⟨b1, e6⟩ : ∃ b, patP p = b := ⟨_, rfl⟩
  rw [e1] at C1 f1 f2; rw [e2] at M1 f1; rw [e3] at M2 f1; rw [e4] at C2 f2; rw [e5] at C3 f2; rw [e6] at C4 P2
  clear e1 e2 e3 e4 e5 e6
  have hbb : ∀ b : Bool, (b == b) = true := fun b => by cases b <;> rfl
  have h0 := Below.refl w.heap.size w
  go_enter Try.func5, Try.ntmps5
  go_wp2_with fail
  refine (C1 _).mono ?_
  rintro _ w1 ⟨rfl, hb1⟩
  have h1 := h0.trans (hb1.mono h0.size)
  clear h0 hb1
  cases c1 with
  | false =>
    go_wp2_with fail
    refine (C1 _).mono ?_
    rintro _ w2 ⟨rfl, hb2⟩
    have h2 := h1.trans (hb2.mono h1.size)
    clear h1 hb2
    go_wp2_with fail
    refine (A _).mono ?_
    rintro _ w3 ⟨rfl, hb3⟩
    have h3 := h2.trans (hb3.mono h2.size)
    clear h2 hb3
    go_wp2_with fail
    refine (C4 _).mono ?_
    rintro _ w4 ⟨rfl, hb4⟩
    have h4 := h3.trans (hb4.mono h3.size)
    clear h3 hb4
    go_wp2_with fail
    refine (P2 _).mono ?_
    rintro _ w5 ⟨rfl, hb5⟩
    have h5 := h4.trans (hb5.mono h4.size)
    clear h4 hb5
    go_wp2_with fail
    go_ret
    exact ⟨by simp, h5⟩
  | true =>
    go_wp2_with fail
    refine (M1 _).mono ?_
    rintro _ w2 ⟨rfl, hb2⟩
    have h2 := h1.trans (hb2.mono h1.size)
    clear h1 hb2
    cases m1 with
    | false =>
      go_wp2_with fail
      refine (C1 _).mono ?_
      rintro _ w3 ⟨rfl, hb3⟩
      have h3 := h2.trans (hb3.mono h2.size)
      clear h2 hb3
      go_wp2_with fail
      refine (C2 _).mono ?_
      rintro _ w4 ⟨rfl, hb4⟩
      have h4 := h3.trans (hb4.mono h3.size)
      clear h3 hb4
      cases c2 with
      | false =>
        go_wp2_with fail
        refine (A _).mono ?_
        rintro _ w5 ⟨rfl, hb5⟩
        have h5 := h4.trans (hb5.mono h4.size)
        clear h4 hb5
        go_wp2_with fail
        refine (C4 _).mono ?_
        rintro _ w6 ⟨rfl, hb6⟩
        have h6 := h5.trans (hb6.mono h5.size)
        clear h5 hb6
        go_wp2_with fail
        refine (P2 _).mono ?_
        rintro _ w7 ⟨rfl, hb7⟩
        have h7 := h6.trans (hb7.mono h6.size)
        clear h6 hb7
        go_wp2_with fail
        go_ret
        exact ⟨by simp, h7⟩
      | true =>
        obtain rfl : c3 = true := by first | exact f2 rfl rfl | simpa using f2
        go_wp2_with fail
        refine (C3 _).mono ?_
        rintro _ w5 ⟨rfl, hb5⟩
        have h5 := h4.trans (hb5.mono h4.size)
        clear h4 hb5
        go_wp2_with fail
        refine (A _).mono ?_
        rintro _ w6 ⟨rfl, hb6⟩
        have h6 := h5.trans (hb6.mono h5.size)
        clear h5 hb6
        go_wp2_with fail
        refine (C4 _).mono ?_
        rintro _ w7 ⟨rfl, hb7⟩
        have h7 := h6.trans (hb7.mono h6.size)
        clear h6 hb7
        go_wp2_with fail
        refine (P2 _).mono ?_
        rintro _ w8 ⟨rfl, hb8⟩
        have h8 := h7.trans (hb8.mono h7.size)
        clear h7 hb8
        go_wp2_with fail
        go_ret
        exact ⟨by simp, h8⟩
    | true =>
      obtain rfl : m2 = true := by first | exact f1 rfl rfl | simpa using f1
      go_wp2_with fail
      refine (M2 _).mono ?_
      rintro _ w3 ⟨rfl, hb3⟩
      have h3 := h2.trans (hb3.mono h2.size)
      clear h2 hb3
      go_wp2_with fail
      refine (C1 _).mono ?_
      rintro _ w4 ⟨rfl, hb4⟩
      have h4 := h3.trans (hb4.mono h3.size)
      clear h3 hb4
      go_wp2_with fail
      refine (C2 _).mono ?_
      rintro _ w5 ⟨rfl, hb5⟩
      have h5 := h4.trans (hb5.mono h4.size)
      clear h4 hb5
      cases c2 with
      | false =>
        go_wp2_with fail
        refine (A _).mono ?_
        rintro _ w6 ⟨rfl, hb6⟩
        have h6 := h5.trans (hb6.mono h5.size)
        clear h5 hb6
        go_wp2_with fail
        refine (C4 _).mono ?_
        rintro _ w7 ⟨rfl, hb7⟩
        have h7 := h6.trans (hb7.mono h6.size)
        clear h6 hb7
        go_wp2_with fail
        refine (P2 _).mono ?_
        rintro _ w8 ⟨rfl, hb8⟩
        have h8 := h7.trans (hb8.mono h7.size)
        clear h7 hb8
        go_wp2_with fail
        go_ret
        exact ⟨by simp, h8⟩
      | true =>
        obtain rfl : c3 = true := by first | exact f2 rfl rfl | simpa using f2
        go_wp2_with fail
        refine (C3 _).mono ?_
        rintro _ w6 ⟨rfl, hb6⟩
        have h6 := h5.trans (hb6.mono h5.size)
        clear h5 hb6
        go_wp2_with fail
        refine (A _).mono ?_
        rintro _ w7 ⟨rfl, hb7⟩
        have h7 := h6.trans (hb7.mono h6.size)
        clear h6 hb7
        go_wp2_with fail
        refine (C4 _).mono ?_
        rintro _ w8 ⟨rfl, hb8⟩
        have h8 := h7.trans (hb8.mono h7.size)
        clear h7 hb8
        go_wp2_with fail
        refine (P2 _).mono ?_
        rintro _ w9 ⟨rfl, hb9⟩
        have h9 := h8.trans (hb9.mono h8.size)
        clear h8 hb9
        go_wp2_with fail
        go_ret
        exact ⟨by simp, h9⟩

set_option maxRecDepth 100000 in
theorem lifted (os : Os) (started : os.Started) (H : Type) (enc : TypeId × Value → H) :
    ReturnsInHanded {} Try.checked os 5 .any (Rows.patternSoundSpec.pre6 enc Try.prog Try.f5 Rows.patternSoundRow.domain false) (Rows.patternSoundSpec.post enc Try.prog Try.f5 false true false false) := by
  refine returnsInHanded_of_change_sized (C := Try.checked) own started (by kernel_rfl) Try.func5
    (ChangeSpec.witness6 (enc := enc) (C := Try.checked) false ⟨#[], #[.string ⟨#[]⟩, .string ⟨#[]⟩, .string ⟨#[]⟩], []⟩ 8 (by kernel_rfl) (by kernel_rfl) (by kernel_rfl) (by kernel_rfl)) ?_
  intro W base args ds gs before hval0 hW hcnd hsz0 _
  have hsz : (DataW.weightsEach Try.prog (Try.f5.params.toList ++ Rows.patternSoundSpec.plain.varTypes Try.prog) (ds ++ gs)).all (· ≤ reachBytes) = true := hsz0
  clear hsz0
  have hval : ∀ (j : Nat) t v, Try.f5.params[j]? = some t → args[j]? = some v → Value.okWide Try.prog W .any base t v := hval0
  have hW' := hW
  obtain ⟨p, q, hA0, hV, rfl, hfz, hnd⟩ := hW
  have hA : DataW.TrodAll enc Try.prog W 0 (fun _ => true) true Try.f5.params.toList args.toList ds p := hA0
  rw [Try.params5] at hA hval hsz
  obtain ⟨v0, vs0, d0, ds0, p0, q0, hargs, rfl, rfl, h0, r0⟩ := trodAll_cons hA
  obtain ⟨v1, vs1, d1, ds1, p1, q1, rfl, rfl, rfl, h1, r1⟩ := trodAll_cons r0
  obtain ⟨v2, vs2, d2, ds2, p2, q2, rfl, rfl, rfl, h2, r2⟩ := trodAll_cons r1
  obtain ⟨rfl, rfl, rfl⟩ := trodAll_nil r2
  obtain rfl : args = #[v0, v1, v2] := by cases args; simp_all
  obtain ⟨s0, rfl, rfl, rfl, ws0⟩ := open_string Try.underlying9 (hval 0 9 v0 rfl rfl) h0
  obtain ⟨s1, rfl, rfl, rfl, ws1⟩ := open_string Try.underlying9 (hval 1 9 v1 rfl rfl) h1
  obtain ⟨s2, rfl, rfl, rfl, ws2⟩ := open_string Try.underlying9 (hval 2 9 v2 rfl rfl) h2
  have hs0 : s0.data.toList.length ≤ 140737488355328 := by
    have h1 := sized_string hsz (j := 0) (t := 9) rfl rfl
    have h2 := reachBytes_lt
    omega
  have hs1 : s1.data.toList.length ≤ 140737488355328 := by
    have h1 := sized_string hsz (j := 1) (t := 9) rfl rfl
    have h2 := reachBytes_lt
    omega
  have hs2 : s2.data.toList.length ≤ 140737488355328 := by
    have h1 := sized_string hsz (j := 2) (t := 9) rfl rfl
    have h2 := reachBytes_lt
    omega
  have hw := walk s0.data.toList s1.data.toList s2.data.toList hs0 hs1 hs2 W
  rw [str_eq, str_eq, str_eq] at hw
  refine hw.mono fun e W' ⟨he, hb⟩ => ?_
  subst he
  exact ⟨_, rfl, post_law hW' hb laidOut rfl rfl rfl Try.underlying4 (by rw [Try.params5]; decide +kernel)⟩

theorem over : Rows.patternSoundRow.holds Try.pinned (OpenSpec.ofChange Rows.patternSoundSpec) :=
  OpenClaim.holds_of_wide 5 Try.f5 rfl rfl rfl rfl rfl rfl rfl ⟨rfl, rfl, rfl, rfl, rfl⟩ rfl rfl rfl rfl rfl (by kernel_rfl) Try.func5 (by kernel_rfl)
    (of_decide_eq_true (by kernel_rfl)) (by unfold Func.isWrapper; first | (rw [if_pos (by decide +kernel)]; kernel_rfl) | (rw [if_neg (by decide +kernel)]; exact ⟨rfl, rfl⟩))
    (fun os started H enc _ => lifted os started H enc)

theorem proved : Rows.PatternSoundSaid := over
#print axioms proved
end Go.Proofs.Ytfgjnhgaphcgcaa.patternSound
