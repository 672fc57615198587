/-
  PatternMatches: which texts are names and patterns, and which pattern matches which name: the program answers as the document says. No condition.
-/
import Derived.Test.YtfgjnhgaphcgcaaRows
import Derived.Test.YtfgjnhgaphcgcaaP8RefE
import Derived.Test.YtfgjnhgaphcgcaaKLaw
import Derived.SizedLaws
namespace Go.Proofs.Ytfgjnhgaphcgcaa.patternMatches
open Go.ChangeShapes Go.WideShapes Go.ChangeAt Go.RowKit Go.Shelf Go.Proofs
open Go.ChangeMaps (open_string shut_string)
open Go.Proofs.Ytfgjnhgaphcgcaa.P8 Go.Proofs.Ytfgjnhgaphcgcaa.K Go.Proofs.Ytfgjnhgaphcgcaa.B
set_option linter.unusedVariables false

theorem own : ownKnob Try.prog.godebug = none := by kernel_rfl
theorem laidOut : laidOutB Try.prog = true := by kernel_rfl


set_option maxHeartbeats 2000000 in
set_option maxRecDepth 100000 in
theorem walk (p s : List UInt8) (hp : p.length ≤ 140737488355328) (hs : s.length ≤ 140737488355328) (w : World) :
    Calls Try.prog 3 #[.string (str p), .string (str s)] w fun e w' => e = .returned (.bool true) ∧ Below w.heap.size w w' := by
  have A := fun W => awake_any W
  have S1 := fun W => stream_any s (by omega) W
  have S2 := fun W => refStream_any s (by omega) W
  have P1 := fun W => pattern_any p (by omega) W
  have P2 := fun W => refPattern_any p (by omega) W
  have Q1 := fun W => pattern_any s (by omega) W
  have Q2 := fun W => refPattern_any s (by omega) W
  have M1 := fun W => match_any p s (by omega) (by omega) W
  have M2 := fun W => refMatchT_any p s (by omega) (by omega) W
  have hbb : ∀ b : Bool, (b == b) = true := fun b => by cases b <;> rfl
  obtain ⟨b1, e1⟩ : ∃ b, streamP s = b := ⟨_, rfl⟩
  obtain ⟨b2, e2⟩ : ∃ b, patP p = b := ⟨_, rfl⟩
  obtain ⟨b3, e3⟩ : ∃ b, patP s = b := ⟨_, rfl⟩
  obtain ⟨b4, e4⟩ : ∃ b, matT p s = b := ⟨_, rfl⟩
  rw [e1] at S1 S2; rw [e2] at P1 P2; rw [e3] at Q1 Q2; rw [e4] at M1 M2
  clear e1 e2 e3 e4
  have h0 := Below.refl w.heap.size w
  go_enter Try.func3, Try.ntmps3
  go_wp2_with fail
  refine (A _).mono ?_
  rintro _ w1 ⟨rfl, hb1⟩
  have h1 := h0.trans (hb1.mono h0.size)
  clear h0 hb1
  go_wp2_with fail
  refine (S1 _).mono ?_
  rintro _ w2 ⟨rfl, hb2⟩
  have h2 := h1.trans (hb2.mono h1.size)
  clear h1 hb2
  go_wp2_with fail
  refine (S2 _).mono ?_
  rintro _ w3 ⟨rfl, hb3⟩
  have h3 := h2.trans (hb3.mono h2.size)
  clear h2 hb3
  go_wp2_with fail
  refine (P1 _).mono ?_
  rintro _ w4 ⟨rfl, hb4⟩
  have h4 := h3.trans (hb4.mono h3.size)
  clear h3 hb4
  go_wp2_with fail
  refine (P2 _).mono ?_
  rintro _ w5 ⟨rfl, hb5⟩
  have h5 := h4.trans (hb5.mono h4.size)
  clear h4 hb5
  go_wp2_with fail
  refine (Q1 _).mono ?_
  rintro _ w6 ⟨rfl, hb6⟩
  have h6 := h5.trans (hb6.mono h5.size)
  clear h5 hb6
  go_wp2_with fail
  refine (Q2 _).mono ?_
  rintro _ w7 ⟨rfl, hb7⟩
  have h7 := h6.trans (hb7.mono h6.size)
  clear h6 hb7
  go_wp2_with fail
  refine (M1 _).mono ?_
  rintro _ w8 ⟨rfl, hb8⟩
  have h8 := h7.trans (hb8.mono h7.size)
  clear h7 hb8
  go_wp2_with fail
  refine (M2 _).mono ?_
  rintro _ w9 ⟨rfl, hb9⟩
  have h9 := h8.trans (hb9.mono h8.size)
  clear h8 hb9
  go_wp2_with fail
  go_ret
  exact ⟨by simp, h9⟩

set_option maxRecDepth 100000 in
theorem lifted (os : Os) (started : os.Started) (H : Type) (enc : TypeId × Value → H) :
    ReturnsInHanded {} Try.checked os 3 .any (Rows.patternMatchesSpec.pre6 enc Try.prog Try.f3 Rows.patternMatchesRow.domain false) (Rows.patternMatchesSpec.post enc Try.prog Try.f3 false true false false) := by
  refine returnsInHanded_of_change_sized (C := Try.checked) own started (by kernel_rfl) Try.func3
    (ChangeSpec.witness6 (enc := enc) (C := Try.checked) false ⟨#[], #[.string ⟨#[]⟩, .string ⟨#[]⟩], []⟩ 8 (by kernel_rfl) (by kernel_rfl) (by kernel_rfl) (by kernel_rfl)) ?_
  intro W base args ds gs before hval0 hW hcnd hsz0 _
  have hsz : (DataW.weightsEach Try.prog (Try.f3.params.toList ++ Rows.patternMatchesSpec.plain.varTypes Try.prog) (ds ++ gs)).all (· ≤ reachBytes) = true := hsz0
  clear hsz0
  have hval : ∀ (j : Nat) t v, Try.f3.params[j]? = some t → args[j]? = some v → Value.okWide Try.prog W .any base t v := hval0
  have hW' := hW
  obtain ⟨p, q, hA0, hV, rfl, hfz, hnd⟩ := hW
  have hA : DataW.TrodAll enc Try.prog W 0 (fun _ => true) true Try.f3.params.toList args.toList ds p := hA0
  rw [Try.params3] at hA hval hsz
  obtain ⟨v0, vs0, d0, ds0, p0, q0, hargs, rfl, rfl, h0, r0⟩ := trodAll_cons hA
  obtain ⟨v1, vs1, d1, ds1, p1, q1, rfl, rfl, rfl, h1, r1⟩ := trodAll_cons r0
  obtain ⟨rfl, rfl, rfl⟩ := trodAll_nil r1
  obtain rfl : args = #[v0, v1] := by cases args; simp_all
  obtain ⟨s0, rfl, rfl, rfl, ws0⟩ := open_string Try.underlying9 (hval 0 9 v0 rfl rfl) h0
  obtain ⟨s1, rfl, rfl, rfl, ws1⟩ := open_string Try.underlying9 (hval 1 9 v1 rfl rfl) h1
  have hs0 : s0.data.toList.length ≤ 140737488355328 := by
    have h1 := sized_string hsz (j := 0) (t := 9) rfl rfl
    have h2 := reachBytes_lt
    omega
  have hs1 : s1.data.toList.length ≤ 140737488355328 := by
    have h1 := sized_string hsz (j := 1) (t := 9) rfl rfl
    have h2 := reachBytes_lt
    omega
  have hw := walk s0.data.toList s1.data.toList hs0 hs1 W
  rw [str_eq, str_eq] at hw
  refine hw.mono fun e W' ⟨he, hb⟩ => ?_
  subst he
  exact ⟨_, rfl, post_law hW' hb laidOut rfl rfl rfl Try.underlying4 (by rw [Try.params3]; decide +kernel)⟩

theorem over : Rows.patternMatchesRow.holds Try.pinned (OpenSpec.ofChange Rows.patternMatchesSpec) :=
  OpenClaim.holds_of_wide 3 Try.f3 rfl rfl rfl rfl rfl rfl rfl ⟨rfl, rfl, rfl, rfl, rfl⟩ rfl rfl rfl rfl rfl (by kernel_rfl) Try.func3 (by kernel_rfl)
    (of_decide_eq_true (by kernel_rfl)) (by unfold Func.isWrapper; first | (rw [if_pos (by decide +kernel)]; kernel_rfl) | (rw [if_neg (by decide +kernel)]; exact ⟨rfl, rfl⟩))
    (fun os started H enc _ => lifted os started H enc)

theorem proved : Rows.PatternMatchesSaid := over
#print axioms proved
end Go.Proofs.Ytfgjnhgaphcgcaa.patternMatches
