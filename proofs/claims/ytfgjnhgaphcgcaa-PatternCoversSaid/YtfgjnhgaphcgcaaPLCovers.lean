/-
  PatternCovers: which pattern covers which, and which of them meet: the program answers as the document says, and meeting is the same from either side. No condition.
-/
import Derived.Test.YtfgjnhgaphcgcaaRows
import Derived.Test.YtfgjnhgaphcgcaaP8RefE
import Derived.Test.YtfgjnhgaphcgcaaKLaw
import Derived.SizedLaws
namespace Go.Proofs.Ytfgjnhgaphcgcaa.patternCovers
open Go.ChangeShapes Go.WideShapes Go.ChangeAt Go.RowKit Go.Shelf Go.Proofs
open Go.ChangeMaps (open_string shut_string)
open Go.Proofs.Ytfgjnhgaphcgcaa.P8 Go.Proofs.Ytfgjnhgaphcgcaa.K Go.Proofs.Ytfgjnhgaphcgcaa.B
set_option linter.unusedVariables false

theorem own : ownKnob Try.prog.godebug = none := by kernel_rfl
theorem laidOut : laidOutB Try.prog = true := by kernel_rfl

theorem met_symm (p q : List UInt8) : metT p q = metT q p := by
  unfold metT
  cases hp : patP p
  · cases hq : patP q <;> simp
  · cases hq : patP q
    · simp
    · rw [meets_symm _ _ (pat_all hp).2.1 (pat_all hq).2.1]

set_option maxHeartbeats 2000000 in
set_option maxRecDepth 100000 in
theorem walk (p q : List UInt8) (hp : p.length ≤ 140737488355328) (hq : q.length ≤ 140737488355328) (w : World) :
    Calls Try.prog 4 #[.string (str p), .string (str q)] w fun e w' => e = .returned (.bool true) ∧ Below w.heap.size w w' := by
  have A := fun W => awake_any W
  have S1 := fun W => covers_any p q (by omega) (by omega) W
  have S2 := fun W => refCoversT_any p q (by omega) (by omega) W
  have P1 := fun W => meets_any p q (by omega) (by omega) W
  have P2 := fun W => refMeetsT_any p q (by omega) (by omega) W
  have Q2 := fun W => meets_any q p (by omega) (by omega) W
  rw [met_symm q p] at Q2
  have hbb : ∀ b : Bool, (b == b) = true := fun b => by cases b <;> rfl
  obtain ⟨b1, e1⟩ : ∃ b, covT p q = b := ⟨_, rfl⟩
  obtain ⟨b2, e2⟩ : ∃ b, metT p q = b := ⟨_, rfl⟩
  rw [e1] at S1 S2; rw [e2] at P1 P2 Q2
  clear e1 e2
  have h0 := Below.refl w.heap.size w
  go_enter Try.func4, Try.ntmps4
  go_wp2_with fail
  refine (A _).mono ?_
  rintro _ w1 ⟨rfl, hb1⟩
  have h1 := h0.trans (hb1.mono h0.size)
  clear h0 hb1
  go_wp2_with fail
  refine (S1 _).mono ?_
  rintro _ w2 ⟨rfl, hb2⟩
  have h2 := h1.trans (hb2.mono h1.size)
  clear h1 hb2
  go_wp2_with fail
  refine (S2 _).mono ?_
  rintro _ w3 ⟨rfl, hb3⟩
  have h3 := h2.trans (hb3.mono h2.size)
  clear h2 hb3
  go_wp2_with fail
  refine (P1 _).mono ?_
  rintro _ w4 ⟨rfl, hb4⟩
  have h4 := h3.trans (hb4.mono h3.size)
  clear h3 hb4
  go_wp2_with fail
  refine (P2 _).mono ?_
  rintro _ w5 ⟨rfl, hb5⟩
  have h5 := h4.trans (hb5.mono h4.size)
  clear h4 hb5
  go_wp2_with fail
  refine (P1 _).mono ?_
  rintro _ w6 ⟨rfl, hb6⟩
  have h6 := h5.trans (hb6.mono h5.size)
  clear h5 hb6
  go_wp2_with fail
  refine (Q2 _).mono ?_
  rintro _ w7 ⟨rfl, hb7⟩
  have h7 := h6.trans (hb7.mono h6.size)
  clear h6 hb7
  go_wp2_with fail
  go_ret
  exact ⟨by simp, h7⟩

set_option maxRecDepth 100000 in
theorem lifted (os : Os) (started : os.Started) (H : Type) (enc : TypeId × Value → H) :
    ReturnsInHanded {} Try.checked os 4 .any (Rows.patternCoversSpec.pre6 enc Try.prog Try.f4 Rows.patternCoversRow.domain false) (Rows.patternCoversSpec.post enc Try.prog Try.f4 false true false false) := by
  refine returnsInHanded_of_change_sized (C := Try.checked) own started (by kernel_rfl) Try.func4
    (ChangeSpec.witness6 (enc := enc) (C := Try.checked) false ⟨#[], #[.string ⟨#[]⟩, .string ⟨#[]⟩], []⟩ 8 (by kernel_rfl) (by kernel_rfl) (by kernel_rfl) (by kernel_rfl)) ?_
  intro W base args ds gs before hval0 hW hcnd hsz0 _
  have hsz : (DataW.weightsEach Try.prog (Try.f4.params.toList ++ Rows.patternCoversSpec.plain.varTypes Try.prog) (ds ++ gs)).all (· ≤ reachBytes) = true := hsz0
  clear hsz0
  have hval : ∀ (j : Nat) t v, Try.f4.params[j]? = some t → args[j]? = some v → Value.okWide Try.prog W .any base t v := hval0
  have hW' := hW
  obtain ⟨p, q, hA0, hV, rfl, hfz, hnd⟩ := hW
  have hA : DataW.TrodAll enc Try.prog W 0 (fun _ => true) true Try.f4.params.toList args.toList ds p := hA0
  rw [Try.params4] at hA hval hsz
  obtain ⟨v0, vs0, d0, ds0, p0, q0, hargs, rfl, rfl, h0, r0⟩ := trodAll_cons hA
  obtain ⟨v1, vs1, d1, ds1, p1, q1, rfl, rfl, rfl, h1, r1⟩ := trodAll_cons r0
  obtain ⟨rfl, rfl, rfl⟩ := trodAll_nil r1
  obtain rfl : args = #[v0, v1] := by cases args; simp_all
  obtain ⟨s0, rfl, rfl, rfl, ws0⟩ := open_string Try.underlying9 (hval 0 9 v0 rfl rfl) h0
  obtain ⟨s1, rfl, rfl, rfl, ws1⟩ := open_string Try.underlying9 (hval 1 9 v1 rfl rfl) h1
  have hs0 : s0.data.toList.length ≤ 140737488355328 := by
    have h1 := sized_string hsz (j := 0) (t := 9) rfl rfl
    have h2 := reachBytes_lt
    omega
  have hs1 : s1.data.toList.length ≤ 140737488355328 := by
    have h1 := sized_string hsz (j := 1) (t := 9) rfl rfl
    have h2 := reachBytes_lt
    omega
  have hw := walk s0.data.toList s1.data.toList hs0 hs1 W
  rw [str_eq, str_eq] at hw
  refine hw.mono fun e W' ⟨he, hb⟩ => ?_
  subst he
  exact ⟨_, rfl, post_law hW' hb laidOut rfl rfl rfl Try.underlying4 (by rw [Try.params4]; decide +kernel)⟩

theorem over : Rows.patternCoversRow.holds Try.pinned (OpenSpec.ofChange Rows.patternCoversSpec) :=
  OpenClaim.holds_of_wide 4 Try.f4 rfl rfl rfl rfl rfl rfl rfl ⟨rfl, rfl, rfl, rfl, rfl⟩ rfl rfl rfl rfl rfl (by kernel_rfl) Try.func4 (by kernel_rfl)
    (of_decide_eq_true (by kernel_rfl)) (by unfold Func.isWrapper; first | (rw [if_pos (by decide +kernel)]; kernel_rfl) | (rw [if_neg (by decide +kernel)]; exact ⟨rfl, rfl⟩))
    (fun os started H enc _ => lifted os started H enc)

theorem proved : Rows.PatternCoversSaid := over
#print axioms proved
end Go.Proofs.Ytfgjnhgaphcgcaa.patternCovers
