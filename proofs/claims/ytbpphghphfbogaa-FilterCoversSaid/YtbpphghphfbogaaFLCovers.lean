/-
  FilterCovers: which filters cover one another, and which have something in common: the program answers as the document says. No condition.
-/
import Derived.Test.YtbpphghphfbogaaRows
import Derived.Test.YtbpphghphfbogaaP9Prog
import Derived.Test.YtbpphghphfbogaaKLaw
import Derived.SizedLaws
import Derived.Deep.QuietTactic
import Derived.BigQuiet
import Derived.Deep.LoopGhost
import Derived.Deep.DeepCutAuto
import Derived.Deep.RegionHeld3
namespace Go.Proofs.Ytbpphghphfbogaa.filterCovers
open Go.ChangeShapes Go.WideShapes Go.ChangeAt Go.RowKit Go.Shelf Go.Proofs
open Go.ChangeMaps (open_string shut_string)
open Go.Proofs.Ytbpphghphfbogaa.P8 Go.Proofs.Ytbpphghphfbogaa.K Go.Proofs.Ytbpphghphfbogaa.B
set_option linter.unusedVariables false
set_option maxRecDepth 100000

theorem own : ownKnob Try.prog.godebug = none := by kernel_rfl
theorem laidOut : laidOutB Try.prog = true := by kernel_rfl


set_option maxHeartbeats 8000000 in
theorem walk (F : Filt) (l0 : List (List UInt8)) (a0 : Option Addr) (n0 c0 : Nat) (l1 : List (List UInt8)) (a1 : Option Addr) (n1 c1 : Nat) (w : World) (ht0 : Ts w (.slice a0 n0 c0) l0) (hB0 : Bd l0) (hc0 : n0 ≤ c0) (ht1 : Ts w (.slice a1 n1 c1) l1) (hB1 : Bd l1) (hc1 : n1 ≤ c1) :
    Calls Try.prog 4 #[.slice a0 n0 c0, .slice a1 n1 c1] w fun e w' => e = .returned (.bool true) ∧ Below w.heap.size w w' := by
  have hbb : ∀ b : Bool, (b == b) = true := fun b => by cases b <;> rfl
  have hF0 := few_any l0 a0 n0 c0 w ht0 hc0
  have hF1 := few_any l1 a1 n1 c1 w ht1 hc1
  have h0 := Below.refl w.heap.size w
  go_enter Try.func4, Try.ntmps4
  go_wp2_with fail
  refine hF0.mono ?_
  rintro _ w1 ⟨m0, e0, rfl, hf0, rfl⟩
  go_wp2_with fail
  refine hF1.mono ?_
  rintro _ w1 ⟨m1, e1, rfl, hf1, rfl⟩
  have hT0 := hB0.take 40
  have hT1 := hB1.take 40
  clear hF0 hF1 ht0 ht1 hB0 hB1 hc0 hc1
  obtain ⟨x0, hx0⟩ : ∃ x, l0.take 40 = x := ⟨_, rfl⟩
  obtain ⟨x1, hx1⟩ : ∃ x, l1.take 40 = x := ⟨_, rfl⟩
  rw [hx0] at hf0 hT0
  rw [hx1] at hf1 hT1
  clear hx0 hx1
  have A := fun (W : World) (_ : Below w.heap.size w W) => awake9_any F W
  have C := fun (W : World) (hb : Below w.heap.size w W) => F.covers x0 x1 _ _ W (hf0.below hb) (hf1.below hb) hT0 hT1
  have C2 := fun (W : World) (hb : Below w.heap.size w W) => refCovers9_any x0 x1 _ _ W (hf0.below hb) (hf1.below hb) hT0.1 hT1.1 hT0.big hT1.big
  have M := fun (W : World) (hb : Below w.heap.size w W) => F.meet x0 x1 _ _ W (hf0.below hb) (hf1.below hb) hT0 hT1
  have M2 := fun (W : World) (hb : Below w.heap.size w W) => refMeet9_any x0 x1 _ _ W (hf0.below hb) (hf1.below hb) hT0.1 hT1.1 hT0.big hT1.big
  obtain ⟨y, hy⟩ : ∃ y, covF x0 x1 = y := ⟨_, rfl⟩
  obtain ⟨z, hz⟩ : ∃ y, metF x0 x1 = y := ⟨_, rfl⟩
  rw [hy] at C C2
  rw [hz] at M M2
  clear hy hz
  go_wp2_with fail
  refine (A _ h0).mono ?_
  rintro _ w1 ⟨rfl, hb1⟩
  have h1 := h0.trans (hb1.mono h0.size)
  clear hb1
  go_wp2_with fail
  refine (C _ h1).mono ?_
  rintro _ w2 ⟨rfl, hb2⟩
  have h2 := h1.trans (hb2.mono h1.size)
  clear hb2
  go_wp2_with fail
  refine (C2 _ h2).mono ?_
  rintro _ w3 ⟨rfl, hb3⟩
  have h3 := h2.trans (hb3.mono h2.size)
  clear hb3
  go_wp2_with fail
  refine (M _ h3).mono ?_
  rintro _ w4 ⟨rfl, hb4⟩
  have h4 := h3.trans (hb4.mono h3.size)
  clear hb4
  go_wp2_with fail
  refine (M2 _ h4).mono ?_
  rintro _ w5 ⟨rfl, hb5⟩
  have h5 := h4.trans (hb5.mono h4.size)
  clear hb5
  go_wp2_with fail
  go_ret
  exact ⟨by simp, h5⟩

theorem lifted (os : Os) (started : os.Started) (H : Type) (enc : TypeId × Value → H) :
    ReturnsInHanded {} Try.checked os 4 .any (Rows.filterCoversSpec.pre6 enc Try.prog Try.f4 Rows.filterCoversRow.domain false) (Rows.filterCoversSpec.post enc Try.prog Try.f4 false true false false) := by
  refine returnsInHanded_of_change_sized (C := Try.checked) own started (by kernel_rfl) Try.func4
    (ChangeSpec.witness6 (enc := enc) (C := Try.checked) false ⟨#[], #[.slice none 0 0, .slice none 0 0], []⟩ 8 (by kernel_rfl) (by kernel_rfl) (by kernel_rfl) (by kernel_rfl)) ?_
  intro W base args ds gs before hval0 hW hcnd hsz0 _
  have hsz : (DataW.weightsEach Try.prog (Try.f4.params.toList ++ Rows.filterCoversSpec.plain.varTypes Try.prog) (ds ++ gs)).all (· ≤ reachBytes) = true := hsz0
  clear hsz0
  have hval : ∀ (j : Nat) t v, Try.f4.params[j]? = some t → args[j]? = some v → Value.okWide Try.prog W .any base t v := hval0
  have hW' := hW
  obtain ⟨p, q, hA0, hV, rfl, hfz, hnd⟩ := hW
  have hA : DataW.TrodAll enc Try.prog W 0 (fun _ => true) true Try.f4.params.toList args.toList ds p := hA0
  rw [Try.params4] at hA hval hsz
  obtain ⟨v0, vs0, d0, ds0, p0, q0, hargs, rfl, rfl, h0, r0⟩ := trodAll_cons hA
  obtain ⟨v1, vs1, d1, ds1, p1, q1, rfl, rfl, rfl, h1, r1⟩ := trodAll_cons r0
  obtain ⟨rfl, rfl, rfl⟩ := trodAll_nil r1
  obtain rfl : args = #[v0, v1] := by cases args; simp_all
  obtain ⟨a0, n0, c0, l0, rfl, hc0, ht0, hB0, -⟩ := strs_argd Try.underlying22 Try.underlying9 (by kernel_rfl) (by kernel_rfl) (hval 0 22 v0 rfl rfl) h0 (j := 0) (by rfl) (by rfl) hsz
  obtain ⟨a1, n1, c1, l1, rfl, hc1, ht1, hB1, -⟩ := strs_argd Try.underlying22 Try.underlying9 (by kernel_rfl) (by kernel_rfl) (hval 1 22 v1 rfl rfl) h1 (j := 1) (by rfl) (by rfl) hsz
  have hw := walk filt l0 a0 n0 c0 l1 a1 n1 c1 W ht0 hB0 hc0 ht1 hB1 hc1
  refine hw.mono fun e W' ⟨he, hb⟩ => ?_
  subst he
  exact ⟨_, rfl, post_law hW' hb laidOut rfl rfl rfl Try.underlying4 (by rw [Try.params4]; decide +kernel)⟩

theorem over : Rows.filterCoversRow.holds Try.pinned (OpenSpec.ofChange Rows.filterCoversSpec) :=
  OpenClaim.holds_of_wide 4 Try.f4 rfl rfl rfl rfl rfl rfl rfl ⟨rfl, rfl, rfl, rfl, rfl⟩ rfl rfl rfl rfl rfl (by kernel_rfl) Try.func4 (by kernel_rfl)
    (of_decide_eq_true (by kernel_rfl)) (by unfold Func.isWrapper; first | (rw [if_pos (by decide +kernel)]; kernel_rfl) | (rw [if_neg (by decide +kernel)]; exact ⟨rfl, rfl⟩))
    (fun os started H enc _ => lifted os started H enc)

theorem proved : Rows.FilterCoversSaid := over
#print axioms proved
end Go.Proofs.Ytbpphghphfbogaa.filterCovers
