/-
  FilterSound: what a filter has, each one that covers it has, too; two that have one stream have something in common. No condition.
-/
import Derived.Test.YtbpphghphfbogaaRows
import Derived.Test.YtbpphghphfbogaaP9Prog
import Derived.Test.YtbpphghphfbogaaKLaw
import Derived.SizedLaws
import Derived.Deep.QuietTactic
import Derived.BigQuiet
import Derived.Deep.LoopGhost
import Derived.Deep.DeepCutAuto
import Derived.Deep.RegionHeld3
namespace Go.Proofs.Ytbpphghphfbogaa.filterSound
open Go.ChangeShapes Go.WideShapes Go.ChangeAt Go.RowKit Go.Shelf Go.Proofs
open Go.ChangeMaps (open_string shut_string)
open Go.Proofs.Ytbpphghphfbogaa.P8 Go.Proofs.Ytbpphghphfbogaa.K Go.Proofs.Ytbpphghphfbogaa.B
set_option linter.unusedVariables false
set_option maxRecDepth 100000

theorem own : ownKnob Try.prog.godebug = none := by kernel_rfl
theorem laidOut : laidOutB Try.prog = true := by kernel_rfl


set_option maxHeartbeats 8000000 in
theorem walk (F : Filt) (l0 : List (List UInt8)) (a0 : Option Addr) (n0 c0 : Nat) (l1 : List (List UInt8)) (a1 : Option Addr) (n1 c1 : Nat) (s2 : List UInt8) (w : World) (ht0 : Ts w (.slice a0 n0 c0) l0) (hB0 : Bd l0) (hc0 : n0 ≤ c0) (ht1 : Ts w (.slice a1 n1 c1) l1) (hB1 : Bd l1) (hc1 : n1 ≤ c1) (hs2 : s2.length ≤ 140737488355328) :
    Calls Try.prog 7 #[.slice a0 n0 c0, .slice a1 n1 c1, .string (str s2)] w fun e w' => e = .returned (.bool true) ∧ Below w.heap.size w w' := by
  have hbb : ∀ b : Bool, (b == b) = true := fun b => by cases b <;> rfl
  have hF0 := few_any l0 a0 n0 c0 w ht0 hc0
  have hF1 := few_any l1 a1 n1 c1 w ht1 hc1
  have h0 := Below.refl w.heap.size w
  go_enter Try.func7, Try.ntmps7
  go_wp2_with fail
  refine hF0.mono ?_
  rintro _ w1 ⟨m0, e0, rfl, hf0, rfl⟩
  go_wp2_with fail
  refine hF1.mono ?_
  rintro _ w1 ⟨m1, e1, rfl, hf1, rfl⟩
  have hT0 := hB0.take 40
  have hT1 := hB1.take 40
  clear hF0 hF1 ht0 ht1 hB0 hB1 hc0 hc1
  obtain ⟨x0, hx0⟩ : ∃ x, l0.take 40 = x := ⟨_, rfl⟩
  obtain ⟨x1, hx1⟩ : ∃ x, l1.take 40 = x := ⟨_, rfl⟩
  rw [hx0] at hf0 hT0
  rw [hx1] at hf1 hT1
  clear hx0 hx1
  have A := fun (W : World) (_ : Below w.heap.size w W) => awake9_any F W
  have C := fun (W : World) (hb : Below w.heap.size w W) => F.covers x0 x1 _ _ W (hf0.below hb) (hf1.below hb) hT0 hT1
  have M := fun (W : World) (hb : Below w.heap.size w W) => F.meet x0 x1 _ _ W (hf0.below hb) (hf1.below hb) hT0 hT1
  have H0 := fun (W : World) (hb : Below w.heap.size w W) => F.has x0 s2 _ W (hf0.below hb) hT0 hs2
  have H1 := fun (W : World) (hb : Below w.heap.size w W) => F.has x1 s2 _ W (hf1.below hb) hT1 hs2
  have U := fun (W : World) (_ : Below w.heap.size w W) => F.union [] (.slice none 0 0) W ⟨[], Sl.nil _, rfl, fun j u l h => by cases h⟩ (by decide) (fun l h => by cases h)
  have hu : unionF [] = ([], 0) := by decide +kernel
  rw [hu] at U
  have g1 : covF x0 x1 = true → hasF x1 s2 = true → hasF x0 s2 = true := fun h g => cov_has h g
  have g2 : hasF x0 s2 = true → hasF x1 s2 = true → metF x0 x1 = true := fun h g => has_meet h g
  obtain ⟨y, hy⟩ : ∃ y, covF x0 x1 = y := ⟨_, rfl⟩
  obtain ⟨z, hz⟩ : ∃ y, metF x0 x1 = y := ⟨_, rfl⟩
  obtain ⟨b0, hb0⟩ : ∃ y, hasF x0 s2 = y := ⟨_, rfl⟩
  obtain ⟨b1, hb1⟩ : ∃ y, hasF x1 s2 = y := ⟨_, rfl⟩
  rw [hy] at C g1
  rw [hz] at M g2
  rw [hb0] at H0 g1 g2
  rw [hb1] at H1 g1 g2
  clear hy hz hb0 hb1 hu
  go_wp2_with fail
  refine (C _ h0).mono ?_
  rintro _ w1 ⟨rfl, hb1⟩
  have h1 := h0.trans (hb1.mono h0.size)
  clear hb1
  cases y with
  | false =>
    go_wp2_with fail
    refine (U _ h1).mono ?_
    rintro _ w2 ⟨u, rfl, htu, hb2⟩
    have h2 := h1.trans (hb2.mono h1.size)
    clear hb2
    obtain ⟨au, cu, rfl, -⟩ := id htu.open
    go_wp2_with fail
    refine (A _ h2).mono ?_
    rintro _ w3 ⟨rfl, hb3⟩
    have h3 := h2.trans (hb3.mono h2.size)
    clear hb3
    cases b0 with
    | false =>
      go_wp2_with fail
      refine (H0 _ h3).mono ?_
      rintro _ w4 ⟨rfl, hb4⟩
      have h4 := h3.trans (hb4.mono h3.size)
      clear hb4
      go_wp2_with fail
      go_ret
      exact ⟨by simp, h4⟩
    | true =>
      go_wp2_with fail
      refine (H0 _ h3).mono ?_
      rintro _ w4 ⟨rfl, hb4⟩
      have h4 := h3.trans (hb4.mono h3.size)
      clear hb4
      cases b1 with
      | false =>
        go_wp2_with fail
        refine (H1 _ h4).mono ?_
        rintro _ w5 ⟨rfl, hb5⟩
        have h5 := h4.trans (hb5.mono h4.size)
        clear hb5
        go_wp2_with fail
        go_ret
        exact ⟨by simp, h5⟩
      | true =>
        go_wp2_with fail
        refine (H1 _ h4).mono ?_
        rintro _ w5 ⟨rfl, hb5⟩
        have h5 := h4.trans (hb5.mono h4.size)
        clear hb5
        obtain rfl : z = true := by simpa using g2
        go_wp2_with fail
        refine (M _ h5).mono ?_
        rintro _ w6 ⟨rfl, hb6⟩
        have h6 := h5.trans (hb6.mono h5.size)
        clear hb6
        go_wp2_with fail
        go_ret
        exact ⟨by simp, h6⟩
  | true =>
    go_wp2_with fail
    refine (H1 _ h1).mono ?_
    rintro _ w2 ⟨rfl, hb2⟩
    have h2 := h1.trans (hb2.mono h1.size)
    clear hb2
    cases b1 with
    | false =>
      go_wp2_with fail
      refine (U _ h2).mono ?_
      rintro _ w3 ⟨u, rfl, htu, hb3⟩
      have h3 := h2.trans (hb3.mono h2.size)
      clear hb3
      obtain ⟨au, cu, rfl, -⟩ := id htu.open
      go_wp2_with fail
      refine (A _ h3).mono ?_
      rintro _ w4 ⟨rfl, hb4⟩
      have h4 := h3.trans (hb4.mono h3.size)
      clear hb4
      cases b0 with
      | false =>
        go_wp2_with fail
        refine (H0 _ h4).mono ?_
        rintro _ w5 ⟨rfl, hb5⟩
        have h5 := h4.trans (hb5.mono h4.size)
        clear hb5
        go_wp2_with fail
        go_ret
        exact ⟨by simp, h5⟩
      | true =>
        go_wp2_with fail
        refine (H0 _ h4).mono ?_
        rintro _ w5 ⟨rfl, hb5⟩
        have h5 := h4.trans (hb5.mono h4.size)
        clear hb5
        go_wp2_with fail
        refine (H1 _ h5).mono ?_
        rintro _ w6 ⟨rfl, hb6⟩
        have h6 := h5.trans (hb6.mono h5.size)
        clear hb6
        go_wp2_with fail
        go_ret
        exact ⟨by simp, h6⟩
    | true =>
      obtain rfl : b0 = true := by simpa using g1
      go_wp2_with fail
      refine (H0 _ h2).mono ?_
      rintro _ w3 ⟨rfl, hb3⟩
      have h3 := h2.trans (hb3.mono h2.size)
      clear hb3
      go_wp2_with fail
      refine (U _ h3).mono ?_
      rintro _ w4 ⟨u, rfl, htu, hb4⟩
      have h4 := h3.trans (hb4.mono h3.size)
      clear hb4
      obtain ⟨au, cu, rfl, -⟩ := id htu.open
      go_wp2_with fail
      refine (A _ h4).mono ?_
      rintro _ w5 ⟨rfl, hb5⟩
      have h5 := h4.trans (hb5.mono h4.size)
      clear hb5
      go_wp2_with fail
      refine (H0 _ h5).mono ?_
      rintro _ w6 ⟨rfl, hb6⟩
      have h6 := h5.trans (hb6.mono h5.size)
      clear hb6
      go_wp2_with fail
      refine (H1 _ h6).mono ?_
      rintro _ w7 ⟨rfl, hb7⟩
      have h7 := h6.trans (hb7.mono h6.size)
      clear hb7
      obtain rfl : z = true := by simpa using g2
      go_wp2_with fail
      refine (M _ h7).mono ?_
      rintro _ w8 ⟨rfl, hb8⟩
      have h8 := h7.trans (hb8.mono h7.size)
      clear hb8
      go_wp2_with fail
      go_ret
      exact ⟨by simp, h8⟩

theorem lifted (os : Os) (started : os.Started) (H : Type) (enc : TypeId × Value → H) :
    ReturnsInHanded {} Try.checked os 7 .any (Rows.filterSoundSpec.pre6 enc Try.prog Try.f7 Rows.filterSoundRow.domain false) (Rows.filterSoundSpec.post enc Try.prog Try.f7 false true false false) := by
  refine returnsInHanded_of_change_sized (C := Try.checked) own started (by kernel_rfl) Try.func7
    (ChangeSpec.witness6 (enc := enc) (C := Try.checked) false ⟨#[], #[.slice none 0 0, .slice none 0 0, .string ⟨#[]⟩], []⟩ 8 (by kernel_rfl) (by kernel_rfl) (by kernel_rfl) (by kernel_rfl)) ?_
  intro W base args ds gs before hval0 hW hcnd hsz0 _
  have hsz : (DataW.weightsEach Try.prog (Try.f7.params.toList ++ Rows.filterSoundSpec.plain.varTypes Try.prog) (ds ++ gs)).all (· ≤ reachBytes) = true := hsz0
  clear hsz0
  have hval : ∀ (j : Nat) t v, Try.f7.params[j]? = some t → args[j]? = some v → Value.okWide Try.prog W .any base t v := hval0
  have hW' := hW
  obtain ⟨p, q, hA0, hV, rfl, hfz, hnd⟩ := hW
  have hA : DataW.TrodAll enc Try.prog W 0 (fun _ => true) true Try.f7.params.toList args.toList ds p := hA0
  rw [Try.params7] at hA hval hsz
  obtain ⟨v0, vs0, d0, ds0, p0, q0, hargs, rfl, rfl, h0, r0⟩ := trodAll_cons hA
  obtain ⟨v1, vs1, d1, ds1, p1, q1, rfl, rfl, rfl, h1, r1⟩ := trodAll_cons r0
  obtain ⟨v2, vs2, d2, ds2, p2, q2, rfl, rfl, rfl, h2, r2⟩ := trodAll_cons r1
  obtain ⟨rfl, rfl, rfl⟩ := trodAll_nil r2
  obtain rfl : args = #[v0, v1, v2] := by cases args; simp_all
  obtain ⟨a0, n0, c0, l0, rfl, hc0, ht0, hB0, -⟩ := strs_argd Try.underlying22 Try.underlying9 (by kernel_rfl) (by kernel_rfl) (hval 0 22 v0 rfl rfl) h0 (j := 0) (by rfl) (by rfl) hsz
  obtain ⟨a1, n1, c1, l1, rfl, hc1, ht1, hB1, -⟩ := strs_argd Try.underlying22 Try.underlying9 (by kernel_rfl) (by kernel_rfl) (hval 1 22 v1 rfl rfl) h1 (j := 1) (by rfl) (by rfl) hsz
  obtain ⟨t2, rfl, rfl, rfl, ws2⟩ := open_string Try.underlying9 (hval 2 9 v2 rfl rfl) h2
  have hs2 : t2.data.toList.length ≤ 140737488355328 := by
    have h1 := sized_string hsz (j := 2) (t := 9) rfl rfl
    have h2 := reachBytes_lt
    omega
  have hw := walk filt l0 a0 n0 c0 l1 a1 n1 c1 t2.data.toList W ht0 hB0 hc0 ht1 hB1 hc1 hs2
  rw [str_eq] at hw
  refine hw.mono fun e W' ⟨he, hb⟩ => ?_
  subst he
  exact ⟨_, rfl, post_law hW' hb laidOut rfl rfl rfl Try.underlying4 (by rw [Try.params7]; decide +kernel)⟩

theorem over : Rows.filterSoundRow.holds Try.pinned (OpenSpec.ofChange Rows.filterSoundSpec) :=
  OpenClaim.holds_of_wide 7 Try.f7 rfl rfl rfl rfl rfl rfl rfl ⟨rfl, rfl, rfl, rfl, rfl⟩ rfl rfl rfl rfl rfl (by kernel_rfl) Try.func7 (by kernel_rfl)
    (of_decide_eq_true (by kernel_rfl)) (by unfold Func.isWrapper; first | (rw [if_pos (by decide +kernel)]; kernel_rfl) | (rw [if_neg (by decide +kernel)]; exact ⟨rfl, rfl⟩))
    (fun os started H enc _ => lifted os started H enc)

theorem proved : Rows.FilterSoundSaid := over
#print axioms proved
end Go.Proofs.Ytbpphghphfbogaa.filterSound
