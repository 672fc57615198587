/-
  FilterChecks: which filters may be, their normal forms, and what they have: the program answers as the document says. No condition.
-/
import Derived.Test.YtbpphghphfbogaaRows
import Derived.Test.YtbpphghphfbogaaP9Prog
import Derived.Test.YtbpphghphfbogaaKLaw
import Derived.SizedLaws
import Derived.Deep.QuietTactic
import Derived.BigQuiet
import Derived.Deep.LoopGhost
import Derived.Deep.DeepCutAuto
import Derived.Deep.RegionHeld3
namespace Go.Proofs.Ytbpphghphfbogaa.filterChecks
open Go.ChangeShapes Go.WideShapes Go.ChangeAt Go.RowKit Go.Shelf Go.Proofs
open Go.ChangeMaps (open_string shut_string)
open Go.Proofs.Ytbpphghphfbogaa.P8 Go.Proofs.Ytbpphghphfbogaa.K Go.Proofs.Ytbpphghphfbogaa.B
set_option linter.unusedVariables false
set_option maxRecDepth 100000

theorem own : ownKnob Try.prog.godebug = none := by kernel_rfl
theorem laidOut : laidOutB Try.prog = true := by kernel_rfl


set_option maxHeartbeats 8000000 in
theorem walk (F : Filt) (l0 : List (List UInt8)) (a0 : Option Addr) (n0 c0 : Nat) (s1 : List UInt8) (w : World) (ht0 : Ts w (.slice a0 n0 c0) l0) (hB0 : Bd l0) (hc0 : n0 ≤ c0) (hs1 : s1.length ≤ 140737488355328) :
    Calls Try.prog 3 #[.slice a0 n0 c0, .string (str s1)] w fun e w' => e = .returned (.bool true) ∧ Below w.heap.size w w' := by
  have A := fun (W : World) (_ : Below w.heap.size w W) => awake9_any F W
  have hbb : ∀ b : Bool, (b == b) = true := fun b => by cases b <;> rfl
  have K := fun (W : World) (hb : Below w.heap.size w W) => F.check l0 _ W (ht0.below hb) hB0
  have K2 := fun (W : World) (hb : Below w.heap.size w W) => refCheck9_any l0 _ W (ht0.below hb) hB0.big
  have NM := fun (W : World) (hb : Below w.heap.size w W) => F.normal l0 _ W (ht0.below hb) hB0
  have HA := fun (W : World) (hb : Below w.heap.size w W) => F.has l0 s1 _ W (ht0.below hb) hB0 hs1
  have HA2 := fun (W : World) (hb : Below w.heap.size w W) => refHas9_any l0 s1 _ W (ht0.below hb) hB0.1 hB0.big (by omega)
  have LE := fun (h8 : l0.length ≤ 1000) (W : World) (hb : Below w.heap.size w W) => refLeast_any l0 _ W (ht0.below hb) h8 hB0.big1
  have hr := check9_right l0
  obtain ⟨⟨k, e⟩, hke⟩ : ∃ c, check9 l0 = c := ⟨_, rfl⟩
  rw [hke] at K K2 hr
  clear hke
  have hkk : (k != k) = false := by simp
  have hee : (e != e) = false := by simp
  have h0 := Below.refl w.heap.size w
  go_enter Try.func3, Try.ntmps3
  go_wp2_with fail
  refine (K _ h0).mono ?_
  rintro _ w1 ⟨rfl, hb1⟩
  have h1 := h0.trans (hb1.mono h0.size)
  clear hb1
  go_wp2_with fail
  refine (K2 _ h1).mono ?_
  rintro _ w2 ⟨rfl, hb2⟩
  have h2 := h1.trans (hb2.mono h1.size)
  clear hb2
  go_wp2_with fail
  refine (A _ h2).mono ?_
  rintro _ w3 ⟨rfl, hb3⟩
  have h3 := h2.trans (hb3.mono h2.size)
  clear hb3
  obtain ⟨x, hx⟩ : ∃ x, hasF l0 s1 = x := ⟨_, rfl⟩
  rw [hx] at HA HA2
  by_cases he : e = 0
  · subst he
    have hR : right9 l0 = true := hr.1 rfl
    have hn : normF l0 = leastL l0 := by unfold normF; rw [if_pos hR]
    have LE' := LE (by have := (right_all hR).1; omega)
    rw [hn] at NM
    clear hr hn LE hx
    have hBL := hB0.least
    go_wp2_with fail
    refine (NM _ h3).mono ?_
    rintro _ w4 ⟨u, rfl, htu, hb4⟩
    have h4 := h3.trans (hb4.mono h3.size)
    go_wp2_with fail
    refine (LE' _ h4).mono ?_
    rintro _ w5 ⟨t, rfl, htt, hb5⟩
    have h5 := h4.trans (hb5.mono h4.size)
    have SM := fun (W : World) (hb : Below w5.heap.size w5 W) => same9_any (leastL l0) u t W hBL.1 ((htu.below hb5).below hb) (htt.below hb)
    go_wp2_with fail
    refine (SM _ (Below.refl _ _)).mono ?_
    rintro _ w6 ⟨rfl, hb6⟩
    have h6 := h5.trans (hb6.mono h5.size)
    clear hb6
    go_wp2_with fail
    refine (HA _ h6).mono ?_
    rintro _ w7 ⟨rfl, hb7⟩
    have h7 := h6.trans (hb7.mono h6.size)
    clear hb7
    go_wp2_with fail
    refine (HA2 _ h7).mono ?_
    rintro _ w8 ⟨rfl, hb8⟩
    have h8 := h7.trans (hb8.mono h7.size)
    clear hb8
    go_wp2_with fail
    go_ret
    exact ⟨by simp, h8⟩
  · have hR : right9 l0 = false := by
      cases h : right9 l0 with
      | false => rfl
      | true => exact absurd (hr.2 h) he
    have hn : normF l0 = [] := by unfold normF; rw [if_neg (by rw [hR]; simp)]
    obtain rfl : x = false := by rw [← hx]; unfold hasF; rw [hR, Bool.and_false]
    have he0 : (e != 0) = true := bne_iff_ne.2 he
    rw [hn] at NM
    clear hr hn LE hx HA2
    go_wp2_with fail
    refine (NM _ h3).mono ?_
    rintro _ w4 ⟨u, rfl, htu, hb4⟩
    have h4 := h3.trans (hb4.mono h3.size)
    obtain ⟨a1, c1, rfl, -⟩ := id htu.open
    go_wp2_with fail
    refine (HA _ h4).mono ?_
    rintro _ w5 ⟨rfl, hb5⟩
    have h5 := h4.trans (hb5.mono h4.size)
    clear hb5
    go_wp2_with fail
    go_ret
    exact ⟨by simp, h5⟩

theorem lifted (os : Os) (started : os.Started) (H : Type) (enc : TypeId × Value → H) :
    ReturnsInHanded {} Try.checked os 3 .any (Rows.filterChecksSpec.pre6 enc Try.prog Try.f3 Rows.filterChecksRow.domain false) (Rows.filterChecksSpec.post enc Try.prog Try.f3 false true false false) := by
  refine returnsInHanded_of_change_sized (C := Try.checked) own started (by kernel_rfl) Try.func3
    (ChangeSpec.witness6 (enc := enc) (C := Try.checked) false ⟨#[], #[.slice none 0 0, .string ⟨#[]⟩], []⟩ 8 (by kernel_rfl) (by kernel_rfl) (by kernel_rfl) (by kernel_rfl)) ?_
  intro W base args ds gs before hval0 hW hcnd hsz0 _
  have hsz : (DataW.weightsEach Try.prog (Try.f3.params.toList ++ Rows.filterChecksSpec.plain.varTypes Try.prog) (ds ++ gs)).all (· ≤ reachBytes) = true := hsz0
  clear hsz0
  have hval : ∀ (j : Nat) t v, Try.f3.params[j]? = some t → args[j]? = some v → Value.okWide Try.prog W .any base t v := hval0
  have hW' := hW
  obtain ⟨p, q, hA0, hV, rfl, hfz, hnd⟩ := hW
  have hA : DataW.TrodAll enc Try.prog W 0 (fun _ => true) true Try.f3.params.toList args.toList ds p := hA0
  rw [Try.params3] at hA hval hsz
  obtain ⟨v0, vs0, d0, ds0, p0, q0, hargs, rfl, rfl, h0, r0⟩ := trodAll_cons hA
  obtain ⟨v1, vs1, d1, ds1, p1, q1, rfl, rfl, rfl, h1, r1⟩ := trodAll_cons r0
  obtain ⟨rfl, rfl, rfl⟩ := trodAll_nil r1
  obtain rfl : args = #[v0, v1] := by cases args; simp_all
  obtain ⟨a0, n0, c0, l0, rfl, hc0, ht0, hB0, -⟩ := strs_argd Try.underlying22 Try.underlying9 (by kernel_rfl) (by kernel_rfl) (hval 0 22 v0 rfl rfl) h0 (j := 0) (by rfl) (by rfl) hsz
  obtain ⟨t1, rfl, rfl, rfl, ws1⟩ := open_string Try.underlying9 (hval 1 9 v1 rfl rfl) h1
  have hs1 : t1.data.toList.length ≤ 140737488355328 := by
    have h1 := sized_string hsz (j := 1) (t := 9) rfl rfl
    have h2 := reachBytes_lt
    omega
  have hw := walk filt l0 a0 n0 c0 t1.data.toList W ht0 hB0 hc0 hs1
  rw [str_eq] at hw
  refine hw.mono fun e W' ⟨he, hb⟩ => ?_
  subst he
  exact ⟨_, rfl, post_law hW' hb laidOut rfl rfl rfl Try.underlying4 (by rw [Try.params3]; decide +kernel)⟩

theorem over : Rows.filterChecksRow.holds Try.pinned (OpenSpec.ofChange Rows.filterChecksSpec) :=
  OpenClaim.holds_of_wide 3 Try.f3 rfl rfl rfl rfl rfl rfl rfl ⟨rfl, rfl, rfl, rfl, rfl⟩ rfl rfl rfl rfl rfl (by kernel_rfl) Try.func3 (by kernel_rfl)
    (of_decide_eq_true (by kernel_rfl)) (by unfold Func.isWrapper; first | (rw [if_pos (by decide +kernel)]; kernel_rfl) | (rw [if_neg (by decide +kernel)]; exact ⟨rfl, rfl⟩))
    (fun os started H enc _ => lifted os started H enc)

theorem proved : Rows.FilterChecksSaid := over
#print axioms proved
end Go.Proofs.Ytbpphghphfbogaa.filterChecks
