/-
  CheckJoins: the sums of two texts are joined to the sum of both, and any two sums as the document says. No condition.
-/
import Derived.Test.YtlfkbdfaacpjeaaRows
import Derived.Test.YtlfkbdfaacpjeaaCLaw
import Derived.Test.YtlfkbdfaacpjeaaCImpl
import Derived.Test.YtlfkbdfaacpjeaaCRef
import Derived.Test.YtlfkbdfaacpjeaaKLaw
namespace Go.Proofs.Ytlfkbdfaacpjeaa.checkJoins
open Go.ChangeShapes Go.WideShapes Go.ChangeAt Go.RowKit
open Go.ChangeMaps (open_string shut_string)
open Go.Proofs.Ytlfkbdfaacpjeaa.B Go.Proofs.Ytlfkbdfaacpjeaa.C Go.Proofs.Ytlfkbdfaacpjeaa.K
set_option linter.unusedVariables false

theorem own : ownKnob Try.prog.godebug = none := by kernel_rfl
theorem laidOut : laidOutB Try.prog = true := by kernel_rfl

set_option maxHeartbeats 1000000 in
theorem walk (C : Contracts) (a0 b0 : List UInt8) (n : Int) (ha : a0.length ≤ 9223372036854775807) (hb : b0.length ≤ 9223372036854775807) (hn0 : -9223372036854775808 ≤ n) (hn1 : n ≤ 9223372036854775807) (w : World) :
    Calls Try.prog 5 #[.string (str a0), .string (str b0), .int .i64 n] w fun e w' => e = .returned (.bool true) ∧ Below w.heap.size w w' := by
  have hfa := fun w => few_any a0 w ha
  have hfb := fun w => few_any b0 w hb
  have hla := few_length a0
  have hlb := few_length b0
  obtain ⟨a, hae⟩ : ∃ l, few a0 = l := ⟨_, rfl⟩
  obtain ⟨b, hbe⟩ : ∃ l, few b0 = l := ⟨_, rfl⟩
  rw [hae] at hfa hla
  rw [hbe] at hfb hlb
  clear hae hbe ha hb
  have hzb : (str b).size = b.length := str_size b
  have hsa := fun w => C.sum a w (by omega)
  have hsb := fun w => C.sum b w (by omega)
  have hra := fun w => refSum_any a w (Nat.le_trans hla (by decide))
  have hrab := fun w => refSum_any (a ++ b) w (by rw [List.length_append]; unfold maxLen; omega)
  have hab := sum_append a b
  have hA := sum_lt a
  have hB := sum_lt b
  obtain ⟨A, eA⟩ : ∃ q, sum a = q := ⟨_, rfl⟩
  obtain ⟨B, eB⟩ : ∃ q, sum b = q := ⟨_, rfl⟩
  rw [eA] at hsa hA hra hab
  rw [eB] at hsb hB hab
  obtain ⟨nb, enb⟩ : ∃ q, b.length = q := ⟨_, rfl⟩
  rw [enb] at hzb hlb hab
  have j1 := fun w => C.join A B (nb : Int) w hA hB (by omega) (by omega)
  rw [joinOf_nat, ← hab] at j1
  obtain ⟨X, eX⟩ : ∃ q, sum (a ++ b) = q := ⟨_, rfl⟩
  rw [eX] at j1 hrab
  clear eX hab eA eB enb
  have happ := str_append a b
  have ha3 : (str a).size ≤ 3000 := by rw [str_size]; exact hla
  have hb3 : (str b).size ≤ 3000 := by rw [hzb]; exact hlb
  have j2 := fun w => C.join A 12345 n w hA (by decide) hn0 hn1
  have j3 : 0 ≤ n → n ≤ 3000 → ∀ w, Calls Try.prog 20 #[.int .u32 (A : Int), .int .u32 12345, .int .i64 n] w fun e w' => e = .returned (.int .u32 ((joinOf A 12345 n).1 : Nat)) ∧ w = w' := by
    intro h0 h3 w
    obtain ⟨m, rfl⟩ := Int.eq_ofNat_of_zero_le h0
    rw [joinOf_nat]
    exact refJoin_any A 12345 m w hA (by decide) (by omega)
  have j4 : n < 0 → joinOf A 12345 n = (0, 2) := joinOf_neg A 12345 n
  have j5 : 0 ≤ n → (joinOf A 12345 n).2 = 0 := by
    intro h0
    obtain ⟨m, rfl⟩ := Int.eq_ofNat_of_zero_le h0
    rw [joinOf_nat]
  obtain ⟨⟨Y, f⟩, eY⟩ : ∃ t, joinOf A 12345 n = t := ⟨_, rfl⟩
  rw [eY] at j2 j3 j4 j5
  clear eY hA hB
  have HFA := Lib.hid hfa; clear hfa
  have HFB := Lib.hid hfb; clear hfb
  have HSA := Lib.hid hsa; clear hsa
  have HSB := Lib.hid hsb; clear hsb
  have HRA := Lib.hid hra; clear hra
  have HRAB := Lib.hid hrab; clear hrab
  have J1 := Lib.hid j1; clear j1
  have J2 := Lib.hid j2; clear j2
  have J3 := Lib.hid j3; clear j3
  have J4 := Lib.hid j4; clear j4
  have J5 := Lib.hid j5; clear j5
  go_enter Try.func5, Try.ntmps5
  go_wp2_with fail
  refine (HFA.out _).mono ?_
  rintro _ w1 ⟨rfl, rfl⟩
  go_wp2_with fail
  refine (HFB.out _).mono ?_
  rintro _ w2 ⟨rfl, rfl⟩
  have h0 : Below w.heap.size w w := Below.refl _ _
  go_wp2_with fail
  refine (HSA.out _).mono ?_
  rintro _ x1 ⟨rfl, g1⟩
  have h1 := h0.trans (g1.mono h0.size)
  clear h0 g1
  go_wp2_with fail
  refine (HSB.out _).mono ?_
  rintro _ x2 ⟨rfl, g2⟩
  have h2 := h1.trans (g2.mono h1.size)
  clear h1 g2
  go_wp2_with fail
  refine (J1.out _).mono ?_
  rintro _ x3 ⟨rfl, g3⟩
  have h3 := h2.trans (g3.mono h2.size)
  clear h2 g3
  go_wp2_with fail
  refine (awake_any C _).mono ?_
  rintro _ x4 ⟨rfl, g4⟩
  have h4 := h3.trans (g4.mono h3.size)
  clear h3 g4
  go_wp2_with fail
  refine (HRAB.out _).mono ?_
  rintro _ x5 ⟨rfl, rfl⟩
  go_wp2_with fail
  refine (HRA.out _).mono ?_
  rintro _ x6 ⟨rfl, rfl⟩
  go_wp2_with fail
  refine (J2.out _).mono ?_
  rintro _ x7 ⟨rfl, g7⟩
  have h7 := h4.trans (g7.mono h4.size)
  clear h4 g7
  by_cases hneg : n < 0
  · have := J4.out hneg
    simp only [Prod.mk.injEq] at this
    obtain ⟨rfl, rfl⟩ := this
    go_wp2_with fail
    go_ret
    exact ⟨rfl, h7⟩
  · have := J5.out (by omega)
    subst this
    by_cases hbig : 3000 < n
    · go_wp2_with fail
      go_ret
      exact ⟨rfl, h7⟩
    · have j3 := J3.out (by omega) (by omega)
      have J3' := Lib.hid j3; clear j3
      go_wp2_with fail
      refine (HRA.out _).mono ?_
      rintro _ x8 ⟨rfl, rfl⟩
      go_wp2_with fail
      refine (J3'.out _).mono ?_
      rintro _ x9 ⟨rfl, rfl⟩
      go_wp2_with fail
      go_ret
      exact ⟨rfl, h7⟩

set_option maxRecDepth 100000 in
theorem lifted (C : Contracts) (os : Os) (started : os.Started) (H : Type) (enc : TypeId × Value → H) :
    ReturnsInHanded {} Try.checked os 5 .any (Rows.checkJoinsSpec.pre6 enc Try.prog Try.f5 Rows.checkJoinsRow.domain false) (Rows.checkJoinsSpec.post enc Try.prog Try.f5 false true false false) := by
  refine returnsInHanded_of_change (C := Try.checked) own started (by kernel_rfl) Try.func5
    (ChangeSpec.witness6 (enc := enc) (C := Try.checked) false ⟨#[], #[.string ⟨#[]⟩, .string ⟨#[]⟩, .int .i64 0], []⟩ 8 (by kernel_rfl) (by kernel_rfl) (by kernel_rfl) (by kernel_rfl)) ?_
  intro W base args ds gs before hval0 hW hcnd _
  have hval : ∀ (j : Nat) t v, Try.f5.params[j]? = some t → args[j]? = some v → Value.okWide Try.prog W .any base t v := hval0
  have hW' := hW
  obtain ⟨p, q, hA0, hV, rfl, hfz, hnd⟩ := hW
  have hA : DataW.TrodAll enc Try.prog W 0 (fun _ => true) true Try.f5.params.toList args.toList ds p := hA0
  rw [Try.params5] at hA hval
  obtain ⟨v0, vs0, d0, ds0, p0, q0, hargs, rfl, rfl, h0, r0⟩ := trodAll_cons hA
  obtain ⟨v1, vs1, d1, ds1, p1, q1, rfl, rfl, rfl, h1, r1⟩ := trodAll_cons r0
  obtain ⟨v2, vs2, d2, ds2, p2, q2, rfl, rfl, rfl, h2, r2⟩ := trodAll_cons r1
  obtain ⟨rfl, rfl, rfl⟩ := trodAll_nil r2
  obtain rfl : args = #[v0, v1, v2] := by cases args; simp_all
  obtain ⟨s0, rfl, rfl, rfl, ws0⟩ := open_string Try.underlying9 (hval 0 9 v0 rfl rfl) h0
  obtain ⟨a, rfl⟩ : ∃ l, s0 = str l := ⟨_, (str_eq s0).symm⟩
  have ha : a.length ≤ 9223372036854775807 := by rw [← str_size]; exact Nat.le_trans ws0 (by decide)
  obtain ⟨s1, rfl, rfl, rfl, ws1⟩ := open_string Try.underlying9 (hval 1 9 v1 rfl rfl) h1
  obtain ⟨b, rfl⟩ : ∃ l, s1 = str l := ⟨_, (str_eq s1).symm⟩
  have hb : b.length ≤ 9223372036854775807 := by rw [← str_size]; exact Nat.le_trans ws1 (by decide)
  obtain ⟨n, rfl, rfl, rfl, w2⟩ := open_int Try.underlying3 (hval 2 3 v2 rfl rfl) h2
  have hnr : -9223372036854775808 ≤ n ∧ n ≤ 9223372036854775807 := by simpa [Lit.wf, IntKind.min, IntKind.max, IntKind.signed, IntKind.bits] using w2
  refine (walk C a b n ha hb hnr.1 hnr.2 W).mono fun e W' ⟨he, hb⟩ => ?_
  subst he
  exact ⟨_, rfl, post_law hW' hb laidOut rfl rfl rfl Try.underlying4 (by rw [Try.params5]; decide +kernel)⟩

theorem over (C : Contracts) : Rows.checkJoinsRow.holds Try.pinned (OpenSpec.ofChange Rows.checkJoinsSpec) :=
  OpenClaim.holds_of_wide 5 Try.f5 rfl rfl rfl rfl rfl rfl rfl ⟨rfl, rfl, rfl, rfl, rfl⟩ rfl rfl rfl rfl rfl (by kernel_rfl) Try.func5 (by kernel_rfl)
    (of_decide_eq_true (by kernel_rfl)) (by unfold Func.isWrapper; first | (rw [if_pos (by decide +kernel)]; kernel_rfl) | (rw [if_neg (by decide +kernel)]; exact ⟨rfl, rfl⟩))
    (fun os started H enc _ => lifted C os started H enc)

theorem given (C : Contracts) : Rows.CheckJoinsSaid := over C
theorem proved : Rows.CheckJoinsSaid := given contracts
#print axioms proved
end Go.Proofs.Ytlfkbdfaacpjeaa.checkJoins
