/-
  CheckThree: joined from the left or from the right, the sums of three texts come to the same. No condition.
-/
import Derived.Test.YtlfkbdfaacpjeaaRows
import Derived.Test.YtlfkbdfaacpjeaaCLaw
import Derived.Test.YtlfkbdfaacpjeaaCImpl
import Derived.Test.YtlfkbdfaacpjeaaKLaw
namespace Go.Proofs.Ytlfkbdfaacpjeaa.checkThree
open Go.ChangeShapes Go.WideShapes Go.ChangeAt Go.RowKit
open Go.ChangeMaps (open_string shut_string)
open Go.Proofs.Ytlfkbdfaacpjeaa.B Go.Proofs.Ytlfkbdfaacpjeaa.C Go.Proofs.Ytlfkbdfaacpjeaa.K
set_option linter.unusedVariables false

theorem own : ownKnob Try.prog.godebug = none := by kernel_rfl
theorem laidOut : laidOutB Try.prog = true := by kernel_rfl

set_option maxHeartbeats 1000000 in
theorem walk (C : Contracts) (a0 b0 c0 : List UInt8) (ha : a0.length ≤ 9223372036854775807) (hb : b0.length ≤ 9223372036854775807) (hc : c0.length ≤ 9223372036854775807) (w : World) :
    Calls Try.prog 6 #[.string (str a0), .string (str b0), .string (str c0)] w fun e w' => e = .returned (.bool true) ∧ Below w.heap.size w w' := by
  have hfa := fun w => few_any a0 w ha
  have hfb := fun w => few_any b0 w hb
  have hfc := fun w => few_any c0 w hc
  have hla := few_length a0
  have hlb := few_length b0
  have hlc := few_length c0
  obtain ⟨a, hae⟩ : ∃ l, few a0 = l := ⟨_, rfl⟩
  obtain ⟨b, hbe⟩ : ∃ l, few b0 = l := ⟨_, rfl⟩
  obtain ⟨c, hce⟩ : ∃ l, few c0 = l := ⟨_, rfl⟩
  rw [hae] at hfa hla
  rw [hbe] at hfb hlb
  rw [hce] at hfc hlc
  clear hae hbe hce ha hb hc
  have hzb : (str b).size = b.length := str_size b
  have hzc : (str c).size = c.length := str_size c
  have hsa := fun w => C.sum a w (by omega)
  have hsb := fun w => C.sum b w (by omega)
  have hsc := fun w => C.sum c w (by omega)
  have hA := sum_lt a
  have hB := sum_lt b
  have hC := sum_lt c
  obtain ⟨A, eA⟩ : ∃ q, sum a = q := ⟨_, rfl⟩
  obtain ⟨B, eB⟩ : ∃ q, sum b = q := ⟨_, rfl⟩
  obtain ⟨D, eD⟩ : ∃ q, sum c = q := ⟨_, rfl⟩
  rw [eA] at hsa hA
  rw [eB] at hsb hB
  rw [eD] at hsc hC
  clear eA eB eD
  obtain ⟨nb, enb⟩ : ∃ q, b.length = q := ⟨_, rfl⟩
  obtain ⟨nc, enc⟩ : ∃ q, c.length = q := ⟨_, rfl⟩
  rw [enb] at hzb hlb
  rw [enc] at hzc hlc
  clear enb enc
  have j1 := fun w => C.join A B (nb : Int) w hA hB (by omega) (by omega)
  have j2 := fun w => C.join (join A B nb) D (nc : Int) w (join_lt _ _ _ hA hB) hC (by omega) (by omega)
  have j3 := fun w => C.join B D (nc : Int) w hB hC (by omega) (by omega)
  have j4 := fun w => C.join A (join B D nc) ((nb : Int) + (nc : Int)) w hA (join_lt _ _ _ hB hC) (by omega) (by omega)
  rw [joinOf_nat] at j1 j2 j3
  rw [show (nb : Int) + (nc : Int) = ((nb + nc : Nat) : Int) by omega, joinOf_nat, ← join_join] at j4
  rw [show ((nb + nc : Nat) : Int) = (nb : Int) + (nc : Int) by omega] at j4
  obtain ⟨X, eX⟩ : ∃ q, join A B nb = q := ⟨_, rfl⟩
  rw [eX] at j1 j2 j4
  obtain ⟨Y, eY⟩ : ∃ q, join X D nc = q := ⟨_, rfl⟩
  rw [eY] at j2 j4
  obtain ⟨Z, eZ⟩ : ∃ q, join B D nc = q := ⟨_, rfl⟩
  rw [eZ] at j3 j4
  clear eX eY eZ hA hB hC
  have HFA := Lib.hid hfa; clear hfa
  have HFB := Lib.hid hfb; clear hfb
  have HFC := Lib.hid hfc; clear hfc
  have HSA := Lib.hid hsa; clear hsa
  have HSB := Lib.hid hsb; clear hsb
  have HSC := Lib.hid hsc; clear hsc
  have J1 := Lib.hid j1; clear j1
  have J2 := Lib.hid j2; clear j2
  have J3 := Lib.hid j3; clear j3
  have J4 := Lib.hid j4; clear j4
  go_enter Try.func6, Try.ntmps6
  go_wp2_with fail
  refine (HFA.out _).mono ?_
  rintro _ w1 ⟨rfl, rfl⟩
  go_wp2_with fail
  refine (HFB.out _).mono ?_
  rintro _ w2 ⟨rfl, rfl⟩
  go_wp2_with fail
  refine (HFC.out _).mono ?_
  rintro _ w3 ⟨rfl, rfl⟩
  have h0 : Below w.heap.size w w := Below.refl _ _
  go_wp2_with fail
  refine (HSA.out _).mono ?_
  rintro _ x1 ⟨rfl, g1⟩
  have h1 := h0.trans (g1.mono h0.size)
  clear h0 g1
  go_wp2_with fail
  refine (HSB.out _).mono ?_
  rintro _ x2 ⟨rfl, g2⟩
  have h2 := h1.trans (g2.mono h1.size)
  clear h1 g2
  go_wp2_with fail
  refine (J1.out _).mono ?_
  rintro _ x3 ⟨rfl, g3⟩
  have h3 := h2.trans (g3.mono h2.size)
  clear h2 g3
  go_wp2_with fail
  refine (HSC.out _).mono ?_
  rintro _ x4 ⟨rfl, g4⟩
  have h4 := h3.trans (g4.mono h3.size)
  clear h3 g4
  go_wp2_with fail
  refine (J2.out _).mono ?_
  rintro _ x5 ⟨rfl, g5⟩
  have h5 := h4.trans (g5.mono h4.size)
  clear h4 g5
  go_wp2_with fail
  refine (HSB.out _).mono ?_
  rintro _ x6 ⟨rfl, g6⟩
  have h6 := h5.trans (g6.mono h5.size)
  clear h5 g6
  go_wp2_with fail
  refine (HSC.out _).mono ?_
  rintro _ x7 ⟨rfl, g7⟩
  have h7 := h6.trans (g7.mono h6.size)
  clear h6 g7
  go_wp2_with fail
  refine (J3.out _).mono ?_
  rintro _ x8 ⟨rfl, g8⟩
  have h8 := h7.trans (g8.mono h7.size)
  clear h7 g8
  go_wp2_with fail
  refine (HSA.out _).mono ?_
  rintro _ x9 ⟨rfl, g9⟩
  have h9 := h8.trans (g9.mono h8.size)
  clear h8 g9
  go_wp2_with fail
  refine (J4.out _).mono ?_
  rintro _ x10 ⟨rfl, g10⟩
  have h10 := h9.trans (g10.mono h9.size)
  clear h9 g10
  go_wp2_with fail
  refine (awake_any C _).mono ?_
  rintro _ x11 ⟨rfl, g11⟩
  have h11 := h10.trans (g11.mono h10.size)
  clear h10 g11
  go_wp2_with fail
  go_ret
  exact ⟨rfl, h11⟩

set_option maxRecDepth 100000 in
theorem lifted (C : Contracts) (os : Os) (started : os.Started) (H : Type) (enc : TypeId × Value → H) :
    ReturnsInHanded {} Try.checked os 6 .any (Rows.checkThreeSpec.pre6 enc Try.prog Try.f6 Rows.checkThreeRow.domain false) (Rows.checkThreeSpec.post enc Try.prog Try.f6 false true false false) := by
  refine returnsInHanded_of_change (C := Try.checked) own started (by kernel_rfl) Try.func6
    (ChangeSpec.witness6 (enc := enc) (C := Try.checked) false ⟨#[], #[.string ⟨#[]⟩, .string ⟨#[]⟩, .string ⟨#[]⟩], []⟩ 8 (by kernel_rfl) (by kernel_rfl) (by kernel_rfl) (by kernel_rfl)) ?_
  intro W base args ds gs before hval0 hW hcnd _
  have hval : ∀ (j : Nat) t v, Try.f6.params[j]? = some t → args[j]? = some v → Value.okWide Try.prog W .any base t v := hval0
  have hW' := hW
  obtain ⟨p, q, hA0, hV, rfl, hfz, hnd⟩ := hW
  have hA : DataW.TrodAll enc Try.prog W 0 (fun _ => true) true Try.f6.params.toList args.toList ds p := hA0
  rw [Try.params6] at hA hval
  obtain ⟨v0, vs0, d0, ds0, p0, q0, hargs, rfl, rfl, h0, r0⟩ := trodAll_cons hA
  obtain ⟨v1, vs1, d1, ds1, p1, q1, rfl, rfl, rfl, h1, r1⟩ := trodAll_cons r0
  obtain ⟨v2, vs2, d2, ds2, p2, q2, rfl, rfl, rfl, h2, r2⟩ := trodAll_cons r1
  obtain ⟨rfl, rfl, rfl⟩ := trodAll_nil r2
  obtain rfl : args = #[v0, v1, v2] := by cases args; simp_all
  obtain ⟨s0, rfl, rfl, rfl, ws0⟩ := open_string Try.underlying9 (hval 0 9 v0 rfl rfl) h0
  obtain ⟨a, rfl⟩ : ∃ l, s0 = str l := ⟨_, (str_eq s0).symm⟩
  have ha : a.length ≤ 9223372036854775807 := by rw [← str_size]; exact Nat.le_trans ws0 (by decide)
  obtain ⟨s1, rfl, rfl, rfl, ws1⟩ := open_string Try.underlying9 (hval 1 9 v1 rfl rfl) h1
  obtain ⟨b, rfl⟩ : ∃ l, s1 = str l := ⟨_, (str_eq s1).symm⟩
  have hb : b.length ≤ 9223372036854775807 := by rw [← str_size]; exact Nat.le_trans ws1 (by decide)
  obtain ⟨s2, rfl, rfl, rfl, ws2⟩ := open_string Try.underlying9 (hval 2 9 v2 rfl rfl) h2
  obtain ⟨c, rfl⟩ : ∃ l, s2 = str l := ⟨_, (str_eq s2).symm⟩
  have hc : c.length ≤ 9223372036854775807 := by rw [← str_size]; exact Nat.le_trans ws2 (by decide)
  refine (walk C a b c ha hb hc W).mono fun e W' ⟨he, hb⟩ => ?_
  subst he
  exact ⟨_, rfl, post_law hW' hb laidOut rfl rfl rfl Try.underlying4 (by rw [Try.params6]; decide +kernel)⟩

theorem over (C : Contracts) : Rows.checkThreeRow.holds Try.pinned (OpenSpec.ofChange Rows.checkThreeSpec) :=
  OpenClaim.holds_of_wide 6 Try.f6 rfl rfl rfl rfl rfl rfl rfl ⟨rfl, rfl, rfl, rfl, rfl⟩ rfl rfl rfl rfl rfl (by kernel_rfl) Try.func6 (by kernel_rfl)
    (of_decide_eq_true (by kernel_rfl)) (by unfold Func.isWrapper; first | (rw [if_pos (by decide +kernel)]; kernel_rfl) | (rw [if_neg (by decide +kernel)]; exact ⟨rfl, rfl⟩))
    (fun os started H enc _ => lifted C os started H enc)

theorem given (C : Contracts) : Rows.CheckThreeSaid := over C
theorem proved : Rows.CheckThreeSaid := given contracts
#print axioms proved
end Go.Proofs.Ytlfkbdfaacpjeaa.checkThree
