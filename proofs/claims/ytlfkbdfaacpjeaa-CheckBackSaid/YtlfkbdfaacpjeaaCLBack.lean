/-
  CheckBack: what is sealed is opened as it was. No condition.
-/
import Derived.Test.YtlfkbdfaacpjeaaRows
import Derived.Test.YtlfkbdfaacpjeaaCLaw
import Derived.Test.YtlfkbdfaacpjeaaCImpl
import Derived.Test.YtlfkbdfaacpjeaaKLaw
namespace Go.Proofs.Ytlfkbdfaacpjeaa.checkBack
open Go.ChangeShapes Go.WideShapes Go.ChangeAt Go.RowKit
open Go.ChangeMaps (open_string shut_string)
open Go.Proofs.Ytlfkbdfaacpjeaa.B Go.Proofs.Ytlfkbdfaacpjeaa.C Go.Proofs.Ytlfkbdfaacpjeaa.K
set_option linter.unusedVariables false

theorem own : ownKnob Try.prog.godebug = none := by kernel_rfl
theorem laidOut : laidOutB Try.prog = true := by kernel_rfl

set_option maxHeartbeats 1000000 in
theorem walk (C : Contracts) (l0 : List UInt8) (hl : l0.length ≤ 9223372036854775807) (w : World) :
    Calls Try.prog 7 #[.string (str l0)] w fun e w' => e = .returned (.bool true) ∧ Below w.heap.size w w' := by
  have hfew := fun w => few_any l0 w hl
  have hfl := few_length l0
  obtain ⟨l, hle⟩ : ∃ l, few l0 = l := ⟨_, rfl⟩
  rw [hle] at hfew hfl
  have hsz : (str l).size = l.length := str_size l
  have hss : (str (sealed l)).size = l.length + 4 := by rw [str_size, sealed_length]
  have hse := fun w => C.seal_ l w (by omega)
  have hop := fun w => C.open_ (sealed l) w (by rw [sealed_length]; omega)
  rw [open_sealed] at hop
  have HF := Lib.hid hfew; clear hfew
  have HSE := Lib.hid hse; clear hse
  have HOP := Lib.hid hop; clear hop
  clear hle
  go_enter Try.func7, Try.ntmps7
  go_wp2_with fail
  refine (HF.out _).mono ?_
  rintro _ w1 ⟨rfl, rfl⟩
  go_wp2_with fail
  refine (HSE.out _).mono ?_
  rintro _ w2 ⟨rfl, h2⟩
  go_wp2_with fail
  refine (HOP.out _).mono ?_
  rintro _ w3 ⟨rfl, h3⟩
  have h03 := h2.trans (h3.mono h2.size)
  clear h2 h3
  go_wp2_with fail
  refine (awake_any C _).mono ?_
  rintro _ w4 ⟨rfl, h4⟩
  have h04 := h03.trans (h4.mono h03.size)
  clear h03 h4
  go_wp2_with fail
  refine (HSE.out _).mono ?_
  rintro _ w5 ⟨rfl, h5⟩
  have h05 := h04.trans (h5.mono h04.size)
  clear h04 h5
  go_wp2_with fail
  go_ret
  exact ⟨rfl, h05⟩

set_option maxRecDepth 100000 in
theorem lifted (C : Contracts) (os : Os) (started : os.Started) (H : Type) (enc : TypeId × Value → H) :
    ReturnsInHanded {} Try.checked os 7 .any (Rows.checkBackSpec.pre6 enc Try.prog Try.f7 Rows.checkBackRow.domain false) (Rows.checkBackSpec.post enc Try.prog Try.f7 false true false false) := by
  refine returnsInHanded_of_change (C := Try.checked) own started (by kernel_rfl) Try.func7
    (ChangeSpec.witness6 (enc := enc) (C := Try.checked) false ⟨#[], #[.string ⟨#[]⟩], []⟩ 8 (by kernel_rfl) (by kernel_rfl) (by kernel_rfl) (by kernel_rfl)) ?_
  intro W base args ds gs before hval0 hW hcnd _
  have hval : ∀ (j : Nat) t v, Try.f7.params[j]? = some t → args[j]? = some v → Value.okWide Try.prog W .any base t v := hval0
  have hW' := hW
  obtain ⟨p, q, hA0, hV, rfl, hfz, hnd⟩ := hW
  have hA : DataW.TrodAll enc Try.prog W 0 (fun _ => true) true Try.f7.params.toList args.toList ds p := hA0
  rw [Try.params7] at hA hval
  obtain ⟨v0, vs0, d0, ds0, p0, q0, hargs, rfl, rfl, h0, r0⟩ := trodAll_cons hA
  obtain ⟨rfl, rfl, rfl⟩ := trodAll_nil r0
  obtain rfl : args = #[v0] := by cases args; simp_all
  obtain ⟨s, rfl, rfl, rfl, ws⟩ := open_string Try.underlying9 (hval 0 9 v0 rfl rfl) h0
  obtain ⟨l, rfl⟩ : ∃ l, s = str l := ⟨_, (str_eq s).symm⟩
  have hl : l.length ≤ 9223372036854775807 := by rw [← str_size]; exact Nat.le_trans ws (by decide)
  refine (walk C l hl W).mono fun e W' ⟨he, hb⟩ => ?_
  subst he
  exact ⟨_, rfl, post_law hW' hb laidOut rfl rfl rfl Try.underlying4 (by rw [Try.params7]; decide +kernel)⟩

theorem over (C : Contracts) : Rows.checkBackRow.holds Try.pinned (OpenSpec.ofChange Rows.checkBackSpec) :=
  OpenClaim.holds_of_wide 7 Try.f7 rfl rfl rfl rfl rfl rfl rfl ⟨rfl, rfl, rfl, rfl, rfl⟩ rfl rfl rfl rfl rfl (by kernel_rfl) Try.func7 (by kernel_rfl)
    (of_decide_eq_true (by kernel_rfl)) (by unfold Func.isWrapper; first | (rw [if_pos (by decide +kernel)]; kernel_rfl) | (rw [if_neg (by decide +kernel)]; exact ⟨rfl, rfl⟩))
    (fun os started H enc _ => lifted C os started H enc)

theorem given (C : Contracts) : Rows.CheckBackSaid := over C
theorem proved : Rows.CheckBackSaid := given contracts
#print axioms proved
end Go.Proofs.Ytlfkbdfaacpjeaa.checkBack
