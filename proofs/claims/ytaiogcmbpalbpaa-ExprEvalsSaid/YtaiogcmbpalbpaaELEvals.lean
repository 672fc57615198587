/-
  ExprEvals: what every expression comes to: as the document says. No condition.
-/
import Derived.Test.YtaiogcmbpalbpaaRows
import Derived.Test.YtaiogcmbpalbpaaELaw
import Derived.Test.YtaiogcmbpalbpaaEImpl
import Derived.Test.YtaiogcmbpalbpaaEEval
import Derived.Test.YtaiogcmbpalbpaaKArgs
import Derived.Test.YtaiogcmbpalbpaaKLaw
namespace Go.Proofs.Ytaiogcmbpalbpaa.exprEvals
open Go.ChangeShapes Go.WideShapes Go.ChangeAt Go.RowKit
open Go.Proofs.Ytaiogcmbpalbpaa.E Go.Proofs.Ytaiogcmbpalbpaa.B Go.Proofs.Ytaiogcmbpalbpaa.K
set_option linter.unusedVariables false

theorem own : ownKnob Try.prog.godebug = none := by kernel_rfl
theorem laidOut : laidOutB Try.prog = true := by kernel_rfl

set_option maxHeartbeats 1000000 in
set_option maxRecDepth 100000 in
theorem walk (C : Contracts) (code : List In) (vs ar : List Int) (v v1 v2 : Value) (w : World) (hs : SlI w v code) (hs1 : Sl w v1 (vs.map (Value.int .i64))) (hs2 : Sl w v2 (ar.map (Value.int .i64)))
    (hwf : ∀ i ∈ code, I64 i.1 ∧ I64 i.2) (hw1 : ∀ x ∈ vs, I64 x) (hw2 : ∀ x ∈ ar, I64 x) (hl : code.length ≤ maxLen) (hl1 : vs.length ≤ maxLen) (hl2 : ar.length ≤ maxLen) :
    Calls Try.prog 4 #[v, v1, v2] w fun e w' => e = .returned (.bool true) ∧ Below w.heap.size w w' := by
  have h1 := C.eval_ code vs ar v v1 v2 w hs hs1 hs2 hwf hw1 hw2 hl hl1 hl2
  have h2 := fun W (hb : Below w.heap.size w W) => refEval_any code vs ar v v1 v2 W (hs.below hb) (hs1.below hb) (hs2.below hb) hl hl1 hl2
  obtain ⟨⟨p, er⟩, hE⟩ : ∃ t, eval code vs ar = t := ⟨_, rfl⟩
  rw [hE] at h1 h2
  obtain ⟨a, cap, rfl, -⟩ := hs
  obtain ⟨a1, cap1, rfl, -⟩ := hs1
  obtain ⟨a2, cap2, rfl, -⟩ := hs2
  generalize (vs.map (Value.int .i64)).length = n1 at h1 h2 ⊢
  generalize (ar.map (Value.int .i64)).length = n2 at h1 h2 ⊢
  have H1 := Lib.hid h1
  have H2 := Lib.hid h2
  clear h1 h2 hE hwf hw1 hw2 hl hl1 hl2
  go_enter Try.func4, Try.ntmps4
  go_wp2_with fail
  refine H1.out.mono ?_
  rintro _ w1 ⟨rfl, b1⟩
  have B1 := Lib.hid b1; clear b1
  go_wp2_with fail
  refine (H2.out _ B1.out).mono ?_
  rintro _ w2 ⟨rfl, b2⟩
  have B2 := Lib.hid (B1.out.trans (b2.mono B1.out.size)); clear b2
  go_wp2_with fail
  refine (awake_any C _).mono ?_
  rintro _ w3 ⟨rfl, b3⟩
  have B3 := Lib.hid (B2.out.trans (b3.mono B2.out.size)); clear b3
  go_wp2_with fail
  go_ret
  exact ⟨rfl, B3.out⟩

set_option maxRecDepth 100000 in
theorem lifted (C : Contracts) (os : Os) (started : os.Started) (H : Type) (enc : TypeId × Value → H) :
    ReturnsInHanded {} Try.checked os 4 .any (Rows.exprEvalsSpec.pre6 enc Try.prog Try.f4 Rows.exprEvalsRow.domain false) (Rows.exprEvalsSpec.post enc Try.prog Try.f4 false true false false) := by
  refine returnsInHanded_of_change (C := Try.checked) own started (by kernel_rfl) Try.func4
    (ChangeSpec.witness6 (enc := enc) (C := Try.checked) false ⟨#[], #[.slice none 0 0, .slice none 0 0, .slice none 0 0], []⟩ 8 (by kernel_rfl) (by kernel_rfl) (by kernel_rfl) (by kernel_rfl)) ?_
  intro W base args ds gs before hval0 hW hcnd _
  have hval : ∀ (j : Nat) t v, Try.f4.params[j]? = some t → args[j]? = some v → Value.okWide Try.prog W .any base t v := hval0
  have hW' := hW
  obtain ⟨p, q, hA0, hV, rfl, hfz, hnd⟩ := hW
  have hA : DataW.TrodAll enc Try.prog W 0 (fun _ => true) true Try.f4.params.toList args.toList ds p := hA0
  rw [Try.params4] at hA hval
  obtain ⟨v0, vs0, d0, ds0, p0, q0, hargs, rfl, rfl, h0, r0⟩ := trodAll_cons hA
  obtain ⟨v1, vs1, d1, ds1, p1, q1, rfl, rfl, rfl, h1, r1⟩ := trodAll_cons r0
  obtain ⟨v2, vs2, d2, ds2, p2, q2, rfl, rfl, rfl, h2, r2⟩ := trodAll_cons r1
  obtain ⟨rfl, rfl, rfl⟩ := trodAll_nil r2
  obtain rfl : args = #[v0, v1, v2] := by cases args; simp_all
  obtain ⟨code, hsl, hwf, hlen⟩ := pairs_arg Try.underlying22 Try.underlying47 rfl rfl rfl rfl Try.underlying3 Try.underlying3 (by kernel_rfl) (by kernel_rfl) (by kernel_rfl) (hval 0 22 v0 rfl rfl) h0
  obtain ⟨vs, hs1, hw1, hl1⟩ := ints_arg Try.underlying28 Try.underlying3 (by kernel_rfl) (hval 1 28 v1 rfl rfl) h1
  obtain ⟨ar, hs2, hw2, hl2⟩ := ints_arg Try.underlying28 Try.underlying3 (by kernel_rfl) (hval 2 28 v2 rfl rfl) h2

  refine (walk C code vs ar v0 v1 v2 W hsl hs1 hs2 hwf hw1 hw2 hlen hl1 hl2).mono fun e W' ⟨he, hb⟩ => ?_
  subst he
  exact ⟨_, rfl, post_law hW' hb laidOut rfl rfl rfl Try.underlying4 (by rw [Try.params4]; decide +kernel)⟩

theorem over (C : Contracts) : Rows.exprEvalsRow.holds Try.pinned (OpenSpec.ofChange Rows.exprEvalsSpec) :=
  OpenClaim.holds_of_wide 4 Try.f4 rfl rfl rfl rfl rfl rfl rfl ⟨rfl, rfl, rfl, rfl, rfl⟩ rfl rfl rfl rfl rfl (by kernel_rfl) Try.func4 (by kernel_rfl)
    (of_decide_eq_true (by kernel_rfl)) (by unfold Func.isWrapper; first | (rw [if_pos (by decide +kernel)]; kernel_rfl) | (rw [if_neg (by decide +kernel)]; exact ⟨rfl, rfl⟩))
    (fun os started H enc _ => lifted C os started H enc)

theorem given (C : Contracts) : Rows.ExprEvalsSaid := over C
theorem proved : Rows.ExprEvalsSaid := given contracts
#print axioms proved
end Go.Proofs.Ytaiogcmbpalbpaa.exprEvals
