/-
  ExprUses: which variables and arguments are named, and how many numbers wait at most: as the document says. No condition.
-/
import Derived.Test.YtaiogcmbpalbpaaRows
import Derived.Test.YtaiogcmbpalbpaaELaw
import Derived.Test.YtaiogcmbpalbpaaEImpl
import Derived.Test.YtaiogcmbpalbpaaEUses
import Derived.Test.YtaiogcmbpalbpaaESame
import Derived.Test.YtaiogcmbpalbpaaKArgs
import Derived.Test.YtaiogcmbpalbpaaKLaw
namespace Go.Proofs.Ytaiogcmbpalbpaa.exprUses
open Go.ChangeShapes Go.WideShapes Go.ChangeAt Go.RowKit
open Go.Proofs.Ytaiogcmbpalbpaa.E Go.Proofs.Ytaiogcmbpalbpaa.B Go.Proofs.Ytaiogcmbpalbpaa.K
set_option linter.unusedVariables false

theorem own : ownKnob Try.prog.godebug = none := by kernel_rfl
theorem laidOut : laidOutB Try.prog = true := by kernel_rfl

set_option maxHeartbeats 1000000 in
set_option maxRecDepth 100000 in
theorem walk (C : Contracts) (code : List In) (v : Value) (w : World) (hs : SlI w v code) (hwf : ∀ i ∈ code, I64 i.1 ∧ I64 i.2) (hl : code.length ≤ maxLen) :
    Calls Try.prog 6 #[v] w fun e w' => e = .returned (.bool true) ∧ Below w.heap.size w w' := by
  have H1 := Lib.hid (C.uses_ code v w hs hwf hl)
  have H2 := Lib.hid (fun W (hb : Below w.heap.size w W) => refUses_any code v 2 6 W (hs.below hb) hl (by decide) (by decide))
  have H3 := Lib.hid (fun W (hb : Below w.heap.size w W) => refUses_any code v 3 4 W (hs.below hb) hl (by decide) (by decide))
  have H4 := Lib.hid (fun W (hb : Below w.heap.size w W) => C.depth_ code v W (hs.below hb) hwf hl)
  have H5 := Lib.hid (fun W (hb : Below w.heap.size w W) => refDepth_any code v W (hs.below hb) hl)
  have l1 : (uses 2 6 code).length ≤ 9223372036854775807 := by rw [uses_length]; have := usesTop_lt 2 6 code (-1) (by decide); omega
  have l2 : (uses 3 4 code).length ≤ 9223372036854775807 := by rw [uses_length]; have := usesTop_lt 3 4 code (-1) (by decide); omega
  have L1 := Lib.hid l1
  have L2 := Lib.hid l2
  obtain ⟨a, cap, rfl, -⟩ := hs
  clear hwf hl l1 l2
  go_enter Try.func6, Try.ntmps6
  go_wp2_with fail
  refine H1.out.mono ?_
  rintro _ w1 ⟨⟨u1, u2, rfl, s1, s2⟩, b1⟩
  have B1 := Lib.hid b1; have S1 := Lib.hid s1; have S2 := Lib.hid s2; clear b1 s1 s2
  go_wp2_with fail
  refine (awake_any C _).mono ?_
  rintro _ w2 ⟨rfl, b2⟩
  have B2 := Lib.hid (B1.out.trans (b2.mono B1.out.size)); have T2 := Lib.hid b2; clear b2
  go_wp2_with fail
  refine (H2.out _ B2.out).mono ?_
  rintro _ w3 ⟨⟨u3, rfl, s3⟩, b3⟩
  have B3 := Lib.hid (B2.out.trans (b3.mono B2.out.size)); have T3 := Lib.hid (T2.out.trans (b3.mono T2.out.size))
  have HC := Lib.hid (refBools_same _ u1 u3 w3 (S1.out.below T3.out) s3 L1.out)
  clear b3 s3
  go_wp2_with fail
  refine HC.out.mono ?_
  rintro _ w4 ⟨rfl, b4⟩
  have B4 := Lib.hid (B3.out.trans (b4.mono B3.out.size)); have T4 := Lib.hid (T3.out.trans (b4.mono T3.out.size))
  clear b4 HC
  go_wp2_with fail
  refine (H3.out _ B4.out).mono ?_
  rintro _ w5 ⟨⟨u5, rfl, s5⟩, b5⟩
  have B5 := Lib.hid (B4.out.trans (b5.mono B4.out.size)); have T5 := Lib.hid (T4.out.trans (b5.mono T4.out.size))
  have HC := Lib.hid (refBools_same _ u2 u5 w5 (S2.out.below T5.out) s5 L2.out)
  clear b5 s5
  go_wp2_with fail
  refine HC.out.mono ?_
  rintro _ w6 ⟨rfl, b6⟩
  have B6 := Lib.hid (B5.out.trans (b6.mono B5.out.size))
  clear b6 HC
  go_wp2_with fail
  refine (H4.out _ B6.out).mono ?_
  rintro _ w7 ⟨rfl, b7⟩
  have B7 := Lib.hid (B6.out.trans (b7.mono B6.out.size))
  clear b7
  go_wp2_with fail
  refine (H5.out _ B7.out).mono ?_
  rintro _ w8 ⟨rfl, b8⟩
  have B8 := Lib.hid (B7.out.trans (b8.mono B7.out.size))
  clear b8
  go_wp2_with fail
  go_ret
  exact ⟨rfl, B8.out⟩

set_option maxRecDepth 100000 in
theorem lifted (C : Contracts) (os : Os) (started : os.Started) (H : Type) (enc : TypeId × Value → H) :
    ReturnsInHanded {} Try.checked os 6 .any (Rows.exprUsesSpec.pre6 enc Try.prog Try.f6 Rows.exprUsesRow.domain false) (Rows.exprUsesSpec.post enc Try.prog Try.f6 false true false false) := by
  refine returnsInHanded_of_change (C := Try.checked) own started (by kernel_rfl) Try.func6
    (ChangeSpec.witness6 (enc := enc) (C := Try.checked) false ⟨#[], #[.slice none 0 0], []⟩ 8 (by kernel_rfl) (by kernel_rfl) (by kernel_rfl) (by kernel_rfl)) ?_
  intro W base args ds gs before hval0 hW hcnd _
  have hval : ∀ (j : Nat) t v, Try.f6.params[j]? = some t → args[j]? = some v → Value.okWide Try.prog W .any base t v := hval0
  have hW' := hW
  obtain ⟨p, q, hA0, hV, rfl, hfz, hnd⟩ := hW
  have hA : DataW.TrodAll enc Try.prog W 0 (fun _ => true) true Try.f6.params.toList args.toList ds p := hA0
  rw [Try.params6] at hA hval
  obtain ⟨v0, vs0, d0, ds0, p0, q0, hargs, rfl, rfl, h0, r0⟩ := trodAll_cons hA
  obtain ⟨rfl, rfl, rfl⟩ := trodAll_nil r0
  obtain rfl : args = #[v0] := by cases args; simp_all
  obtain ⟨code, hsl, hwf, hlen⟩ := pairs_arg Try.underlying22 Try.underlying47 rfl rfl rfl rfl Try.underlying3 Try.underlying3 (by kernel_rfl) (by kernel_rfl) (by kernel_rfl) (hval 0 22 v0 rfl rfl) h0

  refine (walk C code v0 W hsl hwf hlen).mono fun e W' ⟨he, hb⟩ => ?_
  subst he
  exact ⟨_, rfl, post_law hW' hb laidOut rfl rfl rfl Try.underlying4 (by rw [Try.params6]; decide +kernel)⟩

theorem over (C : Contracts) : Rows.exprUsesRow.holds Try.pinned (OpenSpec.ofChange Rows.exprUsesSpec) :=
  OpenClaim.holds_of_wide 6 Try.f6 rfl rfl rfl rfl rfl rfl rfl ⟨rfl, rfl, rfl, rfl, rfl⟩ rfl rfl rfl rfl rfl (by kernel_rfl) Try.func6 (by kernel_rfl)
    (of_decide_eq_true (by kernel_rfl)) (by unfold Func.isWrapper; first | (rw [if_pos (by decide +kernel)]; kernel_rfl) | (rw [if_neg (by decide +kernel)]; exact ⟨rfl, rfl⟩))
    (fun os started H enc _ => lifted C os started H enc)

theorem given (C : Contracts) : Rows.ExprUsesSaid := over C
theorem proved : Rows.ExprUsesSaid := given contracts
#print axioms proved
end Go.Proofs.Ytaiogcmbpalbpaa.exprUses
