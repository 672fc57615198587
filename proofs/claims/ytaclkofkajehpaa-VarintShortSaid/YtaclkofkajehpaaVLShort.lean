/-
  VarintShort: of two ints from 0 on the less one takes no more bytes, and each takes one to ten. No condition.
-/
import Derived.Test.YtaclkofkajehpaaRows
import Derived.Test.YtaclkofkajehpaaVAwake
import Derived.Test.YtaclkofkajehpaaKLaw
namespace Go.Proofs.Ytaclkofkajehpaa.varintShort
open Go.ChangeShapes Go.WideShapes Go.ChangeAt Go.RowKit
open Go.Proofs.Ytaclkofkajehpaa.V Go.Proofs.Ytaclkofkajehpaa.K
set_option linter.unusedVariables false

theorem own : ownKnob Try.prog.godebug = none := by kernel_rfl
theorem laidOut : laidOutB Try.prog = true := by kernel_rfl

theorem uvarint_mono (b : Nat) : ∀ a : Nat, a ≤ b → (Lib.uvarint a).length ≤ (Lib.uvarint b).length := by
  induction b using Nat.strongRecOn with
  | _ b ih =>
    intro a h
    by_cases ha : a < 128
    · rw [Lib.uvarint_small ha]; exact Lib.uvarint_pos b
    · have := ih (b / 128) (by omega) (a / 128) (by omega)
      rw [Lib.uvarint_big (x := a) (by omega), Lib.uvarint_big (x := b) (by omega)]
      simp only [List.length_cons]
      omega

theorem num_mono (a b : Int) (h0 : 0 ≤ a) (h : a ≤ b) : (num a).length ≤ (num b).length := by
  unfold num
  apply uvarint_mono
  unfold Lib.zigzag
  rw [if_pos h0, if_pos (by omega)]
  omega

set_option maxHeartbeats 1000000 in
theorem walk (a b : Int) (wa : (Lit.int .i64 a).wf = true) (wb : (Lit.int .i64 b).wf = true) (w : World) :
    Calls Try.prog 8 #[.int .i64 a, .int .i64 b] w fun e w' => e = .returned (.bool true) ∧ Below w.heap.size w w' := by
  have ha : -9223372036854775808 ≤ a ∧ a ≤ 9223372036854775807 := by simpa [Lit.wf, IntKind.min, IntKind.max, IntKind.signed, IntKind.bits] using wa
  have hb : -9223372036854775808 ≤ b ∧ b ≤ 9223372036854775807 := by simpa [Lit.wf, IntKind.min, IntKind.max, IntKind.signed, IntKind.bits] using wb
  obtain ⟨a0, a1⟩ := ha
  obtain ⟨b0, b1⟩ := hb
  clear wa wb
  have l1 : 1 ≤ ((str (num a)).size : Int) := by rw [str_size]; have := num_pos a; omega
  have l2 : ((str (num a)).size : Int) ≤ 10 := by rw [str_size]; have := num_len a a0 a1; omega
  have l3 : 0 ≤ a → a ≤ b → ((str (num a)).size : Int) ≤ ((str (num b)).size : Int) := fun h h' => by rw [str_size, str_size]; have := num_mono a b h h'; omega
  have L3 := Lib.hid l3; clear l3
  go_enter Try.func8, Try.ntmps8
  go_wp2_with fail
  refine (number_any a _ a0 a1).mono ?_
  rintro e w1 ⟨rfl, hb1⟩
  go_wp2_with fail
  refine (number_any b _ b0 b1).mono ?_
  rintro e w2 ⟨rfl, hb2⟩
  go_wp2_with fail
  refine (awake_any _).mono ?_
  rintro e w3 ⟨rfl, hb3⟩
  have hfin : Below w.heap.size w w3 := (hb1.trans (hb2.mono hb1.size)).trans (hb3.mono (Nat.le_trans hb1.size hb2.size))
  clear hb1 hb2 hb3
  by_cases c1 : a < 0
  · clear L3
    go_wp2_with fail
    go_ret
    exact ⟨rfl, hfin⟩
  · by_cases c2 : b < a
    · clear L3
      go_wp2_with fail
      go_ret
      exact ⟨rfl, hfin⟩
    · have l3 := L3.out (by omega) (by omega)
      clear L3
      go_wp2_with fail
      go_ret
      exact ⟨rfl, hfin⟩

set_option maxRecDepth 100000 in
theorem lifted (os : Os) (started : os.Started) (H : Type) (enc : TypeId × Value → H) :
    ReturnsInHanded {} Try.checked os 8 .any (Rows.varintShortSpec.pre6 enc Try.prog Try.f8 Rows.varintShortRow.domain false) (Rows.varintShortSpec.post enc Try.prog Try.f8 false true false false) := by
  refine returnsInHanded_of_change (C := Try.checked) own started (by kernel_rfl) Try.func8
    (ChangeSpec.witness6 (enc := enc) (C := Try.checked) false ⟨#[], #[.int .i64 0, .int .i64 0], []⟩ 8 (by kernel_rfl) (by kernel_rfl) (by kernel_rfl) (by kernel_rfl)) ?_
  intro W base args ds gs before hval0 hW hcnd _
  have hval : ∀ (j : Nat) t v, Try.f8.params[j]? = some t → args[j]? = some v → Value.okWide Try.prog W .any base t v := hval0
  have hW' := hW
  obtain ⟨p, q, hA0, hV, rfl, hfz, hnd⟩ := hW
  have hA : DataW.TrodAll enc Try.prog W 0 (fun _ => true) true Try.f8.params.toList args.toList ds p := hA0
  rw [Try.params8] at hA hval
  obtain ⟨v0, vs0, d0, ds0, p0, q0, hargs, rfl, rfl, h0, r0⟩ := trodAll_cons hA
  obtain ⟨v1, vs1, d1, ds1, p1, q1, rfl, rfl, rfl, h1, r1⟩ := trodAll_cons r0
  obtain ⟨rfl, rfl, rfl⟩ := trodAll_nil r1
  obtain rfl : args = #[v0, v1] := by cases args; simp_all
  obtain ⟨a, rfl, rfl, rfl, wa⟩ := open_int Try.underlying3 (hval 0 3 v0 rfl rfl) h0
  obtain ⟨b, rfl, rfl, rfl, wb⟩ := open_int Try.underlying3 (hval 1 3 v1 rfl rfl) h1
  refine (walk a b wa wb W).mono fun e W' ⟨he, hb⟩ => ?_
  subst he
  exact ⟨_, rfl, post_law hW' hb laidOut rfl rfl rfl Try.underlying4 (by rw [Try.params8]; decide +kernel)⟩

theorem over : Rows.varintShortRow.holds Try.pinned (OpenSpec.ofChange Rows.varintShortSpec) :=
  OpenClaim.holds_of_wide 8 Try.f8 rfl rfl rfl rfl rfl rfl rfl ⟨rfl, rfl, rfl, rfl, rfl⟩ rfl rfl rfl rfl rfl (by kernel_rfl) Try.func8 (by kernel_rfl)
    (of_decide_eq_true (by kernel_rfl)) (by unfold Func.isWrapper; first | (rw [if_pos (by decide +kernel)]; kernel_rfl) | (rw [if_neg (by decide +kernel)]; exact ⟨rfl, rfl⟩))
    (fun os started H enc _ => lifted os started H enc)

theorem proved : Rows.VarintShortSaid := over
#print axioms proved
end Go.Proofs.Ytaclkofkajehpaa.varintShort
