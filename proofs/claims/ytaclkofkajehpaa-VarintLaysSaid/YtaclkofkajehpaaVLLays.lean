/-
  VarintLays: texts and lists are laid by the program as by the document, or both say that they are too big. No condition.
-/
import Derived.Test.YtaclkofkajehpaaRows
import Derived.Test.YtaclkofkajehpaaVLayTexts
import Derived.Test.YtaclkofkajehpaaVAwake
import Derived.Test.YtaclkofkajehpaaKArgs
import Derived.Test.YtaclkofkajehpaaKLaw
namespace Go.Proofs.Ytaclkofkajehpaa.varintLays
open Go.ChangeShapes Go.WideShapes Go.ChangeAt Go.RowKit
open Go.ChangeMaps (open_string shut_string)
open Go.Proofs.Ytaclkofkajehpaa.V Go.Proofs.Ytaclkofkajehpaa.K
set_option linter.unusedVariables false

theorem own : ownKnob Try.prog.godebug = none := by kernel_rfl
theorem laidOut : laidOutB Try.prog = true := by kernel_rfl

set_option maxHeartbeats 1000000 in
set_option maxRecDepth 100000 in
theorem walk (l : List UInt8) (v v' : Value) (xs : List Int) (ls : List (List UInt8)) (hl : l.length ≤ maxLen) (W : World) (hxs : Sl W v (xs.map (Value.int .i64))) (hxw : ∀ x ∈ xs, -9223372036854775808 ≤ x ∧ x ≤ 9223372036854775807)
    (hls : Sl W v' (ls.map sv)) (hlw : ∀ x ∈ ls, x.length ≤ maxLen) :
    Calls Try.prog 4 #[.string (str l), v, v'] W fun e w' => e = .returned (.bool true) ∧ Below W.heap.size W w' := by
  have HXW := Lib.hid hxw; clear hxw
  have HLW := Lib.hid hlw; clear hlw
  have HL := Lib.hid hl; clear hl
  have HX := Lib.hid hxs; clear hxs
  have HS := Lib.hid hls; clear hls
  go_enter Try.func4, Try.ntmps4
  go_wp2_with fail
  refine (text_any l _ HL.out).mono ?_
  rintro _ w1 ⟨rfl, h1⟩
  go_wp2_with fail
  refine (refText_any l _ HL.out).mono ?_
  rintro _ w2 ⟨rfl, hb2⟩
  have h2 : Below W.heap.size W w2 := h1.trans (hb2.mono h1.size)
  clear h1 hb2
  go_wp2_with fail
  refine (numbers_any v xs _ HXW.out (HX.out.below h2)).mono ?_
  rintro _ w3 ⟨rfl, hb3⟩
  have h3 : Below W.heap.size W w3 := h2.trans (hb3.mono h2.size)
  clear h2 hb3
  go_wp2_with fail
  refine (refNumbers_any v xs _ HXW.out (HX.out.below h3)).mono ?_
  rintro _ w4 ⟨rfl, hb4⟩
  have h4 : Below W.heap.size W w4 := h3.trans (hb4.mono h3.size)
  clear h3 hb4
  go_wp2_with fail
  refine (texts_any v' ls _ HLW.out (HS.out.below h4)).mono ?_
  rintro _ w5 ⟨rfl, hb5⟩
  have h5 : Below W.heap.size W w5 := h4.trans (hb5.mono h4.size)
  clear h4 hb5
  go_wp2_with fail
  refine (refTexts_any v' ls _ HLW.out (HS.out.below h5)).mono ?_
  rintro _ w6 ⟨rfl, hb6⟩
  have h6 : Below W.heap.size W w6 := h5.trans (hb6.mono h5.size)
  clear h5 hb6
  go_wp2_with fail
  refine (awake_any _).mono ?_
  rintro _ w7 ⟨rfl, hb7⟩
  have h7 : Below W.heap.size W w7 := h6.trans (hb7.mono h6.size)
  clear h6 hb7
  go_wp2_with fail
  go_ret
  exact ⟨rfl, h7⟩

set_option maxRecDepth 100000 in
theorem lifted (os : Os) (started : os.Started) (H : Type) (enc : TypeId × Value → H) :
    ReturnsInHanded {} Try.checked os 4 .any (Rows.varintLaysSpec.pre6 enc Try.prog Try.f4 Rows.varintLaysRow.domain false) (Rows.varintLaysSpec.post enc Try.prog Try.f4 false true false false) := by
  refine returnsInHanded_of_change (C := Try.checked) own started (by kernel_rfl) Try.func4
    (ChangeSpec.witness6 (enc := enc) (C := Try.checked) false ⟨#[], #[.string ⟨#[]⟩, .slice none 0 0, .slice none 0 0], []⟩ 8 (by kernel_rfl) (by kernel_rfl) (by kernel_rfl) (by kernel_rfl)) ?_
  intro W base args ds gs before hval0 hW hcnd _
  have hval : ∀ (j : Nat) t v, Try.f4.params[j]? = some t → args[j]? = some v → Value.okWide Try.prog W .any base t v := hval0
  have hW' := hW
  obtain ⟨p, q, hA0, hV, rfl, hfz, hnd⟩ := hW
  have hA : DataW.TrodAll enc Try.prog W 0 (fun _ => true) true Try.f4.params.toList args.toList ds p := hA0
  rw [Try.params4] at hA hval
  obtain ⟨v0, vs0, d0, ds0, p0, q0, hargs, rfl, rfl, h0, r0⟩ := trodAll_cons hA
  obtain ⟨v1, vs1, d1, ds1, p1, q1, rfl, rfl, rfl, h1, r1⟩ := trodAll_cons r0
  obtain ⟨v2, vs2, d2, ds2, p2, q2, rfl, rfl, rfl, h2, r2⟩ := trodAll_cons r1
  obtain ⟨rfl, rfl, rfl⟩ := trodAll_nil r2
  obtain rfl : args = #[v0, v1, v2] := by cases args; simp_all
  obtain ⟨s, rfl, rfl, rfl, ws⟩ := open_string Try.underlying9 (hval 0 9 v0 rfl rfl) h0
  obtain ⟨xs, hxs, hxw, _⟩ := ints_arg Try.underlying25 Try.underlying3 (by kernel_rfl) (hval 1 25 v1 rfl rfl) h1
  obtain ⟨ls, hls, hlw, _⟩ := strs_arg Try.underlying26 Try.underlying9 (by kernel_rfl) (hval 2 26 v2 rfl rfl) h2
  obtain ⟨l, rfl⟩ : ∃ l, s = str l := ⟨_, (str_eq s).symm⟩
  rw [str_size] at ws
  refine (walk l v1 v2 xs ls ws W hxs hxw hls hlw).mono fun e W' ⟨he, hb⟩ => ?_
  subst he
  exact ⟨_, rfl, post_law hW' hb laidOut rfl rfl rfl Try.underlying4 (by rw [Try.params4]; decide +kernel)⟩

theorem over : Rows.varintLaysRow.holds Try.pinned (OpenSpec.ofChange Rows.varintLaysSpec) :=
  OpenClaim.holds_of_wide 4 Try.f4 rfl rfl rfl rfl rfl rfl rfl ⟨rfl, rfl, rfl, rfl, rfl⟩ rfl rfl rfl rfl rfl (by kernel_rfl) Try.func4 (by kernel_rfl)
    (of_decide_eq_true (by kernel_rfl)) (by unfold Func.isWrapper; first | (rw [if_pos (by decide +kernel)]; kernel_rfl) | (rw [if_neg (by decide +kernel)]; exact ⟨rfl, rfl⟩))
    (fun os started H enc _ => lifted os started H enc)

theorem proved : Rows.VarintLaysSaid := over
#print axioms proved
end Go.Proofs.Ytaclkofkajehpaa.varintLays
