/-
  ExprSame: what is folded comes to the same, where it came to something, and is not longer; folded once more it stays. No condition.
-/
import Derived.Test.YtaiogcmbpalbpaaRows
import Derived.Test.YtaiogcmbpalbpaaELaw
import Derived.Test.YtaiogcmbpalbpaaEImpl
import Derived.Test.YtaiogcmbpalbpaaESame
import Derived.Test.YtaiogcmbpalbpaaKArgs
import Derived.Test.YtaiogcmbpalbpaaKLaw
import Derived.SizedLaws
namespace Go.Proofs.Ytaiogcmbpalbpaa.exprSame
open Go.ChangeShapes Go.WideShapes Go.ChangeAt Go.RowKit
open Go.Proofs.Ytaiogcmbpalbpaa.E Go.Proofs.Ytaiogcmbpalbpaa.B Go.Proofs.Ytaiogcmbpalbpaa.K
set_option linter.unusedVariables false

theorem own : ownKnob Try.prog.godebug = none := by kernel_rfl
theorem laidOut : laidOutB Try.prog = true := by kernel_rfl

theorem fold_wf (B : Int) (code : List In) (h : ∀ i ∈ code, I64 i.1 ∧ I64 i.2) : ∀ i ∈ fold B code, I64 i.1 ∧ I64 i.2 := by
  intro i hi
  rcases fold_mem B code i hi with h1 | ⟨h1, h2⟩
  · exact h i h1
  · have h3 := (isVal_iff _).1 h2
    rw [h1]
    exact ⟨⟨by omega, by omega⟩, ⟨by omega, by omega⟩⟩

set_option maxHeartbeats 1000000 in
set_option maxRecDepth 100000 in
theorem walk (C : Contracts) (code : List In) (vs ar : List Int) (v v1 v2 : Value) (w : World) (hs : SlI w v code) (hs1 : Sl w v1 (vs.map (Value.int .i64))) (hs2 : Sl w v2 (ar.map (Value.int .i64)))
    (hwf : ∀ i ∈ code, I64 i.1 ∧ I64 i.2) (hw1 : ∀ x ∈ vs, I64 x) (hw2 : ∀ x ∈ ar, I64 x) (hl : code.length * 16 ≤ 140737488351232) (hl1 : vs.length ≤ maxLen) (hl2 : ar.length ≤ maxLen) :
    Calls Try.prog 5 #[v, v1, v2] w fun e w' => e = .returned (.bool true) ∧ Below w.heap.size w w' := by
  obtain ⟨B, hB, hfold⟩ := C.fold_
  have hfl := fold_length B code
  have hff := fold_fold B code
  have hfw := fold_wf B code hwf
  have H1 := Lib.hid (hfold code v w hs hwf hl)
  have h2 := fun W (hb : Below w.heap.size w W) => C.eval_ code vs ar v v1 v2 W (hs.below hb) (hs1.below hb) (hs2.below hb) hwf hw1 hw2 (by omega) hl1 hl2
  have h3 := fun W u (hb : Below w.heap.size w W) (hu : SlI W u (fold B code)) => C.eval_ (fold B code) vs ar u v1 v2 W hu (hs1.below hb) (hs2.below hb) hfw hw1 hw2 (by omega) hl1 hl2
  have h4 := fun W u (hu : SlI W u (fold B code)) => hfold (fold B code) u W hu hfw (by omega)
  rw [hff] at h4
  rw [eval_fold] at h3
  have H4 := Lib.hid h4
  have h5 : (fold B code).length ≤ 9223372036854775807 := by omega
  have H5 := Lib.hid h5
  obtain ⟨⟨p, er⟩, hE⟩ : ∃ t, eval code vs ar = t := ⟨_, rfl⟩
  rw [hE] at h2 h3
  have HFL := Lib.hid hfl
  obtain ⟨a, cap, rfl, -⟩ := hs
  obtain ⟨a1, cap1, rfl, -⟩ := hs1
  obtain ⟨a2, cap2, rfl, -⟩ := hs2
  generalize (vs.map (Value.int .i64)).length = n1 at h2 h3 ⊢
  generalize (ar.map (Value.int .i64)).length = n2 at h2 h3 ⊢
  have H2 := Lib.hid h2
  have H3 := Lib.hid h3
  clear h2 h3 h4 h5 hE hwf hw1 hw2 hl hl1 hl2 hff hfw hfold hfl
  go_enter Try.func5, Try.ntmps5
  go_wp2_with fail
  refine H1.out.mono ?_
  rintro _ w1 ⟨⟨u, rfl, su⟩, b1⟩
  have B1 := Lib.hid b1; have SU := Lib.hid su; clear b1
  obtain ⟨au, cu, rfl, -⟩ := su
  go_wp2_with fail
  refine (H2.out _ B1.out).mono ?_
  rintro _ w2 ⟨rfl, b2⟩
  have B2 := Lib.hid (B1.out.trans (b2.mono B1.out.size)); have S2 := Lib.hid (SU.out.below b2); clear b2
  go_wp2_with fail
  refine (H3.out _ _ B2.out S2.out).mono ?_
  rintro _ w3 ⟨rfl, b3⟩
  have B3 := Lib.hid (B2.out.trans (b3.mono B2.out.size)); have S3 := Lib.hid (S2.out.below b3); clear b3
  go_wp2_with fail
  refine (awake_any C _).mono ?_
  rintro _ w4 ⟨rfl, b4⟩
  have B4 := Lib.hid (B3.out.trans (b4.mono B3.out.size)); have S4 := Lib.hid (S3.out.below b4); clear b4
  have hle : ((fold B code).length : Int) ≤ (code.length : Int) := by have := HFL.out; omega
  go_wp2_with fail
  refine (H4.out _ _ S4.out).mono ?_
  rintro _ w5 ⟨⟨u5, rfl, s5⟩, b5⟩
  have B5 := Lib.hid (B4.out.trans (b5.mono B4.out.size))
  have HC := Lib.hid (refSame_same _ _ u5 w5 (S4.out.below b5) s5 H5.out)
  clear b5 s5
  go_wp2_with fail
  refine HC.out.mono ?_
  rintro _ w6 ⟨rfl, b6⟩
  have B6 := Lib.hid (B5.out.trans (b6.mono B5.out.size))
  clear b6 HC hle
  by_cases he : er = 0
  · subst he
    go_wp2_with fail
    go_ret
    exact ⟨rfl, B6.out⟩
  · have be : (er == 0) = false := by simp [he]
    have be' : (er != 0) = true := by simp [he]
    clear he
    go_wp2_with fail
    go_ret
    exact ⟨rfl, B6.out⟩

set_option maxRecDepth 100000 in
theorem lifted (C : Contracts) (os : Os) (started : os.Started) (H : Type) (enc : TypeId × Value → H) :
    ReturnsInHanded {} Try.checked os 5 .any (Rows.exprSameSpec.pre6 enc Try.prog Try.f5 Rows.exprSameRow.domain false) (Rows.exprSameSpec.post enc Try.prog Try.f5 false true false false) := by
  refine returnsInHanded_of_change_sized (C := Try.checked) own started (by kernel_rfl) Try.func5
    (ChangeSpec.witness6 (enc := enc) (C := Try.checked) false ⟨#[], #[.slice none 0 0, .slice none 0 0, .slice none 0 0], []⟩ 8 (by kernel_rfl) (by kernel_rfl) (by kernel_rfl) (by kernel_rfl)) ?_
  intro W base args ds gs before hval0 hW hcnd hsz0 _
  have hval : ∀ (j : Nat) t v, Try.f5.params[j]? = some t → args[j]? = some v → Value.okWide Try.prog W .any base t v := hval0
  have hW' := hW
  obtain ⟨p, q, hA0, hV, rfl, hfz, hnd⟩ := hW
  have hA : DataW.TrodAll enc Try.prog W 0 (fun _ => true) true Try.f5.params.toList args.toList ds p := hA0
  have hsz : (DataW.weightsEach Try.prog (Try.f5.params.toList ++ Rows.exprSameSpec.plain.varTypes Try.prog) (ds ++ gs)).all (· ≤ reachBytes) = true := hsz0
  clear hsz0
  rw [Try.params5] at hA hval hsz
  obtain ⟨v0, vs0, d0, ds0, p0, q0, hargs, rfl, rfl, h0, r0⟩ := trodAll_cons hA
  obtain ⟨v1, vs1, d1, ds1, p1, q1, rfl, rfl, rfl, h1, r1⟩ := trodAll_cons r0
  obtain ⟨v2, vs2, d2, ds2, p2, q2, rfl, rfl, rfl, h2, r2⟩ := trodAll_cons r1
  obtain ⟨rfl, rfl, rfl⟩ := trodAll_nil r2
  obtain rfl : args = #[v0, v1, v2] := by cases args; simp_all
  obtain ⟨code, hsl, hwf, hlen⟩ := pairs_arg Try.underlying22 Try.underlying47 rfl rfl rfl rfl Try.underlying3 Try.underlying3 (by kernel_rfl) (by kernel_rfl) (by kernel_rfl) (hval 0 22 v0 rfl rfl) h0
  have hsize : code.length * 16 ≤ 140737488351232 := by
    rcases pairs_len Try.underlying22 hsl h0 with rfl | ⟨elems, spare, rfl, he⟩
    · decide
    · have h1 := sized_slice hsz (j := 0) (t := 22) rfl rfl Try.underlying22
      have h2 : Try.prog.bytesOf 47 = 16 := by kernel_rfl
      have h3 : reachBytes = 140737488351232 := by decide
      rw [h2, h3, he] at h1
      omega
  obtain ⟨vs, hs1, hw1, hl1⟩ := ints_arg Try.underlying28 Try.underlying3 (by kernel_rfl) (hval 1 28 v1 rfl rfl) h1
  obtain ⟨ar, hs2, hw2, hl2⟩ := ints_arg Try.underlying28 Try.underlying3 (by kernel_rfl) (hval 2 28 v2 rfl rfl) h2

  refine (walk C code vs ar v0 v1 v2 W hsl hs1 hs2 hwf hw1 hw2 hsize hl1 hl2).mono fun e W' ⟨he, hb⟩ => ?_
  subst he
  exact ⟨_, rfl, post_law hW' hb laidOut rfl rfl rfl Try.underlying4 (by rw [Try.params5]; decide +kernel)⟩

theorem over (C : Contracts) : Rows.exprSameRow.holds Try.pinned (OpenSpec.ofChange Rows.exprSameSpec) :=
  OpenClaim.holds_of_wide 5 Try.f5 rfl rfl rfl rfl rfl rfl rfl ⟨rfl, rfl, rfl, rfl, rfl⟩ rfl rfl rfl rfl rfl (by kernel_rfl) Try.func5 (by kernel_rfl)
    (of_decide_eq_true (by kernel_rfl)) (by unfold Func.isWrapper; first | (rw [if_pos (by decide +kernel)]; kernel_rfl) | (rw [if_neg (by decide +kernel)]; exact ⟨rfl, rfl⟩))
    (fun os started H enc _ => lifted C os started H enc)

theorem given (C : Contracts) : Rows.ExprSameSaid := over C
theorem proved : Rows.ExprSameSaid := given contracts
#print axioms proved
end Go.Proofs.Ytaiogcmbpalbpaa.exprSame
