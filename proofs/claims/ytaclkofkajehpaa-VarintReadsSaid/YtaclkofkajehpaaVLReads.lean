/-
  VarintReads: what stands at any place of any bytes is read by the program as the document says: a number, a text, lists. No condition.
-/
import Derived.Test.YtaclkofkajehpaaRows
import Derived.Test.YtaclkofkajehpaaVSame
import Derived.Test.YtaclkofkajehpaaKLaw
import Derived.SizedLaws
namespace Go.Proofs.Ytaclkofkajehpaa.varintReads
open Go.ChangeShapes Go.WideShapes Go.ChangeAt Go.RowKit
open Go.ChangeMaps (open_string shut_string)
open Go.Proofs.Ytaclkofkajehpaa.V Go.Proofs.Ytaclkofkajehpaa.K
set_option linter.unusedVariables false

theorem own : ownKnob Try.prog.godebug = none := by kernel_rfl
theorem laidOut : laidOutB Try.prog = true := by kernel_rfl

set_option maxHeartbeats 1000000 in
set_option maxRecDepth 100000 in
theorem walk (s : ByteArray) (p : Int) (hs : s.size ≤ 140737488355328) (w : World) :
    Calls Try.prog 5 #[.string s, .int .i64 p] w fun e w' => e = .returned (.bool true) ∧ Below w.heap.size w w' := by
  obtain ⟨⟨x, q, e⟩, hr⟩ : ∃ t, rdAt s.data.toList p = t := ⟨_, rfl⟩
  have HR := Lib.hid hr; clear hr
  obtain ⟨⟨x2, q2, e2⟩, hr⟩ : ∃ t, txt s.data.toList p = t := ⟨_, rfl⟩
  have HT := Lib.hid hr; clear hr
  go_enter Try.func5, Try.ntmps5
  go_wp2_with fail
  refine (readNumber_of HR.out _ hs).mono ?_
  rintro _ w1 ⟨rfl, rfl⟩
  go_wp2_with fail
  refine (refReadNumber_of HR.out _ hs).mono ?_
  rintro _ w1 ⟨rfl, rfl⟩
  go_wp2_with fail
  refine (awake_any _).mono ?_
  rintro _ w1 ⟨rfl, hb1⟩
  go_wp2_with fail
  refine (readText_of HT.out _ hs).mono ?_
  rintro _ w2 ⟨rfl, hb2⟩
  have h2 : Below w.heap.size w w2 := hb1.trans (hb2.mono hb1.size)
  clear hb1 hb2
  go_wp2_with fail
  refine (refReadText_of HT.out _ hs).mono ?_
  rintro _ w3 ⟨rfl, rfl⟩
  go_wp2_with fail
  refine (readNumbers_any s p _ hs).mono ?_
  obtain ⟨⟨x3, q3, e3⟩, hr⟩ : ∃ t, nums s.data.toList p = t := ⟨_, rfl⟩
  rw [hr]
  rintro _ w3 ⟨v, rfl, hv, hb3⟩
  have HN := Lib.hid hr; clear hr
  have h3 : Below w.heap.size w w3 := h2.trans (hb3.mono h2.size)
  clear h2 hb3
  go_wp2_with fail
  refine (refReadNumbers_any s p _ hs).mono ?_
  rw [HN.out]
  rintro _ w4 ⟨v', rfl, hv', hb4⟩
  have h4 : Below w.heap.size w w4 := h3.trans (hb4.mono h3.size)
  have hv4 := hv.below hb4
  have l3 : x3.length ≤ 256 := by have := nums_len s.data.toList p; rw [HN.out] at this; exact this
  clear h3 hb4 hv
  go_wp2_with fail
  refine (ints_same _ _ _ _ (by omega) hv4 hv').mono ?_
  rintro _ w5 ⟨rfl, hb5⟩
  have h5 : Below w.heap.size w w5 := h4.trans (hb5.mono h4.size)
  clear h4 hb5 hv4 hv'
  go_wp2_with fail
  refine (readTexts_any s p _ hs).mono ?_
  obtain ⟨⟨x4, q4, e4⟩, hr⟩ : ∃ t, txts s.data.toList p = t := ⟨_, rfl⟩
  rw [hr]
  rintro _ w6 ⟨v, rfl, hv, hb6⟩
  have HX := Lib.hid hr; clear hr
  have h6 : Below w.heap.size w w6 := h5.trans (hb6.mono h5.size)
  clear h5 hb6
  go_wp2_with fail
  refine (refReadTexts_any s p _ hs).mono ?_
  rw [HX.out]
  rintro _ w7 ⟨v', rfl, hv', hb7⟩
  have h7 : Below w.heap.size w w7 := h6.trans (hb7.mono h6.size)
  have hv7 := hv.below hb7
  have l4 : x4.length ≤ 256 := by have := txts_len s.data.toList p; rw [HX.out] at this; exact this
  clear h6 hb7 hv
  go_wp2_with fail
  refine (same_same _ _ _ _ (by omega) hv7 hv').mono ?_
  rintro _ w8 ⟨rfl, hb8⟩
  have h8 : Below w.heap.size w w8 := h7.trans (hb8.mono h7.size)
  clear h7 hb8 hv7 hv'
  go_wp2_with fail
  go_ret
  exact ⟨rfl, h8⟩

set_option maxRecDepth 100000 in
theorem lifted (os : Os) (started : os.Started) (H : Type) (enc : TypeId × Value → H) :
    ReturnsInHanded {} Try.checked os 5 .any (Rows.varintReadsSpec.pre6 enc Try.prog Try.f5 Rows.varintReadsRow.domain false) (Rows.varintReadsSpec.post enc Try.prog Try.f5 false true false false) := by
  refine returnsInHanded_of_change_sized (C := Try.checked) own started (by kernel_rfl) Try.func5
    (ChangeSpec.witness6 (enc := enc) (C := Try.checked) false ⟨#[], #[.string ⟨#[]⟩, .int .i64 0], []⟩ 8 (by kernel_rfl) (by kernel_rfl) (by kernel_rfl) (by kernel_rfl)) ?_
  intro W base args ds gs before hval0 hW hcnd hsz0 _
  have hsz : (DataW.weightsEach Try.prog (Try.f5.params.toList ++ Rows.varintReadsSpec.plain.varTypes Try.prog) (ds ++ gs)).all (· ≤ reachBytes) = true := hsz0
  clear hsz0
  have hval : ∀ (j : Nat) t v, Try.f5.params[j]? = some t → args[j]? = some v → Value.okWide Try.prog W .any base t v := hval0
  have hW' := hW
  obtain ⟨p, q, hA0, hV, rfl, hfz, hnd⟩ := hW
  have hA : DataW.TrodAll enc Try.prog W 0 (fun _ => true) true Try.f5.params.toList args.toList ds p := hA0
  rw [Try.params5] at hA hval hsz
  obtain ⟨v0, vs0, d0, ds0, p0, q0, hargs, rfl, rfl, h0, r0⟩ := trodAll_cons hA
  obtain ⟨v1, vs1, d1, ds1, p1, q1, rfl, rfl, rfl, h1, r1⟩ := trodAll_cons r0
  obtain ⟨rfl, rfl, rfl⟩ := trodAll_nil r1
  obtain rfl : args = #[v0, v1] := by cases args; simp_all
  obtain ⟨s, rfl, rfl, rfl, ws⟩ := open_string Try.underlying9 (hval 0 9 v0 rfl rfl) h0
  obtain ⟨n, rfl, rfl, rfl, w0⟩ := open_int Try.underlying3 (hval 1 3 v1 rfl rfl) h1
  have hs : s.size ≤ 140737488355328 := by
    have h1 := sized_string hsz (j := 0) (t := 9) rfl rfl
    have h2 := reachBytes_lt
    rw [size_list]
    omega
  refine (walk s n hs W).mono fun e W' ⟨he, hb⟩ => ?_
  subst he
  exact ⟨_, rfl, post_law hW' hb laidOut rfl rfl rfl Try.underlying4 (by rw [Try.params5]; decide +kernel)⟩

theorem over : Rows.varintReadsRow.holds Try.pinned (OpenSpec.ofChange Rows.varintReadsSpec) :=
  OpenClaim.holds_of_wide 5 Try.f5 rfl rfl rfl rfl rfl rfl rfl ⟨rfl, rfl, rfl, rfl, rfl⟩ rfl rfl rfl rfl rfl (by kernel_rfl) Try.func5 (by kernel_rfl)
    (of_decide_eq_true (by kernel_rfl)) (by unfold Func.isWrapper; first | (rw [if_pos (by decide +kernel)]; kernel_rfl) | (rw [if_neg (by decide +kernel)]; exact ⟨rfl, rfl⟩))
    (fun os started H enc _ => lifted os started H enc)

theorem proved : Rows.VarintReadsSaid := over
#print axioms proved
end Go.Proofs.Ytaclkofkajehpaa.varintReads
