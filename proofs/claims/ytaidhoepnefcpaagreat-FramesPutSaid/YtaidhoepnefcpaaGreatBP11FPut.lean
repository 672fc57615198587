/-
  The law FramesPut, whole: over all that may be handed.
-/
import Derived.Test.YtaidhoepnefcpaaGreatRows
import Derived.Test.YtaidhoepnefcpaaGreatBKLaw
import Derived.Test.YtaidhoepnefcpaaGreatBP11Prog
namespace Go.Proofs.YtaidhoepnefcpaaGreat.framesPut
open Go Go.ChangeShapes Go.WideShapes Go.ChangeAt Go.RowKit Go.Proofs
open Go.ChangeMaps (open_string shut_string)
open C10 P8 K B
set_option linter.unusedVariables false
set_option maxRecDepth 100000
theorem own : ownKnob Tryz.prog.godebug = none := by kernel_rfl
theorem laidOut : laidOutB Tryz.prog = true := by kernel_rfl
theorem lifted (os : Os) (started : os.Started) (H : Type) (enc : TypeId × Value -> H) :
 ReturnsInHanded {} Tryz.checked os 3 .any (Rows.framesPutSpec.pre6 enc Tryz.prog Tryz.f3 Rows.framesPutRow.domain false) (Rows.framesPutSpec.post enc Tryz.prog Tryz.f3 false true false false) := by
 refine returnsInHanded_of_change_sized (C := Tryz.checked) own started (by kernel_rfl) Tryz.func3
  (ChangeSpec.witness6 (enc := enc) (C := Tryz.checked) false ⟨#[], #[.agg #[.int .i64 0, .int .i64 0, .int .i64 0, .int .i64 0, .int .i64 0, .slice none 0 0, .slice none 0 0, .slice none 0 0, .slice none 0 0, .slice none 0 0]], []⟩ 8 (by kernel_rfl) (by kernel_rfl) (by kernel_rfl) (by kernel_rfl)) ?_
 intro W base args ds gs before hval0 hW hcnd hsz0 _;have hsz : (DataW.weightsEach Tryz.prog (Tryz.f3.params.toList ++ Rows.framesPutSpec.plain.varTypes Tryz.prog) (ds ++ gs)).all (· <= reachBytes) = true := hsz0;clear hsz0;have hval : ∀ (j : Nat) t v, Tryz.f3.params[j]? = some t -> args[j]? = some v -> Value.okWide Tryz.prog W .any base t v := hval0;have hW' := hW;obtain ⟨p, q, hA0, hV, rfl, hfz, hnd⟩ := hW;have hA : DataW.TrodAll enc Tryz.prog W 0 (fun _ => true) true Tryz.f3.params.toList args.toList ds p := hA0;rw [Tryz.params3] at hA hval hsz;obtain ⟨v0, vs0, d0, ds0, p0, q0, hargs, rfl, rfl, h0, r0⟩ := trodAll_cons hA;obtain ⟨rfl, rfl, rfl⟩ := trodAll_nil r0;obtain rfl : args = #[v0] := by cases args; simp_all
 have hb0 : Fits (P := Tryz.prog) 28 d0 := fun m hm => by
  have h := List.all_eq_true.1 hsz m (DataW.weights_mem_each (j := 0) (t := 28) rfl rfl m hm);simpa using h
 obtain ⟨cs0, rfl, hcs0⟩ := okWide_struct Tryz.underlying28 (hval 0 28 v0 rfl rfl);obtain ⟨fuel0, hf0⟩ := h0;obtain ⟨f0, w50, w60, w70, w80, w90, hc0, hu0, hw0⟩ := fr_el (show DataW.trod enc Tryz.prog W 0 (fun _ => true) true fuel0 28 cs0.toList = some (d0, p0) from hf0) hb0;obtain ⟨ls0⟩ := cs0;obtain rfl : ls0 = _ := hc0;have hw := walkPut low frm sea f0 _ _ _ _ _ W hu0 hw0;refine hw.mono fun e W' ⟨he, hb⟩ => ?_
 subst he;exact ⟨_, rfl, post_law hW' hb laidOut rfl rfl rfl Tryz.underlying4 (by rw [Tryz.params3]; decide +kernel)⟩
theorem over : Rows.framesPutRow.holds Tryz.pinned (OpenSpec.ofChange Rows.framesPutSpec) :=
 OpenClaim.holds_of_wide 3 Tryz.f3 rfl rfl rfl rfl rfl rfl rfl ⟨rfl, rfl, rfl, rfl, rfl⟩ rfl rfl rfl rfl rfl (by kernel_rfl) Tryz.func3 (by kernel_rfl)
  (of_decide_eq_true (by kernel_rfl)) (by unfold Func.isWrapper; first | (rw [if_pos (by decide +kernel)]; kernel_rfl) | (rw [if_neg (by decide +kernel)]; exact ⟨rfl, rfl⟩))
  (fun os started H enc _ => lifted os started H enc)
theorem proved : Rows.FramesPutSaid := over
#print axioms proved
end Go.Proofs.YtaidhoepnefcpaaGreat.framesPut
