/-
  TabularShows: every table's text, or that it may not be.
-/
import Derived.Test.YtjcajeehgjpmmaaGreatDoorTie
import Derived.Test.YtjcajeehgjpmmaaGreatDoorCards
import Derived.Test.YtjcajeehgjpmmaaGreatDoorTLaid
import Derived.Test.YtjcajeehgjpmmaaGreatDoorKLaw
import Derived.Test.YtjcajeehgjpmmaaGreatDoorTLs
namespace Go.Proofs.YtjcajeehgjpmmaaGreatDoor.tabularShows
open Go Go.ChangeShapes Go.WideShapes Go.ChangeAt Go.RowKit
open B K E R T
set_option linter.unusedVariables false
set_option maxRecDepth 100000
theorem own : ownKnob Tryz.prog.godebug = none := by kernel_rfl
theorem laidOut : laidOutB Tryz.prog = true := by kernel_rfl
set_option maxHeartbeats 8000000 in
theorem walk (t : Tb) (c0 c1 c2 c3 : Value) (w : World) (h : TbIs w [c0, c1, c2, c3] t) (hw : TbWf t) (hcs : ∀ a l c, c0 = .slice a l c -> l <= c) (hG : T.Globs w) :
 Calls Tryz.prog 3 #[.agg #[c0, c1, c2, c3]] w fun e w' => e = .returned (.bool true) /\ Below w.heap.size w w' := by
 exact shows_any t c0 c1 c2 c3 w h hw hG hcs
theorem contract (H : Type) (enc : TypeId × Value -> H) (W : World) (base : Nat) (args : Array Value) (ds gs : List (DataW H)) (before : List MemPlace)
 (hval0 : ∀ (j : Nat) t v, Tryz.f3.params[j]? = some t -> args[j]? = some v -> Value.okWide Tryz.prog W .any base t v)
 (hW : DataW.Whole enc Tryz.prog Tryz.f3.params.toList Rows.tabularShowsSpec.vars false W args.toList ds gs before) (hL : laidMetH Tryz.prog T.laid8 W) :
 Calls Tryz.prog 3 args W fun e W' => ∃ v, e = .returned v /\ Rows.tabularShowsSpec.post enc Tryz.prog Tryz.f3 false true false false W args v W' := by
 have hval : ∀ (j : Nat) t v, Tryz.f3.params[j]? = some t -> args[j]? = some v -> Value.okWide Tryz.prog W .any base t v := hval0;have hW' := hW;obtain ⟨p, q, hA0, hV, rfl, hfz, hnd⟩ := hW;have hA : DataW.TrodAll enc Tryz.prog W 0 (fun _ => true) true Tryz.f3.params.toList args.toList ds p := hA0;rw [Tryz.params3] at hA hval;obtain ⟨v0, vs0, d0, ds0, p0, q0, hargs, rfl, rfl, h0, r0⟩ := trodAll_cons hA;obtain ⟨rfl, rfl, rfl⟩ := trodAll_nil r0;obtain rfl : args = #[v0] := by cases args; simp_all
 obtain ⟨c0, c1, c2, c3, t, rfl, ht, hwf⟩ := tb_arg (hval 0 26 v0 rfl rfl) h0;have hcs := T.tb_cap h0;refine (walk t c0 c1 c2 c3 W ht hwf hcs (T.globs_of hL)).mono fun e W' ⟨he, hb⟩ => ?_
 subst he;exact ⟨_, rfl, post_law hW' hb laidOut rfl rfl rfl Tryz.underlying4 (by rw [Tryz.params3]; decide +kernel)⟩
theorem reads (os : Os) {H : Type} (enc : TypeId × Value -> H) : ∃ places, DataW.whole enc Tryz.prog ((World.laidAll Tryz.prog os T.laid8).forCall (fun _ _ => 0) ⟨#[], #[.agg #[.slice none 0 0, .slice none 0 0, .slice none 0 0, .slice none 0 0]], []⟩).memory Tryz.f3.params.toList Rows.tabularShowsSpec.vars false (#[.agg #[.slice none 0 0, .slice none 0 0, .slice none 0 0, .slice none 0 0]] : Array Value).toList 8 = some ([.agg [.nil, .nil, .nil, .nil]], [], places) :=
 ⟨[], by kernel_rfl⟩
theorem lifted (os : Os) (started : os.Started) (H : Type) (enc : TypeId × Value -> H) (F : Stop.Interp) :
 ReturnsInHanded {} Tryz.checked os 3 .any ((OpenSpec.ofChange Rows.tabularShowsSpec).preRow enc Tryz.prog Tryz.f3 Rows.tabularShowsRow.domain false Rows.tabularShowsRow.laid) (((OpenSpec.ofChange Rows.tabularShowsSpec).at F).post enc Tryz.prog Tryz.f3 false true false false) := by
 obtain ⟨places, hx⟩ := reads os enc;refine returnsInHanded_of_row (C := Tryz.checked) (s := OpenSpec.ofChange Rows.tabularShowsSpec) own started (by kernel_rfl) Tryz.func3
  (witness_row_atRef (enc := enc) (C := Tryz.checked) false (World.laidAll Tryz.prog os T.laid8) #[.agg #[.slice none 0 0, .slice none 0 0, .slice none 0 0, .slice none 0 0]] (World.laidAll_os _ _ _) (by kernel_rfl) (by kernel_rfl) (by kernel_rfl)
    (OpenSpec.preRow_of_cond 8 hx (by kernel_rfl) (fun k hk => by cases hk) (by kernel_rfl) (T.laid_met os _))) ?_
 intro W base args ds gs before hval hW _ _ hsz hL _ _;exact contract H enc W base args ds gs before hval hW hL
theorem said : Rows.TabularShowsSaid :=
 OpenClaim.holds_of_cond 3 Tryz.f3 rfl rfl rfl rfl rfl rfl rfl ⟨rfl, rfl, rfl, rfl, rfl⟩ rfl rfl rfl rfl rfl (by kernel_rfl) Tryz.func3 (by kernel_rfl)
  (of_decide_eq_true (by kernel_rfl)) (by unfold Func.isWrapper; first | (rw [if_pos (by decide +kernel)]; kernel_rfl) | (rw [if_neg (by decide +kernel)]; exact ⟨rfl, rfl⟩))
  (fun os started H enc _ F => by rw [OpenClaim.pre_eq_preRow]; exact lifted os started H enc F)
theorem plain (f : FuncId) (fn : Func) (hf : Tryz.pinned.checked.prog.funcNamed "surmise/surmiselaw06.TabularShows" = some f) (hfn : Tryz.pinned.checked.prog.funcs[f]? = some fn) :
 true = Tryz.pinned.checked.prog.looks [] /\ ∀ (j : Nat) t, fn.params[j]? = some t -> Tryz.pinned.checked.prog.wantsStandIn t = false := by
 obtain rfl : f = 3 := Option.some.inj ((show Tryz.prog.funcNamed "surmise/surmiselaw06.TabularShows" = some 3 by kernel_rfl).symm.trans hf) |>.symm
 obtain rfl : fn = Tryz.f3 := (Option.some.inj (Tryz.func3.symm.trans hfn)).symm;refine ⟨by kernel_rfl, fun j t ht => ?_⟩;rw [Tryz.params3] at ht;have hm := Array.mem_of_getElem? ht;simp only [Array.mem_def, List.mem_cons, List.not_mem_nil, or_false] at hm;subst hm;exact (show Tryz.prog.wantsStandIn 26 = false by kernel_rfl)
theorem given : Rows.TabularShowsCardSaid :=
 Claim7.holds_tied_plain_at .later [] _ _ _ _ said (fun _ h => by cases h) (by kernel_rfl) (fun _ h => by cases h) tabularShows_row_tie rfl ⟨rfl, rfl⟩ (by kernel_rfl) rfl plain (by kernel_rfl)
end Go.Proofs.YtjcajeehgjpmmaaGreatDoor.tabularShows
