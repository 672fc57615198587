/-
  The law WalNone: a nil log has nothing, and there is none without a disk. For every input; no condition.
-/
import Derived.Test.YtelcemfaijjcbaaGreatDoorRows
import Derived.Test.YtelcemfaijjcbaaGreatDoorTie
import Derived.Test.YtelcemfaijjcbaaGreatDoorCards
import Derived.Test.YtelcemfaijjcbaaGreatDoorHP13Card
import Derived.Test.YtelcemfaijjcbaaGreatDoorHP13Arg
import Derived.Test.YtelcemfaijjcbaaGreatDoorHKLaw
import Derived.SizedLaws
import Derived.Test.YtelcemfaijjcbaaGreatDoorHP13Pr
import Derived.Test.YtelcemfaijjcbaaGreatDoorHP13Ay
namespace Go.Proofs.YtelcemfaijjcbaaGreatDoor.walNone
open Go Go.ChangeShapes Go.WideShapes Go.ChangeAt Go.RowKit Go.Proofs
open Go.ChangeMaps (open_string shut_string)
open Go.Proofs.YtelcemfaijjcbaaGreatDoor.C10 (Fits)
open Go.Proofs.YtelcemfaijjcbaaGreatDoor.C12 Go.Proofs.YtelcemfaijjcbaaGreatDoor.C13 Go.Proofs.YtelcemfaijjcbaaGreatDoor.P8 Go.Proofs.YtelcemfaijjcbaaGreatDoor.K Go.Proofs.YtelcemfaijjcbaaGreatDoor.B
set_option linter.unusedVariables false
set_option maxRecDepth 100000

theorem own : ownKnob Tryz.prog.godebug = none := by kernel_rfl
theorem laidOut : laidOutB Tryz.prog = true := by kernel_rfl

set_option maxHeartbeats 4000000 in
theorem walk (a : CallL) (s : List UInt8) (n : Int) (kv : Value) (w : World) (hk : Kp0 w w.heap.size kv a.keep) (hwf : CallWf a) (hs : s.length ≤ 140737488355328) (hn : -9223372036854775808 ≤ n ∧ n ≤ 9223372036854775807) :
    Calls Tryz.prog 7 #[.agg #[.int .i64 a.kind, .string (str a.s), .int .i64 a.n, kv], .string (str s), .int .i64 n] w fun e w' => e = .returned (.bool true) ∧ Below w.heap.size w w' := by
  have HA := Lib.hid awake_any
  have HAP := Lib.hid (fun W s => append_nil W (str s))
  have HRD := Lib.hid read_nil
  have HOP := Lib.hid (fun W s n => open_nil W (str s) n)
  have HFI := Lib.hid first_nil
  have HNX := Lib.hid next_nil
  have HSA := Lib.hid safe_nil
  have HSY := Lib.hid sync_nil
  have HTR := Lib.hid trim_nil
  obtain ⟨ka, kc, rfl, -⟩ := hk
  obtain ⟨W0, hW0⟩ : ∃ W0, w.alloc (.cells #[.int .i64 a.kind, .string (str a.s), .int .i64 a.n, .slice ka a.keep.length kc] 49) = W0 := ⟨_, rfl⟩
  have hB0 : Below w.heap.size w W0 := by rw [← hW0]; exact below_alloc _ _
  obtain ⟨g0, hg0⟩ : ∃ g, w.heap.size = g := ⟨_, rfl⟩
  have m1 : W0.cell? ⟨g0, 1, none⟩ = some (Value.string (str a.s)) := by rw [← hW0, ← hg0]; exact alloc_cell w [_, _, _, _] _ 1 _ rfl
  have m2 : W0.cell? ⟨g0, 2, none⟩ = some (Value.int .i64 a.n) := by rw [← hW0, ← hg0]; exact alloc_cell w [_, _, _, _] _ 2 _ rfl
  have HALL := Lib.hid (show ∀ W, Below W0.heap.size W0 W → W.cell? ⟨g0, 1, none⟩ = some (Value.string (str a.s)) ∧ W.cell? ⟨g0, 2, none⟩ = some (Value.int .i64 a.n) from fun W hb => ⟨kept_cell hb m1, kept_cell hb m2⟩)
  have HB0 := Lib.hid hB0
  have HW0 := Lib.hid hW0
  clear hwf hB0 hs hn
  go_enter Tryz.func7, Tryz.ntmps7
  go_wp2_with (first
    | (go_at_call 24; (try rw [hW0]); (with_reducible refine (HAP.out _ _).mono ?_); rintro _ W1 ⟨rfl, hb⟩; (try rw [HW0.out] at hb); have HH1 := Lib.hid hb; obtain ⟨n1a, n1b⟩ := HALL.out _ HH1.out; clear hb m1 m2)
    | (go_at_call 23; (with_reducible refine (HRD.out _ _).mono ?_); rintro _ W2 ⟨rfl, hb⟩; have HH2 := Lib.hid (HH1.out.trans (hb.mono HH1.out.size)); obtain ⟨n2a, n2b⟩ := HALL.out _ HH2.out; clear hb n1a n1b)
    | (go_at_call 16; (with_reducible refine (HOP.out _ _ _).mono ?_); rintro _ W3 ⟨rfl, hb⟩; have HH3 := Lib.hid (HH2.out.trans (hb.mono HH2.out.size)); clear hb n2a n2b)
    | (go_at_call 8; (with_reducible refine (HA.out _).mono ?_); rintro _ W4 ⟨rfl, hb⟩; have HH4 := Lib.hid (HH3.out.trans (hb.mono HH3.out.size)); clear hb)
    | (go_at_call 18; (with_reducible refine (HFI.out _).mono ?_); rintro _ W5 ⟨rfl, hb⟩; have HH5 := Lib.hid (HH4.out.trans (hb.mono HH4.out.size)); clear hb)
    | (go_at_call 19; (with_reducible refine (HNX.out _).mono ?_); rintro _ W6 ⟨rfl, hb⟩; have HH6 := Lib.hid (HH5.out.trans (hb.mono HH5.out.size)); clear hb)
    | (go_at_call 20; (with_reducible refine (HSA.out _).mono ?_); rintro _ W7 ⟨rfl, hb⟩; have HH7 := Lib.hid (HH6.out.trans (hb.mono HH6.out.size)); clear hb)
    | (go_at_call 25; (with_reducible refine (HSY.out _).mono ?_); rintro _ W8 ⟨rfl, hb⟩; have HH8 := Lib.hid (HH7.out.trans (hb.mono HH7.out.size)); obtain ⟨n8a, n8b⟩ := HALL.out _ HH8.out; clear hb)
    | (go_at_call 22; (with_reducible refine (HTR.out _ _).mono ?_); rintro _ W9 ⟨rfl, hb⟩; have HH9 := Lib.hid (HH8.out.trans (hb.mono HH8.out.size)); clear hb n8a n8b))
  go_ret
  exact ⟨by simp, HB0.out.trans (HH9.out.mono HB0.out.size)⟩

theorem contract (H : Type) (enc : TypeId × Value → H) (W : World) (base : Nat) (args : Array Value) (ds gs : List (DataW H)) (before : List MemPlace)
    (hval0 : ∀ (j : Nat) t v, Tryz.f7.params[j]? = some t → args[j]? = some v → Value.okWide Tryz.prog W .any base t v)
    (hW : DataW.Whole enc Tryz.prog Tryz.f7.params.toList Rows.walNoneSpec.vars false W args.toList ds gs before) (hsz0 : (DataW.weightsEach Tryz.prog (Tryz.f7.params.toList ++ Rows.walNoneSpec.plain.varTypes Tryz.prog) (ds ++ gs)).all (· ≤ reachBytes) = true) :
    Calls Tryz.prog 7 args W fun e W' => ∃ v, e = .returned v ∧ Rows.walNoneSpec.post enc Tryz.prog Tryz.f7 false true false false W args v W' := by
  have hsz : (DataW.weightsEach Tryz.prog (Tryz.f7.params.toList ++ Rows.walNoneSpec.plain.varTypes Tryz.prog) (ds ++ gs)).all (· ≤ reachBytes) = true := hsz0
  clear hsz0
  have hval : ∀ (j : Nat) t v, Tryz.f7.params[j]? = some t → args[j]? = some v → Value.okWide Tryz.prog W .any base t v := hval0
  have hW' := hW
  obtain ⟨p, q, hA0, hV, rfl, hfz, hnd⟩ := hW
  have hA : DataW.TrodAll enc Tryz.prog W 0 (fun _ => true) true Tryz.f7.params.toList args.toList ds p := hA0
  rw [Tryz.params7] at hA hval hsz
  obtain ⟨v0, vs0, d0, ds0, p0, q0, hargs, rfl, rfl, h0, r0⟩ := trodAll_cons hA
  obtain ⟨v1, vs1, d1, ds1, p1, q1, rfl, rfl, rfl, h1, r1⟩ := trodAll_cons r0
  obtain ⟨v2, vs2, d2, ds2, p2, q2, rfl, rfl, rfl, h2, r2⟩ := trodAll_cons r1
  obtain ⟨rfl, rfl, rfl⟩ := trodAll_nil r2
  obtain rfl : args = #[v0, v1, v2] := by cases args; simp_all
  have hb0 : Fits (P := Tryz.prog) 49 d0 := fun m hm => by
    have h := List.all_eq_true.1 hsz m (DataW.weights_mem_each (j := 0) (t := 49) rfl rfl m hm)
    simpa using h
  obtain ⟨cs0, rfl, hcs0⟩ := okWide_struct Tryz.underlying49 (hval 0 49 v0 rfl rfl)
  obtain ⟨fuel0, hf0⟩ := h0
  obtain ⟨a0, kv0, hc0, hk0, hwf0⟩ := call_el (show DataW.trod enc Tryz.prog W 0 (fun _ => true) true fuel0 49 cs0.toList = some (d0, p0) from hf0) hb0
  obtain ⟨ls0⟩ := cs0
  obtain rfl : ls0 = _ := hc0
  obtain ⟨t1, rfl, rfl, rfl, ws1⟩ := open_string Tryz.underlying9 (hval 1 9 v1 rfl rfl) h1
  obtain ⟨z2, rfl, rfl, rfl, wz2⟩ := open_int Tryz.underlying3 (hval 2 3 v2 rfl rfl) h2
  have hi2 : -9223372036854775808 ≤ z2 ∧ z2 ≤ 9223372036854775807 := by
    have := wz2
    simp [Lit.wf, IntKind.min, IntKind.max, IntKind.signed, IntKind.bits] at this
    exact this
  have hs1 : t1.data.toList.length ≤ 140737488355328 := by
    have h1 := sized_string hsz (j := 1) (t := 9) rfl rfl
    have h2 := reachBytes_lt
    omega
  have hw := walk a0 t1.data.toList z2 _ W hk0 hwf0 hs1 hi2
  rw [str_eq] at hw
  refine hw.mono fun e W' ⟨he, hb⟩ => ?_
  subst he
  exact ⟨_, rfl, post_law hW' hb laidOut rfl rfl rfl Tryz.underlying4 (by rw [Tryz.params7]; decide +kernel)⟩

theorem reads (os : Os) {H : Type} (enc : TypeId × Value → H) : ∃ places, DataW.whole enc Tryz.prog ((World.laidAll Tryz.prog os C13.laid5).forCall (fun _ _ => 0) ⟨#[], #[.agg #[.int .i64 0, .string ⟨#[]⟩, .int .i64 0, .slice none 0 0], .string ⟨#[]⟩, .int .i64 0], []⟩).memory Tryz.f7.params.toList Rows.walNoneSpec.vars false (#[.agg #[.int .i64 0, .string ⟨#[]⟩, .int .i64 0, .slice none 0 0], .string ⟨#[]⟩, .int .i64 0] : Array Value).toList 8 = some ([.agg [.lit (.int .i64 0), .lit (.string []), .lit (.int .i64 0), .nil], .lit (.string []), .lit (.int .i64 0)], [], places) :=
  ⟨[], by kernel_rfl⟩

theorem lifted (os : Os) (started : os.Started) (H : Type) (enc : TypeId × Value → H) (F : Stop.Interp) :
    ReturnsInHanded {} Tryz.checked os 7 .any ((OpenSpec.ofChange Rows.walNoneSpec).preRow enc Tryz.prog Tryz.f7 Rows.walNoneRow.domain false Rows.walNoneRow.laid) (((OpenSpec.ofChange Rows.walNoneSpec).at F).post enc Tryz.prog Tryz.f7 false true false false) := by
  obtain ⟨places, hx⟩ := reads os enc
  refine returnsInHanded_of_row (C := Tryz.checked) (s := OpenSpec.ofChange Rows.walNoneSpec) own started (by kernel_rfl) Tryz.func7
    (witness_row_atRef (enc := enc) (C := Tryz.checked) false (World.laidAll Tryz.prog os C13.laid5) #[.agg #[.int .i64 0, .string ⟨#[]⟩, .int .i64 0, .slice none 0 0], .string ⟨#[]⟩, .int .i64 0] (World.laidAll_os _ _ _) (by kernel_rfl) (by kernel_rfl) (by kernel_rfl)
      (OpenSpec.preRow_of_cond 8 hx (by kernel_rfl) (fun k hk => by cases hk) (by kernel_rfl) (C13.laid_met os _))) ?_
  intro W base args ds gs before hval hW _ _ hsz hL _ _
  exact contract H enc W base args ds gs before hval hW hsz

theorem said : Rows.WalNoneSaid :=
  OpenClaim.holds_of_cond 7 Tryz.f7 rfl rfl rfl rfl rfl rfl rfl ⟨rfl, rfl, rfl, rfl, rfl⟩ rfl rfl rfl rfl rfl (by kernel_rfl) Tryz.func7 (by kernel_rfl)
    (of_decide_eq_true (by kernel_rfl)) (by unfold Func.isWrapper; first | (rw [if_pos (by decide +kernel)]; kernel_rfl) | (rw [if_neg (by decide +kernel)]; exact ⟨rfl, rfl⟩))
    (fun os started H enc _ F => by rw [OpenClaim.pre_eq_preRow]; exact lifted os started H enc F)

theorem plain (f : FuncId) (fn : Func) (hf : Tryz.pinned.checked.prog.funcNamed "surmise/surmiselaw13.WalNone" = some f) (hfn : Tryz.pinned.checked.prog.funcs[f]? = some fn) :
    true = Tryz.pinned.checked.prog.looks [] ∧ ∀ (j : Nat) t, fn.params[j]? = some t → Tryz.pinned.checked.prog.wantsStandIn t = false := by
  obtain rfl : f = 7 := Option.some.inj ((show Tryz.prog.funcNamed "surmise/surmiselaw13.WalNone" = some 7 by kernel_rfl).symm.trans hf) |>.symm
  obtain rfl : fn = Tryz.f7 := (Option.some.inj (Tryz.func7.symm.trans hfn)).symm
  refine ⟨by kernel_rfl, fun j t ht => ?_⟩
  rw [Tryz.params7] at ht
  have hm := Array.mem_of_getElem? ht
  simp only [Array.mem_def, List.mem_cons, List.not_mem_nil, or_false] at hm
  rcases hm with rfl | rfl | rfl
  · exact (show Tryz.prog.wantsStandIn 49 = false by kernel_rfl)
  · exact (show Tryz.prog.wantsStandIn 9 = false by kernel_rfl)
  · exact (show Tryz.prog.wantsStandIn 3 = false by kernel_rfl)

/-- THE CARD. -/
theorem given : Rows.WalNoneCardSaid :=
  Claim7.holds_tied_plain_at .later [] _ _ _ _ said (fun _ h => by cases h) (by kernel_rfl) (fun _ h => by cases h) walNone_row_tie rfl ⟨rfl, rfl⟩ (by kernel_rfl) rfl plain (by kernel_rfl)
#print axioms given
end Go.Proofs.YtelcemfaijjcbaaGreatDoor.walNone
