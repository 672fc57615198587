/-
  The law DiskNone: a nil disk has nothing. For every input; no condition.
-/
import Derived.Test.YthdchidlfeighaaRows
import Derived.Test.YthdchidlfeighaaHP12Ld
import Derived.Test.YthdchidlfeighaaHP12Arg
import Derived.Test.YthdchidlfeighaaHKLaw
import Derived.SizedLaws
import Derived.Test.YthdchidlfeighaaHP12Na
import Derived.Test.YthdchidlfeighaaHP12Nb
import Derived.Test.YthdchidlfeighaaHP12Nc
namespace Go.Proofs.Ythdchidlfeighaa.diskNone
open Go Go.ChangeShapes Go.WideShapes Go.ChangeAt Go.RowKit Go.Proofs
open Go.ChangeMaps (open_string shut_string)
open Go.Proofs.Ythdchidlfeighaa.C10 (Fits)
open Go.Proofs.Ythdchidlfeighaa.C12 Go.Proofs.Ythdchidlfeighaa.P8 Go.Proofs.Ythdchidlfeighaa.K Go.Proofs.Ythdchidlfeighaa.B
set_option linter.unusedVariables false
set_option maxRecDepth 100000

theorem own : ownKnob Try.prog.godebug = none := by kernel_rfl
theorem laidOut : laidOutB Try.prog = true := by kernel_rfl

theorem walk (a : ActL) (room : Int) (kv : Value) (w : World) (hk : Kp0 w w.heap.size kv a.keep) (hwf : ActWf a) :
    Calls Try.prog 8 #[.agg #[.int .i64 a.kind, .string (str a.name), .string (str a.s), .string (str a.tox), .int .i64 a.n, kv], .int .i64 room] w fun e w' => e = .returned (.bool true) ∧ Below w.heap.size w w' := by
  by_cases h : 0 ≤ room
  · by_cases h2 : room ≤ 1048576
    · exact none_Na a room kv w hk hwf ⟨h, h2⟩
    · exact none_Nc a room kv w hk hwf (by omega)
  · exact none_Nb a room kv w hk hwf (by omega)

theorem lifted (os : Os) (started : os.Started) (H : Type) (enc : TypeId × Value → H) :
    ReturnsInHanded {} Try.checked os 8 .any (Rows.diskNoneSpec.pre6 enc Try.prog Try.f8 Rows.diskNoneRow.domain false) (Rows.diskNoneSpec.post enc Try.prog Try.f8 false true false false) := by
  refine returnsInHanded_of_change_sized (C := Try.checked) own started (by kernel_rfl) Try.func8
    (ChangeSpec.witness6 (enc := enc) (C := Try.checked) false ⟨#[], #[.agg #[.int .i64 0, .string ⟨#[]⟩, .string ⟨#[]⟩, .string ⟨#[]⟩, .int .i64 0, .slice none 0 0], .int .i64 0], []⟩ 8 (by kernel_rfl) (by kernel_rfl) (by kernel_rfl) (by kernel_rfl)) ?_
  intro W base args ds gs before hval0 hW hcnd hsz0 _
  have hsz : (DataW.weightsEach Try.prog (Try.f8.params.toList ++ Rows.diskNoneSpec.plain.varTypes Try.prog) (ds ++ gs)).all (· ≤ reachBytes) = true := hsz0
  clear hsz0
  have hval : ∀ (j : Nat) t v, Try.f8.params[j]? = some t → args[j]? = some v → Value.okWide Try.prog W .any base t v := hval0
  have hW' := hW
  obtain ⟨p, q, hA0, hV, rfl, hfz, hnd⟩ := hW
  have hA : DataW.TrodAll enc Try.prog W 0 (fun _ => true) true Try.f8.params.toList args.toList ds p := hA0
  rw [Try.params8] at hA hval hsz
  obtain ⟨v0, vs0, d0, ds0, p0, q0, hargs, rfl, rfl, h0, r0⟩ := trodAll_cons hA
  obtain ⟨v1, vs1, d1, ds1, p1, q1, rfl, rfl, rfl, h1, r1⟩ := trodAll_cons r0
  obtain ⟨rfl, rfl, rfl⟩ := trodAll_nil r1
  obtain rfl : args = #[v0, v1] := by cases args; simp_all
  have hb0 : Fits (P := Try.prog) 52 d0 := fun m hm => by
    have h := List.all_eq_true.1 hsz m (DataW.weights_mem_each (j := 0) (t := 52) rfl rfl m hm)
    simpa using h
  obtain ⟨cs0, rfl, hcs0⟩ := okWide_struct Try.underlying52 (hval 0 52 v0 rfl rfl)
  obtain ⟨fuel0, hf0⟩ := h0
  obtain ⟨a0, kv0, hc0, hk0, hwf0⟩ := act_el (show DataW.trod enc Try.prog W 0 (fun _ => true) true fuel0 52 cs0.toList = some (d0, p0) from hf0) hb0
  obtain ⟨ls0⟩ := cs0
  obtain rfl : ls0 = _ := hc0
  obtain ⟨z1, rfl, rfl, rfl, wz1⟩ := open_int Try.underlying3 (hval 1 3 v1 rfl rfl) h1
  have hi1 : -9223372036854775808 ≤ z1 ∧ z1 ≤ 9223372036854775807 := by
    have := wz1
    simp [Lit.wf, IntKind.min, IntKind.max, IntKind.signed, IntKind.bits] at this
    exact this
  have hw := walk a0 z1 _ W hk0 hwf0
  refine hw.mono fun e W' ⟨he, hb⟩ => ?_
  subst he
  exact ⟨_, rfl, post_law hW' hb laidOut rfl rfl rfl Try.underlying4 (by rw [Try.params8]; decide +kernel)⟩

theorem over : Rows.diskNoneRow.holds Try.pinned (OpenSpec.ofChange Rows.diskNoneSpec) :=
  OpenClaim.holds_of_wide 8 Try.f8 rfl rfl rfl rfl rfl rfl rfl ⟨rfl, rfl, rfl, rfl, rfl⟩ rfl rfl rfl rfl rfl (by kernel_rfl) Try.func8 (by kernel_rfl)
    (of_decide_eq_true (by kernel_rfl)) (by unfold Func.isWrapper; first | (rw [if_pos (by decide +kernel)]; kernel_rfl) | (rw [if_neg (by decide +kernel)]; exact ⟨rfl, rfl⟩))
    (fun os started H enc _ => lifted os started H enc)

theorem proved : Rows.DiskNoneSaid := over
#print axioms proved
end Go.Proofs.Ythdchidlfeighaa.diskNone
