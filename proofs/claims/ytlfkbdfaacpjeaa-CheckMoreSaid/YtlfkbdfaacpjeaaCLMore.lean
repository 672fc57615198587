/-
  CheckMore: in whatever pieces bytes come, it is the sum of all of them. No condition.
-/
import Derived.Test.YtlfkbdfaacpjeaaRows
import Derived.Test.YtlfkbdfaacpjeaaCLaw
import Derived.Test.YtlfkbdfaacpjeaaCImpl
import Derived.Test.YtlfkbdfaacpjeaaCRef
import Derived.Test.YtlfkbdfaacpjeaaKArgs
import Derived.Test.YtlfkbdfaacpjeaaKLaw
namespace Go.Proofs.Ytlfkbdfaacpjeaa.checkMore
open Go.ChangeShapes Go.WideShapes Go.ChangeAt Go.RowKit
open Go.ChangeMaps (open_string shut_string)
open Go.Proofs.Ytlfkbdfaacpjeaa.B Go.Proofs.Ytlfkbdfaacpjeaa.C Go.Proofs.Ytlfkbdfaacpjeaa.K
set_option linter.unusedVariables false

theorem own : ownKnob Try.prog.godebug = none := by kernel_rfl
theorem laidOut : laidOutB Try.prog = true := by kernel_rfl

set_option maxHeartbeats 2000000 in
theorem walk (C : Contracts) (v : Value) (l : List (List UInt8)) (S : Nat) (w : World) (hwf : ∀ x ∈ l, x.length ≤ maxLen) (hv : Sl w v (l.map sv)) (hS : S < 4294967296) :
    Calls Try.prog 4 #[v, .int .u32 (S : Int)] w fun e w' => e = .returned (.bool true) ∧ Below w.heap.size w w' := by
  obtain ⟨a, cap, rfl, hc⟩ := hv
  rw [List.length_map]
  have HC := Lib.hid hc; clear hc
  have HWF := Lib.hid hwf; clear hwf
  obtain ⟨n, hN⟩ : ∃ n, l.length = n := ⟨_, rfl⟩
  rw [hN]
  have HN := Lib.hid hN; clear hN
  have hQ1 : S ^^^ 4294967295 < 4294967296 := Nat.xor_lt_two_pow (n := 32) (by omega) (by omega)
  have hx := u32_flip S hS
  have hme := fun w => C.more S [] w hS (by decide)
  rw [more_nil] at hme
  have HME := Lib.hid hme; clear hme
  have hmo := fun acc (h : acc.length ≤ 6000) w => C.more S acc w hS (by omega)
  have hmd : ∀ acc, more S acc = thr (S ^^^ 4294967295) acc ^^^ 4294967295 := fun _ => rfl
  obtain ⟨Q, eQ⟩ : ∃ Q, S ^^^ 4294967295 = Q := ⟨_, rfl⟩
  rw [eQ] at hx hQ1
  have hmd' : ∀ acc, more S acc = thr Q acc ^^^ 4294967295 := fun acc => by rw [hmd, eQ]
  have HMO := Lib.hid hmo; clear hmo
  have HMD := Lib.hid hmd'; clear hmd hmd' eQ
  have HQ1 := Lib.hid hQ1; clear hQ1
  clear hS
  go_enter Try.func4, Try.ntmps4
  go_wp2_with fail
  go_loopw [5, 6, 7, 8] (fun al x i _ wr => ∃ (k : Nat) (acc : List UInt8) (X : Nat), k ≤ n ∧ k ≤ 20 ∧ i = .int .i64 (k : Int) ∧ al = .string (str acc) ∧ x = .int .u32 (X : Int) ∧ Hid (sum acc = X) ∧ Hid (acc.length ≤ 6000) ∧ Hid (Below w.heap.size w wr)) (fun _ _ i _ _ => 20 - (intOf i).toNat)
  case atStart => exact ⟨0, [], 0, Nat.zero_le _, by omega, rfl, rfl, rfl, by show sum [] = 0; decide +kernel, by show ([] : List UInt8).length ≤ 6000; decide, Below.refl _ _⟩
  case round =>
    obtain ⟨k, acc, X, hk, hk20, rfl, rfl, rfl, HX, HA, HBE⟩ := hrel
    have hsz : (str acc).size = acc.length := str_size acc
    by_cases hgo : k < n ∧ k < 20
    · obtain ⟨hltk, hlt20⟩ := hgo
      obtain ⟨x, hx1⟩ : ∃ x, l[k]? = some x := ⟨_, List.getElem?_eq_getElem (by rw [HN.out]; exact hltk)⟩
      obtain ⟨b, off, rfl, hcell⟩ := HC.out k (.string (str x)) (by rw [List.getElem?_map, hx1]; rfl)
      have hc1 : wr.cell? ⟨b, off + k, none⟩ = some (.string (str x)) := (HBE.out.cell (World.block_lt_of_cell? w _ hcell)).trans hcell
      have hx01 := HWF.out x (List.mem_of_getElem? hx1)
      have hltI : (k : Int) < (n : Int) := by omega
      have hlt2 : (k : Int) < 20 := by omega
      have hfe := fun w => few_any x w (Nat.le_trans hx01 (by decide))
      have hfl := few_length x
      obtain ⟨s, hse⟩ : ∃ s, few x = s := ⟨_, rfl⟩
      rw [hse] at hfe hfl
      have HFE := Lib.hid hfe; clear hfe hse hx01 hx1 hcell
      by_cases hbig : 3000 < acc.length
      · have hbigI : 3000 < (acc.length : Int) := by omega
        have hrs := fun w => refSum_any acc w (Nat.le_trans HA.out (by decide))
        rw [HX.out] at hrs
        have HRS := Lib.hid hrs; clear hrs
        have HM := Lib.hid (fun w => HMO.out acc HA.out w)
        have HT := Lib.hid (fun w => refThrough_any Q acc w HQ1.out (Nat.le_trans HA.out (by decide)))
        have hx2 := u32_flip (thr Q acc) (thr_lt _ _ HQ1.out)
        rw [← HMD.out] at hx2
        clear hbig
        go_wp2_with fail
        refine (HFE.out _).mono ?_
        rintro _ y0 ⟨rfl, rfl⟩
        go_wp2_with fail
        refine (awake_any C _).mono ?_
        rintro _ y1 ⟨rfl, g1⟩
        have b1 := HBE.out.trans (g1.mono HBE.out.size)
        clear g1
        go_wp2_with fail
        refine (HRS.out _).mono ?_
        rintro _ y2 ⟨rfl, rfl⟩
        go_wp2_with fail
        refine (HM.out _).mono ?_
        rintro _ y3 ⟨rfl, g3⟩
        have b3 := b1.trans (g3.mono b1.size)
        clear g3 b1
        go_wp2_with fail
        refine (HT.out _).mono ?_
        rintro _ y4 ⟨rfl, rfl⟩
        go_wp2_with fail
        refine (HME.out _).mono ?_
        rintro _ y5 ⟨rfl, g5⟩
        have b5 := b3.trans (g5.mono b3.size)
        clear g5 b3
        go_wp2_with fail
        go_ret
        exact ⟨rfl, b5⟩
      · have hbigI : ¬ 3000 < (acc.length : Int) := by omega
        have hsx : (str acc).size ≤ 3000 := by omega
        have hsy : (str s).size ≤ 3000 := by rw [str_size]; exact hfl
        have happ := str_append acc s
        have hmo := fun w => C.more X s w (by rw [← HX.out]; exact sum_lt _) (by omega)
        have hnx : more X s = sum (acc ++ s) := by rw [← HX.out, ← more_zero, more_append, more_zero]
        rw [hnx] at hmo
        have HMX := Lib.hid hmo; clear hmo hnx
        have hln : (acc ++ s).length ≤ 6000 := by rw [List.length_append]; omega
        have HLN := Lib.hid hln; clear hln hbig
        go_wp2_with fail
        refine (HFE.out _).mono ?_
        rintro _ y0 ⟨rfl, rfl⟩
        go_wp2_with fail
        refine (HMX.out _).mono ?_
        rintro _ y1 ⟨rfl, g1⟩
        have b1 := HBE.out.trans (g1.mono HBE.out.size)
        clear g1
        go_wp2_with fail
        go_roundw
        case rel => exact ⟨k + 1, acc ++ s, sum (acc ++ s), by omega, by omega, by go_num, rfl, rfl, rfl, HLN.out, b1⟩
        case measure => simp [intOf]; omega
    · have hcase : ¬ (k : Int) < (n : Int) ∨ ((k : Int) < (n : Int) ∧ ¬ (k : Int) < 20) := by omega
      have hrs := fun w => refSum_any acc w (Nat.le_trans HA.out (by decide))
      rw [HX.out] at hrs
      have HRS := Lib.hid hrs; clear hrs
      have HM := Lib.hid (fun w => HMO.out acc HA.out w)
      have HT := Lib.hid (fun w => refThrough_any Q acc w HQ1.out (Nat.le_trans HA.out (by decide)))
      have hx2 := u32_flip (thr Q acc) (thr_lt _ _ HQ1.out)
      rw [← HMD.out] at hx2
      rcases hcase with hc1 | ⟨hc1, hc2⟩
      · go_wp2_with fail
        refine (awake_any C _).mono ?_
        rintro _ y1 ⟨rfl, g1⟩
        have b1 := HBE.out.trans (g1.mono HBE.out.size)
        clear g1
        go_wp2_with fail
        refine (HRS.out _).mono ?_
        rintro _ y2 ⟨rfl, rfl⟩
        go_wp2_with fail
        refine (HM.out _).mono ?_
        rintro _ y3 ⟨rfl, g3⟩
        have b3 := b1.trans (g3.mono b1.size)
        clear g3 b1
        go_wp2_with fail
        refine (HT.out _).mono ?_
        rintro _ y4 ⟨rfl, rfl⟩
        go_wp2_with fail
        refine (HME.out _).mono ?_
        rintro _ y5 ⟨rfl, g5⟩
        have b5 := b3.trans (g5.mono b3.size)
        clear g5 b3
        go_wp2_with fail
        go_ret
        exact ⟨rfl, b5⟩
      · go_wp2_with fail
        refine (awake_any C _).mono ?_
        rintro _ y1 ⟨rfl, g1⟩
        have b1 := HBE.out.trans (g1.mono HBE.out.size)
        clear g1
        go_wp2_with fail
        refine (HRS.out _).mono ?_
        rintro _ y2 ⟨rfl, rfl⟩
        go_wp2_with fail
        refine (HM.out _).mono ?_
        rintro _ y3 ⟨rfl, g3⟩
        have b3 := b1.trans (g3.mono b1.size)
        clear g3 b1
        go_wp2_with fail
        refine (HT.out _).mono ?_
        rintro _ y4 ⟨rfl, rfl⟩
        go_wp2_with fail
        refine (HME.out _).mono ?_
        rintro _ y5 ⟨rfl, g5⟩
        have b5 := b3.trans (g5.mono b3.size)
        clear g5 b3
        go_wp2_with fail
        go_ret
        exact ⟨rfl, b5⟩

set_option maxRecDepth 100000 in
theorem lifted (C : Contracts) (os : Os) (started : os.Started) (H : Type) (enc : TypeId × Value → H) :
    ReturnsInHanded {} Try.checked os 4 .any (Rows.checkMoreSpec.pre6 enc Try.prog Try.f4 Rows.checkMoreRow.domain false) (Rows.checkMoreSpec.post enc Try.prog Try.f4 false true false false) := by
  refine returnsInHanded_of_change (C := Try.checked) own started (by kernel_rfl) Try.func4
    (ChangeSpec.witness6 (enc := enc) (C := Try.checked) false ⟨#[], #[.slice none 0 0, .int .u32 0], []⟩ 8 (by kernel_rfl) (by kernel_rfl) (by kernel_rfl) (by kernel_rfl)) ?_
  intro W base args ds gs before hval0 hW hcnd _
  have hval : ∀ (j : Nat) t v, Try.f4.params[j]? = some t → args[j]? = some v → Value.okWide Try.prog W .any base t v := hval0
  have hW' := hW
  obtain ⟨p, q, hA0, hV, rfl, hfz, hnd⟩ := hW
  have hA : DataW.TrodAll enc Try.prog W 0 (fun _ => true) true Try.f4.params.toList args.toList ds p := hA0
  rw [Try.params4] at hA hval
  obtain ⟨v0, vs0, d0, ds0, p0, q0, hargs, rfl, rfl, h0, r0⟩ := trodAll_cons hA
  obtain ⟨v1, vs1, d1, ds1, p1, q1, rfl, rfl, rfl, h1, r1⟩ := trodAll_cons r0
  obtain ⟨rfl, rfl, rfl⟩ := trodAll_nil r1
  obtain rfl : args = #[v0, v1] := by cases args; simp_all
  obtain ⟨ls, hls, hlw, _⟩ := strs_arg Try.underlying30 Try.underlying9 (by kernel_rfl) (hval 0 30 v0 rfl rfl) h0
  obtain ⟨n, rfl, rfl, rfl, wn⟩ := open_int Try.underlying27 (hval 1 27 v1 rfl rfl) h1
  have hn : 0 ≤ n ∧ n < 4294967296 := by
    have := wn
    simp [Lit.wf, IntKind.min, IntKind.max, IntKind.signed, IntKind.bits] at this
    omega
  obtain ⟨S, rfl⟩ := Int.eq_ofNat_of_zero_le hn.1
  refine (walk C v0 ls S W hlw hls (by omega)).mono fun e W' ⟨he, hb⟩ => ?_
  subst he
  exact ⟨_, rfl, post_law hW' hb laidOut rfl rfl rfl Try.underlying4 (by rw [Try.params4]; decide +kernel)⟩

theorem over (C : Contracts) : Rows.checkMoreRow.holds Try.pinned (OpenSpec.ofChange Rows.checkMoreSpec) :=
  OpenClaim.holds_of_wide 4 Try.f4 rfl rfl rfl rfl rfl rfl rfl ⟨rfl, rfl, rfl, rfl, rfl⟩ rfl rfl rfl rfl rfl (by kernel_rfl) Try.func4 (by kernel_rfl)
    (of_decide_eq_true (by kernel_rfl)) (by unfold Func.isWrapper; first | (rw [if_pos (by decide +kernel)]; kernel_rfl) | (rw [if_neg (by decide +kernel)]; exact ⟨rfl, rfl⟩))
    (fun os started H enc _ => lifted C os started H enc)

theorem given (C : Contracts) : Rows.CheckMoreSaid := over C
theorem proved : Rows.CheckMoreSaid := given contracts
#print axioms proved
end Go.Proofs.Ytlfkbdfaacpjeaa.checkMore
