/-
  CheckBursts: a sealed text in which some bits are turned, all within 32 side by side, is not opened. No condition.
-/
import Derived.Test.YtlfkbdfaacpjeaaRows
import Derived.Test.YtlfkbdfaacpjeaaCLaw
import Derived.Test.YtlfkbdfaacpjeaaCImpl
import Derived.Test.YtlfkbdfaacpjeaaCRefSeal
import Derived.Deep.DeepCutAuto
import Derived.StillTailTactics
import Derived.Test.YtlfkbdfaacpjeaaKLaw
namespace Go.Proofs.Ytlfkbdfaacpjeaa.checkBursts
open Go.ChangeShapes Go.WideShapes Go.ChangeAt Go.RowKit
open Go.ChangeMaps (open_string shut_string)
open Go.Proofs.Ytlfkbdfaacpjeaa.B Go.Proofs.Ytlfkbdfaacpjeaa.C Go.Proofs.Ytlfkbdfaacpjeaa.K
set_option linter.unusedVariables false

theorem own : ownKnob Try.prog.godebug = none := by kernel_rfl
theorem laidOut : laidOutB Try.prog = true := by kernel_rfl

theorem byteCells_set (u : List UInt8) (i : Nat) (y : UInt8) : (Lib.byteCells u).set i (.int .u8 (y.toNat : Int)) = Lib.byteCells (u.set i y) := by
  simp only [Lib.byteCells, List.map_set]

set_option maxHeartbeats 1000000 in
set_option maxRecDepth 100000 in
theorem walk (C : Contracts) (l0 : List UInt8) (at' : Int) (B : Nat) (hl : l0.length ≤ 9223372036854775807) (ha0 : -9223372036854775808 ≤ at') (ha1 : at' ≤ 9223372036854775807) (hB : B < 4294967296) (w : World) :
    Calls Try.prog 8 #[.string (str l0), .int .i64 at', .int .u32 (B : Int)] w fun e w' => e = .returned (.bool true) ∧ Below w.heap.size w w' := by
  have hfew := fun w => few_any l0 w hl
  have hfl := few_length l0
  obtain ⟨l, hle⟩ : ∃ l, few l0 = l := ⟨_, rfl⟩
  rw [hle] at hfew hfl
  clear hle
  have hse := fun w => refSeal_any l w (by omega)
  have hcl := sealed_length l
  have hmark := thr_sealed l
  obtain ⟨c, hc⟩ : ∃ c, sealed l = c := ⟨_, rfl⟩
  rw [hc] at hse hcl hmark
  clear hc
  have hM : zs 32 4294967295 = thr 4294967295 c := hmark.symm
  obtain ⟨L, hL⟩ : ∃ L, c.length = L := ⟨_, rfl⟩
  have hL4 : 4 ≤ L := by omega
  have hL3 : L ≤ 3004 := by omega
  have HF := Lib.hid hfew; clear hfew
  have HSE := Lib.hid hse; clear hse
  have HM := Lib.hid hM; clear hM hmark hcl hfl hl
  have HB := Lib.hid hB; clear hB
  have hsz : (str c).size = L := by rw [str_size, hL]
  have hconv := fun w => conv_bytes (P := Try.prog) w 9 38 5 (str c) Try.underlying9 Try.underlying38 Try.underlying5 (by rw [hsz]; unfold maxLen; omega)
  rw [strCells_str, hsz] at hconv
  have HCO := Lib.hid hconv; clear hconv
  have hLI : (L : Int) ≤ 3004 := by omega
  have HL3 := Lib.hid hL3; clear hL3
  go_enter Try.func8, Try.ntmps8
  go_wp2_with fail
  refine (HF.out _).mono ?_
  rintro _ w1 ⟨rfl, rfl⟩
  go_wp2_with fail
  refine (HSE.out _).mono ?_
  rintro _ w2 ⟨rfl, h2⟩
  obtain ⟨v, w3, hcv, how, hb3⟩ := HCO.out w2
  obtain ⟨g, cap, rfl, hg0, hg1, hcell, hset⟩ := how.opened (by omega)
  have HOW := Lib.hid (how.mono h2.size); clear how hcell hset hg0 hg1
  have h3 := h2.trans (hb3.mono h2.size)
  clear h2 hb3
  go_wp2_with fail
  go_simp
  clear hcv
  go_wp2_with fail
  refine (awake_any C _).mono ?_
  rintro _ w4 ⟨rfl, g4⟩
  have how4 := HOW.out.below g4
  have h4 := h3.trans (g4.mono h3.size)
  have HOW4 := Lib.hid how4
  clear how4 HOW g4 h3
  by_cases hneg : at' < 0
  · go_wp2_with fail
    refine (awake_any C _).mono ?_
    rintro _ w5 ⟨rfl, g5⟩
    go_wp2_with fail
    go_ret
    exact ⟨rfl, h4.trans (g5.mono h4.size)⟩
  · obtain ⟨A, rfl⟩ := Int.eq_ofNat_of_zero_le (show 0 ≤ at' by omega)
    by_cases hbig : 8 * L ≤ A
    · have hbI : 8 * (L : Int) ≤ (A : Int) := by omega
      clear hbig hneg
      go_wp2_with fail
      refine (awake_any C _).mono ?_
      rintro _ w5 ⟨rfl, g5⟩
      go_wp2_with fail
      go_ret
      exact ⟨rfl, h4.trans (g5.mono h4.size)⟩
    · have hbI : ¬ 8 * (L : Int) ≤ (A : Int) := by omega
      have hA : A < 8 * L := by omega
      clear hbig hneg
      go_wp2_with fail
      go_loopw [9, 10] (fun t i wr => ∃ (tb : Bool) (k W : Nat) (u : List UInt8), t = .bool tb ∧ i = .int .i64 (k : Int) ∧ k ≤ 32 ∧ A + k ≤ 8 * L ∧ u.length = L ∧ Hid (tb = true ↔ W ≠ 0) ∧ Hid (W < 2 ^ k) ∧
          Hid (zs 32 (thr 4294967295 u) = zs 32 (thr 4294967295 c) ^^^ zs (8 * L - A) (zs 32 W)) ∧ Hid (OwnsG wr w.heap.size 5 (.slice (some ⟨g, 0, none⟩) L cap) L (Lib.byteCells u)) ∧ Hid (Below w.heap.size w wr)) (fun _ i _ => 32 - (intOf i).toNat)
      case atStart => exact ⟨false, 0, 0, c, rfl, rfl, by omega, by omega, hL, by show _ ↔ _; simp, by show 0 < 2 ^ 0; decide, by show _ = _; rw [zs_zero, zs_zero, Nat.xor_zero], HOW4.out, h4⟩
      case round =>
        obtain ⟨tb, k, W, u, rfl, rfl, hk, hAk, hu, HTB, HW, HZ, HOWN, HBE⟩ := hrel
        by_cases hgo : k < 32 ∧ A + k < 8 * L
        · obtain ⟨hk32, hAkL⟩ := hgo
          have hkI : (k : Int) < 32 := by omega
          have hkN : (k : Int) < 8 * (L : Int) - (A : Int) := by omega
          have hAI : (A : Int) < 8 * (L : Int) := by omega
          have HK := Lib.hid (And.intro hk32 (And.intro hAkL (And.intro hA (And.intro hL (And.intro hu hL4)))))
          clear hk32 hAkL hA hL hu hL4 hAk hk hbI
          go_upto_region 9 with fail

          obtain ⟨D, hD⟩ : ∃ D, B / 2 ^ k = D := ⟨_, rfl⟩
          have hDI : (B : Int) / 2 ^ k = (D : Int) := by rw [← hD]; simp
          have hD1 : D < 4294967296 := by rw [← hD]; have := Nat.div_le_self B (2 ^ k); have := HB.out; omega
          have hand := u32_and_nat D 1 hD1 (by omega)
          rw [Nat.and_one_is_mod, ← hDI] at hand
          clear hD hDI hD1
          by_cases hbit : D % 2 = 1
          · rw [hbit] at hand
            have hand' : bits .and .u32 ((B : Int) / 2 ^ k) 1 = 1 := hand
            clear hand hbit
            obtain ⟨hk32, hAkL, hA, hL, hu, hL4⟩ := HK.out
            obtain ⟨q, hq⟩ : ∃ q, (A + k) / 8 = q := ⟨_, rfl⟩
            obtain ⟨j, hj⟩ : ∃ j, (A + k) % 8 = j := ⟨_, rfl⟩
            have hj8 : j < 8 := by omega
            have hqL : q < L := by omega
            have hqu : q < u.length := by omega
            obtain ⟨z, hz⟩ : ∃ z, u[q]? = some z := ⟨_, List.getElem?_eq_getElem hqu⟩
            obtain ⟨x, hx⟩ : ∃ x, z.toNat = x := ⟨_, rfl⟩
            have hx8 : x < 256 := by rw [← hx]; exact z.toNat_lt
            obtain ⟨P, hP⟩ : ∃ P, 2 ^ j = P := ⟨_, rfl⟩
            have hP8 : P < 256 := by rw [← hP]; exact Nat.pow_lt_pow_right (by omega) (show j < 8 from hj8)
            obtain ⟨y, hy⟩ : ∃ y, x ^^^ P = y := ⟨_, rfl⟩
            have hy8 : y < 256 := by rw [← hy]; exact Nat.xor_lt_two_pow (n := 8) (by omega) (by omega)
            have hxor := u8_xor_nat x P hx8 hP8
            rw [hy] at hxor
            have hpw : (2 : Int) ^ j = (P : Int) := by rw [← hP]; simp
            have hpI : (P : Int) < 256 := by omega
            have hqd : ((A : Int) + (k : Int)).tdiv 8 = (q : Int) := by rw [Int.tdiv_eq_ediv_of_nonneg (by omega)]; omega
            have hjm : ((A : Int) + (k : Int)).tmod 8 = (j : Int) := by rw [Int.tmod_eq_emod_of_nonneg (by omega)]; omega
            have hqd' : ((A : Int) + (k : Int)) / 8 = (q : Int) := by omega
            have hjm' : ((A : Int) + (k : Int)) % 8 = (j : Int) := by omega
            have hpw2 : IntKind.u8.wrap ((2 : Int) ^ j) = (P : Int) := by rw [hpw]; exact IntWalk.u8_in _ (by omega)
            have hw1 : IntKind.i64.wrap ((A : Int) + (k : Int)) = (A : Int) + (k : Int) := IntWalk.i64_in _ (by omega)
            have hw2 : IntKind.i64.wrap (q : Int) = (q : Int) := IntWalk.i64_in _ (by omega)
            have hpw4 : IntKind.u8.wrap (P : Int) = (P : Int) := IntWalk.u8_in _ (by omega)
            have hw3 : IntKind.i64.wrap (j : Int) = (j : Int) := IntWalk.i64_in _ (by omega)
            have hqI : (q : Int) < (L : Int) := by omega
            have hjI : (j : Int) < 8 := by omega
            obtain ⟨g', cap', hv', hg0, hg1, hcell, hset⟩ := HOWN.out.opened (show 0 < L by omega)
            simp only [Value.slice.injEq, Option.some.injEq, Addr.mk.injEq, true_and, and_true] at hv'
            obtain ⟨rfl, rfl⟩ := hv'
            obtain ⟨hc1, hc2⟩ := hcell q (.int .u8 (x : Int)) (by rw [Lib.byteCells, List.getElem?_map, hz, ← hx]; rfl)
            have hown' := hset q (.int .u8 (y : Int)) hqL
            have HOWN' := Lib.hid hown'
            have HBE' := Lib.hid (HBE.out.setCell (p := ⟨g, q, none⟩) hg0 (.int .u8 (y : Int)))
            have HX := Lib.hid hx
            have HZZ := Lib.hid hz
            have HY8 := Lib.hid hy8
            have HJ8 := Lib.hid hj8
            have HQL := Lib.hid hqL
            have HY := Lib.hid hy
            have HQ := Lib.hid hq
            have HJ := Lib.hid hj
            have HP := Lib.hid hP
            clear hown' hset hcell hx hz hy hq hj hP hy8 hP8 hx8 hqL hqu hj8 hk32 hAkL hA hL hu hL4
            go_wp2_with fail
            go_still_tail 13, (by kernel_rfl)
            change wpList _ _ _ _ _ wr.drew
            go_wp2_with fail
            go_roundw
            case rel =>
              obtain ⟨hk32, hAkL, hA, hL, hu, hL4⟩ := HK.out
              have hqu : q < u.length := by have := HQL.out; omega
              have hyz : (UInt8.ofNat y).toNat = y := by rw [UInt8.toNat_ofNat']; exact Nat.mod_eq_of_lt HY8.out
              have hut : u.set q (UInt8.ofNat y) = u.set ((A + k) / 8) (UInt8.ofNat y) := by rw [HQ.out]
              have hzu : u[(A + k) / 8]'(by omega) = z := by
                have h1 := HZZ.out
                rw [← HQ.out] at h1
                exact (List.getElem?_eq_some_iff.1 h1).2
              have ht := turn_at 4294967295 u (A + k) (by omega) (UInt8.ofNat y) (by rw [hyz, hzu, HX.out, HJ.out, HP.out, HY.out])
              rw [← hut, hu] at ht
              have hr := turn_round (thr 4294967295 u) (thr 4294967295 c) A (8 * L) k W hk32 hAkL HZ.out
              rw [← ht] at hr
              have hWk : W < 2 ^ k := HW.out
              have hne : W ^^^ 2 ^ k ≠ 0 := fun e => by have := xor_eq_zero _ _ e; omega
              have hlt : W ^^^ 2 ^ k < 2 ^ (k + 1) := Nat.xor_lt_two_pow (Nat.lt_of_lt_of_le hWk (Nat.pow_le_pow_right (by omega) (by omega))) (Nat.pow_lt_pow_right (by omega) (by omega))
              have hown5 := HOWN'.out
              have hbs := byteCells_set u q (UInt8.ofNat y)
              rw [hyz] at hbs
              rw [hbs] at hown5
              exact ⟨true, k + 1, W ^^^ 2 ^ k, u.set q (UInt8.ofNat y), rfl, by go_num, by omega, by omega, by rw [List.length_set]; exact hu, by show _ ↔ _; simp [hne], hlt, hr, hown5, HBE'.out.drew⟩
            case measure => simp [intOf]; have := HK.out; omega
          · rw [show D % 2 = 0 by omega] at hand
            have hand' : bits .and .u32 ((B : Int) / 2 ^ k) 1 = 0 := hand
            clear hand hbit
            go_wp2_with fail
            go_roundw
            case rel => exact ⟨tb, k + 1, W, u, rfl, by go_num, by have := HK.out; omega, by have := HK.out; omega, HK.out.2.2.2.2.1, HTB.out, Nat.lt_of_lt_of_le HW.out (Nat.pow_le_pow_right (by omega) (by omega)), HZ.out, HOWN.out, HBE.out⟩
            case measure => simp [intOf]; have := HK.out; omega
        · have hcond : ¬ (k : Int) < 32 ∨ ((k : Int) < 32 ∧ ¬ (k : Int) < 8 * (L : Int) - (A : Int)) := by omega
          have hW32 : W < 4294967296 := Nat.lt_of_lt_of_le HW.out (by have : (2 : Nat) ^ k ≤ 2 ^ 32 := Nat.pow_le_pow_right (by omega) (by omega); omega)
          have hopen : tb = true → openOf u = ([], 7) := fun e => open_of_mark u (by omega) (by
            rw [HM.out]
            exact told _ _ _ W hW32 (HTB.out.1 e) HZ.out)
          have hcv := run_strG (P := Try.prog) Try.underlying38 Try.underlying5 Try.underlying9 HOWN.out (dst := 9) (src := 38)
          rw [show (⟨u.toArray⟩ : ByteArray) = str u from rfl] at hcv
          have hop := fun w => C.open_ u w (by have := HL3.out; omega)
          obtain ⟨⟨t, e⟩, hte⟩ : ∃ t, openOf u = t := ⟨_, rfl⟩
          rw [hte] at hop hopen
          have HOP := Lib.hid hop; clear hop
          have HOPEN := Lib.hid hopen; clear hopen hte hW32
          have hAI : (A : Int) < 8 * (L : Int) := by omega
          clear hgo hk hAk hu hA hL hL4 hbI
          have HCV := Lib.hid hcv; clear hcv
          rcases hcond with hc1 | ⟨hc0, hc1⟩
          · have hcv := HCV.out
            go_wp2_with fail
            go_simp
            go_wp2_with fail
            refine (HOP.out _).mono ?_
            rintro _ w6 ⟨rfl, g6⟩
            have h6 := HBE.out.trans (g6.mono HBE.out.size)
            cases tb
            · go_wp2_with fail
              go_ret
              exact ⟨rfl, h6⟩
            · have := HOPEN.out rfl
              simp only [Prod.mk.injEq] at this
              obtain ⟨rfl, rfl⟩ := this
              have hnil : (str []).toList = [] := str_toList _
              go_wp2_with fail
              go_ret
              exact ⟨rfl, h6⟩
          · have hcv := HCV.out
            go_wp2_with fail
            go_simp
            go_wp2_with fail
            refine (HOP.out _).mono ?_
            rintro _ w6 ⟨rfl, g6⟩
            have h6 := HBE.out.trans (g6.mono HBE.out.size)
            cases tb
            · go_wp2_with fail
              go_ret
              exact ⟨rfl, h6⟩
            · have := HOPEN.out rfl
              simp only [Prod.mk.injEq] at this
              obtain ⟨rfl, rfl⟩ := this
              have hnil : (str []).toList = [] := str_toList _
              go_wp2_with fail
              go_ret
              exact ⟨rfl, h6⟩


set_option maxRecDepth 100000 in
theorem lifted (C : Contracts) (os : Os) (started : os.Started) (H : Type) (enc : TypeId × Value → H) :
    ReturnsInHanded {} Try.checked os 8 .any (Rows.checkBurstsSpec.pre6 enc Try.prog Try.f8 Rows.checkBurstsRow.domain false) (Rows.checkBurstsSpec.post enc Try.prog Try.f8 false true false false) := by
  refine returnsInHanded_of_change (C := Try.checked) own started (by kernel_rfl) Try.func8
    (ChangeSpec.witness6 (enc := enc) (C := Try.checked) false ⟨#[], #[.string ⟨#[]⟩, .int .i64 0, .int .u32 0], []⟩ 8 (by kernel_rfl) (by kernel_rfl) (by kernel_rfl) (by kernel_rfl)) ?_
  intro W base args ds gs before hval0 hW hcnd _
  have hval : ∀ (j : Nat) t v, Try.f8.params[j]? = some t → args[j]? = some v → Value.okWide Try.prog W .any base t v := hval0
  have hW' := hW
  obtain ⟨p, q, hA0, hV, rfl, hfz, hnd⟩ := hW
  have hA : DataW.TrodAll enc Try.prog W 0 (fun _ => true) true Try.f8.params.toList args.toList ds p := hA0
  rw [Try.params8] at hA hval
  obtain ⟨v0, vs0, d0, ds0, p0, q0, hargs, rfl, rfl, h0, r0⟩ := trodAll_cons hA
  obtain ⟨v1, vs1, d1, ds1, p1, q1, rfl, rfl, rfl, h1, r1⟩ := trodAll_cons r0
  obtain ⟨v2, vs2, d2, ds2, p2, q2, rfl, rfl, rfl, h2, r2⟩ := trodAll_cons r1
  obtain ⟨rfl, rfl, rfl⟩ := trodAll_nil r2
  obtain rfl : args = #[v0, v1, v2] := by cases args; simp_all
  obtain ⟨s0, rfl, rfl, rfl, ws0⟩ := open_string Try.underlying9 (hval 0 9 v0 rfl rfl) h0
  obtain ⟨l, rfl⟩ : ∃ l, s0 = str l := ⟨_, (str_eq s0).symm⟩
  have hl : l.length ≤ 9223372036854775807 := by rw [← str_size]; exact Nat.le_trans ws0 (by decide)
  obtain ⟨n, rfl, rfl, rfl, w1⟩ := open_int Try.underlying3 (hval 1 3 v1 rfl rfl) h1
  have hnr : -9223372036854775808 ≤ n ∧ n ≤ 9223372036854775807 := by simpa [Lit.wf, IntKind.min, IntKind.max, IntKind.signed, IntKind.bits] using w1
  obtain ⟨b, rfl, rfl, rfl, wb⟩ := open_int Try.underlying27 (hval 2 27 v2 rfl rfl) h2
  have hb : 0 ≤ b ∧ b < 4294967296 := by
    have := wb
    simp [Lit.wf, IntKind.min, IntKind.max, IntKind.signed, IntKind.bits] at this
    omega
  obtain ⟨B, rfl⟩ := Int.eq_ofNat_of_zero_le hb.1
  refine (walk C l n B hl hnr.1 hnr.2 (by omega) W).mono fun e W' ⟨he, hb⟩ => ?_
  subst he
  exact ⟨_, rfl, post_law hW' hb laidOut rfl rfl rfl Try.underlying4 (by rw [Try.params8]; decide +kernel)⟩

theorem over (C : Contracts) : Rows.checkBurstsRow.holds Try.pinned (OpenSpec.ofChange Rows.checkBurstsSpec) :=
  OpenClaim.holds_of_wide 8 Try.f8 rfl rfl rfl rfl rfl rfl rfl ⟨rfl, rfl, rfl, rfl, rfl⟩ rfl rfl rfl rfl rfl (by kernel_rfl) Try.func8 (by kernel_rfl)
    (of_decide_eq_true (by kernel_rfl)) (by unfold Func.isWrapper; first | (rw [if_pos (by decide +kernel)]; kernel_rfl) | (rw [if_neg (by decide +kernel)]; exact ⟨rfl, rfl⟩))
    (fun os started H enc _ => lifted C os started H enc)

theorem given (C : Contracts) : Rows.CheckBurstsSaid := over C
theorem proved : Rows.CheckBurstsSaid := given contracts
#print axioms proved
end Go.Proofs.Ytlfkbdfaacpjeaa.checkBursts
