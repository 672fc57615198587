/-
  Contract of the reference of layer 3: Check.
-/
import Derived.Test.YtfcdkjhabdpijaaDoorEVal
import Derived.Test.YtfcdkjhabdpijaaDoorKIns
import Derived.Deep.DeepCutAuto
namespace Go.Proofs.YtfcdkjhabdpijaaDoor.E
open Go Go.RowKit Go.Proofs.YtfcdkjhabdpijaaDoor.B Go.Proofs.YtfcdkjhabdpijaaDoor.K
set_option linter.unusedVariables false

set_option maxHeartbeats 1000000 in
theorem refCheckLoop_any (code : List In) (v : Value) (nv na : Int) (w : World) (hs : SlI w v code) (hl : code.length ≤ 31) (hv : ¬ nv < 0) (ha : ¬ na < 0) :
    Calls Tryd.prog 81 #[v, .int .i64 nv, .int .i64 na] w fun e w' => e = .returned (.tuple #[.int .i64 (chk nv na code 0 0).1, .int .i64 (chk nv na code 0 0).2]) ∧ Below w.heap.size w w' := by
  have HS := Lib.hid hs
  obtain ⟨a, cap, rfl, -⟩ := hs
  have HL := Lib.hid hl
  obtain ⟨n, hN⟩ : ∃ n, code.length = n := ⟨_, rfl⟩
  rw [hN] at HL hl
  have HN := Lib.hid hN
  rw [hN] at HS ⊢
  have hl' : ¬ 31 < (n : Int) := by omega
  clear hN hl
  go_enter Tryd.func81, Tryd.ntmps81
  go_wp2_with fail
  go_loopw [8, 9, 10, 11] (fun r k _ _ wr => ∃ (R : Int) (K : Nat), r = .int .i64 R ∧ k = .int .i64 (K : Int) ∧ K ≤ n ∧ 0 ≤ R ∧ R ≤ K ∧ Hid (chk nv na (code.drop K) K R = chk nv na code 0 0) ∧ Hid (Below w.heap.size w wr)) (fun _ k _ _ _ => n - (intOf k).toNat)
  case atStart => exact ⟨0, 0, rfl, rfl, Nat.zero_le _, by omega, by omega, rfl, Below.refl _ _⟩
  case round =>
    obtain ⟨R, K, rfl, rfl, hK, hR0, hR1, HD, HBE⟩ := hrel
    by_cases hlt : K < n
    · obtain ⟨i, hi⟩ : ∃ i, code[K]? = some i := ⟨_, List.getElem?_eq_getElem (by rw [HN.out]; exact hlt)⟩
      obtain ⟨a', cap', e, hc⟩ := HS.out.below HBE.out
      obtain ⟨b, off, rfl, h1, h2⟩ := hc K i hi
      obtain ⟨T, hT⟩ : ∃ T, takes i.1 = T := ⟨_, rfl⟩
      have hr := takes_range i.1
      have hd := chk_at nv na code K i hi R
      have htk := fun W => refTakes_any i.1 W
      rw [hT] at hr hd htk
      rw [HD.out] at hd
      have HTK := Lib.hid htk
      have HDD := Lib.hid hd
      have hwK : IntKind.i64.wrap ((K : Int) + 1) = (K : Int) + 1 := IntWalk.i64_in _ (by have := HL.out; omega)
      obtain ⟨o, x⟩ := i
      clear hT hd htk hi hc HD
      go_wp2_with fail
      refine (HTK.out _).mono ?_
      rintro _ w1 ⟨rfl, hb1⟩
      obtain ⟨c0, c1, hlt1, hbw⟩ := pair_after hb1
      have HBE1 := Lib.hid (HBE.out.trans (hbw.mono HBE.out.size))
      clear hb1 hbw h1 h2
      by_cases hneg : T < 0
      · have hd2 := HDD.out
        rw [if_pos hneg] at hd2
        have HD2 := Lib.hid hd2; clear hd2
        go_wp2_with fail
        go_ret2
        exact ⟨ret_pair HD2.out.symm, HBE1.out⟩
      have hn0 : 0 ≤ T := by omega
      have hw1 : IntKind.i64.wrap (R - T) = R - T := IntWalk.i64_in _ (by have := HL.out; omega)
      have hw2 : IntKind.i64.wrap (R - T + 1) = R - T + 1 := IntWalk.i64_in _ (by have := HL.out; omega)
      by_cases o1 : o = 1
      · subst o1
        have hrt := right_one x nv na
        cases hV : isVal x with
        | false =>
          rw [hV] at hrt
          have HRT := Lib.hid hrt; clear hrt
          have HV := Lib.hid (fun W => (show Calls Tryd.prog 32 #[.int .i64 x] W fun e w' => e = .returned (.bool false) ∧ W = w' by rw [← hV]; exact refValue_any x W))
          clear hV
          have hd2 := HDD.out
          rw [if_neg (by omega), HRT.out, if_pos rfl] at hd2
          have HD2 := Lib.hid hd2; clear hd2
          go_wp2_with (go_at_call 32; refine (HV.out _).mono ?_; rintro _ wv ⟨rfl, rfl⟩)
          go_ret2
          exact ⟨ret_pair HD2.out.symm, HBE1.out⟩
        | true =>
          rw [hV] at hrt
          have HRT := Lib.hid hrt; clear hrt
          have HV := Lib.hid (fun W => (show Calls Tryd.prog 32 #[.int .i64 x] W fun e w' => e = .returned (.bool true) ∧ W = w' by rw [← hV]; exact refValue_any x W))
          clear hV
          have hd2 := HDD.out
          rw [if_neg (by omega), HRT.out, if_neg (by decide)] at hd2
          have HDT := Lib.hid hd2; clear hd2
          go_wp2_with (go_at_call 32; refine (HV.out _).mono ?_; rintro _ wv ⟨rfl, rfl⟩)
          refine (HTK.out _).mono ?_
          rintro _ w2 ⟨rfl, hb2⟩
          obtain ⟨d0, d1, hlt2⟩ := pair_next c0 c1 hlt1 hb2
          have HBE2 := Lib.hid (HBE1.out.trans (hb2.mono HBE1.out.size))
          clear hb2
          by_cases hsh : R < T
          · have hd2 := HDT.out
            rw [if_pos hsh] at hd2
            have HD2 := Lib.hid hd2; clear hd2
            go_wp2_with fail
            go_ret2
            exact ⟨ret_pair HD2.out.symm, HBE2.out⟩
          · have hd2 := HDT.out
            rw [if_neg hsh] at hd2
            have HD2 := Lib.hid hd2; clear hd2
            go_wp2_with fail
            refine (HTK.out _).mono ?_
            rintro _ w3 ⟨rfl, hb3⟩
            have HBE3 := Lib.hid (HBE2.out.trans (hb3.mono HBE2.out.size))
            clear hb3
            go_wp2_with fail
            go_roundw
            case rel => exact ⟨R - T + 1, K + 1, by go_num, by go_num, by omega, by omega, by omega, HD2.out.symm, HBE3.out⟩
            case measure => simp [intOf]; omega
      by_cases o2 : o = 2
      · subst o2
        have hrt := right_two x nv na
        by_cases x0 : 0 ≤ x
        · by_cases x1 : x < nv
          · rw [decide_eq_true ⟨x0, x1⟩] at hrt
            have HRT := Lib.hid hrt; clear hrt
            have hd2 := HDD.out
            rw [if_neg (by omega), HRT.out, if_neg (by decide)] at hd2
            have HDT := Lib.hid hd2; clear hd2
            go_wp2_with fail
            refine (HTK.out _).mono ?_
            rintro _ w2 ⟨rfl, hb2⟩
            obtain ⟨d0, d1, hlt2⟩ := pair_next c0 c1 hlt1 hb2
            have HBE2 := Lib.hid (HBE1.out.trans (hb2.mono HBE1.out.size))
            clear hb2
            by_cases hsh : R < T
            · have hd2 := HDT.out
              rw [if_pos hsh] at hd2
              have HD2 := Lib.hid hd2; clear hd2
              go_wp2_with fail
              go_ret2
              exact ⟨ret_pair HD2.out.symm, HBE2.out⟩
            · have hd2 := HDT.out
              rw [if_neg hsh] at hd2
              have HD2 := Lib.hid hd2; clear hd2
              go_wp2_with fail
              refine (HTK.out _).mono ?_
              rintro _ w3 ⟨rfl, hb3⟩
              have HBE3 := Lib.hid (HBE2.out.trans (hb3.mono HBE2.out.size))
              clear hb3
              go_wp2_with fail
              go_roundw
              case rel => exact ⟨R - T + 1, K + 1, by go_num, by go_num, by omega, by omega, by omega, HD2.out.symm, HBE3.out⟩
              case measure => simp [intOf]; omega
          · rw [decide_eq_false (by omega)] at hrt
            have HRT := Lib.hid hrt; clear hrt
            have bx1 : decide (x < nv) = false := decide_eq_false x1
            have hd2 := HDD.out
            rw [if_neg (by omega), HRT.out, if_pos rfl] at hd2
            have HD2 := Lib.hid hd2; clear hd2
            go_wp2_with fail
            go_ret2
            exact ⟨ret_pair HD2.out.symm, HBE1.out⟩
        · rw [decide_eq_false (by omega)] at hrt
          have HRT := Lib.hid hrt; clear hrt
          have hd2 := HDD.out
          rw [if_neg (by omega), HRT.out, if_pos rfl] at hd2
          have HD2 := Lib.hid hd2; clear hd2
          go_wp2_with fail
          go_ret2
          exact ⟨ret_pair HD2.out.symm, HBE1.out⟩
      by_cases o3 : o = 3
      · subst o3
        have hrt := right_three x nv na
        by_cases x0 : 0 ≤ x
        · by_cases x1 : x < na
          · rw [decide_eq_true ⟨x0, x1⟩] at hrt
            have HRT := Lib.hid hrt; clear hrt
            have hd2 := HDD.out
            rw [if_neg (by omega), HRT.out, if_neg (by decide)] at hd2
            have HDT := Lib.hid hd2; clear hd2
            go_wp2_with fail
            refine (HTK.out _).mono ?_
            rintro _ w2 ⟨rfl, hb2⟩
            obtain ⟨d0, d1, hlt2⟩ := pair_next c0 c1 hlt1 hb2
            have HBE2 := Lib.hid (HBE1.out.trans (hb2.mono HBE1.out.size))
            clear hb2
            by_cases hsh : R < T
            · have hd2 := HDT.out
              rw [if_pos hsh] at hd2
              have HD2 := Lib.hid hd2; clear hd2
              go_wp2_with fail
              go_ret2
              exact ⟨ret_pair HD2.out.symm, HBE2.out⟩
            · have hd2 := HDT.out
              rw [if_neg hsh] at hd2
              have HD2 := Lib.hid hd2; clear hd2
              go_wp2_with fail
              refine (HTK.out _).mono ?_
              rintro _ w3 ⟨rfl, hb3⟩
              have HBE3 := Lib.hid (HBE2.out.trans (hb3.mono HBE2.out.size))
              clear hb3
              go_wp2_with fail
              go_roundw
              case rel => exact ⟨R - T + 1, K + 1, by go_num, by go_num, by omega, by omega, by omega, HD2.out.symm, HBE3.out⟩
              case measure => simp [intOf]; omega
          · rw [decide_eq_false (by omega)] at hrt
            have HRT := Lib.hid hrt; clear hrt
            have bx1 : decide (x < na) = false := decide_eq_false x1
            have hd2 := HDD.out
            rw [if_neg (by omega), HRT.out, if_pos rfl] at hd2
            have HD2 := Lib.hid hd2; clear hd2
            go_wp2_with fail
            go_ret2
            exact ⟨ret_pair HD2.out.symm, HBE1.out⟩
        · rw [decide_eq_false (by omega)] at hrt
          have HRT := Lib.hid hrt; clear hrt
          have hd2 := HDD.out
          rw [if_neg (by omega), HRT.out, if_pos rfl] at hd2
          have HD2 := Lib.hid hd2; clear hd2
          go_wp2_with fail
          go_ret2
          exact ⟨ret_pair HD2.out.symm, HBE1.out⟩
      have hrt := right_other o x nv na o1 o2 o3
      have b1 : (o == 1) = false := by simp [o1]
      have b2 : (o == 2) = false := by simp [o2]
      have b3 : (o == 3) = false := by simp [o3]
      clear o1 o2 o3
      by_cases x0 : x = 0
      · subst x0
        rw [decide_eq_true rfl] at hrt
        have HRT := Lib.hid hrt; clear hrt
        have hd2 := HDD.out
        rw [if_neg (by omega), HRT.out, if_neg (by decide)] at hd2
        have HDT := Lib.hid hd2; clear hd2
        go_wp2_with fail
        refine (HTK.out _).mono ?_
        rintro _ w2 ⟨rfl, hb2⟩
        obtain ⟨d0, d1, hlt2⟩ := pair_next c0 c1 hlt1 hb2
        have HBE2 := Lib.hid (HBE1.out.trans (hb2.mono HBE1.out.size))
        clear hb2
        by_cases hsh : R < T
        · have hd2 := HDT.out
          rw [if_pos hsh] at hd2
          have HD2 := Lib.hid hd2; clear hd2
          go_wp2_with fail
          go_ret2
          exact ⟨ret_pair HD2.out.symm, HBE2.out⟩
        · have hd2 := HDT.out
          rw [if_neg hsh] at hd2
          have HD2 := Lib.hid hd2; clear hd2
          go_wp2_with fail
          refine (HTK.out _).mono ?_
          rintro _ w3 ⟨rfl, hb3⟩
          have HBE3 := Lib.hid (HBE2.out.trans (hb3.mono HBE2.out.size))
          clear hb3
          go_wp2_with fail
          go_roundw
          case rel => exact ⟨R - T + 1, K + 1, by go_num, by go_num, by omega, by omega, by omega, HD2.out.symm, HBE3.out⟩
          case measure => simp [intOf]; omega
      · rw [decide_eq_false x0] at hrt
        have HRT := Lib.hid hrt; clear hrt
        have bx : (x == 0) = false := by simp [x0]
        clear x0
        have hd2 := HDD.out
        rw [if_neg (by omega), HRT.out, if_pos rfl] at hd2
        have HD2 := Lib.hid hd2; clear hd2
        go_wp2_with fail
        go_ret2
        exact ⟨ret_pair HD2.out.symm, HBE1.out⟩
    · have hend : chk nv na code 0 0 = if R = 1 then (0, 0) else ((K : Int), 6) := by
        rw [← HD.out, List.drop_eq_nil_of_le (by rw [HN.out]; omega)]; rfl
      have hltI : ¬ (K : Int) < (n : Int) := by omega
      have hKn : K = n := by omega
      by_cases hR : R = 1
      · rw [if_pos hR] at hend
        have HE := Lib.hid hend; clear hend
        have bR : (R == 1) = true := by simp [hR]
        have bR' : (R != 1) = false := by simp [hR]
        clear hR hKn
        go_wp2_with fail
        go_ret2
        exact ⟨ret_pair HE.out.symm, HBE.out⟩
      · rw [if_neg hR, hKn] at hend
        have HE := Lib.hid hend; clear hend
        have bR : (R == 1) = false := by simp [hR]
        have bR' : (R != 1) = true := by simp [hR]
        clear hR hKn
        go_wp2_with fail
        go_ret2
        exact ⟨ret_pair HE.out.symm, HBE.out⟩

theorem refCheck_any (code : List In) (v : Value) (nv na : Int) (w : World) (hs : SlI w v code) (hl : code.length ≤ 9223372036854775807) :
    Calls Tryd.prog 81 #[v, .int .i64 nv, .int .i64 na] w fun e w' => e = .returned (.tuple #[.int .i64 (check code nv na).1, .int .i64 (check code nv na).2]) ∧ Below w.heap.size w w' := by
  by_cases hv : nv < 0
  · have hc : check code nv na = (0, 2) := by unfold check; rw [if_pos (Or.inl hv)]
    rw [hc]
    obtain ⟨a, cap, rfl, -⟩ := hs
    clear hc hl
    go_enter Tryd.func81, Tryd.ntmps81
    go_wp2_with fail
    go_ret2
    exact ⟨rfl, Below.refl _ _⟩
  by_cases ha : na < 0
  · have hc : check code nv na = (0, 2) := by unfold check; rw [if_pos (Or.inr ha)]
    rw [hc]
    obtain ⟨a, cap, rfl, -⟩ := hs
    clear hc hl
    go_enter Tryd.func81, Tryd.ntmps81
    go_wp2_with fail
    go_ret2
    exact ⟨rfl, Below.refl _ _⟩
  by_cases hb : 31 < code.length
  · have hc : check code nv na = (0, 4) := by unfold check; rw [if_neg (by omega), if_pos hb]
    rw [hc]
    obtain ⟨a, cap, rfl, -⟩ := hs
    have hbI : 31 < (code.length : Int) := by omega
    clear hc hl hb
    go_enter Tryd.func81, Tryd.ntmps81
    go_wp2_with fail
    go_ret2
    exact ⟨rfl, Below.refl _ _⟩
  · have hc : check code nv na = chk nv na code 0 0 := by unfold check; rw [if_neg (by omega), if_neg hb]
    rw [hc]
    exact refCheckLoop_any code v nv na w hs (by omega) hv ha
end Go.Proofs.YtfcdkjhabdpijaaDoor.E
