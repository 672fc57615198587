/-
  Contracts of the program of layer 3: fits, Check.
-/
import Derived.Test.YtfcdkjhabdpijaaDoorEPVal
import Derived.Test.YtfcdkjhabdpijaaDoorKIns
import Derived.WalkMore
namespace Go.Proofs.YtfcdkjhabdpijaaDoor.E
open Go Go.RowKit Go.Proofs.YtfcdkjhabdpijaaDoor.B Go.Proofs.YtfcdkjhabdpijaaDoor.K
set_option linter.unusedVariables false

set_option maxHeartbeats 800000 in
theorem fits_any (o x nv na : Int) (w : World) :
    Calls Tryd.prog 88 #[.agg #[.int .i64 o, .int .i64 x], .int .i64 nv, .int .i64 na] w fun e w' => e = .returned (.bool (right (o, x) nv na)) ∧ Below w.heap.size w w' := by
  by_cases o1 : o = 1
  · subst o1
    rw [right_one]
    go_enter Tryd.func88, Tryd.ntmps88
    go_wp2_with fail
    refine (isValue_any x _).mono ?_
    rintro _ w1 ⟨rfl, rfl⟩
    go_wp2_with fail
    go_ret
    exact ⟨rfl, (Below.refl _ _).alloc (Nat.le_refl _) _⟩
  by_cases o2 : o = 2
  · subst o2
    rw [right_two]
    by_cases x0 : 0 ≤ x
    · have hd : decide (0 ≤ x ∧ x < nv) = decide (x < nv) := by (rw [Bool.eq_iff_iff]; simp [x0])
      rw [hd]; clear hd
      go_enter Tryd.func88, Tryd.ntmps88
      go_wp2_with fail
      go_ret
      exact ⟨rfl, (Below.refl _ _).alloc (Nat.le_refl _) _⟩
    · have hd : decide (0 ≤ x ∧ x < nv) = false := decide_eq_false (by omega)
      have b0 : decide (0 ≤ x) = false := decide_eq_false x0
      rw [hd]; clear hd
      go_enter Tryd.func88, Tryd.ntmps88
      go_wp2_with fail
      go_ret
      exact ⟨rfl, (Below.refl _ _).alloc (Nat.le_refl _) _⟩
  by_cases o3 : o = 3
  · subst o3
    rw [right_three]
    by_cases x0 : 0 ≤ x
    · have hd : decide (0 ≤ x ∧ x < na) = decide (x < na) := by (rw [Bool.eq_iff_iff]; simp [x0])
      rw [hd]; clear hd
      go_enter Tryd.func88, Tryd.ntmps88
      go_wp2_with fail
      go_ret
      exact ⟨rfl, (Below.refl _ _).alloc (Nat.le_refl _) _⟩
    · have hd : decide (0 ≤ x ∧ x < na) = false := decide_eq_false (by omega)
      have b0 : decide (0 ≤ x) = false := decide_eq_false x0
      rw [hd]; clear hd
      go_enter Tryd.func88, Tryd.ntmps88
      go_wp2_with fail
      go_ret
      exact ⟨rfl, (Below.refl _ _).alloc (Nat.le_refl _) _⟩
  rw [right_other o x nv na o1 o2 o3]
  have b1 : (o == 1) = false := by simp [o1]
  have b2 : (o == 2) = false := by simp [o2]
  have b3 : (o == 3) = false := by simp [o3]
  have hx : decide (x = 0) = (x == 0) := by (rw [Bool.eq_iff_iff]; simp)
  rw [hx]
  clear o1 o2 o3 hx
  go_enter Tryd.func88, Tryd.ntmps88
  go_wp2_with fail
  go_ret
  exact ⟨rfl, (Below.refl _ _).alloc (Nat.le_refl _) _⟩

set_option maxHeartbeats 1000000 in
theorem checkLoop_any (code : List In) (v : Value) (nv na : Int) (w : World) (hs : SlI w v code) (hl : code.length ≤ 31) (hv : ¬ nv < 0) (ha : ¬ na < 0) :
    Calls Tryd.prog 77 #[v, .int .i64 nv, .int .i64 na] w fun e w' => e = .returned (.tuple #[.int .i64 (chk nv na code 0 0).1, .int .i64 (chk nv na code 0 0).2]) ∧ Below w.heap.size w w' := by
  have HS := Lib.hid hs
  obtain ⟨a, cap, rfl, -⟩ := hs
  have HL := Lib.hid hl
  obtain ⟨n, hN⟩ : ∃ n, code.length = n := ⟨_, rfl⟩
  rw [hN] at HL hl
  have HN := Lib.hid hN
  rw [hN] at HS ⊢
  have hl' : ¬ 31 < (n : Int) := by omega
  have bv : decide (nv < 0) = false := decide_eq_false hv
  have ba : decide (na < 0) = false := decide_eq_false ha
  clear hN hl hv ha
  go_enter Tryd.func77, Tryd.ntmps77
  go_wp2_with fail
  go_step3
  go_wp2_with fail
  go_step3
  go_wp2_with fail
  go_loopw [8, 9, 10, 11, 12] (fun k r e _ _ wr => ∃ (R : Int) (K : Nat), r = .int .i64 R ∧ k = .int .i64 (K : Int) ∧ e = .int .i64 0 ∧ K ≤ n ∧ 0 ≤ R ∧ R ≤ K ∧ Hid (chk nv na (code.drop K) K R = chk nv na code 0 0) ∧ Hid (Below w.heap.size w wr)) (fun k _ _ _ _ _ => n - (intOf k).toNat)
  case atStart => exact ⟨0, 0, rfl, rfl, rfl, Nat.zero_le _, by omega, by omega, rfl, Below.refl _ _⟩
  case round =>
    obtain ⟨R, K, rfl, rfl, rfl, hK, hR0, hR1, HD, HBE⟩ := hrel
    by_cases hlt : K < n
    · obtain ⟨i, hi⟩ : ∃ i, code[K]? = some i := ⟨_, List.getElem?_eq_getElem (by rw [HN.out]; exact hlt)⟩
      obtain ⟨b, off, rfl, h1, h2⟩ := (HS.out.below HBE.out).at hi
      obtain ⟨T, hT⟩ : ∃ T, takes i.1 = T := ⟨_, rfl⟩
      have hr := takes_range i.1
      have hd := chk_at nv na code K i hi R
      rw [hT] at hr hd
      rw [HD.out] at hd
      have htk : tk i.1 = if 0 ≤ T then T else 0 := by unfold tk; rw [hT]
      have hkn : kn i.1 = decide (0 ≤ T) := by unfold kn; rw [hT]
      have HTK := Lib.hid htk
      have HKN := Lib.hid hkn
      have HDD := Lib.hid hd
      have hwK : IntKind.i64.wrap ((K : Int) + 1) = (K : Int) + 1 := IntWalk.i64_in _ (by have := HL.out; omega)
      have hltI : (K : Int) < (n : Int) := by omega
      obtain ⟨o, x⟩ := i
      clear hT hd htk hkn hi HD
      by_cases hneg : T < 0
      · have hd2 := HDD.out
        rw [if_pos hneg] at hd2
        have HD2 := Lib.hid hd2; clear hd2
        have HT := Lib.hid (fun W => (show Calls Tryd.prog 87 #[.int .i64 o] W fun e w' => e = .returned (.tuple #[.int .i64 0, .bool false]) ∧ W = w' by have h := takes_any o W; rw [HTK.out, HKN.out, if_neg (by omega), decide_eq_false (by omega)] at h; exact h))
        clear HDD HTK HKN
        go_wp2_with fail
        refine (HT.out _).mono ?_
        rintro _ w1 ⟨rfl, rfl⟩
        go_wp2_with fail
        try rw [Exit.noGoto_ret]
        go_ret2
        exact ⟨ret_pair HD2.out.symm, HBE.out⟩
      have hn0 : 0 ≤ T := by omega
      have HT := Lib.hid (fun W => (show Calls Tryd.prog 87 #[.int .i64 o] W fun e w' => e = .returned (.tuple #[.int .i64 T, .bool true]) ∧ W = w' by have h := takes_any o W; rw [HTK.out, HKN.out, if_pos hn0, decide_eq_true hn0] at h; exact h))
      clear HTK HKN
      go_wp2_with fail
      refine (HT.out _).mono ?_
      rintro _ w1 ⟨rfl, rfl⟩
      cases hrt : right (o, x) nv na with
      | false =>
        have hd2 := HDD.out
        rw [if_neg (by omega), hrt, if_pos rfl] at hd2
        have HD2 := Lib.hid hd2
        have HF := Lib.hid (fun W => (show Calls Tryd.prog 88 #[.agg #[.int .i64 o, .int .i64 x], .int .i64 nv, .int .i64 na] W fun e w' => e = .returned (.bool false) ∧ Below W.heap.size W w' by rw [← hrt]; exact fits_any o x nv na W))
        clear hd2 hrt HDD
        go_wp2_with fail
        refine (HF.out _).mono ?_
        rintro _ w2 ⟨rfl, hb2⟩
        have HBE2 := Lib.hid (HBE.out.trans (hb2.mono HBE.out.size))
        clear hb2
        go_wp2_with fail
        try rw [Exit.noGoto_ret]
        go_ret2
        exact ⟨ret_pair HD2.out.symm, HBE2.out⟩
      | true =>
        have hd2 := HDD.out
        rw [if_neg (by omega), hrt, if_neg (by decide)] at hd2
        have HD2 := Lib.hid hd2
        have HF := Lib.hid (fun W => (show Calls Tryd.prog 88 #[.agg #[.int .i64 o, .int .i64 x], .int .i64 nv, .int .i64 na] W fun e w' => e = .returned (.bool true) ∧ Below W.heap.size W w' by rw [← hrt]; exact fits_any o x nv na W))
        clear hd2 hrt HDD
        go_wp2_with fail
        refine (HF.out _).mono ?_
        rintro _ w2 ⟨rfl, hb2⟩
        have HBE2 := Lib.hid (HBE.out.trans (hb2.mono HBE.out.size))
        clear hb2
        by_cases hsh : R < T
        · have hd2 := HD2.out
          rw [if_pos hsh] at hd2
          have HD3 := Lib.hid hd2; clear hd2
          go_wp2_with fail
          try rw [Exit.noGoto_ret]
          go_ret2
          exact ⟨ret_pair HD3.out.symm, HBE2.out⟩
        · have hd2 := HD2.out
          rw [if_neg hsh] at hd2
          have HD3 := Lib.hid hd2; clear hd2
          have hw1 : IntKind.i64.wrap (1 - T) = 1 - T := IntWalk.i64_in _ (by omega)
          have hw2 : IntKind.i64.wrap (R + (1 - T)) = R - T + 1 := by rw [show R + (1 - T) = R - T + 1 by omega]; exact IntWalk.i64_in _ (by have := HL.out; omega)
          go_wp2_with fail
          go_roundw
          case rel => exact ⟨R - T + 1, K + 1, by go_num, by go_num, rfl, by omega, by omega, by omega, HD3.out.symm, HBE2.out⟩
          case measure => simp [intOf]; omega
    · have hend : chk nv na code 0 0 = if R = 1 then (0, 0) else ((K : Int), 6) := by
        rw [← HD.out, List.drop_eq_nil_of_le (by rw [HN.out]; omega)]; rfl
      have hltI : ¬ (K : Int) < (n : Int) := by omega
      have hKn : K = n := by omega
      by_cases hR : R = 1
      · rw [if_pos hR] at hend
        have HE := Lib.hid hend; clear hend
        have bR : (R == 1) = true := by simp [hR]
        have bR' : (R != 1) = false := by simp [hR]
        clear hR hKn
        go_wp2_with fail
        try rw [Exit.noGoto_ret]
        go_ret2
        exact ⟨ret_pair HE.out.symm, HBE.out⟩
      · rw [if_neg hR] at hend
        have HE := Lib.hid hend; clear hend
        have bR : (R == 1) = false := by simp [hR]
        have bR' : (R != 1) = true := by simp [hR]
        clear hR hKn
        go_wp2_with fail
        try rw [Exit.noGoto_ret]
        go_ret2
        exact ⟨ret_pair HE.out.symm, HBE.out⟩

set_option maxHeartbeats 400000 in
theorem check_any (code : List In) (v : Value) (nv na : Int) (w : World) (hs : SlI w v code) (hl : code.length ≤ 9223372036854775807) :
    Calls Tryd.prog 77 #[v, .int .i64 nv, .int .i64 na] w fun e w' => e = .returned (.tuple #[.int .i64 (check code nv na).1, .int .i64 (check code nv na).2]) ∧ Below w.heap.size w w' := by
  by_cases hv : nv < 0
  · have hc : check code nv na = (0, 2) := by unfold check; rw [if_pos (Or.inl hv)]
    rw [hc]
    obtain ⟨a, cap, rfl, -⟩ := hs
    have bv : decide (nv < 0) = true := decide_eq_true hv
    clear hc hl hv
    go_enter Tryd.func77, Tryd.ntmps77
    go_wp2_with fail
    go_step3
    go_wp2_with fail
    try rw [Exit.noGoto_ret]
    go_ret2
    exact ⟨rfl, Below.refl _ _⟩
  by_cases ha : na < 0
  · have hc : check code nv na = (0, 2) := by unfold check; rw [if_pos (Or.inr ha)]
    rw [hc]
    obtain ⟨a, cap, rfl, -⟩ := hs
    have bv : decide (nv < 0) = false := decide_eq_false hv
    have ba : decide (na < 0) = true := decide_eq_true ha
    clear hc hl hv ha
    go_enter Tryd.func77, Tryd.ntmps77
    go_wp2_with fail
    go_step3
    go_wp2_with fail
    try rw [Exit.noGoto_ret]
    go_ret2
    exact ⟨rfl, Below.refl _ _⟩
  by_cases hb : 31 < code.length
  · have hc : check code nv na = (0, 4) := by unfold check; rw [if_neg (by omega), if_pos hb]
    rw [hc]
    obtain ⟨a, cap, rfl, -⟩ := hs
    have hbI : 31 < (code.length : Int) := by omega
    have bv : decide (nv < 0) = false := decide_eq_false hv
    have ba : decide (na < 0) = false := decide_eq_false ha
    clear hc hl hb hv ha
    go_enter Tryd.func77, Tryd.ntmps77
    go_wp2_with fail
    go_step3
    go_wp2_with fail
    try rw [Exit.noGoto_ret]
    go_ret2
    exact ⟨rfl, Below.refl _ _⟩
  · have hc : check code nv na = chk nv na code 0 0 := by unfold check; rw [if_neg (by omega), if_neg hb]
    rw [hc]
    exact checkLoop_any code v nv na w hs (by omega) hv ha
end Go.Proofs.YtfcdkjhabdpijaaDoor.E
