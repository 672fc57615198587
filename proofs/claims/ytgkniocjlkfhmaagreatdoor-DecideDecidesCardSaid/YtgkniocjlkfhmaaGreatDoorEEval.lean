/-
  Contract of the reference of layer 3: Eval.
-/
import Derived.Test.YtgkniocjlkfhmaaGreatDoorSVe
import Derived.Deep.RegionHeld3
namespace Go.Proofs.YtgkniocjlkfhmaaGreatDoor.E
open Go Go.RowKit Go.Proofs.YtgkniocjlkfhmaaGreatDoor.B Go.Proofs.YtgkniocjlkfhmaaGreatDoor.K
set_option linter.unusedVariables false
set_option maxRecDepth 100000

set_option maxHeartbeats 4000000 in
set_option maxRecDepth 100000 in
theorem refEval_any (code : List In) (vs ar : List Int) (v v1 v2 : Value) (w : World) (hs : SlI w v code) (hs1 : Sl w v1 (vs.map (Value.int .i64))) (hs2 : Sl w v2 (ar.map (Value.int .i64)))
    (hl : code.length ≤ 9223372036854775807) (hl1 : vs.length ≤ 9223372036854775807) (hl2 : ar.length ≤ 9223372036854775807) :
    Calls Tryz.prog 56 #[v, v1, v2] w fun e w' => e = .returned (.tuple #[.int .i64 (eval code vs ar).1, .int .i64 (eval code vs ar).2]) ∧ Below w.heap.size w w' := by
  obtain ⟨i0, hi, hz0, hz1, hz2⟩ := info_parts Tryz.info3
  have HS := Lib.hid hs
  have HS1 := Lib.hid hs1
  have HS2 := Lib.hid hs2
  obtain ⟨a, cap, rfl, -⟩ := hs
  obtain ⟨a1, cap1, rfl, -⟩ := hs1
  obtain ⟨a2, cap2, rfl, -⟩ := hs2
  rw [List.length_map] at HS1 ⊢
  rw [List.length_map] at HS2 ⊢
  have hck := fun W (h : Below w.heap.size w W) => refCheck_any code (.slice a code.length cap) vs.length ar.length W (HS.out.below h) hl
  have HL1 := Lib.hid hl1; clear hl1
  have HL2 := Lib.hid hl2; clear hl2
  obtain ⟨⟨p, er⟩, hE⟩ : ∃ t, check code vs.length ar.length = t := ⟨_, rfl⟩
  rw [hE] at hck
  have her : (check code vs.length ar.length).2 = er := by rw [hE]
  have HER := Lib.hid her
  obtain ⟨n, hN⟩ : ∃ n, code.length = n := ⟨_, rfl⟩
  obtain ⟨n1, hN1⟩ : ∃ n, vs.length = n := ⟨_, rfl⟩
  obtain ⟨n2, hN2⟩ : ∃ n, ar.length = n := ⟨_, rfl⟩
  rw [hN] at HS hck ⊢
  rw [hN1] at HS1 HL1 hck ⊢
  rw [hN2] at HS2 HL2 hck ⊢
  have HCK := Lib.hid hck
  have HN := Lib.hid hN
  have HN1 := Lib.hid hN1
  have HN2 := Lib.hid hN2
  clear hN hN1 hN2 hck hE her hl
  by_cases he : er = 0
  rotate_left
  focus
    have hev := eval_bad code vs ar (by rw [HER.out]; exact he)
    rw [HER.out] at hev
    rw [hev]
    have be : (er != 0) = true := by simp [he]
    clear he hev
    go_enter Tryz.func56, Tryz.ntmps56
    go_wp2_with (go_at_call 105; refine (HCK.out _ (Below.refl _ _)).mono ?_; rintro _ w1 ⟨rfl, hb1⟩)
    go_ret2
    exact ⟨rfl, hb1⟩
  subst he
  have hok := check_ok code _ _ HER.out
  have HOK := Lib.hid hok; clear hok
  obtain ⟨ev, hEV⟩ : ∃ ev, eval code vs ar = ev := ⟨_, rfl⟩
  rw [hEV]
  have HEV := Lib.hid hEV; clear hEV
  go_enter Tryz.func56, Tryz.ntmps56
  go_wp2_with (go_at_call 105; refine (HCK.out _ (Below.refl _ _)).mono ?_; rintro _ w1 ⟨rfl, hb1⟩)
  have HB1 := Lib.hid hb1; clear hb1
  go_loop [10] (fun k => ∃ (K : Nat), k = .int .i64 (K : Int) ∧ K ≤ n1 ∧ Hid ((vs.take K).all isVal = true)) (fun k => n1 - (intOf k).toNat)
  case atStart => exact ⟨0, rfl, Nat.zero_le _, rfl⟩
  case round =>
    obtain ⟨K, rfl, hK, HA⟩ := hrel
    by_cases hlt : K < n1
    · obtain ⟨x, hx⟩ : ∃ x, vs[K]? = some x := ⟨_, List.getElem?_eq_getElem (by rw [HN1.out]; exact hlt)⟩
      obtain ⟨b, off, rfl, h1⟩ := (HS1.out.below HB1.out).at (map_at vs K x hx)
      have hwK : IntKind.i64.wrap ((K : Int) + 1) = (K : Int) + 1 := IntWalk.i64_in _ (by have := HL1.out; omega)
      have hltI : (K : Int) < (n1 : Int) := by omega
      cases hV : isVal x with
      | false =>
        have hev : ev = (0, 2) := by rw [← HEV.out]; exact eval_none code vs ar HER.out (by rw [all_not vs K x hx hV]; simp)
        have HE := Lib.hid hev
        have HV := Lib.hid (fun W => (show Calls Tryz.prog 32 #[.int .i64 x] W fun e w' => e = .returned (.bool false) ∧ W = w' by rw [← hV]; exact refValue_any x W))
        clear hV hx hev
        go_wp2_with (go_at_call 32; refine (HV.out _).mono ?_; rintro _ wv ⟨rfl, rfl⟩)
        go_ret2
        exact ⟨ret_pair HE.out.symm, HB1.out⟩
      | true =>
        have hall := all_at vs K x hx
        rw [HA.out, hV] at hall
        have HALL := Lib.hid hall
        have HV := Lib.hid (fun W => (show Calls Tryz.prog 32 #[.int .i64 x] W fun e w' => e = .returned (.bool true) ∧ W = w' by rw [← hV]; exact refValue_any x W))
        clear hV hx hall
        go_wp2_with (go_at_call 32; refine (HV.out _).mono ?_; rintro _ wv ⟨rfl, rfl⟩)
        go_round
        case rel => exact ⟨K + 1, by go_num, by omega, HALL.out⟩
        case measure => simp [intOf]; omega
    · have hall : vs.all isVal = true := by rw [← HA.out, List.take_of_length_le (by rw [HN1.out]; omega)]
      have HALLV := Lib.hid hall
      have hltI : ¬ (K : Int) < (n1 : Int) := by omega
      clear hall HA
      go_wp2_with fail
      go_loop [11] (fun k => ∃ (K : Nat), k = .int .i64 (K : Int) ∧ K ≤ n2 ∧ Hid ((ar.take K).all isVal = true)) (fun k => n2 - (intOf k).toNat)
      case atStart => exact ⟨0, rfl, Nat.zero_le _, rfl⟩
      case round =>
        obtain ⟨K, rfl, hK, HA⟩ := hrel
        by_cases hlt : K < n2
        · obtain ⟨x, hx⟩ : ∃ x, ar[K]? = some x := ⟨_, List.getElem?_eq_getElem (by rw [HN2.out]; exact hlt)⟩
          obtain ⟨b, off, rfl, h1⟩ := (HS2.out.below HB1.out).at (map_at ar K x hx)
          have hwK : IntKind.i64.wrap ((K : Int) + 1) = (K : Int) + 1 := IntWalk.i64_in _ (by have := HL2.out; omega)
          have hltI : (K : Int) < (n2 : Int) := by omega
          cases hV : isVal x with
          | false =>
            have hev : ev = (0, 2) := by rw [← HEV.out]; exact eval_none code vs ar HER.out (by rw [HALLV.out, all_not ar K x hx hV]; rfl)
            have HE := Lib.hid hev
            have HV := Lib.hid (fun W => (show Calls Tryz.prog 32 #[.int .i64 x] W fun e w' => e = .returned (.bool false) ∧ W = w' by rw [← hV]; exact refValue_any x W))
            clear hV hx hev
            go_wp2_with (go_at_call 32; refine (HV.out _).mono ?_; rintro _ wv ⟨rfl, rfl⟩)
            go_ret2
            exact ⟨ret_pair HE.out.symm, HB1.out⟩
          | true =>
            have hall := all_at ar K x hx
            rw [HA.out, hV] at hall
            have HALL := Lib.hid hall
            have HV := Lib.hid (fun W => (show Calls Tryz.prog 32 #[.int .i64 x] W fun e w' => e = .returned (.bool true) ∧ W = w' by rw [← hV]; exact refValue_any x W))
            clear hV hx hall
            go_wp2_with (go_at_call 32; refine (HV.out _).mono ?_; rintro _ wv ⟨rfl, rfl⟩)
            go_round
            case rel => exact ⟨K + 1, by go_num, by omega, HALL.out⟩
            case measure => simp [intOf]; omega
        · have hall : ar.all isVal = true := by rw [← HA.out, List.take_of_length_le (by rw [HN2.out]; omega)]
          have HALLA := Lib.hid hall
          have hltI : ¬ (K : Int) < (n2 : Int) := by omega
          clear hall HA
          go_wp2_with fail
          go_loopw [12, 13, 14, 15, 16, 17] (fun row k _ _ _ _ wr => ∃ (st : List Int) (K : Nat), k = .int .i64 (K : Int) ∧ K ≤ n ∧ wr.ownsRow w.heap.size 3 1 row st.length (rowOf st) ∧ Hid (crun vs.length ar.length (code.drop K) st.length = .ok 1) ∧ Hid (run vs ar (code.drop K) st = run vs ar code []) ∧ Hid (∀ x ∈ st, isVal x = true) ∧ Hid (st.length ≤ K) ∧ Hid (Below w.heap.size w wr)) (fun _ k _ _ _ _ _ => n - (intOf k).toNat)
          case atStart => exact ⟨[], 0, rfl, Nat.zero_le _, World.ownsRow_nil _ _ _ _, HOK.out.2.2.2, rfl, (fun x hx => by cases hx), Nat.le_refl 0, HB1.out⟩
          case round =>
            obtain ⟨st, K, rfl, hK, hown, HC, HR, HST, HSL, HBE⟩ := hrel
            have HOWN := Lib.hid hown; clear hown
            by_cases hlt : K < n
            · obtain ⟨i, hi'⟩ : ∃ i, code[K]? = some i := ⟨_, List.getElem?_eq_getElem (by rw [HN.out]; exact hlt)⟩
              obtain ⟨b, off, rfl, h1, h2⟩ := (HS.out.below HBE.out).at hi'
              have hcr := crun_at _ _ code K i hi' _ _ HC.out
              have hrn := run_at vs ar code K i hi' st
              rw [HR.out] at hrn
              have hwK : IntKind.i64.wrap ((K : Int) + 1) = (K : Int) + 1 := IntWalk.i64_in _ (by have := HOK.out.2.2.1; have := HN.out; omega)
              have hltI : (K : Int) < (n : Int) := by omega
              obtain ⟨T, hT⟩ : ∃ T, takes i.1 = T := ⟨_, rfl⟩
              have HTK := Lib.hid (fun W => (show Calls Tryz.prog 106 #[.int .i64 i.1] W fun e w' => e = .returned (.int .i64 T) ∧ Below W.heap.size W w' by rw [← hT]; exact refTakes_any i.1 W))
              obtain ⟨o, x⟩ := i
              have HT := Lib.hid hT
              have HRN := Lib.hid hrn
              have HCR := Lib.hid hcr
              clear hi' HC HR hT hrn hcr
              by_cases o2 : o = 2
              · subst o2
                have hrt := HCR.out.2.1
                rw [show right (2, x) vs.length ar.length = decide (0 ≤ x ∧ x < (vs.length : Int)) from right_two x _ _] at hrt
                have hx := of_decide_eq_true hrt
                obtain ⟨X, rfl⟩ := Int.eq_ofNat_of_zero_le hx.1
                have hXl : X < vs.length := by omega
                obtain ⟨y, hy⟩ : ∃ y, vs[X]? = some y := ⟨_, List.getElem?_eq_getElem hXl⟩
                obtain ⟨bv, offv, rfl, hcv⟩ := (HS1.out.below HBE.out).at (map_at vs X y hy)
                have hyv : isVal y = true := List.all_eq_true.1 HALLV.out y (List.mem_of_getElem? hy)
                have hyg : vs.getD ((X : Int)).toNat 0 = y := by rw [Int.toNat_natCast, List.getD_eq_getElem?_getD, hy]; rfl
                have hXI : (X : Int) < (n1 : Int) := by have := HN1.out; omega
                have hcv2 : (wr.alloc (.cells #[.int .i64 2, .int .i64 (X : Int)] 131)).cell? ⟨bv, offv + X, none⟩ = some (.int .i64 y) := ((bcell ((Below.refl wr.heap.size wr).alloc (Nat.le_refl _) _)).1 _ _ (World.block_lt_of_cell? wr _ hcv)).trans hcv
                have hT0 : T = 0 := by rw [← HT.out]; rfl
                have hstep := (step_var vs ar (X : Int) st).trans (by rw [hyg])
                have hr2 := HRN.out
                rw [hstep] at hr2
                have hc2 : crun vs.length ar.length (code.drop (K + 1)) ((st.length : Int) - takes 2 + 1) = .ok 1 := HCR.out.2.2.2
                rw [show takes 2 = 0 from rfl] at hc2
                have HR2 := Lib.hid (show run vs ar (code.drop (K + 1)) (y :: st) = run vs ar code [] from hr2.symm)
                have HC2 := Lib.hid (show crun vs.length ar.length (code.drop (K + 1)) ((y :: st).length : Nat) = .ok 1 by rw [← hc2]; exact congrArg _ (by simp only [List.length_cons]; omega))
                have HST2 := Lib.hid (show ∀ z ∈ y :: st, isVal z = true by intro z hz; rcases List.mem_cons.1 hz with rfl | hz; exact hyv; exact HST.out z hz)
                have HSL2 := Lib.hid (show (y :: st).length ≤ K + 1 by have := HSL.out; simp only [List.length_cons]; omega)
                subst hT0
                have HLEN := Lib.hid (small st.length 0 K n code.length HSL.out hlt HN.out HOK.out.2.2.1).2.2.2.2
                clear hstep hr2 hc2 hyv
                clear hyg hy hx hrt hXl hcv
                go_wp2_with fail
                refine (HTK.out _).mono ?_
                rintro _ w2 ⟨rfl, hb2⟩
                obtain ⟨c0, c1, hlt2, hbw⟩ := pair_after hb2
                have HB2 := Lib.hid (HBE.out.trans (hbw.mono HBE.out.size))
                have OW2 := Lib.hid (own_kept HOWN.out hbw)
                clear hb2 hbw h1 h2
                obtain ⟨l1, l2, l3, l4⟩ := lens st.length HLEN.out
                have LEN1 := Lib.hid l1
                have LEN2 := Lib.hid l2
                have LEN3 := Lib.hid l3
                have LEN4 := Lib.hid l4
                clear l1 l2 l3 l4
                go_wp2_with (first | (at_builtin; refine wpList_append_clone rfl _ _ 23 rfl w.heap.size 3 i0 (.int .i64 0) 8 Tryz.underlying23 hi hz0 hz1 hz2 rfl w2.heap.size rfl (owns_base (owns_empty w2 _) HB2.out.size) _ _ _ rfl (own_kept OW2.out ((Below.refl _ _).alloc (Nat.le_refl _) _)) (rowOf_one _) LEN1.out LEN2.out (HB2.out.alloc HB2.out.size _).size ?_; intro v3 w5 hown5 hgrow5; have HB5 := Lib.hid ((HB2.out.alloc HB2.out.size _).grown hgrow5 (HB2.out.alloc HB2.out.size _).size (fun k hk => by cases hk; exact HB2.out.size)); have OW5 := Lib.hid hown5; clear hown5 hgrow5) | (at_builtin; refine wpList_append_own _ rfl _ _ 23 rfl w.heap.size 3 i0 (.int .i64 0) 1 8 Tryz.underlying23 hi hz0 hz1 hz2 rfl (by decide) _ _ _ rfl (OW5.out.alloc _) ⟨w5.heap.size, 0, none⟩ 1 1 [.int .i64 y] rfl rfl (one_new _ _ _) (one_cell _ _) LEN3.out LEN4.out (HB5.out.alloc HB5.out.size _).size ?_; intro v4 w6 hown6 hgrow6 hnn6; clear hnn6; have HB6 := Lib.hid ((HB5.out.alloc HB5.out.size _).grown hgrow6 (HB5.out.alloc HB5.out.size _).size (owns_block OW5.out)); rw [rowOf_push] at hown6; have OW6 := Lib.hid hown6; clear hown6 hgrow6))
                go_roundw
                case rel => exact ⟨y :: st, K + 1, by go_num, by omega, OW6.out, HC2.out, HR2.out, HST2.out, HSL2.out, HB6.out⟩
                case measure => simp [intOf]; omega
              by_cases o3 : o = 3
              · subst o3
                have hrt := HCR.out.2.1
                rw [show right (3, x) vs.length ar.length = decide (0 ≤ x ∧ x < (ar.length : Int)) from right_three x _ _] at hrt
                have hx := of_decide_eq_true hrt
                obtain ⟨X, rfl⟩ := Int.eq_ofNat_of_zero_le hx.1
                have hXl : X < ar.length := by omega
                obtain ⟨y, hy⟩ : ∃ y, ar[X]? = some y := ⟨_, List.getElem?_eq_getElem hXl⟩
                obtain ⟨bv, offv, rfl, hcv⟩ := (HS2.out.below HBE.out).at (map_at ar X y hy)
                have hyv : isVal y = true := List.all_eq_true.1 HALLA.out y (List.mem_of_getElem? hy)
                have hyg : ar.getD ((X : Int)).toNat 0 = y := by rw [Int.toNat_natCast, List.getD_eq_getElem?_getD, hy]; rfl
                have hXI : (X : Int) < (n2 : Int) := by have := HN2.out; omega
                have hcv2 : (wr.alloc (.cells #[.int .i64 3, .int .i64 (X : Int)] 131)).cell? ⟨bv, offv + X, none⟩ = some (.int .i64 y) := ((bcell ((Below.refl wr.heap.size wr).alloc (Nat.le_refl _) _)).1 _ _ (World.block_lt_of_cell? wr _ hcv)).trans hcv
                have hT0 : T = 0 := by rw [← HT.out]; rfl
                have hstep := (step_arg vs ar (X : Int) st).trans (by rw [hyg])
                have hr2 := HRN.out
                rw [hstep] at hr2
                have hc2 : crun vs.length ar.length (code.drop (K + 1)) ((st.length : Int) - takes 3 + 1) = .ok 1 := HCR.out.2.2.2
                rw [show takes 3 = 0 from rfl] at hc2
                have HR2 := Lib.hid (show run vs ar (code.drop (K + 1)) (y :: st) = run vs ar code [] from hr2.symm)
                have HC2 := Lib.hid (show crun vs.length ar.length (code.drop (K + 1)) ((y :: st).length : Nat) = .ok 1 by rw [← hc2]; exact congrArg _ (by simp only [List.length_cons]; omega))
                have HST2 := Lib.hid (show ∀ z ∈ y :: st, isVal z = true by intro z hz; rcases List.mem_cons.1 hz with rfl | hz; exact hyv; exact HST.out z hz)
                have HSL2 := Lib.hid (show (y :: st).length ≤ K + 1 by have := HSL.out; simp only [List.length_cons]; omega)
                subst hT0
                have HLEN := Lib.hid (small st.length 0 K n code.length HSL.out hlt HN.out HOK.out.2.2.1).2.2.2.2
                clear hstep hr2 hc2 hyv
                clear hyg hy hx hrt hXl hcv
                go_wp2_with fail
                refine (HTK.out _).mono ?_
                rintro _ w2 ⟨rfl, hb2⟩
                obtain ⟨c0, c1, hlt2, hbw⟩ := pair_after hb2
                have HB2 := Lib.hid (HBE.out.trans (hbw.mono HBE.out.size))
                have OW2 := Lib.hid (own_kept HOWN.out hbw)
                clear hb2 hbw h1 h2
                obtain ⟨l1, l2, l3, l4⟩ := lens st.length HLEN.out
                have LEN1 := Lib.hid l1
                have LEN2 := Lib.hid l2
                have LEN3 := Lib.hid l3
                have LEN4 := Lib.hid l4
                clear l1 l2 l3 l4
                go_wp2_with (first | (at_builtin; refine wpList_append_clone rfl _ _ 23 rfl w.heap.size 3 i0 (.int .i64 0) 8 Tryz.underlying23 hi hz0 hz1 hz2 rfl w2.heap.size rfl (owns_base (owns_empty w2 _) HB2.out.size) _ _ _ rfl (own_kept OW2.out ((Below.refl _ _).alloc (Nat.le_refl _) _)) (rowOf_one _) LEN1.out LEN2.out (HB2.out.alloc HB2.out.size _).size ?_; intro v3 w5 hown5 hgrow5; have HB5 := Lib.hid ((HB2.out.alloc HB2.out.size _).grown hgrow5 (HB2.out.alloc HB2.out.size _).size (fun k hk => by cases hk; exact HB2.out.size)); have OW5 := Lib.hid hown5; clear hown5 hgrow5) | (at_builtin; refine wpList_append_own _ rfl _ _ 23 rfl w.heap.size 3 i0 (.int .i64 0) 1 8 Tryz.underlying23 hi hz0 hz1 hz2 rfl (by decide) _ _ _ rfl (OW5.out.alloc _) ⟨w5.heap.size, 0, none⟩ 1 1 [.int .i64 y] rfl rfl (one_new _ _ _) (one_cell _ _) LEN3.out LEN4.out (HB5.out.alloc HB5.out.size _).size ?_; intro v4 w6 hown6 hgrow6 hnn6; clear hnn6; have HB6 := Lib.hid ((HB5.out.alloc HB5.out.size _).grown hgrow6 (HB5.out.alloc HB5.out.size _).size (owns_block OW5.out)); rw [rowOf_push] at hown6; have OW6 := Lib.hid hown6; clear hown6 hgrow6))
                go_roundw
                case rel => exact ⟨y :: st, K + 1, by go_num, by omega, OW6.out, HC2.out, HR2.out, HST2.out, HSL2.out, HB6.out⟩
                case measure => simp [intOf]; omega
              have b2 : (o == 2) = false := by simp [o2]
              have b3 : (o == 3) = false := by simp [o3]
              by_cases t0 : T = 0
              · have ho1 : o = 1 := by have := takes_zero o (HT.out.trans t0); omega
                subst ho1
                obtain ⟨y, hyx⟩ : ∃ y, x = y := ⟨_, rfl⟩
                subst hyx
                have hyv : isVal x = true := by have := HCR.out.2.1; rwa [show right (1, x) vs.length ar.length = isVal x from right_one x _ _] at this
                clear t0
                have hT0 : T = 0 := by rw [← HT.out]; rfl
                have hstep := step_none vs ar 1 x st rfl o2 o3
                have hr2 := HRN.out
                rw [hstep] at hr2
                have hc2 : crun vs.length ar.length (code.drop (K + 1)) ((st.length : Int) - takes 1 + 1) = .ok 1 := HCR.out.2.2.2
                rw [show takes 1 = 0 from rfl] at hc2
                have HR2 := Lib.hid (show run vs ar (code.drop (K + 1)) (x :: st) = run vs ar code [] from hr2.symm)
                have HC2 := Lib.hid (show crun vs.length ar.length (code.drop (K + 1)) ((x :: st).length : Nat) = .ok 1 by rw [← hc2]; exact congrArg _ (by simp only [List.length_cons]; omega))
                have HST2 := Lib.hid (show ∀ z ∈ x :: st, isVal z = true by intro z hz; rcases List.mem_cons.1 hz with rfl | hz; exact hyv; exact HST.out z hz)
                have HSL2 := Lib.hid (show (x :: st).length ≤ K + 1 by have := HSL.out; simp only [List.length_cons]; omega)
                subst hT0
                have HLEN := Lib.hid (small st.length 0 K n code.length HSL.out hlt HN.out HOK.out.2.2.1).2.2.2.2
                clear hstep hr2 hc2 hyv
                clear o2 o3
                go_wp2_with fail
                refine (HTK.out _).mono ?_
                rintro _ w2 ⟨rfl, hb2⟩
                obtain ⟨c0, c1, hlt2, hbw⟩ := pair_after hb2
                have HB2 := Lib.hid (HBE.out.trans (hbw.mono HBE.out.size))
                have OW2 := Lib.hid (own_kept HOWN.out hbw)
                clear hb2 hbw h1 h2
                obtain ⟨l1, l2, l3, l4⟩ := lens st.length HLEN.out
                have LEN1 := Lib.hid l1
                have LEN2 := Lib.hid l2
                have LEN3 := Lib.hid l3
                have LEN4 := Lib.hid l4
                clear l1 l2 l3 l4
                go_wp2_with (first | (at_builtin; refine wpList_append_clone rfl _ _ 23 rfl w.heap.size 3 i0 (.int .i64 0) 8 Tryz.underlying23 hi hz0 hz1 hz2 rfl w2.heap.size rfl (owns_base (owns_empty w2 _) HB2.out.size) _ _ _ rfl (own_kept OW2.out ((Below.refl _ _).alloc (Nat.le_refl _) _)) (rowOf_one _) LEN1.out LEN2.out (HB2.out.alloc HB2.out.size _).size ?_; intro v3 w5 hown5 hgrow5; have HB5 := Lib.hid ((HB2.out.alloc HB2.out.size _).grown hgrow5 (HB2.out.alloc HB2.out.size _).size (fun k hk => by cases hk; exact HB2.out.size)); have OW5 := Lib.hid hown5; clear hown5 hgrow5) | (at_builtin; refine wpList_append_own _ rfl _ _ 23 rfl w.heap.size 3 i0 (.int .i64 0) 1 8 Tryz.underlying23 hi hz0 hz1 hz2 rfl (by decide) _ _ _ rfl (OW5.out.alloc _) ⟨w5.heap.size, 0, none⟩ 1 1 [.int .i64 x] rfl rfl (one_new _ _ _) (one_cell _ _) LEN3.out LEN4.out (HB5.out.alloc HB5.out.size _).size ?_; intro v4 w6 hown6 hgrow6 hnn6; clear hnn6; have HB6 := Lib.hid ((HB5.out.alloc HB5.out.size _).grown hgrow6 (HB5.out.alloc HB5.out.size _).size (owns_block OW5.out)); rw [rowOf_push] at hown6; have OW6 := Lib.hid hown6; clear hown6 hgrow6))
                go_roundw
                case rel => exact ⟨x :: st, K + 1, by go_num, by omega, OW6.out, HC2.out, HR2.out, HST2.out, HSL2.out, HB6.out⟩
                case measure => simp [intOf]; omega
              have hTr := takes_range o
              have hTo : takes o = T := HT.out
              rw [hTo] at hTr
              have hTp : 0 ≤ T := by rw [← HT.out]; exact HCR.out.1
              have hTh : T ≤ (st.length : Int) := by rw [← HT.out]; exact HCR.out.2.2.1
              clear o2 o3
              by_cases t1 : T = 1
              · subst t1
                obtain ⟨aa, r, rfl⟩ : ∃ aa r, st = aa :: r := by
                  match st, hTh with
                  | [], hTh => simp at hTh
                  | aa :: r, _ => exact ⟨aa, r, rfl⟩
                obtain ⟨g, capr, hrow, hmc, hcells, hown'⟩ := owns_some (m := r.length) (k := 1) HOWN.out (by decide)
                subst hrow
                obtain ⟨ra, rt⟩ := rowOf_at1 aa r
                have hca := hcells _ _ ra
                rw [rt] at hown'
                clear hcells ra rt
                obtain ⟨hwm', hwm, hm0, hm1, hm31⟩ := small r.length 1 K n code.length HSL.out hlt HN.out HOK.out.2.2.1
                have hvaa : isVal aa = true := HST.out aa (by simp)
                obtain ⟨hcm, hcz, hcm2, hcm3⟩ := room r.length 1 capr (by decide) hmc
                have hm1' : (r.length : Int) ≤ (r.length : Int) + 1 := hm1
                have hcm3' : (r.length : Int) + 1 ≤ (capr : Int) := hcm3
                have hto := hTo
                have HLEN := Lib.hid hm31
                have HTO := Lib.hid hto
                clear hm31 hTr hTo hTp hTh t0 hm1 hcm3 hto
                go_upto_region 26 with (go_at_call 106; refine (HTK.out _).mono ?_; rintro _ w2 ⟨rfl, hb2⟩; obtain ⟨c0, c1, hlt2, hbw⟩ := pair_after hb2; have HB2 := Lib.hid (HBE.out.trans (hbw.mono HBE.out.size)); have OW2 := Lib.hid (own_kept hown' hbw); have hca2 := cell_kept hbw hca; clear hb2 hbw h1 h2 hca hown')
                have hS0 : w2.drew.cell? ⟨wr.heap.size, 0, none⟩ = some (.int .i64 o) ∧ Below w.heap.size w w2.drew := ⟨c0, HB2.out.drew⟩
                have HCALL := Lib.hid (refMade1_any o aa _ w2.drew (sl_of1 (w := w2.drew) hca2 : Sl w2.drew (.slice (some ⟨g, r.length, none⟩) 1 (capr - r.length)) _) HTO.out hvaa)
                go_region_held3 (fun W => W.cell? ⟨wr.heap.size, 0, none⟩ = some (.int .i64 o) ∧ Below w.heap.size w W) (first | exact hS0 | assumption) (first | (go_at_call 107; refine HCALL.out.mono ?_; rintro _ w3 ⟨⟨y, ok, rfl, hsay⟩, hb3⟩; have hS3 : w3.cell? ⟨wr.heap.size, 0, none⟩ = some (.int .i64 o) ∧ Below w.heap.size w w3 := ⟨((bcell hb3).1 _ _ hlt2).trans c0, HB2.out.drew.trans (hb3.mono HB2.out.drew.size)⟩))
                have HB3 := Lib.hid hS3.2
                have OW3 := Lib.hid (own_kept (own_kept OW2.out ((Below.refl _ _).drew)) hb3)
                have hstep := step_one vs ar o x aa r HTO.out
                have hrn2 := HRN.out
                rw [hstep] at hrn2
                have HSAY := Lib.hid hsay
                clear hstep hsay hS3 hS0 hb3 c0 c1 hm1' hcm3' hmc hcm HCALL hca2
                cases ok with
                | false =>
                  rw [says_false HSAY.out] at hrn2
                  have hev : ev = (0, 3) := by rw [← HEV.out, eval_run code vs ar HER.out (by rw [HALLV.out, HALLA.out]; rfl), hrn2]; rfl
                  have HE := Lib.hid hev
                  clear hrn2 hev hvaa
                  go_wp2_with fail
                  go_ret2
                  exact ⟨ret_pair HE.out.symm, HB3.out⟩
                | true =>
                  rw [says_true HSAY.out] at hrn2
                  have HR2 := Lib.hid (show run vs ar (code.drop (K + 1)) (y :: r) = run vs ar code [] from hrn2.symm)
                  have hc2 := HCR.out.2.2.2
                  rw [show takes (o, x).1 = 1 from HTO.out] at hc2
                  have HC2 := Lib.hid (show crun vs.length ar.length (code.drop (K + 1)) ((y :: r).length : Nat) = .ok 1 by rw [← hc2]; exact congrArg _ (len_pop 1 _ r y rfl).symm)
                  have hyv : isVal y = true := made_val _ _ _ _ _ hvaa val0 val0 (says_true HSAY.out)
                  have HST2 := Lib.hid (show ∀ z ∈ y :: r, isVal z = true by intro z hz; rcases List.mem_cons.1 hz with rfl | hz; exact hyv; exact HST.out z (by simp [hz]))
                  have HSL2 := Lib.hid (len_le 1 K (by decide) r y HSL.out)
                  clear hrn2 hc2 hyv hvaa
                  obtain ⟨l1, l2, l3, l4⟩ := lens r.length HLEN.out
                  have LEN1 := Lib.hid l1
                  have LEN2 := Lib.hid l2
                  have LEN3 := Lib.hid l3
                  have LEN4 := Lib.hid l4
                  clear l1 l2 l3 l4
                  go_upto_region 28 with fail
                  clear hm0 hwm hwm' hcz hcm2
                  go_wp2_with (first | (at_builtin; refine wpList_append_clone rfl _ _ 23 rfl w.heap.size 3 i0 (.int .i64 0) 8 Tryz.underlying23 hi hz0 hz1 hz2 rfl w3.heap.size rfl (owns_base (owns_empty w3 _) HB3.out.size) _ _ _ rfl (own_kept OW3.out ((Below.refl _ _).alloc (Nat.le_refl _) _)) (rowOf_one _) LEN1.out LEN2.out (HB3.out.alloc HB3.out.size _).size ?_; intro v3 w5 hown5 hgrow5; have HB5 := Lib.hid ((HB3.out.alloc HB3.out.size _).grown hgrow5 (HB3.out.alloc HB3.out.size _).size (fun k hk => by cases hk; exact HB3.out.size)); have OW5 := Lib.hid hown5; clear hown5 hgrow5) | (at_builtin; refine wpList_append_own _ rfl _ _ 23 rfl w.heap.size 3 i0 (.int .i64 0) 1 8 Tryz.underlying23 hi hz0 hz1 hz2 rfl (by decide) _ _ _ rfl (OW5.out.alloc _) ⟨w5.heap.size, 0, none⟩ 1 1 [.int .i64 y] rfl rfl (one_new _ _ _) (one_cell _ _) LEN3.out LEN4.out (HB5.out.alloc HB5.out.size _).size ?_; intro v4 w6 hown6 hgrow6 hnn6; clear hnn6; have HB6 := Lib.hid ((HB5.out.alloc HB5.out.size _).grown hgrow6 (HB5.out.alloc HB5.out.size _).size (owns_block OW5.out)); rw [rowOf_push] at hown6; have OW6 := Lib.hid hown6; clear hown6 hgrow6))
                  go_roundw
                  case rel => exact ⟨y :: r, K + 1, by go_num, by omega, OW6.out, HC2.out, HR2.out, HST2.out, HSL2.out, HB6.out⟩
                  case measure => simp [intOf]; omega
              by_cases t2 : T = 2
              · subst t2
                obtain ⟨aa, bb, r, rfl⟩ : ∃ aa bb r, st = bb :: aa :: r := by
                  match st, hTh with
                  | [], hTh => simp at hTh
                  | [_], hTh => simp at hTh
                  | bb :: aa :: r, _ => exact ⟨aa, bb, r, rfl⟩
                obtain ⟨g, capr, hrow, hmc, hcells, hown'⟩ := owns_some (m := r.length) (k := 2) HOWN.out (by decide)
                subst hrow
                obtain ⟨ra, rb, rt⟩ := rowOf_at2 aa bb r
                have hca := hcells _ _ ra
                have hcb := hcells _ _ rb
                rw [rt] at hown'
                clear hcells ra rt rb
                obtain ⟨hwm', hwm, hm0, hm1, hm31⟩ := small r.length 2 K n code.length HSL.out hlt HN.out HOK.out.2.2.1
                have hvaa : isVal aa = true := HST.out aa (by simp)
                have hvbb : isVal bb = true := HST.out bb (by simp)
                obtain ⟨hcm, hcz, hcm2, hcm3⟩ := room r.length 2 capr (by decide) hmc
                have hm1' : (r.length : Int) ≤ (r.length : Int) + 2 := hm1
                have hcm3' : (r.length : Int) + 2 ≤ (capr : Int) := hcm3
                have hto := hTo
                have HLEN := Lib.hid hm31
                have HTO := Lib.hid hto
                clear hm31 hTr hTo hTp hTh t0 hm1 hcm3 hto t1
                go_upto_region 26 with (go_at_call 106; refine (HTK.out _).mono ?_; rintro _ w2 ⟨rfl, hb2⟩; obtain ⟨c0, c1, hlt2, hbw⟩ := pair_after hb2; have HB2 := Lib.hid (HBE.out.trans (hbw.mono HBE.out.size)); have OW2 := Lib.hid (own_kept hown' hbw); have hca2 := cell_kept hbw hca; have hcb2 := cell_kept hbw hcb; clear hb2 hbw h1 h2 hca hcb hown')
                have hS0 : w2.drew.cell? ⟨wr.heap.size, 0, none⟩ = some (.int .i64 o) ∧ Below w.heap.size w w2.drew := ⟨c0, HB2.out.drew⟩
                have HCALL := Lib.hid (refMade2_any o aa bb _ w2.drew (sl_of2 (w := w2.drew) hca2 hcb2 : Sl w2.drew (.slice (some ⟨g, r.length, none⟩) 2 (capr - r.length)) _) HTO.out hvaa hvbb)
                go_region_held3 (fun W => W.cell? ⟨wr.heap.size, 0, none⟩ = some (.int .i64 o) ∧ Below w.heap.size w W) (first | exact hS0 | assumption) (first | (go_at_call 107; refine HCALL.out.mono ?_; rintro _ w3 ⟨⟨y, ok, rfl, hsay⟩, hb3⟩; have hS3 : w3.cell? ⟨wr.heap.size, 0, none⟩ = some (.int .i64 o) ∧ Below w.heap.size w w3 := ⟨((bcell hb3).1 _ _ hlt2).trans c0, HB2.out.drew.trans (hb3.mono HB2.out.drew.size)⟩))
                have HB3 := Lib.hid hS3.2
                have OW3 := Lib.hid (own_kept (own_kept OW2.out ((Below.refl _ _).drew)) hb3)
                have hstep := step_two vs ar o x aa bb r HTO.out
                have hrn2 := HRN.out
                rw [hstep] at hrn2
                have HSAY := Lib.hid hsay
                clear hstep hsay hS3 hS0 hb3 c0 c1 hm1' hcm3' hmc hcm HCALL hca2 hcb2
                cases ok with
                | false =>
                  rw [says_false HSAY.out] at hrn2
                  have hev : ev = (0, 3) := by rw [← HEV.out, eval_run code vs ar HER.out (by rw [HALLV.out, HALLA.out]; rfl), hrn2]; rfl
                  have HE := Lib.hid hev
                  clear hrn2 hev hvaa hvbb
                  go_wp2_with fail
                  go_ret2
                  exact ⟨ret_pair HE.out.symm, HB3.out⟩
                | true =>
                  rw [says_true HSAY.out] at hrn2
                  have HR2 := Lib.hid (show run vs ar (code.drop (K + 1)) (y :: r) = run vs ar code [] from hrn2.symm)
                  have hc2 := HCR.out.2.2.2
                  rw [show takes (o, x).1 = 2 from HTO.out] at hc2
                  have HC2 := Lib.hid (show crun vs.length ar.length (code.drop (K + 1)) ((y :: r).length : Nat) = .ok 1 by rw [← hc2]; exact congrArg _ (len_pop 2 _ r y rfl).symm)
                  have hyv : isVal y = true := made_val _ _ _ _ _ hvaa hvbb val0 (says_true HSAY.out)
                  have HST2 := Lib.hid (show ∀ z ∈ y :: r, isVal z = true by intro z hz; rcases List.mem_cons.1 hz with rfl | hz; exact hyv; exact HST.out z (by simp [hz]))
                  have HSL2 := Lib.hid (len_le 2 K (by decide) r y HSL.out)
                  clear hrn2 hc2 hyv hvaa hvbb
                  obtain ⟨l1, l2, l3, l4⟩ := lens r.length HLEN.out
                  have LEN1 := Lib.hid l1
                  have LEN2 := Lib.hid l2
                  have LEN3 := Lib.hid l3
                  have LEN4 := Lib.hid l4
                  clear l1 l2 l3 l4
                  go_upto_region 28 with fail
                  clear hm0 hwm hwm' hcz hcm2
                  go_wp2_with (first | (at_builtin; refine wpList_append_clone rfl _ _ 23 rfl w.heap.size 3 i0 (.int .i64 0) 8 Tryz.underlying23 hi hz0 hz1 hz2 rfl w3.heap.size rfl (owns_base (owns_empty w3 _) HB3.out.size) _ _ _ rfl (own_kept OW3.out ((Below.refl _ _).alloc (Nat.le_refl _) _)) (rowOf_one _) LEN1.out LEN2.out (HB3.out.alloc HB3.out.size _).size ?_; intro v3 w5 hown5 hgrow5; have HB5 := Lib.hid ((HB3.out.alloc HB3.out.size _).grown hgrow5 (HB3.out.alloc HB3.out.size _).size (fun k hk => by cases hk; exact HB3.out.size)); have OW5 := Lib.hid hown5; clear hown5 hgrow5) | (at_builtin; refine wpList_append_own _ rfl _ _ 23 rfl w.heap.size 3 i0 (.int .i64 0) 1 8 Tryz.underlying23 hi hz0 hz1 hz2 rfl (by decide) _ _ _ rfl (OW5.out.alloc _) ⟨w5.heap.size, 0, none⟩ 1 1 [.int .i64 y] rfl rfl (one_new _ _ _) (one_cell _ _) LEN3.out LEN4.out (HB5.out.alloc HB5.out.size _).size ?_; intro v4 w6 hown6 hgrow6 hnn6; clear hnn6; have HB6 := Lib.hid ((HB5.out.alloc HB5.out.size _).grown hgrow6 (HB5.out.alloc HB5.out.size _).size (owns_block OW5.out)); rw [rowOf_push] at hown6; have OW6 := Lib.hid hown6; clear hown6 hgrow6))
                  go_roundw
                  case rel => exact ⟨y :: r, K + 1, by go_num, by omega, OW6.out, HC2.out, HR2.out, HST2.out, HSL2.out, HB6.out⟩
                  case measure => simp [intOf]; omega
              have t3 : T = 3 := by omega
              subst t3
              obtain ⟨aa, bb, cc, r, rfl⟩ : ∃ aa bb cc r, st = cc :: bb :: aa :: r := by
                match st, hTh with
                | [], hTh => simp at hTh
                | [_], hTh => simp at hTh
                | [_, _], hTh => simp at hTh
                | cc :: bb :: aa :: r, _ => exact ⟨aa, bb, cc, r, rfl⟩
              obtain ⟨g, capr, hrow, hmc, hcells, hown'⟩ := owns_some (m := r.length) (k := 3) HOWN.out (by decide)
              subst hrow
              obtain ⟨ra, rb, rc, rt⟩ := rowOf_at3 aa bb cc r
              have hca := hcells _ _ ra
              have hcb := hcells _ _ rb
              have hcc := hcells _ _ rc
              rw [rt] at hown'
              clear hcells ra rt rb rc
              obtain ⟨hwm', hwm, hm0, hm1, hm31⟩ := small r.length 3 K n code.length HSL.out hlt HN.out HOK.out.2.2.1
              have hvaa : isVal aa = true := HST.out aa (by simp)
              have hvbb : isVal bb = true := HST.out bb (by simp)
              have hvcc : isVal cc = true := HST.out cc (by simp)
              obtain ⟨hcm, hcz, hcm2, hcm3⟩ := room r.length 3 capr (by decide) hmc
              have hm1' : (r.length : Int) ≤ (r.length : Int) + 3 := hm1
              have hcm3' : (r.length : Int) + 3 ≤ (capr : Int) := hcm3
              have hto := hTo
              have HLEN := Lib.hid hm31
              have HTO := Lib.hid hto
              clear hm31 hTr hTo hTp hTh t0 hm1 hcm3 hto t1 t2
              go_upto_region 26 with (go_at_call 106; refine (HTK.out _).mono ?_; rintro _ w2 ⟨rfl, hb2⟩; obtain ⟨c0, c1, hlt2, hbw⟩ := pair_after hb2; have HB2 := Lib.hid (HBE.out.trans (hbw.mono HBE.out.size)); have OW2 := Lib.hid (own_kept hown' hbw); have hca2 := cell_kept hbw hca; have hcb2 := cell_kept hbw hcb; have hcc2 := cell_kept hbw hcc; clear hb2 hbw h1 h2 hca hcb hcc hown')
              have hS0 : w2.drew.cell? ⟨wr.heap.size, 0, none⟩ = some (.int .i64 o) ∧ Below w.heap.size w w2.drew := ⟨c0, HB2.out.drew⟩
              have HCALL := Lib.hid (refMade3_any o aa bb cc _ w2.drew (sl_of3 (w := w2.drew) hca2 hcb2 hcc2 : Sl w2.drew (.slice (some ⟨g, r.length, none⟩) 3 (capr - r.length)) _) HTO.out )
              go_region_held3 (fun W => W.cell? ⟨wr.heap.size, 0, none⟩ = some (.int .i64 o) ∧ Below w.heap.size w W) (first | exact hS0 | assumption) (first | (go_at_call 107; refine HCALL.out.mono ?_; rintro _ w3 ⟨⟨y, ok, rfl, hsay⟩, hb3⟩; have hS3 : w3.cell? ⟨wr.heap.size, 0, none⟩ = some (.int .i64 o) ∧ Below w.heap.size w w3 := ⟨((bcell hb3).1 _ _ hlt2).trans c0, HB2.out.drew.trans (hb3.mono HB2.out.drew.size)⟩))
              have HB3 := Lib.hid hS3.2
              have OW3 := Lib.hid (own_kept (own_kept OW2.out ((Below.refl _ _).drew)) hb3)
              have hstep := step_three vs ar o x aa bb cc r HTO.out
              have hrn2 := HRN.out
              rw [hstep] at hrn2
              have HSAY := Lib.hid hsay
              clear hstep hsay hS3 hS0 hb3 c0 c1 hm1' hcm3' hmc hcm HCALL hca2 hcb2 hcc2
              cases ok with
              | false =>
                rw [says_false HSAY.out] at hrn2
                have hev : ev = (0, 3) := by rw [← HEV.out, eval_run code vs ar HER.out (by rw [HALLV.out, HALLA.out]; rfl), hrn2]; rfl
                have HE := Lib.hid hev
                clear hrn2 hev hvaa hvbb hvcc
                go_wp2_with fail
                go_ret2
                exact ⟨ret_pair HE.out.symm, HB3.out⟩
              | true =>
                rw [says_true HSAY.out] at hrn2
                have HR2 := Lib.hid (show run vs ar (code.drop (K + 1)) (y :: r) = run vs ar code [] from hrn2.symm)
                have hc2 := HCR.out.2.2.2
                rw [show takes (o, x).1 = 3 from HTO.out] at hc2
                have HC2 := Lib.hid (show crun vs.length ar.length (code.drop (K + 1)) ((y :: r).length : Nat) = .ok 1 by rw [← hc2]; exact congrArg _ (len_pop 3 _ r y rfl).symm)
                have hyv : isVal y = true := made_val _ _ _ _ _ hvaa hvbb hvcc (says_true HSAY.out)
                have HST2 := Lib.hid (show ∀ z ∈ y :: r, isVal z = true by intro z hz; rcases List.mem_cons.1 hz with rfl | hz; exact hyv; exact HST.out z (by simp [hz]))
                have HSL2 := Lib.hid (len_le 3 K (by decide) r y HSL.out)
                clear hrn2 hc2 hyv hvaa hvbb hvcc
                obtain ⟨l1, l2, l3, l4⟩ := lens r.length HLEN.out
                have LEN1 := Lib.hid l1
                have LEN2 := Lib.hid l2
                have LEN3 := Lib.hid l3
                have LEN4 := Lib.hid l4
                clear l1 l2 l3 l4
                go_upto_region 28 with fail
                clear hm0 hwm hwm' hcz hcm2
                go_wp2_with (first | (at_builtin; refine wpList_append_clone rfl _ _ 23 rfl w.heap.size 3 i0 (.int .i64 0) 8 Tryz.underlying23 hi hz0 hz1 hz2 rfl w3.heap.size rfl (owns_base (owns_empty w3 _) HB3.out.size) _ _ _ rfl (own_kept OW3.out ((Below.refl _ _).alloc (Nat.le_refl _) _)) (rowOf_one _) LEN1.out LEN2.out (HB3.out.alloc HB3.out.size _).size ?_; intro v3 w5 hown5 hgrow5; have HB5 := Lib.hid ((HB3.out.alloc HB3.out.size _).grown hgrow5 (HB3.out.alloc HB3.out.size _).size (fun k hk => by cases hk; exact HB3.out.size)); have OW5 := Lib.hid hown5; clear hown5 hgrow5) | (at_builtin; refine wpList_append_own _ rfl _ _ 23 rfl w.heap.size 3 i0 (.int .i64 0) 1 8 Tryz.underlying23 hi hz0 hz1 hz2 rfl (by decide) _ _ _ rfl (OW5.out.alloc _) ⟨w5.heap.size, 0, none⟩ 1 1 [.int .i64 y] rfl rfl (one_new _ _ _) (one_cell _ _) LEN3.out LEN4.out (HB5.out.alloc HB5.out.size _).size ?_; intro v4 w6 hown6 hgrow6 hnn6; clear hnn6; have HB6 := Lib.hid ((HB5.out.alloc HB5.out.size _).grown hgrow6 (HB5.out.alloc HB5.out.size _).size (owns_block OW5.out)); rw [rowOf_push] at hown6; have OW6 := Lib.hid hown6; clear hown6 hgrow6))
                go_roundw
                case rel => exact ⟨y :: r, K + 1, by go_num, by omega, OW6.out, HC2.out, HR2.out, HST2.out, HSL2.out, HB6.out⟩
                case measure => simp [intOf]; omega
            · have hst1 : st.length = 1 := by
                have h1 := HC.out
                rw [List.drop_eq_nil_of_le (by rw [HN.out]; omega)] at h1
                have h2 : (st.length : Int) = 1 := Except.ok.inj h1
                omega
              obtain ⟨z, rfl⟩ : ∃ z, st = [z] := by
                match st, hst1 with
                | [z], _ => exact ⟨z, rfl⟩
              have hrun : run vs ar code [] = some [z] := by
                have h1 := HR.out
                rw [List.drop_eq_nil_of_le (by rw [HN.out]; omega)] at h1
                exact h1.symm
              have hev : ev = (z, 0) := by
                rw [← HEV.out]; exact eval_of code vs ar z HER.out (List.all_eq_true.1 HALLV.out) (List.all_eq_true.1 HALLA.out) hrun
              have HE := Lib.hid hev
              obtain ⟨g, capr, hrow, hmc, hcells, -⟩ := owns_some (m := 0) (k := 1) HOWN.out (by decide)
              subst hrow
              have hz0 : wr.cell? ⟨g, 0, none⟩ = some (.int .i64 z) := hcells 0 _ rfl
              have hltI : ¬ (K : Int) < (n : Int) := by omega
              clear hcells hev hrun hst1 HC HR
              go_wp2_with fail
              go_ret2
              exact ⟨ret_pair HE.out.symm, HBE.out⟩
end Go.Proofs.YtgkniocjlkfhmaaGreatDoor.E
