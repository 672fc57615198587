/-
  Contracts of the program of layer 3: areValues, Eval.
  Layer 7, the program's side: tester and what it makes.
  Layer 7, the program's side: refusal.
  Layer 7, the program's side: the ways through a rule's steps: move, event.
  Layer 7, the program's side: a step's values are set.
-/
import Derived.Test.YtgkniocjlkfhmaaDoorEPDo
import Derived.Test.YtgkniocjlkfhmaaDoorSVg
import Derived.Test.YtgkniocjlkfhmaaDoorSVe
import Derived.Test.YtgkniocjlkfhmaaDoorSVh
import Derived.Deep.RegionHeld3
import Derived.StillTailTactics
import Derived.Deep.RegionLaw
namespace Go.Proofs.YtgkniocjlkfhmaaDoor.E
open Go Go.RowKit Go.Proofs.YtgkniocjlkfhmaaDoor.B Go.Proofs.YtgkniocjlkfhmaaDoor.K
set_option linter.unusedVariables false
set_option maxRecDepth 100000

set_option maxHeartbeats 400000 in
theorem areValues_any (l : List Int) (v : Value) (w : World) (hs : Sl w v (l.map (Value.int .i64))) (hl : l.length ≤ 9223372036854775807) :
    Calls Tryd.prog 40 #[v] w fun e w' => e = .returned (.bool (l.all isVal)) ∧ w = w' := by
  have HS := Lib.hid hs
  obtain ⟨a, cap, rfl, -⟩ := hs
  rw [List.length_map] at HS ⊢
  have HL := Lib.hid hl
  obtain ⟨n, hN⟩ : ∃ n, l.length = n := ⟨_, rfl⟩
  rw [hN] at HL hl
  have HN := Lib.hid hN
  rw [hN] at HS ⊢
  clear hN hl
  go_enter Tryd.func40, Tryd.ntmps40
  go_wp2_with fail
  go_loop [4, 7] (fun _ k => ∃ (K : Nat), k = .int .i64 (K : Int) ∧ K ≤ n ∧ Hid ((l.take K).all isVal = true)) (fun _ k => n - (intOf k).toNat)
  case atStart => exact ⟨0, rfl, Nat.zero_le _, rfl⟩
  case round =>
    obtain ⟨K, rfl, hK, HA⟩ := hrel
    by_cases hlt : K < n
    · obtain ⟨x, hx⟩ : ∃ x, l[K]? = some x := ⟨_, List.getElem?_eq_getElem (by rw [HN.out]; exact hlt)⟩
      obtain ⟨b, off, rfl, h1⟩ := HS.out.at (map_at l K x hx)
      have hwK : IntKind.i64.wrap ((K : Int) + 1) = (K : Int) + 1 := IntWalk.i64_in _ (by have := HL.out; omega)
      have hltI : (K : Int) < (n : Int) := by omega
      cases hV : isVal x with
      | false =>
        have HE := Lib.hid (all_not l K x hx hV)
        have HV := Lib.hid (fun W => (show Calls Tryd.prog 56 #[.int .i64 x] W fun e w' => e = .returned (.bool false) ∧ W = w' by rw [← hV]; exact isValue_any x W))
        clear hV hx
        go_wp2_with fail
        refine (HV.out _).mono ?_
        rintro _ wv ⟨rfl, rfl⟩
        go_wp2_with fail
        go_ret
        exact ⟨ret_bool HE.out.symm, rfl⟩
      | true =>
        have hall := all_at l K x hx
        rw [HA.out, hV] at hall
        have HALL := Lib.hid hall
        have HV := Lib.hid (fun W => (show Calls Tryd.prog 56 #[.int .i64 x] W fun e w' => e = .returned (.bool true) ∧ W = w' by rw [← hV]; exact isValue_any x W))
        clear hV hx hall
        go_wp2_with fail
        refine (HV.out _).mono ?_
        rintro _ wv ⟨rfl, rfl⟩
        go_wp2_with fail
        go_round
        case rel => exact ⟨K + 1, by go_num, by omega, HALL.out⟩
        case measure => simp [intOf]; omega
    · have hall : l.all isVal = true := by rw [← HA.out, List.take_of_length_le (by rw [HN.out]; omega)]
      have HALL := Lib.hid hall
      have hltI : ¬ (K : Int) < (n : Int) := by omega
      clear hall HA
      go_wp2_with fail
      go_ret
      exact ⟨ret_bool HALL.out.symm, rfl⟩

/-- An instruction that takes numbers, done to the row. -/
theorem do_step (vs ar : List Int) (B : Nat) (o x : Int) (st : List Int) (w : World) (hr : RowAt w B st) (ht : 0 < takes o) (hl : takes o ≤ (st.length : Int)) (hv : ∀ z ∈ st, isVal z = true) :
    ∃ m r, step vs ar (o, x) st = m.map (· :: r) ∧ (st.length : Int) - takes o + 1 = ((r.length + 1 : Nat) : Int) ∧ (∀ y, m = some y → isVal y = true) ∧ (∀ z ∈ r, z ∈ st) ∧
      Calls Tryd.prog 42 #[.pointer (some ⟨B, 0, none⟩), .int .i64 o] w fun e w' => Done B r m e w' ∧ Tch B w w' := by
  have htr := takes_range o
  rcases (show takes o = 1 ∨ takes o = 2 ∨ takes o = 3 by omega) with h | h | h
  · match st, hl, hr, hv with
    | [], hl, _, _ => simp at hl; omega
    | a :: r, hl, hr, hv =>
      have ha := hv a (by simp)
      refine ⟨made o a 0 0, r, step_one vs ar o x a r h, by rw [h]; simp only [List.length_cons]; omega, fun y hy => made_val _ _ _ _ _ ha (by decide) (by decide) hy, fun z hz => by simp [hz], do1_any B o a r w hr h ha⟩
  · match st, hl, hr, hv with
    | [], hl, _, _ => simp at hl; omega
    | [a], hl, _, _ => simp at hl; omega
    | b :: a :: r, hl, hr, hv =>
      have ha := hv a (by simp)
      have hb := hv b (by simp)
      refine ⟨made o a b 0, r, step_two vs ar o x a b r h, by rw [h]; simp only [List.length_cons]; omega, fun y hy => made_val _ _ _ _ _ ha hb (by decide) hy, fun z hz => by simp [hz], do2_any B o a b r w hr h ha hb⟩
  · match st, hl, hr, hv with
    | [], hl, _, _ => simp at hl; omega
    | [a], hl, _, _ => simp at hl; omega
    | [b, a], hl, _, _ => simp at hl; omega
    | c :: b :: a :: r, hl, hr, hv =>
      have ha := hv a (by simp)
      have hb := hv b (by simp)
      have hc := hv c (by simp)
      refine ⟨made o a b c, r, step_three vs ar o x a b c r h, by rw [h]; simp only [List.length_cons]; omega, fun y hy => made_val _ _ _ _ _ ha hb hc hy, fun z hz => by simp [hz], do3_any B o a b c r w hr h ha hb hc⟩

theorem row_new (w : World) (cs : Array Value) (hs : cs.size = 32) (h : cs[31]? = some (.int .i64 0)) : RowAt (w.alloc (.cells cs 91)) w.heap.size [] :=
  ⟨cs, heap_alloc_at _ _, hs, by simp, fun j u hj => by simp [rowOf] at hj, h⟩

set_option maxHeartbeats 4000000 in
set_option maxRecDepth 100000 in
theorem eval_any (code : List In) (vs ar : List Int) (v v1 v2 : Value) (w : World) (hs : SlI w v code) (hs1 : Sl w v1 (vs.map (Value.int .i64))) (hs2 : Sl w v2 (ar.map (Value.int .i64)))
    (hl : code.length ≤ 9223372036854775807) (hl1 : vs.length ≤ 9223372036854775807) (hl2 : ar.length ≤ 9223372036854775807) :
    Calls Tryd.prog 30 #[v, v1, v2] w fun e w' => e = .returned (.tuple #[.int .i64 (eval code vs ar).1, .int .i64 (eval code vs ar).2]) ∧ Below w.heap.size w w' := by
  have HS := Lib.hid hs
  have HS1 := Lib.hid hs1
  have HS2 := Lib.hid hs2
  obtain ⟨a, cap, rfl, -⟩ := hs
  obtain ⟨a1, cap1, rfl, -⟩ := hs1
  obtain ⟨a2, cap2, rfl, -⟩ := hs2
  rw [List.length_map] at HS1 ⊢
  rw [List.length_map] at HS2 ⊢
  have hck := fun W (h : Below w.heap.size w W) => check_any code (.slice a code.length cap) vs.length ar.length W (HS.out.below h) hl
  have hav1 := fun W (h : Below w.heap.size w W) => areValues_any vs (.slice a1 vs.length cap1) W (HS1.out.below h) hl1
  have hav2 := fun W (h : Below w.heap.size w W) => areValues_any ar (.slice a2 ar.length cap2) W (HS2.out.below h) hl2
  have HL1 := Lib.hid hl1; clear hl1
  have HL2 := Lib.hid hl2; clear hl2
  obtain ⟨⟨p, er⟩, hE⟩ : ∃ t, check code vs.length ar.length = t := ⟨_, rfl⟩
  rw [hE] at hck
  have her : (check code vs.length ar.length).2 = er := by rw [hE]
  have HER := Lib.hid her
  obtain ⟨q1, hq1⟩ : ∃ q, vs.all isVal = q := ⟨_, rfl⟩
  obtain ⟨q2, hq2⟩ : ∃ q, ar.all isVal = q := ⟨_, rfl⟩
  rw [hq1] at hav1
  rw [hq2] at hav2
  have HQ1 := Lib.hid hq1
  have HQ2 := Lib.hid hq2
  obtain ⟨n, hN⟩ : ∃ n, code.length = n := ⟨_, rfl⟩
  obtain ⟨n1, hN1⟩ : ∃ n, vs.length = n := ⟨_, rfl⟩
  obtain ⟨n2, hN2⟩ : ∃ n, ar.length = n := ⟨_, rfl⟩
  rw [hN] at HS hck ⊢
  rw [hN1] at HS1 HL1 hck hav1 ⊢
  rw [hN2] at HS2 HL2 hck hav2 ⊢
  have HCK := Lib.hid hck
  have HAV1 := Lib.hid hav1
  have HAV2 := Lib.hid hav2
  have HN := Lib.hid hN
  have HN1 := Lib.hid hN1
  have HN2 := Lib.hid hN2
  clear hN hN1 hN2 hck hE her hl hq1 hq2 hav1 hav2
  by_cases he : er = 0
  rotate_left
  focus
    have hev := eval_bad code vs ar (by rw [HER.out]; exact he)
    rw [HER.out] at hev
    rw [hev]
    have be : (er != 0) = true := by simp [he]
    clear he hev
    go_enter Tryd.func30, Tryd.ntmps30
    go_wp2_with fail
    go_step3
    go_wp2_with fail
    refine (HCK.out _ (Below.refl _ _)).mono ?_
    rintro _ w1 ⟨rfl, hb1⟩
    have HB1 := Lib.hid hb1; clear hb1
    go_wp2_with fail
    try rw [Exit.noGoto_ret]
    go_ret2
    exact ⟨rfl, HB1.out⟩
  subst he
  have hok := check_ok code _ _ HER.out
  have HOK := Lib.hid hok; clear hok
  cases q1 with
  | false =>
    have hev := eval_none code vs ar HER.out (by rw [HQ1.out]; rfl)
    rw [hev]
    clear hev
    go_enter Tryd.func30, Tryd.ntmps30
    go_wp2_with fail
    go_step3
    go_wp2_with fail
    refine (HCK.out _ (Below.refl _ _)).mono ?_
    rintro _ w1 ⟨rfl, hb1⟩
    have HB1 := Lib.hid hb1; clear hb1
    go_wp2_with (go_at_call 40; refine (HAV1.out _ HB1.out).mono ?_; rintro _ wv ⟨rfl, rfl⟩)
    try rw [Exit.noGoto_ret]
    go_ret2
    exact ⟨rfl, HB1.out⟩
  | true =>
  cases q2 with
  | false =>
    have hev := eval_none code vs ar HER.out (by rw [HQ1.out, HQ2.out]; rfl)
    rw [hev]
    clear hev
    go_enter Tryd.func30, Tryd.ntmps30
    go_wp2_with fail
    go_step3
    go_wp2_with fail
    refine (HCK.out _ (Below.refl _ _)).mono ?_
    rintro _ w1 ⟨rfl, hb1⟩
    have HB1 := Lib.hid hb1; clear hb1
    go_wp2_with fail
    refine (HAV1.out _ HB1.out).mono ?_
    rintro _ wv ⟨rfl, rfl⟩
    go_wp2_with fail
    refine (HAV2.out _ HB1.out).mono ?_
    rintro _ wv ⟨rfl, rfl⟩
    go_wp2_with fail
    try rw [Exit.noGoto_ret]
    go_ret2
    exact ⟨rfl, HB1.out⟩
  | true =>
  obtain ⟨ev, hEV⟩ : ∃ ev, eval code vs ar = ev := ⟨_, rfl⟩
  rw [hEV]
  have HEV := Lib.hid hEV; clear hEV
  go_enter Tryd.func30, Tryd.ntmps30
  go_wp2_with fail
  go_step3
  go_wp2_with fail
  refine (HCK.out _ (Below.refl _ _)).mono ?_
  rintro _ w1 ⟨rfl, hb1⟩
  have HB1 := Lib.hid hb1; clear hb1
  go_wp2_with fail
  refine (HAV1.out _ HB1.out).mono ?_
  rintro _ wv ⟨rfl, rfl⟩
  go_wp2_with fail
  refine (HAV2.out _ HB1.out).mono ?_
  rintro _ wv ⟨rfl, rfl⟩
  go_wp2_with fail
  go_step3
  go_wp2_with fail
  have HBS := Lib.hid HB1.out.size
  have hrow0 := row_new w1 #[.int .i64 0, .int .i64 0, .int .i64 0, .int .i64 0, .int .i64 0, .int .i64 0, .int .i64 0, .int .i64 0, .int .i64 0, .int .i64 0, .int .i64 0, .int .i64 0, .int .i64 0, .int .i64 0, .int .i64 0, .int .i64 0, .int .i64 0, .int .i64 0, .int .i64 0, .int .i64 0, .int .i64 0, .int .i64 0, .int .i64 0, .int .i64 0, .int .i64 0, .int .i64 0, .int .i64 0, .int .i64 0, .int .i64 0, .int .i64 0, .int .i64 0, .int .i64 0] rfl rfl
  have HROW0 := Lib.hid hrow0
  have HBE0 := Lib.hid (HB1.out.alloc HB1.out.size (.cells #[Value.int .i64 0, Value.int .i64 0, Value.int .i64 0, Value.int .i64 0, Value.int .i64 0, Value.int .i64 0, Value.int .i64 0, Value.int .i64 0, Value.int .i64 0, Value.int .i64 0, Value.int .i64 0, Value.int .i64 0, Value.int .i64 0, Value.int .i64 0, Value.int .i64 0, Value.int .i64 0, Value.int .i64 0, Value.int .i64 0, Value.int .i64 0, Value.int .i64 0, Value.int .i64 0, Value.int .i64 0, Value.int .i64 0, Value.int .i64 0, Value.int .i64 0, Value.int .i64 0, Value.int .i64 0, Value.int .i64 0, Value.int .i64 0, Value.int .i64 0, Value.int .i64 0, Value.int .i64 0] 91))
  clear hrow0
  go_loopw [11, 13, 36] (fun e _ k wr => ∃ (st : List Int) (K : Nat), e = .int .i64 0 ∧ k = .int .i64 (K : Int) ∧ K ≤ n ∧ Hid (RowAt wr w1.heap.size st) ∧ Hid (crun vs.length ar.length (code.drop K) st.length = .ok 1) ∧ Hid (run vs ar (code.drop K) st = run vs ar code []) ∧ Hid (∀ x ∈ st, isVal x = true) ∧ Hid (st.length ≤ K) ∧ Hid (Below w.heap.size w wr)) (fun _ _ k _ => n - (intOf k).toNat)
  case atStart => exact ⟨[], 0, rfl, rfl, Nat.zero_le _, HROW0.out, HOK.out.2.2.2, rfl, (fun x hx => by cases hx), Nat.le_refl 0, HBE0.out⟩
  case round =>
    obtain ⟨st, K, rfl, rfl, hK, HROW, HC, HR, HST, HSL, HBE⟩ := hrel
    clear HROW0 HBE0
    by_cases hlt : K < n
    · obtain ⟨i, hi'⟩ : ∃ i, code[K]? = some i := ⟨_, List.getElem?_eq_getElem (by rw [HN.out]; exact hlt)⟩
      obtain ⟨b, off, rfl, h1, h2⟩ := (HS.out.below HBE.out).at hi'
      have hcr := crun_at _ _ code K i hi' _ _ HC.out
      have hrn := run_at vs ar code K i hi' st
      rw [HR.out] at hrn
      have hwK : IntKind.i64.wrap ((K : Int) + 1) = (K : Int) + 1 := IntWalk.i64_in _ (by have := HOK.out.2.2.1; have := HN.out; omega)
      have hltI : (K : Int) < (n : Int) := by omega
      have HRA := Lib.hid (HROW.out.below ((Below.refl _ _).alloc (Nat.le_refl _) (.cells #[.int .i64 i.1, .int .i64 i.2] 47)))
      have HBA := Lib.hid (HBE.out.alloc HBE.out.size (.cells #[.int .i64 i.1, .int .i64 i.2] 47))
      obtain ⟨o, x⟩ := i
      have HRN := Lib.hid hrn
      have HCR := Lib.hid hcr
      clear hi' HC HR hrn hcr
      by_cases o2 : o = 2
      · subst o2
        have hrt := HCR.out.2.1
        rw [show right (2, x) vs.length ar.length = decide (0 ≤ x ∧ x < (vs.length : Int)) from right_two x _ _] at hrt
        have hx := of_decide_eq_true hrt
        obtain ⟨X, rfl⟩ := Int.eq_ofNat_of_zero_le hx.1
        have hXl : X < vs.length := by omega
        obtain ⟨y, hy⟩ : ∃ y, vs[X]? = some y := ⟨_, List.getElem?_eq_getElem hXl⟩
        obtain ⟨bv, offv, rfl, hcv⟩ := (HS1.out.below HBE.out).at (map_at vs X y hy)
        have hyv : isVal y = true := List.all_eq_true.1 HQ1.out y (List.mem_of_getElem? hy)
        have hyg : vs.getD ((X : Int)).toNat 0 = y := by rw [Int.toNat_natCast, List.getD_eq_getElem?_getD, hy]; rfl
        have hXI : (X : Int) < (n1 : Int) := by have := HN1.out; omega
        have hcv2 : (wr.alloc (.cells #[.int .i64 2, .int .i64 (X : Int)] 47)).cell? ⟨bv, offv + X, none⟩ = some (.int .i64 y) := ((bcell ((Below.refl wr.heap.size wr).alloc (Nat.le_refl _) _)).1 _ _ (World.block_lt_of_cell? wr _ hcv)).trans hcv
        have hstep := (step_var vs ar (X : Int) st).trans (by rw [hyg])
        have hr2 := HRN.out
        rw [hstep] at hr2
        have hc2 : crun vs.length ar.length (code.drop (K + 1)) ((st.length : Int) - takes 2 + 1) = .ok 1 := HCR.out.2.2.2
        rw [show takes 2 = 0 from rfl] at hc2
        have HR2 := Lib.hid (show run vs ar (code.drop (K + 1)) (y :: st) = run vs ar code [] from hr2.symm)
        have HC2 := Lib.hid (show crun vs.length ar.length (code.drop (K + 1)) ((y :: st).length : Nat) = .ok 1 by rw [← hc2]; exact congrArg _ (by simp only [List.length_cons]; omega))
        have HST2 := Lib.hid (show ∀ z ∈ y :: st, isVal z = true by intro z hz; rcases List.mem_cons.1 hz with rfl | hz; exact hyv; exact HST.out z hz)
        have HSL2 := Lib.hid (show (y :: st).length ≤ K + 1 by have := HSL.out; simp only [List.length_cons]; omega)
        have HSM := Lib.hid (show st.length < 31 by have := HSL.out; have := HN.out; have := HOK.out.2.2.1; omega)
        clear hstep hr2 hc2 hyv
        clear hyg hy hx hrt hXl hcv
        go_wp2_with fail
        refine (put_any w1.heap.size st y _ HRA.out HSM.out).mono ?_
        rintro _ w2 ⟨rfl, hrp, htp⟩
        have HRP := Lib.hid hrp
        have HBE2 := Lib.hid (htp.below HBA.out HBA.out.size HBS.out)
        clear hrp htp
        go_wp2_with fail
        go_roundw
        case rel => exact ⟨y :: st, K + 1, rfl, by go_num, by omega, HRP.out, HC2.out, HR2.out, HST2.out, HSL2.out, HBE2.out⟩
        case measure => simp [intOf]; omega
      by_cases o3 : o = 3
      · subst o3
        have hrt := HCR.out.2.1
        rw [show right (3, x) vs.length ar.length = decide (0 ≤ x ∧ x < (ar.length : Int)) from right_three x _ _] at hrt
        have hx := of_decide_eq_true hrt
        obtain ⟨X, rfl⟩ := Int.eq_ofNat_of_zero_le hx.1
        have hXl : X < ar.length := by omega
        obtain ⟨y, hy⟩ : ∃ y, ar[X]? = some y := ⟨_, List.getElem?_eq_getElem hXl⟩
        obtain ⟨bv, offv, rfl, hcv⟩ := (HS2.out.below HBE.out).at (map_at ar X y hy)
        have hyv : isVal y = true := List.all_eq_true.1 HQ2.out y (List.mem_of_getElem? hy)
        have hyg : ar.getD ((X : Int)).toNat 0 = y := by rw [Int.toNat_natCast, List.getD_eq_getElem?_getD, hy]; rfl
        have hXI : (X : Int) < (n2 : Int) := by have := HN2.out; omega
        have hcv2 : (wr.alloc (.cells #[.int .i64 3, .int .i64 (X : Int)] 47)).cell? ⟨bv, offv + X, none⟩ = some (.int .i64 y) := ((bcell ((Below.refl wr.heap.size wr).alloc (Nat.le_refl _) _)).1 _ _ (World.block_lt_of_cell? wr _ hcv)).trans hcv
        have hstep := (step_arg vs ar (X : Int) st).trans (by rw [hyg])
        have hr2 := HRN.out
        rw [hstep] at hr2
        have hc2 : crun vs.length ar.length (code.drop (K + 1)) ((st.length : Int) - takes 3 + 1) = .ok 1 := HCR.out.2.2.2
        rw [show takes 3 = 0 from rfl] at hc2
        have HR2 := Lib.hid (show run vs ar (code.drop (K + 1)) (y :: st) = run vs ar code [] from hr2.symm)
        have HC2 := Lib.hid (show crun vs.length ar.length (code.drop (K + 1)) ((y :: st).length : Nat) = .ok 1 by rw [← hc2]; exact congrArg _ (by simp only [List.length_cons]; omega))
        have HST2 := Lib.hid (show ∀ z ∈ y :: st, isVal z = true by intro z hz; rcases List.mem_cons.1 hz with rfl | hz; exact hyv; exact HST.out z hz)
        have HSL2 := Lib.hid (show (y :: st).length ≤ K + 1 by have := HSL.out; simp only [List.length_cons]; omega)
        have HSM := Lib.hid (show st.length < 31 by have := HSL.out; have := HN.out; have := HOK.out.2.2.1; omega)
        clear hstep hr2 hc2 hyv
        clear hyg hy hx hrt hXl hcv
        go_wp2_with fail
        refine (put_any w1.heap.size st y _ HRA.out HSM.out).mono ?_
        rintro _ w2 ⟨rfl, hrp, htp⟩
        have HRP := Lib.hid hrp
        have HBE2 := Lib.hid (htp.below HBA.out HBA.out.size HBS.out)
        clear hrp htp
        go_wp2_with fail
        go_roundw
        case rel => exact ⟨y :: st, K + 1, rfl, by go_num, by omega, HRP.out, HC2.out, HR2.out, HST2.out, HSL2.out, HBE2.out⟩
        case measure => simp [intOf]; omega
      have b2 : (o == 2) = false := by simp [o2]
      have b3 : (o == 3) = false := by simp [o3]
      by_cases o1 : o = 1
      · subst o1
        have hyv : isVal x = true := by have := HCR.out.2.1; rwa [show right (1, x) vs.length ar.length = isVal x from right_one x _ _] at this
        have hstep := step_none vs ar 1 x st rfl o2 o3
        have hr2 := HRN.out
        rw [hstep] at hr2
        have hc2 : crun vs.length ar.length (code.drop (K + 1)) ((st.length : Int) - takes 1 + 1) = .ok 1 := HCR.out.2.2.2
        rw [show takes 1 = 0 from rfl] at hc2
        have HR2 := Lib.hid (show run vs ar (code.drop (K + 1)) (x :: st) = run vs ar code [] from hr2.symm)
        have HC2 := Lib.hid (show crun vs.length ar.length (code.drop (K + 1)) ((x :: st).length : Nat) = .ok 1 by rw [← hc2]; exact congrArg _ (by simp only [List.length_cons]; omega))
        have HST2 := Lib.hid (show ∀ z ∈ x :: st, isVal z = true by intro z hz; rcases List.mem_cons.1 hz with rfl | hz; exact hyv; exact HST.out z hz)
        have HSL2 := Lib.hid (show (x :: st).length ≤ K + 1 by have := HSL.out; simp only [List.length_cons]; omega)
        have HSM := Lib.hid (show st.length < 31 by have := HSL.out; have := HN.out; have := HOK.out.2.2.1; omega)
        clear hstep hr2 hc2 hyv
        clear o2 o3
        go_wp2_with fail
        refine (put_any w1.heap.size st x _ HRA.out HSM.out).mono ?_
        rintro _ w2 ⟨rfl, hrp, htp⟩
        have HRP := Lib.hid hrp
        have HBE2 := Lib.hid (htp.below HBA.out HBA.out.size HBS.out)
        clear hrp htp
        go_wp2_with fail
        go_roundw
        case rel => exact ⟨x :: st, K + 1, rfl, by go_num, by omega, HRP.out, HC2.out, HR2.out, HST2.out, HSL2.out, HBE2.out⟩
        case measure => simp [intOf]; omega
      have b1 : (o == 1) = false := by simp [o1]
      have htp : 0 < takes o := by
        have h1 := HCR.out.1
        rcases (show takes o = 0 ∨ 0 < takes o by simp only at h1; omega) with h | h
        · have := takes_zero o h; omega
        · exact h
      obtain ⟨m, r, hstep, hlen, hmv, hmr, hcall⟩ := do_step vs ar w1.heap.size o x st _ HRA.out htp HCR.out.2.2.1 HST.out
      have hr2 := HRN.out
      rw [hstep] at hr2
      have HCALL := Lib.hid hcall
      cases m with
      | none =>
        have hev : ev = (0, 3) := by rw [← HEV.out, eval_run code vs ar HER.out (by rw [HQ1.out, HQ2.out]; rfl), hr2]; rfl
        have HE := Lib.hid hev
        clear hr2 hev hstep hmv hmr hlen htp o1 o2 o3 hcall
        go_wp2_with fail
        refine HCALL.out.mono ?_
        rintro _ w2 ⟨⟨rfl, -⟩, ht2⟩
        have HBE2 := Lib.hid (ht2.below HBA.out HBA.out.size HBS.out)
        clear ht2 HCALL
        go_wp2_with fail
        try rw [Exit.noGoto_ret]
        go_ret2
        exact ⟨ret_pair HE.out.symm, HBE2.out⟩
      | some y =>
        have hc2 := HCR.out.2.2.2
        have hc3 : (st.length : Int) - takes (o, x).1 + 1 = (((y :: r).length : Nat) : Int) := hlen.trans (by rw [List.length_cons])
        rw [hc3] at hc2
        have HC2 := Lib.hid hc2
        have HR2 := Lib.hid (show run vs ar (code.drop (K + 1)) (y :: r) = run vs ar code [] from hr2.symm)
        have hyv := hmv y rfl
        have HST2 := Lib.hid (show ∀ z ∈ y :: r, isVal z = true by intro z hz; rcases List.mem_cons.1 hz with rfl | hz; exact hyv; exact HST.out z (hmr z hz))
        have HSL2 := Lib.hid (show (y :: r).length ≤ K + 1 by have := HSL.out; rw [List.length_cons]; omega)
        clear hr2 hc2 hc3 hstep hmv hmr hlen htp o1 o2 o3 hcall hyv
        go_wp2_with fail
        refine HCALL.out.mono ?_
        rintro _ w2 ⟨⟨rfl, hry⟩, ht2⟩
        have HRP := Lib.hid (hry y rfl)
        have HBE2 := Lib.hid (ht2.below HBA.out HBA.out.size HBS.out)
        clear ht2 HCALL hry
        go_wp2_with fail
        go_roundw
        case rel => exact ⟨y :: r, K + 1, rfl, by go_num, by omega, HRP.out, HC2.out, HR2.out, HST2.out, HSL2.out, HBE2.out⟩
        case measure => simp [intOf]; omega
    · have hst1 : st.length = 1 := by
        have h1 := HC.out
        rw [List.drop_eq_nil_of_le (by rw [HN.out]; omega)] at h1
        have h2 : (st.length : Int) = 1 := Except.ok.inj h1
        omega
      obtain ⟨z, rfl⟩ : ∃ z, st = [z] := by
        match st, hst1 with
        | [z], _ => exact ⟨z, rfl⟩
      have hrun : run vs ar code [] = some [z] := by
        have h1 := HR.out
        rw [List.drop_eq_nil_of_le (by rw [HN.out]; omega)] at h1
        exact h1.symm
      have hev : ev = (z, 0) := by
        rw [← HEV.out]; exact eval_of code vs ar z HER.out (List.all_eq_true.1 HQ1.out) (List.all_eq_true.1 HQ2.out) hrun
      have HE := Lib.hid hev
      have hltI : ¬ (K : Int) < (n : Int) := by omega
      clear hev hrun hst1 HC HR
      go_wp2_with fail
      refine (take_any w1.heap.size [] z _ HROW.out).mono ?_
      rintro _ w2 ⟨rfl, hr2, ht2⟩
      have HBE2 := Lib.hid (ht2.below HBE.out HBE.out.size HBS.out)
      clear hr2 ht2
      go_wp2_with fail
      try rw [Exit.noGoto_ret]
      go_ret2
      exact ⟨ret_pair HE.out.symm, HBE2.out⟩
end Go.Proofs.YtgkniocjlkfhmaaDoor.E

namespace Go.Proofs.YtgkniocjlkfhmaaDoor.D
open Go Go.RowKit Go.Proofs.YtgkniocjlkfhmaaDoor.B Go.Proofs.YtgkniocjlkfhmaaDoor.K Go.Proofs.YtgkniocjlkfhmaaDoor.E Go.Proofs.YtgkniocjlkfhmaaDoor.R
set_option linter.unusedVariables false
set_option maxRecDepth 100000

set_option maxHeartbeats 1000000 in
theorem testF_any (vs ar : List Int) (g : Gd) (x v u : Value) (bs bc : Nat) (w : World) (hx : SlI w x g.test) (hg : GdWf g) (hS : w.cell? ⟨bs, 2, none⟩ = some v) (hC : w.cell? ⟨bc, 4, none⟩ = some u) (hv : SlN w v vs) (hu : SlN w u ar)
    (lv : vs.length ≤ 9223372036854775807) (lu : ar.length ≤ 9223372036854775807) :
    Calls Tryd.prog 29 #[.agg #[.int .i64 g.code, x], .pointer (some ⟨bs, 0, none⟩), .pointer (some ⟨bc, 0, none⟩)] w fun z w' => z = .returned (.int .i64 (guardCode vs ar g)) ∧ Below w.heap.size w w' := by
  have HE := Lib.hid (fun (W : World) (hb : Below w.heap.size w W) => eval_any g.test vs ar x v u W (hx.below hb) (Sl.below hv hb) (Sl.below hu hb) hg.2.2 lv lu)
  unfold guardCode
  obtain ⟨C, hCd⟩ : ∃ C, g.code = C := ⟨_, rfl⟩
  obtain ⟨⟨n, e⟩, hne⟩ : ∃ q, eval g.test vs ar = q := ⟨_, rfl⟩
  rw [hne] at HE
  rw [hne, hCd]
  obtain ⟨U, hU⟩ : ∃ U, (if (n, e).2 ≠ 0 then 5 else if (n, e).1 = 0 then C else 0) = U := ⟨_, rfl⟩
  rw [hU]
  have HU := Lib.hid hU
  clear hU
  obtain ⟨W0, hW0⟩ : ∃ W0, w.alloc (.cells #[.int .i64 C, x] 51) = W0 := ⟨_, rfl⟩
  have hB0 : Below w.heap.size w W0 := by rw [← hW0]; exact below_alloc _ _
  have q0 : W0.cell? ⟨w.heap.size, 0, none⟩ = some (.int .i64 C) := by rw [← hW0]; exact box_cell _ _ _ _ _ rfl
  have q1 : W0.cell? ⟨w.heap.size, 1, none⟩ = some x := by rw [← hW0]; exact box_cell _ _ _ _ _ rfl
  have q2 := kept_cell hB0 hS
  have q3 := kept_cell hB0 hC
  have HB0 := Lib.hid hB0
  have H := Lib.hid (HE.out W0 hB0)
  have HQ := Lib.hid q0
  clear HE hS hC hx hg hv hu lv lu hne hCd hB0
  go_enter Tryd.func29, Tryd.ntmps29
  go_wp2_with fail
  refine H.out.mono ?_
  rintro _ w2 ⟨rfl, hb2⟩
  have HB2 := Lib.hid (HB0.out.trans (hb2.mono HB0.out.size))
  have r0 := kept_cell hb2 HQ.out
  clear hb2 q0 q1 q2 q3
  by_cases x0 : e = 0
  · by_cases x1 : n = 0
    · have hu : U = C := by rw [← HU.out]; simp [x0, x1]
      subst hu x0 x1
      clear HU
      go_wp2_with fail
      go_ret
      exact ⟨rfl, HB2.out⟩
    · have hu : U = 0 := by rw [← HU.out]; simp [x0, x1]
      have b1 : (n == 0) = false := beq_eq_false_iff_ne.2 x1
      subst hu x0
      clear HU
      go_wp2_with fail
      go_ret
      exact ⟨rfl, HB2.out⟩
  · have hu : U = 5 := by rw [← HU.out]; simp [x0]
    have b0 : (e == 0) = false := beq_eq_false_iff_ne.2 x0
    subst hu
    clear HU
    go_wp2_with fail
    go_ret
    exact ⟨rfl, HB2.out⟩

/-- A function value that tells the code that a command gets by a guard. -/
def TestF (w : World) (fv : Value) (f : Gd → Int) : Prop :=
  ∃ N caps, fv = .func (.func N) #[] caps ∧ Ent N ∧ ∀ W, Below w.heap.size w W → ∀ (g : Gd) x, SlI W x g.test → GdWf g → Calls Tryd.prog N (#[.agg #[.int .i64 g.code, x]] ++ caps) W fun z W' => z = .returned (.int .i64 (f g)) ∧ Below W.heap.size W W'

theorem TestF.below {w w' : World} {fv : Value} {f : Gd → Int} (h : TestF w fv f) (hb : Below w.heap.size w w') : TestF w' fv f := by
  obtain ⟨N, caps, rfl, hN, h⟩ := h
  exact ⟨N, caps, rfl, hN, fun W hW => h W (hb.trans (hW.mono hb.size))⟩

theorem ent_test : Ent 29 := fun args w => enters_of Tryd.func29 (by kernel_rfl) rfl args w

set_option maxHeartbeats 1000000 in
theorem tester_any (s : Stt) (c : Cm) (v u : Value) (w : World) (hv : SlN w v s.vars) (hu : SlN w u c.args) (lv : s.vars.length ≤ 9223372036854775807) (lu : c.args.length ≤ 9223372036854775807) :
    Calls Tryd.prog 23 #[.agg #[.int .i64 s.pos, .int .i64 s.ver, v], .agg #[.int .i64 c.client, .int .i64 c.seq, sv c.stream, .int .i64 c.rule, u, .int .i64 c.expect]] w fun z w' => ∃ fv, z = .returned fv ∧ TestF w' fv (guardCode s.vars c.args) ∧ Below w.heap.size w w' := by
  obtain ⟨p, hp⟩ : ∃ N, s.pos = N := ⟨_, rfl⟩
  obtain ⟨r, hr⟩ : ∃ N, s.ver = N := ⟨_, rfl⟩
  obtain ⟨cl, hcl⟩ : ∃ N, c.client = N := ⟨_, rfl⟩
  obtain ⟨sq, hsq⟩ : ∃ N, c.seq = N := ⟨_, rfl⟩
  obtain ⟨sr, hsr⟩ : ∃ N, sv c.stream = N := ⟨_, rfl⟩
  obtain ⟨rl, hrl⟩ : ∃ N, c.rule = N := ⟨_, rfl⟩
  obtain ⟨ex, hex⟩ : ∃ N, c.expect = N := ⟨_, rfl⟩
  rw [hp, hr, hcl, hsq, hsr, hrl, hex]
  obtain ⟨W0, hW0⟩ : ∃ W0, w.alloc (.cells #[.int .i64 p, .int .i64 r, v] 24) = W0 := ⟨_, rfl⟩
  obtain ⟨g, hg⟩ : ∃ g, W0.heap.size = g := ⟨_, rfl⟩
  obtain ⟨W1, hW1⟩ : ∃ W1, W0.alloc (.cells #[.int .i64 cl, .int .i64 sq, sr, .int .i64 rl, u, .int .i64 ex] 43) = W1 := ⟨_, rfl⟩
  have hB0 : Below w.heap.size w W0 := by rw [← hW0]; exact below_alloc _ _
  have hB1 : Below W0.heap.size W0 W1 := by rw [← hW1]; exact below_alloc _ _
  have q0 : W0.cell? ⟨w.heap.size, 2, none⟩ = some v := by rw [← hW0]; exact box_cell _ _ _ _ _ rfl
  have q1 : W1.cell? ⟨g, 4, none⟩ = some u := by rw [← hW1, ← hg]; exact box_cell _ _ _ _ _ rfl
  have hB := hB0.trans (hB1.mono hB0.size)
  have HF := Lib.hid (show ∀ W, Below W1.heap.size W1 W → ∀ (gd : Gd) x, SlI W x gd.test → GdWf gd → Calls Tryd.prog 29 (#[.agg #[.int .i64 gd.code, x]] ++ #[.pointer (some ⟨w.heap.size, 0, none⟩), .pointer (some ⟨g, 0, none⟩)]) W fun z W' => z = .returned (.int .i64 (guardCode s.vars c.args gd)) ∧ Below W.heap.size W W' from
    fun W hb gd x hx hgd => testF_any s.vars c.args gd x v u w.heap.size g W hx hgd (kept_cell hb (kept_cell hB1 q0)) (kept_cell hb q1) (Sl.below hv (hB.trans (hb.mono hB.size))) (Sl.below hu (hB.trans (hb.mono hB.size))) lv lu)
  have HB := Lib.hid hB
  clear hB hB0 hB1 q0 q1 hv hu hp hr hcl hsq hsr hrl hex
  go_enter Tryd.func23, Tryd.ntmps23
  go_wp2_with fail
  go_ret
  exact ⟨_, rfl, ⟨_, _, rfl, ent_test, HF.out⟩, HB.out⟩
end Go.Proofs.YtgkniocjlkfhmaaDoor.D

namespace Go.Proofs.YtgkniocjlkfhmaaDoor.D
open Go Go.RowKit Go.Proofs.YtgkniocjlkfhmaaDoor.B Go.Proofs.YtgkniocjlkfhmaaDoor.K Go.Proofs.YtgkniocjlkfhmaaDoor.E Go.Proofs.YtgkniocjlkfhmaaDoor.R
set_option linter.unusedVariables false
set_option maxRecDepth 100000

/-- The first code that is none. -/
def firstCode (f : Gd → Int) : List Gd → Int
  | [] => 0
  | g :: l => if f g ≠ 0 then f g else firstCode f l

theorem refusal_code (vs ar : List Int) : ∀ l : List Gd, refusal vs ar l = firstCode (guardCode vs ar) l
  | [] => rfl
  | g :: l => by unfold refusal firstCode; rw [refusal_code vs ar l]

theorem firstCode_at (f : Gd → Int) (l : List Gd) (K : Nat) (g : Gd) (h : l[K]? = some g) : firstCode f (l.drop K) = if f g ≠ 0 then f g else firstCode f (l.drop (K + 1)) := by
  obtain ⟨hk, e⟩ := List.getElem?_eq_some_iff.1 h
  rw [List.drop_eq_getElem_cons hk, e]; rfl

set_option maxHeartbeats 1000000 in
theorem refusal_any (l : List Gd) (v fv : Value) (f : Gd → Int) (w : World) (h : SlOf w 2 (GdIs w) v l) (hl : l.length ≤ 9223372036854775807) (hw : ∀ g ∈ l, GdWf g) (hf : TestF w fv f) :
    Calls Tryd.prog 22 #[v, fv] w fun z w' => z = .returned (.int .i64 (firstCode f l)) ∧ Below w.heap.size w w' := by
  obtain ⟨a, cap, rfl, h⟩ := h.open
  have HS := Lib.hid h
  have HW := Lib.hid hw
  obtain ⟨N, hN⟩ : ∃ N, l.length = N := ⟨_, rfl⟩
  rw [hN] at hl HS ⊢
  have HL := Lib.hid hl
  have HN := Lib.hid hN
  obtain ⟨F, caps, rfl, hent, hcall⟩ := hf
  have HC := Lib.hid hcall
  have HE := Lib.hid hent
  clear hN hl h hw hcall hent
  go_enter Tryd.func22, Tryd.ntmps22
  go_wp2_with fail
  go_loopw [10] (fun k wr => ∃ (K : Nat), k = .int .i64 (K : Int) ∧ K ≤ N ∧ Hid (Below w.heap.size w wr) ∧ Hid (firstCode f (l.drop K) = firstCode f l)) (fun k _ => N - (intOf k).toNat)
  case atStart => exact ⟨0, rfl, Nat.zero_le _, Lib.hid (Below.refl _ _), Lib.hid rfl⟩
  case round =>
    obtain ⟨K, rfl, hK, HB, HI⟩ := hrel
    by_cases hlt : K < N
    · have hltI : (K : Int) < (N : Int) := by omega
      obtain ⟨g, hg⟩ : ∃ g, l[K]? = some g := ⟨_, List.getElem?_eq_getElem (by rw [HN.out]; exact hlt)⟩
      obtain ⟨b, off, ea, cs, -, ⟨x, rfl, hx⟩, hc⟩ := HS.out.at hg
      subst ea
      obtain ⟨ax, capx, hxe, -⟩ := hx.open
      obtain ⟨nx, hnx⟩ : ∃ n, g.test.length = n := ⟨_, rfl⟩
      rw [hnx] at hxe
      subst hxe
      have k0 := kept_cell HB.out (hc 0 _ rfl)
      have k1 := kept_cell HB.out (hc 1 _ rfl)
      have k0 : wr.cell? ⟨b, off + K * 2, none⟩ = some (.int .i64 g.code) := k0
      have hgw := HW.out g (List.mem_of_getElem? hg)
      have hfc := firstCode_at f l K g hg
      obtain ⟨W1, hW1⟩ : ∃ W1, wr.alloc (.cells #[.int .i64 g.code, .slice ax nx capx] 51) = W1 := ⟨_, rfl⟩
      have hB1 : Below wr.heap.size wr W1 := by rw [← hW1]; exact below_alloc _ _
      obtain ⟨q, hq⟩ : ∃ q, wr.heap.size = q := ⟨_, rfl⟩
      have c0 : W1.cell? ⟨q, 0, none⟩ = some (.int .i64 g.code) := by rw [← hW1, ← hq]; exact box_cell _ _ _ _ _ rfl
      have c1 : W1.cell? ⟨q, 1, none⟩ = some (.slice ax nx capx) := by rw [← hW1, ← hq]; exact box_cell _ _ _ _ _ rfl
      have HB1 := Lib.hid (HB.out.trans (hB1.mono HB.out.size))
      have HCC := Lib.hid (HC.out W1 HB1.out g _ (hx.below HB1.out) hgw)
      have hent := HE.out
      unfold Ent at hent
      have hwK := wrap_next K (Nat.lt_of_lt_of_le hlt HL.out)
      obtain ⟨code, hcode⟩ : ∃ code, g.code = code := ⟨_, rfl⟩
      obtain ⟨y, hy⟩ : ∃ y, f g = y := ⟨_, rfl⟩
      rw [hcode] at k0 c0 hW1 HCC
      rw [hy] at HCC hfc
      have HFC := Lib.hid hfc
      clear hg hc hx hgw hfc hB1 hcode hy HC
      go_wp2_with fail
      refine HCC.out.mono ?_
      rintro _ w2 ⟨rfl, hb2⟩
      have HB2 := Lib.hid (HB1.out.trans (hb2.mono HB1.out.size))
      clear hb2 k0 k1 c0 c1 hW1 hq
      by_cases y0 : y = 0
      · have hb : (y == 0) = true := beq_iff_eq.2 y0
        have HJ := Lib.hid (show firstCode f (l.drop (K + 1)) = firstCode f l by rw [← HI.out, HFC.out, if_neg (by simp [y0])])
        clear HFC y0
        go_wp2_with fail
        go_round
        case rel => exact ⟨K + 1, by go_num, by omega, HB2, HJ⟩
        case measure => simp [intOf]; omega
      · have hb : (y == 0) = false := beq_eq_false_iff_ne.2 y0
        have HJ := Lib.hid (show y = firstCode f l by rw [← HI.out, HFC.out, if_pos y0])
        clear HFC y0
        go_wp2_with fail
        go_ret
        exact ⟨ret_i64 HJ.out, HB2.out⟩
    · have hltI : ¬ (K : Int) < (N : Int) := by omega
      have HJ := Lib.hid (show 0 = firstCode f l by
        rw [← HI.out, List.drop_of_length_le (by have := HN.out; omega)]; rfl)
      go_wp2_with fail
      go_ret
      exact ⟨ret_i64 HJ.out, HB.out⟩
end Go.Proofs.YtgkniocjlkfhmaaDoor.D

namespace Go.Proofs.YtgkniocjlkfhmaaDoor.D
open Go Go.RowKit Go.Proofs.YtgkniocjlkfhmaaDoor.B Go.Proofs.YtgkniocjlkfhmaaDoor.K Go.Proofs.YtgkniocjlkfhmaaDoor.E Go.Proofs.YtgkniocjlkfhmaaDoor.R
set_option linter.unusedVariables false
set_option maxRecDepth 100000

/-- Block g is where a stream stands on its way: its state, its variables (block v, of n), the arguments. -/
def WayAt (w : World) (g : Nat) (pos : Int) (v n : Nat) (av : Value) : Prop := w.heap[g]? = some (.cells #[.int .i64 pos, .slice (some ⟨v, 0, none⟩) n n, av] 80 (0, 0))
theorem WayAt.lt {w : World} {g v n : Nat} {pos : Int} {av : Value} (h : WayAt w g pos v n av) : g < w.heap.size := (Array.getElem?_eq_some_iff.1 h).1
theorem WayAt.cells {w : World} {g v n : Nat} {pos : Int} {av : Value} (h : WayAt w g pos v n av) : (w.cell? ⟨g, 0, none⟩ = some (.int .i64 pos) ∧ w.frozen? ⟨g, 0, none⟩ = false) ∧ w.cell? ⟨g, 1, none⟩ = some (.slice (some ⟨v, 0, none⟩) n n) ∧ w.cell? ⟨g, 2, none⟩ = some av := by
  unfold WayAt at h
  refine ⟨⟨?_, ?_⟩, ?_, ?_⟩ <;> simp [World.cell?, World.frozen?, h]
theorem WayAt.below {w w' : World} {g v n : Nat} {pos : Int} {av : Value} (h : WayAt w g pos v n av) (hb : Below w.heap.size w w') : WayAt w' g pos v n av := (hb.block _ h.lt).trans h
theorem WayAt.tch {w w' : World} {g v n B : Nat} {pos : Int} {av : Value} (h : WayAt w g pos v n av) (hb : Tch B w w') (hn : g ≠ B) : WayAt w' g pos v n av := hb.heap h hn
theorem NumsAt.tch {w w' : World} {g B : Nat} {l : List Int} (h : NumsAt w g l) (hb : Tch B w w') (hn : g ≠ B) : NumsAt w' g l := hb.heap h hn
theorem NumsAt.read {w : World} {g : Nat} {l : List Int} (h : NumsAt w g l) {k : Nat} {x : Int} (hk : l[k]? = some x) : w.cell? ⟨g, k, none⟩ = some (.int .i64 x) := by
  unfold NumsAt at h
  unfold World.cell?; rw [h]
  show (nums l).toArray[k]? = _
  rw [List.getElem?_toArray]; exact nums_at l k x hk
theorem NumsAt.thaw {w : World} {g : Nat} {l : List Int} (h : NumsAt w g l) (k : Nat) : w.frozen? ⟨g, k, none⟩ = false := by
  unfold NumsAt at h
  simp [World.frozen?, h]
theorem NumsAt.set {w : World} {g : Nat} {l : List Int} (h : NumsAt w g l) (k : Nat) (x : Int) : NumsAt (w.setCell ⟨g, k, none⟩ (.int .i64 x)) g (l.set k x) := by
  unfold NumsAt
  rw [← nums_set]
  exact heap_setCell_same w g k _ _ _ h

set_option maxHeartbeats 1000000 in
theorem move_any (p : Sp) (c0 av : Value) (g v n : Nat) (pos : Int) (w : World) (h : WayAt w g pos v n av) (hc : c0.oneCell' = true) :
    Calls Tryd.prog 32 #[.pointer (some ⟨g, 0, none⟩), .agg #[c0, .int .i64 p.to]] w fun z w' => z = .returned (.int .i64 0) ∧ WayAt w' g (goTo p pos) v n av ∧ Tch g w w' := by
  obtain ⟨T, hT⟩ : ∃ T, p.to = T := ⟨_, rfl⟩
  have hgo : goTo p pos = if 0 ≤ T then T else pos := by unfold goTo; rw [hT]
  rw [hgo, hT]
  obtain ⟨W0, hW0⟩ : ∃ W0, w.alloc (.cells #[c0, .int .i64 T] 57) = W0 := ⟨_, rfl⟩
  have hB0 : Below w.heap.size w W0 := by rw [← hW0]; exact below_alloc _ _
  have q1 : W0.cell? ⟨w.heap.size, 1, none⟩ = some (.int .i64 T) := by rw [← hW0]; exact box_cell _ _ _ _ _ rfl
  have HW := Lib.hid (h.below hB0)
  have HB := Lib.hid hB0
  obtain ⟨⟨k0, f0⟩, -, -⟩ := HW.out.cells
  clear h hB0 hT hgo
  by_cases x : 0 ≤ T
  · have b : decide (0 ≤ T) = true := decide_eq_true x
    rw [if_pos x]
    go_enter Tryd.func32, Tryd.ntmps32
    go_wp2_with fail
    go_ret
    refine ⟨rfl, ?_, (Tch.of_below HB.out).trans (Tch.set _ _ _ _)⟩
    exact heap_setCell_same _ g 0 _ _ _ HW.out
  · have b : decide (0 ≤ T) = false := decide_eq_false x
    rw [if_neg x]
    go_enter Tryd.func32, Tryd.ntmps32
    go_wp2_with fail
    go_ret
    exact ⟨rfl, HW.out, Tch.of_below HB.out⟩

theorem copied_n (l : List Int) (n : Nat) (v : Value) (w : World) (hs : SlN w v l) (hn : l.length = n) (hl : n * 8 ≤ 281474976710656) :
    Calls Tryd.prog 10 #[v] w fun z w' => ∃ k, z = .returned (.slice (some ⟨k, 0, none⟩) n n) ∧ w.heap.size ≤ k ∧ NumsAt w' k l ∧ Below w.heap.size w w' := by
  subst hn
  exact copied_any l v w hs hl

/-- Two cells of an event's own. -/
def E2 (w : World) (g : Nat) (a b : Value) : Prop := w.heap[g]? = some (.cells #[a, b] 31 (0, 0))
theorem e2_info : (Tryd.prog.info? 31).map (·.size) = some 2 := by kernel_rfl
theorem E2.cells {w : World} {g : Nat} {a b : Value} (h : E2 w g a b) : (w.cell? ⟨g, 0, none⟩ = some a ∧ w.frozen? ⟨g, 0, none⟩ = false) ∧ (w.cell? ⟨g, 1, none⟩ = some b ∧ w.frozen? ⟨g, 1, none⟩ = false) := by
  unfold E2 at h
  refine ⟨⟨?_, ?_⟩, ⟨?_, ?_⟩⟩ <;> simp [World.cell?, World.frozen?, h]
theorem E2.below {w w' : World} {g : Nat} {a b : Value} (h : E2 w g a b) (hb : Below w.heap.size w w') : E2 w' g a b := (hb.block _ (Array.getElem?_eq_some_iff.1 h).1).trans h
theorem E2.set {w : World} {g : Nat} {a b : Value} (h : E2 w g a b) (x y : Value) : E2 ((w.setCell ⟨g, 0, none⟩ x).setCell ⟨g, 1, none⟩ y) g x y :=
  heap_setCell_same _ g 1 _ 31 _ (heap_setCell_same _ g 0 _ 31 _ h)
theorem E2.drewN {w : World} {g : Nat} {a b : Value} (h : E2 w g a b) (n : Nat) : E2 (w.drewN n) g a b := h

theorem e2_end {fn : Func} {p g : Nat} {R : Ending → World → Prop} {ac : Act} {w : World} (a b : Value) (hres : fn.results = #[.cell p 31]) (hp : ac.tmps.getD p undef = .pointer (some ⟨g, 0, none⟩)) (hd : ac.defers = [])
    (hg : E2 w g a b) (hR : R (.returned (.agg #[a, b])) w) : bodyPost Tryd.prog fn R .ret ac w :=
  bodyPost_ret (v := .agg #[a, b]) (results_cell_row hres _ _ g 31 _ (0, 0) _ hp hg Tryd.underlying31 rfl e2_info) hd hR

set_option maxHeartbeats 2000000 in
theorem event_any (g v n : Nat) (pos : Int) (vs : List Int) (av : Value) (w : World) (h : WayAt w g pos v n av) (hv : NumsAt w v vs) (hn : vs.length = n) (hl : n * 8 ≤ 281474976710656) :
    Calls Tryd.prog 33 #[.pointer (some ⟨g, 0, none⟩)] w fun z w' => ∃ k, z = .returned (.agg #[.int .i64 pos, .slice (some ⟨k, 0, none⟩) n n]) ∧ w.heap.size ≤ k ∧ NumsAt w' k vs ∧ Below w.heap.size w w' := by
  obtain ⟨W0, hW0⟩ : ∃ W0, w.alloc (.cells #[.int .i64 0, .slice none 0 0] 31) = W0 := ⟨_, rfl⟩
  have hB0 : Below w.heap.size w W0 := by rw [← hW0]; exact below_alloc _ _
  have HE := Lib.hid (show E2 W0 w.heap.size (.int .i64 0) (.slice none 0 0) by rw [← hW0]; exact heap_alloc_at _ _)
  have hWy := h.below hB0
  have HP := Lib.hid (fun (W : World) (hb : Below W0.heap.size W0 W) => copied_n vs n (.slice (some ⟨v, 0, none⟩) n n) W (sln_ownN (hv.below (hB0.trans (hb.mono hB0.size))) hn _) hn hl)
  have HB := Lib.hid hB0
  have HW := Lib.hid hWy
  obtain ⟨⟨k0, -⟩, k1, -⟩ := HW.out.cells
  obtain ⟨⟨e0, f0⟩, ⟨e1, f1⟩⟩ := HE.out.cells
  clear h hv hB0 hWy
  go_enter Tryd.func33, Tryd.ntmps33
  go_wp2_with fail
  go_region_law (go_simp; go_at_call 10; refine (HP.out _ ((Below.refl W0.heap.size W0).drew)).mono ?_; rintro _ w2 ⟨k, rfl, hk, hnk, hb2'⟩; have hb2 : Below W0.heap.size W0 w2 := ((Below.refl W0.heap.size W0).drew).trans hb2'; clear hb2'; have HK := Lib.hid hk; have HN := Lib.hid hnk; have HB2 := Lib.hid hb2; have k02 := kept_cell hb2 k0; have k12 := kept_cell hb2 k1; have HE2 := Lib.hid (HE.out.below hb2); obtain ⟨⟨e02, f02⟩, ⟨e12, f12⟩⟩ := HE2.out.cells; clear hk hnk hb2)
  all_goals
    go_wp2_with fail
    have hlt : w.heap.size < W0.heap.size := (Array.getElem?_eq_some_iff.1 HE.out).1
    have hk : W0.heap.size ≤ k := HK.out
    refine e2_end _ _ rfl rfl rfl (HE2.out.set _ _) ⟨k, rfl, by omega, ?_, ?_⟩
    · unfold NumsAt
      rw [heap_setCell_other _ ⟨w.heap.size, 1, none⟩ k _ (by show k ≠ w.heap.size; omega), heap_setCell_other _ ⟨w.heap.size, 0, none⟩ k _ (by show k ≠ w.heap.size; omega)]
      exact HN.out
    · exact ((HB.out.trans (HB2.out.mono HB.out.size)).setCell (p := ⟨w.heap.size, 0, none⟩) (Nat.le_refl _) _).setCell (p := ⟨w.heap.size, 1, none⟩) (Nat.le_refl _) _
end Go.Proofs.YtgkniocjlkfhmaaDoor.D

namespace Go.Proofs.YtgkniocjlkfhmaaDoor.D
open Go Go.RowKit Go.Proofs.YtgkniocjlkfhmaaDoor.B Go.Proofs.YtgkniocjlkfhmaaDoor.K Go.Proofs.YtgkniocjlkfhmaaDoor.E Go.Proofs.YtgkniocjlkfhmaaDoor.R
set_option linter.unusedVariables false
set_option maxRecDepth 100000

theorem setsDo_at (vs ar : List Int) (l : List Se) (K : Nat) (x : Se) (now : List Int) (h : l[K]? = some x) : setsDo vs ar (l.drop K) now = if (eval x.value vs ar).2 ≠ 0 then none else setsDo vs ar (l.drop (K + 1)) (now.set x.var.toNat (eval x.value vs ar).1) := by
  obtain ⟨hk, e⟩ := List.getElem?_eq_some_iff.1 h
  rw [List.drop_eq_getElem_cons hk, e]; rfl

/-- What becomes of the variables. -/
def SetOut (o : Option (List Int)) (v : Nat) (w : World) (z : Ending) (w' : World) : Prop :=
  Tch v w w' ∧ ((o = none ∧ z = .returned (.int .i64 5)) ∨ ∃ now, o = some now ∧ z = .returned (.int .i64 0) ∧ NumsAt w' v now)

set_option maxHeartbeats 4000000 in
theorem set_any (p : Sp) (c0 av : Value) (g v n : Nat) (pos : Int) (vs ar : List Int) (w0 w : World) (hbw : Below w0.heap.size w0 w) (hvg : w0.heap.size ≤ v) (hne : g ≠ v) (h : WayAt w g pos v n av) (hv : NumsAt w v vs) (hn : vs.length = n) (hl : n * 8 ≤ 281474976710656)
    (hs : SlOf w0 2 (SeIs w0) c0 p.sets) (hw : SpWf p) (hvar : ∀ x ∈ p.sets, 0 ≤ x.var ∧ x.var < (n : Int)) (ha : SlN w0 av ar) (hal : ar.length ≤ 9223372036854775807) :
    Calls Tryd.prog 31 #[.pointer (some ⟨g, 0, none⟩), .agg #[c0, .int .i64 p.to]] w (SetOut (setsDo vs ar p.sets vs) v w) := by
  have HLS := Lib.hid hw.2.1
  have HSW := Lib.hid hw.1
  have HVR := Lib.hid hvar
  obtain ⟨T, hT⟩ : ∃ T, p.to = T := ⟨_, rfl⟩
  rw [hT]
  obtain ⟨sets, hsets⟩ : ∃ l, p.sets = l := ⟨_, rfl⟩
  rw [hsets] at HLS HSW HVR hs ⊢
  obtain ⟨a, cap, rfl, hs⟩ := hs.open
  obtain ⟨aa, capa, rfl⟩ := sl_len ha
  rw [List.length_map] at h ha
  have HSL := Lib.hid hs
  obtain ⟨N, hN⟩ : ∃ N, sets.length = N := ⟨_, rfl⟩
  obtain ⟨na, hna⟩ : ∃ N, ar.length = N := ⟨_, rfl⟩
  rw [hN] at HLS HSL ⊢
  rw [hna] at h ha hal
  have HN := Lib.hid hN
  obtain ⟨W0, hW0⟩ : ∃ W0, w.alloc (.cells #[.slice a N cap, .int .i64 T] 57) = W0 := ⟨_, rfl⟩
  have hB0 : Below w.heap.size w W0 := by rw [← hW0]; exact below_alloc _ _
  have q0 : W0.cell? ⟨w.heap.size, 0, none⟩ = some (.slice a N cap) := by rw [← hW0]; exact box_cell _ _ _ _ _ rfl
  have hWy := h.below hB0
  have HP := Lib.hid (copied_n vs n (.slice (some ⟨v, 0, none⟩) n n) W0 (sln_ownN (hv.below hB0) hn _) hn hl)
  have HB := Lib.hid hB0
  have HW := Lib.hid hWy
  have HV := Lib.hid (hv.below hB0)
  have HQ := Lib.hid q0
  have HB00 := Lib.hid (hbw.trans (hB0.mono hbw.size))
  obtain ⟨-, k1, -⟩ := HW.out.cells
  have HNE := Lib.hid hne
  have HVG := Lib.hid hvg
  have HNV := Lib.hid hn
  have HA := Lib.hid ha
  have HVLT := Lib.hid hv.lt
  have HWLT := Lib.hid h.lt
  clear h hv hB0 hWy hbw hvg hne hs ha hN hT hsets hw hvar hn
  go_enter Tryd.func31, Tryd.ntmps31
  go_wp2_with fail
  refine HP.out.mono ?_
  rintro _ w1 ⟨A, rfl, hk, hnA, hb1⟩
  have HB1 := Lib.hid (HB00.out.trans (hb1.mono HB00.out.size))
  have HT1 := Lib.hid ((Tch.of_below (B := v) HB.out).trans (Tch.of_below hb1))
  have HW1 := Lib.hid (HW.out.below hb1)
  have HV1 := Lib.hid (HV.out.below hb1)
  have HNA := Lib.hid hnA
  have q01 := kept_cell hb1 HQ.out
  have hAv : A ≠ v := by have := HB.out.size; have := HVLT.out; omega
  have HAV := Lib.hid hAv
  clear hk hnA hb1 q0 k1 hAv HP HW HV HB HB00 HQ
  go_wp2_with fail
  go_loopw [18] (fun k wr => ∃ (K : Nat) (now : List Int), k = .int .i64 (K : Int) ∧ K ≤ N ∧ Hid (Tch v w wr) ∧ Hid (Below w0.heap.size w0 wr) ∧ Hid (WayAt wr g pos v n (.slice aa na capa)) ∧ Hid (NumsAt wr v now) ∧ Hid (NumsAt wr A vs) ∧ Hid (now.length = n) ∧ Hid (setsDo vs ar (sets.drop K) now = setsDo vs ar sets vs)) (fun k _ => N - (intOf k).toNat)
  case atStart => exact ⟨0, vs, rfl, Nat.zero_le _, HT1, HB1, HW1, HV1, HNA, HNV, Lib.hid rfl⟩
  case round =>
    obtain ⟨K, now, rfl, hK, HT, HB, HW, HV, HNB, HNN, HI⟩ := hrel
    by_cases hlt : K < N
    · have hltI : (K : Int) < (N : Int) := by omega
      obtain ⟨x, hx⟩ : ∃ x, sets[K]? = some x := ⟨_, List.getElem?_eq_getElem (by rw [HN.out]; exact hlt)⟩
      obtain ⟨b, off, ea, cs, -, ⟨cv, rfl, hcv⟩, hc⟩ := HSL.out.at hx
      subst ea
      obtain ⟨ax, capx, hxe, -⟩ := hcv.open
      obtain ⟨nx, hnx⟩ : ∃ n, x.value.length = n := ⟨_, rfl⟩
      rw [hnx] at hxe
      subst hxe
      have k0 := (HB.out.cell (p := ⟨b, off + K * 2, none⟩) (World.block_lt_of_cell? w0 _ (hc 0 _ rfl))).trans (hc 0 _ rfl)
      have k1 := (HB.out.cell (p := ⟨b, off + K * 2 + 1, none⟩) (World.block_lt_of_cell? w0 _ (hc 1 _ rfl))).trans (hc 1 _ rfl)
      have hxm := List.mem_of_getElem? hx
      have hsd := setsDo_at vs ar sets K x now hx
      obtain ⟨y0, y1⟩ := HVR.out x hxm
      obtain ⟨j, hj⟩ : ∃ j : Nat, x.var = (j : Int) := ⟨x.var.toNat, by omega⟩
      rw [hj] at k0 y1 hsd
      rw [Int.toNat_natCast] at hsd
      obtain ⟨old, hold⟩ : ∃ o, now[j]? = some o := ⟨_, List.getElem?_eq_getElem (by rw [HNN.out]; omega)⟩
      have hjn : j < n := by omega
      obtain ⟨W1, hW1⟩ : ∃ W1, wr.alloc (.cells #[.int .i64 (j : Int), .slice ax nx capx] 54) = W1 := ⟨_, rfl⟩
      have hB1 : Below wr.heap.size wr W1 := by rw [← hW1]; exact below_alloc _ _
      obtain ⟨q, hq⟩ : ∃ q, wr.heap.size = q := ⟨_, rfl⟩
      have c0 : W1.cell? ⟨q, 0, none⟩ = some (.int .i64 (j : Int)) := by rw [← hW1, ← hq]; exact box_cell _ _ _ _ _ rfl
      have c1 : W1.cell? ⟨q, 1, none⟩ = some (.slice ax nx capx) := by rw [← hW1, ← hq]; exact box_cell _ _ _ _ _ rfl
      have hBW := HB.out.trans (hB1.mono HB.out.size)
      have HE := Lib.hid (fun (W : World) (hb : Below W1.heap.size W1 W) => eval_any x.value vs ar (.slice ax nx capx) (.slice (some ⟨A, 0, none⟩) n n) (.slice aa na capa) W (hcv.below (hBW.trans (hb.mono hBW.size))) (sln_ownN ((HNB.out.below hB1).below hb) HNV.out _) (Sl.below HA.out (hBW.trans (hb.mono hBW.size))) (HSW.out x hxm).2.2 (by rw [HNV.out]; omega) (by rw [hna]; exact hal))
      obtain ⟨⟨m, e⟩, hme⟩ : ∃ q, eval x.value vs ar = q := ⟨_, rfl⟩
      rw [hme] at HE hsd
      have HSD := Lib.hid hsd
      have HW1 := Lib.hid (HW.out.below hB1)
      have HV1 := Lib.hid (HV.out.below hB1)
      have HNB1 := Lib.hid (HNB.out.below hB1)
      have HT1 := Lib.hid (HT.out.trans (Tch.of_below hB1))
      have HBW := Lib.hid hBW
      have HOLD := Lib.hid hold
      obtain ⟨-, d1, d2⟩ := HW1.out.cells
      have hwK := wrap_next K (Nat.lt_of_lt_of_le hlt HLS.out)
      clear hx hc hcv hxm hsd y0 y1 hj hme hBW hB1 hold HW HV HNB HT HB
      have HC := Lib.hid (fun (W : World) (hS : W.cell? ⟨q, 1, none⟩ = some (.slice ax nx capx) ∧ W.cell? ⟨g, 2, none⟩ = some (.slice aa na capa) ∧ Below W1.heap.size W1 W) => (HE.out W hS.2.2).mono (fun z w' (hz : z = .returned (.tuple #[.int .i64 m, .int .i64 e]) ∧ Below W.heap.size W w') => show z = .returned (.tuple #[.int .i64 m, .int .i64 e]) ∧ w'.cell? ⟨q, 1, none⟩ = some (.slice ax nx capx) ∧ w'.cell? ⟨g, 2, none⟩ = some (.slice aa na capa) ∧ Below W1.heap.size W1 w' from ⟨hz.1, kept_cell hz.2 hS.1, kept_cell hz.2 hS.2.1, hS.2.2.trans (hz.2.mono hS.2.2.size)⟩))
      have HSD0 := Lib.hid (show W1.drew.cell? ⟨q, 1, none⟩ = some (.slice ax nx capx) ∧ W1.drew.cell? ⟨g, 2, none⟩ = some (.slice aa na capa) ∧ Below W1.heap.size W1 W1.drew from ⟨c1, d2, (Below.refl _ _).drew⟩)
      go_upto_region 5 with fail
      have hS0 : W1.drew.cell? ⟨q, 1, none⟩ = some (.slice ax nx capx) ∧ W1.drew.cell? ⟨g, 2, none⟩ = some (.slice aa na capa) ∧ Below W1.heap.size W1 W1.drew := HSD0.out
      have HC0 := Lib.hid c0
      clear c1 d2 c0 d1 k0 k1 hW1 hq
      go_region_held3 (fun Wz => Wz.cell? ⟨q, 1, none⟩ = some (.slice ax nx capx) ∧ Wz.cell? ⟨g, 2, none⟩ = some (.slice aa na capa) ∧ Below W1.heap.size W1 Wz) (first | exact hS0 | assumption) (first | (go_at_call 30; ((with_reducible refine (HC.out _ ?_).mono ?_); (first | exact hS0 | assumption)); rintro _ w2 ⟨rfl, hS1⟩))
      have hb2 := hS1.2.2
      have HW2 := Lib.hid (HW1.out.below hb2)
      have HV2 := Lib.hid (HV1.out.below hb2)
      have HNB2 := Lib.hid (HNB1.out.below hb2)
      have HT2 := Lib.hid (HT1.out.trans (Tch.of_below hb2))
      have HB2 := Lib.hid (HBW.out.trans (hb2.mono HBW.out.size))
      have c0 := kept_cell hb2 HC0.out
      clear hS1 hb2 hS0 HSD0 HW1 HV1 HNB1 HT1 HBW HC HE
      by_cases y0 : e = 0
      · have hb : (e == 0) = true := beq_iff_eq.2 y0
        have HJ := Lib.hid (show setsDo vs ar (sets.drop (K + 1)) (now.set j m) = setsDo vs ar sets vs by rw [← HI.out, HSD.out, if_neg (by simp [y0])])
        obtain ⟨-, d1, -⟩ := HW2.out.cells
        have d3 := HV2.out.read HOLD.out
        have d4 := HV2.out.thaw j
        clear HSD y0
        go_upto_region 8 with fail
        go_still_tail 7, (by kernel_rfl)
        change wpList _ _ _ _ _ w2.drew
        go_wp2_with fail
        go_roundw
        case rel =>
          refine ⟨K + 1, now.set j m, by go_num, by omega, Lib.hid ((HT2.out.drew).trans (Tch.set _ _ _ _)), Lib.hid ((HB2.out.drew).setCell (p := ⟨v, j, none⟩) HVG.out _), Lib.hid ?_, Lib.hid (NumsAt.set (w := w2.drew) HV2.out j m), Lib.hid ?_, Lib.hid (by rw [List.length_set]; exact HNN.out), HJ⟩
          · exact WayAt.tch (w := w2.drew) HW2.out (Tch.set _ _ _ _) HNE.out
          · exact NumsAt.tch (w := w2.drew) HNB2.out (Tch.set _ _ _ _) HAV.out
        case measure => simp [intOf]; omega
      · have hb : (e == 0) = false := beq_eq_false_iff_ne.2 y0
        have HJ := Lib.hid (show setsDo vs ar sets vs = none by rw [← HI.out, HSD.out, if_pos y0])
        clear HSD y0
        go_wp2_with fail
        go_ret
        exact ⟨HT2.out, Or.inl ⟨HJ.out, rfl⟩⟩
    · have hltI : ¬ (K : Int) < (N : Int) := by omega
      have HJ := Lib.hid (show setsDo vs ar sets vs = some now by rw [← HI.out, List.drop_of_length_le (by have := HN.out; omega)]; rfl)
      go_wp2_with fail
      go_ret
      exact ⟨HT.out, Or.inr ⟨now, HJ.out, rfl, HV.out⟩⟩
end Go.Proofs.YtgkniocjlkfhmaaDoor.D
