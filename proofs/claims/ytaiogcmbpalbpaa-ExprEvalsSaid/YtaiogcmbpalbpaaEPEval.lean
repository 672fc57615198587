/-
  Contracts of the program of layer 3: areValues, Eval.
-/
import Derived.Test.YtaiogcmbpalbpaaEPDo
import Derived.Test.YtaiogcmbpalbpaaEPCheck
import Derived.Test.YtaiogcmbpalbpaaEEval
namespace Go.Proofs.Ytaiogcmbpalbpaa.E
open Go Go.RowKit Go.Proofs.Ytaiogcmbpalbpaa.B Go.Proofs.Ytaiogcmbpalbpaa.K
set_option linter.unusedVariables false

set_option maxHeartbeats 400000 in
theorem areValues_any (l : List Int) (v : Value) (w : World) (hs : Sl w v (l.map (Value.int .i64))) (hl : l.length ≤ 9223372036854775807) :
    Calls Try.prog 25 #[v] w fun e w' => e = .returned (.bool (l.all isVal)) ∧ w = w' := by
  have HS := Lib.hid hs
  obtain ⟨a, cap, rfl, -⟩ := hs
  rw [List.length_map] at HS ⊢
  have HL := Lib.hid hl
  obtain ⟨n, hN⟩ : ∃ n, l.length = n := ⟨_, rfl⟩
  rw [hN] at HL hl
  have HN := Lib.hid hN
  rw [hN] at HS ⊢
  clear hN hl
  go_enter Try.func25, Try.ntmps25
  go_wp2_with fail
  go_loop [4, 7] (fun _ k => ∃ (K : Nat), k = .int .i64 (K : Int) ∧ K ≤ n ∧ Hid ((l.take K).all isVal = true)) (fun _ k => n - (intOf k).toNat)
  case atStart => exact ⟨0, rfl, Nat.zero_le _, rfl⟩
  case round =>
    obtain ⟨K, rfl, hK, HA⟩ := hrel
    by_cases hlt : K < n
    · obtain ⟨x, hx⟩ : ∃ x, l[K]? = some x := ⟨_, List.getElem?_eq_getElem (by rw [HN.out]; exact hlt)⟩
      obtain ⟨b, off, rfl, h1⟩ := HS.out.at (map_at l K x hx)
      have hwK : IntKind.i64.wrap ((K : Int) + 1) = (K : Int) + 1 := IntWalk.i64_in _ (by have := HL.out; omega)
      have hltI : (K : Int) < (n : Int) := by omega
      cases hV : isVal x with
      | false =>
        have HE := Lib.hid (all_not l K x hx hV)
        have HV := Lib.hid (fun W => (show Calls Try.prog 31 #[.int .i64 x] W fun e w' => e = .returned (.bool false) ∧ W = w' by rw [← hV]; exact isValue_any x W))
        clear hV hx
        go_wp2_with fail
        refine (HV.out _).mono ?_
        rintro _ wv ⟨rfl, rfl⟩
        go_wp2_with fail
        go_ret
        exact ⟨ret_bool HE.out.symm, rfl⟩
      | true =>
        have hall := all_at l K x hx
        rw [HA.out, hV] at hall
        have HALL := Lib.hid hall
        have HV := Lib.hid (fun W => (show Calls Try.prog 31 #[.int .i64 x] W fun e w' => e = .returned (.bool true) ∧ W = w' by rw [← hV]; exact isValue_any x W))
        clear hV hx hall
        go_wp2_with fail
        refine (HV.out _).mono ?_
        rintro _ wv ⟨rfl, rfl⟩
        go_wp2_with fail
        go_round
        case rel => exact ⟨K + 1, by go_num, by omega, HALL.out⟩
        case measure => simp [intOf]; omega
    · have hall : l.all isVal = true := by rw [← HA.out, List.take_of_length_le (by rw [HN.out]; omega)]
      have HALL := Lib.hid hall
      have hltI : ¬ (K : Int) < (n : Int) := by omega
      clear hall HA
      go_wp2_with fail
      go_ret
      exact ⟨ret_bool HALL.out.symm, rfl⟩

/-- An instruction that takes numbers, done to the row. -/
theorem do_step (vs ar : List Int) (B : Nat) (o x : Int) (st : List Int) (w : World) (hr : RowAt w B st) (ht : 0 < takes o) (hl : takes o ≤ (st.length : Int)) (hv : ∀ z ∈ st, isVal z = true) :
    ∃ m r, step vs ar (o, x) st = m.map (· :: r) ∧ (st.length : Int) - takes o + 1 = ((r.length + 1 : Nat) : Int) ∧ (∀ y, m = some y → isVal y = true) ∧ (∀ z ∈ r, z ∈ st) ∧
      Calls Try.prog 27 #[.pointer (some ⟨B, 0, none⟩), .int .i64 o] w fun e w' => Done B r m e w' ∧ Tch B w w' := by
  have htr := takes_range o
  rcases (show takes o = 1 ∨ takes o = 2 ∨ takes o = 3 by omega) with h | h | h
  · match st, hl, hr, hv with
    | [], hl, _, _ => simp at hl; omega
    | a :: r, hl, hr, hv =>
      have ha := hv a (by simp)
      refine ⟨made o a 0 0, r, step_one vs ar o x a r h, by rw [h]; simp only [List.length_cons]; omega, fun y hy => made_val _ _ _ _ _ ha (by decide) (by decide) hy, fun z hz => by simp [hz], do1_any B o a r w hr h ha⟩
  · match st, hl, hr, hv with
    | [], hl, _, _ => simp at hl; omega
    | [a], hl, _, _ => simp at hl; omega
    | b :: a :: r, hl, hr, hv =>
      have ha := hv a (by simp)
      have hb := hv b (by simp)
      refine ⟨made o a b 0, r, step_two vs ar o x a b r h, by rw [h]; simp only [List.length_cons]; omega, fun y hy => made_val _ _ _ _ _ ha hb (by decide) hy, fun z hz => by simp [hz], do2_any B o a b r w hr h ha hb⟩
  · match st, hl, hr, hv with
    | [], hl, _, _ => simp at hl; omega
    | [a], hl, _, _ => simp at hl; omega
    | [b, a], hl, _, _ => simp at hl; omega
    | c :: b :: a :: r, hl, hr, hv =>
      have ha := hv a (by simp)
      have hb := hv b (by simp)
      have hc := hv c (by simp)
      refine ⟨made o a b c, r, step_three vs ar o x a b c r h, by rw [h]; simp only [List.length_cons]; omega, fun y hy => made_val _ _ _ _ _ ha hb hc hy, fun z hz => by simp [hz], do3_any B o a b c r w hr h ha hb hc⟩

theorem row_new (w : World) (cs : Array Value) (hs : cs.size = 32) (h : cs[31]? = some (.int .i64 0)) : RowAt (w.alloc (.cells cs 54)) w.heap.size [] :=
  ⟨cs, heap_alloc_at _ _, hs, by simp, fun j u hj => by simp [rowOf] at hj, h⟩

set_option maxHeartbeats 4000000 in
set_option maxRecDepth 100000 in
theorem eval_any (code : List In) (vs ar : List Int) (v v1 v2 : Value) (w : World) (hs : SlI w v code) (hs1 : Sl w v1 (vs.map (Value.int .i64))) (hs2 : Sl w v2 (ar.map (Value.int .i64)))
    (hl : code.length ≤ 9223372036854775807) (hl1 : vs.length ≤ 9223372036854775807) (hl2 : ar.length ≤ 9223372036854775807) :
    Calls Try.prog 11 #[v, v1, v2] w fun e w' => e = .returned (.tuple #[.int .i64 (eval code vs ar).1, .int .i64 (eval code vs ar).2]) ∧ Below w.heap.size w w' := by
  have HS := Lib.hid hs
  have HS1 := Lib.hid hs1
  have HS2 := Lib.hid hs2
  obtain ⟨a, cap, rfl, -⟩ := hs
  obtain ⟨a1, cap1, rfl, -⟩ := hs1
  obtain ⟨a2, cap2, rfl, -⟩ := hs2
  rw [List.length_map] at HS1 ⊢
  rw [List.length_map] at HS2 ⊢
  have hck := fun W (h : Below w.heap.size w W) => check_any code (.slice a code.length cap) vs.length ar.length W (HS.out.below h) hl
  have hav1 := fun W (h : Below w.heap.size w W) => areValues_any vs (.slice a1 vs.length cap1) W (HS1.out.below h) hl1
  have hav2 := fun W (h : Below w.heap.size w W) => areValues_any ar (.slice a2 ar.length cap2) W (HS2.out.below h) hl2
  have HL1 := Lib.hid hl1; clear hl1
  have HL2 := Lib.hid hl2; clear hl2
  obtain ⟨⟨p, er⟩, hE⟩ : ∃ t, check code vs.length ar.length = t := ⟨_, rfl⟩
  rw [hE] at hck
  have her : (check code vs.length ar.length).2 = er := by rw [hE]
  have HER := Lib.hid her
  obtain ⟨q1, hq1⟩ : ∃ q, vs.all isVal = q := ⟨_, rfl⟩
  obtain ⟨q2, hq2⟩ : ∃ q, ar.all isVal = q := ⟨_, rfl⟩
  rw [hq1] at hav1
  rw [hq2] at hav2
  have HQ1 := Lib.hid hq1
  have HQ2 := Lib.hid hq2
  obtain ⟨n, hN⟩ : ∃ n, code.length = n := ⟨_, rfl⟩
  obtain ⟨n1, hN1⟩ : ∃ n, vs.length = n := ⟨_, rfl⟩
  obtain ⟨n2, hN2⟩ : ∃ n, ar.length = n := ⟨_, rfl⟩
  rw [hN] at HS hck ⊢
  rw [hN1] at HS1 HL1 hck hav1 ⊢
  rw [hN2] at HS2 HL2 hck hav2 ⊢
  have HCK := Lib.hid hck
  have HAV1 := Lib.hid hav1
  have HAV2 := Lib.hid hav2
  have HN := Lib.hid hN
  have HN1 := Lib.hid hN1
  have HN2 := Lib.hid hN2
  clear hN hN1 hN2 hck hE her hl hq1 hq2 hav1 hav2
  by_cases he : er = 0
  rotate_left
  focus
    have hev := eval_bad code vs ar (by rw [HER.out]; exact he)
    rw [HER.out] at hev
    rw [hev]
    have be : (er != 0) = true := by simp [he]
    clear he hev
    go_enter Try.func11, Try.ntmps11
    go_wp2_with fail
    go_step3
    go_wp2_with fail
    refine (HCK.out _ (Below.refl _ _)).mono ?_
    rintro _ w1 ⟨rfl, hb1⟩
    have HB1 := Lib.hid hb1; clear hb1
    go_wp2_with fail
    try rw [Exit.noGoto_ret]
    go_ret2
    exact ⟨rfl, HB1.out⟩
  subst he
  have hok := check_ok code _ _ HER.out
  have HOK := Lib.hid hok; clear hok
  cases q1 with
  | false =>
    have hev := eval_none code vs ar HER.out (by rw [HQ1.out]; rfl)
    rw [hev]
    clear hev
    go_enter Try.func11, Try.ntmps11
    go_wp2_with fail
    go_step3
    go_wp2_with fail
    refine (HCK.out _ (Below.refl _ _)).mono ?_
    rintro _ w1 ⟨rfl, hb1⟩
    have HB1 := Lib.hid hb1; clear hb1
    go_wp2_with (go_at_call 25; refine (HAV1.out _ HB1.out).mono ?_; rintro _ wv ⟨rfl, rfl⟩)
    try rw [Exit.noGoto_ret]
    go_ret2
    exact ⟨rfl, HB1.out⟩
  | true =>
  cases q2 with
  | false =>
    have hev := eval_none code vs ar HER.out (by rw [HQ1.out, HQ2.out]; rfl)
    rw [hev]
    clear hev
    go_enter Try.func11, Try.ntmps11
    go_wp2_with fail
    go_step3
    go_wp2_with fail
    refine (HCK.out _ (Below.refl _ _)).mono ?_
    rintro _ w1 ⟨rfl, hb1⟩
    have HB1 := Lib.hid hb1; clear hb1
    go_wp2_with fail
    refine (HAV1.out _ HB1.out).mono ?_
    rintro _ wv ⟨rfl, rfl⟩
    go_wp2_with fail
    refine (HAV2.out _ HB1.out).mono ?_
    rintro _ wv ⟨rfl, rfl⟩
    go_wp2_with fail
    try rw [Exit.noGoto_ret]
    go_ret2
    exact ⟨rfl, HB1.out⟩
  | true =>
  obtain ⟨ev, hEV⟩ : ∃ ev, eval code vs ar = ev := ⟨_, rfl⟩
  rw [hEV]
  have HEV := Lib.hid hEV; clear hEV
  go_enter Try.func11, Try.ntmps11
  go_wp2_with fail
  go_step3
  go_wp2_with fail
  refine (HCK.out _ (Below.refl _ _)).mono ?_
  rintro _ w1 ⟨rfl, hb1⟩
  have HB1 := Lib.hid hb1; clear hb1
  go_wp2_with fail
  refine (HAV1.out _ HB1.out).mono ?_
  rintro _ wv ⟨rfl, rfl⟩
  go_wp2_with fail
  refine (HAV2.out _ HB1.out).mono ?_
  rintro _ wv ⟨rfl, rfl⟩
  go_wp2_with fail
  go_step3
  go_wp2_with fail
  have HBS := Lib.hid HB1.out.size
  have hrow0 := row_new w1 #[.int .i64 0, .int .i64 0, .int .i64 0, .int .i64 0, .int .i64 0, .int .i64 0, .int .i64 0, .int .i64 0, .int .i64 0, .int .i64 0, .int .i64 0, .int .i64 0, .int .i64 0, .int .i64 0, .int .i64 0, .int .i64 0, .int .i64 0, .int .i64 0, .int .i64 0, .int .i64 0, .int .i64 0, .int .i64 0, .int .i64 0, .int .i64 0, .int .i64 0, .int .i64 0, .int .i64 0, .int .i64 0, .int .i64 0, .int .i64 0, .int .i64 0, .int .i64 0] rfl rfl
  have HROW0 := Lib.hid hrow0
  have HBE0 := Lib.hid (HB1.out.alloc HB1.out.size (.cells #[Value.int .i64 0, Value.int .i64 0, Value.int .i64 0, Value.int .i64 0, Value.int .i64 0, Value.int .i64 0, Value.int .i64 0, Value.int .i64 0, Value.int .i64 0, Value.int .i64 0, Value.int .i64 0, Value.int .i64 0, Value.int .i64 0, Value.int .i64 0, Value.int .i64 0, Value.int .i64 0, Value.int .i64 0, Value.int .i64 0, Value.int .i64 0, Value.int .i64 0, Value.int .i64 0, Value.int .i64 0, Value.int .i64 0, Value.int .i64 0, Value.int .i64 0, Value.int .i64 0, Value.int .i64 0, Value.int .i64 0, Value.int .i64 0, Value.int .i64 0, Value.int .i64 0, Value.int .i64 0] 54))
  clear hrow0
  go_loopw [11, 13, 36] (fun e _ k wr => ∃ (st : List Int) (K : Nat), e = .int .i64 0 ∧ k = .int .i64 (K : Int) ∧ K ≤ n ∧ Hid (RowAt wr w1.heap.size st) ∧ Hid (crun vs.length ar.length (code.drop K) st.length = .ok 1) ∧ Hid (run vs ar (code.drop K) st = run vs ar code []) ∧ Hid (∀ x ∈ st, isVal x = true) ∧ Hid (st.length ≤ K) ∧ Hid (Below w.heap.size w wr)) (fun _ _ k _ => n - (intOf k).toNat)
  case atStart => exact ⟨[], 0, rfl, rfl, Nat.zero_le _, HROW0.out, HOK.out.2.2.2, rfl, (fun x hx => by cases hx), Nat.le_refl 0, HBE0.out⟩
  case round =>
    obtain ⟨st, K, rfl, rfl, hK, HROW, HC, HR, HST, HSL, HBE⟩ := hrel
    clear HROW0 HBE0
    by_cases hlt : K < n
    · obtain ⟨i, hi'⟩ : ∃ i, code[K]? = some i := ⟨_, List.getElem?_eq_getElem (by rw [HN.out]; exact hlt)⟩
      obtain ⟨b, off, rfl, h1, h2⟩ := (HS.out.below HBE.out).at hi'
      have hcr := crun_at _ _ code K i hi' _ _ HC.out
      have hrn := run_at vs ar code K i hi' st
      rw [HR.out] at hrn
      have hwK : IntKind.i64.wrap ((K : Int) + 1) = (K : Int) + 1 := IntWalk.i64_in _ (by have := HOK.out.2.2.1; have := HN.out; omega)
      have hltI : (K : Int) < (n : Int) := by omega
      have HRA := Lib.hid (HROW.out.below ((Below.refl _ _).alloc (Nat.le_refl _) (.cells #[.int .i64 i.1, .int .i64 i.2] 47)))
      have HBA := Lib.hid (HBE.out.alloc HBE.out.size (.cells #[.int .i64 i.1, .int .i64 i.2] 47))
      obtain ⟨o, x⟩ := i
      have HRN := Lib.hid hrn
      have HCR := Lib.hid hcr
      clear hi' HC HR hrn hcr
      by_cases o2 : o = 2
      · subst o2
        have hrt := HCR.out.2.1
        rw [show right (2, x) vs.length ar.length = decide (0 ≤ x ∧ x < (vs.length : Int)) from right_two x _ _] at hrt
        have hx := of_decide_eq_true hrt
        obtain ⟨X, rfl⟩ := Int.eq_ofNat_of_zero_le hx.1
        have hXl : X < vs.length := by omega
        obtain ⟨y, hy⟩ : ∃ y, vs[X]? = some y := ⟨_, List.getElem?_eq_getElem hXl⟩
        obtain ⟨bv, offv, rfl, hcv⟩ := (HS1.out.below HBE.out).at (map_at vs X y hy)
        have hyv : isVal y = true := List.all_eq_true.1 HQ1.out y (List.mem_of_getElem? hy)
        have hyg : vs.getD ((X : Int)).toNat 0 = y := by rw [Int.toNat_natCast, List.getD_eq_getElem?_getD, hy]; rfl
        have hXI : (X : Int) < (n1 : Int) := by have := HN1.out; omega
        have hcv2 : (wr.alloc (.cells #[.int .i64 2, .int .i64 (X : Int)] 47)).cell? ⟨bv, offv + X, none⟩ = some (.int .i64 y) := ((bcell ((Below.refl wr.heap.size wr).alloc (Nat.le_refl _) _)).1 _ _ (World.block_lt_of_cell? wr _ hcv)).trans hcv
        have hstep := (step_var vs ar (X : Int) st).trans (by rw [hyg])
        have hr2 := HRN.out
        rw [hstep] at hr2
        have hc2 : crun vs.length ar.length (code.drop (K + 1)) ((st.length : Int) - takes 2 + 1) = .ok 1 := HCR.out.2.2.2
        rw [show takes 2 = 0 from rfl] at hc2
        have HR2 := Lib.hid (show run vs ar (code.drop (K + 1)) (y :: st) = run vs ar code [] from hr2.symm)
        have HC2 := Lib.hid (show crun vs.length ar.length (code.drop (K + 1)) ((y :: st).length : Nat) = .ok 1 by rw [← hc2]; exact congrArg _ (by simp only [List.length_cons]; omega))
        have HST2 := Lib.hid (show ∀ z ∈ y :: st, isVal z = true by intro z hz; rcases List.mem_cons.1 hz with rfl | hz; exact hyv; exact HST.out z hz)
        have HSL2 := Lib.hid (show (y :: st).length ≤ K + 1 by have := HSL.out; simp only [List.length_cons]; omega)
        have HSM := Lib.hid (show st.length < 31 by have := HSL.out; have := HN.out; have := HOK.out.2.2.1; omega)
        clear hstep hr2 hc2 hyv
        clear hyg hy hx hrt hXl hcv
        go_wp2_with fail
        refine (put_any w1.heap.size st y _ HRA.out HSM.out).mono ?_
        rintro _ w2 ⟨rfl, hrp, htp⟩
        have HRP := Lib.hid hrp
        have HBE2 := Lib.hid (htp.below HBA.out HBA.out.size HBS.out)
        clear hrp htp
        go_wp2_with fail
        go_roundw
        case rel => exact ⟨y :: st, K + 1, rfl, by go_num, by omega, HRP.out, HC2.out, HR2.out, HST2.out, HSL2.out, HBE2.out⟩
        case measure => simp [intOf]; omega
      by_cases o3 : o = 3
      · subst o3
        have hrt := HCR.out.2.1
        rw [show right (3, x) vs.length ar.length = decide (0 ≤ x ∧ x < (ar.length : Int)) from right_three x _ _] at hrt
        have hx := of_decide_eq_true hrt
        obtain ⟨X, rfl⟩ := Int.eq_ofNat_of_zero_le hx.1
        have hXl : X < ar.length := by omega
        obtain ⟨y, hy⟩ : ∃ y, ar[X]? = some y := ⟨_, List.getElem?_eq_getElem hXl⟩
        obtain ⟨bv, offv, rfl, hcv⟩ := (HS2.out.below HBE.out).at (map_at ar X y hy)
        have hyv : isVal y = true := List.all_eq_true.1 HQ2.out y (List.mem_of_getElem? hy)
        have hyg : ar.getD ((X : Int)).toNat 0 = y := by rw [Int.toNat_natCast, List.getD_eq_getElem?_getD, hy]; rfl
        have hXI : (X : Int) < (n2 : Int) := by have := HN2.out; omega
        have hcv2 : (wr.alloc (.cells #[.int .i64 3, .int .i64 (X : Int)] 47)).cell? ⟨bv, offv + X, none⟩ = some (.int .i64 y) := ((bcell ((Below.refl wr.heap.size wr).alloc (Nat.le_refl _) _)).1 _ _ (World.block_lt_of_cell? wr _ hcv)).trans hcv
        have hstep := (step_arg vs ar (X : Int) st).trans (by rw [hyg])
        have hr2 := HRN.out
        rw [hstep] at hr2
        have hc2 : crun vs.length ar.length (code.drop (K + 1)) ((st.length : Int) - takes 3 + 1) = .ok 1 := HCR.out.2.2.2
        rw [show takes 3 = 0 from rfl] at hc2
        have HR2 := Lib.hid (show run vs ar (code.drop (K + 1)) (y :: st) = run vs ar code [] from hr2.symm)
        have HC2 := Lib.hid (show crun vs.length ar.length (code.drop (K + 1)) ((y :: st).length : Nat) = .ok 1 by rw [← hc2]; exact congrArg _ (by simp only [List.length_cons]; omega))
        have HST2 := Lib.hid (show ∀ z ∈ y :: st, isVal z = true by intro z hz; rcases List.mem_cons.1 hz with rfl | hz; exact hyv; exact HST.out z hz)
        have HSL2 := Lib.hid (show (y :: st).length ≤ K + 1 by have := HSL.out; simp only [List.length_cons]; omega)
        have HSM := Lib.hid (show st.length < 31 by have := HSL.out; have := HN.out; have := HOK.out.2.2.1; omega)
        clear hstep hr2 hc2 hyv
        clear hyg hy hx hrt hXl hcv
        go_wp2_with fail
        refine (put_any w1.heap.size st y _ HRA.out HSM.out).mono ?_
        rintro _ w2 ⟨rfl, hrp, htp⟩
        have HRP := Lib.hid hrp
        have HBE2 := Lib.hid (htp.below HBA.out HBA.out.size HBS.out)
        clear hrp htp
        go_wp2_with fail
        go_roundw
        case rel => exact ⟨y :: st, K + 1, rfl, by go_num, by omega, HRP.out, HC2.out, HR2.out, HST2.out, HSL2.out, HBE2.out⟩
        case measure => simp [intOf]; omega
      have b2 : (o == 2) = false := by simp [o2]
      have b3 : (o == 3) = false := by simp [o3]
      by_cases o1 : o = 1
      · subst o1
        have hyv : isVal x = true := by have := HCR.out.2.1; rwa [show right (1, x) vs.length ar.length = isVal x from right_one x _ _] at this
        have hstep := step_none vs ar 1 x st rfl o2 o3
        have hr2 := HRN.out
        rw [hstep] at hr2
        have hc2 : crun vs.length ar.length (code.drop (K + 1)) ((st.length : Int) - takes 1 + 1) = .ok 1 := HCR.out.2.2.2
        rw [show takes 1 = 0 from rfl] at hc2
        have HR2 := Lib.hid (show run vs ar (code.drop (K + 1)) (x :: st) = run vs ar code [] from hr2.symm)
        have HC2 := Lib.hid (show crun vs.length ar.length (code.drop (K + 1)) ((x :: st).length : Nat) = .ok 1 by rw [← hc2]; exact congrArg _ (by simp only [List.length_cons]; omega))
        have HST2 := Lib.hid (show ∀ z ∈ x :: st, isVal z = true by intro z hz; rcases List.mem_cons.1 hz with rfl | hz; exact hyv; exact HST.out z hz)
        have HSL2 := Lib.hid (show (x :: st).length ≤ K + 1 by have := HSL.out; simp only [List.length_cons]; omega)
        have HSM := Lib.hid (show st.length < 31 by have := HSL.out; have := HN.out; have := HOK.out.2.2.1; omega)
        clear hstep hr2 hc2 hyv
        clear o2 o3
        go_wp2_with fail
        refine (put_any w1.heap.size st x _ HRA.out HSM.out).mono ?_
        rintro _ w2 ⟨rfl, hrp, htp⟩
        have HRP := Lib.hid hrp
        have HBE2 := Lib.hid (htp.below HBA.out HBA.out.size HBS.out)
        clear hrp htp
        go_wp2_with fail
        go_roundw
        case rel => exact ⟨x :: st, K + 1, rfl, by go_num, by omega, HRP.out, HC2.out, HR2.out, HST2.out, HSL2.out, HBE2.out⟩
        case measure => simp [intOf]; omega
      have b1 : (o == 1) = false := by simp [o1]
      have htp : 0 < takes o := by
        have h1 := HCR.out.1
        rcases (show takes o = 0 ∨ 0 < takes o by simp only at h1; omega) with h | h
        · have := takes_zero o h; omega
        · exact h
      obtain ⟨m, r, hstep, hlen, hmv, hmr, hcall⟩ := do_step vs ar w1.heap.size o x st _ HRA.out htp HCR.out.2.2.1 HST.out
      have hr2 := HRN.out
      rw [hstep] at hr2
      have HCALL := Lib.hid hcall
      cases m with
      | none =>
        have hev : ev = (0, 3) := by rw [← HEV.out, eval_run code vs ar HER.out (by rw [HQ1.out, HQ2.out]; rfl), hr2]; rfl
        have HE := Lib.hid hev
        clear hr2 hev hstep hmv hmr hlen htp o1 o2 o3 hcall
        go_wp2_with fail
        refine HCALL.out.mono ?_
        rintro _ w2 ⟨⟨rfl, -⟩, ht2⟩
        have HBE2 := Lib.hid (ht2.below HBA.out HBA.out.size HBS.out)
        clear ht2 HCALL
        go_wp2_with fail
        try rw [Exit.noGoto_ret]
        go_ret2
        exact ⟨ret_pair HE.out.symm, HBE2.out⟩
      | some y =>
        have hc2 := HCR.out.2.2.2
        have hc3 : (st.length : Int) - takes (o, x).1 + 1 = (((y :: r).length : Nat) : Int) := hlen.trans (by rw [List.length_cons])
        rw [hc3] at hc2
        have HC2 := Lib.hid hc2
        have HR2 := Lib.hid (show run vs ar (code.drop (K + 1)) (y :: r) = run vs ar code [] from hr2.symm)
        have hyv := hmv y rfl
        have HST2 := Lib.hid (show ∀ z ∈ y :: r, isVal z = true by intro z hz; rcases List.mem_cons.1 hz with rfl | hz; exact hyv; exact HST.out z (hmr z hz))
        have HSL2 := Lib.hid (show (y :: r).length ≤ K + 1 by have := HSL.out; rw [List.length_cons]; omega)
        clear hr2 hc2 hc3 hstep hmv hmr hlen htp o1 o2 o3 hcall hyv
        go_wp2_with fail
        refine HCALL.out.mono ?_
        rintro _ w2 ⟨⟨rfl, hry⟩, ht2⟩
        have HRP := Lib.hid (hry y rfl)
        have HBE2 := Lib.hid (ht2.below HBA.out HBA.out.size HBS.out)
        clear ht2 HCALL hry
        go_wp2_with fail
        go_roundw
        case rel => exact ⟨y :: r, K + 1, rfl, by go_num, by omega, HRP.out, HC2.out, HR2.out, HST2.out, HSL2.out, HBE2.out⟩
        case measure => simp [intOf]; omega
    · have hst1 : st.length = 1 := by
        have h1 := HC.out
        rw [List.drop_eq_nil_of_le (by rw [HN.out]; omega)] at h1
        have h2 : (st.length : Int) = 1 := Except.ok.inj h1
        omega
      obtain ⟨z, rfl⟩ : ∃ z, st = [z] := by
        match st, hst1 with
        | [z], _ => exact ⟨z, rfl⟩
      have hrun : run vs ar code [] = some [z] := by
        have h1 := HR.out
        rw [List.drop_eq_nil_of_le (by rw [HN.out]; omega)] at h1
        exact h1.symm
      have hev : ev = (z, 0) := by
        rw [← HEV.out]; exact eval_of code vs ar z HER.out (List.all_eq_true.1 HQ1.out) (List.all_eq_true.1 HQ2.out) hrun
      have HE := Lib.hid hev
      have hltI : ¬ (K : Int) < (n : Int) := by omega
      clear hev hrun hst1 HC HR
      go_wp2_with fail
      refine (take_any w1.heap.size [] z _ HROW.out).mono ?_
      rintro _ w2 ⟨rfl, hr2, ht2⟩
      have HBE2 := Lib.hid (ht2.below HBE.out HBE.out.size HBS.out)
      clear hr2 ht2
      go_wp2_with fail
      try rw [Exit.noGoto_ret]
      go_ret2
      exact ⟨ret_pair HE.out.symm, HBE2.out⟩
end Go.Proofs.Ytaiogcmbpalbpaa.E
