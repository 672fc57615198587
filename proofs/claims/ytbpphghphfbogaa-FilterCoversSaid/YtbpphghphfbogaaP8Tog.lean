/-
  Layer 8: two patterns side by side; what covers, matches and meets, as the program tells it.
-/
import Derived.Test.YtbpphghphfbogaaP8Row
namespace Go.Proofs.Ytbpphghphfbogaa.P8
open Go Go.RowKit Go.Shelf Go.Proofs Go.Proofs.Ytbpphghphfbogaa.B Go.Proofs.Ytbpphghphfbogaa.K
set_option linter.unusedVariables false

theorem eq_bool (a b : List UInt8) : ((str a).toList == (str b).toList) = (a == b) := by rw [str_toList, str_toList]
theorem eq_one (a : List UInt8) : ((str a).toList == [42]) = (a == one) := by rw [str_toList]; rfl
theorem eq_many (a : List UInt8) : ((str a).toList == [42, 42]) = (a == many) := by rw [str_toList]; rfl
theorem eq_none (a : List UInt8) : (str a).toList.isEmpty = a.isEmpty := by rw [str_toList]

set_option maxHeartbeats 1000000 in
set_option maxRecDepth 100000 in
theorem takes_any (a b : List UInt8) (w : World) :
    Calls Try.prog 51 #[.string (str a), .string (str b)] w fun e w' => e = .returned (.bool (takes a b)) ∧ w = w' := by
  have e0 := eq_bool a b
  have e1 := eq_one a
  have e2 := eq_many b
  have e3 := eq_none b
  have hr : takes a b = (a == b || (a == one && (!(b == many) && !b.isEmpty))) := by
    unfold takes
    cases b <;> rfl
  rw [hr]
  obtain ⟨b0, h0⟩ : ∃ x, (a == b) = x := ⟨_, rfl⟩
  obtain ⟨b1, h1⟩ : ∃ x, (a == one) = x := ⟨_, rfl⟩
  obtain ⟨b2, h2⟩ : ∃ x, (b == many) = x := ⟨_, rfl⟩
  obtain ⟨b3, h3⟩ : ∃ x, b.isEmpty = x := ⟨_, rfl⟩
  rw [h0] at e0; rw [h1] at e1; rw [h2] at e2; rw [h3] at e3
  rw [h0, h1, h2, h3]
  clear h0 h1 h2 h3 hr
  go_enter Try.func51, Try.ntmps51
  cases b0 <;> cases b1 <;> cases b2 <;> cases b3 <;> (go_wp2_with fail; go_ret; exact ⟨rfl, rfl⟩)

set_option maxHeartbeats 1000000 in
set_option maxRecDepth 100000 in
theorem freeC_any (a b : List UInt8) (w : World) :
    Calls Try.prog 49 #[.string (str a), .string (str b)] w fun e w' => e = .returned (.bool (freeC a b)) ∧ w = w' := by
  have e1 := eq_many a
  unfold freeC
  obtain ⟨b1, h1⟩ : ∃ x, (a == many) = x := ⟨_, rfl⟩
  rw [h1] at e1 ⊢
  clear h1
  go_enter Try.func49, Try.ntmps49
  cases b1 <;> (go_wp2_with fail; go_ret; exact ⟨rfl, rfl⟩)

set_option maxHeartbeats 1000000 in
set_option maxRecDepth 100000 in
theorem freeM_any (a b : List UInt8) (w : World) :
    Calls Try.prog 54 #[.string (str a), .string (str b)] w fun e w' => e = .returned (.bool (freeM a b)) ∧ w = w' := by
  have e1 := eq_many a
  have e2 := eq_many b
  unfold freeM
  obtain ⟨b1, h1⟩ : ∃ x, (a == many) = x := ⟨_, rfl⟩
  obtain ⟨b2, h2⟩ : ∃ x, (b == many) = x := ⟨_, rfl⟩
  rw [h1] at e1; rw [h2] at e2; rw [h1, h2]
  clear h1 h2
  go_enter Try.func54, Try.ntmps54
  cases b1 <;> cases b2 <;> (go_wp2_with fail; go_ret; exact ⟨rfl, rfl⟩)

set_option maxHeartbeats 1000000 in
set_option maxRecDepth 100000 in
theorem meet_any (a b : List UInt8) (w : World) :
    Calls Try.prog 55 #[.string (str a), .string (str b)] w fun e w' => e = .returned (.bool (meet a b)) ∧ w = w' := by
  have H1 := fun W => takes_any a b W
  have H2 := fun W => takes_any b a W
  unfold meet
  obtain ⟨b1, h1⟩ : ∃ x, takes a b = x := ⟨_, rfl⟩
  obtain ⟨b2, h2⟩ : ∃ x, takes b a = x := ⟨_, rfl⟩
  rw [h1] at H1; rw [h2] at H2; rw [h1, h2]
  clear h1 h2
  go_enter Try.func55, Try.ntmps55
  go_wp2_with fail
  refine (H1 _).mono ?_
  rintro _ w1 ⟨rfl, rfl⟩
  cases b1 with
  | true => go_wp2_with fail; go_ret; exact ⟨rfl, rfl⟩
  | false =>
    go_wp2_with fail
    refine (H2 _).mono ?_
    rintro _ w1 ⟨rfl, rfl⟩
    go_wp2_with fail
    go_ret
    exact ⟨rfl, rfl⟩

theorem tog_succ (free right : List UInt8 → List UInt8 → Bool) (n : Nat) (l m : List UInt8) : tog free right (n + 1) l m = (free (cutP l).1 (cutP m).1 || (right (cutP l).1 (cutP m).1 && ((cutP l).1.isEmpty || tog free right n (cutP l).2.1 (cutP m).2.1))) := rfl

set_option maxHeartbeats 2000000 in
set_option maxRecDepth 100000 in
theorem together_any {N M : Nat} (hN : Ent N) (hM : Ent M) {free right : List UInt8 → List UInt8 → Bool}
    (hf : ∀ a b W, Calls Try.prog N #[.string (str a), .string (str b)] W fun e w' => e = .returned (.bool (free a b)) ∧ W = w')
    (hr : ∀ a b W, Calls Try.prog M #[.string (str a), .string (str b)] W fun e w' => e = .returned (.bool (right a b)) ∧ W = w')
    (l m : List UInt8) (hl : l.length ≤ 32) (hm : m.length ≤ 32) (w : World) :
    Calls Try.prog 50 #[.string (str l), .string (str m), .func (.func N) #[] #[], .func (.func M) #[] #[]] w fun e w' => e = .returned (.bool (tog free right 40 l m)) ∧ Below w.heap.size w w' := by
  unfold Ent at hN hM
  obtain ⟨T, hT⟩ : ∃ T, tog free right 40 l m = T := ⟨_, rfl⟩
  rw [hT]
  go_enter Try.func50, Try.ntmps50
  go_wp2_with fail
  refine (walk_any l _).mono ?_
  rintro _ w1 ⟨rfl, hB, hb⟩
  have HB := Lib.hid hB
  have HBL := Lib.hid hb
  clear hB hb
  go_wp2_with fail
  refine (walk_any m _).mono ?_
  rintro _ w2 ⟨rfl, hB2, hb2⟩
  have HB1 := Lib.hid (HB.out.below hb2)
  have HBL2 := Lib.hid (HBL.out.trans (hb2.mono HBL.out.size))
  have hne : w.heap.size < w1.heap.size := HB.out.lt
  have HB2 := Lib.hid hB2
  clear hb2 hB2 HBL HB
  obtain ⟨B, hBe⟩ : ∃ B, w.heap.size = B := ⟨_, rfl⟩
  obtain ⟨B2, hBe2⟩ : ∃ B, w1.heap.size = B := ⟨_, rfl⟩
  rw [hBe] at hne HB1 HBL2
  rw [hBe2] at hne HB2
  rw [hBe, hBe2]
  go_wp2_with fail
  go_loopg [11, 12, 13, 14] 40 (fun g _ _ _ _ wr => ∃ x y : List UInt8, x.length ≤ 32 ∧ y.length ≤ 32 ∧ x.length < g ∧ Hid (tog free right g x y = T) ∧ Hid (Box wr B x) ∧ Hid (Box wr B2 y) ∧ Hid (Below B w wr))
  case atStart => exact ⟨l, m, hl, hm, by omega, hT, HB1.out, HB2.out, HBL2.out⟩
  case round =>
    obtain ⟨x, y, hx, hy, hxg, HG, HX, HY, HW⟩ := hrel
    cases gk with
    | zero => omega
    | succ g =>
      have hg := HG.out
      rw [tog_succ] at hg
      have hC := next_any HX.out (by omega)
      have hD := fun (W : World) (h : Box W B2 y) => next_any h (show y.length ≤ 1000 by omega)
      have hlx := cut_len x
      have hly := cut_len y
      obtain ⟨⟨a, xr, xm⟩, hcx⟩ : ∃ t, cutP x = t := ⟨_, rfl⟩
      obtain ⟨⟨b, yr, ym⟩, hcy⟩ : ∃ t, cutP y = t := ⟨_, rfl⟩
      rw [hcx] at hC hg hlx
      rw [hcy] at hD hg hly
      simp only at hg hlx hly
      have HC := Lib.hid hC
      have HD := Lib.hid hD
      have hF := fun W => hf a b W
      have hR := fun W => hr a b W
      obtain ⟨f, hfv⟩ : ∃ v, free a b = v := ⟨_, rfl⟩
      obtain ⟨r, hrv⟩ : ∃ v, right a b = v := ⟨_, rfl⟩
      rw [hfv] at hF hg
      rw [hrv] at hR hg
      have HF := Lib.hid hF
      have HR := Lib.hid hR
      have HG2 := Lib.hid hg
      have e3 := eq_none a
      clear hC hD hcx hcy hF hR hfv hrv hg HG
      go_wp2_with fail
      refine HC.out.mono ?_
      rintro _ w3 ⟨rfl, hX3, hT3⟩
      have HX3 := Lib.hid hX3
      have HY3 := Lib.hid (hT3.box HY.out (by omega))
      have HW3 := Lib.hid (Tg.onto HW.out (by omega) (Nat.le_refl _) hT3)
      clear hX3 hT3 HX HY HW
      simp only [sv]
      go_wp2_with fail
      refine (HD.out _ HY3.out).mono ?_
      rintro _ w4 ⟨rfl, hY4, hT4⟩
      have HY4 := Lib.hid hY4
      have HX4 := Lib.hid (hT4.box HX3.out (by omega))
      have HW4 := Lib.hid (Tg.onto HW3.out (by omega) (by omega) hT4)
      clear hY4 hT4 HX3 HY3 HW3
      simp only [sv]
      go_wp2_with fail
      refine (HF.out _).mono ?_
      rintro _ w5 ⟨rfl, rfl⟩
      cases f with
      | true =>
        go_wp2_with fail
        go_ret
        rw [← HG2.out]
        exact ⟨rfl, by first | exact HW4.out | (rw [hBe]; exact HW4.out)⟩
      | false =>
        go_wp2_with fail
        refine (HR.out _).mono ?_
        rintro _ w5 ⟨rfl, rfl⟩
        cases r with
        | false =>
          go_wp2_with fail
          go_ret
          rw [← HG2.out]
          exact ⟨rfl, by first | exact HW4.out | (rw [hBe]; exact HW4.out)⟩
        | true =>
          cases a with
          | nil =>
            have e4 : (str ([] : List UInt8)).toList.isEmpty = true := e3
            go_wp2_with fail
            go_ret
            rw [← HG2.out]
            exact ⟨rfl, by first | exact HW4.out | (rw [hBe]; exact HW4.out)⟩
          | cons a0 ar =>
            have e4 : (str (a0 :: ar)).toList.isEmpty = false := e3
            have hlx' : xr.length < g := by simp at hlx; omega
            have hlx2 : xr.length ≤ 32 := by omega
            have hly2 : yr.length ≤ 32 := by omega
            clear e3 hlx hly
            go_wp2_with fail
            go_roundg g
            case measure => omega
            case rel => exact ⟨xr, yr, hlx2, hly2, hlx', HG2.out, HX4.out, HY4.out, HW4.out⟩
end Go.Proofs.Ytbpphghphfbogaa.P8
