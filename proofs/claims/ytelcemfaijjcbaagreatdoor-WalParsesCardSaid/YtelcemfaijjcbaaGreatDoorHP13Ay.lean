/-
  Layer 13, the laws: awake.
-/
import Derived.Test.YtelcemfaijjcbaaGreatDoorHP13Ax
namespace Go.Proofs.YtelcemfaijjcbaaGreatDoor.C13
open Go Go.RowKit Go.Proofs Go.Proofs.YtelcemfaijjcbaaGreatDoor.B Go.Proofs.YtelcemfaijjcbaaGreatDoor.K Go.Proofs.YtelcemfaijjcbaaGreatDoor.P8 Go.Proofs.YtelcemfaijjcbaaGreatDoor.C12
set_option linter.unusedVariables false
set_option maxRecDepth 100000
theorem aw_open1 {B d : Nat} (W : World) (h : C12.Own B W d aL0.D) : Calls Tryz.prog 16 #[.pointer (some ⟨d, 0, none⟩), .string ⟨#[108, 111, 103]⟩, .int .i64 64] W fun e w' => ∃ lp, e = .returned (.tuple #[.pointer (some ⟨lp, 0, none⟩), .int .i64 0]) ∧ OnB B lp d 64 aL0 w' ∧ Below B W w' :=
  own_open h rfl (by decide) (mend_none rfl).1 (mend_none rfl).2
theorem aw_app {B lp d : Nat} {L : Lg} (W : World) (h : OnB B lp d 64 L W) (hok : LOk L ∧ (L.l = [] → L.u = 0)) (b : UInt8) : Calls Tryz.prog 24 #[.pointer (some ⟨lp, 0, none⟩), .string ⟨#[b]⟩] W fun e w' => e = .returned (.tuple #[.int .i64 (appG nmW 64 L [b]).2.1, .int .i64 (appG nmW 64 L [b]).2.2]) ∧ OnB B lp d 64 (appG nmW 64 L [b]).1 w' ∧ Below B W w' :=
  onb_of h fun U hU => on_append (Mn := 64) hU hok.1 hok.2 (by decide) [b] (by simp)
theorem aw_open2 {B d : Nat} (W : World) (h : C12.Own B W d aD5) : Calls Tryz.prog 16 #[.pointer (some ⟨d, 0, none⟩), .string ⟨#[108, 111, 103]⟩, .int .i64 64] W fun e w' => ∃ lp D', e = .returned (.tuple #[.pointer (some ⟨lp, 0, none⟩), .int .i64 0]) ∧ OnB B lp d 64 ⟨D', [⟨0, [[97], [98]]⟩], 2⟩ w' ∧ Below B W w' := by
  obtain ⟨ns, by_, T, D', h1, h2⟩ := aw_mend
  refine (own_open h rfl (by decide) h1 h2).mono ?_
  rintro e w' ⟨lp, he, hd, hb⟩
  exact ⟨lp, D', he, hd, hb⟩
set_option maxHeartbeats 4000000 in
theorem awake_any (w : World) : Calls Tryz.prog 8 #[] w fun e w' => e = .returned (.bool true) ∧ Below w.heap.size w w' := by
  obtain ⟨B, hB⟩ : ∃ B, w.heap.size = B := ⟨_, rfl⟩
  have HN := Lib.hid (own_new 1000 w (by decide))
  rw [hB] at HN ⊢
  obtain ⟨i1, i2, i3⟩ := aw_ints
  obtain ⟨o1, o2, o3, o4⟩ := aw_one
  obtain ⟨c1, c2, c3⟩ := aw_enc
  have HO := Lib.hid (fun W d (h : C12.Own B W d aL0.D) => aw_open1 W h)
  have HA1 := Lib.hid (show ∀ W lp d, OnB B lp d 64 aL0 W → Calls Tryz.prog 24 #[.pointer (some ⟨lp, 0, none⟩), .string ⟨#[97]⟩] W fun e w' => ∃ x y, e = .returned (.tuple #[.int .i64 x, .int .i64 y]) ∧ OnB B lp d 64 aL1 w' ∧ Below B W w' from fun W lp d h => (aw_app W h ⟨nil_ok, fun _ => rfl⟩ 97).mono fun e w' ⟨he, h1, h2⟩ => ⟨_, _, he, h1, h2⟩)
  have HA2 := Lib.hid (show ∀ W lp d, OnB B lp d 64 aL1 W → Calls Tryz.prog 24 #[.pointer (some ⟨lp, 0, none⟩), .string ⟨#[98]⟩] W fun e w' => ∃ x y, e = .returned (.tuple #[.int .i64 x, .int .i64 y]) ∧ OnB B lp d 64 aL2 w' ∧ Below B W w' from fun W lp d h => (aw_app W h (one_ok o1 (by decide) c1) 98).mono fun e w' ⟨he, h1, h2⟩ => ⟨_, _, he, h1, h2⟩)
  have HS := Lib.hid (show ∀ W lp d, OnB B lp d 64 aL2 W → Calls Tryz.prog 25 #[.pointer (some ⟨lp, 0, none⟩)] W fun e w' => e = .returned (.int .i64 0) ∧ OnB B lp d 64 aL3 w' ∧ Below B W w' from fun W lp d h => by
    have := onb_of h fun U hU => on_sync hU (one_ok o2 (by decide) c2).1 (one_ok o2 (by decide) c2).2
    rw [i1] at this
    exact this)
  have HA3 := Lib.hid (show ∀ W lp d, OnB B lp d 64 aL3 W → Calls Tryz.prog 24 #[.pointer (some ⟨lp, 0, none⟩), .string ⟨#[99]⟩] W fun e w' => e = .returned (.tuple #[.int .i64 2, .int .i64 0]) ∧ OnB B lp d 64 aL4 w' ∧ Below B W w' from fun W lp d h => by
    have := aw_app W h (one_ok o3 (by decide) c2) 99
    rw [i2] at this
    exact this)
  have HSF := Lib.hid (show ∀ W lp d, OnB B lp d 64 aL4 W → Calls Tryz.prog 20 #[.pointer (some ⟨lp, 0, none⟩)] W fun e w' => e = .returned (.int .i64 2) ∧ OnB B lp d 64 aL4 w' ∧ Below B W w' from fun W lp d h => by
    have := onb_look h fun G hg => on_safe hg
    rw [i3] at this
    exact this)
  have HC := Lib.hid (show ∀ W lp d, OnB B lp d 64 aL4 W → Calls Tryz.prog 15 #[.pointer (some ⟨d, 0, none⟩), .slice (some ⟨W.heap.size, 0, none⟩) 1 1] (W.alloc (.cells #[.int .i64 2] 3)) fun e w' => e = .returned (.int .i64 0) ∧ C12.Own B w' d aD5 ∧ Below B W w' from fun W lp d h => own_crash1 h.own 2 (by decide))
  have HO2 := Lib.hid (fun W d (h : C12.Own B W d aD5) => aw_open2 W h)
  have hok5 : ∀ D', LOk ⟨D', [⟨0, [[97], [98]]⟩], 2⟩ := fun D' => seg_ok ⟨Int.le_refl _, by decide⟩ c2
  have HR := Lib.hid (show ∀ W lp d D', OnB B lp d 64 ⟨D', [⟨0, [[97], [98]]⟩], 2⟩ W → Calls Tryz.prog 23 #[.pointer (some ⟨lp, 0, none⟩), .int .i64 1] W fun e w' => e = .returned (.tuple #[.string ⟨#[98]⟩, .int .i64 0]) ∧ OnB B lp d 64 ⟨D', [⟨0, [[97], [98]]⟩], 2⟩ w' ∧ Below B W w' from fun W lp d D' h => onb_look h fun G hg => on_read hg (hok5 D') 1)
  have HX := Lib.hid (show ∀ W lp d D', OnB B lp d 64 ⟨D', [⟨0, [[97], [98]]⟩], 2⟩ W → Calls Tryz.prog 19 #[.pointer (some ⟨lp, 0, none⟩)] W fun e w' => e = .returned (.int .i64 2) ∧ OnB B lp d 64 ⟨D', [⟨0, [[97], [98]]⟩], 2⟩ w' ∧ Below B W w' from fun W lp d D' h => onb_look h fun G hg => on_next hg (hok5 D'))
  clear i1 i2 i3 o1 o2 o3 o4 c1 c2 c3 hok5 hB
  go_enter Tryz.func8, Tryz.ntmps8
  go_wp2_with (first
    | (go_at_call 12; (with_reducible refine HN.out.mono ?_); rintro _ w1 ⟨d, rfl, ho, hb⟩; have H1 := Lib.hid ho; have B1 := Lib.hid hb; clear ho hb)
    | (go_at_call 16; (with_reducible refine (HO.out _ _ H1.out).mono ?_); rintro _ w2 ⟨lp, rfl, ho, hb⟩; have H2 := Lib.hid ho; have B2 := Lib.hid (B1.out.trans hb); clear ho hb)
    | (go_at_call 24; (with_reducible refine (HA1.out _ _ _ H2.out).mono ?_); rintro _ w3 ⟨x3, y3, rfl, ho, hb⟩; have H3 := Lib.hid ho; have B3 := Lib.hid (B2.out.trans hb); clear ho hb)
    | (go_at_call 24; (with_reducible refine (HA2.out _ _ _ H3.out).mono ?_); rintro _ w4 ⟨x4, y4, rfl, ho, hb⟩; have H4 := Lib.hid ho; have B4 := Lib.hid (B3.out.trans hb); clear ho hb)
    | (go_at_call 25; (with_reducible refine (HS.out _ _ _ H4.out).mono ?_); rintro _ w5 ⟨rfl, ho, hb⟩; have H5 := Lib.hid ho; have B5 := Lib.hid (B4.out.trans hb); clear ho hb)
    | (go_at_call 24; (with_reducible refine (HA3.out _ _ _ H5.out).mono ?_); rintro _ w6 ⟨rfl, ho, hb⟩; have H6 := Lib.hid ho; have B6 := Lib.hid (B5.out.trans hb); clear ho hb)
    | (go_at_call 20; (with_reducible refine (HSF.out _ _ _ H6.out).mono ?_); rintro _ w7 ⟨rfl, ho, hb⟩; have H7 := Lib.hid ho; have B7 := Lib.hid (B6.out.trans hb); clear ho hb)
    | (go_at_call 15; (with_reducible refine (HC.out _ _ _ H7.out).mono ?_); rintro _ w8 ⟨rfl, ho, hb⟩; have H8 := Lib.hid ho; have B8 := Lib.hid (B7.out.trans hb); clear ho hb)
    | (go_at_call 16; (with_reducible refine (HO2.out _ _ H8.out).mono ?_); rintro _ w9 ⟨lp2, D9, rfl, ho, hb⟩; have H9 := Lib.hid ho; have B9 := Lib.hid (B8.out.trans hb); clear ho hb)
    | (go_at_call 23; (with_reducible refine (HR.out _ _ _ _ H9.out).mono ?_); rintro _ w10 ⟨rfl, ho, hb⟩; have H10 := Lib.hid ho; have B10 := Lib.hid (B9.out.trans hb); clear ho hb)
    | (go_at_call 19; (with_reducible refine (HX.out _ _ _ _ H10.out).mono ?_); rintro _ w11 ⟨rfl, ho, hb⟩; have B11 := Lib.hid (B10.out.trans hb); clear ho hb))
  go_ret
  exact ⟨rfl, B11.out⟩
end Go.Proofs.YtelcemfaijjcbaaGreatDoor.C13
