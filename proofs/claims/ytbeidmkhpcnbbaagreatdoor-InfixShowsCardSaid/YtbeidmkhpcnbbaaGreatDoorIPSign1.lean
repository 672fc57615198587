/-
  Contracts of the program's reader of layer 4: one.
-/
import Derived.Test.YtbeidmkhpcnbbaaGreatDoorIPOne
namespace Go.Proofs.YtbeidmkhpcnbbaaGreatDoor.I
open Go Go.RowKit Go.Proofs.YtbeidmkhpcnbbaaGreatDoor.B Go.Proofs.YtbeidmkhpcnbbaaGreatDoor.K Go.Proofs.YtbeidmkhpcnbbaaGreatDoor.E
set_option linter.unusedVariables false

theorem at_behind {t : Bs} {p : Nat} {l : List Tk} (h : At t p [45] l) : p + 1 ≤ t.length ∧ Lx (p + 1) (t.drop (p + 1)) l := h.next (by decide)

theorem behind_not {t : Bs} {p : Nat} {l : List Tk} (h : At t p [45] l) (hn : ¬ near p l) : wd (t.drop (p + 1)) = [] ∨ ∃ c x, wd (t.drop (p + 1)) = c :: x ∧ digit c = false := by
  obtain ⟨h1, h2⟩ := at_behind h
  obtain ⟨⟨q, s⟩, r, rfl⟩ := lx_cons h2
  rcases lx_step h1 h2 with ⟨h3, _⟩ | ⟨_, rfl, h4⟩
  · left
    obtain ⟨hq, he⟩ := List.getElem?_eq_some_iff.1 h3
    rw [List.drop_eq_getElem_cons hq, he]
    rw [wd_cons, if_neg (by decide), if_neg (by decide), if_neg (fun h => absurd h.1 (by decide)), if_neg (by decide)]
    exact sgn_blank _
  · rw [h4.wd]
    cases s with
    | nil => left; rfl
    | cons c x =>
      right
      have hd : digit c = false := by
        cases hd : digit c with
        | false => rfl
        | true => exact absurd ⟨c, x, r, rfl, hd⟩ hn
      by_cases hl : letter c = true
      · exact ⟨c, x.take 23, by show (if letter c = true then _ else _) = _; rw [if_pos hl]; rfl, hd⟩
      · exact ⟨c, x, by show (if letter c = true then _ else _) = _; rw [if_neg hl], hd⟩

section
variable {f : Nat → Option Obj} {W0 : World} {B p : Nat} {t s : Bs} {v1 : Value} {na : Int} {c0 : List In} {r : List Tk}

set_option maxHeartbeats 1000000 in
set_option maxRecDepth 100000 in
/-- What has no sign ahead. -/
theorem one_atom (x : Rs) (w : World) (hg : Glob W0) (h : Rd f W0 B t v1 na p s c0 0 w) (h1 : s ≠ [33]) (h2 : s ≠ [45])
    (hat : Calls Tryz.prog 84 #[.pointer (some ⟨B, 0, none⟩)] w fun z w' => Out f W0 B t v1 na c0 x z w') :
    Calls Tryz.prog 78 #[.pointer (some ⟨B, 0, none⟩)] w fun z w' => Out f W0 B t v1 na c0 x z w' := by
  obtain ⟨_, ⟨_, _, _, _, c4, _, _⟩, _, _⟩ := h.cells
  have hgw := h.glob hg
  have g5 := hgw.cell 5 [33] rfl
  have g4 := hgw.cell 4 [45] rfl
  have e1 : ((str s).toList == (str [33]).toList) = false := by rw [str_toList, str_toList]; exact beq_eq_false_iff_ne.2 h1
  have e2 : ((str s).toList == (str [45]).toList) = false := by rw [str_toList, str_toList]; exact beq_eq_false_iff_ne.2 h2
  have HA := Lib.hid hat
  unfold sv at c4 g5 g4
  clear h hg hgw h1 h2 hat
  go_enter Tryz.func78, Tryz.ntmps78
  go_wp2_with (go_at_call 84; refine HA.out.mono ?_; rintro z w1 hz; obtain ⟨b, rfl, hz2⟩ := hz.ret; have HZ := Lib.hid hz2; clear hz hz2)
  go_ret
  exact HZ.out

set_option maxHeartbeats 1000000 in
set_option maxRecDepth 100000 in
/-- Not. -/
theorem one_not (x : Rs) (hop : Opd W0 B t v1 na 78 r x) (w : World) (hg : Glob W0) (h : Rd f W0 B t v1 na p [33] c0 0 w) (hat : At t p [33] r) (htl : t.length ≤ 2048) (hb : c0.length + r.length ≤ 1000000) (hx : ∀ d t', x = .ok d t' → d.length ≤ 1000000) :
    Calls Tryz.prog 78 #[.pointer (some ⟨B, 0, none⟩)] w fun z w' => Out f W0 B t v1 na c0 (x.snoc (5, 0)) z w' := by
  obtain ⟨_, ⟨_, _, _, _, c4, _, _⟩, _, _⟩ := h.cells
  have g5 := (h.glob hg).cell 5 [33] rfl
  have e1 : ((str [33]).toList == (str [33]).toList) = true := by simp
  have HA := Lib.hid (second_any 78 ent_one x hop w 5 hg h hat (by decide) htl hb hx)
  unfold sv at c4 g5
  clear h hg hop hat htl hb hx
  go_enter Tryz.func78, Tryz.ntmps78
  go_wp2_with (go_at_call 50; refine HA.out.mono ?_; rintro z w1 hz; obtain ⟨b, rfl, hz2⟩ := hz.ret; have HZ := Lib.hid hz2; clear hz hz2)
  go_ret
  exact HZ.out

set_option maxHeartbeats 1000000 in
set_option maxRecDepth 100000 in
/-- Minus something. -/
theorem one_neg (x : Rs) (hop : Opd W0 B t v1 na 78 r x) (hn : ¬ near p r) (w : World) (hg : Glob W0) (h : Rd f W0 B t v1 na p [45] c0 0 w) (hat : At t p [45] r) (htl : t.length ≤ 2048) (hb : c0.length + r.length ≤ 1000000) (hx : ∀ d t', x = .ok d t' → d.length ≤ 1000000) :
    Calls Tryz.prog 78 #[.pointer (some ⟨B, 0, none⟩)] w fun z w' => Out f W0 B t v1 na c0 (x.snoc (4, 0)) z w' := by
  obtain ⟨_, ⟨c0', _, _, c3, c4, _, _⟩, _, _⟩ := h.cells
  have hgw := h.glob hg
  have g5 := hgw.cell 5 [33] rfl
  have g4 := hgw.cell 4 [45] rfl
  have e1 : ((str [45]).toList == (str [33]).toList) = false := by rw [str_toList, str_toList]; rfl
  have e2 : ((str [45]).toList == (str [45]).toList) = true := by simp
  obtain ⟨b1, b2⟩ := at_behind hat
  have hp1 : IntKind.i64.wrap ((p : Int) + 1) = (p : Int) + 1 := IntWalk.i64_in _ (by omega)
  have hwa := fun W hW => wordAt_any t (t.drop (p + 1)) (p + 1) W hW b1 rfl (by omega)
  rw [show ((p + 1 : Nat) : Int) = (p : Int) + 1 by omega] at hwa
  have HG := Lib.hid hgw
  have HA := Lib.hid (fun W hW => second_any (f := f) (c0 := c0) 78 ent_one x hop W 4 hg hW hat (by decide) htl hb hx)
  have HH := Lib.hid h
  rcases behind_not hat hn with hb0 | ⟨d, y, hb0, hdd⟩
  · rw [hb0] at hwa
    have he : (str []).toList.isEmpty = true := by rw [str_toList]; rfl
    have HW := Lib.hid hwa
    unfold sv at c0' c4 g5 g4 HW
    clear h hg hop hat htl hb hx hn hgw b1 b2 hb0 hwa
    go_enter Tryz.func78, Tryz.ntmps78
    go_wp2_with fail
    go_quiet ((go_at_call 19; exact Calls.quiet_of_same ((HW.out _ (HG.out.drewN _)).mono fun e w' h => ⟨h.1, h.2.symm⟩)))
    go_wp2_with (go_at_call 50; refine (HA.out _ (HH.out.drewN _)).mono ?_; rintro z w1 hz; obtain ⟨b, rfl, hz2⟩ := hz.ret; have HZ := Lib.hid hz2; clear hz hz2)
    go_ret
    exact HZ.out
  · obtain ⟨u, hu⟩ : ∃ u, wd (t.drop (p + 1)) = u := ⟨_, rfl⟩
    rw [hu] at hwa hb0
    have he : (str u).toList.isEmpty = false := by rw [str_toList, hb0]; rfl
    have h0 : 0 < (str u).size := by rw [str_size, hb0]; simp
    have hc0 : (str u)[0]'h0 = d := by rw [str_get]; simp [hb0]
    have hsz : (str u).size = u.length := str_size u
    have hpos : (0 : Int) < (u.length : Int) := by rw [hb0]; simp only [List.length_cons]; omega
    have HD := Lib.hid (fun W => isDigit_any d W)
    rw [hdd] at HD
    have HW := Lib.hid hwa
    unfold sv at c0' c4 g5 g4 HW
    clear h hg hop hat htl hb hx hn hgw b1 b2 hb0 hwa hdd hu
    go_enter Tryz.func78, Tryz.ntmps78
    go_wp2_with fail
    go_quiet ((go_at_call 19; exact Calls.quiet_of_same ((HW.out _ (HG.out.drewN _)).mono fun e w' h => ⟨h.1, h.2.symm⟩)))
    go_wp2_with (first | (go_at_call 40; refine (HD.out _).mono ?_; rintro _ w1 ⟨rfl, rfl⟩) | (go_at_call 50; refine (HA.out _ (HH.out.drewN _)).mono ?_; rintro z w1 hz; obtain ⟨b, rfl, hz2⟩ := hz.ret; have HZ := Lib.hid hz2; clear hz hz2))
    go_ret
    exact HZ.out

set_option maxHeartbeats 1000000 in
set_option maxRecDepth 100000 in
/-- Minus a number. -/
theorem one_num (v : Nat) (hv : v ≤ 1099511627776) (w : World) (hg : Glob W0) (h : Rd f W0 B t v1 na p [45] c0 0 w) (hat : At t p [45] ((p + 1, dig v) :: r)) (htl : t.length ≤ 2048) (hb : c0.length ≤ 1000000) :
    Calls Tryz.prog 78 #[.pointer (some ⟨B, 0, none⟩)] w fun z w' => Out f W0 B t v1 na c0 (.ok [(1, -(v : Int))] r) z w' := by
  obtain ⟨_, ⟨c0', _, _, c3, c4, _, _⟩, _, hfz⟩ := h.cells
  have f4 := hfz 4 (by decide)
  have hgw := h.glob hg
  have g5 := hgw.cell 5 [33] rfl
  have g4 := hgw.cell 4 [45] rfl
  have e1 : ((str [45]).toList == (str [33]).toList) = false := by rw [str_toList, str_toList]; rfl
  have e2 : ((str [45]).toList == (str [45]).toList) = true := by simp
  obtain ⟨b1, b2⟩ := at_behind hat
  have hat2 : At t (p + 1) (dig v) r := ⟨b1, b2⟩
  obtain ⟨b3, b4⟩ := hat2.next (dig_ne v)
  have hp1 : IntKind.i64.wrap ((p : Int) + 1) = (p : Int) + 1 := IntWalk.i64_in _ (by omega)
  have hwa := fun W hW => wordAt_any t (t.drop (p + 1)) (p + 1) W hW b1 rfl (by omega)
  have hcd : cutw (dig v) = dig v := by
    obtain ⟨c, x, h5, h6⟩ := dig_head v
    rw [h5]
    show (if letter c = true then _ else _) = _
    rw [if_neg (by rw [not_letter h6]; decide)]
  rw [show ((p + 1 : Nat) : Int) = (p : Int) + 1 by omega, hat2.wd, hcd] at hwa
  have hln := dig_length v hv
  have HCON := Lib.hid (fun W hW => constant_any (f := f) (W0 := W0) (B := B) (a := p) (t := t) (s := 45 :: dig v) (v1 := v1) (na := na) (c0 := c0) (r := r) (-(v : Int)) (atoi_neg v) (by simp only [List.length_cons]; omega) (by omega) (by omega) W hg hW
    (by simp only [List.length_cons]; omega) (by rw [show p + (45 :: dig v).length = p + 1 + (dig v).length by simp only [List.length_cons]; omega]; exact b4) htl hb)
  obtain ⟨d, x, hdx, hdd⟩ := dig_head v
  obtain ⟨u, hu⟩ : ∃ u, dig v = u := ⟨_, rfl⟩
  rw [hu] at hwa HCON hdx hln
  have he : (str u).toList.isEmpty = false := by rw [str_toList, hdx]; rfl
  have h0 : 0 < (str u).size := by rw [str_size, hdx]; simp
  have hc0 : (str u)[0]'h0 = d := by rw [str_get]; simp [hdx]
  have hsz : (str u).size = u.length := str_size u
  have hpos : (0 : Int) < (u.length : Int) := by rw [hdx]; simp only [List.length_cons]; omega
  have hsum : str [45] ++ str u = str (45 :: u) := by rw [str_append]; rfl
  have hs45 : (str [45]).size = 1 := rfl
  have hle : (str [45]).size + (str u).size ≤ 281474976710656 := by rw [str_size, str_size]; simp only [List.length_cons, List.length_nil]; omega
  have HD := Lib.hid (fun W => isDigit_any d W)
  rw [hdd] at HD
  have HW := Lib.hid hwa
  have HG := Lib.hid hgw
  have HH := Lib.hid h
  unfold sv at c0' c4 g5 g4 HW
  clear h hg hat htl hb hgw b1 b2 b3 b4 hwa hdd hu hdx hat2 hcd hv hfz hln
  go_enter Tryz.func78, Tryz.ntmps78
  go_wp2_with fail
  go_quiet ((go_at_call 19; exact Calls.quiet_of_same ((HW.out _ (HG.out.drewN _)).mono fun e w' h => ⟨h.1, h.2.symm⟩)))
  go_wp2_with (go_at_call 40; refine (HD.out _).mono ?_; rintro _ w1 ⟨rfl, rfl⟩)
  refine (HCON.out _ ((HH.out.drewN nq).set (a' := p) (s' := 45 :: u) (e' := 0) 4 (.string (str (45 :: u))) (fun v => rfl))).mono ?_
  rintro _ w3 ⟨rfl, p4, s4, r4, e4, a4, hr4⟩
  have HR4 := Lib.hid hr4
  have HA4 := Lib.hid a4
  have HE4 := Lib.hid e4
  clear hr4 a4 e4
  go_wp2_with fail
  go_ret
  exact out_ok HE4.out HA4.out HR4.out
end
end Go.Proofs.YtbeidmkhpcnbbaaGreatDoor.I
