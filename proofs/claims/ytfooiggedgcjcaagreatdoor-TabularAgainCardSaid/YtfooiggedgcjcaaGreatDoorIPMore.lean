/-
  Contracts of the program's reader of layer 4: atoms.
  Contracts of the program's reader of layer 4: one.
  Contracts of the program's reader of layer 4: whatever stands there.
-/
import Derived.Test.YtfooiggedgcjcaaGreatDoorIPCall
import Derived.Test.YtfooiggedgcjcaaGreatDoorRPs
namespace Go.Proofs.YtfooiggedgcjcaaGreatDoor.I
open Go Go.RowKit Go.Proofs.YtfooiggedgcjcaaGreatDoor.B Go.Proofs.YtfooiggedgcjcaaGreatDoor.K Go.Proofs.YtfooiggedgcjcaaGreatDoor.E
set_option linter.unusedVariables false

section
variable {f : Nat → Option Obj} {W0 : World} {B p : Nat} {t s : Bs} {v1 : Value} {na : Int} {c0 : List In} {r : List Tk}

set_option maxHeartbeats 1000000 in
set_option maxRecDepth 100000 in
/-- Nothing is there. -/
theorem atom_end (w : World) (h : Rd f W0 B t v1 na p [] c0 0 w) :
    Calls Tryz.prog 195 #[.pointer (some ⟨B, 0, none⟩)] w fun z w' => Out f W0 B t v1 na c0 (.err p 6) z w' := by
  obtain ⟨_, ⟨_, _, _, _, c4, _, _⟩, _, _⟩ := h.cells
  have HF := Lib.hid (fun W hW => fail_any (f := f) (W0 := W0) (B := B) (a := p) (t := t) (s := []) (v1 := v1) (na := na) (e := 0) (c := c0) W 6 hW)
  have e1 : ((str []).toList == [40]) = false := by rw [str_toList]; rfl
  have e2 : (str []).toList.isEmpty = true := by rw [str_toList]; rfl
  have HH := Lib.hid h
  unfold sv at c4
  clear h
  go_enter Tryz.func195, Tryz.ntmps195
  go_wp2_with (go_at_call 167; refine (HF.out _ HH.out).mono ?_; rintro _ w1 ⟨rfl, hr1⟩; have HR1 := Lib.hid hr1; clear hr1)
  go_ret
  exact out_err HR1.out

set_option maxHeartbeats 1000000 in
set_option maxRecDepth 100000 in
/-- In brackets. -/
theorem atom_par (c : List In) (q : Nat) (r' : List Tk) (hop : Opd W0 B t v1 na 142 r (.ok c ((q, [41]) :: r'))) (w : World) (hg : Glob W0) (h : Rd f W0 B t v1 na p [40] c0 0 w) (hat : At t p [40] r) (htl : t.length ≤ 2048) (hb : c0.length + r.length ≤ 1000000) :
    Calls Tryz.prog 195 #[.pointer (some ⟨B, 0, none⟩)] w fun z w' => Out f W0 B t v1 na c0 (.ok c r') z w' := by
  obtain ⟨_, ⟨_, _, _, _, c4, _, _⟩, _, _⟩ := h.cells
  obtain ⟨h1, h2⟩ := hat.next (by decide)
  obtain ⟨⟨p', s'⟩, r1, hr⟩ := lx_cons h2
  have HA := Lib.hid (advance_any w hg h h1 (hr ▸ h2) htl)
  have HO := Lib.hid (fun W h3 h4 => hop f c0 W p' s' r1 hr h3 h4 hb)
  have HPS := Lib.hid (fun (W : World) (hW : Rd f W0 B t v1 na q [41] (c0 ++ c) 0 W) (ha : At t q [41] r') => pass_any W hg hW ha (by decide) htl)
  have e1 : ((str [40]).toList == [40]) = true := by rw [str_toList]; rfl
  unfold sv at c4 HPS
  clear h h1 h2 hat hg htl hr hop hb
  go_enter Tryz.func195, Tryz.ntmps195
  go_wp2_with (first | (go_at_call 141; refine HA.out.mono ?_; rintro _ w1 ⟨rfl, hr1, ha1⟩; have HR1 := Lib.hid hr1; have HA1 := Lib.hid ha1; clear hr1 ha1) | (go_at_call 142; refine (HO.out _ HA1.out HR1.out).mono ?_; rintro _ w3 ⟨rfl, p4, s4, r4, e4, a4, hr4⟩; cases e4; have HR4 := Lib.hid hr4; have HA4 := Lib.hid a4; clear hr4 a4) | (go_at_call 196; refine (HPS.out _ HR4.out HA4.out).mono ?_; rintro _ w5 ⟨rfl, p6, s6, r6, e6, a6, hr6⟩; have HR6 := Lib.hid hr6; have HA6 := Lib.hid a6; have HE6 := Lib.hid e6; clear hr6 a6 e6))
  go_ret
  exact out_ok HE6.out HA6.out HR6.out

set_option maxHeartbeats 1000000 in
set_option maxRecDepth 100000 in
/-- A number. -/
theorem atom_num (v : Nat) (hv : v ≤ 1099511627776) (w : World) (hg : Glob W0) (h : Rd f W0 B t v1 na p (dig v) c0 0 w) (hat : At t p (dig v) r) (htl : t.length ≤ 2048) (hb : c0.length ≤ 1000000) :
    Calls Tryz.prog 195 #[.pointer (some ⟨B, 0, none⟩)] w fun z w' => Out f W0 B t v1 na c0 (.ok [(1, (v : Int))] r) z w' := by
  obtain ⟨_, ⟨_, _, _, _, c4, _, _⟩, _, _⟩ := h.cells
  obtain ⟨h1, h2⟩ := hat.next (dig_ne v)
  have hc := constant_any (v : Int) (atoi_pos v) (by have := dig_length v hv; omega) (by omega) (by omega) w hg h h1 h2 htl hb
  obtain ⟨d, x, hdx, hdd⟩ := dig_head v
  obtain ⟨s, hs⟩ : ∃ s, dig v = s := ⟨_, rfl⟩
  rw [hs] at c4 hdx
  have HC := Lib.hid hc
  have e1 : ((str s).toList == [40]) = false := by rw [str_toList, hdx, beq_eq_false_iff_ne]; intro e; cases e; cases hdd
  have e2 : (str s).toList.isEmpty = false := by rw [str_toList, hdx]; rfl
  have h0 : 0 < (str s).size := by rw [str_size, hdx]; simp
  have hc0 : (str s)[0]'h0 = d := by rw [str_get]; simp [hdx]
  have hsz : (str s).size = s.length := str_size s
  have hpos : (0 : Int) < (s.length : Int) := by rw [hdx]; simp only [List.length_cons]; omega
  have HD := Lib.hid (fun W => isDigit_any d W)
  rw [hdd] at HD
  unfold sv at c4
  clear h h1 h2 hat hg htl hb hs hdx hdd hc hv
  go_enter Tryz.func195, Tryz.ntmps195
  go_wp2_with (first | (go_at_call 138; refine (HD.out _).mono ?_; rintro _ w1 ⟨rfl, rfl⟩) | (go_at_call 194; refine HC.out.mono ?_; rintro _ w3 ⟨rfl, p4, s4, r4, e4, a4, hr4⟩; have HR4 := Lib.hid hr4; have HA4 := Lib.hid a4; have HE4 := Lib.hid e4; clear hr4 a4 e4))
  go_ret
  exact out_ok HE4.out HA4.out HR4.out
set_option maxHeartbeats 1000000 in
set_option maxRecDepth 100000 in
/-- An argument. -/
theorem atom_arg (k : Nat) (hk : k < 10) (hs : s = [36] ++ dig k) (hna : (k : Int) < na) (w : World) (hg : Glob W0) (h : Rd f W0 B t v1 na p s c0 0 w) (hat : At t p s r) (htl : t.length ≤ 2048) (hb : c0.length ≤ 1000000) :
    Calls Tryz.prog 195 #[.pointer (some ⟨B, 0, none⟩)] w fun z w' => Out f W0 B t v1 na c0 (.ok [(3, (k : Int))] r) z w' := by
  obtain ⟨_, ⟨_, _, _, _, c4, _, _⟩, _, _⟩ := h.cells
  obtain ⟨h1, h2⟩ := hat.next (by rw [hs]; simp)
  have HC := Lib.hid (argument_any k hk hs hna w hg h h1 h2 htl hb)
  obtain ⟨d, x, hdx, hd36⟩ : ∃ d x, s = d :: x ∧ d = 36 := ⟨36, dig k, hs, rfl⟩
  have hdd : digit d = false := by rw [hd36]; rfl
  have e1 : ((str s).toList == [40]) = false := by rw [str_toList, hdx, beq_eq_false_iff_ne]; intro e; cases e; cases hd36
  have e36 : ((d.toNat : Int) == 36) = true := by rw [hd36]; rfl
  have e2 : (str s).toList.isEmpty = false := by rw [str_toList, hdx]; rfl
  have h0 : 0 < (str s).size := by rw [str_size, hdx]; simp
  have hc0 : (str s)[0]'h0 = d := by rw [str_get]; simp [hdx]
  have hsz : (str s).size = s.length := str_size s
  have hpos : (0 : Int) < (s.length : Int) := by rw [hdx]; simp only [List.length_cons]; omega
  have HD := Lib.hid (fun W => isDigit_any d W)
  rw [hdd] at HD
  unfold sv at c4
  clear h h1 h2 hat hg htl hb hs hdx hdd hd36 hna
  go_enter Tryz.func195, Tryz.ntmps195
  go_wp2_with (first | (go_at_call 138; refine (HD.out _).mono ?_; rintro _ w1 ⟨rfl, rfl⟩) | (go_at_call 197; refine (HC.out).mono ?_; rintro _ w4 ⟨rfl, p4, s4, r4, e4, a4, hr4⟩; have HR4 := Lib.hid hr4; have HA4 := Lib.hid a4; have HE4 := Lib.hid e4; clear hr4 a4 e4))
  go_ret
  exact out_ok HE4.out HA4.out HR4.out

set_option maxHeartbeats 1000000 in
set_option maxRecDepth 100000 in
/-- A variable. -/
theorem atom_var (vs : List Bs) (hvs : Names W0 v1 vs) (k : Nat) (hk : vs[k]? = some s) (hn : ∀ j, j < k → vs[j]? ≠ some s) (hnm : isName s = true) (hvl : vs.length ≤ 1000000) (w : World) (hg : Glob W0) (h : Rd f W0 B t v1 na p s c0 0 w) (hat : At t p s r) (htl : t.length ≤ 2048) (hb : c0.length ≤ 1000000) :
    Calls Tryz.prog 195 #[.pointer (some ⟨B, 0, none⟩)] w fun z w' => Out f W0 B t v1 na c0 (.ok [(2, (k : Int))] r) z w' := by
  obtain ⟨_, ⟨_, _, _, _, c4, _, _⟩, _, _⟩ := h.cells
  obtain ⟨d, x, hdx⟩ : ∃ d x, s = d :: x := by
    cases s with
    | nil => cases hnm
    | cons d x => exact ⟨d, x, rfl⟩
  obtain ⟨h1, h2⟩ := hat.next (by rw [hdx]; simp)
  have HC := Lib.hid (variable_any vs hvs k hk hn w hg h h1 h2 htl hb hvl)
  have hle : letter d = true := by rw [hdx, isName_cons] at hnm; simp only [Bool.and_eq_true] at hnm; exact hnm.1.1.1.1.2
  have hdd : digit d = false := by
    cases hq : digit d with
    | false => rfl
    | true => rw [not_letter hq] at hle; cases hle
  have e1 : ((str s).toList == [40]) = false := by rw [str_toList, hdx, beq_eq_false_iff_ne]; intro e; cases e; cases hle
  have e36 : ((d.toNat : Int) == 36) = false := by
    rw [beq_eq_false_iff_ne]; intro e
    have : d = 36 := (byte_eq d 36 (by decide)).2 (by omega)
    subst this; cases hle
  have e2 : (str s).toList.isEmpty = false := by rw [str_toList, hdx]; rfl
  have h0 : 0 < (str s).size := by rw [str_size, hdx]; simp
  have hc0 : (str s)[0]'h0 = d := by rw [str_get]; simp [hdx]
  have hsz : (str s).size = s.length := str_size s
  have hpos : (0 : Int) < (s.length : Int) := by rw [hdx]; simp only [List.length_cons]; omega
  have HD := Lib.hid (fun W => isDigit_any d W)
  rw [hdd] at HD
  have HNM := Lib.hid (fun W hW => name_any s W hW (by omega))
  rw [hnm] at HNM
  have HG := Lib.hid (h.glob hg)
  unfold sv at c4 HNM
  clear h h1 h2 hat hg htl hb hdx hdd hle hnm hk hn hvs hvl
  go_enter Tryz.func195, Tryz.ntmps195
  go_wp2_with (first | (go_at_call 138; refine (HD.out _).mono ?_; rintro _ w1 ⟨rfl, rfl⟩) | (go_at_call 74; refine (HNM.out _ HG.out).mono ?_; rintro _ w2 ⟨rfl, rfl⟩) | (go_at_call 198; refine (HC.out).mono ?_; rintro _ w4 ⟨rfl, p4, s4, r4, e4, a4, hr4⟩; have HR4 := Lib.hid hr4; have HA4 := Lib.hid a4; have HE4 := Lib.hid e4; clear hr4 a4 e4))
  go_ret
  exact out_ok HE4.out HA4.out HR4.out

set_option maxHeartbeats 1000000 in
set_option maxRecDepth 100000 in
/-- A call. -/
theorem atom_call (o : Int) (n : Nat) (hs : s = wmin ∧ o = 9 ∧ n = 2 ∨ s = wmax ∧ o = 10 ∧ n = 2 ∨ s = wif ∧ o = 16 ∧ n = 3) (c : List In) (q : Nat) (r' : List Tk) (w : World) (hg : Glob W0) (h : Rd f W0 B t v1 na p s c0 0 w) (hat : At t p s r) (htl : t.length ≤ 2048)
    (hargs : Args (Opd W0 B t v1 na 142) n [40] r c ((q, [41]) :: r')) (hb : c0.length + r.length ≤ 999999) :
    Calls Tryz.prog 195 #[.pointer (some ⟨B, 0, none⟩)] w fun z w' => Out f W0 B t v1 na c0 (.ok (c ++ [(o, 0)]) r') z w' := by
  obtain ⟨_, ⟨_, _, _, _, c4, _, _⟩, _, _⟩ := h.cells
  have hne : s ≠ [] := by rcases hs with ⟨rfl, _⟩ | ⟨rfl, _⟩ | ⟨rfl, _⟩ <;> decide
  have HC := Lib.hid (call_any o n (by rcases hs with ⟨_, rfl, rfl⟩ | ⟨_, rfl, rfl⟩ | ⟨_, rfl, rfl⟩ <;> decide) (by rcases hs with ⟨_, rfl, _⟩ | ⟨_, rfl, _⟩ | ⟨_, rfl, _⟩ <;> decide) (by rcases hs with ⟨_, rfl, _⟩ | ⟨_, rfl, _⟩ | ⟨_, rfl, _⟩ <;> decide) c q r' w hg h hat hne htl hargs hb (by omega))
  have hco : calledOf s = o := by rcases hs with ⟨rfl, rfl, _⟩ | ⟨rfl, rfl, _⟩ | ⟨rfl, rfl, _⟩ <;> decide
  have hnm : isName s = false := by rcases hs with ⟨rfl, _⟩ | ⟨rfl, _⟩ | ⟨rfl, _⟩ <;> decide
  obtain ⟨d, x, hdx, hle⟩ : ∃ d x, s = d :: x ∧ letter d = true := by rcases hs with ⟨rfl, _⟩ | ⟨rfl, _⟩ | ⟨rfl, _⟩ <;> exact ⟨_, _, rfl, by decide⟩
  have hon : (o == 0) = false := by rcases hs with ⟨_, rfl, _⟩ | ⟨_, rfl, _⟩ | ⟨_, rfl, _⟩ <;> decide
  have hlen : s.length ≤ 3 := by rcases hs with ⟨rfl, _⟩ | ⟨rfl, _⟩ | ⟨rfl, _⟩ <;> decide
  have hdd : digit d = false := by
    cases hq : digit d with
    | false => rfl
    | true => rw [not_letter hq] at hle; cases hle
  have e1 : ((str s).toList == [40]) = false := by rw [str_toList, hdx, beq_eq_false_iff_ne]; intro e; cases e; cases hle
  have e36 : ((d.toNat : Int) == 36) = false := by
    rw [beq_eq_false_iff_ne]; intro e
    have : d = 36 := (byte_eq d 36 (by decide)).2 (by omega)
    subst this; cases hle
  have e2 : (str s).toList.isEmpty = false := by rw [str_toList, hdx]; rfl
  have h0 : 0 < (str s).size := by rw [str_size, hdx]; simp
  have hc0 : (str s)[0]'h0 = d := by rw [str_get]; simp [hdx]
  have hsz : (str s).size = s.length := str_size s
  have hpos : (0 : Int) < (s.length : Int) := by rw [hdx]; simp only [List.length_cons]; omega
  have HD := Lib.hid (fun W => isDigit_any d W)
  rw [hdd] at HD
  have HNM := Lib.hid (fun W hW => name_any s W hW (by omega))
  rw [hnm] at HNM
  have HCL := Lib.hid (fun W hW => called_any s W hW)
  rw [hco] at HCL
  have HG := Lib.hid (h.glob hg)
  unfold sv at c4 HNM HCL
  clear h hat hg htl hb hdx hdd hle hnm hs hargs hco hlen hne
  go_enter Tryz.func195, Tryz.ntmps195
  go_wp2_with (first | (go_at_call 138; refine (HD.out _).mono ?_; rintro _ w1 ⟨rfl, rfl⟩) | (go_at_call 74; refine (HNM.out _ HG.out).mono ?_; rintro _ w2 ⟨rfl, rfl⟩) | (go_at_call 110; refine (HCL.out _ HG.out).mono ?_; rintro _ w2 ⟨rfl, rfl⟩) | (go_at_call 199; refine (HC.out).mono ?_; rintro _ w4 ⟨rfl, p4, s4, r4, e4, a4, hr4⟩; have HR4 := Lib.hid hr4; have HA4 := Lib.hid a4; have HE4 := Lib.hid e4; clear hr4 a4 e4))
  go_ret
  exact out_ok HE4.out HA4.out HR4.out
end
end Go.Proofs.YtfooiggedgcjcaaGreatDoor.I

namespace Go.Proofs.YtfooiggedgcjcaaGreatDoor.I
open Go Go.RowKit Go.Proofs.YtfooiggedgcjcaaGreatDoor.B Go.Proofs.YtfooiggedgcjcaaGreatDoor.K Go.Proofs.YtfooiggedgcjcaaGreatDoor.E
set_option linter.unusedVariables false

theorem at_behind {t : Bs} {p : Nat} {l : List Tk} (h : At t p [45] l) : p + 1 ≤ t.length ∧ Lx (p + 1) (t.drop (p + 1)) l := h.next (by decide)

theorem behind_not {t : Bs} {p : Nat} {l : List Tk} (h : At t p [45] l) (hn : ¬ near p l) : wd (t.drop (p + 1)) = [] ∨ ∃ c x, wd (t.drop (p + 1)) = c :: x ∧ digit c = false := by
  obtain ⟨h1, h2⟩ := at_behind h
  obtain ⟨⟨q, s⟩, r, rfl⟩ := lx_cons h2
  rcases lx_step h1 h2 with ⟨h3, _⟩ | ⟨_, rfl, h4⟩
  · left
    obtain ⟨hq, he⟩ := List.getElem?_eq_some_iff.1 h3
    rw [List.drop_eq_getElem_cons hq, he]
    rw [wd_cons, if_neg (by decide), if_neg (by decide), if_neg (fun h => absurd h.1 (by decide)), if_neg (by decide)]
    exact sgn_blank _
  · rw [h4.wd]
    cases s with
    | nil => left; rfl
    | cons c x =>
      right
      have hd : digit c = false := by
        cases hd : digit c with
        | false => rfl
        | true => exact absurd ⟨c, x, r, rfl, hd⟩ hn
      by_cases hl : letter c = true
      · exact ⟨c, x.take 23, by show (if letter c = true then _ else _) = _; rw [if_pos hl]; rfl, hd⟩
      · exact ⟨c, x, by show (if letter c = true then _ else _) = _; rw [if_neg hl], hd⟩

section
variable {f : Nat → Option Obj} {W0 : World} {B p : Nat} {t s : Bs} {v1 : Value} {na : Int} {c0 : List In} {r : List Tk}

set_option maxHeartbeats 1000000 in
set_option maxRecDepth 100000 in
/-- What has no sign ahead. -/
theorem one_atom (x : Rs) (w : World) (hg : Glob W0) (h : Rd f W0 B t v1 na p s c0 0 w) (h1 : s ≠ [33]) (h2 : s ≠ [45])
    (hat : Calls Tryz.prog 195 #[.pointer (some ⟨B, 0, none⟩)] w fun z w' => Out f W0 B t v1 na c0 x z w') :
    Calls Tryz.prog 193 #[.pointer (some ⟨B, 0, none⟩)] w fun z w' => Out f W0 B t v1 na c0 x z w' := by
  obtain ⟨_, ⟨_, _, _, _, c4, _, _⟩, _, _⟩ := h.cells
  have hgw := h.glob hg
  have g5 := hgw.cell 5 [33] rfl
  have g4 := hgw.cell 4 [45] rfl
  have e1 : ((str s).toList == (str [33]).toList) = false := by rw [str_toList, str_toList]; exact beq_eq_false_iff_ne.2 h1
  have e2 : ((str s).toList == (str [45]).toList) = false := by rw [str_toList, str_toList]; exact beq_eq_false_iff_ne.2 h2
  have HA := Lib.hid hat
  unfold sv at c4 g5 g4
  clear h hg hgw h1 h2 hat
  go_enter Tryz.func193, Tryz.ntmps193
  go_wp2_with (go_at_call 195; refine HA.out.mono ?_; rintro z w1 hz; obtain ⟨b, rfl, hz2⟩ := hz.ret; have HZ := Lib.hid hz2; clear hz hz2)
  go_ret
  exact HZ.out

set_option maxHeartbeats 1000000 in
set_option maxRecDepth 100000 in
/-- Not. -/
theorem one_not (x : Rs) (hop : Opd W0 B t v1 na 193 r x) (w : World) (hg : Glob W0) (h : Rd f W0 B t v1 na p [33] c0 0 w) (hat : At t p [33] r) (htl : t.length ≤ 2048) (hb : c0.length + r.length ≤ 1000000) (hx : ∀ d t', x = .ok d t' → d.length ≤ 1000000) :
    Calls Tryz.prog 193 #[.pointer (some ⟨B, 0, none⟩)] w fun z w' => Out f W0 B t v1 na c0 (x.snoc (5, 0)) z w' := by
  obtain ⟨_, ⟨_, _, _, _, c4, _, _⟩, _, _⟩ := h.cells
  have g5 := (h.glob hg).cell 5 [33] rfl
  have e1 : ((str [33]).toList == (str [33]).toList) = true := by simp
  have HA := Lib.hid (second_any 193 ent_one x hop w 5 hg h hat (by decide) htl hb hx)
  unfold sv at c4 g5
  clear h hg hop hat htl hb hx
  go_enter Tryz.func193, Tryz.ntmps193
  go_wp2_with (go_at_call 181; refine HA.out.mono ?_; rintro z w1 hz; obtain ⟨b, rfl, hz2⟩ := hz.ret; have HZ := Lib.hid hz2; clear hz hz2)
  go_ret
  exact HZ.out

set_option maxHeartbeats 1000000 in
set_option maxRecDepth 100000 in
/-- Minus something. -/
theorem one_neg (x : Rs) (hop : Opd W0 B t v1 na 193 r x) (hn : ¬ near p r) (w : World) (hg : Glob W0) (h : Rd f W0 B t v1 na p [45] c0 0 w) (hat : At t p [45] r) (htl : t.length ≤ 2048) (hb : c0.length + r.length ≤ 1000000) (hx : ∀ d t', x = .ok d t' → d.length ≤ 1000000) :
    Calls Tryz.prog 193 #[.pointer (some ⟨B, 0, none⟩)] w fun z w' => Out f W0 B t v1 na c0 (x.snoc (4, 0)) z w' := by
  obtain ⟨_, ⟨c0', _, _, c3, c4, _, _⟩, _, _⟩ := h.cells
  have hgw := h.glob hg
  have g5 := hgw.cell 5 [33] rfl
  have g4 := hgw.cell 4 [45] rfl
  have e1 : ((str [45]).toList == (str [33]).toList) = false := by rw [str_toList, str_toList]; rfl
  have e2 : ((str [45]).toList == (str [45]).toList) = true := by simp
  obtain ⟨b1, b2⟩ := at_behind hat
  have hp1 : IntKind.i64.wrap ((p : Int) + 1) = (p : Int) + 1 := IntWalk.i64_in _ (by omega)
  have hwa := fun W hW => wordAt_any t (t.drop (p + 1)) (p + 1) W hW b1 rfl (by omega)
  rw [show ((p + 1 : Nat) : Int) = (p : Int) + 1 by omega] at hwa
  have HG := Lib.hid hgw
  have HA := Lib.hid (fun W hW => second_any (f := f) (c0 := c0) 193 ent_one x hop W 4 hg hW hat (by decide) htl hb hx)
  have HH := Lib.hid h
  rcases behind_not hat hn with hb0 | ⟨d, y, hb0, hdd⟩
  · rw [hb0] at hwa
    have he : (str []).toList.isEmpty = true := by rw [str_toList]; rfl
    have HW := Lib.hid hwa
    unfold sv at c0' c4 g5 g4 HW
    clear h hg hop hat htl hb hx hn hgw b1 b2 hb0 hwa
    go_enter Tryz.func193, Tryz.ntmps193
    go_wp2_with fail
    go_quiet ((go_at_call 109; exact Calls.quiet_of_same ((HW.out _ (HG.out.drewN _)).mono fun e w' h => ⟨h.1, h.2.symm⟩)))
    go_wp2_with (go_at_call 181; refine (HA.out _ (HH.out.drewN _)).mono ?_; rintro z w1 hz; obtain ⟨b, rfl, hz2⟩ := hz.ret; have HZ := Lib.hid hz2; clear hz hz2)
    go_ret
    exact HZ.out
  · obtain ⟨u, hu⟩ : ∃ u, wd (t.drop (p + 1)) = u := ⟨_, rfl⟩
    rw [hu] at hwa hb0
    have he : (str u).toList.isEmpty = false := by rw [str_toList, hb0]; rfl
    have h0 : 0 < (str u).size := by rw [str_size, hb0]; simp
    have hc0 : (str u)[0]'h0 = d := by rw [str_get]; simp [hb0]
    have hsz : (str u).size = u.length := str_size u
    have hpos : (0 : Int) < (u.length : Int) := by rw [hb0]; simp only [List.length_cons]; omega
    have HD := Lib.hid (fun W => isDigit_any d W)
    rw [hdd] at HD
    have HW := Lib.hid hwa
    unfold sv at c0' c4 g5 g4 HW
    clear h hg hop hat htl hb hx hn hgw b1 b2 hb0 hwa hdd hu
    go_enter Tryz.func193, Tryz.ntmps193
    go_wp2_with fail
    go_quiet ((go_at_call 109; exact Calls.quiet_of_same ((HW.out _ (HG.out.drewN _)).mono fun e w' h => ⟨h.1, h.2.symm⟩)))
    go_wp2_with (first | (go_at_call 138; refine (HD.out _).mono ?_; rintro _ w1 ⟨rfl, rfl⟩) | (go_at_call 181; refine (HA.out _ (HH.out.drewN _)).mono ?_; rintro z w1 hz; obtain ⟨b, rfl, hz2⟩ := hz.ret; have HZ := Lib.hid hz2; clear hz hz2))
    go_ret
    exact HZ.out

set_option maxHeartbeats 1000000 in
set_option maxRecDepth 100000 in
/-- Minus a number. -/
theorem one_num (v : Nat) (hv : v ≤ 1099511627776) (w : World) (hg : Glob W0) (h : Rd f W0 B t v1 na p [45] c0 0 w) (hat : At t p [45] ((p + 1, dig v) :: r)) (htl : t.length ≤ 2048) (hb : c0.length ≤ 1000000) :
    Calls Tryz.prog 193 #[.pointer (some ⟨B, 0, none⟩)] w fun z w' => Out f W0 B t v1 na c0 (.ok [(1, -(v : Int))] r) z w' := by
  obtain ⟨_, ⟨c0', _, _, c3, c4, _, _⟩, _, hfz⟩ := h.cells
  have f4 := hfz 4 (by decide)
  have hgw := h.glob hg
  have g5 := hgw.cell 5 [33] rfl
  have g4 := hgw.cell 4 [45] rfl
  have e1 : ((str [45]).toList == (str [33]).toList) = false := by rw [str_toList, str_toList]; rfl
  have e2 : ((str [45]).toList == (str [45]).toList) = true := by simp
  obtain ⟨b1, b2⟩ := at_behind hat
  have hat2 : At t (p + 1) (dig v) r := ⟨b1, b2⟩
  obtain ⟨b3, b4⟩ := hat2.next (dig_ne v)
  have hp1 : IntKind.i64.wrap ((p : Int) + 1) = (p : Int) + 1 := IntWalk.i64_in _ (by omega)
  have hwa := fun W hW => wordAt_any t (t.drop (p + 1)) (p + 1) W hW b1 rfl (by omega)
  have hcd : cutw (dig v) = dig v := by
    obtain ⟨c, x, h5, h6⟩ := dig_head v
    rw [h5]
    show (if letter c = true then _ else _) = _
    rw [if_neg (by rw [not_letter h6]; decide)]
  rw [show ((p + 1 : Nat) : Int) = (p : Int) + 1 by omega, hat2.wd, hcd] at hwa
  have hln := dig_length v hv
  have HCON := Lib.hid (fun W hW => constant_any (f := f) (W0 := W0) (B := B) (a := p) (t := t) (s := 45 :: dig v) (v1 := v1) (na := na) (c0 := c0) (r := r) (-(v : Int)) (atoi_neg v) (by simp only [List.length_cons]; omega) (by omega) (by omega) W hg hW
    (by simp only [List.length_cons]; omega) (by rw [show p + (45 :: dig v).length = p + 1 + (dig v).length by simp only [List.length_cons]; omega]; exact b4) htl hb)
  obtain ⟨d, x, hdx, hdd⟩ := dig_head v
  obtain ⟨u, hu⟩ : ∃ u, dig v = u := ⟨_, rfl⟩
  rw [hu] at hwa HCON hdx hln
  have he : (str u).toList.isEmpty = false := by rw [str_toList, hdx]; rfl
  have h0 : 0 < (str u).size := by rw [str_size, hdx]; simp
  have hc0 : (str u)[0]'h0 = d := by rw [str_get]; simp [hdx]
  have hsz : (str u).size = u.length := str_size u
  have hpos : (0 : Int) < (u.length : Int) := by rw [hdx]; simp only [List.length_cons]; omega
  have hsum : str [45] ++ str u = str (45 :: u) := by rw [str_append]; rfl
  have hs45 : (str [45]).size = 1 := rfl
  have hle : (str [45]).size + (str u).size ≤ 281474976710656 := by rw [str_size, str_size]; simp only [List.length_cons, List.length_nil]; omega
  have HD := Lib.hid (fun W => isDigit_any d W)
  rw [hdd] at HD
  have HW := Lib.hid hwa
  have HG := Lib.hid hgw
  have HH := Lib.hid h
  unfold sv at c0' c4 g5 g4 HW
  clear h hg hat htl hb hgw b1 b2 b3 b4 hwa hdd hu hdx hat2 hcd hv hfz hln
  go_enter Tryz.func193, Tryz.ntmps193
  go_wp2_with fail
  go_quiet ((go_at_call 109; exact Calls.quiet_of_same ((HW.out _ (HG.out.drewN _)).mono fun e w' h => ⟨h.1, h.2.symm⟩)))
  go_wp2_with (go_at_call 138; refine (HD.out _).mono ?_; rintro _ w1 ⟨rfl, rfl⟩)
  refine (HCON.out _ ((HH.out.drewN nq).set (a' := p) (s' := 45 :: u) (e' := 0) 4 (.string (str (45 :: u))) (fun v => rfl))).mono ?_
  rintro _ w3 ⟨rfl, p4, s4, r4, e4, a4, hr4⟩
  have HR4 := Lib.hid hr4
  have HA4 := Lib.hid a4
  have HE4 := Lib.hid e4
  clear hr4 a4 e4
  go_wp2_with fail
  go_ret
  exact out_ok HE4.out HA4.out HR4.out
end
end Go.Proofs.YtfooiggedgcjcaaGreatDoor.I

namespace Go.Proofs.YtfooiggedgcjcaaGreatDoor.I
open Go Go.RowKit Go.Proofs.YtfooiggedgcjcaaGreatDoor.B Go.Proofs.YtfooiggedgcjcaaGreatDoor.K Go.Proofs.YtfooiggedgcjcaaGreatDoor.E
set_option linter.unusedVariables false

section
variable {f : Nat → Option Obj} {W0 : World} {B a p : Nat} {t s : Bs} {v1 : Value} {na : Int} {c0 : List In} {r : List Tk}

theorem conR_err {p : Nat} {s : Bs} {r : List Tk} (h : ∀ n, Lib.atoiAll s = .ok n → ¬ (-1099511627776 ≤ n ∧ n ≤ 1099511627776)) : conR p s r = .err p 3 := by
  unfold conR
  split
  · rename_i n hn
    rw [if_neg (h n hn)]
  · rfl
theorem conR_ok {p : Nat} {s : Bs} {r : List Tk} {n : Int} (h : Lib.atoiAll s = .ok n) (hn : -1099511627776 ≤ n ∧ n ≤ 1099511627776) : conR p s r = .ok [(1, n)] r := by
  unfold conR
  rw [h]
  exact if_pos hn

set_option maxHeartbeats 1000000 in
set_option maxRecDepth 100000 in
theorem constant_all (hG : T.Globs W0) (w : World) (h : Rd f W0 B t v1 na a s c0 0 w) (hle : a + s.length ≤ t.length) (hL : Lx (a + s.length) (t.drop (a + s.length)) r) (htl : t.length ≤ 2048) (hb : c0.length ≤ 1000000) :
    Calls Tryz.prog 194 #[.pointer (some ⟨B, 0, none⟩)] w fun z w' => Out f W0 B t v1 na c0 (conR a s r) z w' := by
  obtain ⟨⟨p', s'⟩, r', hr⟩ := lx_cons hL
  subst hr
  have hg := hG.glob
  have hGw := hG.below h.below
  have hsd : (str s).data.toList = s := str_data s
  have hsz : (str s).size ≤ 281474976710656 := by rw [str_size]; omega
  obtain ⟨_, ⟨_, _, _, _, c4, _, _⟩, _, _⟩ := h.cells
  have HF := Lib.hid (fun W hW => fail_any (f := f) (W0 := W0) (B := B) (a := a) (t := t) (s := s) (v1 := v1) (na := na) (e := 0) (c := c0) W 3 hW)
  have HH := Lib.hid h
  unfold sv at c4
  rcases T.atoi_ends s with ha | ha | ⟨n, ha⟩
  · obtain ⟨tt, pp, hv⟩ := hGw.synt
    have HA := Lib.hid (S.strconv_Atoi_syn (str s) hsz (by rw [hsd]; exact ha) _ w hv (Or.inr ⟨tt, pp, rfl⟩))
    rw [conR_err (fun n hn => by rw [ha] at hn; cases hn)]
    clear hv hsd hsz ha hGw hg h hle hL htl hb
    go_enter Tryz.func194, Tryz.ntmps194
    go_wp2_with (first | (go_at_call 107; refine HA.out.mono ?_; rintro _ w1 ⟨N, rfl, hN, _, hb1⟩; have HR1 := Lib.hid (HH.out.grow hb1); clear hb1 hN) | (go_at_call 167; refine (HF.out _ HR1.out).mono ?_; rintro _ w2 ⟨rfl, hr2⟩; have HR2 := Lib.hid hr2; clear hr2))
    go_ret
    exact out_err HR2.out
  · obtain ⟨tt, pp, hv⟩ := hGw.rang
    have HA := Lib.hid (S.strconv_Atoi_range (str s) hsz (by rw [hsd]; exact ha) _ w hv (Or.inr ⟨tt, pp, rfl⟩))
    rw [conR_err (fun n hn => by rw [ha] at hn; cases hn)]
    clear hv hsd hsz ha hGw hg h hle hL htl hb
    go_enter Tryz.func194, Tryz.ntmps194
    go_wp2_with (first | (go_at_call 107; refine HA.out.mono ?_; rintro _ w1 ⟨N, rfl, hN, _, hb1⟩; have HR1 := Lib.hid (HH.out.grow hb1); clear hb1 hN) | (go_at_call 167; refine (HF.out _ HR1.out).mono ?_; rintro _ w2 ⟨rfl, hr2⟩; have HR2 := Lib.hid hr2; clear hr2))
    go_ret
    exact out_err HR2.out
  · have HA : Hid (Calls Tryz.prog 107 #[.string (str s)] w fun e w' => e = .returned (.tuple #[.int .i64 n, .nilIface]) ∧ Below w.heap.size w w') := Lib.hid ((S.strconv_Atoi_ok (str s) (by omega) n (by rw [hsd]; exact ha) w).mono fun e w' ⟨h1, hw⟩ => ⟨h1, by
      rcases hw with rfl | ⟨t, rfl⟩
      · exact Below.refl _ _
      · exact T.below_bytes _ _ _⟩)
    have HP := Lib.hid (fun W hW => put_any (f := f) (W0 := W0) (B := B) (a := a) (t := t) (s := s) (v1 := v1) (na := na) (e := 0) (c := c0) W 1 n hW (by omega))
    have HAD := Lib.hid (fun W c hW => advance_any (f := f) (W0 := W0) (B := B) (a := a) (p := p') (t := t) (s := s) (s' := s') (v1 := v1) (na := na) (e := 0) (c := c) (r := r') W hg hW hle hL htl)
    by_cases h1 : -1099511627776 ≤ n ∧ n ≤ 1099511627776
    · rw [conR_ok ha h1]
      have d1 : decide (n < -1099511627776) = false := decide_eq_false (by omega)
      have d2 : decide (1099511627776 < n) = false := decide_eq_false (by omega)
      clear hsd hsz ha hGw hg h hle hL htl hb h1
      go_enter Tryz.func194, Tryz.ntmps194
      go_wp2_with (first | (go_at_call 107; refine HA.out.mono ?_; rintro _ w1 ⟨rfl, hb1⟩; have HR1 := Lib.hid (HH.out.grow hb1); clear hb1) | (go_at_call 189; refine (HP.out _ HR1.out).mono ?_; rintro _ w2 ⟨rfl, hr2⟩; have HR2 := Lib.hid hr2; clear hr2) | (go_at_call 141; refine (HAD.out _ _ HR2.out).mono ?_; rintro _ w3 ⟨rfl, hr3, ha3⟩; have HR3 := Lib.hid hr3; have HA3 := Lib.hid ha3; clear hr3 ha3))
      go_ret
      exact out_ok rfl HA3.out HR3.out
    · rw [conR_err (fun m hm => by rw [ha] at hm; cases hm; exact h1)]
      by_cases h2 : n < -1099511627776
      · have d1 : decide (n < -1099511627776) = true := decide_eq_true h2
        clear hsd hsz ha hGw hg h hle hL htl hb h1
        go_enter Tryz.func194, Tryz.ntmps194
        go_wp2_with (first | (go_at_call 107; refine HA.out.mono ?_; rintro _ w1 ⟨rfl, hb1⟩; have HR1 := Lib.hid (HH.out.grow hb1); clear hb1) | (go_at_call 167; refine (HF.out _ HR1.out).mono ?_; rintro _ w2 ⟨rfl, hr2⟩; have HR2 := Lib.hid hr2; clear hr2))
        go_ret
        exact out_err HR2.out
      · have d1 : decide (n < -1099511627776) = false := decide_eq_false h2
        have d2 : decide (1099511627776 < n) = true := decide_eq_true (by omega)
        clear hsd hsz ha hGw hg h hle hL htl hb h1
        go_enter Tryz.func194, Tryz.ntmps194
        go_wp2_with (first | (go_at_call 107; refine HA.out.mono ?_; rintro _ w1 ⟨rfl, hb1⟩; have HR1 := Lib.hid (HH.out.grow hb1); clear hb1) | (go_at_call 167; refine (HF.out _ HR1.out).mono ?_; rintro _ w2 ⟨rfl, hr2⟩; have HR2 := Lib.hid hr2; clear hr2))
        go_ret
        exact out_err HR2.out

set_option maxHeartbeats 1000000 in
set_option maxRecDepth 100000 in
theorem argument_over (k : Nat) (hk : k < 10) (hs : s = [36] ++ dig k) (hna : na ≤ (k : Int)) (w : World) (h : Rd f W0 B t v1 na a s c0 0 w) :
    Calls Tryz.prog 197 #[.pointer (some ⟨B, 0, none⟩)] w fun z w' => Out f W0 B t v1 na c0 (.err a 3) z w' := by
  obtain ⟨_, ⟨_, _, c2, _, c4, _, _⟩, _, _⟩ := h.cells
  have HF := Lib.hid (fun W hW => fail_any (f := f) (W0 := W0) (B := B) (a := a) (t := t) (s := s) (v1 := v1) (na := na) (e := 0) (c := c0) W 3 hW)
  have HH := Lib.hid h
  have hs2 : s = [36, UInt8.ofNat (48 + k)] := by rw [hs, dig_small k hk]; rfl
  have hsz : (str s).size = 2 := by rw [str_size, hs2]; rfl
  have h1 : 1 < (str s).size := by omega
  obtain ⟨d, hd⟩ : ∃ d, UInt8.ofNat (48 + k) = d := ⟨_, rfl⟩
  rw [hd] at hs2
  have hc1 : (str s)[1]'h1 = d := by
    have h2 : s[1]? = some d := by rw [hs2]; rfl
    rw [str_get]
    exact (List.getElem?_eq_some_iff.1 h2).2
  have hto : (d.toNat : Int) = 48 + (k : Int) := by rw [← hd, UInt8.toNat_ofNat']; omega
  have hw8 : IntKind.u8.wrap (48 + (k : Int) - 48) = (k : Int) := by rw [show 48 + (k : Int) - 48 = (k : Int) by omega]; exact IntWalk.u8_in _ (by omega)
  have hw64 : IntKind.i64.wrap (k : Int) = (k : Int) := IntWalk.i64_in _ (by omega)
  unfold sv at c4
  clear hs hs2 h hd
  go_enter Tryz.func197, Tryz.ntmps197
  go_wp2_with (go_at_call 167; refine (HF.out _ HH.out).mono ?_; rintro _ w2 ⟨rfl, hr2⟩; have HR2 := Lib.hid hr2; clear hr2)
  go_ret
  exact out_err HR2.out

set_option maxHeartbeats 1000000 in
set_option maxRecDepth 100000 in
theorem index_none (vs : List Bs) (s : Bs) (v : Value) (w : World) (h : Names w v vs) (hn : vs.length ≤ 1000000) (hs : s ∉ vs) :
    Calls Tryz.prog 84 #[v, .string (str s)] w fun e w' => e = .returned (.int .i64 (-1)) ∧ w = w' := by
  obtain ⟨ad, cap, rfl, hc⟩ := h
  obtain ⟨N, hN⟩ : ∃ N, vs.length = N := ⟨_, rfl⟩
  rw [List.length_map, hN]
  have HC := Lib.hid hc
  have HN := Lib.hid hN
  have HS := Lib.hid hs
  rw [hN] at hn
  clear hc hs hN
  go_enter Tryz.func84, Tryz.ntmps84
  go_wp2_with fail
  go_loopw [8] (fun i wr => ∃ K : Nat, i = .int .i64 (K : Int) ∧ K ≤ N ∧ w = wr) (fun i _ => N - (intOf i).toNat)
  case atStart => exact ⟨0, rfl, Nat.zero_le _, rfl⟩
  case round =>
    obtain ⟨K, rfl, hK, rfl⟩ := hrel
    by_cases hlt : K < N
    · have hltI : (K : Int) < (N : Int) := by omega
      have hk0 : 0 ≤ (K : Int) := by omega
      have hw1 : IntKind.i64.wrap ((K : Int) + 1) = (K : Int) + 1 := IntWalk.i64_in _ (by omega)
      obtain ⟨x, hx⟩ : ∃ x, vs[K]? = some x := ⟨_, List.getElem?_eq_getElem (by rw [HN.out]; exact hlt)⟩
      obtain ⟨b, off, rfl, hcell⟩ := HC.out K (sv x) (by rw [List.getElem?_map, hx]; rfl)
      have hne : x ≠ s := by rintro rfl; exact HS.out (List.mem_of_getElem? hx)
      have hee : ((str s).toList == (str x).toList) = false := by rw [str_toList, str_toList]; exact beq_eq_false_iff_ne.2 (Ne.symm hne)
      have hee2 : ((str x).toList == (str s).toList) = false := by rw [str_toList, str_toList]; exact beq_eq_false_iff_ne.2 hne
      unfold sv at hcell
      clear hx hne
      go_wp2_with fail
      go_roundw
      case rel => exact ⟨K + 1, by go_num, by omega, by first | rfl | trivial⟩
      case measure => simp [intOf]; omega
    · have hltI : ¬ (K : Int) < (N : Int) := by omega
      go_wp2_with fail
      go_ret
      exact ⟨rfl, by first | rfl | trivial⟩
end
end Go.Proofs.YtfooiggedgcjcaaGreatDoor.I
