/-
  Contracts of the program's reader of layer 4: atoms.
-/
import Derived.Test.YtbeidmkhpcnbbaaGreatDoorIPCall
namespace Go.Proofs.YtbeidmkhpcnbbaaGreatDoor.I
open Go Go.RowKit Go.Proofs.YtbeidmkhpcnbbaaGreatDoor.B Go.Proofs.YtbeidmkhpcnbbaaGreatDoor.K Go.Proofs.YtbeidmkhpcnbbaaGreatDoor.E
set_option linter.unusedVariables false

section
variable {f : Nat → Option Obj} {W0 : World} {B p : Nat} {t s : Bs} {v1 : Value} {na : Int} {c0 : List In} {r : List Tk}

set_option maxHeartbeats 1000000 in
set_option maxRecDepth 100000 in
/-- Nothing is there. -/
theorem atom_end (w : World) (h : Rd f W0 B t v1 na p [] c0 0 w) :
    Calls Tryz.prog 84 #[.pointer (some ⟨B, 0, none⟩)] w fun z w' => Out f W0 B t v1 na c0 (.err p 6) z w' := by
  obtain ⟨_, ⟨_, _, _, _, c4, _, _⟩, _, _⟩ := h.cells
  have HF := Lib.hid (fun W hW => fail_any (f := f) (W0 := W0) (B := B) (a := p) (t := t) (s := []) (v1 := v1) (na := na) (e := 0) (c := c0) W 6 hW)
  have e1 : ((str []).toList == [40]) = false := by rw [str_toList]; rfl
  have e2 : (str []).toList.isEmpty = true := by rw [str_toList]; rfl
  have HH := Lib.hid h
  unfold sv at c4
  clear h
  go_enter Tryz.func84, Tryz.ntmps84
  go_wp2_with (go_at_call 37; refine (HF.out _ HH.out).mono ?_; rintro _ w1 ⟨rfl, hr1⟩; have HR1 := Lib.hid hr1; clear hr1)
  go_ret
  exact out_err HR1.out

set_option maxHeartbeats 1000000 in
set_option maxRecDepth 100000 in
/-- In brackets. -/
theorem atom_par (c : List In) (q : Nat) (r' : List Tk) (hop : Opd W0 B t v1 na 16 r (.ok c ((q, [41]) :: r'))) (w : World) (hg : Glob W0) (h : Rd f W0 B t v1 na p [40] c0 0 w) (hat : At t p [40] r) (htl : t.length ≤ 2048) (hb : c0.length + r.length ≤ 1000000) :
    Calls Tryz.prog 84 #[.pointer (some ⟨B, 0, none⟩)] w fun z w' => Out f W0 B t v1 na c0 (.ok c r') z w' := by
  obtain ⟨_, ⟨_, _, _, _, c4, _, _⟩, _, _⟩ := h.cells
  obtain ⟨h1, h2⟩ := hat.next (by decide)
  obtain ⟨⟨p', s'⟩, r1, hr⟩ := lx_cons h2
  have HA := Lib.hid (advance_any w hg h h1 (hr ▸ h2) htl)
  have HO := Lib.hid (fun W h3 h4 => hop f c0 W p' s' r1 hr h3 h4 hb)
  have HPS := Lib.hid (fun (W : World) (hW : Rd f W0 B t v1 na q [41] (c0 ++ c) 0 W) (ha : At t q [41] r') => pass_any W hg hW ha (by decide) htl)
  have e1 : ((str [40]).toList == [40]) = true := by rw [str_toList]; rfl
  unfold sv at c4 HPS
  clear h h1 h2 hat hg htl hr hop hb
  go_enter Tryz.func84, Tryz.ntmps84
  go_wp2_with (first | (go_at_call 15; refine HA.out.mono ?_; rintro _ w1 ⟨rfl, hr1, ha1⟩; have HR1 := Lib.hid hr1; have HA1 := Lib.hid ha1; clear hr1 ha1) | (go_at_call 16; refine (HO.out _ HA1.out HR1.out).mono ?_; rintro _ w3 ⟨rfl, p4, s4, r4, e4, a4, hr4⟩; cases e4; have HR4 := Lib.hid hr4; have HA4 := Lib.hid a4; clear hr4 a4) | (go_at_call 86; refine (HPS.out _ HR4.out HA4.out).mono ?_; rintro _ w5 ⟨rfl, p6, s6, r6, e6, a6, hr6⟩; have HR6 := Lib.hid hr6; have HA6 := Lib.hid a6; have HE6 := Lib.hid e6; clear hr6 a6 e6))
  go_ret
  exact out_ok HE6.out HA6.out HR6.out

set_option maxHeartbeats 1000000 in
set_option maxRecDepth 100000 in
/-- A number. -/
theorem atom_num (v : Nat) (hv : v ≤ 1099511627776) (w : World) (hg : Glob W0) (h : Rd f W0 B t v1 na p (dig v) c0 0 w) (hat : At t p (dig v) r) (htl : t.length ≤ 2048) (hb : c0.length ≤ 1000000) :
    Calls Tryz.prog 84 #[.pointer (some ⟨B, 0, none⟩)] w fun z w' => Out f W0 B t v1 na c0 (.ok [(1, (v : Int))] r) z w' := by
  obtain ⟨_, ⟨_, _, _, _, c4, _, _⟩, _, _⟩ := h.cells
  obtain ⟨h1, h2⟩ := hat.next (dig_ne v)
  have hc := constant_any (v : Int) (atoi_pos v) (by have := dig_length v hv; omega) (by omega) (by omega) w hg h h1 h2 htl hb
  obtain ⟨d, x, hdx, hdd⟩ := dig_head v
  obtain ⟨s, hs⟩ : ∃ s, dig v = s := ⟨_, rfl⟩
  rw [hs] at c4 hdx
  have HC := Lib.hid hc
  have e1 : ((str s).toList == [40]) = false := by rw [str_toList, hdx, beq_eq_false_iff_ne]; intro e; cases e; cases hdd
  have e2 : (str s).toList.isEmpty = false := by rw [str_toList, hdx]; rfl
  have h0 : 0 < (str s).size := by rw [str_size, hdx]; simp
  have hc0 : (str s)[0]'h0 = d := by rw [str_get]; simp [hdx]
  have hsz : (str s).size = s.length := str_size s
  have hpos : (0 : Int) < (s.length : Int) := by rw [hdx]; simp only [List.length_cons]; omega
  have HD := Lib.hid (fun W => isDigit_any d W)
  rw [hdd] at HD
  unfold sv at c4
  clear h h1 h2 hat hg htl hb hs hdx hdd hc hv
  go_enter Tryz.func84, Tryz.ntmps84
  go_wp2_with (first | (go_at_call 40; refine (HD.out _).mono ?_; rintro _ w1 ⟨rfl, rfl⟩) | (go_at_call 83; refine HC.out.mono ?_; rintro _ w3 ⟨rfl, p4, s4, r4, e4, a4, hr4⟩; have HR4 := Lib.hid hr4; have HA4 := Lib.hid a4; have HE4 := Lib.hid e4; clear hr4 a4 e4))
  go_ret
  exact out_ok HE4.out HA4.out HR4.out
set_option maxHeartbeats 1000000 in
set_option maxRecDepth 100000 in
/-- An argument. -/
theorem atom_arg (k : Nat) (hk : k < 10) (hs : s = [36] ++ dig k) (hna : (k : Int) < na) (w : World) (hg : Glob W0) (h : Rd f W0 B t v1 na p s c0 0 w) (hat : At t p s r) (htl : t.length ≤ 2048) (hb : c0.length ≤ 1000000) :
    Calls Tryz.prog 84 #[.pointer (some ⟨B, 0, none⟩)] w fun z w' => Out f W0 B t v1 na c0 (.ok [(3, (k : Int))] r) z w' := by
  obtain ⟨_, ⟨_, _, _, _, c4, _, _⟩, _, _⟩ := h.cells
  obtain ⟨h1, h2⟩ := hat.next (by rw [hs]; simp)
  have HC := Lib.hid (argument_any k hk hs hna w hg h h1 h2 htl hb)
  obtain ⟨d, x, hdx, hd36⟩ : ∃ d x, s = d :: x ∧ d = 36 := ⟨36, dig k, hs, rfl⟩
  have hdd : digit d = false := by rw [hd36]; rfl
  have e1 : ((str s).toList == [40]) = false := by rw [str_toList, hdx, beq_eq_false_iff_ne]; intro e; cases e; cases hd36
  have e36 : ((d.toNat : Int) == 36) = true := by rw [hd36]; rfl
  have e2 : (str s).toList.isEmpty = false := by rw [str_toList, hdx]; rfl
  have h0 : 0 < (str s).size := by rw [str_size, hdx]; simp
  have hc0 : (str s)[0]'h0 = d := by rw [str_get]; simp [hdx]
  have hsz : (str s).size = s.length := str_size s
  have hpos : (0 : Int) < (s.length : Int) := by rw [hdx]; simp only [List.length_cons]; omega
  have HD := Lib.hid (fun W => isDigit_any d W)
  rw [hdd] at HD
  unfold sv at c4
  clear h h1 h2 hat hg htl hb hs hdx hdd hd36 hna
  go_enter Tryz.func84, Tryz.ntmps84
  go_wp2_with (first | (go_at_call 40; refine (HD.out _).mono ?_; rintro _ w1 ⟨rfl, rfl⟩) | (go_at_call 87; refine (HC.out).mono ?_; rintro _ w4 ⟨rfl, p4, s4, r4, e4, a4, hr4⟩; have HR4 := Lib.hid hr4; have HA4 := Lib.hid a4; have HE4 := Lib.hid e4; clear hr4 a4 e4))
  go_ret
  exact out_ok HE4.out HA4.out HR4.out

set_option maxHeartbeats 1000000 in
set_option maxRecDepth 100000 in
/-- A variable. -/
theorem atom_var (vs : List Bs) (hvs : Names W0 v1 vs) (k : Nat) (hk : vs[k]? = some s) (hn : ∀ j, j < k → vs[j]? ≠ some s) (hnm : isName s = true) (hvl : vs.length ≤ 1000000) (w : World) (hg : Glob W0) (h : Rd f W0 B t v1 na p s c0 0 w) (hat : At t p s r) (htl : t.length ≤ 2048) (hb : c0.length ≤ 1000000) :
    Calls Tryz.prog 84 #[.pointer (some ⟨B, 0, none⟩)] w fun z w' => Out f W0 B t v1 na c0 (.ok [(2, (k : Int))] r) z w' := by
  obtain ⟨_, ⟨_, _, _, _, c4, _, _⟩, _, _⟩ := h.cells
  obtain ⟨d, x, hdx⟩ : ∃ d x, s = d :: x := by
    cases s with
    | nil => cases hnm
    | cons d x => exact ⟨d, x, rfl⟩
  obtain ⟨h1, h2⟩ := hat.next (by rw [hdx]; simp)
  have HC := Lib.hid (variable_any vs hvs k hk hn w hg h h1 h2 htl hb hvl)
  have hle : letter d = true := by rw [hdx, isName_cons] at hnm; simp only [Bool.and_eq_true] at hnm; exact hnm.1.1.1.1.2
  have hdd : digit d = false := by
    cases hq : digit d with
    | false => rfl
    | true => rw [not_letter hq] at hle; cases hle
  have e1 : ((str s).toList == [40]) = false := by rw [str_toList, hdx, beq_eq_false_iff_ne]; intro e; cases e; cases hle
  have e36 : ((d.toNat : Int) == 36) = false := by
    rw [beq_eq_false_iff_ne]; intro e
    have : d = 36 := (byte_eq d 36 (by decide)).2 (by omega)
    subst this; cases hle
  have e2 : (str s).toList.isEmpty = false := by rw [str_toList, hdx]; rfl
  have h0 : 0 < (str s).size := by rw [str_size, hdx]; simp
  have hc0 : (str s)[0]'h0 = d := by rw [str_get]; simp [hdx]
  have hsz : (str s).size = s.length := str_size s
  have hpos : (0 : Int) < (s.length : Int) := by rw [hdx]; simp only [List.length_cons]; omega
  have HD := Lib.hid (fun W => isDigit_any d W)
  rw [hdd] at HD
  have HNM := Lib.hid (fun W hW => name_any s W hW (by omega))
  rw [hnm] at HNM
  have HG := Lib.hid (h.glob hg)
  unfold sv at c4 HNM
  clear h h1 h2 hat hg htl hb hdx hdd hle hnm hk hn hvs hvl
  go_enter Tryz.func84, Tryz.ntmps84
  go_wp2_with (first | (go_at_call 40; refine (HD.out _).mono ?_; rintro _ w1 ⟨rfl, rfl⟩) | (go_at_call 9; refine (HNM.out _ HG.out).mono ?_; rintro _ w2 ⟨rfl, rfl⟩) | (go_at_call 88; refine (HC.out).mono ?_; rintro _ w4 ⟨rfl, p4, s4, r4, e4, a4, hr4⟩; have HR4 := Lib.hid hr4; have HA4 := Lib.hid a4; have HE4 := Lib.hid e4; clear hr4 a4 e4))
  go_ret
  exact out_ok HE4.out HA4.out HR4.out

set_option maxHeartbeats 1000000 in
set_option maxRecDepth 100000 in
/-- A call. -/
theorem atom_call (o : Int) (n : Nat) (hs : s = wmin ∧ o = 9 ∧ n = 2 ∨ s = wmax ∧ o = 10 ∧ n = 2 ∨ s = wif ∧ o = 16 ∧ n = 3) (c : List In) (q : Nat) (r' : List Tk) (w : World) (hg : Glob W0) (h : Rd f W0 B t v1 na p s c0 0 w) (hat : At t p s r) (htl : t.length ≤ 2048)
    (hargs : Args (Opd W0 B t v1 na 16) n [40] r c ((q, [41]) :: r')) (hb : c0.length + r.length ≤ 999999) :
    Calls Tryz.prog 84 #[.pointer (some ⟨B, 0, none⟩)] w fun z w' => Out f W0 B t v1 na c0 (.ok (c ++ [(o, 0)]) r') z w' := by
  obtain ⟨_, ⟨_, _, _, _, c4, _, _⟩, _, _⟩ := h.cells
  have hne : s ≠ [] := by rcases hs with ⟨rfl, _⟩ | ⟨rfl, _⟩ | ⟨rfl, _⟩ <;> decide
  have HC := Lib.hid (call_any o n (by rcases hs with ⟨_, rfl, rfl⟩ | ⟨_, rfl, rfl⟩ | ⟨_, rfl, rfl⟩ <;> decide) (by rcases hs with ⟨_, rfl, _⟩ | ⟨_, rfl, _⟩ | ⟨_, rfl, _⟩ <;> decide) (by rcases hs with ⟨_, rfl, _⟩ | ⟨_, rfl, _⟩ | ⟨_, rfl, _⟩ <;> decide) c q r' w hg h hat hne htl hargs hb (by omega))
  have hco : calledOf s = o := by rcases hs with ⟨rfl, rfl, _⟩ | ⟨rfl, rfl, _⟩ | ⟨rfl, rfl, _⟩ <;> decide
  have hnm : isName s = false := by rcases hs with ⟨rfl, _⟩ | ⟨rfl, _⟩ | ⟨rfl, _⟩ <;> decide
  obtain ⟨d, x, hdx, hle⟩ : ∃ d x, s = d :: x ∧ letter d = true := by rcases hs with ⟨rfl, _⟩ | ⟨rfl, _⟩ | ⟨rfl, _⟩ <;> exact ⟨_, _, rfl, by decide⟩
  have hon : (o == 0) = false := by rcases hs with ⟨_, rfl, _⟩ | ⟨_, rfl, _⟩ | ⟨_, rfl, _⟩ <;> decide
  have hlen : s.length ≤ 3 := by rcases hs with ⟨rfl, _⟩ | ⟨rfl, _⟩ | ⟨rfl, _⟩ <;> decide
  have hdd : digit d = false := by
    cases hq : digit d with
    | false => rfl
    | true => rw [not_letter hq] at hle; cases hle
  have e1 : ((str s).toList == [40]) = false := by rw [str_toList, hdx, beq_eq_false_iff_ne]; intro e; cases e; cases hle
  have e36 : ((d.toNat : Int) == 36) = false := by
    rw [beq_eq_false_iff_ne]; intro e
    have : d = 36 := (byte_eq d 36 (by decide)).2 (by omega)
    subst this; cases hle
  have e2 : (str s).toList.isEmpty = false := by rw [str_toList, hdx]; rfl
  have h0 : 0 < (str s).size := by rw [str_size, hdx]; simp
  have hc0 : (str s)[0]'h0 = d := by rw [str_get]; simp [hdx]
  have hsz : (str s).size = s.length := str_size s
  have hpos : (0 : Int) < (s.length : Int) := by rw [hdx]; simp only [List.length_cons]; omega
  have HD := Lib.hid (fun W => isDigit_any d W)
  rw [hdd] at HD
  have HNM := Lib.hid (fun W hW => name_any s W hW (by omega))
  rw [hnm] at HNM
  have HCL := Lib.hid (fun W hW => called_any s W hW)
  rw [hco] at HCL
  have HG := Lib.hid (h.glob hg)
  unfold sv at c4 HNM HCL
  clear h hat hg htl hb hdx hdd hle hnm hs hargs hco hlen hne
  go_enter Tryz.func84, Tryz.ntmps84
  go_wp2_with (first | (go_at_call 40; refine (HD.out _).mono ?_; rintro _ w1 ⟨rfl, rfl⟩) | (go_at_call 9; refine (HNM.out _ HG.out).mono ?_; rintro _ w2 ⟨rfl, rfl⟩) | (go_at_call 20; refine (HCL.out _ HG.out).mono ?_; rintro _ w2 ⟨rfl, rfl⟩) | (go_at_call 89; refine (HC.out).mono ?_; rintro _ w4 ⟨rfl, p4, s4, r4, e4, a4, hr4⟩; have HR4 := Lib.hid hr4; have HA4 := Lib.hid a4; have HE4 := Lib.hid e4; clear hr4 a4 e4))
  go_ret
  exact out_ok HE4.out HA4.out HR4.out
end
end Go.Proofs.YtbeidmkhpcnbbaaGreatDoor.I
