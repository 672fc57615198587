/-
  Contracts of the program's reader of layer 4: atoms and calls, whatever stands there.
  Layer 4: the program's reader does what the grammar's derivations say.
-/
import Derived.Test.YtfooiggedgcjcaaGreatDoorIPMore
namespace Go.Proofs.YtfooiggedgcjcaaGreatDoor.I
open Go Go.RowKit Go.Proofs.YtfooiggedgcjcaaGreatDoor.B Go.Proofs.YtfooiggedgcjcaaGreatDoor.K Go.Proofs.YtfooiggedgcjcaaGreatDoor.E
set_option linter.unusedVariables false

section
variable {f : Nat → Option Obj} {W0 : World} {B a p : Nat} {t s : Bs} {v1 : Value} {na : Int} {c0 : List In} {r : List Tk}

set_option maxHeartbeats 1000000 in
set_option maxRecDepth 100000 in
theorem variable_none (vs : List Bs) (hvs : Names W0 v1 vs) (hn : s ∉ vs) (w : World) (h : Rd f W0 B t v1 na a s c0 0 w) (hvl : vs.length ≤ 1000000) :
    Calls Tryz.prog 198 #[.pointer (some ⟨B, 0, none⟩)] w fun z w' => Out f W0 B t v1 na c0 (.err a 8) z w' := by
  obtain ⟨_, ⟨_, c1, _, _, c4, _, _⟩, _, _⟩ := h.cells
  have HF := Lib.hid (fun W hW => fail_any (f := f) (W0 := W0) (B := B) (a := a) (t := t) (s := s) (v1 := v1) (na := na) (e := 0) (c := c0) W 8 hW)
  have HH := Lib.hid h
  have HI := Lib.hid (fun m => index_none vs s v1 (w.drewN m) ((h.names hvs).below (below_drewN (Below.refl _ _) m)) hvl hn)
  obtain ⟨ad, cap, hv1, -⟩ := h.names hvs
  obtain ⟨N, hN⟩ : ∃ N, (vs.map sv).length = N := ⟨_, rfl⟩
  rw [hN] at hv1
  subst hv1
  unfold sv at c4
  clear hvs hn h hvl hN
  go_enter Tryz.func198, Tryz.ntmps198
  go_wp2_with fail
  go_quiet ((go_at_call 84; exact Calls.quiet_of_same ((HI.out _).mono fun e w' h => ⟨h.1, h.2.symm⟩)))
  go_wp2_with (go_at_call 167; refine (HF.out _ (HH.out.drewN _)).mono ?_; rintro _ w2 ⟨rfl, hr2⟩; have HR2 := Lib.hid hr2; clear hr2)
  go_ret
  exact out_err HR2.out

set_option maxHeartbeats 1000000 in
set_option maxRecDepth 100000 in
/-- Another word than the one that can stand here. -/
theorem pass_no (u : Bs) (w : World) (h : Rd f W0 B t v1 na p s c0 0 w) (hs : s ≠ u) :
    Calls Tryz.prog 196 #[.pointer (some ⟨B, 0, none⟩), sv u] w fun z w' => z = .returned (.bool false) ∧ Rd f W0 B t v1 na p s c0 6 w' := by
  obtain ⟨_, ⟨_, _, _, _, c4, _, _⟩, _, _⟩ := h.cells
  have HF := Lib.hid (fun W hW => fail_any (f := f) (W0 := W0) (B := B) (a := p) (t := t) (s := s) (v1 := v1) (na := na) (e := 0) (c := c0) W 6 hW)
  have HH := Lib.hid h
  have he : ((str s).toList == (str u).toList) = false := by rw [str_toList, str_toList]; exact beq_eq_false_iff_ne.2 hs
  have he2 : (!((str s).toList == (str u).toList)) = true := by rw [he]; rfl
  unfold sv at c4 ⊢
  clear h hs
  go_enter Tryz.func196, Tryz.ntmps196
  go_wp2_with (go_at_call 167; refine (HF.out _ HH.out).mono ?_; rintro _ w2 ⟨rfl, hr2⟩; have HR2 := Lib.hid hr2; clear hr2)
  go_ret
  exact ⟨rfl, HR2.out⟩

/-- Operands of a call of which one is wrong. -/
inductive ArgsE (C : List Tk → Rs → Prop) : Nat → Bs → List Tk → Nat → Int → Prop
  | fin (ah : Bs) (q : Nat) (s : Bs) (r : List Tk) : s ≠ [41] → ArgsE C 0 ah ((q, s) :: r) q 6
  | mis (n : Nat) (ah : Bs) (q : Nat) (s : Bs) (r : List Tk) : s ≠ ah → ArgsE C (n + 1) ah ((q, s) :: r) q 6
  | err (n : Nat) (ah : Bs) (q : Nat) (l : List Tk) (p : Nat) (e : Int) : C l (.err p e) → ArgsE C (n + 1) ah ((q, ah) :: l) p e
  | go (n : Nat) (ah : Bs) (q : Nat) (l : List Tk) (c : List In) (r : List Tk) (p : Nat) (e : Int) : C l (.ok c r) → c.length + r.length ≤ l.length → ArgsE C n [44] r p e → ArgsE C (n + 1) ah ((q, ah) :: l) p e

theorem argsE_inv {C : List Tk → Rs → Prop} {n : Nat} {ah : Bs} {ts : List Tk} {p : Nat} {e : Int} (h : ArgsE C n ah ts p e) :
    (n = 0 ∧ ∃ s r, ts = (p, s) :: r ∧ s ≠ [41] ∧ e = 6) ∨ (∃ m, n = m + 1 ∧ ∃ s r, ts = (p, s) :: r ∧ s ≠ ah ∧ e = 6) ∨ (∃ m q l, n = m + 1 ∧ ts = (q, ah) :: l ∧ C l (.err p e)) ∨
      ∃ m q l c r, n = m + 1 ∧ ts = (q, ah) :: l ∧ C l (.ok c r) ∧ c.length + r.length ≤ l.length ∧ ArgsE C m [44] r p e := by
  cases h with
  | fin ah q s r h => exact Or.inl ⟨rfl, s, r, rfl, h, rfl⟩
  | mis n ah q s r h => exact Or.inr (Or.inl ⟨n, rfl, s, r, rfl, h, rfl⟩)
  | err n ah q l p e h => exact Or.inr (Or.inr (Or.inl ⟨n, q, l, rfl, rfl, h⟩))
  | go n ah q l c r p e h1 h2 h3 => exact Or.inr (Or.inr (Or.inr ⟨n, q, l, c, r, rfl, rfl, h1, h2, h3⟩))

set_option maxHeartbeats 2000000 in
set_option maxRecDepth 100000 in
theorem call_err (o : Int) (n : Nat) (hn : takes o = (n : Int)) (ho1 : 1 ≤ o) (ho2 : o ≤ 16) (pe : Nat) (ee : Int) (w : World) (hg : Glob W0) (h : Rd f W0 B t v1 na p s c0 0 w) (hat : At t p s r) (hs : s ≠ []) (htl : t.length ≤ 2048)
    (hargs : ArgsE (Opd W0 B t v1 na 142) n [40] r pe ee) (hb : c0.length + r.length ≤ 999999) :
    Calls Tryz.prog 199 #[.pointer (some ⟨B, 0, none⟩), .int .i64 o] w fun z w' => Out f W0 B t v1 na c0 (.err pe ee) z w' := by
  obtain ⟨h1, h2⟩ := hat.next hs
  obtain ⟨⟨p', s'⟩, r1, hr⟩ := lx_cons h2
  have HA := Lib.hid (advance_any w hg h h1 (hr ▸ h2) htl)
  have HOP := Lib.hid (fun W => operands_any o ho1 ho2 W)
  rw [hn] at HOP
  have HPS := Lib.hid (fun (W : World) (p : Nat) (s : Bs) (c : List In) (r : List Tk) hW hat hs => pass_any (f := f) (W0 := W0) (B := B) (p := p) (t := t) (s := s) (v1 := v1) (na := na) (c0 := c) (r := r) W hg hW hat hs htl)
  have HPN := Lib.hid (fun (W : World) (p : Nat) (s u : Bs) (c : List In) hW hs => pass_no (f := f) (W0 := W0) (B := B) (p := p) (t := t) (s := s) (v1 := v1) (na := na) (c0 := c) u W hW hs)
  have HR := Lib.hid hr
  have HARGS := Lib.hid hargs
  have HB := Lib.hid hb
  have HO := Lib.hid (show n ≤ 3 by have := takes_range o; omega)
  clear h1 h2 h hat hs hg hr hargs hb hn ho1 ho2 htl
  go_enter Tryz.func199, Tryz.ntmps199
  go_wp2_with (first | (go_at_call 141; refine HA.out.mono ?_; rintro _ w1 ⟨rfl, hr1, ha1⟩; have HR1 := Lib.hid hr1; have HA1 := Lib.hid ha1; clear hr1 ha1) | (go_at_call 153; refine (HOP.out _).mono ?_; rintro _ w2 ⟨rfl, rfl⟩))
  go_loopg [5, 10] n (fun g ah k wr => ∃ (K : Nat) (l : Bs) (c1 : List In) (ts r2 : List Tk) (p2 : Nat) (s2 : Bs), K + g = n ∧ ah = .string (str l) ∧ k = .int .i64 (K : Int) ∧ Hid (l ≠ [] ∧ cutw l = l ∧ ∀ x : Bs, cutw x = l ↔ x = l) ∧ Hid (ts = (p2, s2) :: r2 ∧ c0.length + c1.length + ts.length ≤ 999999) ∧ Hid (ArgsE (Opd W0 B t v1 na 142) g l ts pe ee) ∧ Hid (At t p2 s2 r2) ∧ Hid (Rd f W0 B t v1 na p2 (cutw s2) (c0 ++ c1) 0 wr))
  case atStart => exact ⟨0, [40], [], r, r1, p', s', by omega, rfl, rfl, Lib.hid ⟨by decide, by decide, fun x => cutw_sg x [40] (by decide)⟩, Lib.hid ⟨HR.out, by have := HB.out; simp; omega⟩, HARGS, HA1, Lib.hid (by rw [List.append_nil]; exact HR1.out)⟩
  case round =>
    obtain ⟨K, l, c1, ts, r2, p2, s2, hK, rfl, rfl, HL, HTS, HAR, HAT, HRR⟩ := hrel
    have har := HAR.out
    rcases argsE_inv har with ⟨hz, s9, r9, hts, hs9, he⟩ | ⟨m, hm, s9, r9, hts, hs9, he⟩ | ⟨m, q2, l2, hm, hts, hop⟩ | ⟨m, q2, l2, d1, ts1, hm, hts, hop, hlen, har2⟩
    · obtain ⟨ht1, ht3⟩ := HTS.out
      rw [hts] at ht1
      cases ht1
      subst hz he
      obtain rfl : K = n := by omega
      have HP2 := Lib.hid (HPN.out wr pe (cutw s2) [41] (c0 ++ c1) HRR.out (fun e => hs9 ((cutw_sg s2 [41] (by decide)).1 e)))
      clear har hts ht3 HRR hs9
      unfold sv at HP2
      go_wp2_with (go_at_call 196; refine HP2.out.mono ?_; rintro _ w3 ⟨rfl, hr4⟩; have HR4 := Lib.hid hr4; clear hr4)
      go_ret
      exact out_err HR4.out
    · obtain ⟨ht1, ht3⟩ := HTS.out
      rw [hts] at ht1
      cases ht1
      subst hm he
      have hKI : (K : Int) < (n : Int) := by omega
      have HP2 := Lib.hid (HPN.out wr pe (cutw s2) l (c0 ++ c1) HRR.out (fun e => hs9 ((HL.out.2.2 s2).1 e)))
      clear har hts ht3 HRR hs9
      unfold sv at HP2
      go_wp2_with (go_at_call 196; refine HP2.out.mono ?_; rintro _ w3 ⟨rfl, hr4⟩; have HR4 := Lib.hid hr4; clear hr4)
      go_ret
      exact out_err HR4.out
    · obtain ⟨ht1, ht3⟩ := HTS.out
      rw [hts] at ht1
      cases ht1
      subst hm hts
      have hKI : (K : Int) < (n : Int) := by omega
      have hRR : Rd f W0 B t v1 na p2 l (c0 ++ c1) 0 wr := by have := HRR.out; rw [HL.out.2.1] at this; exact this
      have HP2 := Lib.hid (HPS.out wr p2 l (c0 ++ c1) r2 hRR HAT.out HL.out.1)
      have HOPA := Lib.hid (fun W p s r h1 h2 h3 => hop f (c0 ++ c1) W p s r h1 h2 h3 (by rw [List.length_append]; simp only [List.length_cons] at ht3; omega))
      clear har ht3 hRR hop HRR
      unfold sv at HP2
      go_wp2_with (first | (go_at_call 196; refine HP2.out.mono ?_; rintro _ w3 ⟨rfl, p4, s4, r4, e4, a4, hr4⟩; have HR4 := Lib.hid hr4; have HA4 := Lib.hid a4; have HE4 := Lib.hid e4; clear hr4 a4 e4) | (go_at_call 142; refine (HOPA.out _ _ _ _ HE4.out HA4.out HR4.out).mono ?_; rintro _ w5 ⟨rfl, s6, c6, hr6⟩; have HR6 := Lib.hid hr6; clear hr6))
      go_ret
      exact out_err HR6.out
    · obtain ⟨ht1, ht3⟩ := HTS.out
      rw [hts] at ht1
      cases ht1
      subst hm hts
      have hKI : (K : Int) < (n : Int) := by omega
      have hwK : IntKind.i64.wrap ((K : Int) + 1) = ((K + 1 : Nat) : Int) := by rw [show ((K + 1 : Nat) : Int) = (K : Int) + 1 by omega]; exact IntWalk.i64_in _ (by have := HO.out; omega)
      have hRR : Rd f W0 B t v1 na p2 l (c0 ++ c1) 0 wr := by have := HRR.out; rw [HL.out.2.1] at this; exact this
      have HP2 := Lib.hid (HPS.out wr p2 l (c0 ++ c1) r2 hRR HAT.out HL.out.1)
      have HOPA := Lib.hid (fun W p s r h1 h2 h3 => hop f (c0 ++ c1) W p s r h1 h2 h3 (by rw [List.length_append]; simp only [List.length_cons] at ht3; omega))
      have HAR2 := Lib.hid har2
      have HLN := Lib.hid (show c0.length + (c1 ++ d1).length + ts1.length ≤ 999999 by
        simp only [List.length_append, List.length_cons] at ht3 ⊢
        omega)
      clear har ht3 hRR hop hlen har2 HRR
      unfold sv at HP2
      go_wp2_with (first | (go_at_call 196; refine HP2.out.mono ?_; rintro _ w3 ⟨rfl, p4, s4, r4, e4, a4, hr4⟩; have HR4 := Lib.hid hr4; have HA4 := Lib.hid a4; have HE4 := Lib.hid e4; clear hr4 a4 e4) | (go_at_call 142; refine (HOPA.out _ _ _ _ HE4.out HA4.out HR4.out).mono ?_; rintro _ w5 ⟨rfl, p6, s6, r6, e6, a6, hr6⟩; have HR6 := Lib.hid hr6; have HA6 := Lib.hid a6; have HE6 := Lib.hid e6; clear hr6 a6 e6))
      go_roundg m
      case measure => omega
      case rel => exact ⟨K + 1, [44], c1 ++ d1, ts1, r6, p6, s6, by omega, rfl, by go_num, Lib.hid ⟨by decide, by decide, fun x => cutw_sg x [44] (by decide)⟩, Lib.hid ⟨HE6.out, HLN.out⟩, HAR2, HA6, Lib.hid (by have h6 := HR6.out; simp only [List.append_assoc] at h6 ⊢; exact h6)⟩

/-! ## Atoms -/

set_option maxHeartbeats 1000000 in
set_option maxRecDepth 100000 in
theorem atom_numT (d : UInt8) (y : Bs) (hdd : digit d = true) (x : Rs) (w : World) (h : Rd f W0 B t v1 na p (d :: y) c0 0 w)
    (hc : Calls Tryz.prog 194 #[.pointer (some ⟨B, 0, none⟩)] w fun z w' => Out f W0 B t v1 na c0 x z w') :
    Calls Tryz.prog 195 #[.pointer (some ⟨B, 0, none⟩)] w fun z w' => Out f W0 B t v1 na c0 x z w' := by
  obtain ⟨_, ⟨_, _, _, _, c4, _, _⟩, _, _⟩ := h.cells
  obtain ⟨s, hdx⟩ : ∃ s, d :: y = s := ⟨_, rfl⟩
  rw [hdx] at c4
  replace hdx := hdx.symm
  have HC := Lib.hid hc
  have e1 : ((str s).toList == [40]) = false := by rw [str_toList, hdx, beq_eq_false_iff_ne]; intro e; cases e; cases hdd
  have e2 : (str s).toList.isEmpty = false := by rw [str_toList, hdx]; rfl
  have h0 : 0 < (str s).size := by rw [str_size, hdx]; simp
  have hc0 : (str s)[0]'h0 = d := by rw [str_get]; simp [hdx]
  have hsz : (str s).size = s.length := str_size s
  have hpos : (0 : Int) < (s.length : Int) := by rw [hdx]; simp only [List.length_cons]; omega
  have HD := Lib.hid (fun W => isDigit_any d W)
  rw [hdd] at HD
  unfold sv at c4
  clear h hdx hdd hc
  go_enter Tryz.func195, Tryz.ntmps195
  go_wp2_with (first | (go_at_call 138; refine (HD.out _).mono ?_; rintro _ w1 ⟨rfl, rfl⟩) | (go_at_call 194; refine HC.out.mono ?_; rintro z w1 hz; obtain ⟨b, rfl, hz2⟩ := hz.ret; have HZ := Lib.hid hz2; clear hz hz2))
  go_ret
  exact HZ.out

set_option maxHeartbeats 1000000 in
set_option maxRecDepth 100000 in
theorem atom_argT (k : Nat) (hk : k < 10) (hs : s = [36] ++ dig k) (x : Rs) (w : World) (h : Rd f W0 B t v1 na p s c0 0 w)
    (hc : Calls Tryz.prog 197 #[.pointer (some ⟨B, 0, none⟩)] w fun z w' => Out f W0 B t v1 na c0 x z w') :
    Calls Tryz.prog 195 #[.pointer (some ⟨B, 0, none⟩)] w fun z w' => Out f W0 B t v1 na c0 x z w' := by
  obtain ⟨_, ⟨_, _, _, _, c4, _, _⟩, _, _⟩ := h.cells
  have HC := Lib.hid hc
  obtain ⟨d, x', hdx, hd36⟩ : ∃ d x, s = d :: x ∧ d = 36 := ⟨36, dig k, hs, rfl⟩
  have hdd : digit d = false := by rw [hd36]; rfl
  have e1 : ((str s).toList == [40]) = false := by rw [str_toList, hdx, beq_eq_false_iff_ne]; intro e; cases e; cases hd36
  have e36 : ((d.toNat : Int) == 36) = true := by rw [hd36]; rfl
  have e2 : (str s).toList.isEmpty = false := by rw [str_toList, hdx]; rfl
  have h0 : 0 < (str s).size := by rw [str_size, hdx]; simp
  have hc0 : (str s)[0]'h0 = d := by rw [str_get]; simp [hdx]
  have hsz : (str s).size = s.length := str_size s
  have hpos : (0 : Int) < (s.length : Int) := by rw [hdx]; simp only [List.length_cons]; omega
  have HD := Lib.hid (fun W => isDigit_any d W)
  rw [hdd] at HD
  unfold sv at c4
  clear h hs hdx hdd hd36 hc
  go_enter Tryz.func195, Tryz.ntmps195
  go_wp2_with (first | (go_at_call 138; refine (HD.out _).mono ?_; rintro _ w1 ⟨rfl, rfl⟩) | (go_at_call 197; refine HC.out.mono ?_; rintro z w1 hz; obtain ⟨b, rfl, hz2⟩ := hz.ret; have HZ := Lib.hid hz2; clear hz hz2))
  go_ret
  exact HZ.out

set_option maxHeartbeats 1000000 in
set_option maxRecDepth 100000 in
theorem atom_varT (hnm : isName s = true) (x : Rs) (w : World) (hg : Glob W0) (h : Rd f W0 B t v1 na p s c0 0 w) (hsl : s.length ≤ 4096)
    (hc : Calls Tryz.prog 198 #[.pointer (some ⟨B, 0, none⟩)] w fun z w' => Out f W0 B t v1 na c0 x z w') :
    Calls Tryz.prog 195 #[.pointer (some ⟨B, 0, none⟩)] w fun z w' => Out f W0 B t v1 na c0 x z w' := by
  obtain ⟨_, ⟨_, _, _, _, c4, _, _⟩, _, _⟩ := h.cells
  obtain ⟨d, x', hdx⟩ : ∃ d x, s = d :: x := by
    cases s with
    | nil => cases hnm
    | cons d x => exact ⟨d, x, rfl⟩
  have HC := Lib.hid hc
  have hle : letter d = true := by rw [hdx, isName_cons] at hnm; simp only [Bool.and_eq_true] at hnm; exact hnm.1.1.1.1.2
  have hdd : digit d = false := by
    cases hq : digit d with
    | false => rfl
    | true => rw [not_letter hq] at hle; cases hle
  have e1 : ((str s).toList == [40]) = false := by rw [str_toList, hdx, beq_eq_false_iff_ne]; intro e; cases e; cases hle
  have e36 : ((d.toNat : Int) == 36) = false := by
    rw [beq_eq_false_iff_ne]; intro e
    have : d = 36 := (byte_eq d 36 (by decide)).2 (by omega)
    subst this; cases hle
  have e2 : (str s).toList.isEmpty = false := by rw [str_toList, hdx]; rfl
  have h0 : 0 < (str s).size := by rw [str_size, hdx]; simp
  have hc0 : (str s)[0]'h0 = d := by rw [str_get]; simp [hdx]
  have hsz : (str s).size = s.length := str_size s
  have hpos : (0 : Int) < (s.length : Int) := by rw [hdx]; simp only [List.length_cons]; omega
  have HD := Lib.hid (fun W => isDigit_any d W)
  rw [hdd] at HD
  have HNM := Lib.hid (fun W hW => name_any s W hW (by omega))
  rw [hnm] at HNM
  have HG := Lib.hid (h.glob hg)
  unfold sv at c4 HNM
  clear h hg hdx hdd hle hnm hc hsl
  go_enter Tryz.func195, Tryz.ntmps195
  go_wp2_with (first | (go_at_call 138; refine (HD.out _).mono ?_; rintro _ w1 ⟨rfl, rfl⟩) | (go_at_call 74; refine (HNM.out _ HG.out).mono ?_; rintro _ w2 ⟨rfl, rfl⟩) | (go_at_call 198; refine HC.out.mono ?_; rintro z w1 hz; obtain ⟨b, rfl, hz2⟩ := hz.ret; have HZ := Lib.hid hz2; clear hz hz2))
  go_ret
  exact HZ.out

set_option maxHeartbeats 1000000 in
set_option maxRecDepth 100000 in
theorem atom_callT (o : Int) (n : Nat) (hs : IsCall s o n) (x : Rs) (w : World) (hg : Glob W0) (h : Rd f W0 B t v1 na p s c0 0 w)
    (hc : Calls Tryz.prog 199 #[.pointer (some ⟨B, 0, none⟩), .int .i64 o] w fun z w' => Out f W0 B t v1 na c0 x z w') :
    Calls Tryz.prog 195 #[.pointer (some ⟨B, 0, none⟩)] w fun z w' => Out f W0 B t v1 na c0 x z w' := by
  obtain ⟨_, ⟨_, _, _, _, c4, _, _⟩, _, _⟩ := h.cells
  unfold IsCall at hs
  have HC := Lib.hid hc
  have hco : calledOf s = o := by rcases hs with ⟨rfl, rfl, _⟩ | ⟨rfl, rfl, _⟩ | ⟨rfl, rfl, _⟩ <;> decide
  have hnm : isName s = false := by rcases hs with ⟨rfl, _⟩ | ⟨rfl, _⟩ | ⟨rfl, _⟩ <;> decide
  obtain ⟨d, x', hdx, hle⟩ : ∃ d x, s = d :: x ∧ letter d = true := by rcases hs with ⟨rfl, _⟩ | ⟨rfl, _⟩ | ⟨rfl, _⟩ <;> exact ⟨_, _, rfl, by decide⟩
  have hon : (o == 0) = false := by rcases hs with ⟨_, rfl, _⟩ | ⟨_, rfl, _⟩ | ⟨_, rfl, _⟩ <;> decide
  have hlen : s.length ≤ 3 := by rcases hs with ⟨rfl, _⟩ | ⟨rfl, _⟩ | ⟨rfl, _⟩ <;> decide
  have hdd : digit d = false := by
    cases hq : digit d with
    | false => rfl
    | true => rw [not_letter hq] at hle; cases hle
  have e1 : ((str s).toList == [40]) = false := by rw [str_toList, hdx, beq_eq_false_iff_ne]; intro e; cases e; cases hle
  have e36 : ((d.toNat : Int) == 36) = false := by
    rw [beq_eq_false_iff_ne]; intro e
    have : d = 36 := (byte_eq d 36 (by decide)).2 (by omega)
    subst this; cases hle
  have e2 : (str s).toList.isEmpty = false := by rw [str_toList, hdx]; rfl
  have h0 : 0 < (str s).size := by rw [str_size, hdx]; simp
  have hc0 : (str s)[0]'h0 = d := by rw [str_get]; simp [hdx]
  have hsz : (str s).size = s.length := str_size s
  have hpos : (0 : Int) < (s.length : Int) := by rw [hdx]; simp only [List.length_cons]; omega
  have HD := Lib.hid (fun W => isDigit_any d W)
  rw [hdd] at HD
  have HNM := Lib.hid (fun W hW => name_any s W hW (by omega))
  rw [hnm] at HNM
  have HCL := Lib.hid (fun W hW => called_any s W hW)
  rw [hco] at HCL
  have HG := Lib.hid (h.glob hg)
  unfold sv at c4 HNM HCL
  clear h hg hdx hdd hle hnm hs hco hlen hc
  go_enter Tryz.func195, Tryz.ntmps195
  go_wp2_with (first | (go_at_call 138; refine (HD.out _).mono ?_; rintro _ w1 ⟨rfl, rfl⟩) | (go_at_call 74; refine (HNM.out _ HG.out).mono ?_; rintro _ w2 ⟨rfl, rfl⟩) | (go_at_call 110; refine (HCL.out _ HG.out).mono ?_; rintro _ w2 ⟨rfl, rfl⟩) | (go_at_call 199; refine HC.out.mono ?_; rintro z w1 hz; obtain ⟨b, rfl, hz2⟩ := hz.ret; have HZ := Lib.hid hz2; clear hz hz2))
  go_ret
  exact HZ.out

set_option maxHeartbeats 1000000 in
set_option maxRecDepth 100000 in
/-- What begins nothing. -/
theorem atom_else (d : UInt8) (y : Bs) (h40 : d :: y ≠ [40]) (hdd : digit d = false) (h36 : d ≠ 36) (hnm : isName (d :: y) = false) (hm1 : d :: y ≠ wmin) (hm2 : d :: y ≠ wmax) (hm3 : d :: y ≠ wif) (w : World) (hg : Glob W0) (h : Rd f W0 B t v1 na p (d :: y) c0 0 w) (hsl : (d :: y).length ≤ 4096) :
    Calls Tryz.prog 195 #[.pointer (some ⟨B, 0, none⟩)] w fun z w' => Out f W0 B t v1 na c0 (.err p 6) z w' := by
  obtain ⟨_, ⟨_, _, _, _, c4, _, _⟩, _, _⟩ := h.cells
  have HF := Lib.hid (fun W hW => fail_any (f := f) (W0 := W0) (B := B) (a := p) (t := t) (s := d :: y) (v1 := v1) (na := na) (e := 0) (c := c0) W 6 hW)
  have HH := Lib.hid h
  obtain ⟨s, hdx⟩ : ∃ s, d :: y = s := ⟨_, rfl⟩
  rw [hdx] at c4 hnm hm1 hm2 hm3 h40 hsl
  replace hdx := hdx.symm
  have hco : calledOf s = 0 := by unfold calledOf; rw [if_neg hm1, if_neg hm2, if_neg hm3]
  have e1 : ((str s).toList == [40]) = false := by rw [str_toList]; exact beq_eq_false_iff_ne.2 h40
  have e36 : ((d.toNat : Int) == 36) = false := by
    rw [beq_eq_false_iff_ne]; intro e
    exact h36 ((byte_eq d 36 (by decide)).2 (by omega))
  have e2 : (str s).toList.isEmpty = false := by rw [str_toList, hdx]; rfl
  have h0 : 0 < (str s).size := by rw [str_size, hdx]; simp
  have hc0 : (str s)[0]'h0 = d := by rw [str_get]; simp [hdx]
  have hsz : (str s).size = s.length := str_size s
  have hpos : (0 : Int) < (s.length : Int) := by rw [hdx]; simp only [List.length_cons]; omega
  have HD := Lib.hid (fun W => isDigit_any d W)
  rw [hdd] at HD
  have HNM := Lib.hid (fun W hW => name_any s W hW (by omega))
  rw [hnm] at HNM
  have HCL := Lib.hid (fun W hW => called_any s W hW)
  rw [hco] at HCL
  have HG := Lib.hid (h.glob hg)
  unfold sv at c4 HNM HCL
  clear h hg hdx hdd hnm hco hm1 hm2 hm3 h40 h36 hsl
  go_enter Tryz.func195, Tryz.ntmps195
  go_wp2_with (first | (go_at_call 138; refine (HD.out _).mono ?_; rintro _ w1 ⟨rfl, rfl⟩) | (go_at_call 74; refine (HNM.out _ HG.out).mono ?_; rintro _ w2 ⟨rfl, rfl⟩) | (go_at_call 110; refine (HCL.out _ HG.out).mono ?_; rintro _ w2 ⟨rfl, rfl⟩) | (go_at_call 167; refine (HF.out _ HH.out).mono ?_; rintro _ w4 ⟨rfl, hr4⟩; have HR4 := Lib.hid hr4; clear hr4))
  go_ret
  exact out_err HR4.out

set_option maxHeartbeats 1000000 in
set_option maxRecDepth 100000 in
theorem atom_parErr (q : Nat) (e : Int) (hop : Opd W0 B t v1 na 142 r (.err q e)) (w : World) (hg : Glob W0) (h : Rd f W0 B t v1 na p [40] c0 0 w) (hat : At t p [40] r) (htl : t.length ≤ 2048) (hb : c0.length + r.length ≤ 1000000) :
    Calls Tryz.prog 195 #[.pointer (some ⟨B, 0, none⟩)] w fun z w' => Out f W0 B t v1 na c0 (.err q e) z w' := by
  obtain ⟨_, ⟨_, _, _, _, c4, _, _⟩, _, _⟩ := h.cells
  obtain ⟨h1, h2⟩ := hat.next (by decide)
  obtain ⟨⟨p', s'⟩, r1, hr⟩ := lx_cons h2
  have HA := Lib.hid (advance_any w hg h h1 (hr ▸ h2) htl)
  have HO := Lib.hid (fun W h3 h4 => hop f c0 W p' s' r1 hr h3 h4 hb)
  have e1 : ((str [40]).toList == [40]) = true := by rw [str_toList]; rfl
  unfold sv at c4
  clear h h1 h2 hat hg htl hr hop hb
  go_enter Tryz.func195, Tryz.ntmps195
  go_wp2_with (first | (go_at_call 141; refine HA.out.mono ?_; rintro _ w1 ⟨rfl, hr1, ha1⟩; have HR1 := Lib.hid hr1; have HA1 := Lib.hid ha1; clear hr1 ha1) | (go_at_call 142; refine (HO.out _ HA1.out HR1.out).mono ?_; rintro _ w3 ⟨rfl, s4, c4', hr4⟩; have HR4 := Lib.hid hr4; clear hr4))
  go_ret
  exact out_err HR4.out

set_option maxHeartbeats 1000000 in
set_option maxRecDepth 100000 in
theorem atom_parMis (c : List In) (q : Nat) (u : Bs) (r' : List Tk) (hu : u ≠ [41]) (hop : Opd W0 B t v1 na 142 r (.ok c ((q, u) :: r'))) (w : World) (hg : Glob W0) (h : Rd f W0 B t v1 na p [40] c0 0 w) (hat : At t p [40] r) (htl : t.length ≤ 2048) (hb : c0.length + r.length ≤ 1000000) :
    Calls Tryz.prog 195 #[.pointer (some ⟨B, 0, none⟩)] w fun z w' => Out f W0 B t v1 na c0 (.err q 6) z w' := by
  obtain ⟨_, ⟨_, _, _, _, c4, _, _⟩, _, _⟩ := h.cells
  obtain ⟨h1, h2⟩ := hat.next (by decide)
  obtain ⟨⟨p', s'⟩, r1, hr⟩ := lx_cons h2
  have HA := Lib.hid (advance_any w hg h h1 (hr ▸ h2) htl)
  have HO := Lib.hid (fun W h3 h4 => hop f c0 W p' s' r1 hr h3 h4 hb)
  have HPS := Lib.hid (fun (W : World) (hW : Rd f W0 B t v1 na q (cutw u) (c0 ++ c) 0 W) => pass_no [41] W hW (fun e => hu ((cutw_sg u [41] (by decide)).1 e)))
  have e1 : ((str [40]).toList == [40]) = true := by rw [str_toList]; rfl
  unfold sv at c4 HPS
  clear h h1 h2 hat hg htl hr hop hb hu
  go_enter Tryz.func195, Tryz.ntmps195
  go_wp2_with (first | (go_at_call 141; refine HA.out.mono ?_; rintro _ w1 ⟨rfl, hr1, ha1⟩; have HR1 := Lib.hid hr1; have HA1 := Lib.hid ha1; clear hr1 ha1) | (go_at_call 142; refine (HO.out _ HA1.out HR1.out).mono ?_; rintro _ w3 ⟨rfl, p4, s4, r4, e4, a4, hr4⟩; cases e4; have HR4 := Lib.hid hr4; clear hr4 a4) | (go_at_call 196; refine (HPS.out _ HR4.out).mono ?_; rintro _ w5 ⟨rfl, hr5⟩; have HR5 := Lib.hid hr5; clear hr5))
  go_ret
  exact out_err HR5.out

set_option maxHeartbeats 1000000 in
set_option maxRecDepth 100000 in
/-- Minus a number. -/
theorem one_numT (d : UInt8) (y : Bs) (hdd : digit d = true) (hG : T.Globs W0) (w : World) (h : Rd f W0 B t v1 na p [45] c0 0 w) (hat : At t p [45] ((p + 1, d :: y) :: r)) (htl : t.length ≤ 2048) (hb : c0.length ≤ 1000000) :
    Calls Tryz.prog 193 #[.pointer (some ⟨B, 0, none⟩)] w fun z w' => Out f W0 B t v1 na c0 (conR p (45 :: d :: y) r) z w' := by
  have hg := hG.glob
  obtain ⟨_, ⟨c0', _, _, c3, c4, _, _⟩, _, hfz⟩ := h.cells
  have f4 := hfz 4 (by decide)
  have hgw := h.glob hg
  have g5 := hgw.cell 5 [33] rfl
  have g4 := hgw.cell 4 [45] rfl
  have e1 : ((str [45]).toList == (str [33]).toList) = false := by rw [str_toList, str_toList]; rfl
  have e2 : ((str [45]).toList == (str [45]).toList) = true := by simp
  obtain ⟨b1, b2⟩ := at_behind hat
  have hat2 : At t (p + 1) (d :: y) r := ⟨b1, b2⟩
  obtain ⟨b3, b4⟩ := hat2.next (by simp)
  have hp1 : IntKind.i64.wrap ((p : Int) + 1) = (p : Int) + 1 := IntWalk.i64_in _ (by omega)
  have hwa := fun W hW => wordAt_any t (t.drop (p + 1)) (p + 1) W hW b1 rfl (by omega)
  have hcd : cutw (d :: y) = d :: y := by
    show (if letter d = true then _ else _) = _
    rw [if_neg (by rw [not_letter hdd]; decide)]
  rw [show ((p + 1 : Nat) : Int) = (p : Int) + 1 by omega, hat2.wd, hcd] at hwa
  have HCON := Lib.hid (fun W hW => constant_all (f := f) (W0 := W0) (B := B) (a := p) (t := t) (s := 45 :: d :: y) (v1 := v1) (na := na) (c0 := c0) (r := r) hG W hW
    (by simp only [List.length_cons] at b3 ⊢; omega) (by rw [show p + (45 :: d :: y).length = p + 1 + (d :: y).length by simp only [List.length_cons]; omega]; exact b4) htl hb)
  obtain ⟨u, hu⟩ : ∃ u, d :: y = u := ⟨_, rfl⟩
  have hdx := hu.symm
  rw [hu] at hwa HCON b3 ⊢
  have he : (str u).toList.isEmpty = false := by rw [str_toList, hdx]; rfl
  have h0 : 0 < (str u).size := by rw [str_size, hdx]; simp
  have hc0 : (str u)[0]'h0 = d := by rw [str_get]; simp [hdx]
  have hsz : (str u).size = u.length := str_size u
  have hpos : (0 : Int) < (u.length : Int) := by rw [hdx]; simp only [List.length_cons]; omega
  have hsum : str [45] ++ str u = str (45 :: u) := by rw [str_append]; rfl
  have hs45 : (str [45]).size = 1 := rfl
  have hle : (str [45]).size + (str u).size ≤ 281474976710656 := by rw [str_size, str_size]; simp only [List.length_cons, List.length_nil]; omega
  have HD := Lib.hid (fun W => isDigit_any d W)
  rw [hdd] at HD
  have HW := Lib.hid hwa
  have HG := Lib.hid hgw
  have HH := Lib.hid h
  unfold sv at c0' c4 g5 g4 HW
  clear h hg hat htl hb hgw b1 b2 b3 b4 hwa hdd hu hdx hat2 hcd hfz
  go_enter Tryz.func193, Tryz.ntmps193
  go_wp2_with fail
  go_quiet ((go_at_call 109; exact Calls.quiet_of_same ((HW.out _ (HG.out.drewN _)).mono fun e w' h => ⟨h.1, h.2.symm⟩)))
  go_wp2_with (go_at_call 138; refine (HD.out _).mono ?_; rintro _ w1 ⟨rfl, rfl⟩)
  refine (HCON.out _ ((HH.out.drewN nq).set (a' := p) (s' := 45 :: u) (e' := 0) 4 (.string (str (45 :: u))) (fun v => rfl))).mono ?_
  rintro z w1 hz
  obtain ⟨b, rfl, hz2⟩ := hz.ret
  have HZ := Lib.hid hz2
  clear hz hz2
  go_wp2_with fail
  go_ret
  exact HZ.out
end
end Go.Proofs.YtfooiggedgcjcaaGreatDoor.I

namespace Go.Proofs.YtfooiggedgcjcaaGreatDoor.I
open Go Go.RowKit Go.Proofs.YtfooiggedgcjcaaGreatDoor.B Go.Proofs.YtfooiggedgcjcaaGreatDoor.K Go.Proofs.YtfooiggedgcjcaaGreatDoor.E
set_option linter.unusedVariables false

/-- Of a result: how much is read and left. -/
def Rs.fits (c : List In) (ts : List Tk) : Rs → Prop | .ok c' r => c'.length + r.length ≤ c.length + ts.length | .err _ _ => True

theorem con_fits (p : Nat) (s : Bs) (r ts : List Tk) (h : 1 + r.length ≤ ts.length) : (conR p s r).fits [] ts := by
  unfold conR
  split
  · split
    · simp only [Rs.fits, List.length_cons, List.length_nil]; omega
    · trivial
  · trivial
theorem pa_len {vs : List Bs} {na : Int} {kd : Kd} {ts : List Tk} {x : Rs} (h : Pa vs na kd ts x) : x.fits (match kd with | .lo _ _ c => c | _ => []) ts := by
  induction h with
  | six l x _ ih => exact ih
  | lvErr => trivial
  | lvGo k l c r x _ _ _ _ ih1 ih2 =>
    cases x with
    | err => trivial
    | ok c' r' => simp only [Rs.fits, List.length_nil] at ih1 ih2 ⊢; omega
  | loStop => exact Nat.le_refl _
  | loErr => trivial
  | loGo k m c q s o r d t x _ _ _ _ ih1 ih2 =>
    cases x with
    | err => trivial
    | ok c' r' => simp only [Rs.fits, List.length_nil, List.length_append, List.length_cons] at ih1 ih2 ⊢; omega
  | num => simp only [Rs.fits, List.length_nil, List.length_cons]; omega
  | neg p l c r _ _ ih => simp only [Rs.fits, List.length_nil, List.length_append, List.length_cons] at ih ⊢; omega
  | non p l c r _ ih => simp only [Rs.fits, List.length_nil, List.length_append, List.length_cons] at ih ⊢; omega
  | atm l x _ _ _ ih => exact ih
  | aEnd => trivial
  | aNum => simp only [Rs.fits, List.length_nil, List.length_cons]; omega
  | aVar => simp only [Rs.fits, List.length_nil, List.length_cons]; omega
  | aArg => simp only [Rs.fits, List.length_nil, List.length_cons]; omega
  | aPar p l c q r _ ih => simp only [Rs.fits, List.length_nil, List.length_cons] at ih ⊢; omega
  | aTwo o p p' l c1 q r1 c2 q' r _ _ _ ih1 ih2 => simp only [Rs.fits, List.length_nil, List.length_append, List.length_cons] at ih1 ih2 ⊢; omega
  | aIf p p' l c1 q r1 c2 q' r2 c3 q'' r _ _ _ ih1 ih2 ih3 => simp only [Rs.fits, List.length_nil, List.length_append, List.length_cons] at ih1 ih2 ih3 ⊢; omega
  | wNum p d y r _ => exact con_fits _ _ _ _ (by simp only [List.length_cons]; omega)
  | wNeg p d y r _ => exact con_fits _ _ _ _ (by simp only [List.length_cons]; omega)
  | negErr => trivial
  | nonErr => trivial
  | aNone => trivial
  | aOver => trivial
  | aElse => trivial
  | aParErr => trivial
  | aParMis => trivial
  | aCallErr => trivial
  | arEnd => trivial
  | arMis => trivial
  | arErr => trivial
  | arGo => trivial

/-- The function that reads a level's operands. -/
def fnOf (k : Nat) : Nat := match k with | 1 => 142 | 2 => 166 | 3 => 182 | 4 => 191 | 5 => 192 | _ => 193

/-- What is shown of each derivation. -/
def Does (W0 : World) (B : Nat) (t : Bs) (v1 : Value) (na : Int) : Kd → List Tk → Rs → Prop
  | .ar n ah, ts, x => match x with | .err p e => ArgsE (Opd W0 B t v1 na 142) n ah ts p e | .ok _ _ => True
  | .lv k, ts, x => Opd W0 B t v1 na (fnOf k) ts x
  | .lo k m c, ts, x => 1 ≤ k → k ≤ 5 → Steps (Opd W0 B t v1 na (fnOf (k + 1))) k m c ts x
  | .on, ts, x => Opd W0 B t v1 na (fnOf 6) ts x
  | .atom, ts, x => ∀ (f : Nat → Option Obj) (c0 : List In) (w : World) (p : Nat) (s : Bs) (r : List Tk), ts = (p, s) :: r → At t p s r → Rd f W0 B t v1 na p (cutw s) c0 0 w → c0.length + ts.length ≤ 1000000 →
      Calls Tryz.prog 195 #[.pointer (some ⟨B, 0, none⟩)] w fun z w' => Out f W0 B t v1 na c0 x z w'

theorem cutw_name (s : Bs) (h : isName s = true) : cutw s = s := by
  cases s with
  | nil => rfl
  | cons c r =>
    rw [isName_cons] at h
    simp only [Bool.and_eq_true, decide_eq_true_eq] at h
    have hl : (c :: r).length ≤ 24 := by rw [List.length_cons]; have := h.1.1.1.1.1; omega
    show (if letter c = true then (c :: r).take 24 else c :: r) = _
    rw [List.take_of_length_le hl]; split <;> rfl
theorem cutw_other (c : UInt8) (r : Bs) (h : letter c = false) : cutw (c :: r) = c :: r := by show (if letter c = true then _ else _) = _; rw [if_neg (by rw [h]; decide)]
theorem cutw_dig (v : Nat) : cutw (dig v) = dig v := by
  obtain ⟨c, x, h5, h6⟩ := dig_head v
  rw [h5]; exact cutw_other c x (not_letter h6)

theorem does_any {W0 : World} {B : Nat} {t : Bs} {v1 : Value} {na : Int} {vs : List Bs} (hG : T.Globs W0) (hvs : Names W0 v1 vs) (hvl : vs.length ≤ 1000000) (htl : t.length ≤ 2048) {kd : Kd} {ts : List Tk} {x : Rs} (h : Pa vs na kd ts x) : Does W0 B t v1 na kd ts x := by
  have hg := hG.glob
  have level : ∀ k ts x, 1 ≤ k → k ≤ 5 → Lv (Opd W0 B t v1 na (fnOf (k + 1))) k ts x → Opd W0 B t v1 na (fnOf k) ts x := by
    intro k ts x h1 h5 hx
    rcases (show k = 1 ∨ k = 2 ∨ k = 3 ∨ k = 4 ∨ k = 5 by omega) with rfl | rfl | rfl | rfl | rfl
    · exact lv1_any hg htl ts x hx
    · exact lv2_any hg htl ts x hx
    · exact lv3_any hg htl ts x hx
    · exact lv4_any hg htl ts x hx
    · exact lv5_any hg htl ts x hx
  induction h with
  | six l x _ ih => exact ih
  | lvErr k l p e h1 h5 _ ih => exact level k l _ h1 h5 (Or.inl ⟨p, e, rfl, ih⟩)
  | lvGo k l c r x h1 h5 hpa _ ih1 ih2 =>
    refine level k l x h1 h5 (Or.inr ⟨c, r, ih1, ?_, ih2 h1 h5⟩)
    have := pa_len hpa
    simp only [Rs.fits, List.length_nil] at this; omega
  | loStop k m c r h => exact fun _ _ => Steps.stop m c r h
  | loErr k m c q s o r p e ho hm _ ih => exact fun _ _ => Steps.err m c q s o r p e ho hm ih
  | loGo k m c q s o r d t' x ho hm hpa _ ih1 ih2 =>
    intro h1 h5
    refine Steps.go m c q s o r d t' x ho hm ih1 ?_ (ih2 h1 h5)
    have := pa_len hpa
    simp only [Rs.fits, List.length_nil] at this; omega
  | num p v r hv =>
    intro f c0 w p' s r' hts hat h hb
    cases hts
    exact one_num v hv w hg h hat htl (by omega)
  | neg p l c r hn hpa ih =>
    intro f c0 w p' s r' hts hat h hb
    cases hts
    have hl := pa_len hpa
    simp only [Rs.fits, List.length_nil] at hl
    simp only [List.length_cons] at hb
    exact one_neg (.ok c r) ih hn w hg h hat htl (by omega) (fun d t' e => by cases e; omega)
  | non p l c r hpa ih =>
    intro f c0 w p' s r' hts hat h hb
    cases hts
    have hl := pa_len hpa
    simp only [Rs.fits, List.length_nil] at hl
    simp only [List.length_cons] at hb
    exact one_not (.ok c r) ih w hg h hat htl (by omega) (fun d t' e => by cases e; omega)
  | atm l x h1 h2 _ ih =>
    intro f c0 w p s r hts hat h hb
    subst hts
    have h45 : cutw s ≠ [45] := fun e => h1 ((cutw_sg s [45] (by decide)).1 e)
    have h33 : cutw s ≠ [33] := fun e => h2 ((cutw_sg s [33] (by decide)).1 e)
    exact one_atom x w hg h h33 h45 (ih f c0 w p s r rfl hat h hb)
  | aEnd p =>
    intro f c0 w p' s r hts hat h hb
    cases hts
    exact atom_end w h
  | aNum p v r hv =>
    intro f c0 w p' s r' hts hat h hb
    cases hts
    rw [cutw_dig] at h
    exact atom_num v hv w hg h hat htl (by omega)
  | aVar p k s r hk hnm hn =>
    intro f c0 w p' s' r' hts hat h hb
    cases hts
    rw [cutw_name s hnm] at h
    exact atom_var vs hvs k hk hn hnm hvl w hg h hat htl (by omega)
  | aArg p k r hna hk =>
    intro f c0 w p' s' r' hts hat h hb
    cases hts
    exact atom_arg k hk rfl hna w hg h hat htl (by omega)
  | aPar p l c q r hpa ih =>
    intro f c0 w p' s' r' hts hat h hb
    cases hts
    simp only [List.length_cons] at hb
    exact atom_par c q r ih w hg h hat htl (by omega)
  | aTwo o p p' l c1 q r1 c2 q' r ho hp1 hp2 ih1 ih2 =>
    intro f c0 w pp s' rr hts hat h hb
    cases hts
    have hl1 := pa_len hp1
    have hl2 := pa_len hp2
    simp only [Rs.fits, List.length_nil, List.length_cons] at hl1 hl2 hb
    have hcut : cutw (if o = 9 then wmin else wmax) = (if o = 9 then wmin else wmax) := by split <;> rfl
    rw [hcut] at h
    refine atom_call o 2 ?_ (c1 ++ c2) q' r w hg h hat htl ?_ (by simp only [List.length_cons]; omega)
    · rcases ho with rfl | rfl
      · left; exact ⟨rfl, rfl, rfl⟩
      · right; left; exact ⟨rfl, rfl, rfl⟩
    · refine Args.cons 1 [40] p' l c1 c2 _ _ ih1 (by simp only [List.length_cons]; omega) ?_
      have := Args.cons (C := Opd W0 B t v1 na 142) 0 [44] q r1 c2 [] _ _ ih2 (by simp only [List.length_cons]; omega) (Args.nil _ _)
      rwa [List.append_nil] at this
  | aIf p p' l c1 q r1 c2 q' r2 c3 q'' r hp1 hp2 hp3 ih1 ih2 ih3 =>
    intro f c0 w pp s' rr hts hat h hb
    cases hts
    have hl1 := pa_len hp1
    have hl2 := pa_len hp2
    have hl3 := pa_len hp3
    simp only [Rs.fits, List.length_nil, List.length_cons] at hl1 hl2 hl3 hb
    refine atom_call 16 3 (Or.inr (Or.inr ⟨rfl, rfl, rfl⟩)) (c1 ++ c2 ++ c3) q'' r w hg h hat htl ?_ (by simp only [List.length_cons]; omega)
    rw [List.append_assoc]
    refine Args.cons 2 [40] p' l c1 (c2 ++ c3) _ _ ih1 (by simp only [List.length_cons]; omega) ?_
    refine Args.cons 1 [44] q r1 c2 c3 _ _ ih2 (by simp only [List.length_cons]; omega) ?_
    have := Args.cons (C := Opd W0 B t v1 na 142) 0 [44] q' r2 c3 [] _ _ ih3 (by simp only [List.length_cons]; omega) (Args.nil _ _)
    rwa [List.append_nil] at this
  | wNum p d y r hd =>
    intro f c0 w p' s r' hts hat h hb
    cases hts
    rw [cutw_other d y (not_letter hd)] at h
    obtain ⟨h1, h2⟩ := hat.next (by simp)
    exact atom_numT d y hd _ w h (constant_all hG w h h1 h2 htl (by omega))
  | wNeg p d y r hd =>
    intro f c0 w p' s r' hts hat h hb
    cases hts
    exact one_numT d y hd hG w h hat htl (by omega)
  | negErr p l q e hn _ ih =>
    intro f c0 w p' s r' hts hat h hb
    cases hts
    simp only [List.length_cons] at hb
    exact one_neg (.err q e) ih hn w hg h hat htl (by omega) (fun d t' e => by cases e)
  | nonErr p l q e _ ih =>
    intro f c0 w p' s r' hts hat h hb
    cases hts
    simp only [List.length_cons] at hb
    exact one_not (.err q e) ih w hg h hat htl (by omega) (fun d t' e => by cases e)
  | aNone p s r hnm hn =>
    intro f c0 w p' s' r' hts hat h hb
    cases hts
    rw [cutw_name s hnm] at h
    have hs : s ≠ [] := by rintro rfl; cases hnm
    have h1 := (hat.next hs).1
    exact atom_varT hnm _ w hg h (by omega) (variable_none vs hvs hn w h hvl)
  | aOver p k r hna hk =>
    intro f c0 w p' s' r' hts hat h hb
    cases hts
    exact atom_argT k hk rfl _ w h (argument_over k hk rfl hna w h)
  | aElse p d y r h40 hd h36 hl hnm hm1 hm2 hm3 =>
    intro f c0 w p' s' r' hts hat h hb
    cases hts
    have hc : cutw (d :: y) = d :: y := by
      show (if letter d = true then (d :: y).take 24 else d :: y) = _
      rcases hl with hl | hl
      · rw [List.take_of_length_le hl]; split <;> rfl
      · rw [if_neg (by rw [hl]; decide)]
    rw [hc] at h
    have h1 := (hat.next (by simp)).1
    exact atom_else d y h40 hd h36 hnm hm1 hm2 hm3 w hg h (by omega)
  | aParErr p l q e _ ih =>
    intro f c0 w p' s' r' hts hat h hb
    cases hts
    simp only [List.length_cons] at hb
    exact atom_parErr q e ih w hg h hat htl (by omega)
  | aParMis p l c q s r _ hs ih =>
    intro f c0 w p' s' r' hts hat h hb
    cases hts
    simp only [List.length_cons] at hb
    exact atom_parMis c q s r hs ih w hg h hat htl (by omega)
  | aCallErr o n p s l q e hc _ ih =>
    intro f c0 w p' s' r' hts hat h hb
    cases hts
    simp only [List.length_cons] at hb
    have hcut : cutw s = s := by unfold IsCall at hc; rcases hc with ⟨rfl, _⟩ | ⟨rfl, _⟩ | ⟨rfl, _⟩ <;> rfl
    rw [hcut] at h
    have hs : s ≠ [] := by unfold IsCall at hc; rcases hc with ⟨rfl, _⟩ | ⟨rfl, _⟩ | ⟨rfl, _⟩ <;> decide
    refine atom_callT o n hc _ w hg h (call_err o n ?_ ?_ ?_ q e w hg h hat hs htl ih (by omega))
    all_goals (unfold IsCall at hc; rcases hc with ⟨_, rfl, rfl⟩ | ⟨_, rfl, rfl⟩ | ⟨_, rfl, rfl⟩ <;> decide)
  | arEnd ah q s r hs => exact ArgsE.fin ah q s r hs
  | arMis n ah q s r hs => exact ArgsE.mis n ah q s r hs
  | arErr n ah q l p e _ ih => exact ArgsE.err n ah q l p e ih
  | arGo n ah q l c r p e hpa _ ih1 ih2 =>
    have hl := pa_len hpa
    simp only [Rs.fits, List.length_nil] at hl
    exact ArgsE.go n ah q l c r p e ih1 (by omega) ih2
end Go.Proofs.YtfooiggedgcjcaaGreatDoor.I
