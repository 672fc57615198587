/-
  Contracts of the program's reader of layer 4: pass, operands, calls.
-/
import Derived.Test.YtbeidmkhpcnbbaaGreatDoorIPAtom
namespace Go.Proofs.YtbeidmkhpcnbbaaGreatDoor.I
open Go Go.RowKit Go.Proofs.YtbeidmkhpcnbbaaGreatDoor.B Go.Proofs.YtbeidmkhpcnbbaaGreatDoor.K Go.Proofs.YtbeidmkhpcnbbaaGreatDoor.E
set_option linter.unusedVariables false

set_option maxHeartbeats 2000000 in
theorem operands_any (o : Int) (h1 : 1 ≤ o) (h2 : o ≤ 16) (w : World) : Calls Tryz.prog 27 #[.int .i64 o] w fun e w' => e = .returned (.int .i64 (takes o)) ∧ w = w' := by
  rcases (show o = 1 ∨ o = 2 ∨ o = 3 ∨ o = 4 ∨ o = 5 ∨ o = 6 ∨ o = 7 ∨ o = 8 ∨ o = 9 ∨ o = 10 ∨ o = 11 ∨ o = 12 ∨ o = 13 ∨ o = 14 ∨ o = 15 ∨ o = 16 by omega) with rfl | rfl | rfl | rfl | rfl | rfl | rfl | rfl | rfl | rfl | rfl | rfl | rfl | rfl | rfl | rfl
  all_goals
    go_enter Tryz.func27, Tryz.ntmps27
    go_wp2_with fail
    go_ret
    exact ⟨rfl, rfl⟩

section
variable {f : Nat → Option Obj} {W0 : World} {B p : Nat} {t s : Bs} {v1 : Value} {na : Int} {c0 : List In} {r : List Tk}

set_option maxHeartbeats 1000000 in
set_option maxRecDepth 100000 in
theorem pass_any (w : World) (hg : Glob W0) (h : Rd f W0 B t v1 na p s c0 0 w) (hat : At t p s r) (hs : s ≠ []) (htl : t.length ≤ 2048) :
    Calls Tryz.prog 86 #[.pointer (some ⟨B, 0, none⟩), sv s] w fun z w' => z = .returned (.bool true) ∧ ∃ p' s' r', r = (p', s') :: r' ∧ At t p' s' r' ∧ Rd f W0 B t v1 na p' (cutw s') c0 0 w' := by
  obtain ⟨h1, h2⟩ := hat.next hs
  obtain ⟨⟨p', s'⟩, r', hr⟩ := lx_cons h2
  have HA := Lib.hid (advance_any w hg h h1 (hr ▸ h2) htl)
  obtain ⟨_, ⟨_, _, _, _, c4, _, _⟩, _, _⟩ := h.cells
  have he : ((str s).toList == (str s).toList) = true := by simp
  have HR := Lib.hid hr
  unfold sv at c4 ⊢
  clear h1 h2 h hat hs htl hg hr
  go_enter Tryz.func86, Tryz.ntmps86
  go_wp2_with (go_at_call 15; refine HA.out.mono ?_; rintro _ w1 ⟨rfl, hr1, ha1⟩; have HR1 := Lib.hid hr1; have HA1 := Lib.hid ha1; clear hr1 ha1)
  go_ret
  exact ⟨rfl, p', s', r', HR.out, HA1.out, HR1.out⟩

/-- The operands of a call, from one on. -/
inductive Args (C : List Tk → Rs → Prop) : Nat → Bs → List Tk → List In → List Tk → Prop
  | nil (ah : Bs) (ts : List Tk) : Args C 0 ah ts [] ts
  | cons (n : Nat) (ah : Bs) (q : Nat) (l : List Tk) (c c' : List In) (ts ts' : List Tk) : C l (.ok c ts) → c.length + ts.length ≤ l.length → Args C n [44] ts c' ts' → Args C (n + 1) ah ((q, ah) :: l) (c ++ c') ts'

theorem args_inv {C : List Tk → Rs → Prop} {n : Nat} {ah : Bs} {ts ts' : List Tk} {c : List In} (h : Args C n ah ts c ts') :
    (n = 0 ∧ c = [] ∧ ts' = ts) ∨ ∃ m q l c1 c2 ts1, n = m + 1 ∧ ts = (q, ah) :: l ∧ c = c1 ++ c2 ∧ C l (.ok c1 ts1) ∧ c1.length + ts1.length ≤ l.length ∧ Args C m [44] ts1 c2 ts' := by
  cases h with
  | nil => exact Or.inl ⟨rfl, rfl, rfl⟩
  | cons n ah q l c c' ts ts' h1 h2 h3 => exact Or.inr ⟨n, q, l, c, c', ts, rfl, rfl, rfl, h1, h2, h3⟩

set_option maxHeartbeats 2000000 in
set_option maxRecDepth 100000 in
theorem call_any (o : Int) (n : Nat) (hn : takes o = (n : Int)) (ho1 : 1 ≤ o) (ho2 : o ≤ 16) (c : List In) (q : Nat) (r' : List Tk) (w : World) (hg : Glob W0) (h : Rd f W0 B t v1 na p s c0 0 w) (hat : At t p s r) (hs : s ≠ []) (htl : t.length ≤ 2048)
    (hargs : Args (Opd W0 B t v1 na 16) n [40] r c ((q, [41]) :: r')) (hb : c0.length + r.length ≤ 999999) (hn1 : 0 < n) :
    Calls Tryz.prog 89 #[.pointer (some ⟨B, 0, none⟩), .int .i64 o] w fun z w' => Out f W0 B t v1 na c0 (.ok (c ++ [(o, 0)]) r') z w' := by
  obtain ⟨h1, h2⟩ := hat.next hs
  obtain ⟨⟨p', s'⟩, r1, hr⟩ := lx_cons h2
  have HA := Lib.hid (advance_any w hg h h1 (hr ▸ h2) htl)
  have HOP := Lib.hid (fun W => operands_any o ho1 ho2 W)
  rw [hn] at HOP
  have HPS := Lib.hid (fun (W : World) (p : Nat) (s : Bs) (c : List In) (r : List Tk) hW hat hs => pass_any (f := f) (W0 := W0) (B := B) (p := p) (t := t) (s := s) (v1 := v1) (na := na) (c0 := c) (r := r) W hg hW hat hs htl)
  have HPT := Lib.hid (fun (W : World) (c : List In) (p : Nat) (s : Bs) (hW : Rd f W0 B t v1 na p s c 0 W) (hc : c.length ≤ 1000000000000) => put_any W o 0 hW hc)
  have HR := Lib.hid hr
  have HARGS := Lib.hid hargs
  have HB := Lib.hid hb
  have HO := Lib.hid (show n ≤ 3 by have := takes_range o; omega)
  clear h1 h2 h hat hs hg hr hargs hb hn ho1 ho2 htl
  go_enter Tryz.func89, Tryz.ntmps89
  go_wp2_with (first | (go_at_call 15; refine HA.out.mono ?_; rintro _ w1 ⟨rfl, hr1, ha1⟩; have HR1 := Lib.hid hr1; have HA1 := Lib.hid ha1; clear hr1 ha1) | (go_at_call 27; refine (HOP.out _).mono ?_; rintro _ w2 ⟨rfl, rfl⟩))
  go_loopg [5, 10] n (fun g ah k wr => ∃ (K : Nat) (l : Bs) (c1 c2 : List In) (ts r2 : List Tk) (p2 : Nat) (s2 : Bs), K + g = n ∧ ah = .string (str l) ∧ k = .int .i64 (K : Int) ∧ Hid (l ≠ [] ∧ cutw l = l) ∧ Hid (ts = (p2, s2) :: r2 ∧ c1 ++ c2 = c ∧ c0.length + c1.length + ts.length ≤ 999999) ∧ Hid (Args (Opd W0 B t v1 na 16) g l ts c2 ((q, [41]) :: r')) ∧ Hid (At t p2 s2 r2) ∧ Hid (Rd f W0 B t v1 na p2 (cutw s2) (c0 ++ c1) 0 wr))
  case atStart => exact ⟨0, [40], [], c, r, r1, p', s', by omega, rfl, rfl, Lib.hid ⟨by decide, by decide⟩, Lib.hid ⟨HR.out, rfl, by have := HB.out; simp; omega⟩, HARGS, HA1, Lib.hid (by rw [List.append_nil]; exact HR1.out)⟩
  case round =>
    obtain ⟨K, l, c1, c2, ts, r2, p2, s2, hK, rfl, rfl, HL, HTS, HAR, HAT, HRR⟩ := hrel
    have har := HAR.out
    rcases args_inv har with ⟨hz, hc, hts⟩ | ⟨m, q2, l2, d1, d2, ts1, hm, hts, hc, hop, hlen, har2⟩
    · obtain ⟨ht1, ht2, ht3⟩ := HTS.out
      rw [← hts] at ht1
      cases ht1
      subst hz hc
      rw [List.append_nil] at ht2
      subst ht2
      have hKn : (K : Int) = (n : Int) := by omega
      obtain rfl : K = n := by omega
      have hRR : Rd f W0 B t v1 na q [41] (c0 ++ c1) 0 wr := HRR.out
      have HP2 := Lib.hid (HPS.out wr q [41] (c0 ++ c1) r' hRR HAT.out (by decide))
      have HLN := Lib.hid (show (c0 ++ c1).length ≤ 1000000000000 by rw [List.length_append]; omega)
      clear har hts ht3 hRR hKn HRR
      unfold sv at HP2
      go_wp2_with (first | (go_at_call 86; refine HP2.out.mono ?_; rintro _ w3 ⟨rfl, p4, s4, r4, e4, a4, hr4⟩; have HR4 := Lib.hid hr4; have HA4 := Lib.hid a4; have HE4 := Lib.hid e4; clear hr4 a4 e4) | (go_at_call 58; refine (HPT.out _ _ _ _ HR4.out HLN.out).mono ?_; rintro _ w5 ⟨rfl, hr5⟩; have HR5 := Lib.hid hr5; clear hr5))
      go_ret
      exact out_ok HE4.out HA4.out (by rw [← List.append_assoc]; exact HR5.out)
    · obtain ⟨ht1, ht2, ht3⟩ := HTS.out
      rw [hts] at ht1
      cases ht1
      subst hm hc hts
      have hKI : (K : Int) < (n : Int) := by omega
      have hwK : IntKind.i64.wrap ((K : Int) + 1) = ((K + 1 : Nat) : Int) := by rw [show ((K + 1 : Nat) : Int) = (K : Int) + 1 by omega]; exact IntWalk.i64_in _ (by have := HO.out; omega)
      have hRR : Rd f W0 B t v1 na p2 l (c0 ++ c1) 0 wr := by have := HRR.out; rw [HL.out.2] at this; exact this
      have HP2 := Lib.hid (HPS.out wr p2 l (c0 ++ c1) r2 hRR HAT.out HL.out.1)
      have HOPA := Lib.hid (fun W p s r h1 h2 h3 => hop f (c0 ++ c1) W p s r h1 h2 h3 (by rw [List.length_append]; simp only [List.length_cons] at ht3; omega))
      have HAR2 := Lib.hid har2
      have HLN := Lib.hid (show c1 ++ d1 ++ d2 = c ∧ c0.length + (c1 ++ d1).length + ts1.length ≤ 999999 by
        refine ⟨by rw [← ht2]; simp, ?_⟩
        simp only [List.length_append, List.length_cons] at ht3 ⊢
        omega)
      clear har ht2 ht3 hRR hop hlen har2 HRR
      unfold sv at HP2
      go_wp2_with (first | (go_at_call 86; refine HP2.out.mono ?_; rintro _ w3 ⟨rfl, p4, s4, r4, e4, a4, hr4⟩; have HR4 := Lib.hid hr4; have HA4 := Lib.hid a4; have HE4 := Lib.hid e4; clear hr4 a4 e4) | (go_at_call 16; refine (HOPA.out _ _ _ _ HE4.out HA4.out HR4.out).mono ?_; rintro _ w5 ⟨rfl, p6, s6, r6, e6, a6, hr6⟩; have HR6 := Lib.hid hr6; have HA6 := Lib.hid a6; have HE6 := Lib.hid e6; clear hr6 a6 e6))
      go_roundg m
      case measure => omega
      case rel => exact ⟨K + 1, [44], c1 ++ d1, d2, ts1, r6, p6, s6, by omega, rfl, by go_num, Lib.hid ⟨by decide, by decide⟩, Lib.hid ⟨HE6.out, HLN.out.1, HLN.out.2⟩, HAR2, HA6, Lib.hid (by have h6 := HR6.out; simp only [List.append_assoc] at h6 ⊢; exact h6)⟩
end
end Go.Proofs.YtbeidmkhpcnbbaaGreatDoor.I
