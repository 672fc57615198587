/-
  Layer 13, the program: Trim's loop.
-/
import Derived.Test.YtelcemfaijjcbaaGreatDoorHP13Ll
namespace Go.Proofs.YtelcemfaijjcbaaGreatDoor.C13
open Go Go.RowKit Go.Proofs Go.Proofs.YtelcemfaijjcbaaGreatDoor.B Go.Proofs.YtelcemfaijjcbaaGreatDoor.K Go.Proofs.YtelcemfaijjcbaaGreatDoor.P8 Go.Proofs.YtelcemfaijjcbaaGreatDoor.C12
set_option linter.unusedVariables false
set_option maxRecDepth 100000
structure TrR where
  gs : List (Int × Int)
  rs : List (List UInt8)
  D : Dst
  e : Int
def trimP (n : Int) : List (Int × Int) → List (List UInt8) → Dst → TrR
  | a :: b :: gs, rs, D => if b.1 ≤ n then (if (removeD D (nmW a.1)).2 = 0 then trimP n (b :: gs) (rs.drop (b.1 - a.1).toNat) (removeD D (nmW a.1)).1 else ⟨a :: b :: gs, rs, (removeD D (nmW a.1)).1, (removeD D (nmW a.1)).2⟩) else ⟨a :: b :: gs, rs, D, 0⟩
  | gs, rs, D => ⟨gs, rs, D, 0⟩
def TrOk : List (Int × Int) → Nat → Prop
  | a :: b :: gs, m => 0 ≤ a.1 ∧ a.1 < b.1 ∧ b.1 < 100 ∧ (b.1 - a.1).toNat ≤ m ∧ TrOk (b :: gs) (m - (b.1 - a.1).toNat)
  | [a], _ => 0 ≤ a.1 ∧ a.1 < 100
  | [], _ => True
theorem TrOk.first {gs : List (Int × Int)} {m : Nat} (h : TrOk gs m) : 0 ≤ firstG gs ∧ firstG gs ≤ 1099511627776 := by
  cases gs with
  | nil => exact ⟨Int.le_refl _, by show (0 : Int) ≤ _; omega⟩
  | cons a gs =>
    show 0 ≤ a.1 ∧ a.1 ≤ _
    cases gs with
    | nil => have h' : 0 ≤ a.1 ∧ a.1 < 100 := h; omega
    | cons b gs => have h' : 0 ≤ a.1 ∧ a.1 < b.1 ∧ b.1 < 100 ∧ _ := h; omega
theorem LDid.recs3 {w W : World} {F G : Nat → Prop} {lp d : Nat} {M u : Int} {gs : List (Int × Int)} {rs : List (List UInt8)} {D : Dst} {x : Value} (h : LDid F G lp d M D gs rs u w (W.setCell ⟨lp, 3, none⟩ x)) : ∃ a c, (W.setCell ⟨lp, 3, none⟩ x).cell? ⟨lp, 4, none⟩ = some (.slice a rs.length c) ∧ W.cell? ⟨lp, 4, none⟩ = some (.slice a rs.length c) := by
  obtain ⟨a, c, h1⟩ := h.recs
  refine ⟨a, c, h1, ?_⟩
  rw [World.cell?_setCell_other _ _ _ _ (by simp)] at h1
  exact h1
section
variable {w : World} {F G : Nat → Prop} {lp d : Nat} {M u : Int}
set_option maxHeartbeats 8000000 in
theorem trim_any {D : Dst} {gs : List (Int × Int)} {rs : List (List UInt8)} (n : Int) (hok : TrOk gs rs.length) (h1 : gs.length ≤ 800) (h2 : rs.length ≤ 1000000) (h0 : LDid F G lp d M D gs rs u w w) :
    Calls Tryz.prog 22 #[.pointer (some ⟨lp, 0, none⟩), .int .i64 n] w fun e w' => e = .returned (.int .i64 (trimP n gs rs D).e) ∧ LDid F G lp d M (trimP n gs rs D).D (trimP n gs rs D).gs (trimP n gs rs D).rs u w w' := by
  obtain ⟨R, hR⟩ : ∃ R, trimP n gs rs D = R := ⟨_, rfl⟩
  rw [hR]
  obtain ⟨N, hN⟩ : ∃ N, gs.length = N := ⟨_, rfl⟩
  have HI := Lib.hid (show ∃ gs1 rs1 D1, gs1.length = N ∧ N ≤ 800 ∧ Hid (rs1.length ≤ 1000000) ∧ Hid (trimP n gs1 rs1 D1 = R) ∧ Hid (TrOk gs1 rs1.length) ∧ Hid (LDid F G lp d M D1 gs1 rs1 u w w) from ⟨gs, rs, D, hN, by omega, h2, hR, hok, h0⟩)
  clear hR hok h1 h2 h0 hN
  go_enter Tryz.func22, Tryz.ntmps22
  go_wp2_with fail
  go_loopg [] N (fun g wr => ∃ gs1 rs1 D1, gs1.length = g ∧ g ≤ 800 ∧ Hid (rs1.length ≤ 1000000) ∧ Hid (trimP n gs1 rs1 D1 = R) ∧ Hid (TrOk gs1 rs1.length) ∧ Hid (LDid F G lp d M D1 gs1 rs1 u w wr))
  case atStart => exact HI.out
  case round =>
    obtain ⟨gs1, rs1, D1, hg, hgb, HB, HR, HT, HD⟩ := hrel
    match gs1, hg, HR, HT, HD with
    | [], hg, HR, HT, HD =>
      simp only [List.length_nil] at hg
      subst hg
      obtain ⟨a3, q3, c3⟩ := HD.out.slice
      have HE := Lib.hid (show R = ⟨[], rs1, D1, 0⟩ from HR.out ▸ rfl)
      go_wp2_with fail
      go_ret
      exact ⟨by rw [HE.out]; rfl, by rw [HE.out]; exact HD.out⟩
    | [a], hg, HR, HT, HD =>
      simp only [List.length_cons, List.length_nil] at hg
      subst hg
      obtain ⟨a3, q3, c3⟩ := HD.out.slice
      have HE := Lib.hid (show R = ⟨[a], rs1, D1, 0⟩ from HR.out ▸ rfl)
      go_wp2_with fail
      go_ret
      exact ⟨by rw [HE.out]; rfl, by rw [HE.out]; exact HD.out⟩
    | a :: b :: gs2, hg, HR, HT, HD =>
      obtain ⟨x3, q3, c3, cb⟩ := HD.out.second
      obtain ⟨K, hK⟩ : ∃ K, gs2.length = K := ⟨_, rfl⟩
      rw [hK] at c3
      have hg2 : gk = K + 2 := by rw [← hg]; simp [hK]
      subst hg2
      have hKI : (1 : Int) < ((K + 2 : Nat) : Int) := by omega
      obtain ⟨t1, t2, t3, t4, t5⟩ := (show 0 ≤ a.1 ∧ a.1 < b.1 ∧ b.1 < 100 ∧ (b.1 - a.1).toNat ≤ rs1.length ∧ TrOk (b :: gs2) (rs1.length - (b.1 - a.1).toNat) from HT.out)
      have HT5 := Lib.hid t5
      by_cases hbn : b.1 ≤ n
      rotate_left 1
      · have HE := Lib.hid (show R = ⟨a :: b :: gs2, rs1, D1, 0⟩ from by rw [← HR.out]; unfold trimP; rw [if_neg hbn])
        clear t1 t2 t3 t4 t5 hg
        go_wp2_with fail
        go_ret
        exact ⟨by rw [HE.out]; rfl, by rw [HE.out]; exact HD.out⟩
      · obtain ⟨A, hA⟩ : ∃ A : Nat, a.1 = (A : Int) := ⟨a.1.toNat, by omega⟩
        have hl : LSm (a :: b :: gs2) rs1 := ⟨by simp [hK]; omega, HB.out, HT.out.first⟩
        have HF := Lib.hid (fun W (h : LDid F G lp d M D1 (a :: b :: gs2) rs1 u w W) => do_first hl h)
        have HFI := Lib.hid (fun W (h : LDid F G lp d M D1 (a :: b :: gs2) rs1 u w W) => do_file A (by omega) h)
        have HRM := Lib.hid (fun W (h : LDid F G lp d M D1 (a :: b :: gs2) rs1 u w W) => do_remove (nmW A) (by have := nmW_len (n := (A : Int)) (by omega); omega) h)
        have e1 : firstG (a :: b :: gs2) = (A : Int) := hA
        rw [e1] at HF
        obtain ⟨⟨D2, E⟩, hr⟩ : ∃ r, removeD D1 (nmW A) = r := ⟨_, rfl⟩
        rw [hr] at HRM
        dsimp only at HRM
        have HRR := Lib.hid (show R = if E = 0 then trimP n (b :: gs2) (rs1.drop (b.1 - a.1).toNat) D2 else ⟨a :: b :: gs2, rs1, D2, E⟩ from by
          rw [← HR.out]
          conv => lhs; unfold trimP
          rw [if_pos hbn, hA, hr])
        obtain ⟨k, hk⟩ : ∃ k : Nat, b.1 - a.1 = (k : Int) := ⟨(b.1 - a.1).toNat, by omega⟩
        rw [hk, Int.toNat_natCast] at HRR HT5 t4
        have hw0 : IntKind.i64.wrap (b.1 - (A : Int)) = (k : Int) := by rw [← hA, hk]; exact IntWalk.i64_in _ (by have := HB.out; omega)
        have hk1 : 1 ≤ k := by omega
        have HDR := Lib.hid (fun W rv (h : LDid F G lp d M D2 (b :: gs2) rs1 u w W) (hc : W.cell? ⟨lp, 4, none⟩ = some rv) => do_delrec h hk1 t4 hc)
        have hl2 : LSm (b :: gs2) rs1 := ⟨by simp [hK]; omega, HB.out, ⟨by show 0 ≤ b.1; omega, by show b.1 ≤ _; omega⟩⟩
        have HF2 := Lib.hid (show ∀ W, LDid F G lp d M D2 (b :: gs2) rs1 u w W → Calls Tryz.prog 18 #[.pointer (some ⟨lp, 0, none⟩)] W fun e w' => e = .returned (.int .i64 b.1) ∧ W = w' from fun W h => by
          obtain ⟨F', G', sg, rv, x1, x2, x3, x4⟩ := h.open
          exact first_any x2 hl2.n1)
        have HB2 := Lib.hid (show (rs1.drop k).length ≤ 1000000 from by rw [List.length_drop]; have := HB.out; omega)
        have HK2 := Lib.hid (show (b :: gs2).length = K + 1 from by simp [hK])
        have HK3 := Lib.hid (show (a :: b :: gs2).length = K + 2 from by simp [hK])
        have HDS := Lib.hid (show ∀ W sg, LDid F G lp d M D2 (a :: b :: gs2) rs1 u w W → W.cell? ⟨lp, 3, none⟩ = some sg → Calls Tryz.prog 39 #[sg, .int .i64 0, .int .i64 1] W fun e w' => ∃ x c, e = .returned (.slice x (K + 1) c) ∧ (w'.cell? ⟨lp, 3, none⟩ = some sg ∧ w'.frozen? ⟨lp, 3, none⟩ = false) ∧ LDid F G lp d M D2 (b :: gs2) rs1 u w (w'.setCell ⟨lp, 3, none⟩ (.slice x (K + 1) c)) from fun W sg h hc => by
          have h2 := do_delseg h hc
          rw [HK2.out] at h2
          exact h2)
        have HT6 := Lib.hid (show TrOk (b :: gs2) (rs1.drop k).length from by rw [List.length_drop]; exact HT5.out)
        clear t1 t2 t3 t4 t5 hg hl hl2 e1 hr hk hk1
        by_cases hE : E = 0
        rotate_left 1
        · have HE := Lib.hid (show R = ⟨a :: b :: gs2, rs1, D2, E⟩ from by rw [HRR.out, if_neg hE])
          have hb : (E != 0) = true := bne_iff_ne.2 hE
          clear hE
          go_wp2_with (go_at_call 18; (with_reducible refine (HF.out _ HD.out).mono ?_); rintro _ w1 ⟨rfl, hd⟩; have H1 := Lib.hid hd; have c0 := hd.disk; clear hd)
          go_region_with (first
            | (go_at_call 38; (with_reducible refine (HFI.out _ H1.out.drew).mono ?_); rintro _ w2 ⟨rfl, hd⟩; have H2 := Lib.hid hd; have c02 := hd.disk; clear hd)
            | (go_at_call 37; (with_reducible refine (HRM.out _ H2.out).mono ?_); rintro _ w3 ⟨rfl, hd⟩; have H3 := Lib.hid hd; obtain ⟨a5, q5, c5⟩ := hd.slice; rw [HK3.out] at c5; clear hd))
          all_goals go_wp2_with fail
          all_goals (go_ret; exact ⟨by rw [HE.out]; rfl, by rw [HE.out]; exact H3.out⟩)
        · subst hE
          have HE := Lib.hid (show trimP n (b :: gs2) (rs1.drop k) D2 = R from by rw [HRR.out, if_pos rfl])
          go_wp2_with (go_at_call 18; (with_reducible refine (HF.out _ HD.out).mono ?_); rintro _ w1 ⟨rfl, hd⟩; have H1 := Lib.hid hd; have c0 := hd.disk; clear hd)
          go_region_with (first
            | (go_at_call 38; (with_reducible refine (HFI.out _ H1.out.drew).mono ?_); rintro _ w2 ⟨rfl, hd⟩; have H2 := Lib.hid hd; have c02 := hd.disk; clear hd)
            | (go_at_call 37; (with_reducible refine (HRM.out _ H2.out).mono ?_); rintro _ w3 ⟨rfl, hd⟩; have H3 := Lib.hid hd; obtain ⟨a5, q5, c5⟩ := hd.slice; rw [HK3.out] at c5; clear hd))
          all_goals go_wp2_with (go_at_call 39; (with_reducible refine (HDS.out _ _ H3.out c5).mono ?_); rintro _ w4 ⟨x4, q4, rfl, ⟨p4, f4⟩, hd⟩; have H4 := Lib.hid hd; obtain ⟨a6, q6, c6, c6b⟩ := hd.recs3; clear hd)
          all_goals go_region_with (first
            | (go_at_call 18; (with_reducible refine (HF2.out _ H4.out.drew).mono ?_); rintro _ w5 ⟨rfl, rfl⟩)
            | (go_at_call 40; (refine (HDR.out _ _ H4.out.drew c6).mono ?_); rintro _ w6 ⟨x6, q6, rfl, ⟨p6, f6⟩, hd⟩; have H6 := Lib.hid hd; clear hd))
          all_goals go_wp2_with fail
          all_goals
            go_roundg (K + 1)
            case measure => omega
            case rel => exact ⟨b :: gs2, rs1.drop k, D2, HK2.out, by omega, HB2, HE, HT6, H6⟩
end
end Go.Proofs.YtelcemfaijjcbaaGreatDoor.C13
