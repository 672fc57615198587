/-
  PatternWhole: if a pattern does not cover another one, there is a name that the other one matches and it does not. No condition.
-/
import Derived.Test.YtfgjnhgaphcgcaaRows
import Derived.Test.YtfgjnhgaphcgcaaP8One
import Derived.Test.YtfgjnhgaphcgcaaKLaw
import Derived.SizedLaws
namespace Go.Proofs.Ytfgjnhgaphcgcaa.patternWhole
open Go.ChangeShapes Go.WideShapes Go.ChangeAt Go.RowKit Go.Shelf Go.Proofs
open Go.ChangeMaps (open_string shut_string)
open Go.Proofs.Ytfgjnhgaphcgcaa.P8 Go.Proofs.Ytfgjnhgaphcgcaa.K Go.Proofs.Ytfgjnhgaphcgcaa.B
set_option linter.unusedVariables false

theorem own : ownKnob Try.prog.godebug = none := by kernel_rfl
theorem laidOut : laidOutB Try.prog = true := by kernel_rfl

theorem mat_cov2 {p s : List UInt8} (h : matT p s = true) : coversL (parts p) (parts s) = true := by
  rw [mat_cov, Bool.and_eq_true] at h
  obtain ⟨a, b, c⟩ : patP p = true ∧ patP s = true ∧ coversL (parts p) (parts s) = true := by simpa [covT] using h.2
  exact c

theorem letter_slash {c : UInt8} (h : 97 ≤ c.toNat) : NoSlash [c] := by
  intro b hb
  simp only [List.mem_singleton] at hb
  subst hb
  rintro rfl
  revert h; decide

/-- What is known of a name so made. -/
theorem one_mat {q : List UInt8} {c : UInt8} {j : Nat} (hc : 97 ≤ c.toNat) (hq : patP q = true) (hs : streamP (joinP (oneL [c] j (parts q))) = true) : matT q (joinP (oneL [c] j (parts q))) = true := by
  unfold matT
  rw [hq, hs, match_covers _ _ (pat_all hq).2.1 (stream_all hs).2.1, one_covered (letter_slash hc) (by intro h; cases h) (pat_all hq).2.1 hs]
  rfl

theorem whole_end {p q : List UInt8} {c : UInt8} (hc : 97 ≤ c.toNat) (hcp : c ∉ p) (hp : patP p = true) (hq : patP q = true) (hcov : covT p q = false)
    (h : ∀ j, j < 5 → streamP (joinP (oneL [c] j (parts q))) = true ∧ coversL (parts p) (parts (joinP (oneL [c] j (parts q)))) = true) : False := by
  have := whole (letter_slash hc) (pat_all hp).2.1 (pat_all hq).2.1 (fresh_parts hcp) h
  unfold covT at hcov
  rw [hp, hq, this] at hcov
  cases hcov

set_option maxHeartbeats 2000000 in
set_option maxRecDepth 100000 in
theorem walk (p q : List UInt8) (hp : p.length ≤ 140737488355328) (hq : q.length ≤ 140737488355328) (w : World) :
    Calls Try.prog 6 #[.string (str p), .string (str q)] w fun e w' => e = .returned (.bool true) ∧ Below w.heap.size w w' := by
  have A := fun W => awake_any W
  have P1 := fun W => refPattern_any p (by omega) W
  have P2 := fun W => refPattern_any q (by omega) W
  have C1 := fun W => covers_any p q (by omega) (by omega) W
  have M1 := fun (s : List UInt8) (hs : s.length ≤ 1000) W => match_any q s (by omega) (by omega) W
  have M2 := fun (s : List UInt8) (hs : s.length ≤ 1000) W => match_any p s (by omega) (by omega) W
  have HO := Lib.hid (fun (h1 : patP p = true) (h2 : patP q = true) W => other_any p q (by have := (pat_all h1).1; omega) (by have := (pat_all h2).1; omega) W)
  obtain ⟨b1, e1⟩ : ∃ b, patP p = b := ⟨_, rfl⟩
  obtain ⟨b2, e2⟩ : ∃ b, patP q = b := ⟨_, rfl⟩
  obtain ⟨b3, e3⟩ : ∃ b, covT p q = b := ⟨_, rfl⟩
  rw [e1] at P1; rw [e2] at P2; rw [e3] at C1
  have E1 := Lib.hid e1
  have E2 := Lib.hid e2
  have E3 := Lib.hid e3
  have HM1 := Lib.hid M1
  have HM2 := Lib.hid M2
  clear e1 e2 e3 M1 M2
  have h0 := Below.refl w.heap.size w
  go_enter Try.func6, Try.ntmps6
  go_wp2_with fail
  refine (A _).mono ?_
  rintro _ w1 ⟨rfl, hb1⟩
  have h1 := h0.trans (hb1.mono h0.size)
  clear h0 hb1
  go_wp2_with fail
  refine (P1 _).mono ?_
  rintro _ w2 ⟨rfl, hb2⟩
  have h2 := h1.trans (hb2.mono h1.size)
  clear h1 hb2
  cases b1 with
  | false =>
    go_wp2_with fail
    refine (A _).mono ?_
    rintro _ w3 ⟨rfl, hb3⟩
    have h3 := h2.trans (hb3.mono h2.size)
    clear h2 hb3
    go_wp2_with fail
    go_ret
    exact ⟨rfl, h3⟩
  | true =>
    go_wp2_with fail
    refine (P2 _).mono ?_
    rintro _ w3 ⟨rfl, hb3⟩
    have h3 := h2.trans (hb3.mono h2.size)
    clear h2 hb3
    cases b2 with
    | false =>
      go_wp2_with fail
      refine (A _).mono ?_
      rintro _ w4 ⟨rfl, hb4⟩
      have h4 := h3.trans (hb4.mono h3.size)
      clear h3 hb4
      go_wp2_with fail
      go_ret
      exact ⟨rfl, h4⟩
    | true =>
      go_wp2_with fail
      refine (C1 _).mono ?_
      rintro _ w4 ⟨rfl, hb4⟩
      have h4 := h3.trans (hb4.mono h3.size)
      clear h3 hb4
      cases b3 with
      | true =>
        go_wp2_with fail
        refine (A _).mono ?_
        rintro _ w5 ⟨rfl, hb5⟩
        have h5 := h4.trans (hb5.mono h4.size)
        clear h4 hb5
        go_wp2_with fail
        go_ret
        exact ⟨rfl, h5⟩
      | false =>
        go_wp2_with fail
        refine (HO.out E1.out E2.out _).mono ?_
        rintro _ w5 ⟨⟨r, rfl, hoth⟩, hb4⟩
        have h3 := h4
        clear h4
        have h4 := h3.trans (hb4.mono h3.size)
        clear h3 hb4
        have HH := Lib.hid h4
        clear h4
        rcases hoth with rfl | ⟨c, rfl, hc1, hc2, hcp, hcq⟩
        · have he : (str ([] : List UInt8)).toList.isEmpty = true := eq_none []
          go_wp2_with fail
          go_ret
          exact ⟨rfl, HH.out⟩
        have he : (str [c]).toList.isEmpty = false := eq_none [c]
        have HONE := Lib.hid (fun (M : Nat) (hM : M ≤ 4) W => one_any q c M E2.out hM W)
        go_wp2_with fail
        go_loopg [6, 7, 8] 6 (fun g lg k _ wr => ∃ (K : Nat) (L : Bool), k = .int .i64 (K : Int) ∧ lg = .bool L ∧ K + g = 6 ∧ K ≤ 5 ∧ Hid (L = true ∨ ∀ j, j < K → streamP (joinP (oneL [c] j (parts q))) = true ∧ coversL (parts p) (parts (joinP (oneL [c] j (parts q)))) = true) ∧ Hid (Below w.heap.size w wr))
        case atStart => exact ⟨0, false, rfl, rfl, by omega, by omega, Or.inr (fun j hj => by omega), HH.out⟩
        case round =>
          obtain ⟨K, L, rfl, rfl, hK, hK5, HL, HB⟩ := hrel
          by_cases hlt : K < 5
          · have hltI : (K : Int) < 5 := by omega
            have hw1 : IntKind.i64.wrap ((K : Int) + 1) = (K : Int) + 1 := IntWalk.i64_in _ (by omega)
            have HN := Lib.hid (HONE.out K (by omega))
            have hmat := one_mat (j := K) hc1 E2.out
            obtain ⟨s, hs⟩ : ∃ s, joinP (oneL [c] K (parts q)) = s := ⟨_, rfl⟩
            rw [hs] at HN hmat
            obtain ⟨st, hst⟩ : ∃ b, streamP s = b := ⟨_, rfl⟩
            obtain ⟨mp, hmp⟩ : ∃ b, matT p s = b := ⟨_, rfl⟩
            have HSE := Lib.hid hs
            have HST := Lib.hid hst
            have HMP := Lib.hid hmp
            have HMAT := Lib.hid hmat
            clear hs hst hmp hmat
            go_wp2_with fail
            refine (HN.out _).mono ?_
            rintro _ w5 ⟨rfl, hsl, hb5⟩
            have h5 := Lib.hid (HB.out.trans (hb5.mono HB.out.size))
            clear hb5
            have HS := Lib.hid (fun W => refStream_any s (by omega) W)
            rw [HST.out] at HS
            have HQ := Lib.hid (HM1.out s hsl)
            have HP := Lib.hid (HM2.out s hsl)
            rw [HMP.out] at HP
            go_wp2_with fail
            refine (HS.out _).mono ?_
            rintro _ w6 ⟨rfl, hb6⟩
            have h6 := Lib.hid (h5.out.trans (hb6.mono h5.out.size))
            clear hb6
            cases st with
            | false =>
              go_wp2_with fail
              go_roundg (5 - K)
              case measure => omega
              case rel => exact ⟨K + 1, true, by go_num, rfl, by omega, by omega, Or.inl rfl, h6.out⟩
            | true =>
              rw [HMAT.out HST.out] at HQ
              go_wp2_with fail
              refine (HQ.out _).mono ?_
              rintro _ w7 ⟨rfl, hb7⟩
              have h7 := Lib.hid (h6.out.trans (hb7.mono h6.out.size))
              clear hb7
              go_wp2_with fail
              refine (HP.out _).mono ?_
              rintro _ w8 ⟨rfl, hb8⟩
              have h8 := Lib.hid (h7.out.trans (hb8.mono h7.out.size))
              clear hb8
              cases mp with
              | false =>
                go_wp2_with fail
                go_ret
                exact ⟨rfl, h8.out⟩
              | true =>
                go_wp2_with fail
                go_roundg (5 - K)
                case measure => omega
                case rel =>
                  refine ⟨K + 1, L, by go_num, rfl, by omega, by omega, ?_, h8.out⟩
                  rcases HL.out with h | h
                  · exact Or.inl h
                  · refine Or.inr fun j hj => ?_
                    by_cases hjK : j < K
                    · exact h j hjK
                    · obtain rfl : j = K := by omega
                      rw [HSE.out]
                      exact ⟨HST.out, mat_cov2 HMP.out⟩
          · have hltI : ¬ (K : Int) < 5 := by omega
            obtain rfl : K = 5 := by omega
            have hL : L = true := by
              rcases HL.out with h | h
              · exact h
              · exact (whole_end hc1 hcp E1.out E2.out E3.out h).elim
            subst hL
            go_wp2_with fail
            go_ret
            exact ⟨rfl, HB.out⟩

set_option maxRecDepth 100000 in
theorem lifted (os : Os) (started : os.Started) (H : Type) (enc : TypeId × Value → H) :
    ReturnsInHanded {} Try.checked os 6 .any (Rows.patternWholeSpec.pre6 enc Try.prog Try.f6 Rows.patternWholeRow.domain false) (Rows.patternWholeSpec.post enc Try.prog Try.f6 false true false false) := by
  refine returnsInHanded_of_change_sized (C := Try.checked) own started (by kernel_rfl) Try.func6
    (ChangeSpec.witness6 (enc := enc) (C := Try.checked) false ⟨#[], #[.string ⟨#[]⟩, .string ⟨#[]⟩], []⟩ 8 (by kernel_rfl) (by kernel_rfl) (by kernel_rfl) (by kernel_rfl)) ?_
  intro W base args ds gs before hval0 hW hcnd hsz0 _
  have hsz : (DataW.weightsEach Try.prog (Try.f6.params.toList ++ Rows.patternWholeSpec.plain.varTypes Try.prog) (ds ++ gs)).all (· ≤ reachBytes) = true := hsz0
  clear hsz0
  have hval : ∀ (j : Nat) t v, Try.f6.params[j]? = some t → args[j]? = some v → Value.okWide Try.prog W .any base t v := hval0
  have hW' := hW
  obtain ⟨p, q, hA0, hV, rfl, hfz, hnd⟩ := hW
  have hA : DataW.TrodAll enc Try.prog W 0 (fun _ => true) true Try.f6.params.toList args.toList ds p := hA0
  rw [Try.params6] at hA hval hsz
  obtain ⟨v0, vs0, d0, ds0, p0, q0, hargs, rfl, rfl, h0, r0⟩ := trodAll_cons hA
  obtain ⟨v1, vs1, d1, ds1, p1, q1, rfl, rfl, rfl, h1, r1⟩ := trodAll_cons r0
  obtain ⟨rfl, rfl, rfl⟩ := trodAll_nil r1
  obtain rfl : args = #[v0, v1] := by cases args; simp_all
  obtain ⟨s0, rfl, rfl, rfl, ws0⟩ := open_string Try.underlying9 (hval 0 9 v0 rfl rfl) h0
  obtain ⟨s1, rfl, rfl, rfl, ws1⟩ := open_string Try.underlying9 (hval 1 9 v1 rfl rfl) h1
  have hs0 : s0.data.toList.length ≤ 140737488355328 := by
    have h1 := sized_string hsz (j := 0) (t := 9) rfl rfl
    have h2 := reachBytes_lt
    omega
  have hs1 : s1.data.toList.length ≤ 140737488355328 := by
    have h1 := sized_string hsz (j := 1) (t := 9) rfl rfl
    have h2 := reachBytes_lt
    omega
  have hw := walk s0.data.toList s1.data.toList hs0 hs1 W
  rw [str_eq, str_eq] at hw
  refine hw.mono fun e W' ⟨he, hb⟩ => ?_
  subst he
  exact ⟨_, rfl, post_law hW' hb laidOut rfl rfl rfl Try.underlying4 (by rw [Try.params6]; decide +kernel)⟩

theorem over : Rows.patternWholeRow.holds Try.pinned (OpenSpec.ofChange Rows.patternWholeSpec) :=
  OpenClaim.holds_of_wide 6 Try.f6 rfl rfl rfl rfl rfl rfl rfl ⟨rfl, rfl, rfl, rfl, rfl⟩ rfl rfl rfl rfl rfl (by kernel_rfl) Try.func6 (by kernel_rfl)
    (of_decide_eq_true (by kernel_rfl)) (by unfold Func.isWrapper; first | (rw [if_pos (by decide +kernel)]; kernel_rfl) | (rw [if_neg (by decide +kernel)]; exact ⟨rfl, rfl⟩))
    (fun os started H enc _ => lifted os started H enc)

theorem proved : Rows.PatternWholeSaid := over
#print axioms proved
end Go.Proofs.Ytfgjnhgaphcgcaa.patternWhole
