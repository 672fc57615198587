/-
  Layer 8, the document's answer: Match, Covers, Meets, Less; and the law's awake.
-/
import Derived.Test.YtbpphghphfbogaaP8RefD
namespace Go.Proofs.Ytbpphghphfbogaa.P8
open Go Go.RowKit Go.Shelf Go.Proofs Go.Proofs.Ytbpphghphfbogaa.B Go.Proofs.Ytbpphghphfbogaa.K
set_option linter.unusedVariables false

theorem quiet_below {w w' : World} (h : ∃ m, w' = w.drewN m) : Below w.heap.size w w' := by
  obtain ⟨m, rfl⟩ := h
  exact below_drewN w m

theorem parts_four {l : List UInt8} (h : patP l = true) : (parts l).length ≤ 1000 := by have := (pat_all h).2.2; omega

set_option maxHeartbeats 1000000 in
set_option maxRecDepth 100000 in
theorem refMatchT_any (p s : List UInt8) (hp : p.length ≤ 9223372036854775807) (hs : s.length ≤ 9223372036854775807) (w : World) :
    Calls Try.prog 31 #[.string (str p), .string (str s)] w fun e w' => e = .returned (.bool (matT p s)) ∧ Below w.heap.size w w' := by
  have H1 := fun W => refPattern_any p hp W
  have H2 := fun W => refStream_any s hs W
  have H3 := fun (h : patP p = true) W => parts_any p (by have := (pat_all h).1; omega) W
  have H4 := fun (h : streamP s = true) W => parts_any s (by have := (stream_all h).1; omega) W
  have L3 := fun (h : patP p = true) => parts_four h
  have L4 := fun (h : streamP s = true) => parts_four (stream_isPat h)
  unfold matT
  obtain ⟨b1, h1⟩ : ∃ b, patP p = b := ⟨_, rfl⟩
  obtain ⟨b2, h2⟩ : ∃ b, streamP s = b := ⟨_, rfl⟩
  rw [h1] at H1
  rw [h2] at H2
  rw [h1, h2]
  have H5 := fun (h : b1 = true) => H3 (h1.trans h)
  have H6 := fun (h : b2 = true) => H4 (h2.trans h)
  have L5 := fun (h : b1 = true) => L3 (h1.trans h)
  have L6 := fun (h : b2 = true) => L4 (h2.trans h)
  clear H3 H4 L3 L4 h1 h2
  obtain ⟨P, hP⟩ : ∃ P, parts p = P := ⟨_, rfl⟩
  obtain ⟨S, hS⟩ : ∃ P, parts s = P := ⟨_, rfl⟩
  rw [hP] at H5 L5
  rw [hS] at H6 L6
  rw [hP, hS]
  have HH5 := Lib.hid H5
  have HH6 := Lib.hid H6
  have HL5 := Lib.hid L5
  have HL6 := Lib.hid L6
  clear H5 H6 L5 L6 hP hS
  go_enter Try.func31, Try.ntmps31
  go_wp2_with fail
  refine (H1 _).mono ?_
  rintro _ w1 ⟨rfl, hb1⟩
  cases b1 with
  | false => go_wp2_with fail; go_ret; exact ⟨rfl, hb1⟩
  | true =>
    go_wp2_with fail
    refine (H2 _).mono ?_
    rintro _ w2 ⟨rfl, hb2⟩
    have h12 := hb1.trans (hb2.mono hb1.size)
    clear hb1 hb2
    cases b2 with
    | false => go_wp2_with fail; go_ret; exact ⟨rfl, h12⟩
    | true =>
      go_wp2_with fail
      refine (HH5.out (by trivial) _).mono ?_
      rintro _ w3 ⟨v1, rfl, hp1, hb3⟩
      have h13 := h12.trans (hb3.mono h12.size)
      clear h12 hb3
      go_wp2_with fail
      refine (HH6.out (by trivial) _).mono ?_
      rintro _ w4 ⟨v2, rfl, hp2, hb4⟩
      have h14 := h13.trans (hb4.mono h13.size)
      have hp1' := hp1.below hb4
      clear h13 hb4 hp1
      go_wp2_with fail
      refine (refMatch_any P S v1 v2 w4 (HL5.out (by trivial)) (HL6.out (by trivial)) hp1' hp2).mono ?_
      rintro _ w5 ⟨rfl, hq⟩
      have h15 := h14.trans ((quiet_below hq).mono h14.size)
      clear hq h14
      go_wp2_with fail
      go_ret
      exact ⟨by simp, h15⟩

set_option maxHeartbeats 1000000 in
set_option maxRecDepth 100000 in
theorem refCoversT_any (p s : List UInt8) (hp : p.length ≤ 9223372036854775807) (hs : s.length ≤ 9223372036854775807) (w : World) :
    Calls Try.prog 35 #[.string (str p), .string (str s)] w fun e w' => e = .returned (.bool (covT p s)) ∧ Below w.heap.size w w' := by
  have H1 := fun W => refPattern_any p hp W
  have H2 := fun W => refPattern_any s hs W
  have H3 := fun (h : patP p = true) W => parts_any p (by have := (pat_all h).1; omega) W
  have H4 := fun (h : patP s = true) W => parts_any s (by have := (pat_all h).1; omega) W
  have L3 := fun (h : patP p = true) => parts_four h
  have L4 := fun (h : patP s = true) => parts_four h
  unfold covT
  obtain ⟨b1, h1⟩ : ∃ b, patP p = b := ⟨_, rfl⟩
  obtain ⟨b2, h2⟩ : ∃ b, patP s = b := ⟨_, rfl⟩
  rw [h1] at H1
  rw [h2] at H2
  rw [h1, h2]
  have H5 := fun (h : b1 = true) => H3 (h1.trans h)
  have H6 := fun (h : b2 = true) => H4 (h2.trans h)
  have L5 := fun (h : b1 = true) => L3 (h1.trans h)
  have L6 := fun (h : b2 = true) => L4 (h2.trans h)
  clear H3 H4 L3 L4 h1 h2
  obtain ⟨P, hP⟩ : ∃ P, parts p = P := ⟨_, rfl⟩
  obtain ⟨S, hS⟩ : ∃ P, parts s = P := ⟨_, rfl⟩
  rw [hP] at H5 L5
  rw [hS] at H6 L6
  rw [hP, hS]
  have HH5 := Lib.hid H5
  have HH6 := Lib.hid H6
  have HL5 := Lib.hid L5
  have HL6 := Lib.hid L6
  clear H5 H6 L5 L6 hP hS
  go_enter Try.func35, Try.ntmps35
  go_wp2_with fail
  refine (H1 _).mono ?_
  rintro _ w1 ⟨rfl, hb1⟩
  cases b1 with
  | false => go_wp2_with fail; go_ret; exact ⟨rfl, hb1⟩
  | true =>
    go_wp2_with fail
    refine (H2 _).mono ?_
    rintro _ w2 ⟨rfl, hb2⟩
    have h12 := hb1.trans (hb2.mono hb1.size)
    clear hb1 hb2
    cases b2 with
    | false => go_wp2_with fail; go_ret; exact ⟨rfl, h12⟩
    | true =>
      go_wp2_with fail
      refine (HH5.out (by trivial) _).mono ?_
      rintro _ w3 ⟨v1, rfl, hp1, hb3⟩
      have h13 := h12.trans (hb3.mono h12.size)
      clear h12 hb3
      go_wp2_with fail
      refine (HH6.out (by trivial) _).mono ?_
      rintro _ w4 ⟨v2, rfl, hp2, hb4⟩
      have h14 := h13.trans (hb4.mono h13.size)
      have hp1' := hp1.below hb4
      clear h13 hb4 hp1
      go_wp2_with fail
      refine (refCovers_any P S v1 v2 w4 (HL5.out (by trivial)) (HL6.out (by trivial)) hp1' hp2).mono ?_
      rintro _ w5 ⟨rfl, hq⟩
      have h15 := h14.trans ((quiet_below hq).mono h14.size)
      clear hq h14
      go_wp2_with fail
      go_ret
      exact ⟨by simp, h15⟩

set_option maxHeartbeats 1000000 in
set_option maxRecDepth 100000 in
theorem refMeetsT_any (p s : List UInt8) (hp : p.length ≤ 9223372036854775807) (hs : s.length ≤ 9223372036854775807) (w : World) :
    Calls Try.prog 37 #[.string (str p), .string (str s)] w fun e w' => e = .returned (.bool (metT p s)) ∧ Below w.heap.size w w' := by
  have H1 := fun W => refPattern_any p hp W
  have H2 := fun W => refPattern_any s hs W
  have H3 := fun (h : patP p = true) W => parts_any p (by have := (pat_all h).1; omega) W
  have H4 := fun (h : patP s = true) W => parts_any s (by have := (pat_all h).1; omega) W
  have L3 := fun (h : patP p = true) => parts_four h
  have L4 := fun (h : patP s = true) => parts_four h
  unfold metT
  obtain ⟨b1, h1⟩ : ∃ b, patP p = b := ⟨_, rfl⟩
  obtain ⟨b2, h2⟩ : ∃ b, patP s = b := ⟨_, rfl⟩
  rw [h1] at H1
  rw [h2] at H2
  rw [h1, h2]
  have H5 := fun (h : b1 = true) => H3 (h1.trans h)
  have H6 := fun (h : b2 = true) => H4 (h2.trans h)
  have L5 := fun (h : b1 = true) => L3 (h1.trans h)
  have L6 := fun (h : b2 = true) => L4 (h2.trans h)
  clear H3 H4 L3 L4 h1 h2
  obtain ⟨P, hP⟩ : ∃ P, parts p = P := ⟨_, rfl⟩
  obtain ⟨S, hS⟩ : ∃ P, parts s = P := ⟨_, rfl⟩
  rw [hP] at H5 L5
  rw [hS] at H6 L6
  rw [hP, hS]
  have HH5 := Lib.hid H5
  have HH6 := Lib.hid H6
  have HL5 := Lib.hid L5
  have HL6 := Lib.hid L6
  clear H5 H6 L5 L6 hP hS
  go_enter Try.func37, Try.ntmps37
  go_wp2_with fail
  refine (H1 _).mono ?_
  rintro _ w1 ⟨rfl, hb1⟩
  cases b1 with
  | false => go_wp2_with fail; go_ret; exact ⟨rfl, hb1⟩
  | true =>
    go_wp2_with fail
    refine (H2 _).mono ?_
    rintro _ w2 ⟨rfl, hb2⟩
    have h12 := hb1.trans (hb2.mono hb1.size)
    clear hb1 hb2
    cases b2 with
    | false => go_wp2_with fail; go_ret; exact ⟨rfl, h12⟩
    | true =>
      go_wp2_with fail
      refine (HH5.out (by trivial) _).mono ?_
      rintro _ w3 ⟨v1, rfl, hp1, hb3⟩
      have h13 := h12.trans (hb3.mono h12.size)
      clear h12 hb3
      go_wp2_with fail
      refine (HH6.out (by trivial) _).mono ?_
      rintro _ w4 ⟨v2, rfl, hp2, hb4⟩
      have h14 := h13.trans (hb4.mono h13.size)
      have hp1' := hp1.below hb4
      clear h13 hb4 hp1
      go_wp2_with fail
      refine (refMeets_any P S v1 v2 w4 (HL5.out (by trivial)) (HL6.out (by trivial)) hp1' hp2).mono ?_
      rintro _ w5 ⟨rfl, hq⟩
      have h15 := h14.trans ((quiet_below hq).mono h14.size)
      clear hq h14
      go_wp2_with fail
      go_ret
      exact ⟨by simp, h15⟩

theorem less_step {a b : List UInt8} {K : Nat} {x y : UInt8} (hx : a[K]? = some x) (hy : b[K]? = some y) : lessL (a.drop K) (b.drop K) = if x = y then lessL (a.drop (K + 1)) (b.drop (K + 1)) else decide (x.toNat < y.toNat) := by
  obtain ⟨h1, rfl⟩ := List.getElem?_eq_some_iff.1 hx
  obtain ⟨h2, rfl⟩ := List.getElem?_eq_some_iff.1 hy
  rw [List.drop_eq_getElem_cons h1, List.drop_eq_getElem_cons h2]
  rfl

theorem less_end {a b : List UInt8} {K : Nat} (ha : K ≤ a.length) (hb : K ≤ b.length) (h : ¬ (K < a.length ∧ K < b.length)) : lessL (a.drop K) (b.drop K) = decide (a.length < b.length) := by
  rcases Nat.lt_or_ge K b.length with hb' | hb'
  · have : a.length = K := by omega
    rw [List.drop_of_length_le (by omega), List.drop_eq_getElem_cons hb']
    rw [decide_eq_true (by omega)]; rfl
  · rw [List.drop_of_length_le hb', decide_eq_false (by omega)]
    cases a.drop K <;> rfl

set_option maxHeartbeats 2000000 in
set_option maxRecDepth 100000 in
theorem less_any (a b : List UInt8) (ha : a.length ≤ 9223372036854775806) (hb : b.length ≤ 9223372036854775806) (w : World) :
    Calls Try.prog 30 #[.string (str a), .string (str b)] w fun e w' => e = .returned (.bool (lessL a b)) ∧ Below w.heap.size w w' := by
  have hsa : (str a).size = a.length := str_size a
  have hsb : (str b).size = b.length := str_size b
  go_enter Try.func30, Try.ntmps30
  go_wp2_with fail
  go_loopw [5] (fun k wr => ∃ K : Nat, k = .int .i64 (K : Int) ∧ K ≤ a.length ∧ K ≤ b.length ∧ Hid (lessL a b = lessL (a.drop K) (b.drop K)) ∧ Below w.heap.size w wr) (fun k _ => a.length - (intOf k).toNat)
  case atStart => exact ⟨0, rfl, Nat.zero_le _, Nat.zero_le _, rfl, Below.refl _ _⟩
  case round =>
    obtain ⟨K, rfl, hKa, hKb, HL, HB⟩ := hrel
    have hw1 : IntKind.i64.wrap ((K : Int) + 1) = (K : Int) + 1 := IntWalk.i64_in _ (by omega)
    by_cases hlt : K < a.length ∧ K < b.length
    · obtain ⟨hla, hlb⟩ := hlt
      have hltA : (K : Int) < (a.length : Int) := by omega
      have hltB : (K : Int) < (b.length : Int) := by omega
      have hlsA : (K : Int) < ((str a).size : Int) := by omega
      have hlsB : (K : Int) < ((str b).size : Int) := by omega
      have hk0 : (0 : Int) ≤ (K : Int) := by omega
      have hkA : K < (str a).size := by omega
      have hkB : K < (str b).size := by omega
      obtain ⟨x, hx⟩ : ∃ x, a[K]? = some x := ⟨_, List.getElem?_eq_getElem hla⟩
      obtain ⟨y, hy⟩ : ∃ x, b[K]? = some x := ⟨_, List.getElem?_eq_getElem hlb⟩
      have hgx : ((str a)[K]'hkA) = x := str_get8 hx hkA
      have hgy : ((str b)[K]'hkB) = y := str_get8 hy hkB
      have hst := less_step hx hy
      by_cases hxy : x = y
      · subst hxy
        rw [if_pos rfl] at hst
        have HS := Lib.hid hst
        clear hst hx hy
        go_wp2_with fail
        go_quiet (fail)
        go_wp2_with fail
        go_roundw
        case rel => exact ⟨K + 1, by go_num, by omega, by omega, by show _ = _; rw [HL.out, HS.out], HB.trans ((below_drewN _ _).mono HB.size)⟩
        case measure => simp [intOf]; omega
      · rw [if_neg hxy] at hst
        have HS := Lib.hid hst
        have hne : (((x.toNat : Int)) == (y.toNat : Int)) = false := by
          rw [beq_eq_false_iff_ne]; intro h; exact hxy (UInt8.toNat_inj.1 (by omega))
        have hne2 : ((x.toNat : Int) != (y.toNat : Int)) = true := by
          rw [bne_iff_ne]; intro h; exact hxy (UInt8.toNat_inj.1 (by omega))
        clear hst hx hy hxy
        go_wp2_with fail
        go_quiet (fail)
        go_wp2_with fail
        go_quiet (fail)
        go_wp2_with fail
        go_ret
        rw [HL.out, HS.out]
        refine ⟨rfl, ?_⟩
        first | exact HB.trans ((below_drewN _ _).mono HB.size) | (rw [World.drewN_drewN]; exact HB.trans ((below_drewN _ _).mono HB.size))
    · have he := less_end hKa hKb hlt
      have HS := Lib.hid he
      clear he
      by_cases hla : K < a.length
      · have hltA : (K : Int) < (a.length : Int) := by omega
        have hltB : ¬ (K : Int) < (b.length : Int) := by omega
        go_wp2_with fail
        go_ret
        rw [HL.out, HS.out]
        exact ⟨by simp, HB⟩
      · have hltA : ¬ (K : Int) < (a.length : Int) := by omega
        go_wp2_with fail
        go_ret
        rw [HL.out, HS.out]
        exact ⟨by simp, HB⟩

end Go.Proofs.Ytbpphghphfbogaa.P8
