/-
  Layer 8: the program's functions.
-/
import Derived.Test.YtbpphghphfbogaaP8Tog
namespace Go.Proofs.Ytbpphghphfbogaa.P8
open Go Go.RowKit Go.Shelf Go.Proofs Go.Proofs.Ytbpphghphfbogaa.B Go.Proofs.Ytbpphghphfbogaa.K
set_option linter.unusedVariables false

/-- As the document says it, over texts. -/
def covT (p q : List UInt8) : Bool := patP p && (patP q && coversL (parts p) (parts q))
def metT (p q : List UInt8) : Bool := patP p && (patP q && meetsL (parts p) (parts q))
def matT (p s : List UInt8) : Bool := patP p && (streamP s && matchL (parts p) (parts s))

theorem pat_all {l : List UInt8} (h : patP l = true) : l.length ≤ 32 ∧ allL rP (parts l) = true ∧ (parts l).length ≤ 4 := rowOk_parts h
theorem stream_all {l : List UInt8} (h : streamP l = true) : l.length ≤ 32 ∧ allL rS (parts l) = true ∧ (parts l).length ≤ 4 := rowOk_parts h
theorem stream_isPat {l : List UInt8} (h : streamP l = true) : patP l = true := by
  obtain ⟨h1, h2, h3⟩ := stream_all h
  unfold patP rowOk
  rw [decide_eq_true h1, decide_eq_true h3, stream_pat _ h2]; rfl

theorem cov_tog {p q : List UInt8} (hp : patP p = true) (hq : patP q = true) : tog freeC takes 40 p q = coversL (parts p) (parts q) := by
  rw [tog_parts _ _ _ _ _ (by have := (pat_all hp).2.2; omega), covers_tog _ _ (pat_all hp).2.1 (pat_all hq).2.1]
theorem met_tog {p q : List UInt8} (hp : patP p = true) (hq : patP q = true) : tog freeM meet 40 p q = meetsL (parts p) (parts q) := by
  rw [tog_parts _ _ _ _ _ (by have := (pat_all hp).2.2; omega), meets_tog _ _ (pat_all hp).2.1 (pat_all hq).2.1]

theorem mat_cov (p s : List UInt8) : matT p s = (streamP s && covT p s) := by
  unfold matT covT
  cases hp : patP p
  · simp
  · cases hs : streamP s
    · simp
    · rw [stream_isPat hs, match_covers _ _ (pat_all hp).2.1 (stream_all hs).2.1]; simp

theorem ent_freeC : Ent 49 := fun args w => enters_of Try.func49 (by kernel_rfl) rfl args w
theorem ent_takes : Ent 51 := fun args w => enters_of Try.func51 (by kernel_rfl) rfl args w
theorem ent_freeM : Ent 54 := fun args w => enters_of Try.func54 (by kernel_rfl) rfl args w
theorem ent_meet : Ent 55 := fun args w => enters_of Try.func55 (by kernel_rfl) rfl args w

set_option maxHeartbeats 1000000 in
set_option maxRecDepth 100000 in
theorem covers_any (p q : List UInt8) (hp : p.length ≤ 9223372036854775807) (hq : q.length ≤ 9223372036854775807) (w : World) :
    Calls Try.prog 32 #[.string (str p), .string (str q)] w fun e w' => e = .returned (.bool (covT p q)) ∧ Below w.heap.size w w' := by
  have H1 := fun W => pattern_any p hp W
  have H2 := fun W => pattern_any q hq W
  have H3 := fun (h1 : patP p = true) (h2 : patP q = true) W => together_any ent_freeC ent_takes freeC_any takes_any p q (pat_all h1).1 (pat_all h2).1 W
  have H4 := fun (h1 : patP p = true) (h2 : patP q = true) => cov_tog h1 h2
  unfold covT
  obtain ⟨b1, h1⟩ : ∃ b, patP p = b := ⟨_, rfl⟩
  obtain ⟨b2, h2⟩ : ∃ b, patP q = b := ⟨_, rfl⟩
  obtain ⟨b3, h3⟩ : ∃ b, coversL (parts p) (parts q) = b := ⟨_, rfl⟩
  rw [h1] at H1
  rw [h2] at H2
  rw [h1, h2, h3]
  have HH3 := Lib.hid H3
  have HH4 := Lib.hid H4
  have E1 := Lib.hid h1
  have E2 := Lib.hid h2
  have E3 := Lib.hid h3
  clear H3 H4 h1 h2 h3
  go_enter Try.func32, Try.ntmps32
  go_wp2_with fail
  refine (H1 _).mono ?_
  rintro _ w1 ⟨rfl, hb1⟩
  cases b1 with
  | false => go_wp2_with fail; go_ret; exact ⟨rfl, hb1⟩
  | true =>
    go_wp2_with fail
    refine (H2 _).mono ?_
    rintro _ w2 ⟨rfl, hb2⟩
    have h12 := hb1.trans (hb2.mono hb1.size)
    clear hb1 hb2
    cases b2 with
    | false => go_wp2_with fail; go_ret; exact ⟨rfl, h12⟩
    | true =>
      go_wp2_with fail
      refine (HH3.out E1.out E2.out _).mono ?_
      rintro _ w3 ⟨rfl, hb3⟩
      have h13 := h12.trans (hb3.mono h12.size)
      clear h12 hb3
      rw [HH4.out E1.out E2.out, E3.out]
      go_wp2_with fail
      go_ret
      exact ⟨rfl, h13⟩

set_option maxHeartbeats 1000000 in
set_option maxRecDepth 100000 in
theorem meets_any (p q : List UInt8) (hp : p.length ≤ 9223372036854775807) (hq : q.length ≤ 9223372036854775807) (w : World) :
    Calls Try.prog 36 #[.string (str p), .string (str q)] w fun e w' => e = .returned (.bool (metT p q)) ∧ Below w.heap.size w w' := by
  have H1 := fun W => pattern_any p hp W
  have H2 := fun W => pattern_any q hq W
  have H3 := fun (h1 : patP p = true) (h2 : patP q = true) W => together_any ent_freeM ent_meet freeM_any meet_any p q (pat_all h1).1 (pat_all h2).1 W
  have H4 := fun (h1 : patP p = true) (h2 : patP q = true) => met_tog h1 h2
  unfold metT
  obtain ⟨b1, h1⟩ : ∃ b, patP p = b := ⟨_, rfl⟩
  obtain ⟨b2, h2⟩ : ∃ b, patP q = b := ⟨_, rfl⟩
  obtain ⟨b3, h3⟩ : ∃ b, meetsL (parts p) (parts q) = b := ⟨_, rfl⟩
  rw [h1] at H1
  rw [h2] at H2
  rw [h1, h2, h3]
  have HH3 := Lib.hid H3
  have HH4 := Lib.hid H4
  have E1 := Lib.hid h1
  have E2 := Lib.hid h2
  have E3 := Lib.hid h3
  clear H3 H4 h1 h2 h3
  go_enter Try.func36, Try.ntmps36
  go_wp2_with fail
  refine (H1 _).mono ?_
  rintro _ w1 ⟨rfl, hb1⟩
  cases b1 with
  | false => go_wp2_with fail; go_ret; exact ⟨rfl, hb1⟩
  | true =>
    go_wp2_with fail
    refine (H2 _).mono ?_
    rintro _ w2 ⟨rfl, hb2⟩
    have h12 := hb1.trans (hb2.mono hb1.size)
    clear hb1 hb2
    cases b2 with
    | false => go_wp2_with fail; go_ret; exact ⟨rfl, h12⟩
    | true =>
      go_wp2_with fail
      refine (HH3.out E1.out E2.out _).mono ?_
      rintro _ w3 ⟨rfl, hb3⟩
      have h13 := h12.trans (hb3.mono h12.size)
      clear h12 hb3
      rw [HH4.out E1.out E2.out, E3.out]
      go_wp2_with fail
      go_ret
      exact ⟨rfl, h13⟩

set_option maxHeartbeats 1000000 in
set_option maxRecDepth 100000 in
theorem match_any (p s : List UInt8) (hp : p.length ≤ 9223372036854775807) (hs : s.length ≤ 9223372036854775807) (w : World) :
    Calls Try.prog 27 #[.string (str p), .string (str s)] w fun e w' => e = .returned (.bool (matT p s)) ∧ Below w.heap.size w w' := by
  have H1 := fun W => stream_any s hs W
  have H2 := fun W => covers_any p s hp hs W
  rw [mat_cov]
  obtain ⟨b1, h1⟩ : ∃ b, streamP s = b := ⟨_, rfl⟩
  obtain ⟨b2, h2⟩ : ∃ b, covT p s = b := ⟨_, rfl⟩
  rw [h1] at H1
  rw [h2] at H2
  rw [h1, h2]
  clear h1 h2
  go_enter Try.func27, Try.ntmps27
  go_wp2_with fail
  refine (H1 _).mono ?_
  rintro _ w1 ⟨rfl, hb1⟩
  cases b1 with
  | false => go_wp2_with fail; go_ret; exact ⟨rfl, hb1⟩
  | true =>
    go_wp2_with fail
    refine (H2 _).mono ?_
    rintro _ w2 ⟨rfl, hb2⟩
    have h12 := hb1.trans (hb2.mono hb1.size)
    clear hb1 hb2
    go_wp2_with fail
    go_ret
    exact ⟨rfl, h12⟩

set_option maxHeartbeats 1000000 in
theorem comp_any (a b : List UInt8) (w : World) :
    Calls Try.prog 61 #[.string (str a), .string (str b)] w fun e w' => e = .returned (.int .i64 (Lib.compareBytes a b)) ∧ w = w' := by
  have H1 := fun W => compare_any (str a) (str b) W
  rw [str_data, str_data] at H1
  go_enter Try.func61, Try.ntmps61
  go_wp2_with fail
  refine (H1 _).mono ?_
  rintro _ w1 ⟨rfl, rfl⟩
  go_wp2_with fail
  go_ret
  exact ⟨rfl, rfl⟩

end Go.Proofs.Ytbpphghphfbogaa.P8
