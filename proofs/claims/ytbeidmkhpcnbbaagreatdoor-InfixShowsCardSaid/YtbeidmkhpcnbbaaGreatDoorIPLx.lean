/-
  Plain mathematics of layer 4: words as the program has them, and where they stand.
-/
import Derived.Test.YtbeidmkhpcnbbaaGreatDoorIPWord
namespace Go.Proofs.YtbeidmkhpcnbbaaGreatDoor.I
open Go Go.Proofs.YtbeidmkhpcnbbaaGreatDoor.E
set_option linter.unusedVariables false

/-- A word as the program has it: of a long one of letters the beginning. -/
def cutw (s : Bs) : Bs := match s with | c :: r => if letter c = true then (c :: r).take 24 else c :: r | [] => []

theorem take_takeWhile {p : UInt8 → Bool} (l : Bs) (n : Nat) : (l.take n).takeWhile p = (l.takeWhile p).take n := by
  induction l generalizing n with
  | nil => simp
  | cons c r ih =>
    cases n with
    | zero => simp
    | succ n =>
      rw [List.take_succ_cons, List.takeWhile_cons, List.takeWhile_cons]
      split
      · rw [List.take_succ_cons, ih]
      · simp

theorem takeWhile_len {p : UInt8 → Bool} (a b : Bs) (h : ((a ++ b).takeWhile p).length = a.length) : (a ++ b).takeWhile p = a := by
  have h1 : (a ++ b).takeWhile p <+: a ++ b := List.takeWhile_prefix p
  have h2 : a <+: a ++ b := List.prefix_append a b
  exact (List.prefix_of_prefix_length_le h1 h2 (by omega)).eq_of_length h

theorem sgn_le (r : Bs) : sgn (60 :: 61 :: r) = [60, 61] := by simp [sgn, signL, better, List.isPrefixOf, wmin, wmax, wif]
theorem sgn_lt (r : Bs) (h : r.head? ≠ some 61) : sgn (60 :: r) = [60] := by
  cases r with
  | nil => simp [sgn, signL, better, List.isPrefixOf, wmin, wmax, wif]
  | cons d r' =>
    have hd : ¬ (61 : UInt8) = d := fun e => h (by rw [← e]; rfl)
    simp [sgn, signL, better, List.isPrefixOf, wmin, wmax, wif, hd]
theorem sgn_one (c : UInt8) (r : Bs) (h : c = 43 ∨ c = 45 ∨ c = 42 ∨ c = 33 ∨ c = 38 ∨ c = 124 ∨ c = 61) : sgn (c :: r) = [c] := by
  rcases h with rfl | rfl | rfl | rfl | rfl | rfl | rfl <;> simp [sgn, signL, better, List.isPrefixOf, wmin, wmax, wif]
theorem sgn_blank (r : Bs) : sgn (32 :: r) = [] := by simp [sgn, signL, better, List.isPrefixOf, wmin, wmax, wif]

theorem wd_word (w r : Bs) (hw : w ≠ []) (hl : wordLen (w ++ r) = w.length) : wd (w ++ r) = cutw w := by
  match w, hw, hl with
  | c :: w', _, hl =>
    rw [List.cons_append] at hl ⊢
    rw [wd_cons]
    show _ = if letter c = true then (c :: w').take 24 else c :: w'
    simp only [wordLen] at hl
    by_cases h1 : letter c = true
    · rw [if_pos h1] at hl ⊢
      rw [if_pos h1]
      have h2 := takeWhile_len (p := idc) w' r (by simp only [List.length_cons] at hl; omega)
      have hc : idc c = true := by rw [idc_of, h1]; rfl
      rw [take_takeWhile, List.takeWhile_cons, if_pos hc, h2]
    · rw [if_neg h1] at hl ⊢
      rw [if_neg h1]
      by_cases h2 : digit c = true
      · rw [if_pos h2] at hl ⊢
        have h3 := takeWhile_len (p := digit) w' r (by simp only [List.length_cons] at hl; omega)
        rw [List.takeWhile_cons, if_pos h2, h3]
      · rw [if_neg h2] at hl ⊢
        by_cases h36 : c = 36
        · rw [if_pos h36] at hl
          cases hr : w' ++ r with
          | nil => rw [hr] at hl; simp at hl
          | cons d r' =>
            rw [hr] at hl
            by_cases hd : digit d = true
            · simp only [hd, if_true, List.length_cons] at hl
              have hwl : w'.length = 1 := by omega
              match w', hwl, hr with
              | [x], _, hr =>
                rw [List.singleton_append] at hr
                cases hr
                rw [if_pos ⟨h36, hd⟩]; rfl
            · simp only [if_neg hd, List.length_cons] at hl; omega
        · rw [if_neg h36] at hl
          rw [if_neg (fun h => h36 h.1)]
          by_cases h60 : c = 60 ∧ (w' ++ r).head? = some 61
          · rw [if_pos h60] at hl
            obtain ⟨rfl, h61⟩ := h60
            have hwl : w'.length = 1 := by simp only [List.length_cons] at hl; omega
            match w', hwl, h61 with
            | [x], _, h61 =>
              simp at h61; subst h61
              rw [if_neg (by decide), List.singleton_append, sgn_le]
          · rw [if_neg h60] at hl
            by_cases hs : c ∈ signs
            · rw [if_pos hs] at hl
              have hwl : w' = [] := List.eq_nil_of_length_eq_zero (by simp only [List.length_cons] at hl; omega)
              subst hwl
              rw [List.nil_append]
              simp only [signs, List.mem_cons, List.not_mem_nil, or_false] at hs
              by_cases h3 : c = 40 ∨ c = 41 ∨ c = 44
              · rw [if_pos h3]
              · rw [if_neg h3]
                by_cases hc60 : c = 60
                · subst hc60
                  exact sgn_lt r (fun h => h60 ⟨rfl, by simpa using h⟩)
                · exact sgn_one c r (by simp only [not_or] at h3; rcases hs with h | h | h | h | h | h | h | h | h | h | h <;> simp_all)
            · rw [if_neg hs] at hl
              simp only [List.length_cons] at hl; omega

theorem lx_pos {p : Nat} {u : Bs} {ts : List Tk} (h : Lx p u ts) : ∀ q s r, ts = (q, s) :: r → p ≤ q := by
  induction h with
  | nil p => intro q s r h; cases h; exact Nat.le_refl _
  | blank p r ts _ ih => intro q s r' h; have := ih q s r' h; omega
  | word p w r ts _ _ _ _ _ => intro q s r' h; cases h; exact Nat.le_refl _

/-- The word at p of a text is s, and r those behind it. -/
def At (t : Bs) (p : Nat) (s : Bs) (r : List Tk) : Prop := p ≤ t.length ∧ Lx p (t.drop p) ((p, s) :: r)

theorem drop_add {t u w : Bs} {p : Nat} (h : t.drop p = w ++ u) : t.drop (p + w.length) = u := by
  rw [← List.drop_drop, h, List.drop_left]

theorem At.next {t : Bs} {p : Nat} {s : Bs} {r : List Tk} (h : At t p s r) (hs : s ≠ []) : p + s.length ≤ t.length ∧ Lx (p + s.length) (t.drop (p + s.length)) r := by
  obtain ⟨hp, hl⟩ := h
  generalize hu : t.drop p = u at hl
  generalize hts : (p, s) :: r = ts at hl
  cases hl with
  | nil => cases hts; exact absurd rfl hs
  | blank _ r' _ h => subst hts; have := lx_pos h p s r rfl; omega
  | word _ w r' ts' h1 h2 h3 h4 =>
    cases hts
    rw [drop_add hu]
    have := congrArg List.length hu
    rw [List.length_drop, List.length_append] at this
    exact ⟨by omega, h4⟩

theorem At.wd {t : Bs} {p : Nat} {s : Bs} {r : List Tk} (h : At t p s r) : wd (t.drop p) = cutw s := by
  obtain ⟨hp, hl⟩ := h
  generalize hu : t.drop p = u at hl ⊢
  generalize hts : (p, s) :: r = ts at hl
  cases hl with
  | nil => cases hts; rfl
  | blank _ r' _ h => subst hts; have := lx_pos h p s r rfl; omega
  | word _ w r' ts' h1 h2 h3 h4 => cases hts; exact wd_word s r' h1 h3

theorem At.done {t : Bs} {p : Nat} {r : List Tk} (h : At t p [] r) : p = t.length ∧ r = [] := by
  obtain ⟨hp, hl⟩ := h
  generalize hu : t.drop p = u at hl
  generalize hts : (p, ([] : Bs)) :: r = ts at hl
  cases hl with
  | nil => cases hts; have := congrArg List.length hu; rw [List.length_drop] at this; simp at this; exact ⟨by omega, rfl⟩
  | blank _ r' _ h => subst hts; have := lx_pos h p [] r rfl; omega
  | word _ w r' ts' h1 h2 h3 h4 => cases hts; exact absurd rfl h1

/-- One blank less, or there. -/
theorem lx_step {t : Bs} {q p : Nat} {s : Bs} {r : List Tk} (hq : q ≤ t.length) (h : Lx q (t.drop q) ((p, s) :: r)) :
    (t[q]? = some 32 ∧ Lx (q + 1) (t.drop (q + 1)) ((p, s) :: r)) ∨ (t[q]? ≠ some 32 ∧ p = q ∧ At t p s r) := by
  have h0 := h
  generalize hu : t.drop q = u at h
  generalize hts : (p, s) :: r = ts at h
  cases h with
  | nil =>
    cases hts
    right
    have := congrArg List.length hu
    rw [List.length_drop] at this; simp at this
    exact ⟨by rw [List.getElem?_eq_none (by omega)]; simp, rfl, hq, h0⟩
  | blank _ r' _ h =>
    left
    subst hts
    have h1 : t[q]? = some 32 := by
      have := congrArg (·[0]?) hu
      simpa [List.getElem?_drop] using this
    refine ⟨h1, ?_⟩
    have : t.drop (q + 1) = r' := drop_add (w := [32]) hu
    rw [this]; exact h
  | word _ w r' ts' h1 h2 h3 h4 =>
    cases hts
    right
    refine ⟨fun h5 => h2 ?_, rfl, hq, h0⟩
    have := congrArg (·[0]?) hu
    rw [List.getElem?_drop, Nat.add_zero, h5] at this
    cases s with
    | nil => exact absurd rfl h1
    | cons c s' => simpa using this.symm
end Go.Proofs.YtbeidmkhpcnbbaaGreatDoor.I
