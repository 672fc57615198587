/-
  Plain mathematics of layer 4: the pieces of a shown text are its words.
-/
import Derived.Test.YtfcdkjhabdpijaaDoorIMath
namespace Go.Proofs.YtfcdkjhabdpijaaDoor.I
open Go Go.Proofs.YtfcdkjhabdpijaaDoor.E
set_option linter.unusedVariables false

/-- What may follow: nothing, a blank, a closing bracket, a comma. -/
def Brk (t : Bs) : Prop := t = [] ∨ ∃ c r, t = c :: r ∧ (c = 32 ∨ c = 41 ∨ c = 44)

theorem brk_idc {t : Bs} (h : Brk t) : t.takeWhile idc = [] ∧ t.takeWhile digit = [] := by
  rcases h with rfl | ⟨c, r, rfl, h⟩
  · exact ⟨rfl, rfl⟩
  · rcases h with rfl | rfl | rfl <;> exact ⟨rfl, rfl⟩

theorem brk_cons (c : UInt8) (r : Bs) (h : c = 32 ∨ c = 41 ∨ c = 44) : Brk (c :: r) := Or.inr ⟨c, r, rfl, h⟩

theorem takeWhile_all {p : UInt8 → Bool} {a b : Bs} (ha : ∀ c ∈ a, p c = true) (hb : b.takeWhile p = []) : (a ++ b).takeWhile p = a := by
  induction a with
  | nil => exact hb
  | cons c r ih =>
    rw [List.cons_append, List.takeWhile_cons, if_pos (ha c (by simp)), ih (fun d hd => ha d (by simp [hd]))]

/-- A name is a word. -/
theorem word_name (s t : Bs) (hs : isName s = true) (ht : Brk t) : IsWord s t := by
  match s, hs with
  | c :: r, hs =>
    simp only [isName, Bool.and_eq_true, decide_eq_true_eq, List.all_cons] at hs
    obtain ⟨⟨⟨⟨⟨hl, hc⟩, ha⟩, _⟩, _⟩, _⟩ := hs
    refine ⟨by simp, ?_, ?_⟩
    · intro h
      cases h
      revert hc; decide
    · simp only [List.cons_append, wordLen]
      rw [if_pos hc, takeWhile_all (fun d hd => List.all_eq_true.1 ha.2 d hd) (brk_idc ht).1]
      simp only [List.length_cons]; omega

theorem word_key (s t : Bs) (hs : s = wmin ∨ s = wmax ∨ s = wif) : IsWord s (40 :: t) := by
  rcases hs with rfl | rfl | rfl
  all_goals
    refine ⟨by decide, by decide, ?_⟩
    rfl

theorem ofNat_digit (n : Nat) (h : n < 10) : digit (UInt8.ofNat (48 + n)) = true := by
  unfold digit
  refine decide_eq_true ?_
  rw [UInt8.toNat_ofNat']
  omega

theorem dig_digits (n : Nat) : ∀ c ∈ dig n, digit c = true := by
  induction n using Nat.strongRecOn with
  | _ n ih =>
    intro c hc
    unfold dig at hc
    split at hc
    · rename_i h
      obtain rfl := List.mem_singleton.1 hc
      exact ofNat_digit n h
    · rename_i h
      rcases List.mem_append.1 hc with hc | hc
      · exact ih (n / 10) (by omega) c hc
      · obtain rfl := List.mem_singleton.1 hc
        exact ofNat_digit _ (by omega)

theorem dig_ne (n : Nat) : dig n ≠ [] := by
  unfold dig
  split
  · simp
  · simp

theorem not_letter {c : UInt8} (h : digit c = true) : letter c = false := by
  unfold digit at h
  have := of_decide_eq_true h
  unfold letter
  exact decide_eq_false (by omega)

theorem word_dig (n : Nat) (t : Bs) (ht : Brk t) : IsWord (dig n) t := by
  have hd := dig_digits n
  have hne := dig_ne n
  obtain ⟨c, r, hcr⟩ := List.exists_cons_of_ne_nil hne
  rw [hcr] at hd ⊢
  have hc := hd c (by simp)
  refine ⟨by simp, ?_, ?_⟩
  · intro h
    cases h
    revert hc; decide
  · simp only [List.cons_append, wordLen]
    rw [if_neg (by rw [not_letter hc]; decide), if_pos hc, takeWhile_all (fun d hd' => hd d (by simp [hd'])) (brk_idc ht).2]
    simp only [List.length_cons]; omega

theorem word_one (c : UInt8) (t : Bs) (h : c = 43 ∨ c = 45 ∨ c = 42 ∨ c = 33 ∨ c = 38 ∨ c = 124 ∨ c = 61 ∨ c = 40 ∨ c = 41 ∨ c = 44) : IsWord [c] t := by
  rcases h with rfl | rfl | rfl | rfl | rfl | rfl | rfl | rfl | rfl | rfl
  all_goals
    refine ⟨by simp, by decide, ?_⟩
    rfl

theorem word_sign (o : Int) (t : Bs) : IsWord (sign o) (32 :: t) := by
  unfold sign
  repeat' split
  all_goals
    refine ⟨by decide, by decide, ?_⟩
    rfl

theorem word_arg (k : Nat) (t : Bs) (h : k < 10) : IsWord ([36] ++ dig k) t := by
  have hd : dig k = [UInt8.ofNat (48 + k)] := by unfold dig; rw [dif_pos h]
  rw [hd]
  refine ⟨by simp, by show some (36 : UInt8) ≠ some 32; decide, ?_⟩
  have h1 : letter 36 = false := by decide
  have h2 : digit 36 = false := by decide
  simp only [List.cons_append, List.nil_append, wordLen, h1, h2, ofNat_digit k h]
  rfl

/-- All that an expression names has a name, and its arguments' digits are one each. -/
def Nm (vs : List Bs) : Ex → Prop
  | .con _ => True | .var k => isName (vs.getD k []) = true | .arg k => k < 10
  | .un _ a => Nm vs a | .bin _ a b => Nm vs a ∧ Nm vs b | .ite a b c => Nm vs a ∧ Nm vs b ∧ Nm vs c

theorem nm_of (vs : List Bs) (na : Int) (hna : na ≤ 10) (hv : ∀ s ∈ vs, isName s = true) (e : Ex) (hw : WF vs.length na e) : Nm vs e := by
  induction e with
  | con n => trivial
  | var k =>
    have hk : k < vs.length := by have h : (k : Int) < vs.length := hw; omega
    show isName (vs.getD k []) = true
    rw [List.getD_eq_getElem?_getD, List.getElem?_eq_getElem hk]
    exact hv _ (List.getElem_mem hk)
  | arg k => show k < 10; have h : (k : Int) < na := hw; omega
  | un o a ih => exact ih hw.2
  | bin o a b iha ihb => exact ⟨iha hw.2.1, ihb hw.2.2⟩
  | ite a b c iha ihb ihc => exact ⟨iha hw.1, ihb hw.2.1, ihc hw.2.2⟩

theorem good_wrap (r least : Nat) (p : List Bs) (t : Bs) (h : ∀ t, Brk t → Good p t) (ht : Brk t) : Good (wrap r least p) t := by
  unfold wrap
  split
  · have h1 : Good p ([41] ++ t) := h _ (brk_cons 41 t (by simp))
    have h2 : Good (p ++ [[41]]) t := Good.append (by simpa using h1) ⟨Or.inr (word_one 41 _ (by simp)), trivial⟩
    rw [List.append_assoc]
    exact ⟨Or.inr (word_one 40 _ (by simp)), h2⟩
  · exact h t ht

theorem good_pieces (vs : List Bs) (e : Ex) (hn : Nm vs e) : ∀ t, Brk t → Good (pieces vs e) t := by
  induction e with
  | con n =>
    intro t ht
    unfold pieces
    split
    · exact ⟨Or.inr (word_one 45 _ (by simp)), Or.inr (word_dig _ _ (by simpa using ht)), trivial⟩
    · exact ⟨Or.inr (word_dig _ _ (by simpa using ht)), trivial⟩
  | var k => intro t ht; exact ⟨Or.inr (word_name _ _ hn (by simpa using ht)), trivial⟩
  | arg k => intro t ht; exact ⟨Or.inr (word_arg k _ hn), trivial⟩
  | un o a ih =>
    intro t ht
    have ih := ih hn
    unfold pieces
    split
    · split
      · have h2 : Good (pieces vs a ++ [[41]]) t := Good.append (by simpa using ih _ (brk_cons 41 t (by simp))) ⟨Or.inr (word_one 41 _ (by simp)), trivial⟩
        exact ⟨Or.inr (word_one 45 _ (by simp)), Or.inr (word_one 40 _ (by simp)), h2⟩
      · exact ⟨Or.inr (word_one 45 _ (by simp)), good_wrap _ _ _ _ ih ht⟩
    · exact ⟨Or.inr (word_one 33 _ (by simp)), good_wrap _ _ _ _ ih ht⟩
  | ite a b c iha ihb ihc =>
    intro t ht
    have h3 : Good (pieces vs c ++ [[41]]) t := Good.append (by simpa using ihc hn.2.2 _ (brk_cons 41 t (by simp))) ⟨Or.inr (word_one 41 _ (by simp)), trivial⟩
    have h2 : Good (pieces vs b ++ ([[44], [32]] ++ (pieces vs c ++ [[41]]))) t := Good.append (by simpa using ihb hn.2.1 _ (brk_cons 44 _ (by simp))) ⟨Or.inr (word_one 44 _ (by simp)), Or.inl rfl, h3⟩
    have h1 : Good (pieces vs a ++ ([[44], [32]] ++ (pieces vs b ++ ([[44], [32]] ++ (pieces vs c ++ [[41]]))))) t := Good.append (by simpa using iha hn.1 _ (brk_cons 44 _ (by simp))) ⟨Or.inr (word_one 44 _ (by simp)), Or.inl rfl, h2⟩
    have h0 : Good ([wif, [40]] ++ (pieces vs a ++ ([[44], [32]] ++ (pieces vs b ++ ([[44], [32]] ++ (pieces vs c ++ [[41]])))))) t := ⟨Or.inr (word_key wif _ (by simp)), Or.inr (word_one 40 _ (by simp)), h1⟩
    simpa [pieces] using h0
  | bin o a b iha ihb =>
    intro t ht
    unfold pieces
    split
    · rename_i ho
      have h2 : Good (pieces vs b ++ [[41]]) t := Good.append (by simpa using ihb hn.2 _ (brk_cons 41 t (by simp))) ⟨Or.inr (word_one 41 _ (by simp)), trivial⟩
      have h1 : Good (pieces vs a ++ ([[44], [32]] ++ (pieces vs b ++ [[41]]))) t := Good.append (by simpa using iha hn.1 _ (brk_cons 44 _ (by simp))) ⟨Or.inr (word_one 44 _ (by simp)), Or.inl rfl, h2⟩
      have hk : (if o = 9 then wmin else wmax) = wmin ∨ (if o = 9 then wmin else wmax) = wmax ∨ (if o = 9 then wmin else wmax) = wif := by
        split
        · exact Or.inl rfl
        · exact Or.inr (Or.inl rfl)
      have h0 : Good ([if o = 9 then wmin else wmax, [40]] ++ (pieces vs a ++ ([[44], [32]] ++ (pieces vs b ++ [[41]])))) t := ⟨Or.inr (word_key _ _ hk), Or.inr (word_one 40 _ (by simp)), h1⟩
      simpa using h0
    · have hb := good_wrap (rank b) (rank (.bin o a b) + 1) _ t (ihb hn.2) ht
      have h1 : Good ([[32], sign o, [32]] ++ wrap (rank b) (rank (.bin o a b) + 1) (pieces vs b)) t := ⟨Or.inl rfl, Or.inr (by simpa using word_sign o _), Or.inl rfl, hb⟩
      have ha := good_wrap (rank a) (if rank (.bin o a b) = 3 then 4 else rank (.bin o a b)) _ (([[32], sign o, [32]] ++ wrap (rank b) (rank (.bin o a b) + 1) (pieces vs b)).flatten ++ t) (iha hn.1) (by simp only [List.cons_append, List.flatten_cons]; exact brk_cons 32 _ (by simp))
      rw [List.append_assoc]
      exact Good.append ha h1

/-- A shown text's words. -/
theorem text_words (vs : List Bs) (e : Ex) (hn : Nm vs e) (p : Nat) (t : Bs) (ht : Brk t) (ts : List Tk) (h : Lx (p + (text vs e).length) t ts) : Lx p (text vs e ++ t) (toks p (pieces vs e) ++ ts) :=
  Lx.pieces (good_pieces vs e hn t ht) h
end Go.Proofs.YtfcdkjhabdpijaaDoor.I
