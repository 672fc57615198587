/-
  Plain mathematics of layer 4: the pieces of a shown text are its words.
  Plain mathematics of layer 4: the grammar as derivations; the words of a shown text are derived back.
  Plain mathematics of layer 4: there and back: every shown expression's words are derived to it; a sign behind it is told.
-/
import Derived.Test.YtfooiggedgcjcaaGreatDoorIMath
import Derived.Lib.AtoiTie
namespace Go.Proofs.YtfooiggedgcjcaaGreatDoor.I
open Go Go.Proofs.YtfooiggedgcjcaaGreatDoor.E
set_option linter.unusedVariables false

/-- What may follow: nothing, a blank, a closing bracket, a comma. -/
def Brk (t : Bs) : Prop := t = [] ∨ ∃ c r, t = c :: r ∧ (c = 32 ∨ c = 41 ∨ c = 44)

theorem brk_idc {t : Bs} (h : Brk t) : t.takeWhile idc = [] ∧ t.takeWhile digit = [] := by
  rcases h with rfl | ⟨c, r, rfl, h⟩
  · exact ⟨rfl, rfl⟩
  · rcases h with rfl | rfl | rfl <;> exact ⟨rfl, rfl⟩

theorem brk_cons (c : UInt8) (r : Bs) (h : c = 32 ∨ c = 41 ∨ c = 44) : Brk (c :: r) := Or.inr ⟨c, r, rfl, h⟩

theorem takeWhile_all {p : UInt8 → Bool} {a b : Bs} (ha : ∀ c ∈ a, p c = true) (hb : b.takeWhile p = []) : (a ++ b).takeWhile p = a := by
  induction a with
  | nil => exact hb
  | cons c r ih =>
    rw [List.cons_append, List.takeWhile_cons, if_pos (ha c (by simp)), ih (fun d hd => ha d (by simp [hd]))]

/-- A name is a word. -/
theorem word_name (s t : Bs) (hs : isName s = true) (ht : Brk t) : IsWord s t := by
  match s, hs with
  | c :: r, hs =>
    simp only [isName, Bool.and_eq_true, decide_eq_true_eq, List.all_cons] at hs
    obtain ⟨⟨⟨⟨⟨hl, hc⟩, ha⟩, _⟩, _⟩, _⟩ := hs
    refine ⟨by simp, ?_, ?_⟩
    · intro h
      cases h
      revert hc; decide
    · simp only [List.cons_append, wordLen]
      rw [if_pos hc, takeWhile_all (fun d hd => List.all_eq_true.1 ha.2 d hd) (brk_idc ht).1]
      simp only [List.length_cons]; omega

theorem word_key (s t : Bs) (hs : s = wmin ∨ s = wmax ∨ s = wif) : IsWord s (40 :: t) := by
  rcases hs with rfl | rfl | rfl
  all_goals
    refine ⟨by decide, by decide, ?_⟩
    rfl

theorem ofNat_digit (n : Nat) (h : n < 10) : digit (UInt8.ofNat (48 + n)) = true := by
  unfold digit
  refine decide_eq_true ?_
  rw [UInt8.toNat_ofNat']
  omega

theorem dig_digits (n : Nat) : ∀ c ∈ dig n, digit c = true := by
  induction n using Nat.strongRecOn with
  | _ n ih =>
    intro c hc
    unfold dig at hc
    split at hc
    · rename_i h
      obtain rfl := List.mem_singleton.1 hc
      exact ofNat_digit n h
    · rename_i h
      rcases List.mem_append.1 hc with hc | hc
      · exact ih (n / 10) (by omega) c hc
      · obtain rfl := List.mem_singleton.1 hc
        exact ofNat_digit _ (by omega)

theorem dig_ne (n : Nat) : dig n ≠ [] := by
  unfold dig
  split
  · simp
  · simp

theorem not_letter {c : UInt8} (h : digit c = true) : letter c = false := by
  unfold digit at h
  have := of_decide_eq_true h
  unfold letter
  exact decide_eq_false (by omega)

theorem word_dig (n : Nat) (t : Bs) (ht : Brk t) : IsWord (dig n) t := by
  have hd := dig_digits n
  have hne := dig_ne n
  obtain ⟨c, r, hcr⟩ := List.exists_cons_of_ne_nil hne
  rw [hcr] at hd ⊢
  have hc := hd c (by simp)
  refine ⟨by simp, ?_, ?_⟩
  · intro h
    cases h
    revert hc; decide
  · simp only [List.cons_append, wordLen]
    rw [if_neg (by rw [not_letter hc]; decide), if_pos hc, takeWhile_all (fun d hd' => hd d (by simp [hd'])) (brk_idc ht).2]
    simp only [List.length_cons]; omega

theorem word_one (c : UInt8) (t : Bs) (h : c = 43 ∨ c = 45 ∨ c = 42 ∨ c = 33 ∨ c = 38 ∨ c = 124 ∨ c = 61 ∨ c = 40 ∨ c = 41 ∨ c = 44) : IsWord [c] t := by
  rcases h with rfl | rfl | rfl | rfl | rfl | rfl | rfl | rfl | rfl | rfl
  all_goals
    refine ⟨by simp, by decide, ?_⟩
    rfl

theorem word_sign (o : Int) (t : Bs) : IsWord (sign o) (32 :: t) := by
  unfold sign
  repeat' split
  all_goals
    refine ⟨by decide, by decide, ?_⟩
    rfl

theorem word_arg (k : Nat) (t : Bs) (h : k < 10) : IsWord ([36] ++ dig k) t := by
  have hd : dig k = [UInt8.ofNat (48 + k)] := by unfold dig; rw [dif_pos h]
  rw [hd]
  refine ⟨by simp, by show some (36 : UInt8) ≠ some 32; decide, ?_⟩
  have h1 : letter 36 = false := by decide
  have h2 : digit 36 = false := by decide
  simp only [List.cons_append, List.nil_append, wordLen, h1, h2, ofNat_digit k h]
  rfl

/-- All that an expression names has a name, and its arguments' digits are one each. -/
def Nm (vs : List Bs) : Ex → Prop
  | .con _ => True | .var k => isName (vs.getD k []) = true | .arg k => k < 10
  | .un _ a => Nm vs a | .bin _ a b => Nm vs a ∧ Nm vs b | .ite a b c => Nm vs a ∧ Nm vs b ∧ Nm vs c

theorem nm_of (vs : List Bs) (na : Int) (hna : na ≤ 10) (hv : ∀ s ∈ vs, isName s = true) (e : Ex) (hw : WF vs.length na e) : Nm vs e := by
  induction e with
  | con n => trivial
  | var k =>
    have hk : k < vs.length := by have h : (k : Int) < vs.length := hw; omega
    show isName (vs.getD k []) = true
    rw [List.getD_eq_getElem?_getD, List.getElem?_eq_getElem hk]
    exact hv _ (List.getElem_mem hk)
  | arg k => show k < 10; have h : (k : Int) < na := hw; omega
  | un o a ih => exact ih hw.2
  | bin o a b iha ihb => exact ⟨iha hw.2.1, ihb hw.2.2⟩
  | ite a b c iha ihb ihc => exact ⟨iha hw.1, ihb hw.2.1, ihc hw.2.2⟩

theorem good_wrap (r least : Nat) (p : List Bs) (t : Bs) (h : ∀ t, Brk t → Good p t) (ht : Brk t) : Good (wrap r least p) t := by
  unfold wrap
  split
  · have h1 : Good p ([41] ++ t) := h _ (brk_cons 41 t (by simp))
    have h2 : Good (p ++ [[41]]) t := Good.append (by simpa using h1) ⟨Or.inr (word_one 41 _ (by simp)), trivial⟩
    rw [List.append_assoc]
    exact ⟨Or.inr (word_one 40 _ (by simp)), h2⟩
  · exact h t ht

theorem good_pieces (vs : List Bs) (e : Ex) (hn : Nm vs e) : ∀ t, Brk t → Good (pieces vs e) t := by
  induction e with
  | con n =>
    intro t ht
    unfold pieces
    split
    · exact ⟨Or.inr (word_one 45 _ (by simp)), Or.inr (word_dig _ _ (by simpa using ht)), trivial⟩
    · exact ⟨Or.inr (word_dig _ _ (by simpa using ht)), trivial⟩
  | var k => intro t ht; exact ⟨Or.inr (word_name _ _ hn (by simpa using ht)), trivial⟩
  | arg k => intro t ht; exact ⟨Or.inr (word_arg k _ hn), trivial⟩
  | un o a ih =>
    intro t ht
    have ih := ih hn
    unfold pieces
    split
    · split
      · have h2 : Good (pieces vs a ++ [[41]]) t := Good.append (by simpa using ih _ (brk_cons 41 t (by simp))) ⟨Or.inr (word_one 41 _ (by simp)), trivial⟩
        exact ⟨Or.inr (word_one 45 _ (by simp)), Or.inr (word_one 40 _ (by simp)), h2⟩
      · exact ⟨Or.inr (word_one 45 _ (by simp)), good_wrap _ _ _ _ ih ht⟩
    · exact ⟨Or.inr (word_one 33 _ (by simp)), good_wrap _ _ _ _ ih ht⟩
  | ite a b c iha ihb ihc =>
    intro t ht
    have h3 : Good (pieces vs c ++ [[41]]) t := Good.append (by simpa using ihc hn.2.2 _ (brk_cons 41 t (by simp))) ⟨Or.inr (word_one 41 _ (by simp)), trivial⟩
    have h2 : Good (pieces vs b ++ ([[44], [32]] ++ (pieces vs c ++ [[41]]))) t := Good.append (by simpa using ihb hn.2.1 _ (brk_cons 44 _ (by simp))) ⟨Or.inr (word_one 44 _ (by simp)), Or.inl rfl, h3⟩
    have h1 : Good (pieces vs a ++ ([[44], [32]] ++ (pieces vs b ++ ([[44], [32]] ++ (pieces vs c ++ [[41]]))))) t := Good.append (by simpa using iha hn.1 _ (brk_cons 44 _ (by simp))) ⟨Or.inr (word_one 44 _ (by simp)), Or.inl rfl, h2⟩
    have h0 : Good ([wif, [40]] ++ (pieces vs a ++ ([[44], [32]] ++ (pieces vs b ++ ([[44], [32]] ++ (pieces vs c ++ [[41]])))))) t := ⟨Or.inr (word_key wif _ (by simp)), Or.inr (word_one 40 _ (by simp)), h1⟩
    simpa [pieces] using h0
  | bin o a b iha ihb =>
    intro t ht
    unfold pieces
    split
    · rename_i ho
      have h2 : Good (pieces vs b ++ [[41]]) t := Good.append (by simpa using ihb hn.2 _ (brk_cons 41 t (by simp))) ⟨Or.inr (word_one 41 _ (by simp)), trivial⟩
      have h1 : Good (pieces vs a ++ ([[44], [32]] ++ (pieces vs b ++ [[41]]))) t := Good.append (by simpa using iha hn.1 _ (brk_cons 44 _ (by simp))) ⟨Or.inr (word_one 44 _ (by simp)), Or.inl rfl, h2⟩
      have hk : (if o = 9 then wmin else wmax) = wmin ∨ (if o = 9 then wmin else wmax) = wmax ∨ (if o = 9 then wmin else wmax) = wif := by
        split
        · exact Or.inl rfl
        · exact Or.inr (Or.inl rfl)
      have h0 : Good ([if o = 9 then wmin else wmax, [40]] ++ (pieces vs a ++ ([[44], [32]] ++ (pieces vs b ++ [[41]])))) t := ⟨Or.inr (word_key _ _ hk), Or.inr (word_one 40 _ (by simp)), h1⟩
      simpa using h0
    · have hb := good_wrap (rank b) (rank (.bin o a b) + 1) _ t (ihb hn.2) ht
      have h1 : Good ([[32], sign o, [32]] ++ wrap (rank b) (rank (.bin o a b) + 1) (pieces vs b)) t := ⟨Or.inl rfl, Or.inr (by simpa using word_sign o _), Or.inl rfl, hb⟩
      have ha := good_wrap (rank a) (if rank (.bin o a b) = 3 then 4 else rank (.bin o a b)) _ (([[32], sign o, [32]] ++ wrap (rank b) (rank (.bin o a b) + 1) (pieces vs b)).flatten ++ t) (iha hn.1) (by simp only [List.cons_append, List.flatten_cons]; exact brk_cons 32 _ (by simp))
      rw [List.append_assoc]
      exact Good.append ha h1

/-- A shown text's words. -/
theorem text_words (vs : List Bs) (e : Ex) (hn : Nm vs e) (p : Nat) (t : Bs) (ht : Brk t) (ts : List Tk) (h : Lx (p + (text vs e).length) t ts) : Lx p (text vs e ++ t) (toks p (pieces vs e) ++ ts) :=
  Lx.pieces (good_pieces vs e hn t ht) h
end Go.Proofs.YtfooiggedgcjcaaGreatDoor.I

namespace Go.Proofs.YtfooiggedgcjcaaGreatDoor.I
open Go Go.Proofs.YtfooiggedgcjcaaGreatDoor.E
set_option linter.unusedVariables false

/-- What is read: a level's operands (6: one), what follows an operand, one, an atom. -/
inductive Kd where
  | lv (k : Nat) | lo (k : Nat) (many : Bool) (c : List In) | on | atom | ar (n : Nat) (ah : Bs)

/-- What was read: instructions, and the words behind; or a place and an error. -/
inductive Rs where
  | ok (c : List In) (r : List Tk) | err (p : Nat) (e : Int)

/-- The instruction that a sign of a level is. -/
def opAt (k : Nat) (s : Bs) : Option Int :=
  if k = 1 then (if s = [124] then some 15 else none) else if k = 2 then (if s = [38] then some 14 else none)
  else if k = 3 then (if s = [60] then some 11 else if s = [60, 61] then some 12 else if s = [61] then some 13 else none)
  else if k = 4 then (if s = [43] then some 6 else if s = [45] then some 7 else none) else if k = 5 then (if s = [42] then some 8 else none) else none

def headB (l : List Tk) : Bs := match l with | (_, s) :: _ => s | [] => []

/-- A number, right behind. -/
def near (p : Nat) (r : List Tk) : Prop := ∃ c s r', r = (p + 1, c :: s) :: r' ∧ digit c = true

/-- What a number's digits come to. -/
def conR (p : Nat) (s : Bs) (r : List Tk) : Rs := match Lib.atoiAll s with
  | .ok n => if -1099511627776 ≤ n ∧ n ≤ 1099511627776 then .ok [(1, n)] r else .err p 3
  | _ => .err p 3
def IsCall (s : Bs) (o : Int) (n : Nat) : Prop := s = wmin ∧ o = 9 ∧ n = 2 ∨ s = wmax ∧ o = 10 ∧ n = 2 ∨ s = wif ∧ o = 16 ∧ n = 3

/-- The grammar. -/
inductive Pa (vs : List Bs) (na : Int) : Kd → List Tk → Rs → Prop
  | six (l : List Tk) (x : Rs) : Pa vs na .on l x → Pa vs na (.lv 6) l x
  | lvErr (k : Nat) (l : List Tk) (p : Nat) (e : Int) : 1 ≤ k → k ≤ 5 → Pa vs na (.lv (k + 1)) l (.err p e) → Pa vs na (.lv k) l (.err p e)
  | lvGo (k : Nat) (l : List Tk) (c : List In) (r : List Tk) (x : Rs) : 1 ≤ k → k ≤ 5 → Pa vs na (.lv (k + 1)) l (.ok c r) → Pa vs na (.lo k false c) r x → Pa vs na (.lv k) l x
  | loStop (k : Nat) (m : Bool) (c : List In) (r : List Tk) : (opAt k (headB r) = none ∨ (k = 3 ∧ m = true)) → Pa vs na (.lo k m c) r (.ok c r)
  | loErr (k : Nat) (m : Bool) (c : List In) (q : Nat) (s : Bs) (o : Int) (r : List Tk) (p : Nat) (e : Int) : opAt k s = some o → ¬ (k = 3 ∧ m = true) → Pa vs na (.lv (k + 1)) r (.err p e) → Pa vs na (.lo k m c) ((q, s) :: r) (.err p e)
  | loGo (k : Nat) (m : Bool) (c : List In) (q : Nat) (s : Bs) (o : Int) (r : List Tk) (d : List In) (t : List Tk) (x : Rs) : opAt k s = some o → ¬ (k = 3 ∧ m = true) → Pa vs na (.lv (k + 1)) r (.ok d t) → Pa vs na (.lo k (decide (k = 3)) (c ++ d ++ [(o, 0)])) t x → Pa vs na (.lo k m c) ((q, s) :: r) x
  | num (p v : Nat) (r : List Tk) : v ≤ 1099511627776 → Pa vs na .on ((p, [45]) :: (p + 1, dig v) :: r) (.ok [(1, -(v : Int))] r)
  | neg (p : Nat) (l : List Tk) (c : List In) (r : List Tk) : ¬ near p l → Pa vs na .on l (.ok c r) → Pa vs na .on ((p, [45]) :: l) (.ok (c ++ [(4, 0)]) r)
  | non (p : Nat) (l : List Tk) (c : List In) (r : List Tk) : Pa vs na .on l (.ok c r) → Pa vs na .on ((p, [33]) :: l) (.ok (c ++ [(5, 0)]) r)
  | atm (l : List Tk) (x : Rs) : headB l ≠ [45] → headB l ≠ [33] → Pa vs na .atom l x → Pa vs na .on l x
  | aEnd (p : Nat) : Pa vs na .atom [(p, [])] (.err p 6)
  | aNum (p v : Nat) (r : List Tk) : v ≤ 1099511627776 → Pa vs na .atom ((p, dig v) :: r) (.ok [(1, (v : Int))] r)
  | aVar (p k : Nat) (s : Bs) (r : List Tk) : vs[k]? = some s → isName s = true → (∀ j, j < k → vs[j]? ≠ some s) → Pa vs na .atom ((p, s) :: r) (.ok [(2, (k : Int))] r)
  | aArg (p k : Nat) (r : List Tk) : (k : Int) < na → k < 10 → Pa vs na .atom ((p, [36] ++ dig k) :: r) (.ok [(3, (k : Int))] r)
  | aPar (p : Nat) (l : List Tk) (c : List In) (q : Nat) (r : List Tk) : Pa vs na (.lv 1) l (.ok c ((q, [41]) :: r)) → Pa vs na .atom ((p, [40]) :: l) (.ok c r)
  | aTwo (o : Int) (p p' : Nat) (l : List Tk) (c1 : List In) (q : Nat) (r1 : List Tk) (c2 : List In) (q' : Nat) (r : List Tk) : (o = 9 ∨ o = 10) → Pa vs na (.lv 1) l (.ok c1 ((q, [44]) :: r1)) → Pa vs na (.lv 1) r1 (.ok c2 ((q', [41]) :: r)) →
      Pa vs na .atom ((p, if o = 9 then wmin else wmax) :: (p', [40]) :: l) (.ok (c1 ++ c2 ++ [(o, 0)]) r)
  | aIf (p p' : Nat) (l : List Tk) (c1 : List In) (q : Nat) (r1 : List Tk) (c2 : List In) (q' : Nat) (r2 : List Tk) (c3 : List In) (q'' : Nat) (r : List Tk) : Pa vs na (.lv 1) l (.ok c1 ((q, [44]) :: r1)) → Pa vs na (.lv 1) r1 (.ok c2 ((q', [44]) :: r2)) → Pa vs na (.lv 1) r2 (.ok c3 ((q'', [41]) :: r)) →
      Pa vs na .atom ((p, wif) :: (p', [40]) :: l) (.ok (c1 ++ c2 ++ c3 ++ [(16, 0)]) r)
  | wNum (p : Nat) (d : UInt8) (y : Bs) (r : List Tk) : digit d = true → Pa vs na .atom ((p, d :: y) :: r) (conR p (d :: y) r)
  | wNeg (p : Nat) (d : UInt8) (y : Bs) (r : List Tk) : digit d = true → Pa vs na .on ((p, [45]) :: (p + 1, d :: y) :: r) (conR p (45 :: d :: y) r)
  | negErr (p : Nat) (l : List Tk) (q : Nat) (e : Int) : ¬ near p l → Pa vs na .on l (.err q e) → Pa vs na .on ((p, [45]) :: l) (.err q e)
  | nonErr (p : Nat) (l : List Tk) (q : Nat) (e : Int) : Pa vs na .on l (.err q e) → Pa vs na .on ((p, [33]) :: l) (.err q e)
  | aNone (p : Nat) (s : Bs) (r : List Tk) : isName s = true → s ∉ vs → Pa vs na .atom ((p, s) :: r) (.err p 8)
  | aOver (p k : Nat) (r : List Tk) : na ≤ (k : Int) → k < 10 → Pa vs na .atom ((p, [36] ++ dig k) :: r) (.err p 3)
  | aElse (p : Nat) (d : UInt8) (y : Bs) (r : List Tk) : d :: y ≠ [40] → digit d = false → d ≠ 36 → (d :: y).length ≤ 24 ∨ letter d = false → isName (d :: y) = false → d :: y ≠ wmin → d :: y ≠ wmax → d :: y ≠ wif → Pa vs na .atom ((p, d :: y) :: r) (.err p 6)
  | aParErr (p : Nat) (l : List Tk) (q : Nat) (e : Int) : Pa vs na (.lv 1) l (.err q e) → Pa vs na .atom ((p, [40]) :: l) (.err q e)
  | aParMis (p : Nat) (l : List Tk) (c : List In) (q : Nat) (s : Bs) (r : List Tk) : Pa vs na (.lv 1) l (.ok c ((q, s) :: r)) → s ≠ [41] → Pa vs na .atom ((p, [40]) :: l) (.err q 6)
  | aCallErr (o : Int) (n p : Nat) (s : Bs) (l : List Tk) (q : Nat) (e : Int) : IsCall s o n → Pa vs na (.ar n [40]) l (.err q e) → Pa vs na .atom ((p, s) :: l) (.err q e)
  | arEnd (ah : Bs) (q : Nat) (s : Bs) (r : List Tk) : s ≠ [41] → Pa vs na (.ar 0 ah) ((q, s) :: r) (.err q 6)
  | arMis (n : Nat) (ah : Bs) (q : Nat) (s : Bs) (r : List Tk) : s ≠ ah → Pa vs na (.ar (n + 1) ah) ((q, s) :: r) (.err q 6)
  | arErr (n : Nat) (ah : Bs) (q : Nat) (l : List Tk) (p : Nat) (e : Int) : Pa vs na (.lv 1) l (.err p e) → Pa vs na (.ar (n + 1) ah) ((q, ah) :: l) (.err p e)
  | arGo (n : Nat) (ah : Bs) (q : Nat) (l : List Tk) (c : List In) (r : List Tk) (p : Nat) (e : Int) : Pa vs na (.lv 1) l (.ok c r) → Pa vs na (.ar n [44]) r (.err p e) → Pa vs na (.ar (n + 1) ah) ((q, ah) :: l) (.err p e)

/-- No sign of a level from k on. -/
def Stop (k : Nat) (r : List Tk) : Prop := ∀ j, k ≤ j → j ≤ 5 → opAt j (headB r) = none

theorem Stop.mono {k k' : Nat} {r : List Tk} (h : Stop k r) (hk : k ≤ k') : Stop k' r := fun j h1 h2 => h j (by omega) h2

theorem opAt_none (j : Nat) (s : Bs) (h : s ≠ [124] ∧ s ≠ [38] ∧ s ≠ [60] ∧ s ≠ [60, 61] ∧ s ≠ [61] ∧ s ≠ [43] ∧ s ≠ [45] ∧ s ≠ [42]) : opAt j s = none := by
  obtain ⟨h1, h2, h3, h4, h5, h6, h7, h8⟩ := h
  unfold opAt
  simp only [h1, h2, h3, h4, h5, h6, h7, h8, if_false]
  repeat' split
  all_goals rfl

theorem stop_of (k q : Nat) (s : Bs) (r : List Tk) (h : s ≠ [124] ∧ s ≠ [38] ∧ s ≠ [60] ∧ s ≠ [60, 61] ∧ s ≠ [61] ∧ s ≠ [43] ∧ s ≠ [45] ∧ s ≠ [42]) : Stop k ((q, s) :: r) := fun j _ _ => opAt_none j s h

section
variable {vs : List Bs} {na : Int}

theorem lo_stop {k : Nat} {m : Bool} {c : List In} {r : List Tk} (hk : k ≤ 5) (h : Stop k r) : Pa vs na (.lo k m c) r (.ok c r) := Pa.loStop k m c r (Or.inl (h k (Nat.le_refl _) hk))

/-- From a level on, down to any lower one. -/
theorem down (T : Nat → List Tk) (c : List In) (m : Nat) (hm : m ≤ 6) (base : ∀ p rest, Stop m rest → Pa vs na (.lv m) (T p ++ rest) (.ok c rest)) :
    ∀ d k, 1 ≤ k → k + 1 + d = m → ∀ p rest x, Stop (k + 1) rest → Pa vs na (.lo k false c) rest x → Pa vs na (.lv k) (T p ++ rest) x := by
  intro d
  induction d with
  | zero =>
    intro k hk he p rest x hs hx
    refine Pa.lvGo k _ c rest x hk (by omega) ?_ hx
    have := base p rest (by rw [← he]; exact hs)
    rw [show k + 1 = m by omega]
    exact this
  | succ d ih =>
    intro k hk he p rest x hs hx
    refine Pa.lvGo k _ c rest x hk (by omega) ?_ hx
    exact ih (k + 1) (by omega) (by omega) p rest _ (hs.mono (by omega)) (lo_stop (by omega) hs)

/-- What stands for itself, or has its sign ahead, at any level. -/
theorem from_one (T : Nat → List Tk) (c : List In) (h : ∀ p rest, Pa vs na .on (T p ++ rest) (.ok c rest)) (k : Nat) (h1 : 1 ≤ k) (h2 : k ≤ 5) (p : Nat) (rest : List Tk) (x : Rs) (hs : Stop (k + 1) rest) (hx : Pa vs na (.lo k false c) rest x) :
    Pa vs na (.lv k) (T p ++ rest) x :=
  down T c 6 (Nat.le_refl _) (fun p rest _ => Pa.six _ _ (h p rest)) (5 - k) k h1 (by omega) p rest x hs hx

/-- In brackets. -/
theorem in_par (T : Nat → List Tk) (c : List In) (h : ∀ p rest, Stop 1 rest → Pa vs na (.lv 1) (T p ++ rest) (.ok c rest)) (p p' q : Nat) (rest : List Tk) : Pa vs na .on ((p, [40]) :: (T p' ++ (q, [41]) :: rest)) (.ok c rest) := by
  refine Pa.atm _ _ (by show ([40] : Bs) ≠ [45]; decide) (by show ([40] : Bs) ≠ [33]; decide) ?_
  exact Pa.aPar p _ c q rest (h p' _ (stop_of _ _ _ _ (by decide)))
end

theorem toks_one (p : Nat) (w : Bs) (r : List Bs) (h : w ≠ [32]) : toks p (w :: r) = (p, w) :: toks (p + w.length) r := by
  conv => lhs; unfold toks
  rw [if_neg h]
theorem toks_blank (p : Nat) (r : List Bs) : toks p ([32] :: r) = toks (p + 1) r := by
  conv => lhs; unfold toks
  rw [if_pos rfl]

theorem dig_head (n : Nat) : ∃ c r, dig n = c :: r ∧ digit c = true := by
  obtain ⟨c, r, h⟩ := List.exists_cons_of_ne_nil (dig_ne n)
  exact ⟨c, r, h, dig_digits n c (by rw [h]; simp)⟩

theorem dig_not (n : Nat) (c : UInt8) (r : Bs) (hc : digit c = false) : dig n ≠ c :: r := by
  obtain ⟨d, r', h, hd⟩ := dig_head n
  intro e
  rw [h] at e
  cases e
  rw [hd] at hc; cases hc

theorem name_not (s : Bs) (c : UInt8) (r : Bs) (hs : isName s = true) (hc : letter c = false) : s ≠ c :: r := by
  rintro rfl
  simp only [isName, Bool.and_eq_true] at hs
  rw [hs.1.1.1.1.2] at hc
  cases hc

/-- Names that are told apart. -/
def Apart (vs : List Bs) : Prop := ∀ (i j : Nat) (s : Bs), vs[i]? = some s → vs[j]? = some s → i = j

/-- An expression whose names are there. -/
def There (vs : List Bs) (na : Int) : Ex → Prop
  | .con n => isVal n = true | .var k => ∃ s, vs[k]? = some s ∧ isName s = true | .arg k => (k : Int) < na ∧ k < 10
  | .un o a => (o = 4 ∨ o = 5) ∧ There vs na a | .bin o a b => takes o = 2 ∧ There vs na a ∧ There vs na b | .ite a b c => There vs na a ∧ There vs na b ∧ There vs na c

theorem there_of (vs : List Bs) (na : Int) (hna : na ≤ 10) (hv : ∀ s ∈ vs, isName s = true) (e : Ex) (hw : WF vs.length na e) : There vs na e := by
  induction e with
  | con n => exact hw
  | var k =>
    have hk : k < vs.length := by have h : (k : Int) < vs.length := hw; omega
    exact ⟨vs[k], List.getElem?_eq_getElem hk, hv _ (List.getElem_mem hk)⟩
  | arg k => have h : (k : Int) < na := hw; exact ⟨h, by omega⟩
  | un o a ih => exact ⟨hw.1, ih hw.2⟩
  | bin o a b iha ihb => exact ⟨hw.1, iha hw.2.1, ihb hw.2.2⟩
  | ite a b c iha ihb ihc => exact ⟨iha hw.1, ihb hw.2.1, ihc hw.2.2⟩

/-- The words of an expression at a level. -/
def wt (vs : List Bs) (e : Ex) (least p : Nat) : List Tk := toks p (wrap (rank e) least (pieces vs e))

/-- Has a level's one comparison been read? -/
def flag (e : Ex) (k : Nat) : Bool := decide (k = 3 ∧ rank e = 3)

/-- What is to be shown of each expression. -/
structure Der (vs : List Bs) (na : Int) (e : Ex) : Prop where
  lv : ∀ k p rest x, 1 ≤ k → k ≤ 5 → Stop (k + 1) rest → Pa vs na (.lo k (flag e k) (codeOf e)) rest x → Pa vs na (.lv k) (wt vs e k p ++ rest) x
  on : ∀ p rest, Pa vs na .on (wt vs e 6 p ++ rest) (.ok (codeOf e) rest)

theorem wrap_no (r least : Nat) (p : List Bs) (h : least ≤ r) : wrap r least p = p := by unfold wrap; rw [if_neg (by omega)]
theorem wrap_yes (r least : Nat) (p : List Bs) (h : r < least) : wrap r least p = [[40]] ++ p ++ [[41]] := by unfold wrap; rw [if_pos h]

theorem toks_par (p : Nat) (ps : List Bs) : toks p ([[40]] ++ ps ++ [[41]]) = (p, [40]) :: (toks (p + 1) ps ++ [(p + 1 + ps.flatten.length, [41])]) := by
  rw [List.append_assoc, List.singleton_append, toks_one _ _ _ (by decide), toks_append, toks_one _ _ _ (by decide)]
  rfl

theorem rank_pos (e : Ex) : 1 ≤ rank e ∧ rank e ≤ 7 := by
  cases e <;> simp only [rank] <;> (repeat' split) <;> omega

/-- Whole, where nothing goes on. -/
theorem Der.whole {vs : List Bs} {na : Int} {e : Ex} (h : Der vs na e) (p : Nat) (rest : List Tk) (hs : Stop 1 rest) : Pa vs na (.lv 1) (toks p (pieces vs e) ++ rest) (.ok (codeOf e) rest) := by
  have h1 := h.lv 1 p rest (.ok (codeOf e) rest) (by omega) (by omega) (hs.mono (by omega)) (lo_stop (by omega) hs)
  unfold wt at h1
  rwa [wrap_no _ _ _ (rank_pos e).1] at h1

/-- Of what stands for itself, or has its sign ahead. -/
theorem Der.of_one {vs : List Bs} {na : Int} {e : Ex} (hr : 6 ≤ rank e) (h : ∀ p rest, Pa vs na .on (toks p (pieces vs e) ++ rest) (.ok (codeOf e) rest)) : Der vs na e := by
  have hf : ∀ k, flag e k = false := fun k => decide_eq_false (by omega)
  refine ⟨fun k p rest x h1 h2 hs hx => ?_, fun p rest => ?_⟩
  · unfold wt
    rw [wrap_no _ _ _ (by omega)]
    rw [hf] at hx
    exact from_one (fun p => toks p (pieces vs e)) (codeOf e) h k h1 h2 p rest x hs hx
  · unfold wt
    rw [wrap_no _ _ _ hr]
    exact h p rest

/-- Of what is made at a level of its own. -/
theorem Der.of_level {vs : List Bs} {na : Int} {e : Ex} (r : Nat) (hr : rank e = r) (hr5 : r ≤ 5)
    (h : ∀ p rest x, Stop (r + 1) rest → Pa vs na (.lo r (flag e r) (codeOf e)) rest x → Pa vs na (.lv r) (toks p (pieces vs e) ++ rest) x) : Der vs na e := by
  have hr1 := (rank_pos e).1
  have base : ∀ p rest, Stop r rest → Pa vs na (.lv r) (toks p (pieces vs e) ++ rest) (.ok (codeOf e) rest) := fun p rest hs => h p rest _ (hs.mono (by omega)) (lo_stop hr5 hs)
  have low : ∀ k p rest x, 1 ≤ k → k < r → Stop (k + 1) rest → Pa vs na (.lo k false (codeOf e)) rest x → Pa vs na (.lv k) (toks p (pieces vs e) ++ rest) x :=
    fun k p rest x h1 h2 hs hx => down (fun p => toks p (pieces vs e)) (codeOf e) r (by omega) base (r - 1 - k) k h1 (by omega) p rest x hs hx
  have whole : ∀ p rest, Stop 1 rest → Pa vs na (.lv 1) (toks p (pieces vs e) ++ rest) (.ok (codeOf e) rest) := by
    intro p rest hs
    rcases Nat.eq_or_lt_of_le (show 1 ≤ r by omega) with h1 | h1
    · subst h1; exact base p rest hs
    · exact low 1 p rest _ (by omega) h1 (hs.mono (by omega)) (lo_stop (by omega) hs)
  have par : ∀ p rest, Pa vs na .on (toks p ([[40]] ++ pieces vs e ++ [[41]]) ++ rest) (.ok (codeOf e) rest) := by
    intro p rest
    rw [toks_par, List.cons_append, List.append_assoc]
    exact in_par (fun p => toks p (pieces vs e)) (codeOf e) whole p (p + 1) _ rest
  have hf : ∀ k, k ≠ r → flag e k = false := fun k hk => decide_eq_false (by omega)
  refine ⟨fun k p rest x h1 h2 hs hx => ?_, fun p rest => ?_⟩
  · unfold wt
    rcases Nat.lt_trichotomy k r with hk | hk | hk
    · rw [wrap_no _ _ _ (by omega)]
      rw [hf k (by omega)] at hx
      exact low k p rest x h1 hk hs hx
    · subst hk
      rw [wrap_no _ _ _ (by omega)]
      exact h p rest x hs hx
    · rw [wrap_yes _ _ _ (by omega)]
      rw [hf k (by omega)] at hx
      exact from_one (fun p => toks p ([[40]] ++ pieces vs e ++ [[41]])) (codeOf e) par k h1 h2 p rest x hs hx
  · unfold wt
    rw [wrap_yes _ _ _ (by omega)]
    exact par p rest
end Go.Proofs.YtfooiggedgcjcaaGreatDoor.I

namespace Go.Proofs.YtfooiggedgcjcaaGreatDoor.I
open Go Go.Proofs.YtfooiggedgcjcaaGreatDoor.E
set_option linter.unusedVariables false

theorem toks_bin (p : Nat) (A : List Bs) (w : Bs) (B : List Bs) (h : w ≠ [32]) : toks p (A ++ [[32], w, [32]] ++ B) = toks p A ++ (p + A.flatten.length + 1, w) :: toks (p + A.flatten.length + 1 + w.length + 1) B := by
  rw [List.append_assoc, toks_append]
  simp only [List.cons_append, List.nil_append]
  rw [toks_blank, toks_one _ _ _ h, toks_blank]

theorem bin_ops (o : Int) (h : takes o = 2) : (o = 9 ∨ o = 10) ∨ (o = 6 ∨ o = 7 ∨ o = 8 ∨ o = 11 ∨ o = 12 ∨ o = 13 ∨ o = 14 ∨ o = 15) := by
  have := takes_is o
  omega

theorem sign_at (o : Int) (a b : Ex) (h : o = 6 ∨ o = 7 ∨ o = 8 ∨ o = 11 ∨ o = 12 ∨ o = 13 ∨ o = 14 ∨ o = 15) :
    1 ≤ rank (.bin o a b) ∧ rank (.bin o a b) ≤ 5 ∧ opAt (rank (.bin o a b)) (sign o) = some o ∧ (∀ j, j ≠ rank (.bin o a b) → opAt j (sign o) = none) ∧ sign o ≠ [32] := by
  have key : ∀ (r : Nat) (s : Bs), rank (.bin o a b) = r → sign o = s → 1 ≤ r → r ≤ 5 → opAt r s = some o → (∀ j, j ≤ 5 → j ≠ r → opAt j s = none) → s ≠ [32] →
      1 ≤ rank (.bin o a b) ∧ rank (.bin o a b) ≤ 5 ∧ opAt (rank (.bin o a b)) (sign o) = some o ∧ (∀ j, j ≠ rank (.bin o a b) → opAt j (sign o) = none) ∧ sign o ≠ [32] := by
    intro r s h1 h2 h3 h4 h5 h6 h7
    rw [h1, h2]
    refine ⟨h3, h4, h5, fun j hj => ?_, h7⟩
    by_cases hj5 : j ≤ 5
    · exact h6 j hj5 hj
    · unfold opAt
      rw [if_neg (by omega), if_neg (by omega), if_neg (by omega), if_neg (by omega), if_neg (by omega)]
  have none_of : ∀ (r : Nat) (s : Bs), (opAt 0 s = none ∨ r = 0) → (opAt 1 s = none ∨ r = 1) → (opAt 2 s = none ∨ r = 2) → (opAt 3 s = none ∨ r = 3) → (opAt 4 s = none ∨ r = 4) → (opAt 5 s = none ∨ r = 5) → ∀ j, j ≤ 5 → j ≠ r → opAt j s = none := by
    intro r s h0 h1 h2 h3 h4 h5 j hj hne
    match j, hj with
    | 0, _ => exact h0.resolve_right (fun e => hne e.symm)
    | 1, _ => exact h1.resolve_right (fun e => hne e.symm)
    | 2, _ => exact h2.resolve_right (fun e => hne e.symm)
    | 3, _ => exact h3.resolve_right (fun e => hne e.symm)
    | 4, _ => exact h4.resolve_right (fun e => hne e.symm)
    | 5, _ => exact h5.resolve_right (fun e => hne e.symm)
    | j + 6, h => omega
  rcases h with rfl | rfl | rfl | rfl | rfl | rfl | rfl | rfl
  · exact key 4 [43] rfl rfl (by decide) (by decide) rfl (none_of 4 [43] (by decide) (by decide) (by decide) (by decide) (by decide) (by decide)) (by decide)
  · exact key 4 [45] rfl rfl (by decide) (by decide) rfl (none_of 4 [45] (by decide) (by decide) (by decide) (by decide) (by decide) (by decide)) (by decide)
  · exact key 5 [42] rfl rfl (by decide) (by decide) rfl (none_of 5 [42] (by decide) (by decide) (by decide) (by decide) (by decide) (by decide)) (by decide)
  · exact key 3 [60] rfl rfl (by decide) (by decide) rfl (none_of 3 [60] (by decide) (by decide) (by decide) (by decide) (by decide) (by decide)) (by decide)
  · exact key 3 [60, 61] rfl rfl (by decide) (by decide) rfl (none_of 3 [60, 61] (by decide) (by decide) (by decide) (by decide) (by decide) (by decide)) (by decide)
  · exact key 3 [61] rfl rfl (by decide) (by decide) rfl (none_of 3 [61] (by decide) (by decide) (by decide) (by decide) (by decide) (by decide)) (by decide)
  · exact key 2 [38] rfl rfl (by decide) (by decide) rfl (none_of 2 [38] (by decide) (by decide) (by decide) (by decide) (by decide) (by decide)) (by decide)
  · exact key 1 [124] rfl rfl (by decide) (by decide) rfl (none_of 1 [124] (by decide) (by decide) (by decide) (by decide) (by decide) (by decide)) (by decide)

theorem name_first (s : Bs) (hs : isName s = true) : ∃ c r, s = c :: r ∧ letter c = true := by
  match s, hs with
  | c :: r, hs =>
    simp only [isName, Bool.and_eq_true] at hs
    exact ⟨c, r, rfl, hs.1.1.1.1.2⟩

theorem name_blank (s : Bs) (hs : isName s = true) : s ≠ [32] := name_not s 32 [] hs (by decide)
theorem dig_blank (n : Nat) : dig n ≠ [32] := dig_not n 32 [] (by decide)

/-- The first word of an operand is no number, but of a constant from 0 on. -/
theorem not_near (vs : List Bs) (na : Int) (e : Ex) (ht : There vs na e) (hc : plainCon e = false) (p : Nat) (rest : List Tk) : ¬ near p (wt vs e 6 (p + 1) ++ rest) := by
  have no : ∀ (c : UInt8) (s : Bs) (r : List Tk), digit c = false → ¬ near p ((p + 1, c :: s) :: r) := by
    rintro c s r hd ⟨c', s', r', h, hd'⟩
    cases h
    rw [hd] at hd'; cases hd'
  unfold wt
  by_cases hr : rank e < 6
  · rw [wrap_yes _ _ _ hr, toks_par]
    exact no 40 [] _ (by decide)
  · rw [wrap_no _ _ _ (by omega)]
    cases e with
    | con n =>
      have hn : n < 0 := by
        rcases Int.lt_or_le n 0 with h | h
        · exact h
        · exfalso
          have : plainCon (.con n) = true := decide_eq_true h
          rw [hc] at this; cases this
      unfold pieces
      rw [if_pos hn, toks_one _ _ _ (by decide)]
      exact no 45 [] _ (by decide)
    | var k =>
      obtain ⟨s, hs, hn⟩ := ht
      have hg : vs.getD k [] = s := by rw [List.getD_eq_getElem?_getD, hs]; rfl
      obtain ⟨c, r, hcr, hl⟩ := name_first s hn
      unfold pieces
      rw [hg, toks_one _ _ _ (name_blank s hn), hcr]
      refine no c r _ ?_
      cases hd : digit c with
      | false => rfl
      | true => rw [not_letter hd] at hl; cases hl
    | arg k =>
      unfold pieces
      rw [toks_one _ _ _ (by simp [dig_ne])]
      exact no 36 _ _ (by decide)
    | un o a =>
      unfold pieces
      split
      · split
        · simp only [List.cons_append, List.nil_append]
          rw [toks_one _ _ _ (by decide)]
          exact no 45 [] _ (by decide)
        · simp only [List.cons_append, List.nil_append]
          rw [toks_one _ _ _ (by decide)]
          exact no 45 [] _ (by decide)
      · simp only [List.cons_append, List.nil_append]
        rw [toks_one _ _ _ (by decide)]
        exact no 33 [] _ (by decide)
    | bin o a b =>
      rcases bin_ops o ht.1 with ho | ho
      · unfold pieces
        rw [if_pos ho]
        simp only [List.cons_append, List.nil_append]
        rcases ho with rfl | rfl
        · rw [if_pos rfl, toks_one _ _ _ (by decide)]
          exact no 109 _ _ (by decide)
        · rw [if_neg (by decide), toks_one _ _ _ (by decide)]
          exact no 109 _ _ (by decide)
      · exfalso
        have := (sign_at o a b ho).2.1
        omega
    | ite a b c =>
      unfold pieces
      simp only [List.cons_append, List.nil_append]
      rw [toks_one _ _ _ (by decide)]
      exact no 105 _ _ (by decide)

/-- Every expression's words are derived to it. -/
theorem der (vs : List Bs) (na : Int) (ha : Apart vs) (e : Ex) (ht : There vs na e) : Der vs na e := by
  induction e with
  | con n =>
    have hv := (isVal_iff n).1 ht
    by_cases hn : n < 0
    · refine Der.of_one (by simp [rank, hn]) (fun p rest => ?_)
      unfold pieces
      rw [if_pos hn, toks_one _ _ _ (by decide), toks_one _ _ _ (dig_blank _)]
      have h := Pa.num (vs := vs) (na := na) p n.natAbs rest (by omega)
      rw [show -((n.natAbs : Nat) : Int) = n by omega] at h
      exact h
    · refine Der.of_one (by simp [rank, hn]) (fun p rest => ?_)
      unfold pieces
      rw [if_neg hn, toks_one _ _ _ (dig_blank _)]
      have h := Pa.aNum (vs := vs) (na := na) p n.natAbs rest (by omega)
      rw [show ((n.natAbs : Nat) : Int) = n by omega] at h
      exact Pa.atm _ _ (dig_not _ _ _ (by decide)) (dig_not _ _ _ (by decide)) h
  | var k =>
    obtain ⟨s, hs, hn⟩ := ht
    have hg : vs.getD k [] = s := by rw [List.getD_eq_getElem?_getD, hs]; rfl
    refine Der.of_one (by simp [rank]) (fun p rest => ?_)
    unfold pieces
    rw [hg, toks_one _ _ _ (name_blank s hn)]
    exact Pa.atm _ _ (name_not s _ _ hn (by decide)) (name_not s _ _ hn (by decide)) (Pa.aVar p k s rest hs hn (fun j hj he => by have := ha j k s he hs; omega))
  | arg k =>
    refine Der.of_one (by simp [rank]) (fun p rest => ?_)
    unfold pieces
    rw [toks_one _ _ _ (by simp [dig_ne])]
    exact Pa.atm _ _ (by simp [headB]) (by simp [headB]) (Pa.aArg p k rest ht.1 ht.2)
  | un o a ih =>
    have ih := ih ht.2
    refine Der.of_one (by simp [rank]) (fun p rest => ?_)
    unfold pieces
    rcases ht.1 with rfl | rfl
    · rw [if_pos rfl]
      by_cases hc : plainCon a = true
      · rw [if_pos hc]
        have he : [[45], [40]] ++ pieces vs a ++ [[41]] = [45] :: ([[40]] ++ pieces vs a ++ [[41]]) := by simp
        rw [he, toks_one _ _ _ (by decide), toks_par, List.cons_append, List.cons_append, List.append_assoc]
        refine Pa.neg p _ (codeOf a) rest ?_ ?_
        · rintro ⟨c, s, r, h, hd⟩
          cases h
          revert hd; decide
        · exact in_par (fun p => toks p (pieces vs a)) (codeOf a) (fun p rest hs => ih.whole p rest hs) _ _ _ rest
      · rw [if_neg hc]
        simp only [List.cons_append, List.nil_append]
        rw [toks_one _ _ _ (by decide)]
        exact Pa.neg p _ (codeOf a) rest (not_near vs na a ht.2 (by simpa using hc) p rest) (ih.on (p + 1) rest)
    · rw [if_neg (by decide)]
      simp only [List.cons_append, List.nil_append]
      rw [toks_one _ _ _ (by decide)]
      exact Pa.non p _ (codeOf a) rest (ih.on (p + 1) rest)
  | ite a b c iha ihb ihc =>
    have iha := iha ht.1
    have ihb := ihb ht.2.1
    have ihc := ihc ht.2.2
    refine Der.of_one (by simp [rank]) (fun p rest => ?_)
    unfold pieces
    have he : [wif, [40]] ++ pieces vs a ++ [[44], [32]] ++ pieces vs b ++ [[44], [32]] ++ pieces vs c ++ [[41]] = wif :: [40] :: (pieces vs a ++ ([44] :: [32] :: (pieces vs b ++ ([44] :: [32] :: (pieces vs c ++ [[41]]))))) := by simp
    rw [he, toks_one _ _ _ (by decide), toks_one _ _ _ (by decide), toks_append, toks_one _ _ _ (by decide), toks_blank, toks_append, toks_one _ _ _ (by decide), toks_blank, toks_append, toks_one _ _ _ (by decide)]
    simp only [List.cons_append, List.append_assoc]
    refine Pa.atm _ _ (by show wif ≠ _; decide) (by show wif ≠ _; decide) ?_
    exact Pa.aIf _ _ _ (codeOf a) _ _ (codeOf b) _ _ (codeOf c) _ rest (iha.whole _ _ (stop_of _ _ _ _ (by decide))) (ihb.whole _ _ (stop_of _ _ _ _ (by decide))) (ihc.whole _ _ (stop_of _ _ _ _ (by decide)))
  | bin o a b iha ihb =>
    have iha := iha ht.2.1
    have ihb := ihb ht.2.2
    rcases bin_ops o ht.1 with ho | ho
    · refine Der.of_one (by rcases ho with rfl | rfl <;> simp [rank]) (fun p rest => ?_)
      unfold pieces
      rw [if_pos ho]
      have he : [if o = 9 then wmin else wmax, [40]] ++ pieces vs a ++ [[44], [32]] ++ pieces vs b ++ [[41]] = (if o = 9 then wmin else wmax) :: [40] :: (pieces vs a ++ ([44] :: [32] :: (pieces vs b ++ [[41]]))) := by simp
      have hw : (if o = 9 then wmin else wmax) ≠ [32] ∧ (if o = 9 then wmin else wmax) ≠ [45] ∧ (if o = 9 then wmin else wmax) ≠ [33] := by
        split <;> decide
      rw [he, toks_one _ _ _ hw.1, toks_one _ _ _ (by decide), toks_append, toks_one _ _ _ (by decide), toks_blank, toks_append, toks_one _ _ _ (by decide)]
      simp only [List.cons_append, List.append_assoc]
      refine Pa.atm _ _ hw.2.1 hw.2.2 ?_
      exact Pa.aTwo o _ _ _ (codeOf a) _ _ (codeOf b) _ rest ho (iha.whole _ _ (stop_of _ _ _ _ (by decide))) (ihb.whole _ _ (stop_of _ _ _ _ (by decide)))
    · obtain ⟨h1, h5, hop, hno, hbl⟩ := sign_at o a b ho
      obtain ⟨r, hr⟩ : ∃ r, rank (.bin o a b) = r := ⟨_, rfl⟩
      refine Der.of_level r hr (by omega) (fun p rest x hs hx => ?_)
      rw [hr] at h1 h5 hop hno
      unfold pieces
      rw [if_neg (by omega), hr, toks_bin _ _ _ _ hbl, List.append_assoc, List.cons_append]
      have hstop : ∀ k q R, r < k → Stop k ((q, sign o) :: R) := fun k q R hk j hj _ => hno j (by omega)
      have hb : ∀ q, Pa vs na (.lv (r + 1)) (wt vs b (r + 1) q ++ rest) (.ok (codeOf b) rest) := by
        intro q
        rcases Nat.lt_or_ge r 5 with h | h
        · exact ihb.lv (r + 1) q rest _ (by omega) (by omega) (hs.mono (by omega)) (lo_stop (by omega) hs)
        · obtain rfl : r = 5 := by omega
          exact Pa.six _ _ (ihb.on q rest)
      by_cases h3 : r = 3
      · subst h3
        rw [if_pos rfl]
        have hfl : flag (.bin o a b) 3 = true := decide_eq_true ⟨rfl, hr⟩
        rw [hfl] at hx
        refine Pa.lvGo 3 _ (codeOf a) _ x (by decide) (by decide) (iha.lv 4 p _ _ (by decide) (by decide) (hstop 5 _ _ (by decide)) (lo_stop (by decide) (hstop 4 _ _ (by decide)))) ?_
        exact Pa.loGo 3 false (codeOf a) _ (sign o) o _ (codeOf b) rest x hop (by simp) (hb _) hx
      · rw [if_neg h3]
        have hfl : flag (.bin o a b) r = false := decide_eq_false (by omega)
        have hfa : flag a r = false := decide_eq_false (by omega)
        rw [hfl] at hx
        refine iha.lv r p _ x h1 h5 (hstop _ _ _ (by omega)) ?_
        rw [hfa]
        refine Pa.loGo r false (codeOf a) _ (sign o) o _ (codeOf b) rest x hop (by simp) (hb _) ?_
        rw [decide_eq_false h3]
        exact hx

/-- A sum's sign, and nothing behind it. -/
theorem plus_err (vs : List Bs) (na : Int) (ha : Apart vs) (q z : Nat) (e : Ex) (ht : There vs na e) : ∀ k, 1 ≤ k → k ≤ 4 → ∀ p, Pa vs na (.lv k) (wt vs e k p ++ [(q, [43]), (z, [])]) (.err z 6) := by
  have hend : Pa vs na (.lv 5) [(z, [])] (.err z 6) :=
    Pa.lvErr 5 _ z 6 (by decide) (by decide) (Pa.six _ _ (Pa.atm _ _ (by show ([] : Bs) ≠ _; decide) (by show ([] : Bs) ≠ _; decide) (Pa.aEnd z)))
  have s5 : Stop 5 [(q, [43]), (z, ([] : Bs))] := fun j h1 h2 => by
    obtain rfl : j = 5 := by omega
    rfl
  have at4 : ∀ (e : Ex), There vs na e → ∀ p, Pa vs na (.lv 4) (wt vs e 4 p ++ [(q, [43]), (z, [])]) (.err z 6) := by
    intro e ht p
    refine (der vs na ha e ht).lv 4 p _ _ (by decide) (by decide) s5 ?_
    exact Pa.loErr 4 _ _ q [43] 6 _ z 6 rfl (by simp) hend
  have six : ∀ (e : Ex), There vs na e → 5 < rank e → ∀ k, 1 ≤ k → k ≤ 4 → ∀ p, Pa vs na (.lv k) (wt vs e k p ++ [(q, [43]), (z, [])]) (.err z 6) := by
    intro e ht hr k h1 h2 p
    have he : ∀ k, k ≤ 5 → wt vs e k p = toks p (pieces vs e) := fun k hk => by unfold wt; rw [wrap_no _ _ _ (by omega)]
    have h4 := at4 e ht p
    rw [he 4 (by decide)] at h4
    rw [he k (by omega)]
    have h3 := Pa.lvErr 3 _ z 6 (by decide) (by decide) h4
    have h2' := Pa.lvErr 2 _ z 6 (by decide) (by decide) h3
    have h1' := Pa.lvErr 1 _ z 6 (by decide) (by decide) h2'
    rcases (show k = 1 ∨ k = 2 ∨ k = 3 ∨ k = 4 by omega) with rfl | rfl | rfl | rfl
    · exact h1'
    · exact h2'
    · exact h3
    · exact h4
  induction e with
  | con n => exact six _ ht (by simp only [rank]; split <;> omega)
  | var k => exact six _ ht (by simp [rank])
  | arg k => exact six _ ht (by simp [rank])
  | un o a _ => exact six _ ht (by simp [rank])
  | ite a b c _ _ _ => exact six _ ht (by simp [rank])
  | bin o a b iha ihb =>
    have hup : ∀ k, 1 ≤ k → k ≤ 3 → k ≠ rank (.bin o a b) → (∀ p, Pa vs na (.lv (k + 1)) (wt vs (.bin o a b) (k + 1) p ++ [(q, [43]), (z, [])]) (.err z 6)) → ∀ p, Pa vs na (.lv k) (wt vs (.bin o a b) k p ++ [(q, [43]), (z, [])]) (.err z 6) := by
      intro k h1 h2 h3 h4 p
      have he : wt vs (.bin o a b) k p = wt vs (.bin o a b) (k + 1) p := by
        unfold wt
        rcases Nat.lt_or_ge (rank (.bin o a b)) k with h | h
        · rw [wrap_yes _ _ _ h, wrap_yes _ _ _ (by omega)]
        · rw [wrap_no _ _ _ h, wrap_no _ _ _ (by omega)]
      rw [he]
      exact Pa.lvErr k _ z 6 h1 (by omega) (h4 p)
    have hown : ∀ k, 1 ≤ k → k ≤ 3 → k = rank (.bin o a b) → ∀ p, Pa vs na (.lv k) (wt vs (.bin o a b) k p ++ [(q, [43]), (z, [])]) (.err z 6) := by
      intro k h1 h2 h3 p
      have ho : o = 6 ∨ o = 7 ∨ o = 8 ∨ o = 11 ∨ o = 12 ∨ o = 13 ∨ o = 14 ∨ o = 15 := by
        rcases bin_ops o ht.1 with (rfl | rfl) | ho
        · have : rank (.bin 9 a b) = 7 := rfl
          omega
        · have : rank (.bin 10 a b) = 7 := rfl
          omega
        · exact ho
      obtain ⟨_, _, hop, hno, hbl⟩ := sign_at o a b ho
      rw [← h3] at hop hno
      have hd := der vs na ha a ht.2.1
      have hstop : ∀ m q R, k < m → Stop m ((q, sign o) :: R) := fun m q R hk j hj _ => hno j (by omega)
      unfold wt
      rw [wrap_no _ _ _ (by omega)]
      unfold pieces
      rw [if_neg (by omega), ← h3, toks_bin _ _ _ _ hbl, List.append_assoc, List.cons_append]
      have hb := fun p => ihb ht.2.2 (k + 1) (by omega) (by omega) p
      by_cases hk3 : k = 3
      · rw [if_pos hk3]
        subst hk3
        refine Pa.lvGo 3 _ (codeOf a) _ _ (by decide) (by decide) (hd.lv 4 p _ _ (by decide) (by decide) (hstop 5 _ _ (by decide)) (lo_stop (by decide) (hstop 4 _ _ (by decide)))) ?_
        exact Pa.loErr 3 false (codeOf a) _ (sign o) o _ z 6 hop (by simp) (hb _)
      · rw [if_neg hk3]
        have hfa : flag a k = false := decide_eq_false (by omega)
        refine hd.lv k p _ _ h1 (by omega) (hstop _ _ _ (by omega)) ?_
        rw [hfa]
        exact Pa.loErr k false (codeOf a) _ (sign o) o _ z 6 hop (by simp) (hb _)
    have h4 := at4 _ ht
    have step : ∀ k, 1 ≤ k → k ≤ 3 → (∀ p, Pa vs na (.lv (k + 1)) (wt vs (.bin o a b) (k + 1) p ++ [(q, [43]), (z, [])]) (.err z 6)) → ∀ p, Pa vs na (.lv k) (wt vs (.bin o a b) k p ++ [(q, [43]), (z, [])]) (.err z 6) := by
      intro k h1 h2 h
      by_cases hk : k = rank (.bin o a b)
      · exact hown k h1 h2 hk
      · exact hup k h1 h2 hk h
    have h3 := step 3 (by decide) (by decide) h4
    have h2 := step 2 (by decide) (by decide) h3
    have h1 := step 1 (by decide) (by decide) h2
    intro k hk1 hk2 p
    rcases (show k = 1 ∨ k = 2 ∨ k = 3 ∨ k = 4 by omega) with rfl | rfl | rfl | rfl
    · exact h1 p
    · exact h2 p
    · exact h3 p
    · exact h4 p

/-- The words of a shown text, whole. -/
theorem back (vs : List Bs) (na : Int) (ha : Apart vs) (e : Ex) (ht : There vs na e) (rest : List Tk) (hs : Stop 1 rest) : Pa vs na (.lv 1) (toks 0 (pieces vs e) ++ rest) (.ok (codeOf e) rest) :=
  (der vs na ha e ht).whole 0 rest hs

theorem back_plus (vs : List Bs) (na : Int) (ha : Apart vs) (e : Ex) (ht : There vs na e) (q z : Nat) : Pa vs na (.lv 1) (toks 0 (pieces vs e) ++ [(q, [43]), (z, [])]) (.err z 6) := by
  have h := plus_err vs na ha q z e ht 1 (by decide) (by decide) 0
  unfold wt at h
  rwa [wrap_no _ _ _ (rank_pos e).1] at h

/-! ## How long a text is -/

theorem dig_length (n : Nat) (h : n ≤ 1099511627776) : (dig n).length ≤ 13 := by
  have key : ∀ d n, n < 10 ^ (d + 1) → (dig n).length ≤ d + 1 := by
    intro d
    induction d with
    | zero => intro n hn; unfold dig; rw [dif_pos (by omega)]; simp
    | succ d ih =>
      intro n hn
      unfold dig
      split
      · simp
      · rw [List.length_append]
        have := ih (n / 10) (by rw [Nat.div_lt_iff_lt_mul (by decide)]; rw [Nat.pow_succ] at hn; omega)
        simp only [List.length_cons, List.length_nil]; omega
  exact key 12 n (by omega)

theorem name_length (s : Bs) (hs : isName s = true) : s.length ≤ 24 := by
  match s, hs with
  | c :: r, hs =>
    simp only [isName, Bool.and_eq_true, decide_eq_true_eq] at hs
    have := hs.1.1.1.1.1
    simp only [List.length_cons]; omega

theorem wrap_length (r least : Nat) (p : List Bs) : (wrap r least p).flatten.length ≤ p.flatten.length + 2 := by
  unfold wrap
  split
  · simp
  · omega

theorem sign_length (o : Int) : (sign o).length ≤ 2 := by
  unfold sign; repeat' split
  all_goals decide

theorem text_length (vs : List Bs) (na : Int) (e : Ex) (ht : There vs na e) : (pieces vs e).flatten.length + 2 ≤ 36 * (codeOf e).length := by
  induction e with
  | con n =>
    have hv := (isVal_iff n).1 ht
    have := dig_length n.natAbs (by omega)
    unfold pieces codeOf
    split <;> simp <;> omega
  | var k =>
    obtain ⟨s, hs, hn⟩ := ht
    have hg : vs.getD k [] = s := by rw [List.getD_eq_getElem?_getD, hs]; rfl
    have := name_length s hn
    unfold pieces codeOf
    rw [hg]
    simp; omega
  | arg k =>
    have hd : dig k = [UInt8.ofNat (48 + k)] := by unfold dig; rw [dif_pos ht.2]
    unfold pieces codeOf
    rw [hd]
    simp
  | un o a ih =>
    have ih := ih ht.2
    have hw := wrap_length (rank a) 6 (pieces vs a)
    unfold pieces codeOf
    split
    · split
      · simp; simp at ih; omega
      · simp only [List.flatten_append, List.length_append]
        simp; simp at ih hw; omega
    · simp only [List.flatten_append, List.length_append]
      simp; simp at ih hw; omega
  | ite a b c iha ihb ihc =>
    have iha := iha ht.1
    have ihb := ihb ht.2.1
    have ihc := ihc ht.2.2
    unfold pieces codeOf
    simp [wif]; simp at iha ihb ihc; omega
  | bin o a b iha ihb =>
    have iha := iha ht.2.1
    have ihb := ihb ht.2.2
    have hs := sign_length o
    unfold pieces codeOf
    split
    · have hw : (if o = 9 then wmin else wmax).length = 3 := by split <;> rfl
      simp only [List.flatten_append, List.flatten_cons, List.flatten_nil, List.length_append, hw, List.length_cons, List.length_nil]
      omega
    · have h1 := wrap_length (rank a) (if rank (.bin o a b) = 3 then 4 else rank (.bin o a b)) (pieces vs a)
      have h2 := wrap_length (rank b) (rank (.bin o a b) + 1) (pieces vs b)
      simp only [List.flatten_append, List.flatten_cons, List.flatten_nil, List.length_append, List.length_cons, List.length_nil]
      omega
end Go.Proofs.YtfooiggedgcjcaaGreatDoor.I
