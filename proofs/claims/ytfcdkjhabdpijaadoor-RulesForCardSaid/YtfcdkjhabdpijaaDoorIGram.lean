/-
  Plain mathematics of layer 4: the grammar as derivations; the words of a shown text are derived back.
-/
import Derived.Test.YtfcdkjhabdpijaaDoorIGood
namespace Go.Proofs.YtfcdkjhabdpijaaDoor.I
open Go Go.Proofs.YtfcdkjhabdpijaaDoor.E
set_option linter.unusedVariables false

/-- What is read: a level's operands (6: one), what follows an operand, one, an atom. -/
inductive Kd where
  | lv (k : Nat) | lo (k : Nat) (many : Bool) (c : List In) | on | atom

/-- What was read: instructions, and the words behind; or a place and an error. -/
inductive Rs where
  | ok (c : List In) (r : List Tk) | err (p : Nat) (e : Int)

/-- The instruction that a sign of a level is. -/
def opAt (k : Nat) (s : Bs) : Option Int :=
  if k = 1 then (if s = [124] then some 15 else none) else if k = 2 then (if s = [38] then some 14 else none)
  else if k = 3 then (if s = [60] then some 11 else if s = [60, 61] then some 12 else if s = [61] then some 13 else none)
  else if k = 4 then (if s = [43] then some 6 else if s = [45] then some 7 else none) else if k = 5 then (if s = [42] then some 8 else none) else none

def headB (l : List Tk) : Bs := match l with | (_, s) :: _ => s | [] => []

/-- A number, right behind. -/
def near (p : Nat) (r : List Tk) : Prop := ∃ c s r', r = (p + 1, c :: s) :: r' ∧ digit c = true

/-- The grammar, as far as shown texts, and one sign behind them, go. -/
inductive Pa (vs : List Bs) (na : Int) : Kd → List Tk → Rs → Prop
  | six (l : List Tk) (x : Rs) : Pa vs na .on l x → Pa vs na (.lv 6) l x
  | lvErr (k : Nat) (l : List Tk) (p : Nat) (e : Int) : 1 ≤ k → k ≤ 5 → Pa vs na (.lv (k + 1)) l (.err p e) → Pa vs na (.lv k) l (.err p e)
  | lvGo (k : Nat) (l : List Tk) (c : List In) (r : List Tk) (x : Rs) : 1 ≤ k → k ≤ 5 → Pa vs na (.lv (k + 1)) l (.ok c r) → Pa vs na (.lo k false c) r x → Pa vs na (.lv k) l x
  | loStop (k : Nat) (m : Bool) (c : List In) (r : List Tk) : (opAt k (headB r) = none ∨ (k = 3 ∧ m = true)) → Pa vs na (.lo k m c) r (.ok c r)
  | loErr (k : Nat) (m : Bool) (c : List In) (q : Nat) (s : Bs) (o : Int) (r : List Tk) (p : Nat) (e : Int) : opAt k s = some o → ¬ (k = 3 ∧ m = true) → Pa vs na (.lv (k + 1)) r (.err p e) → Pa vs na (.lo k m c) ((q, s) :: r) (.err p e)
  | loGo (k : Nat) (m : Bool) (c : List In) (q : Nat) (s : Bs) (o : Int) (r : List Tk) (d : List In) (t : List Tk) (x : Rs) : opAt k s = some o → ¬ (k = 3 ∧ m = true) → Pa vs na (.lv (k + 1)) r (.ok d t) → Pa vs na (.lo k (decide (k = 3)) (c ++ d ++ [(o, 0)])) t x → Pa vs na (.lo k m c) ((q, s) :: r) x
  | num (p v : Nat) (r : List Tk) : v ≤ 1099511627776 → Pa vs na .on ((p, [45]) :: (p + 1, dig v) :: r) (.ok [(1, -(v : Int))] r)
  | neg (p : Nat) (l : List Tk) (c : List In) (r : List Tk) : ¬ near p l → Pa vs na .on l (.ok c r) → Pa vs na .on ((p, [45]) :: l) (.ok (c ++ [(4, 0)]) r)
  | non (p : Nat) (l : List Tk) (c : List In) (r : List Tk) : Pa vs na .on l (.ok c r) → Pa vs na .on ((p, [33]) :: l) (.ok (c ++ [(5, 0)]) r)
  | atm (l : List Tk) (x : Rs) : headB l ≠ [45] → headB l ≠ [33] → Pa vs na .atom l x → Pa vs na .on l x
  | aEnd (p : Nat) : Pa vs na .atom [(p, [])] (.err p 6)
  | aNum (p v : Nat) (r : List Tk) : v ≤ 1099511627776 → Pa vs na .atom ((p, dig v) :: r) (.ok [(1, (v : Int))] r)
  | aVar (p k : Nat) (s : Bs) (r : List Tk) : vs[k]? = some s → isName s = true → (∀ j, j < k → vs[j]? ≠ some s) → Pa vs na .atom ((p, s) :: r) (.ok [(2, (k : Int))] r)
  | aArg (p k : Nat) (r : List Tk) : (k : Int) < na → k < 10 → Pa vs na .atom ((p, [36] ++ dig k) :: r) (.ok [(3, (k : Int))] r)
  | aPar (p : Nat) (l : List Tk) (c : List In) (q : Nat) (r : List Tk) : Pa vs na (.lv 1) l (.ok c ((q, [41]) :: r)) → Pa vs na .atom ((p, [40]) :: l) (.ok c r)
  | aTwo (o : Int) (p p' : Nat) (l : List Tk) (c1 : List In) (q : Nat) (r1 : List Tk) (c2 : List In) (q' : Nat) (r : List Tk) : (o = 9 ∨ o = 10) → Pa vs na (.lv 1) l (.ok c1 ((q, [44]) :: r1)) → Pa vs na (.lv 1) r1 (.ok c2 ((q', [41]) :: r)) →
      Pa vs na .atom ((p, if o = 9 then wmin else wmax) :: (p', [40]) :: l) (.ok (c1 ++ c2 ++ [(o, 0)]) r)
  | aIf (p p' : Nat) (l : List Tk) (c1 : List In) (q : Nat) (r1 : List Tk) (c2 : List In) (q' : Nat) (r2 : List Tk) (c3 : List In) (q'' : Nat) (r : List Tk) : Pa vs na (.lv 1) l (.ok c1 ((q, [44]) :: r1)) → Pa vs na (.lv 1) r1 (.ok c2 ((q', [44]) :: r2)) → Pa vs na (.lv 1) r2 (.ok c3 ((q'', [41]) :: r)) →
      Pa vs na .atom ((p, wif) :: (p', [40]) :: l) (.ok (c1 ++ c2 ++ c3 ++ [(16, 0)]) r)

/-- No sign of a level from k on. -/
def Stop (k : Nat) (r : List Tk) : Prop := ∀ j, k ≤ j → j ≤ 5 → opAt j (headB r) = none

theorem Stop.mono {k k' : Nat} {r : List Tk} (h : Stop k r) (hk : k ≤ k') : Stop k' r := fun j h1 h2 => h j (by omega) h2

theorem opAt_none (j : Nat) (s : Bs) (h : s ≠ [124] ∧ s ≠ [38] ∧ s ≠ [60] ∧ s ≠ [60, 61] ∧ s ≠ [61] ∧ s ≠ [43] ∧ s ≠ [45] ∧ s ≠ [42]) : opAt j s = none := by
  obtain ⟨h1, h2, h3, h4, h5, h6, h7, h8⟩ := h
  unfold opAt
  simp only [h1, h2, h3, h4, h5, h6, h7, h8, if_false]
  repeat' split
  all_goals rfl

theorem stop_of (k q : Nat) (s : Bs) (r : List Tk) (h : s ≠ [124] ∧ s ≠ [38] ∧ s ≠ [60] ∧ s ≠ [60, 61] ∧ s ≠ [61] ∧ s ≠ [43] ∧ s ≠ [45] ∧ s ≠ [42]) : Stop k ((q, s) :: r) := fun j _ _ => opAt_none j s h

section
variable {vs : List Bs} {na : Int}

theorem lo_stop {k : Nat} {m : Bool} {c : List In} {r : List Tk} (hk : k ≤ 5) (h : Stop k r) : Pa vs na (.lo k m c) r (.ok c r) := Pa.loStop k m c r (Or.inl (h k (Nat.le_refl _) hk))

/-- From a level on, down to any lower one. -/
theorem down (T : Nat → List Tk) (c : List In) (m : Nat) (hm : m ≤ 6) (base : ∀ p rest, Stop m rest → Pa vs na (.lv m) (T p ++ rest) (.ok c rest)) :
    ∀ d k, 1 ≤ k → k + 1 + d = m → ∀ p rest x, Stop (k + 1) rest → Pa vs na (.lo k false c) rest x → Pa vs na (.lv k) (T p ++ rest) x := by
  intro d
  induction d with
  | zero =>
    intro k hk he p rest x hs hx
    refine Pa.lvGo k _ c rest x hk (by omega) ?_ hx
    have := base p rest (by rw [← he]; exact hs)
    rw [show k + 1 = m by omega]
    exact this
  | succ d ih =>
    intro k hk he p rest x hs hx
    refine Pa.lvGo k _ c rest x hk (by omega) ?_ hx
    exact ih (k + 1) (by omega) (by omega) p rest _ (hs.mono (by omega)) (lo_stop (by omega) hs)

/-- What stands for itself, or has its sign ahead, at any level. -/
theorem from_one (T : Nat → List Tk) (c : List In) (h : ∀ p rest, Pa vs na .on (T p ++ rest) (.ok c rest)) (k : Nat) (h1 : 1 ≤ k) (h2 : k ≤ 5) (p : Nat) (rest : List Tk) (x : Rs) (hs : Stop (k + 1) rest) (hx : Pa vs na (.lo k false c) rest x) :
    Pa vs na (.lv k) (T p ++ rest) x :=
  down T c 6 (Nat.le_refl _) (fun p rest _ => Pa.six _ _ (h p rest)) (5 - k) k h1 (by omega) p rest x hs hx

/-- In brackets. -/
theorem in_par (T : Nat → List Tk) (c : List In) (h : ∀ p rest, Stop 1 rest → Pa vs na (.lv 1) (T p ++ rest) (.ok c rest)) (p p' q : Nat) (rest : List Tk) : Pa vs na .on ((p, [40]) :: (T p' ++ (q, [41]) :: rest)) (.ok c rest) := by
  refine Pa.atm _ _ (by show ([40] : Bs) ≠ [45]; decide) (by show ([40] : Bs) ≠ [33]; decide) ?_
  exact Pa.aPar p _ c q rest (h p' _ (stop_of _ _ _ _ (by decide)))
end

theorem toks_one (p : Nat) (w : Bs) (r : List Bs) (h : w ≠ [32]) : toks p (w :: r) = (p, w) :: toks (p + w.length) r := by
  conv => lhs; unfold toks
  rw [if_neg h]
theorem toks_blank (p : Nat) (r : List Bs) : toks p ([32] :: r) = toks (p + 1) r := by
  conv => lhs; unfold toks
  rw [if_pos rfl]

theorem dig_head (n : Nat) : ∃ c r, dig n = c :: r ∧ digit c = true := by
  obtain ⟨c, r, h⟩ := List.exists_cons_of_ne_nil (dig_ne n)
  exact ⟨c, r, h, dig_digits n c (by rw [h]; simp)⟩

theorem dig_not (n : Nat) (c : UInt8) (r : Bs) (hc : digit c = false) : dig n ≠ c :: r := by
  obtain ⟨d, r', h, hd⟩ := dig_head n
  intro e
  rw [h] at e
  cases e
  rw [hd] at hc; cases hc

theorem name_not (s : Bs) (c : UInt8) (r : Bs) (hs : isName s = true) (hc : letter c = false) : s ≠ c :: r := by
  rintro rfl
  simp only [isName, Bool.and_eq_true] at hs
  rw [hs.1.1.1.1.2] at hc
  cases hc

/-- Names that are told apart. -/
def Apart (vs : List Bs) : Prop := ∀ (i j : Nat) (s : Bs), vs[i]? = some s → vs[j]? = some s → i = j

/-- An expression whose names are there. -/
def There (vs : List Bs) (na : Int) : Ex → Prop
  | .con n => isVal n = true | .var k => ∃ s, vs[k]? = some s ∧ isName s = true | .arg k => (k : Int) < na ∧ k < 10
  | .un o a => (o = 4 ∨ o = 5) ∧ There vs na a | .bin o a b => takes o = 2 ∧ There vs na a ∧ There vs na b | .ite a b c => There vs na a ∧ There vs na b ∧ There vs na c

theorem there_of (vs : List Bs) (na : Int) (hna : na ≤ 10) (hv : ∀ s ∈ vs, isName s = true) (e : Ex) (hw : WF vs.length na e) : There vs na e := by
  induction e with
  | con n => exact hw
  | var k =>
    have hk : k < vs.length := by have h : (k : Int) < vs.length := hw; omega
    exact ⟨vs[k], List.getElem?_eq_getElem hk, hv _ (List.getElem_mem hk)⟩
  | arg k => have h : (k : Int) < na := hw; exact ⟨h, by omega⟩
  | un o a ih => exact ⟨hw.1, ih hw.2⟩
  | bin o a b iha ihb => exact ⟨hw.1, iha hw.2.1, ihb hw.2.2⟩
  | ite a b c iha ihb ihc => exact ⟨iha hw.1, ihb hw.2.1, ihc hw.2.2⟩

/-- The words of an expression at a level. -/
def wt (vs : List Bs) (e : Ex) (least p : Nat) : List Tk := toks p (wrap (rank e) least (pieces vs e))

/-- Has a level's one comparison been read? -/
def flag (e : Ex) (k : Nat) : Bool := decide (k = 3 ∧ rank e = 3)

/-- What is to be shown of each expression. -/
structure Der (vs : List Bs) (na : Int) (e : Ex) : Prop where
  lv : ∀ k p rest x, 1 ≤ k → k ≤ 5 → Stop (k + 1) rest → Pa vs na (.lo k (flag e k) (codeOf e)) rest x → Pa vs na (.lv k) (wt vs e k p ++ rest) x
  on : ∀ p rest, Pa vs na .on (wt vs e 6 p ++ rest) (.ok (codeOf e) rest)

theorem wrap_no (r least : Nat) (p : List Bs) (h : least ≤ r) : wrap r least p = p := by unfold wrap; rw [if_neg (by omega)]
theorem wrap_yes (r least : Nat) (p : List Bs) (h : r < least) : wrap r least p = [[40]] ++ p ++ [[41]] := by unfold wrap; rw [if_pos h]

theorem toks_par (p : Nat) (ps : List Bs) : toks p ([[40]] ++ ps ++ [[41]]) = (p, [40]) :: (toks (p + 1) ps ++ [(p + 1 + ps.flatten.length, [41])]) := by
  rw [List.append_assoc, List.singleton_append, toks_one _ _ _ (by decide), toks_append, toks_one _ _ _ (by decide)]
  rfl

theorem rank_pos (e : Ex) : 1 ≤ rank e ∧ rank e ≤ 7 := by
  cases e <;> simp only [rank] <;> (repeat' split) <;> omega

/-- Whole, where nothing goes on. -/
theorem Der.whole {vs : List Bs} {na : Int} {e : Ex} (h : Der vs na e) (p : Nat) (rest : List Tk) (hs : Stop 1 rest) : Pa vs na (.lv 1) (toks p (pieces vs e) ++ rest) (.ok (codeOf e) rest) := by
  have h1 := h.lv 1 p rest (.ok (codeOf e) rest) (by omega) (by omega) (hs.mono (by omega)) (lo_stop (by omega) hs)
  unfold wt at h1
  rwa [wrap_no _ _ _ (rank_pos e).1] at h1

/-- Of what stands for itself, or has its sign ahead. -/
theorem Der.of_one {vs : List Bs} {na : Int} {e : Ex} (hr : 6 ≤ rank e) (h : ∀ p rest, Pa vs na .on (toks p (pieces vs e) ++ rest) (.ok (codeOf e) rest)) : Der vs na e := by
  have hf : ∀ k, flag e k = false := fun k => decide_eq_false (by omega)
  refine ⟨fun k p rest x h1 h2 hs hx => ?_, fun p rest => ?_⟩
  · unfold wt
    rw [wrap_no _ _ _ (by omega)]
    rw [hf] at hx
    exact from_one (fun p => toks p (pieces vs e)) (codeOf e) h k h1 h2 p rest x hs hx
  · unfold wt
    rw [wrap_no _ _ _ hr]
    exact h p rest

/-- Of what is made at a level of its own. -/
theorem Der.of_level {vs : List Bs} {na : Int} {e : Ex} (r : Nat) (hr : rank e = r) (hr5 : r ≤ 5)
    (h : ∀ p rest x, Stop (r + 1) rest → Pa vs na (.lo r (flag e r) (codeOf e)) rest x → Pa vs na (.lv r) (toks p (pieces vs e) ++ rest) x) : Der vs na e := by
  have hr1 := (rank_pos e).1
  have base : ∀ p rest, Stop r rest → Pa vs na (.lv r) (toks p (pieces vs e) ++ rest) (.ok (codeOf e) rest) := fun p rest hs => h p rest _ (hs.mono (by omega)) (lo_stop hr5 hs)
  have low : ∀ k p rest x, 1 ≤ k → k < r → Stop (k + 1) rest → Pa vs na (.lo k false (codeOf e)) rest x → Pa vs na (.lv k) (toks p (pieces vs e) ++ rest) x :=
    fun k p rest x h1 h2 hs hx => down (fun p => toks p (pieces vs e)) (codeOf e) r (by omega) base (r - 1 - k) k h1 (by omega) p rest x hs hx
  have whole : ∀ p rest, Stop 1 rest → Pa vs na (.lv 1) (toks p (pieces vs e) ++ rest) (.ok (codeOf e) rest) := by
    intro p rest hs
    rcases Nat.eq_or_lt_of_le (show 1 ≤ r by omega) with h1 | h1
    · subst h1; exact base p rest hs
    · exact low 1 p rest _ (by omega) h1 (hs.mono (by omega)) (lo_stop (by omega) hs)
  have par : ∀ p rest, Pa vs na .on (toks p ([[40]] ++ pieces vs e ++ [[41]]) ++ rest) (.ok (codeOf e) rest) := by
    intro p rest
    rw [toks_par, List.cons_append, List.append_assoc]
    exact in_par (fun p => toks p (pieces vs e)) (codeOf e) whole p (p + 1) _ rest
  have hf : ∀ k, k ≠ r → flag e k = false := fun k hk => decide_eq_false (by omega)
  refine ⟨fun k p rest x h1 h2 hs hx => ?_, fun p rest => ?_⟩
  · unfold wt
    rcases Nat.lt_trichotomy k r with hk | hk | hk
    · rw [wrap_no _ _ _ (by omega)]
      rw [hf k (by omega)] at hx
      exact low k p rest x h1 hk hs hx
    · subst hk
      rw [wrap_no _ _ _ (by omega)]
      exact h p rest x hs hx
    · rw [wrap_yes _ _ _ (by omega)]
      rw [hf k (by omega)] at hx
      exact from_one (fun p => toks p ([[40]] ++ pieces vs e ++ [[41]])) (codeOf e) par k h1 h2 p rest x hs hx
  · unfold wt
    rw [wrap_yes _ _ _ (by omega)]
    exact par p rest
end Go.Proofs.YtfcdkjhabdpijaaDoor.I
