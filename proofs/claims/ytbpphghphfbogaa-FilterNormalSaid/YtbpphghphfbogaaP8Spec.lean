/-
  Layer 8, plainly: the parts of a text, which texts are names and patterns, what covers and meets what; what the program's two walks answer; and that both are one.
-/
import Derived.Lib.Strings
namespace Go.Proofs.Ytbpphghphfbogaa.P8

/-- The part ahead of the first '/', what is behind it, and whether there is one. -/
def cutP : List UInt8 → List UInt8 × List UInt8 × Bool
  | [] => ([], [], false)
  | b :: l => if b == 47 then ([], l, true) else (b :: (cutP l).1, (cutP l).2.1, (cutP l).2.2)

/-- Put a byte ahead of the first part. -/
def onFirst (b : UInt8) : List (List UInt8) → List (List UInt8)
  | [] => [[b]]
  | x :: xs => (b :: x) :: xs

/-- A text's parts. -/
def parts : List UInt8 → List (List UInt8)
  | [] => [[]]
  | b :: l => if b == 47 then [] :: parts l else onFirst b (parts l)

theorem parts_ne (l : List UInt8) : parts l ≠ [] := by
  cases l with
  | nil => simp [parts]
  | cons b l =>
    unfold parts
    split
    · simp
    · unfold onFirst; split <;> simp

theorem parts_cut (l : List UInt8) : parts l = (cutP l).1 :: (if (cutP l).2.2 then parts (cutP l).2.1 else []) := by
  induction l with
  | nil => rfl
  | cons b l ih =>
    by_cases hb : (b == 47) = true
    · simp [parts, cutP, hb]
    · simp only [parts, cutP, hb, Bool.false_eq_true, if_false]
      rw [ih]; simp only [onFirst]

theorem cut_rest (l : List UInt8) (h : (cutP l).2.2 = false) : (cutP l).2.1 = [] := by
  induction l with
  | nil => rfl
  | cons b l ih =>
    unfold cutP at h ⊢
    split
    · rename_i hb; rw [if_pos hb] at h; cases h
    · rename_i hb; rw [if_neg hb] at h; exact ih h

theorem cut_len (l : List UInt8) : (cutP l).1.length + (cutP l).2.1.length ≤ l.length := by
  induction l with
  | nil => simp [cutP]
  | cons b l ih =>
    unfold cutP
    split
    · simp
    · simp only [List.length_cons]; omega

/-- A byte that parts of names have. -/
def okN (n : Nat) : Bool := (decide (97 ≤ n) && decide (n ≤ 122)) || ((decide (48 ≤ n) && decide (n ≤ 57)) || (decide (n = 45) || decide (n = 95)))
def okB (b : UInt8) : Bool := okN b.toNat

def plainP (l : List UInt8) : Bool := !l.isEmpty && l.all okB

/-- Each part is right; the last one is told. -/
def allL (r : List UInt8 → Bool → Bool) : List (List UInt8) → Bool
  | [] => true
  | x :: xs => r x xs.isEmpty && allL r xs

def rS (x : List UInt8) (_ : Bool) : Bool := plainP x
def rP (x : List UInt8) (last : Bool) : Bool := plainP x || (x == [42] || (x == [42, 42] && last))

/-- At most 32 bytes and 4 parts, each right. -/
def rowOk (r : List UInt8 → Bool → Bool) (l : List UInt8) : Bool := decide (l.length ≤ 32) && (allL r (parts l) && decide ((parts l).length ≤ 4))
def streamP (l : List UInt8) : Bool := rowOk rS l
def patP (l : List UInt8) : Bool := rowOk rP l

/-- The program's walk over a text. -/
def rowGo (r : List UInt8 → Bool → Bool) : Nat → List UInt8 → Bool
  | 0, _ => false
  | n + 1, l => r (cutP l).1 (!(cutP l).2.2) && (!(cutP l).2.2 || rowGo r n (cutP l).2.1)

theorem rowGo_eq (r : List UInt8 → Bool → Bool) : ∀ (n : Nat) (l : List UInt8), rowGo r n l = (allL r (parts l) && decide ((parts l).length ≤ n))
  | 0, l => by
    have := parts_ne l
    have h : ¬ (parts l).length ≤ 0 := by
      intro h
      exact this (List.eq_nil_of_length_eq_zero (by omega))
    simp [rowGo, h]
  | n + 1, l => by
    unfold rowGo
    rw [parts_cut l]
    cases hm : (cutP l).2.2
    · simp [allL]
    · rw [rowGo_eq r n]
      have hne : (parts (cutP l).2.1).isEmpty = false := by
        cases h : parts (cutP l).2.1 with
        | nil => exact absurd h (parts_ne _)
        | cons => rfl
      simp [allL, hne, Bool.and_assoc]

/-- The program's walk over two texts side by side. -/
def tog (free right : List UInt8 → List UInt8 → Bool) : Nat → List UInt8 → List UInt8 → Bool
  | 0, _, _ => true
  | n + 1, l, m => free (cutP l).1 (cutP m).1 || (right (cutP l).1 (cutP m).1 && ((cutP l).1.isEmpty || tog free right n (cutP l).2.1 (cutP m).2.1))

def hd (Q : List (List UInt8)) : List UInt8 := Q.headD []

def togL (free right : List UInt8 → List UInt8 → Bool) : List (List UInt8) → List (List UInt8) → Bool
  | [], Q => free [] (hd Q) || right [] (hd Q)
  | a :: P, Q => free a (hd Q) || (right a (hd Q) && (a.isEmpty || togL free right P Q.tail))

/-- A text that is left to be gone through, and its parts: behind the last there are none. -/
def Rep (l : List UInt8) (P : List (List UInt8)) : Prop := P = parts l ∨ (l = [] ∧ P = [])

theorem Rep.hd {l : List UInt8} {P : List (List UInt8)} (h : Rep l P) : (cutP l).1 = hd P := by
  rcases h with rfl | ⟨rfl, rfl⟩
  · rw [parts_cut l]; rfl
  · rfl

theorem Rep.tl {l : List UInt8} {P : List (List UInt8)} (h : Rep l P) : Rep (cutP l).2.1 P.tail := by
  rcases h with rfl | ⟨rfl, rfl⟩
  · rw [parts_cut l]
    cases hm : (cutP l).2.2
    · exact Or.inr ⟨cut_rest l hm, rfl⟩
    · exact Or.inl rfl
  · exact Or.inr ⟨rfl, rfl⟩

theorem tog_eq (free right : List UInt8 → List UInt8 → Bool) : ∀ (n : Nat) (l m : List UInt8) (P Q : List (List UInt8)), Rep l P → Rep m Q → P.length < n → tog free right n l m = togL free right P Q
  | 0, _, _, _, _, _, _, h => by omega
  | n + 1, l, m, P, Q, hl, hm, h => by
    unfold tog
    rw [hl.hd, hm.hd]
    cases P with
    | nil => simp [togL, hd]
    | cons a P =>
      have ih := tog_eq free right n (cutP l).2.1 (cutP m).2.1 P Q.tail hl.tl hm.tl (by simp at h; omega)
      rw [ih]
      rfl

theorem tog_parts (free right : List UInt8 → List UInt8 → Bool) (n : Nat) (l m : List UInt8) (h : (parts l).length < n) : tog free right n l m = togL free right (parts l) (parts m) :=
  tog_eq free right n l m _ _ (Or.inl rfl) (Or.inl rfl) h

/-- What '*' and '**' are. -/
def one : List UInt8 := [42]
def many : List UInt8 := [42, 42]

def takes (a b : List UInt8) : Bool := a == b || (a == one && (b != many && b != []))
def freeC (a _b : List UInt8) : Bool := a == many
def freeM (a b : List UInt8) : Bool := a == many || b == many
def meet (a b : List UInt8) : Bool := takes a b || takes b a

/-- As the document says it, over parts. -/
def coversL : List (List UInt8) → List (List UInt8) → Bool
  | [], Q => Q.isEmpty
  | p :: P, Q => (P.isEmpty && p == many) || match Q with
    | [] => false
    | q :: Q => q != many && ((p == one || p == q) && coversL P Q)

def meetsL : List (List UInt8) → List (List UInt8) → Bool
  | [], Q => (Q == [many]) || Q.isEmpty
  | p :: P, Q => (P.isEmpty && p == many) || match Q with
    | [] => false
    | q :: Q => (Q.isEmpty && q == many) || ((p == one || (q == one || p == q)) && meetsL P Q)

def matchL : List (List UInt8) → List (List UInt8) → Bool
  | [], S => S.isEmpty
  | p :: P, [] => P.isEmpty && p == many
  | p :: P, s :: S => p == many || ((p == one || p == s) && matchL P S)

theorem plain_ne {x : List UInt8} (h : plainP x = true) : x ≠ [] ∧ x ≠ one ∧ x ≠ many := by
  refine ⟨?_, ?_, ?_⟩ <;> (rintro rfl; revert h; decide)

/-- A pattern's part is not empty; '**' is the last one. -/
theorem pat_cons {x : List UInt8} {P : List (List UInt8)} (h : allL rP (x :: P) = true) : x ≠ [] ∧ allL rP P = true ∧ (x = many → P = []) ∧ (x ≠ one → x ≠ many → plainP x = true) := by
  simp only [allL, Bool.and_eq_true] at h
  obtain ⟨h1, h2⟩ := h
  simp only [rP, Bool.or_eq_true, Bool.and_eq_true, beq_iff_eq] at h1
  refine ⟨?_, h2, ?_, ?_⟩
  · rintro rfl
    revert h1
    simp [plainP]
  · rintro rfl
    rcases h1 with h | h | h
    · exact absurd rfl (plain_ne h).2.2
    · exact absurd h (by decide)
    · exact List.isEmpty_iff.1 h.2
  · intro a b
    rcases h1 with h | h | h
    · exact h
    · exact absurd h a
    · exact absurd h.1 b

theorem covers_tog : ∀ (P Q : List (List UInt8)), allL rP P = true → allL rP Q = true → togL freeC takes P Q = coversL P Q
  | [], Q, _, hQ => by
    cases Q with
    | nil => rfl
    | cons q Q =>
      have := (pat_cons hQ).1
      have h2 : (([] : List UInt8) == q) = false := beq_eq_false_iff_ne.2 (Ne.symm this)
      simp [togL, hd, freeC, takes, coversL, many, one, h2]
  | p :: P, Q, hP, hQ => by
    obtain ⟨p0, hP', pm, _⟩ := pat_cons hP
    have p0' : p.isEmpty = false := by cases p with | nil => exact absurd rfl p0 | cons => rfl
    unfold togL coversL
    by_cases hpm : p = many
    · obtain rfl := pm hpm
      subst hpm
      simp only [freeC, List.isEmpty_nil, beq_self_eq_true, Bool.true_or, Bool.and_self]
    · have e1 : freeC p (hd Q) = false := by simpa [freeC] using hpm
      have e2 : (p == many) = false := by simpa using hpm
      rw [e1, e2, p0']
      simp only [Bool.false_or, Bool.and_false]
      cases Q with
      | nil =>
        have : (p == ([] : List UInt8)) = false := by simpa using p0
        simp [hd, takes, this]
      | cons q Q =>
        obtain ⟨q0, hQ', qm, _⟩ := pat_cons hQ
        have ih := covers_tog P Q hP' hQ'
        simp only [hd, List.headD_cons, List.tail_cons, ih]
        have e3 : (q != []) = true := by simpa using q0
        by_cases hq : q = many
        · subst hq
          simp [takes, e2]
        · have e4 : (q != many) = true := by simpa using hq
          simp only [takes, e3, e4, Bool.and_true, Bool.true_and]
          rw [Bool.or_comm (p == q)]

theorem meets_tog : ∀ (P Q : List (List UInt8)), allL rP P = true → allL rP Q = true → togL freeM meet P Q = meetsL P Q
  | [], Q, _, hQ => by
    cases Q with
    | nil => rfl
    | cons q Q =>
      obtain ⟨q0, hQ', qm, _⟩ := pat_cons hQ
      have h2 : (([] : List UInt8) == q) = false := beq_eq_false_iff_ne.2 (Ne.symm q0)
      have h3 : (q == ([] : List UInt8)) = false := by simpa using q0
      by_cases hq : q = many
      · rw [qm hq, hq]; rfl
      · have e4 : (q == many) = false := by simpa using hq
        simp [togL, hd, freeM, meet, takes, meetsL, many, one, h2, h3]
        have : ¬ q = [42, 42] := hq
        simp [this]
  | p :: P, Q, hP, hQ => by
    obtain ⟨p0, hP', pm, _⟩ := pat_cons hP
    have p0' : p.isEmpty = false := by cases p with | nil => exact absurd rfl p0 | cons => rfl
    unfold togL meetsL
    by_cases hpm : p = many
    · obtain rfl := pm hpm
      subst hpm
      simp only [freeM, List.isEmpty_nil, beq_self_eq_true, Bool.true_or, Bool.and_self]
    · have e2 : (p == many) = false := by simpa using hpm
      have e2' : (p != many) = true := by simpa using hpm
      have e5 : (p == ([] : List UInt8)) = false := by simpa using p0
      have e6 : (p != ([] : List UInt8)) = true := by simpa using p0
      have e7 : (([] : List UInt8) == p) = false := beq_eq_false_iff_ne.2 (Ne.symm p0)
      rw [e2, p0']
      simp only [Bool.false_or, Bool.and_false, freeM, e2]
      cases Q with
      | nil =>
        simp [hd, meet, takes, e5, e7, many, one]
      | cons q Q =>
        obtain ⟨q0, hQ', qm, _⟩ := pat_cons hQ
        have ih := meets_tog P Q hP' hQ'
        simp only [hd, List.headD_cons, List.tail_cons, ih]
        have e3 : (q != []) = true := by simpa using q0
        by_cases hq : q = many
        · rw [qm hq, hq]; simp
        · have e4 : (q != many) = true := by simpa using hq
          have e8 : (q == many) = false := by simpa using hq
          have e9 : (q == p) = (p == q) := by rw [Bool.eq_iff_iff, beq_iff_eq, beq_iff_eq]; exact ⟨Eq.symm, Eq.symm⟩
          simp only [meet, takes, e3, e4, e2', e6, e8, e9, Bool.and_true, Bool.and_false, Bool.false_or]
          cases p == q <;> cases p == one <;> cases q == one <;> simp

end Go.Proofs.Ytbpphghphfbogaa.P8
