/-
  Layer 8, plainly: the parts of a text, which texts are names and patterns, what covers and meets what; what the program's two walks answer; and that both are one.
  Layer 8, plainly: covering goes on, and each pattern covers itself; what matches is what covers; who both match meet; and the name that shows that a pattern does not cover another one.
-/
import Derived.Lib.Strings
import Derived.Lib.Bytealg
namespace Go.Proofs.YtelcemfaijjcbaaGreatDoor.P8

/-- The part ahead of the first '/', what is behind it, and whether there is one. -/
def cutP : List UInt8 → List UInt8 × List UInt8 × Bool
  | [] => ([], [], false)
  | b :: l => if b == 47 then ([], l, true) else (b :: (cutP l).1, (cutP l).2.1, (cutP l).2.2)

/-- Put a byte ahead of the first part. -/
def onFirst (b : UInt8) : List (List UInt8) → List (List UInt8)
  | [] => [[b]]
  | x :: xs => (b :: x) :: xs

/-- A text's parts. -/
def parts : List UInt8 → List (List UInt8)
  | [] => [[]]
  | b :: l => if b == 47 then [] :: parts l else onFirst b (parts l)

theorem parts_ne (l : List UInt8) : parts l ≠ [] := by
  cases l with
  | nil => simp [parts]
  | cons b l =>
    unfold parts
    split
    · simp
    · unfold onFirst; split <;> simp

theorem parts_cut (l : List UInt8) : parts l = (cutP l).1 :: (if (cutP l).2.2 then parts (cutP l).2.1 else []) := by
  induction l with
  | nil => rfl
  | cons b l ih =>
    by_cases hb : (b == 47) = true
    · simp [parts, cutP, hb]
    · simp only [parts, cutP, hb, Bool.false_eq_true, if_false]
      rw [ih]; simp only [onFirst]

theorem cut_rest (l : List UInt8) (h : (cutP l).2.2 = false) : (cutP l).2.1 = [] := by
  induction l with
  | nil => rfl
  | cons b l ih =>
    unfold cutP at h ⊢
    split
    · rename_i hb; rw [if_pos hb] at h; cases h
    · rename_i hb; rw [if_neg hb] at h; exact ih h

theorem cut_len (l : List UInt8) : (cutP l).1.length + (cutP l).2.1.length ≤ l.length := by
  induction l with
  | nil => simp [cutP]
  | cons b l ih =>
    unfold cutP
    split
    · simp
    · simp only [List.length_cons]; omega

/-- A byte that parts of names have. -/
def okN (n : Nat) : Bool := (decide (97 ≤ n) && decide (n ≤ 122)) || ((decide (48 ≤ n) && decide (n ≤ 57)) || (decide (n = 45) || decide (n = 95)))
def okB (b : UInt8) : Bool := okN b.toNat

def plainP (l : List UInt8) : Bool := !l.isEmpty && l.all okB

/-- Each part is right; the last one is told. -/
def allL (r : List UInt8 → Bool → Bool) : List (List UInt8) → Bool
  | [] => true
  | x :: xs => r x xs.isEmpty && allL r xs

def rS (x : List UInt8) (_ : Bool) : Bool := plainP x
def rP (x : List UInt8) (last : Bool) : Bool := plainP x || (x == [42] || (x == [42, 42] && last))

/-- At most 32 bytes and 4 parts, each right. -/
def rowOk (r : List UInt8 → Bool → Bool) (l : List UInt8) : Bool := decide (l.length ≤ 32) && (allL r (parts l) && decide ((parts l).length ≤ 4))
def streamP (l : List UInt8) : Bool := rowOk rS l
def patP (l : List UInt8) : Bool := rowOk rP l

/-- The program's walk over a text. -/
def rowGo (r : List UInt8 → Bool → Bool) : Nat → List UInt8 → Bool
  | 0, _ => false
  | n + 1, l => r (cutP l).1 (!(cutP l).2.2) && (!(cutP l).2.2 || rowGo r n (cutP l).2.1)

theorem rowGo_eq (r : List UInt8 → Bool → Bool) : ∀ (n : Nat) (l : List UInt8), rowGo r n l = (allL r (parts l) && decide ((parts l).length ≤ n))
  | 0, l => by
    have := parts_ne l
    have h : ¬ (parts l).length ≤ 0 := by
      intro h
      exact this (List.eq_nil_of_length_eq_zero (by omega))
    simp [rowGo, h]
  | n + 1, l => by
    unfold rowGo
    rw [parts_cut l]
    cases hm : (cutP l).2.2
    · simp [allL]
    · rw [rowGo_eq r n]
      have hne : (parts (cutP l).2.1).isEmpty = false := by
        cases h : parts (cutP l).2.1 with
        | nil => exact absurd h (parts_ne _)
        | cons => rfl
      simp [allL, hne, Bool.and_assoc]

/-- The program's walk over two texts side by side. -/
def tog (free right : List UInt8 → List UInt8 → Bool) : Nat → List UInt8 → List UInt8 → Bool
  | 0, _, _ => true
  | n + 1, l, m => free (cutP l).1 (cutP m).1 || (right (cutP l).1 (cutP m).1 && ((cutP l).1.isEmpty || tog free right n (cutP l).2.1 (cutP m).2.1))

def hd (Q : List (List UInt8)) : List UInt8 := Q.headD []

def togL (free right : List UInt8 → List UInt8 → Bool) : List (List UInt8) → List (List UInt8) → Bool
  | [], Q => free [] (hd Q) || right [] (hd Q)
  | a :: P, Q => free a (hd Q) || (right a (hd Q) && (a.isEmpty || togL free right P Q.tail))

/-- A text that is left to be gone through, and its parts: behind the last there are none. -/
def Rep (l : List UInt8) (P : List (List UInt8)) : Prop := P = parts l ∨ (l = [] ∧ P = [])

theorem Rep.hd {l : List UInt8} {P : List (List UInt8)} (h : Rep l P) : (cutP l).1 = hd P := by
  rcases h with rfl | ⟨rfl, rfl⟩
  · rw [parts_cut l]; rfl
  · rfl

theorem Rep.tl {l : List UInt8} {P : List (List UInt8)} (h : Rep l P) : Rep (cutP l).2.1 P.tail := by
  rcases h with rfl | ⟨rfl, rfl⟩
  · rw [parts_cut l]
    cases hm : (cutP l).2.2
    · exact Or.inr ⟨cut_rest l hm, rfl⟩
    · exact Or.inl rfl
  · exact Or.inr ⟨rfl, rfl⟩

theorem tog_eq (free right : List UInt8 → List UInt8 → Bool) : ∀ (n : Nat) (l m : List UInt8) (P Q : List (List UInt8)), Rep l P → Rep m Q → P.length < n → tog free right n l m = togL free right P Q
  | 0, _, _, _, _, _, _, h => by omega
  | n + 1, l, m, P, Q, hl, hm, h => by
    unfold tog
    rw [hl.hd, hm.hd]
    cases P with
    | nil => simp [togL, hd]
    | cons a P =>
      have ih := tog_eq free right n (cutP l).2.1 (cutP m).2.1 P Q.tail hl.tl hm.tl (by simp at h; omega)
      rw [ih]
      rfl

theorem tog_parts (free right : List UInt8 → List UInt8 → Bool) (n : Nat) (l m : List UInt8) (h : (parts l).length < n) : tog free right n l m = togL free right (parts l) (parts m) :=
  tog_eq free right n l m _ _ (Or.inl rfl) (Or.inl rfl) h

/-- What '*' and '**' are. -/
def one : List UInt8 := [42]
def many : List UInt8 := [42, 42]

def takes (a b : List UInt8) : Bool := a == b || (a == one && (b != many && b != []))
def freeC (a _b : List UInt8) : Bool := a == many
def freeM (a b : List UInt8) : Bool := a == many || b == many
def meet (a b : List UInt8) : Bool := takes a b || takes b a

/-- As the document says it, over parts. -/
def coversL : List (List UInt8) → List (List UInt8) → Bool
  | [], Q => Q.isEmpty
  | p :: P, Q => (P.isEmpty && p == many) || match Q with
    | [] => false
    | q :: Q => q != many && ((p == one || p == q) && coversL P Q)

def meetsL : List (List UInt8) → List (List UInt8) → Bool
  | [], Q => (Q == [many]) || Q.isEmpty
  | p :: P, Q => (P.isEmpty && p == many) || match Q with
    | [] => false
    | q :: Q => (Q.isEmpty && q == many) || ((p == one || (q == one || p == q)) && meetsL P Q)

def matchL : List (List UInt8) → List (List UInt8) → Bool
  | [], S => S.isEmpty
  | p :: P, [] => P.isEmpty && p == many
  | p :: P, s :: S => p == many || ((p == one || p == s) && matchL P S)

theorem plain_ne {x : List UInt8} (h : plainP x = true) : x ≠ [] ∧ x ≠ one ∧ x ≠ many := by
  refine ⟨?_, ?_, ?_⟩ <;> (rintro rfl; revert h; decide)

/-- A pattern's part is not empty; '**' is the last one. -/
theorem pat_cons {x : List UInt8} {P : List (List UInt8)} (h : allL rP (x :: P) = true) : x ≠ [] ∧ allL rP P = true ∧ (x = many → P = []) ∧ (x ≠ one → x ≠ many → plainP x = true) := by
  simp only [allL, Bool.and_eq_true] at h
  obtain ⟨h1, h2⟩ := h
  simp only [rP, Bool.or_eq_true, Bool.and_eq_true, beq_iff_eq] at h1
  refine ⟨?_, h2, ?_, ?_⟩
  · rintro rfl
    revert h1
    simp [plainP]
  · rintro rfl
    rcases h1 with h | h | h
    · exact absurd rfl (plain_ne h).2.2
    · exact absurd h (by decide)
    · exact List.isEmpty_iff.1 h.2
  · intro a b
    rcases h1 with h | h | h
    · exact h
    · exact absurd h a
    · exact absurd h.1 b

theorem covers_tog : ∀ (P Q : List (List UInt8)), allL rP P = true → allL rP Q = true → togL freeC takes P Q = coversL P Q
  | [], Q, _, hQ => by
    cases Q with
    | nil => rfl
    | cons q Q =>
      have := (pat_cons hQ).1
      have h2 : (([] : List UInt8) == q) = false := beq_eq_false_iff_ne.2 (Ne.symm this)
      simp [togL, hd, freeC, takes, coversL, many, one, h2]
  | p :: P, Q, hP, hQ => by
    obtain ⟨p0, hP', pm, _⟩ := pat_cons hP
    have p0' : p.isEmpty = false := by cases p with | nil => exact absurd rfl p0 | cons => rfl
    unfold togL coversL
    by_cases hpm : p = many
    · obtain rfl := pm hpm
      subst hpm
      simp only [freeC, List.isEmpty_nil, beq_self_eq_true, Bool.true_or, Bool.and_self]
    · have e1 : freeC p (hd Q) = false := by simpa [freeC] using hpm
      have e2 : (p == many) = false := by simpa using hpm
      rw [e1, e2, p0']
      simp only [Bool.false_or, Bool.and_false]
      cases Q with
      | nil =>
        have : (p == ([] : List UInt8)) = false := by simpa using p0
        simp [hd, takes, this]
      | cons q Q =>
        obtain ⟨q0, hQ', qm, _⟩ := pat_cons hQ
        have ih := covers_tog P Q hP' hQ'
        simp only [hd, List.headD_cons, List.tail_cons, ih]
        have e3 : (q != []) = true := by simpa using q0
        by_cases hq : q = many
        · subst hq
          simp [takes, e2]
        · have e4 : (q != many) = true := by simpa using hq
          simp only [takes, e3, e4, Bool.and_true, Bool.true_and]
          rw [Bool.or_comm (p == q)]

theorem meets_tog : ∀ (P Q : List (List UInt8)), allL rP P = true → allL rP Q = true → togL freeM meet P Q = meetsL P Q
  | [], Q, _, hQ => by
    cases Q with
    | nil => rfl
    | cons q Q =>
      obtain ⟨q0, hQ', qm, _⟩ := pat_cons hQ
      have h2 : (([] : List UInt8) == q) = false := beq_eq_false_iff_ne.2 (Ne.symm q0)
      have h3 : (q == ([] : List UInt8)) = false := by simpa using q0
      by_cases hq : q = many
      · rw [qm hq, hq]; rfl
      · have e4 : (q == many) = false := by simpa using hq
        simp [togL, hd, freeM, meet, takes, meetsL, many, one, h2, h3]
        have : ¬ q = [42, 42] := hq
        simp [this]
  | p :: P, Q, hP, hQ => by
    obtain ⟨p0, hP', pm, _⟩ := pat_cons hP
    have p0' : p.isEmpty = false := by cases p with | nil => exact absurd rfl p0 | cons => rfl
    unfold togL meetsL
    by_cases hpm : p = many
    · obtain rfl := pm hpm
      subst hpm
      simp only [freeM, List.isEmpty_nil, beq_self_eq_true, Bool.true_or, Bool.and_self]
    · have e2 : (p == many) = false := by simpa using hpm
      have e2' : (p != many) = true := by simpa using hpm
      have e5 : (p == ([] : List UInt8)) = false := by simpa using p0
      have e6 : (p != ([] : List UInt8)) = true := by simpa using p0
      have e7 : (([] : List UInt8) == p) = false := beq_eq_false_iff_ne.2 (Ne.symm p0)
      rw [e2, p0']
      simp only [Bool.false_or, Bool.and_false, freeM, e2]
      cases Q with
      | nil =>
        simp [hd, meet, takes, e5, e7, many, one]
      | cons q Q =>
        obtain ⟨q0, hQ', qm, _⟩ := pat_cons hQ
        have ih := meets_tog P Q hP' hQ'
        simp only [hd, List.headD_cons, List.tail_cons, ih]
        have e3 : (q != []) = true := by simpa using q0
        by_cases hq : q = many
        · rw [qm hq, hq]; simp
        · have e4 : (q != many) = true := by simpa using hq
          have e8 : (q == many) = false := by simpa using hq
          have e9 : (q == p) = (p == q) := by rw [Bool.eq_iff_iff, beq_iff_eq, beq_iff_eq]; exact ⟨Eq.symm, Eq.symm⟩
          simp only [meet, takes, e3, e4, e2', e6, e8, e9, Bool.and_true, Bool.and_false, Bool.false_or]
          cases p == q <;> cases p == one <;> cases q == one <;> simp

end Go.Proofs.YtelcemfaijjcbaaGreatDoor.P8

namespace Go.Proofs.YtelcemfaijjcbaaGreatDoor.P8

theorem covers_nil {Q : List (List UInt8)} : coversL [] Q = true ↔ Q = [] := by
  simp [coversL, List.isEmpty_iff]

theorem covers_many (Q : List (List UInt8)) : coversL [many] Q = true := by
  unfold coversL; simp only [List.isEmpty_nil, beq_self_eq_true, Bool.and_self, Bool.true_or]

theorem covers_cons {p : List UInt8} {P Q : List (List UInt8)} (hp : p ≠ many) : coversL (p :: P) Q = true ↔ ∃ q Q', Q = q :: Q' ∧ q ≠ many ∧ (p = one ∨ p = q) ∧ coversL P Q' = true := by
  have e : (p == many) = false := beq_eq_false_iff_ne.2 hp
  cases Q with
  | nil => simp [coversL, e]
  | cons q Q =>
    rw [show coversL (p :: P) (q :: Q) = ((P.isEmpty && p == many) || (q != many && ((p == one || p == q) && coversL P Q))) from rfl, e, Bool.and_false, Bool.false_or]
    simp only [Bool.and_eq_true, Bool.or_eq_true, beq_iff_eq, bne_iff_ne]
    constructor
    · rintro ⟨h1, h2, h3⟩; exact ⟨q, Q, rfl, h1, h2, h3⟩
    · rintro ⟨q', Q', h, h1, h2, h3⟩
      injection h with a b; subst a; subst b
      exact ⟨h1, h2, h3⟩

theorem covers_self : ∀ P : List (List UInt8), allL rP P = true → coversL P P = true
  | [], _ => rfl
  | p :: P, h => by
    obtain ⟨_, h', hm, _⟩ := pat_cons h
    by_cases hp : p = many
    · obtain rfl := hm hp
      subst hp; exact covers_many _
    · exact (covers_cons hp).2 ⟨p, P, rfl, hp, Or.inr rfl, covers_self P h'⟩

theorem covers_trans : ∀ P Q S : List (List UInt8), allL rP P = true → allL rP Q = true → allL rP S = true → coversL P Q = true → coversL Q S = true → coversL P S = true
  | [], Q, S, _, _, _, h1, h2 => by
    obtain rfl := covers_nil.1 h1
    exact h2
  | p :: P, Q, S, hP, hQ, hS, h1, h2 => by
    obtain ⟨_, hP', hm, _⟩ := pat_cons hP
    by_cases hp : p = many
    · obtain rfl := hm hp
      subst hp; exact covers_many _
    · obtain ⟨q, Q', rfl, hq, h3, h4⟩ := (covers_cons hp).1 h1
      obtain ⟨s, S', rfl, hs, h5, h6⟩ := (covers_cons hq).1 h2
      refine (covers_cons hp).2 ⟨s, S', rfl, hs, ?_, covers_trans P Q' S' hP' (pat_cons hQ).2.1 (pat_cons hS).2.1 h4 h6⟩
      rcases h3 with h | h
      · exact Or.inl h
      · subst h; exact h5

theorem stream_pat : ∀ S : List (List UInt8), allL rS S = true → allL rP S = true
  | [], _ => rfl
  | s :: S, h => by
    simp only [allL, Bool.and_eq_true] at h ⊢
    exact ⟨by have := h.1; unfold rS at this; unfold rP; rw [this]; rfl, stream_pat S h.2⟩

theorem match_covers : ∀ P S : List (List UInt8), allL rP P = true → allL rS S = true → matchL P S = coversL P S
  | [], S, _, _ => rfl
  | p :: P, [], hP, _ => by simp [matchL, coversL]
  | p :: P, s :: S, hP, hS => by
    obtain ⟨_, hP', hm, _⟩ := pat_cons hP
    by_cases hp : p = many
    · obtain rfl := hm hp
      subst hp
      rw [covers_many]; unfold matchL; simp only [beq_self_eq_true, Bool.true_or]
    · have e : (p == many) = false := beq_eq_false_iff_ne.2 hp
      simp only [allL, Bool.and_eq_true] at hS
      have e2 : (s != many) = true := bne_iff_ne.2 (plain_ne hS.1).2.2
      have ih := match_covers P S hP' hS.2
      unfold matchL coversL
      simp only [e, e2, ih, Bool.and_false, Bool.false_or, Bool.true_and]

theorem meets_many (P : List (List UInt8)) : meetsL P [many] = true := by
  cases P with
  | nil => rfl
  | cons p P => unfold meetsL; simp only [List.isEmpty_nil, beq_self_eq_true, Bool.and_self, Bool.true_or, Bool.or_true]

theorem many_meets (Q : List (List UInt8)) : meetsL [many] Q = true := by
  unfold meetsL; simp only [List.isEmpty_nil, beq_self_eq_true, Bool.and_self, Bool.true_or]

theorem meets_cons {p q : List UInt8} {P Q : List (List UInt8)} (hp : p ≠ many) (hq : q ≠ many) : meetsL (p :: P) (q :: Q) = ((p == one || (q == one || p == q)) && meetsL P Q) := by
  have e : (p == many) = false := beq_eq_false_iff_ne.2 hp
  have e2 : (q == many) = false := beq_eq_false_iff_ne.2 hq
  rw [show meetsL (p :: P) (q :: Q) = ((P.isEmpty && p == many) || ((Q.isEmpty && q == many) || ((p == one || (q == one || p == q)) && meetsL P Q))) from rfl]
  simp only [e, e2, Bool.and_false, Bool.false_or]

theorem meets_both : ∀ P Q S : List (List UInt8), allL rP P = true → allL rP Q = true → coversL P S = true → coversL Q S = true → meetsL P Q = true
  | [], Q, S, _, hQ, h1, h2 => by
    obtain rfl := covers_nil.1 h1
    cases Q with
    | nil => rfl
    | cons q Q =>
      by_cases hq : q = many
      · obtain rfl := (pat_cons hQ).2.2.1 hq
        subst hq; rfl
      · obtain ⟨_, _, h, _⟩ := (covers_cons hq).1 h2
        cases h
  | p :: P, Q, S, hP, hQ, h1, h2 => by
    by_cases hp : p = many
    · obtain rfl := (pat_cons hP).2.2.1 hp
      subst hp; exact many_meets _
    · obtain ⟨s, S', rfl, hs, h3, h4⟩ := (covers_cons hp).1 h1
      cases Q with
      | nil => cases covers_nil.1 h2
      | cons q Q =>
        by_cases hq : q = many
        · obtain rfl := (pat_cons hQ).2.2.1 hq
          subst hq; exact meets_many _
        · obtain ⟨s', S'', h, hs', h5, h6⟩ := (covers_cons hq).1 h2
          injection h with a b; subst a; subst b
          rw [meets_cons hp hq, meets_both P Q S' (pat_cons hP).2.1 (pat_cons hQ).2.1 h4 h6, Bool.and_true]
          simp only [Bool.or_eq_true, beq_iff_eq]
          rcases h3 with h | h
          · exact Or.inl h
          · rcases h5 with h' | h'
            · exact Or.inr (Or.inl h')
            · exact Or.inr (Or.inr (h.trans h'.symm))

theorem covers_meets (P Q : List (List UInt8)) (hP : allL rP P = true) (hQ : allL rP Q = true) (h : coversL P Q = true) : meetsL P Q = true :=
  meets_both P Q Q hP hQ h (covers_self Q hQ)

theorem meets_symm : ∀ P Q : List (List UInt8), allL rP P = true → allL rP Q = true → meetsL P Q = meetsL Q P
  | [], [], _, _ => rfl
  | [], q :: Q, _, hQ => by
    by_cases hq : q = many
    · obtain rfl := (pat_cons hQ).2.2.1 hq
      subst hq; rfl
    · have e2 : (q == many) = false := beq_eq_false_iff_ne.2 hq
      have e3 : ((q :: Q) == [many]) = false := beq_eq_false_iff_ne.2 (by rintro h; injection h with a b; exact hq a)
      unfold meetsL
      rw [e2, e3]; simp
  | p :: P, [], hP, _ => by
    by_cases hp : p = many
    · obtain rfl := (pat_cons hP).2.2.1 hp
      subst hp; rfl
    · have e2 : (p == many) = false := beq_eq_false_iff_ne.2 hp
      have e3 : ((p :: P) == [many]) = false := beq_eq_false_iff_ne.2 (by rintro h; injection h with a b; exact hp a)
      unfold meetsL
      rw [e2, e3]; simp
  | p :: P, q :: Q, hP, hQ => by
    by_cases hp : p = many
    · obtain rfl := (pat_cons hP).2.2.1 hp
      subst hp; rw [many_meets, meets_many]
    · by_cases hq : q = many
      · obtain rfl := (pat_cons hQ).2.2.1 hq
        subst hq; rw [many_meets, meets_many]
      · rw [meets_cons hp hq, meets_cons hq hp, meets_symm P Q (pat_cons hP).2.1 (pat_cons hQ).2.1]
        have e9 : (q == p) = (p == q) := by rw [Bool.eq_iff_iff, beq_iff_eq, beq_iff_eq]; exact ⟨Eq.symm, Eq.symm⟩
        rw [e9]
        cases p == one <;> cases q == one <;> simp

/-! The name that shows it. -/

/-- One part more behind a text. -/
def addP (out x : List UInt8) : List UInt8 := (if out = [] then out else out ++ [47]) ++ x

def joinP : List (List UInt8) → List UInt8
  | [] => []
  | [x] => x
  | x :: y :: l => x ++ 47 :: joinP (y :: l)

theorem join_ne {x : List UInt8} {l : List (List UInt8)} (h : x ≠ []) : joinP (x :: l) ≠ [] := by
  cases l with
  | nil => exact h
  | cons y l => simp [joinP]

theorem join_snoc : ∀ (L : List (List UInt8)) (x : List UInt8), (∀ y ∈ L, y ≠ []) → joinP (L ++ [x]) = addP (joinP L) x
  | [], x, _ => by simp [joinP, addP]
  | [y], x, h => by
    have := h y (by simp)
    simp [joinP, addP, this]
  | y :: z :: L, x, h => by
    have ih := join_snoc (z :: L) x (fun a ha => h a (List.mem_cons_of_mem _ ha))
    have hz : joinP (z :: L) ≠ [] := join_ne (h z (by simp))
    simp only [List.cons_append] at ih ⊢
    show y ++ 47 :: joinP (z :: (L ++ [x])) = addP (y ++ 47 :: joinP (z :: L)) x
    rw [ih]
    simp [addP, hz]

/-- What stands in the place of a part. -/
def oneOf (c : List UInt8) (more : Nat) (x : List UInt8) : List (List UInt8) := if x = many then List.replicate more c else if x = one then [c] else [x]

def oneL (c : List UInt8) (more : Nat) : List (List UInt8) → List (List UInt8)
  | [] => []
  | x :: xs => oneOf c more x ++ oneL c more xs

theorem oneL_append (c : List UInt8) (more : Nat) : ∀ A B, oneL c more (A ++ B) = oneL c more A ++ oneL c more B
  | [], B => rfl
  | a :: A, B => by simp only [List.cons_append, oneL, oneL_append c more A B, List.append_assoc]

/-- No part of it has a slash. -/
def NoSlash (x : List UInt8) : Prop := ∀ b ∈ x, b ≠ 47

theorem parts_single : ∀ x : List UInt8, NoSlash x → parts x = [x]
  | [], _ => rfl
  | b :: x, h => by
    have hb : (b == 47) = false := beq_eq_false_iff_ne.2 (h b (by simp))
    unfold parts
    rw [hb, parts_single x (fun c hc => h c (List.mem_cons_of_mem _ hc))]
    rfl

theorem parts_append : ∀ (x l : List UInt8), NoSlash x → parts (x ++ 47 :: l) = x :: parts l
  | [], l, _ => by simp [parts]
  | b :: x, l, h => by
    have hb : (b == 47) = false := beq_eq_false_iff_ne.2 (h b (by simp))
    show parts (b :: (x ++ 47 :: l)) = _
    rw [parts, hb, parts_append x l (fun c hc => h c (List.mem_cons_of_mem _ hc))]
    rfl

theorem parts_join : ∀ L : List (List UInt8), L ≠ [] → (∀ x ∈ L, NoSlash x) → parts (joinP L) = L
  | [], h, _ => absurd rfl h
  | [x], _, h => parts_single x (h x (by simp))
  | x :: y :: L, _, h => by
    show parts (x ++ 47 :: joinP (y :: L)) = _
    rw [parts_append x _ (h x (by simp)), parts_join (y :: L) (by simp) (fun a ha => h a (List.mem_cons_of_mem _ ha))]

theorem plain_noSlash {x : List UInt8} (h : plainP x = true) : NoSlash x := by
  rintro b hb rfl
  simp only [plainP, Bool.and_eq_true, List.all_eq_true] at h
  have := h.2 _ hb
  revert this; decide

theorem pat_noSlash : ∀ P : List (List UInt8), allL rP P = true → ∀ x ∈ P, NoSlash x
  | p :: P, h, x, hx => by
    obtain ⟨_, h', _, hpl⟩ := pat_cons h
    rcases List.mem_cons.1 hx with rfl | hx
    · by_cases h1 : x = one
      · subst h1; intro b hb; simp [one] at hb; subst hb; decide
      · by_cases h2 : x = many
        · subst h2; intro b hb; simp [many] at hb; subst hb; decide
        · exact plain_noSlash (hpl h1 h2)
    · exact pat_noSlash P h' x hx

theorem mem_oneOf {c : List UInt8} {more : Nat} {x y : List UInt8} (h : y ∈ oneOf c more x) : y = c ∨ y = x := by
  unfold oneOf at h
  split at h
  · exact Or.inl (List.eq_of_mem_replicate h)
  · split at h
    · exact Or.inl (by simpa using h)
    · exact Or.inr (by simpa using h)

theorem mem_oneL {c : List UInt8} {more : Nat} {y : List UInt8} : ∀ {Q : List (List UInt8)}, y ∈ oneL c more Q → y = c ∨ y ∈ Q
  | x :: Q, h => by
    rcases List.mem_append.1 h with h | h
    · rcases mem_oneOf h with h | h
      · exact Or.inl h
      · exact Or.inr (by simp [h])
    · rcases mem_oneL h with h | h
      · exact Or.inl h
      · exact Or.inr (List.mem_cons_of_mem _ h)

theorem pat_ne : ∀ P : List (List UInt8), allL rP P = true → ∀ x ∈ P, x ≠ []
  | p :: P, h, x, hx => by
    obtain ⟨h0, h', _, _⟩ := pat_cons h
    rcases List.mem_cons.1 hx with rfl | hx
    · exact h0
    · exact pat_ne P h' x hx

theorem covers_one (c : List UInt8) (more : Nat) (hc : c ≠ many) : ∀ Q : List (List UInt8), allL rP Q = true → coversL Q (oneL c more Q) = true
  | [], _ => rfl
  | q :: Q, h => by
    obtain ⟨_, h', hm, _⟩ := pat_cons h
    by_cases hq : q = many
    · obtain rfl := hm hq
      subst hq; exact covers_many _
    · have ih := covers_one c more hc Q h'
      refine (covers_cons hq).2 ?_
      by_cases h1 : q = one
      · exact ⟨c, oneL c more Q, by simp [oneL, oneOf, h1, one, many], hc, Or.inl h1, ih⟩
      · exact ⟨q, oneL c more Q, by simp [oneL, oneOf, hq, h1], hq, Or.inr rfl, ih⟩

theorem covers_back (c : List UInt8) (more : Nat) : ∀ P Q : List (List UInt8), allL rP P = true → (∀ x ∈ P, x ≠ c) → (∀ x ∈ Q, x ≠ many) → coversL P (oneL c more Q) = true → coversL P Q = true
  | [], Q, _, _, hQ, h => by
    cases Q with
    | nil => rfl
    | cons q Q =>
      have h0 := covers_nil.1 h
      have hq := hQ q (by simp)
      simp only [oneL, oneOf, hq, if_false] at h0
      split at h0 <;> simp at h0
  | p :: P, Q, hP, hf, hQ, h => by
    obtain ⟨_, hP', hm, _⟩ := pat_cons hP
    by_cases hp : p = many
    · obtain rfl := hm hp
      subst hp; exact covers_many _
    · obtain ⟨s, S, hs, hs1, hs2, hs3⟩ := (covers_cons hp).1 h
      cases Q with
      | nil => cases hs
      | cons q Q =>
        have hq := hQ q (by simp)
        have hpc := hf p (by simp)
        refine (covers_cons hp).2 ⟨q, Q, rfl, hq, ?_, ?_⟩
        · simp only [oneL, oneOf, hq, if_false] at hs
          split at hs
          · injection hs with a b
            subst a
            rcases hs2 with h | h
            · exact Or.inl h
            · exact absurd h hpc
          · injection hs with a b
            subst a; exact hs2
        · have : S = oneL c more Q := by
            simp only [oneL, oneOf, hq, if_false] at hs
            split at hs <;> (injection hs with a b; exact b.symm)
          subst this
          exact covers_back c more P Q hP' (fun x hx => hf x (List.mem_cons_of_mem _ hx)) (fun x hx => hQ x (List.mem_cons_of_mem _ hx)) hs3

theorem oneL_len (c : List UInt8) (more : Nat) : ∀ Q : List (List UInt8), (∀ x ∈ Q, x ≠ many) → (oneL c more Q).length = Q.length
  | [], _ => rfl
  | q :: Q, h => by
    have hq := h q (by simp)
    have ih := oneL_len c more Q (fun x hx => h x (List.mem_cons_of_mem _ hx))
    simp only [oneL, oneOf, hq, if_false, List.length_append, ih, List.length_cons]
    split <;> (simp; omega)

/-- Where '**' stands: at the end alone. -/
theorem many_last : ∀ Q : List (List UInt8), allL rP Q = true → (∀ x ∈ Q, x ≠ many) ∨ ∃ Q0, Q = Q0 ++ [many] ∧ ∀ x ∈ Q0, x ≠ many
  | [], _ => Or.inl (by simp)
  | q :: Q, h => by
    obtain ⟨_, h', hm, _⟩ := pat_cons h
    by_cases hq : q = many
    · obtain rfl := hm hq
      exact Or.inr ⟨[], by simp [hq], by simp⟩
    · rcases many_last Q h' with h1 | ⟨Q0, rfl, h1⟩
      · refine Or.inl fun x hx => ?_
        rcases List.mem_cons.1 hx with rfl | hx
        · exact hq
        · exact h1 x hx
      · refine Or.inr ⟨q :: Q0, rfl, fun x hx => ?_⟩
        rcases List.mem_cons.1 hx with rfl | hx
        · exact hq
        · exact h1 x hx

theorem rowOk_parts {r : List UInt8 → Bool → Bool} {l : List UInt8} (h : rowOk r l = true) : l.length ≤ 32 ∧ allL r (parts l) = true ∧ (parts l).length ≤ 4 := by
  simpa [rowOk] using h

theorem stream_nil : streamP [] = false := by decide

/-- The name's parts, if it is one. -/
theorem one_parts {c : List UInt8} {more : Nat} {Q : List (List UInt8)} (hc : NoSlash c) (hQ : allL rP Q = true) (h : streamP (joinP (oneL c more Q)) = true) : parts (joinP (oneL c more Q)) = oneL c more Q := by
  refine parts_join _ ?_ fun x hx => ?_
  · intro h0
    rw [h0] at h
    rw [show joinP [] = [] from rfl, stream_nil] at h
    cases h
  · rcases mem_oneL hx with rfl | hx
    · exact hc
    · exact pat_noSlash Q hQ x hx

theorem one_covered {c : List UInt8} {more : Nat} {Q : List (List UInt8)} (hc : NoSlash c) (hc2 : c ≠ many) (hQ : allL rP Q = true) (h : streamP (joinP (oneL c more Q)) = true) : coversL Q (parts (joinP (oneL c more Q))) = true := by
  rw [one_parts hc hQ h]; exact covers_one c more hc2 Q hQ

/-- If all five are names that P matches, P covers Q. -/
theorem whole {c : List UInt8} {P Q : List (List UInt8)} (hc : NoSlash c) (hP : allL rP P = true) (hQ : allL rP Q = true) (hf : ∀ x ∈ P, x ≠ c)
    (h : ∀ j, j < 5 → streamP (joinP (oneL c j Q)) = true ∧ coversL P (parts (joinP (oneL c j Q))) = true) : coversL P Q = true := by
  rcases many_last Q hQ with hm | ⟨Q0, rfl, hm⟩
  · obtain ⟨h1, h2⟩ := h 0 (by omega)
    rw [one_parts hc hQ h1] at h2
    exact covers_back c 0 P Q hP hf hm h2
  · exfalso
    obtain ⟨h1, _⟩ := h 0 (by omega)
    obtain ⟨h2, _⟩ := h 4 (by omega)
    have e2 := one_parts hc hQ h2
    have l2 := (rowOk_parts h2).2.2
    rw [e2, oneL_append, List.length_append, oneL_len c 4 Q0 hm] at l2
    have l3 : (oneL c 4 [many]).length = 4 := by simp [oneL, oneOf]
    have hz : Q0 = [] := List.eq_nil_of_length_eq_zero (by omega)
    subst hz
    rw [show joinP (oneL c 0 ([] ++ [many])) = [] from rfl, stream_nil] at h1
    cases h1

theorem mem_parts : ∀ (l x : List UInt8), x ∈ parts l → ∀ b ∈ x, b ∈ l
  | [], x, h, b, hb => by
    simp [parts] at h; subst h; simp at hb
  | a :: l, x, h, b, hb => by
    unfold parts at h
    split at h
    · rcases List.mem_cons.1 h with rfl | h
      · simp at hb
      · exact List.mem_cons_of_mem _ (mem_parts l x h b hb)
    · have ih := mem_parts l
      cases hp : parts l with
      | nil => exact absurd hp (parts_ne l)
      | cons y ys =>
        rw [hp] at h ih
        simp only [onFirst] at h
        rcases List.mem_cons.1 h with rfl | h
        · rcases List.mem_cons.1 hb with rfl | hb
          · simp
          · exact List.mem_cons_of_mem _ (ih y (by simp) b hb)
        · exact List.mem_cons_of_mem _ (ih x (List.mem_cons_of_mem _ h) b hb)

theorem fresh_parts {l : List UInt8} {c : UInt8} (h : c ∉ l) : ∀ x ∈ parts l, x ≠ [c] := by
  rintro x hx rfl
  exact h (mem_parts l _ hx c (by simp))

/-! Which one is ahead. -/
def lessL : List UInt8 → List UInt8 → Bool
  | [], b => !b.isEmpty
  | _ :: _, [] => false
  | x :: a, y :: b => if x = y then lessL a b else decide (x.toNat < y.toNat)

theorem cmp_zero : ∀ a b : List UInt8, Lib.compareBytes a b = 0 ↔ a = b
  | [], [] => by simp [Lib.compareBytes]
  | [], _ :: _ => by simp [Lib.compareBytes]
  | _ :: _, [] => by simp [Lib.compareBytes]
  | x :: a, y :: b => by
    unfold Lib.compareBytes
    rcases Nat.lt_trichotomy x.toNat y.toNat with h | h | h
    · have h1 : x < y := h
      have h2 : x ≠ y := by rintro rfl; omega
      simp [h1, h2]
    · have h2 : x = y := UInt8.toNat_inj.1 h
      subst h2
      simp [UInt8.lt_irrefl, cmp_zero a b]
    · have h1 : y < x := h
      have h0 : ¬ x < y := by intro h'; have : x.toNat < y.toNat := h'; omega
      have h2 : x ≠ y := by rintro rfl; omega
      simp [h1, h0, h2]

theorem cmp_less : ∀ a b : List UInt8, decide (Lib.compareBytes a b < 0) = lessL a b
  | [], [] => by simp [Lib.compareBytes, lessL]
  | [], _ :: _ => by simp [Lib.compareBytes, lessL]
  | _ :: _, [] => by simp [Lib.compareBytes, lessL]
  | x :: a, y :: b => by
    unfold Lib.compareBytes lessL
    rcases Nat.lt_trichotomy x.toNat y.toNat with h | h | h
    · have h1 : x < y := h
      have h2 : x ≠ y := by rintro rfl; omega
      simp [h1, h2, h]
    · have h2 : x = y := UInt8.toNat_inj.1 h
      subst h2
      simp [UInt8.lt_irrefl, cmp_less a b]
    · have h1 : y < x := h
      have h0 : ¬ x < y := by intro h'; have : x.toNat < y.toNat := h'; omega
      have h2 : x ≠ y := by rintro rfl; omega
      have h3 : ¬ x.toNat < y.toNat := by omega
      simp [h1, h0, h2, h3]

theorem cmp_more : ∀ a b : List UInt8, decide (Lib.compareBytes a b > 0) = lessL b a
  | [], [] => by simp [Lib.compareBytes, lessL]
  | [], _ :: _ => by simp [Lib.compareBytes, lessL]
  | _ :: _, [] => by simp [Lib.compareBytes, lessL]
  | x :: a, y :: b => by
    unfold Lib.compareBytes lessL
    rcases Nat.lt_trichotomy x.toNat y.toNat with h | h | h
    · have h1 : x < y := h
      have h2 : y ≠ x := by rintro rfl; omega
      have h3 : ¬ y.toNat < x.toNat := by omega
      simp [h1, h2, h3]
    · have h2 : x = y := UInt8.toNat_inj.1 h
      subst h2
      simp only [UInt8.lt_irrefl, if_false, if_true]
      exact cmp_more a b
    · have h1 : y < x := h
      have h0 : ¬ x < y := by intro h'; have : x.toNat < y.toNat := h'; omega
      have h2 : y ≠ x := by rintro rfl; omega
      simp [h1, h0, h2, h]

end Go.Proofs.YtelcemfaijjcbaaGreatDoor.P8
