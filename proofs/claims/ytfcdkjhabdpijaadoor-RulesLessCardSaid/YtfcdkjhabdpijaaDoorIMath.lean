/-
  Plain mathematics of layer 4 (infix): expressions, their instructions, their texts in pieces; words of texts; the grammar as derivations. No program is named here.
-/
import Derived.Test.YtfcdkjhabdpijaaDoorEFold
namespace Go.Proofs.YtfcdkjhabdpijaaDoor.I
open Go Go.Proofs.YtfcdkjhabdpijaaDoor.E
set_option linter.unusedVariables false

/-- An expression. -/
inductive Ex where
  | con (n : Int) | var (k : Nat) | arg (k : Nat) | un (o : Int) (a : Ex) | bin (o : Int) (a b : Ex) | ite (a b c : Ex)

/-- Its instructions. -/
def codeOf : Ex → List In
  | .con n => [(1, n)] | .var k => [(2, (k : Int))] | .arg k => [(3, (k : Int))]
  | .un o a => codeOf a ++ [(o, 0)] | .bin o a b => codeOf a ++ codeOf b ++ [(o, 0)] | .ite a b c => codeOf a ++ codeOf b ++ codeOf c ++ [(16, 0)]

/-- May it be, with so many variables and arguments? -/
def WF (nv na : Int) : Ex → Prop
  | .con n => isVal n = true | .var k => (k : Int) < nv | .arg k => (k : Int) < na
  | .un o a => (o = 4 ∨ o = 5) ∧ WF nv na a | .bin o a b => takes o = 2 ∧ WF nv na a ∧ WF nv na b | .ite a b c => WF nv na a ∧ WF nv na b ∧ WF nv na c

/-- The rows of expressions that instructions make. -/
def flat (st : List Ex) : List In := (st.reverse.map codeOf).flatten

theorem flat_cons (e : Ex) (st : List Ex) : flat (e :: st) = flat st ++ codeOf e := by simp [flat]

theorem right_cases (i : In) (nv na : Int) (h : right i nv na = true) : (i.1 = 1 ∧ isVal i.2 = true) ∨ (i.1 = 2 ∧ 0 ≤ i.2 ∧ i.2 < nv) ∨ (i.1 = 3 ∧ 0 ≤ i.2 ∧ i.2 < na) ∨ (i.1 ≠ 1 ∧ i.1 ≠ 2 ∧ i.1 ≠ 3 ∧ i.2 = 0) := by
  unfold right at h
  split at h
  · rename_i h1; exact Or.inl ⟨h1, h⟩
  · split at h
    · rename_i h1 h2; have := of_decide_eq_true h; exact Or.inr (Or.inl ⟨h2, this.1, this.2⟩)
    · split at h
      · rename_i h1 h2 h3; have := of_decide_eq_true h; exact Or.inr (Or.inr (Or.inl ⟨h3, this.1, this.2⟩))
      · rename_i h1 h2 h3; exact Or.inr (Or.inr (Or.inr ⟨h1, h2, h3, of_decide_eq_true h⟩))

theorem takes_is (o : Int) : (o = 1 ∨ o = 2 ∨ o = 3) ∧ takes o = 0 ∨ (o = 4 ∨ o = 5) ∧ takes o = 1 ∨ (6 ≤ o ∧ o ≤ 15) ∧ takes o = 2 ∨ o = 16 ∧ takes o = 3 ∨ (o < 1 ∨ 16 < o) ∧ takes o = -1 := by
  unfold takes; repeat' split
  all_goals omega

theorem rows (nv na : Int) (code : List In) (h z : Int) (hc : crun nv na code h = .ok z) (st : List Ex) (hl : (st.length : Int) = h) (hw : ∀ e ∈ st, WF nv na e) :
    ∃ st', (st'.length : Int) = z ∧ (∀ e ∈ st', WF nv na e) ∧ flat st ++ code = flat st' := by
  induction code generalizing h st with
  | nil => simp only [crun] at hc; cases hc; exact ⟨st, hl, hw, by simp⟩
  | cons i r ih =>
    simp only [crun, cstep] at hc
    split at hc
    · cases hc
    · split at hc
      · cases hc
      · split at hc
        · cases hc
        · rename_i t0 t1 t2
          have hr : right i nv na = true := by simpa using t1
          have hrc := right_cases i nv na hr
          obtain ⟨o, x⟩ := i
          simp only at t0 t2 hrc hc
          have hti := takes_is o
          have key : ∀ (e : Ex) (rest : List Ex), (st.length : Int) - takes o = rest.length → WF nv na e → (∀ e ∈ rest, WF nv na e) → flat st ++ [(o, x)] = flat (e :: rest) →
              ∃ st', (st'.length : Int) = z ∧ (∀ e ∈ st', WF nv na e) ∧ flat st ++ (o, x) :: r = flat st' := by
            intro e rest h1 h2 h3 h4
            obtain ⟨st', k1, k2, k3⟩ := ih (h - takes o + 1) hc (e :: rest) (by rw [List.length_cons]; omega) (by intro e' he'; rcases List.mem_cons.1 he' with rfl | h'; exact h2; exact h3 e' h')
            exact ⟨st', k1, k2, by rw [← k3, ← h4]; simp⟩
          rcases hrc with ⟨rfl, hv⟩ | ⟨rfl, hx0, hx1⟩ | ⟨rfl, hx0, hx1⟩ | ⟨n1, n2, n3, rfl⟩
          · exact key (.con x) st (by omega) hv hw (by rw [flat_cons]; rfl)
          · obtain ⟨k, rfl⟩ := Int.eq_ofNat_of_zero_le hx0
            exact key (.var k) st (by omega) hx1 hw (by rw [flat_cons]; rfl)
          · obtain ⟨k, rfl⟩ := Int.eq_ofNat_of_zero_le hx0
            exact key (.arg k) st (by omega) hx1 hw (by rw [flat_cons]; rfl)
          · rcases hti with ⟨h1, _⟩ | ⟨h1, h2⟩ | ⟨h1, h2⟩ | ⟨h1, h2⟩ | ⟨_, h2⟩
            · omega
            · cases st with
              | nil => simp at hl; omega
              | cons a rest =>
                exact key (.un o a) rest (by rw [List.length_cons]; omega) ⟨h1, hw a (by simp)⟩ (fun e he => hw e (by simp [he])) (by rw [flat_cons, flat_cons]; simp [codeOf])
            · cases st with
              | nil => simp at hl; omega
              | cons b st2 =>
                cases st2 with
                | nil => simp at hl; omega
                | cons a rest =>
                  exact key (.bin o a b) rest (by simp only [List.length_cons]; omega) ⟨h2, hw a (by simp), hw b (by simp)⟩ (fun e he => hw e (by simp [he])) (by rw [flat_cons, flat_cons, flat_cons]; simp [codeOf])
            · subst h1
              cases st with
              | nil => simp at hl; omega
              | cons c st2 =>
                cases st2 with
                | nil => simp at hl; omega
                | cons b st3 =>
                  cases st3 with
                  | nil => simp at hl; omega
                  | cons a rest =>
                    exact key (.ite a b c) rest (by simp only [List.length_cons]; omega) ⟨hw a (by simp), hw b (by simp), hw c (by simp)⟩ (fun e he => hw e (by simp [he])) (by rw [flat_cons, flat_cons, flat_cons, flat_cons]; simp [codeOf])
            · omega

/-- What may be is an expression's. -/
theorem ex_of (code : List In) (nv na : Int) (h : (check code nv na).2 = 0) : ∃ e, WF nv na e ∧ codeOf e = code := by
  obtain ⟨_, _, _, hc⟩ := check_ok code nv na h
  obtain ⟨st, h1, h2, h3⟩ := rows nv na code 0 1 hc [] (by simp) (by simp)
  match st, h1, h2, h3 with
  | [e], _, h2, h3 => exact ⟨e, h2 e (by simp), by simpa [flat] using h3.symm⟩
  | [], h1, _, _ => simp at h1
  | _ :: _ :: _, h1, _, _ => simp at h1; omega

/-! ## The text -/

abbrev Bs := List UInt8

/-- Digits of a number. -/
def dig (n : Nat) : Bs := if h : n < 10 then [UInt8.ofNat (48 + n)] else dig (n / 10) ++ [UInt8.ofNat (48 + n % 10)]
termination_by n
decreasing_by omega

/-- The level at which an expression is made. -/
def rank : Ex → Nat
  | .con n => if n < 0 then 6 else 7 | .var _ => 7 | .arg _ => 7 | .un _ _ => 6 | .ite _ _ _ => 7
  | .bin o _ _ => if o = 15 then 1 else if o = 14 then 2 else if o = 11 ∨ o = 12 ∨ o = 13 then 3 else if o = 6 ∨ o = 7 then 4 else if o = 8 then 5 else 7

def sign (o : Int) : Bs := if o = 6 then [43] else if o = 7 then [45] else if o = 8 then [42] else if o = 11 then [60] else if o = 12 then [60, 61] else if o = 13 then [61] else if o = 14 then [38] else [124]
def wmin : Bs := [109, 105, 110]
def wmax : Bs := [109, 97, 120]
def wif : Bs := [105, 102]

/-- Brackets, where they must be. -/
def wrap (r least : Nat) (p : List Bs) : List Bs := if r < least then [[40]] ++ p ++ [[41]] else p

/-- A constant from 0 on? -/
def plainCon : Ex → Bool | .con n => decide (0 ≤ n) | _ => false

/-- The text's pieces: words, and blanks. -/
def pieces (vs : List Bs) : Ex → List Bs
  | .con n => if n < 0 then [[45], dig n.natAbs] else [dig n.natAbs]
  | .var k => [vs.getD k []]
  | .arg k => [[36] ++ dig k]
  | .un o a => if o = 4 then (if plainCon a = true then [[45], [40]] ++ pieces vs a ++ [[41]] else [[45]] ++ wrap (rank a) 6 (pieces vs a)) else [[33]] ++ wrap (rank a) 6 (pieces vs a)
  | .ite a b c => [wif, [40]] ++ pieces vs a ++ [[44], [32]] ++ pieces vs b ++ [[44], [32]] ++ pieces vs c ++ [[41]]
  | .bin o a b => if o = 9 ∨ o = 10 then [if o = 9 then wmin else wmax, [40]] ++ pieces vs a ++ [[44], [32]] ++ pieces vs b ++ [[41]]
      else wrap (rank a) (if rank (.bin o a b) = 3 then 4 else rank (.bin o a b)) (pieces vs a) ++ [[32], sign o, [32]] ++ wrap (rank b) (rank (.bin o a b) + 1) (pieces vs b)

/-- P4.3: the text. -/
def text (vs : List Bs) (e : Ex) : Bs := (pieces vs e).flatten

/-! ## Words -/

def letter (c : UInt8) : Bool := decide (97 ≤ c.toNat ∧ c.toNat ≤ 122)
def digit (c : UInt8) : Bool := decide (48 ≤ c.toNat ∧ c.toNat ≤ 57)
def idc (c : UInt8) : Bool := letter c || digit c || decide (c = 95)

/-- P4.1. -/
def isName (s : Bs) : Bool := match s with
  | [] => false
  | c :: r => decide (r.length < 24) && letter c && (c :: r).all idc && decide (c :: r ≠ wmin) && decide (c :: r ≠ wmax) && decide (c :: r ≠ wif)

def signs : Bs := [43, 45, 42, 33, 38, 124, 60, 61, 40, 41, 44]

/-- How long a text's first word is; 0: none begins. -/
def wordLen (s : Bs) : Nat := match s with
  | [] => 0
  | c :: r => if letter c = true then 1 + (r.takeWhile idc).length else if digit c = true then 1 + (r.takeWhile digit).length
    else if c = 36 then (match r with | d :: _ => if digit d = true then 2 else 0 | [] => 0)
    else if c = 60 ∧ r.head? = some 61 then 2 else if c ∈ signs then 1 else 0

/-- A word and its place; at the end: none. -/
abbrev Tk := Nat × Bs

/-- A text's words, from a place on. -/
inductive Lx : Nat → Bs → List Tk → Prop
  | nil (p : Nat) : Lx p [] [(p, [])]
  | blank (p : Nat) (r : Bs) (ts : List Tk) : Lx (p + 1) r ts → Lx p (32 :: r) ts
  | word (p : Nat) (w r : Bs) (ts : List Tk) : w ≠ [] → w.head? ≠ some 32 → wordLen (w ++ r) = w.length → Lx (p + w.length) r ts → Lx p (w ++ r) ((p, w) :: ts)

/-- The words of pieces. -/
def toks : Nat → List Bs → List Tk
  | _, [] => []
  | p, w :: r => if w = [32] then toks (p + 1) r else (p, w) :: toks (p + w.length) r

theorem toks_append (p : Nat) (a b : List Bs) : toks p (a ++ b) = toks p a ++ toks (p + a.flatten.length) b := by
  induction a generalizing p with
  | nil => simp [toks]
  | cons w r ih =>
    simp only [List.cons_append, toks]
    split
    · rename_i h
      rw [ih, h]
      simp only [List.flatten_cons, List.length_append, List.length_cons, List.length_nil]
      congr 2; omega
    · rw [ih]
      simp only [List.flatten_cons, List.length_append, List.cons_append]
      congr 3; omega

def IsWord (w r : Bs) : Prop := w ≠ [] ∧ w.head? ≠ some 32 ∧ wordLen (w ++ r) = w.length

/-- Pieces that are told apart, with what follows. -/
def Good : List Bs → Bs → Prop
  | [], _ => True
  | w :: r, tail => (w = [32] ∨ IsWord w (r.flatten ++ tail)) ∧ Good r tail

theorem Good.append {a b : List Bs} {tail : Bs} (ha : Good a (b.flatten ++ tail)) (hb : Good b tail) : Good (a ++ b) tail := by
  induction a with
  | nil => exact hb
  | cons w r ih =>
    refine ⟨?_, ih ha.2⟩
    have h := ha.1
    show w = [32] ∨ IsWord w ((r ++ b).flatten ++ tail)
    rw [List.flatten_append, List.append_assoc]
    exact h

theorem Lx.pieces {ps : List Bs} {p : Nat} {tail : Bs} {ts : List Tk} (hg : Good ps tail) (h : Lx (p + ps.flatten.length) tail ts) : Lx p (ps.flatten ++ tail) (toks p ps ++ ts) := by
  induction ps generalizing p with
  | nil => simpa [toks] using h
  | cons w r ih =>
    have h2 : Lx (p + w.length) (r.flatten ++ tail) (toks (p + w.length) r ++ ts) := by
      refine ih hg.2 ?_
      rw [List.flatten_cons, List.length_append] at h
      rw [Nat.add_assoc]
      exact h
    rw [List.flatten_cons, List.append_assoc]
    unfold toks
    split
    · rename_i hw
      subst hw
      exact Lx.blank p _ _ h2
    · rename_i hw
      obtain ⟨w1, w2, w3⟩ := hg.1.resolve_left hw
      exact Lx.word p w _ _ w1 w2 w3 h2

end Go.Proofs.YtfcdkjhabdpijaaDoor.I
