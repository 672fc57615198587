/-
  Plain mathematics of layer 3 (expr): which instructions may be, what they come to, what is folded; no program is named here.
-/
import Derived.Laws.Concat
namespace Go.Proofs.YtfcdkjhabdpijaaDoor.E
open Go
set_option linter.unusedVariables false

/-- An instruction: what it does, and a number. -/
abbrev In := Int × Int

/-- How many numbers an instruction takes; -1: it is none. -/
def takes (o : Int) : Int := if o < 1 ∨ 16 < o then -1 else if o < 4 then 0 else if o < 6 then 1 else if o < 16 then 2 else 3

/-- May a number be a value? -/
def isVal (n : Int) : Bool := decide (-1099511627776 ≤ n ∧ n ≤ 1099511627776)

theorem isVal_iff (n : Int) : isVal n = true ↔ -1099511627776 ≤ n ∧ n ≤ 1099511627776 := by unfold isVal; exact decide_eq_true_iff
theorem isVal_not (n : Int) : isVal n = false ↔ ¬ (-1099511627776 ≤ n ∧ n ≤ 1099511627776) := by unfold isVal; exact decide_eq_false_iff_not

/-- May an instruction have its number, with so many variables and arguments? -/
def right (i : In) (nv na : Int) : Bool :=
  if i.1 = 1 then isVal i.2 else if i.1 = 2 then decide (0 ≤ i.2 ∧ i.2 < nv) else if i.1 = 3 then decide (0 ≤ i.2 ∧ i.2 < na) else decide (i.2 = 0)

/-- Check's way through the instructions: what is left, the place, how many numbers are in the row; the place and the error. -/
def chk (nv na : Int) : List In → Nat → Int → Int × Int
  | [], k, h => if h = 1 then (0, 0) else (k, 6)
  | i :: r, k, h => if takes i.1 < 0 then (k, 2) else if right i nv na = false then (k, 3) else if h < takes i.1 then (k, 5) else chk nv na r (k + 1) (h - takes i.1 + 1)

/-- P3.1. -/
def check (code : List In) (nv na : Int) : Int × Int :=
  if nv < 0 ∨ na < 0 then (0, 2) else if 31 < code.length then (0, 4) else chk nv na code 0 0

def one (b : Bool) : Int := if b = true then 1 else 0

/-- A number, if it is a value. -/
def gv (n : Int) : Option Int := if isVal n = true then some n else none

/-- What an instruction comes to, of the numbers that it takes (those that it does not take play no part). -/
def made (o a b c : Int) : Option Int :=
  if o = 4 then some (-a) else if o = 5 then some (one (decide (a = 0))) else if o = 6 then gv (a + b) else if o = 7 then gv (a - b) else if o = 8 then gv (a * b)
  else if o = 9 then some (if a ≤ b then a else b) else if o = 10 then some (if a ≤ b then b else a) else if o = 11 then some (one (decide (a < b))) else if o = 12 then some (one (decide (a ≤ b)))
  else if o = 13 then some (one (decide (a = b))) else if o = 14 then some (one (decide (a ≠ 0 ∧ b ≠ 0))) else if o = 15 then some (one (decide (a ≠ 0 ∨ b ≠ 0))) else some (if a ≠ 0 then b else c)

/-- An instruction on a row of numbers, the last one first. -/
def step (vs as : List Int) (i : In) (st : List Int) : Option (List Int) :=
  if i.1 = 2 then some (vs.getD i.2.toNat 0 :: st) else if i.1 = 3 then some (as.getD i.2.toNat 0 :: st)
  else if takes i.1 = 1 then match st with | a :: r => (made i.1 a 0 0).map (· :: r) | _ => none
  else if takes i.1 = 2 then match st with | b :: a :: r => (made i.1 a b 0).map (· :: r) | _ => none
  else if takes i.1 = 3 then match st with | c :: b :: a :: r => (made i.1 a b c).map (· :: r) | _ => none
  else some (i.2 :: st)

/-- All instructions, one behind the other. -/
def run (vs as : List Int) : List In → List Int → Option (List Int)
  | [], st => some st
  | i :: r, st => (step vs as i st).bind (run vs as r)

/-- What is left, or that there is nothing. -/
def top : Option (List Int) → Int × Int
  | some (x :: _) => (x, 0)
  | _ => (0, 3)

/-- P3.2. -/
def eval (code : List In) (vs as : List Int) : Int × Int :=
  if (check code vs.length as.length).2 ≠ 0 then (0, (check code vs.length as.length).2)
  else if (vs.all isVal && as.all isVal) = false then (0, 2)
  else top (run vs as code [])

/-- An instruction put behind what is folded (the last one first). -/
def fstep (out : List In) (i : In) : List In :=
  if takes i.1 = 1 then match out with
    | (1, a) :: r => (match made i.1 a 0 0 with | some n => (1, n) :: r | none => i :: out)
    | _ => i :: out
  else if takes i.1 = 2 then match out with
    | (1, b) :: (1, a) :: r => (match made i.1 a b 0 with | some n => (1, n) :: r | none => i :: out)
    | _ => i :: out
  else if takes i.1 = 3 then match out with
    | (1, c) :: (1, b) :: (1, a) :: r => (match made i.1 a b c with | some n => (1, n) :: r | none => i :: out)
    | _ => i :: out
  else i :: out

/-- P3.3, where more than B variables and arguments are never asked for. -/
def fold (B : Int) (code : List In) : List In := if (check code B B).2 ≠ 0 then code else (code.foldl fstep []).reverse

/-- P3.4. -/
def usesTop (o most : Int) : List In → Int → Int
  | [], t => t
  | i :: r, t => usesTop o most r (if i.1 = o ∧ 0 ≤ i.2 ∧ i.2 < most then max t i.2 else t)
def uses (o most : Int) (code : List In) : List Bool := (List.range (usesTop o most code (-1) + 1).toNat).map fun (n : Nat) => code.any fun i => decide (i.1 = o ∧ i.2 = (n : Int))
def depth : List In → Int → Int → Int
  | [], _, m => m
  | i :: r, h, m => if 0 ≤ takes i.1 ∧ h < takes i.1 then 0 else depth r (if 0 ≤ takes i.1 then h - takes i.1 + 1 else h) (max m (if 0 ≤ takes i.1 then h - takes i.1 + 1 else h))

/-! ## Checking, by the error alone -/

/-- An instruction's error, or how many numbers are in the row behind it. -/
def cstep (nv na : Int) (i : In) (h : Int) : Except Int Int :=
  if takes i.1 < 0 then .error 2 else if right i nv na = false then .error 3 else if h < takes i.1 then .error 5 else .ok (h - takes i.1 + 1)
def crun (nv na : Int) : List In → Int → Except Int Int
  | [], h => .ok h
  | i :: r, h => (cstep nv na i h).bind (crun nv na r)
def cend : Except Int Int → Int
  | .error e => e
  | .ok h => if h = 1 then 0 else 6

theorem chk_err (nv na : Int) (code : List In) (k : Nat) (h : Int) : (chk nv na code k h).2 = cend (crun nv na code h) := by
  induction code generalizing k h with
  | nil => simp only [chk, crun, cend]; split <;> rfl
  | cons i r ih =>
    simp only [chk, crun, cstep]
    split
    · rfl
    · split
      · rfl
      · split
        · rfl
        · exact ih _ _

theorem crun_append (nv na : Int) (a b : List In) (h : Int) : crun nv na (a ++ b) h = (crun nv na a h).bind (crun nv na b) := by
  induction a generalizing h with
  | nil => rfl
  | cons i r ih =>
    simp only [List.cons_append, crun]
    cases cstep nv na i h with
    | error e => rfl
    | ok x => exact ih x

theorem run_append (vs as : List Int) (a b : List In) (st : List Int) : run vs as (a ++ b) st = (run vs as a st).bind (run vs as b) := by
  induction a generalizing st with
  | nil => rfl
  | cons i r ih =>
    simp only [List.cons_append, run]
    cases step vs as i st with
    | none => rfl
    | some x => exact ih x

theorem check_err (code : List In) (nv na : Int) : (check code nv na).2 = if nv < 0 ∨ na < 0 then 2 else if 31 < code.length then 4 else cend (crun nv na code 0) := by
  unfold check
  split
  · rfl
  · split
    · rfl
    · exact chk_err _ _ _ _ _

/-! ## What instructions come to are values -/

theorem isVal_one (b : Bool) : isVal (one b) = true := by cases b <;> decide

theorem gv_val (n m : Int) (h : gv n = some m) : isVal m = true := by
  unfold gv at h; split at h
  · cases h; assumption
  · cases h

theorem made_val (o a b c n : Int) (ha : isVal a = true) (hb : isVal b = true) (hc : isVal c = true) (h : made o a b c = some n) : isVal n = true := by
  unfold made at h
  by_cases h4 : o = 4
  · rw [if_pos h4] at h; cases h; rw [isVal_iff] at *; omega
  rw [if_neg h4] at h
  by_cases h5 : o = 5
  · rw [if_pos h5] at h; cases h; exact isVal_one _
  rw [if_neg h5] at h
  by_cases h6 : o = 6
  · rw [if_pos h6] at h; exact gv_val _ _ h
  rw [if_neg h6] at h
  by_cases h7 : o = 7
  · rw [if_pos h7] at h; exact gv_val _ _ h
  rw [if_neg h7] at h
  by_cases h8 : o = 8
  · rw [if_pos h8] at h; exact gv_val _ _ h
  rw [if_neg h8] at h
  by_cases h9 : o = 9
  · rw [if_pos h9] at h; cases h; split <;> assumption
  rw [if_neg h9] at h
  by_cases h10 : o = 10
  · rw [if_pos h10] at h; cases h; split <;> assumption
  rw [if_neg h10] at h
  by_cases h11 : o = 11
  · rw [if_pos h11] at h; cases h; exact isVal_one _
  rw [if_neg h11] at h
  by_cases h12 : o = 12
  · rw [if_pos h12] at h; cases h; exact isVal_one _
  rw [if_neg h12] at h
  by_cases h13 : o = 13
  · rw [if_pos h13] at h; cases h; exact isVal_one _
  rw [if_neg h13] at h
  by_cases h14 : o = 14
  · rw [if_pos h14] at h; cases h; exact isVal_one _
  rw [if_neg h14] at h
  by_cases h15 : o = 15
  · rw [if_pos h15] at h; cases h; exact isVal_one _
  rw [if_neg h15] at h
  cases h; split <;> assumption

theorem val0 : isVal 0 = true := by decide

/-- The numbers that an instruction does not take play no part. -/
theorem step_val (vs as : List Int) (i : In) (st st' : List Int) (hv : ∀ x ∈ vs, isVal x = true) (ha : ∀ x ∈ as, isVal x = true) (hi : i.1 = 1 → isVal i.2 = true) (hr : takes i.1 = 0 → i.1 = 1 ∨ i.1 = 2 ∨ i.1 = 3)
    (h0 : 0 ≤ takes i.1) (hst : ∀ x ∈ st, isVal x = true) (h : step vs as i st = some st') : ∀ x ∈ st', isVal x = true := by
  have hget : ∀ (l : List Int) (k : Nat), (∀ x ∈ l, isVal x = true) → isVal (l.getD k 0) = true := by
    intro l k hl
    rw [List.getD_eq_getElem?_getD]
    cases hk : l[k]? with
    | none => exact val0
    | some x => exact hl x (List.mem_of_getElem? hk)
  have push : ∀ (x : Int) (r : List Int), isVal x = true → (∀ y ∈ r, isVal y = true) → ∀ y ∈ x :: r, isVal y = true := by
    intro x r hx hr y hy
    rcases List.mem_cons.1 hy with rfl | hy
    · exact hx
    · exact hr y hy
  unfold step at h
  split at h
  · cases h; exact push _ _ (hget _ _ hv) hst
  · split at h
    · cases h; exact push _ _ (hget _ _ ha) hst
    · split at h
      · match st, h, hst with
        | a :: r, h, hst =>
          obtain ⟨n, hn, rfl⟩ := Option.map_eq_some_iff.1 h
          exact push _ _ (made_val _ _ _ _ _ (hst a (by simp)) val0 val0 hn) (fun y hy => hst y (by simp [hy]))
      · split at h
        · match st, h, hst with
          | b :: a :: r, h, hst =>
            obtain ⟨n, hn, rfl⟩ := Option.map_eq_some_iff.1 h
            exact push _ _ (made_val _ _ _ _ _ (hst a (by simp)) (hst b (by simp)) val0 hn) (fun y hy => hst y (by simp [hy]))
        · split at h
          · match st, h, hst with
            | c :: b :: a :: r, h, hst =>
              obtain ⟨n, hn, rfl⟩ := Option.map_eq_some_iff.1 h
              exact push _ _ (made_val _ _ _ _ _ (hst a (by simp)) (hst b (by simp)) (hst c (by simp)) hn) (fun y hy => hst y (by simp [hy]))
          · cases h
            refine push _ _ (hi ?_) hst
            have ht : takes i.1 = 0 := by
              have h1 : takes i.1 = -1 ∨ takes i.1 = 0 ∨ takes i.1 = 1 ∨ takes i.1 = 2 ∨ takes i.1 = 3 := by
                unfold takes; repeat' split
                all_goals omega
              omega
            rcases hr ht with h1 | h1 | h1 <;> first | exact h1 | contradiction

theorem takes_zero (o : Int) (h : takes o = 0) : o = 1 ∨ o = 2 ∨ o = 3 := by
  unfold takes at h
  repeat' split at h
  all_goals omega

end Go.Proofs.YtfcdkjhabdpijaaDoor.E
