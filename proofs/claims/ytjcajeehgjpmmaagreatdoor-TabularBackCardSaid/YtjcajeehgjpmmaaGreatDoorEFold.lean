/-
  Plain mathematics of layer 3 (expr): which instructions may be, what they come to, what is folded; no program is named here.
  Plain mathematics of layer 3 (expr), continued: what is folded is checked and comes to the same, is not longer, and stays.
-/
import Derived.Laws.Concat
namespace Go.Proofs.YtjcajeehgjpmmaaGreatDoor.E
open Go
set_option linter.unusedVariables false

/-- An instruction: what it does, and a number. -/
abbrev In := Int × Int

/-- How many numbers an instruction takes; -1: it is none. -/
def takes (o : Int) : Int := if o < 1 ∨ 16 < o then -1 else if o < 4 then 0 else if o < 6 then 1 else if o < 16 then 2 else 3

/-- May a number be a value? -/
def isVal (n : Int) : Bool := decide (-1099511627776 ≤ n ∧ n ≤ 1099511627776)

theorem isVal_iff (n : Int) : isVal n = true ↔ -1099511627776 ≤ n ∧ n ≤ 1099511627776 := by unfold isVal; exact decide_eq_true_iff
theorem isVal_not (n : Int) : isVal n = false ↔ ¬ (-1099511627776 ≤ n ∧ n ≤ 1099511627776) := by unfold isVal; exact decide_eq_false_iff_not

/-- May an instruction have its number, with so many variables and arguments? -/
def right (i : In) (nv na : Int) : Bool :=
  if i.1 = 1 then isVal i.2 else if i.1 = 2 then decide (0 ≤ i.2 ∧ i.2 < nv) else if i.1 = 3 then decide (0 ≤ i.2 ∧ i.2 < na) else decide (i.2 = 0)

/-- Check's way through the instructions: what is left, the place, how many numbers are in the row; the place and the error. -/
def chk (nv na : Int) : List In → Nat → Int → Int × Int
  | [], k, h => if h = 1 then (0, 0) else (k, 6)
  | i :: r, k, h => if takes i.1 < 0 then (k, 2) else if right i nv na = false then (k, 3) else if h < takes i.1 then (k, 5) else chk nv na r (k + 1) (h - takes i.1 + 1)

/-- P3.1. -/
def check (code : List In) (nv na : Int) : Int × Int :=
  if nv < 0 ∨ na < 0 then (0, 2) else if 31 < code.length then (0, 4) else chk nv na code 0 0

def one (b : Bool) : Int := if b = true then 1 else 0

/-- A number, if it is a value. -/
def gv (n : Int) : Option Int := if isVal n = true then some n else none

/-- What an instruction comes to, of the numbers that it takes (those that it does not take play no part). -/
def made (o a b c : Int) : Option Int :=
  if o = 4 then some (-a) else if o = 5 then some (one (decide (a = 0))) else if o = 6 then gv (a + b) else if o = 7 then gv (a - b) else if o = 8 then gv (a * b)
  else if o = 9 then some (if a ≤ b then a else b) else if o = 10 then some (if a ≤ b then b else a) else if o = 11 then some (one (decide (a < b))) else if o = 12 then some (one (decide (a ≤ b)))
  else if o = 13 then some (one (decide (a = b))) else if o = 14 then some (one (decide (a ≠ 0 ∧ b ≠ 0))) else if o = 15 then some (one (decide (a ≠ 0 ∨ b ≠ 0))) else some (if a ≠ 0 then b else c)

/-- An instruction on a row of numbers, the last one first. -/
def step (vs as : List Int) (i : In) (st : List Int) : Option (List Int) :=
  if i.1 = 2 then some (vs.getD i.2.toNat 0 :: st) else if i.1 = 3 then some (as.getD i.2.toNat 0 :: st)
  else if takes i.1 = 1 then match st with | a :: r => (made i.1 a 0 0).map (· :: r) | _ => none
  else if takes i.1 = 2 then match st with | b :: a :: r => (made i.1 a b 0).map (· :: r) | _ => none
  else if takes i.1 = 3 then match st with | c :: b :: a :: r => (made i.1 a b c).map (· :: r) | _ => none
  else some (i.2 :: st)

/-- All instructions, one behind the other. -/
def run (vs as : List Int) : List In → List Int → Option (List Int)
  | [], st => some st
  | i :: r, st => (step vs as i st).bind (run vs as r)

/-- What is left, or that there is nothing. -/
def top : Option (List Int) → Int × Int
  | some (x :: _) => (x, 0)
  | _ => (0, 3)

/-- P3.2. -/
def eval (code : List In) (vs as : List Int) : Int × Int :=
  if (check code vs.length as.length).2 ≠ 0 then (0, (check code vs.length as.length).2)
  else if (vs.all isVal && as.all isVal) = false then (0, 2)
  else top (run vs as code [])

/-- An instruction put behind what is folded (the last one first). -/
def fstep (out : List In) (i : In) : List In :=
  if takes i.1 = 1 then match out with
    | (1, a) :: r => (match made i.1 a 0 0 with | some n => (1, n) :: r | none => i :: out)
    | _ => i :: out
  else if takes i.1 = 2 then match out with
    | (1, b) :: (1, a) :: r => (match made i.1 a b 0 with | some n => (1, n) :: r | none => i :: out)
    | _ => i :: out
  else if takes i.1 = 3 then match out with
    | (1, c) :: (1, b) :: (1, a) :: r => (match made i.1 a b c with | some n => (1, n) :: r | none => i :: out)
    | _ => i :: out
  else i :: out

/-- P3.3, where more than B variables and arguments are never asked for. -/
def fold (B : Int) (code : List In) : List In := if (check code B B).2 ≠ 0 then code else (code.foldl fstep []).reverse

/-- P3.4. -/
def usesTop (o most : Int) : List In → Int → Int
  | [], t => t
  | i :: r, t => usesTop o most r (if i.1 = o ∧ 0 ≤ i.2 ∧ i.2 < most then max t i.2 else t)
def uses (o most : Int) (code : List In) : List Bool := (List.range (usesTop o most code (-1) + 1).toNat).map fun (n : Nat) => code.any fun i => decide (i.1 = o ∧ i.2 = (n : Int))
def depth : List In → Int → Int → Int
  | [], _, m => m
  | i :: r, h, m => if 0 ≤ takes i.1 ∧ h < takes i.1 then 0 else depth r (if 0 ≤ takes i.1 then h - takes i.1 + 1 else h) (max m (if 0 ≤ takes i.1 then h - takes i.1 + 1 else h))

/-! ## Checking, by the error alone -/

/-- An instruction's error, or how many numbers are in the row behind it. -/
def cstep (nv na : Int) (i : In) (h : Int) : Except Int Int :=
  if takes i.1 < 0 then .error 2 else if right i nv na = false then .error 3 else if h < takes i.1 then .error 5 else .ok (h - takes i.1 + 1)
def crun (nv na : Int) : List In → Int → Except Int Int
  | [], h => .ok h
  | i :: r, h => (cstep nv na i h).bind (crun nv na r)
def cend : Except Int Int → Int
  | .error e => e
  | .ok h => if h = 1 then 0 else 6

theorem chk_err (nv na : Int) (code : List In) (k : Nat) (h : Int) : (chk nv na code k h).2 = cend (crun nv na code h) := by
  induction code generalizing k h with
  | nil => simp only [chk, crun, cend]; split <;> rfl
  | cons i r ih =>
    simp only [chk, crun, cstep]
    split
    · rfl
    · split
      · rfl
      · split
        · rfl
        · exact ih _ _

theorem crun_append (nv na : Int) (a b : List In) (h : Int) : crun nv na (a ++ b) h = (crun nv na a h).bind (crun nv na b) := by
  induction a generalizing h with
  | nil => rfl
  | cons i r ih =>
    simp only [List.cons_append, crun]
    cases cstep nv na i h with
    | error e => rfl
    | ok x => exact ih x

theorem run_append (vs as : List Int) (a b : List In) (st : List Int) : run vs as (a ++ b) st = (run vs as a st).bind (run vs as b) := by
  induction a generalizing st with
  | nil => rfl
  | cons i r ih =>
    simp only [List.cons_append, run]
    cases step vs as i st with
    | none => rfl
    | some x => exact ih x

theorem check_err (code : List In) (nv na : Int) : (check code nv na).2 = if nv < 0 ∨ na < 0 then 2 else if 31 < code.length then 4 else cend (crun nv na code 0) := by
  unfold check
  split
  · rfl
  · split
    · rfl
    · exact chk_err _ _ _ _ _

/-! ## What instructions come to are values -/

theorem isVal_one (b : Bool) : isVal (one b) = true := by cases b <;> decide

theorem gv_val (n m : Int) (h : gv n = some m) : isVal m = true := by
  unfold gv at h; split at h
  · cases h; assumption
  · cases h

theorem made_val (o a b c n : Int) (ha : isVal a = true) (hb : isVal b = true) (hc : isVal c = true) (h : made o a b c = some n) : isVal n = true := by
  unfold made at h
  by_cases h4 : o = 4
  · rw [if_pos h4] at h; cases h; rw [isVal_iff] at *; omega
  rw [if_neg h4] at h
  by_cases h5 : o = 5
  · rw [if_pos h5] at h; cases h; exact isVal_one _
  rw [if_neg h5] at h
  by_cases h6 : o = 6
  · rw [if_pos h6] at h; exact gv_val _ _ h
  rw [if_neg h6] at h
  by_cases h7 : o = 7
  · rw [if_pos h7] at h; exact gv_val _ _ h
  rw [if_neg h7] at h
  by_cases h8 : o = 8
  · rw [if_pos h8] at h; exact gv_val _ _ h
  rw [if_neg h8] at h
  by_cases h9 : o = 9
  · rw [if_pos h9] at h; cases h; split <;> assumption
  rw [if_neg h9] at h
  by_cases h10 : o = 10
  · rw [if_pos h10] at h; cases h; split <;> assumption
  rw [if_neg h10] at h
  by_cases h11 : o = 11
  · rw [if_pos h11] at h; cases h; exact isVal_one _
  rw [if_neg h11] at h
  by_cases h12 : o = 12
  · rw [if_pos h12] at h; cases h; exact isVal_one _
  rw [if_neg h12] at h
  by_cases h13 : o = 13
  · rw [if_pos h13] at h; cases h; exact isVal_one _
  rw [if_neg h13] at h
  by_cases h14 : o = 14
  · rw [if_pos h14] at h; cases h; exact isVal_one _
  rw [if_neg h14] at h
  by_cases h15 : o = 15
  · rw [if_pos h15] at h; cases h; exact isVal_one _
  rw [if_neg h15] at h
  cases h; split <;> assumption

theorem val0 : isVal 0 = true := by decide

/-- The numbers that an instruction does not take play no part. -/
theorem step_val (vs as : List Int) (i : In) (st st' : List Int) (hv : ∀ x ∈ vs, isVal x = true) (ha : ∀ x ∈ as, isVal x = true) (hi : i.1 = 1 → isVal i.2 = true) (hr : takes i.1 = 0 → i.1 = 1 ∨ i.1 = 2 ∨ i.1 = 3)
    (h0 : 0 ≤ takes i.1) (hst : ∀ x ∈ st, isVal x = true) (h : step vs as i st = some st') : ∀ x ∈ st', isVal x = true := by
  have hget : ∀ (l : List Int) (k : Nat), (∀ x ∈ l, isVal x = true) → isVal (l.getD k 0) = true := by
    intro l k hl
    rw [List.getD_eq_getElem?_getD]
    cases hk : l[k]? with
    | none => exact val0
    | some x => exact hl x (List.mem_of_getElem? hk)
  have push : ∀ (x : Int) (r : List Int), isVal x = true → (∀ y ∈ r, isVal y = true) → ∀ y ∈ x :: r, isVal y = true := by
    intro x r hx hr y hy
    rcases List.mem_cons.1 hy with rfl | hy
    · exact hx
    · exact hr y hy
  unfold step at h
  split at h
  · cases h; exact push _ _ (hget _ _ hv) hst
  · split at h
    · cases h; exact push _ _ (hget _ _ ha) hst
    · split at h
      · match st, h, hst with
        | a :: r, h, hst =>
          obtain ⟨n, hn, rfl⟩ := Option.map_eq_some_iff.1 h
          exact push _ _ (made_val _ _ _ _ _ (hst a (by simp)) val0 val0 hn) (fun y hy => hst y (by simp [hy]))
      · split at h
        · match st, h, hst with
          | b :: a :: r, h, hst =>
            obtain ⟨n, hn, rfl⟩ := Option.map_eq_some_iff.1 h
            exact push _ _ (made_val _ _ _ _ _ (hst a (by simp)) (hst b (by simp)) val0 hn) (fun y hy => hst y (by simp [hy]))
        · split at h
          · match st, h, hst with
            | c :: b :: a :: r, h, hst =>
              obtain ⟨n, hn, rfl⟩ := Option.map_eq_some_iff.1 h
              exact push _ _ (made_val _ _ _ _ _ (hst a (by simp)) (hst b (by simp)) (hst c (by simp)) hn) (fun y hy => hst y (by simp [hy]))
          · cases h
            refine push _ _ (hi ?_) hst
            have ht : takes i.1 = 0 := by
              have h1 : takes i.1 = -1 ∨ takes i.1 = 0 ∨ takes i.1 = 1 ∨ takes i.1 = 2 ∨ takes i.1 = 3 := by
                unfold takes; repeat' split
                all_goals omega
              omega
            rcases hr ht with h1 | h1 | h1 <;> first | exact h1 | contradiction

theorem takes_zero (o : Int) (h : takes o = 0) : o = 1 ∨ o = 2 ∨ o = 3 := by
  unfold takes at h
  repeat' split at h
  all_goals omega

end Go.Proofs.YtjcajeehgjpmmaaGreatDoor.E

namespace Go.Proofs.YtjcajeehgjpmmaaGreatDoor.E
open Go
set_option linter.unusedVariables false

theorem takes_const : takes 1 = 0 := by decide

theorem cstep_const (nv na a h : Int) (ha : isVal a = true) : cstep nv na (1, a) h = if h < 0 then .error 5 else .ok (h + 1) := by
  have hr : right (1, a) nv na = true := by unfold right; rw [if_pos rfl]; exact ha
  unfold cstep
  rw [takes_const, hr]
  simp

theorem step_const (vs as : List Int) (a : Int) (st : List Int) : step vs as (1, a) st = some (a :: st) := by
  unfold step
  rw [takes_const]
  simp

/-- An instruction that takes numbers is no Const, Var or Arg: its number must be 0, whatever the variables are. -/
theorem right_op (i : In) (nv na nv' na' : Int) (h : 0 < takes i.1) : right i nv na = right i nv' na' := by
  have h1 : i.1 ≠ 1 := by intro e; rw [e] at h; revert h; decide
  have h2 : i.1 ≠ 2 := by intro e; rw [e] at h; revert h; decide
  have h3 : i.1 ≠ 3 := by intro e; rw [e] at h; revert h; decide
  unfold right
  rw [if_neg h1, if_neg h2, if_neg h3, if_neg h1, if_neg h2, if_neg h3]

theorem cstep_op (nv na : Int) (i : In) (h : Int) (ht : 0 < takes i.1) (hr : right i nv na = true) : cstep nv na i h = if h < takes i.1 then .error 5 else .ok (h - takes i.1 + 1) := by
  unfold cstep
  rw [if_neg (by omega), hr]
  simp

theorem step_op (vs as : List Int) (i : In) (h : 0 < takes i.1) : i.1 ≠ 2 ∧ i.1 ≠ 3 :=
  ⟨fun e => by rw [e] at h; revert h; decide, fun e => by rw [e] at h; revert h; decide⟩

theorem fold1 (nv na : Int) (i : In) (a n h : Int) (ht : takes i.1 = 1) (hr : right i nv na = true) (ha : isVal a = true) (hn : isVal n = true) :
    crun nv na [(1, a), i] h = crun nv na [(1, n)] h := by
  simp only [crun, cstep_const _ _ _ _ ha, cstep_const _ _ _ _ hn]
  by_cases h0 : h < 0
  · simp only [if_pos h0]; rfl
  · simp only [if_neg h0, Except.bind, cstep_op nv na i _ (by omega) hr, ht]
    rw [if_neg (by omega)]
    simp only
    congr 1; omega

theorem fold2 (nv na : Int) (i : In) (a b n h : Int) (ht : takes i.1 = 2) (hr : right i nv na = true) (ha : isVal a = true) (hb : isVal b = true) (hn : isVal n = true) :
    crun nv na [(1, a), (1, b), i] h = crun nv na [(1, n)] h := by
  simp only [crun, cstep_const _ _ _ _ ha, cstep_const _ _ _ _ hb, cstep_const _ _ _ _ hn]
  by_cases h0 : h < 0
  · simp only [if_pos h0]; rfl
  · simp only [if_neg h0, Except.bind]
    rw [if_neg (by omega)]
    simp only [cstep_op nv na i _ (by omega) hr, ht]
    rw [if_neg (by omega)]
    simp only
    congr 1; omega

theorem fold3 (nv na : Int) (i : In) (a b c n h : Int) (ht : takes i.1 = 3) (hr : right i nv na = true) (ha : isVal a = true) (hb : isVal b = true) (hc : isVal c = true) (hn : isVal n = true) :
    crun nv na [(1, a), (1, b), (1, c), i] h = crun nv na [(1, n)] h := by
  simp only [crun, cstep_const _ _ _ _ ha, cstep_const _ _ _ _ hb, cstep_const _ _ _ _ hc, cstep_const _ _ _ _ hn]
  by_cases h0 : h < 0
  · simp only [if_pos h0]; rfl
  · simp only [if_neg h0, Except.bind]
    rw [if_neg (by omega)]
    simp only
    rw [if_neg (by omega)]
    simp only [cstep_op nv na i _ (by omega) hr, ht]
    rw [if_neg (by omega)]
    simp only
    congr 1; omega

theorem run1 (vs as : List Int) (i : In) (a n : Int) (st : List Int) (ht : takes i.1 = 1) (hm : made i.1 a 0 0 = some n) : run vs as [(1, a), i] st = run vs as [(1, n)] st := by
  have h := step_op vs as i (by omega)
  simp only [run, step_const, Option.bind]
  unfold step
  rw [if_neg h.1, if_neg h.2, if_pos ht]
  simp only [hm, Option.map]

theorem run2 (vs as : List Int) (i : In) (a b n : Int) (st : List Int) (ht : takes i.1 = 2) (hm : made i.1 a b 0 = some n) : run vs as [(1, a), (1, b), i] st = run vs as [(1, n)] st := by
  have h := step_op vs as i (by omega)
  simp only [run, step_const, Option.bind]
  unfold step
  rw [if_neg h.1, if_neg h.2, if_neg (by omega), if_pos ht]
  simp only [hm, Option.map]

theorem run3 (vs as : List Int) (i : In) (a b c n : Int) (st : List Int) (ht : takes i.1 = 3) (hm : made i.1 a b c = some n) : run vs as [(1, a), (1, b), (1, c), i] st = run vs as [(1, n)] st := by
  have h := step_op vs as i (by omega)
  simp only [run, step_const, Option.bind]
  unfold step
  rw [if_neg h.1, if_neg h.2, if_neg (by omega), if_neg (by omega), if_pos ht]
  simp only [hm, Option.map]

/-- What holds of what is folded so far (the last one first) of the instructions p. -/
structure Folds (p out : List In) : Prop where
  chk : ∀ nv na h, crun nv na out.reverse h = crun nv na p h
  run : ∀ vs as st, run vs as out.reverse st = run vs as p st
  len : out.length ≤ p.length
  stay : ∀ k, (out.drop k).reverse.foldl fstep [] = out.drop k
  val : ∀ i ∈ out, i.1 = 1 → isVal i.2 = true

theorem Folds.nil : Folds [] [] := ⟨fun _ _ _ => rfl, fun _ _ _ => rfl, Nat.le_refl _, fun k => by simp, by simp⟩

theorem bind_eq {α β ε : Type} {x : Except ε α} {f g : α → Except ε β} (h : ∀ a, f a = g a) : x.bind f = x.bind g := by
  cases x with
  | error e => rfl
  | ok a => exact h a

theorem obind_eq {α β : Type} {x : Option α} {f g : α → Option β} (h : ∀ a, f a = g a) : x.bind f = x.bind g := by
  cases x with
  | none => rfl
  | some a => exact h a

/-- Where nothing is folded. -/
theorem Folds.push {p out : List In} (F : Folds p out) (i : In) (hf : fstep out i = i :: out) (hv : i.1 = 1 → isVal i.2 = true) : Folds (p ++ [i]) (i :: out) := by
  refine ⟨fun nv na h => ?_, fun vs as st => ?_, by simpa using F.len, fun k => ?_, fun j hj => ?_⟩
  · rw [List.reverse_cons, crun_append, crun_append, F.chk]
  · rw [List.reverse_cons, run_append, run_append, F.run]
  · cases k with
    | zero =>
      have h0 := F.stay 0
      rw [List.drop_zero] at h0
      rw [List.drop_zero, List.reverse_cons, List.foldl_append, h0]
      exact hf
    | succ k => exact F.stay k
  · rcases List.mem_cons.1 hj with rfl | hj
    · exact hv
    · exact F.val j hj

/-- Where the last instructions become one Const. -/
theorem Folds.join {p out : List In} (F : Folds p out) (i : In) (cs r : List In) (n : Int) (ho : out = cs.reverse ++ r) (hcs : 0 < cs.length) (hn : isVal n = true)
    (hc : ∀ nv na h, crun nv na (cs ++ [i]) h = crun nv na [(1, n)] h) (hr : ∀ vs as st, Go.Proofs.YtjcajeehgjpmmaaGreatDoor.E.run vs as (cs ++ [i]) st = Go.Proofs.YtjcajeehgjpmmaaGreatDoor.E.run vs as [(1, n)] st) : Folds (p ++ [i]) ((1, n) :: r) := by
  have hrev : out.reverse = r.reverse ++ cs := by rw [ho, List.reverse_append, List.reverse_reverse]
  have hd : ∀ k, r.drop k = out.drop (cs.length + k) := by
    intro k; rw [ho, show cs.length + k = cs.reverse.length + k by simp, List.drop_append]
    simp
  refine ⟨fun nv na h => ?_, fun vs as st => ?_, ?_, fun k => ?_, fun j hj => ?_⟩
  · rw [List.reverse_cons, crun_append, crun_append nv na p, ← F.chk, hrev, crun_append nv na r.reverse]
    cases crun nv na r.reverse h with
    | error e => rfl
    | ok x =>
      have := hc nv na x
      rw [crun_append] at this
      exact this.symm
  · rw [List.reverse_cons, run_append, run_append vs as p, ← F.run, hrev, run_append vs as r.reverse]
    cases Go.Proofs.YtjcajeehgjpmmaaGreatDoor.E.run vs as r.reverse st with
    | none => rfl
    | some x =>
      have := hr vs as x
      rw [run_append] at this
      exact this.symm
  · have := F.len
    rw [ho, List.length_append, List.length_reverse] at this
    simp only [List.length_cons, List.length_append, List.length_nil]
    omega
  · cases k with
    | zero =>
      have h0 := F.stay cs.length
      have hd0 := hd 0
      rw [List.drop_zero, Nat.add_zero] at hd0
      rw [List.drop_zero, List.reverse_cons, List.foldl_append, hd0, h0]
      show fstep _ (1, n) = _
      unfold fstep
      rw [takes_const]
      simp
    | succ k =>
      rw [List.drop_succ_cons, hd k]
      exact F.stay _
  · rcases List.mem_cons.1 hj with rfl | hj
    · intro _; exact hn
    · exact F.val j (by rw [ho]; exact List.mem_append_right _ hj)

theorem Folds.step {p out : List In} (F : Folds p out) (i : In) (B h h' : Int) (hi : cstep B B i h = .ok h') : Folds (p ++ [i]) (fstep out i) := by
  have hr : right i B B = true := by
    unfold cstep at hi
    split at hi
    · cases hi
    · split at hi
      · cases hi
      · rename_i _ h1; simpa using h1
  have hv : i.1 = 1 → isVal i.2 = true := by
    intro e; unfold right at hr; rw [if_pos e] at hr; exact hr
  by_cases t1 : takes i.1 = 1
  · by_cases hx : ∃ a r n, out = (1, a) :: r ∧ made i.1 a 0 0 = some n
    · obtain ⟨a, r, n, rfl, hm⟩ := hx
      have ha : isVal a = true := F.val (1, a) (by simp) rfl
      have hn := made_val _ _ _ _ _ ha val0 val0 hm
      have hf : fstep ((1, a) :: r) i = (1, n) :: r := by unfold fstep; rw [if_pos t1]; simp only [hm]
      rw [hf]
      exact F.join i [(1, a)] r n rfl (by simp) hn (fun nv na h => fold1 nv na i a n h t1 (by rw [right_op i nv na B B (by omega)]; exact hr) ha hn) (fun vs as st => run1 vs as i a n st t1 hm)
    · have hf : fstep out i = i :: out := by
        unfold fstep; rw [if_pos t1]
        split
        · rename_i a r
          split
          · rename_i n hm; exact absurd ⟨a, r, n, rfl, hm⟩ hx
          · rfl
        · rfl
      rw [hf]; exact F.push i hf hv
  by_cases t2 : takes i.1 = 2
  · by_cases hx : ∃ a b r n, out = (1, b) :: (1, a) :: r ∧ made i.1 a b 0 = some n
    · obtain ⟨a, b, r, n, rfl, hm⟩ := hx
      have ha : isVal a = true := F.val (1, a) (by simp) rfl
      have hb : isVal b = true := F.val (1, b) (by simp) rfl
      have hn := made_val _ _ _ _ _ ha hb val0 hm
      have hf : fstep ((1, b) :: (1, a) :: r) i = (1, n) :: r := by unfold fstep; rw [if_neg t1, if_pos t2]; simp only [hm]
      rw [hf]
      exact F.join i [(1, a), (1, b)] r n rfl (by simp) hn (fun nv na h => fold2 nv na i a b n h t2 (by rw [right_op i nv na B B (by omega)]; exact hr) ha hb hn) (fun vs as st => run2 vs as i a b n st t2 hm)
    · have hf : fstep out i = i :: out := by
        unfold fstep; rw [if_neg t1, if_pos t2]
        split
        · rename_i b a r
          split
          · rename_i n hm; exact absurd ⟨a, b, r, n, rfl, hm⟩ hx
          · rfl
        · rfl
      rw [hf]; exact F.push i hf hv
  by_cases t3 : takes i.1 = 3
  · by_cases hx : ∃ a b c r n, out = (1, c) :: (1, b) :: (1, a) :: r ∧ made i.1 a b c = some n
    · obtain ⟨a, b, c, r, n, rfl, hm⟩ := hx
      have ha : isVal a = true := F.val (1, a) (by simp) rfl
      have hb : isVal b = true := F.val (1, b) (by simp) rfl
      have hc : isVal c = true := F.val (1, c) (by simp) rfl
      have hn := made_val _ _ _ _ _ ha hb hc hm
      have hf : fstep ((1, c) :: (1, b) :: (1, a) :: r) i = (1, n) :: r := by unfold fstep; rw [if_neg t1, if_neg t2, if_pos t3]; simp only [hm]
      rw [hf]
      exact F.join i [(1, a), (1, b), (1, c)] r n rfl (by simp) hn (fun nv na h => fold3 nv na i a b c n h t3 (by rw [right_op i nv na B B (by omega)]; exact hr) ha hb hc hn) (fun vs as st => run3 vs as i a b c n st t3 hm)
    · have hf : fstep out i = i :: out := by
        unfold fstep; rw [if_neg t1, if_neg t2, if_pos t3]
        split
        · rename_i c b a r
          split
          · rename_i n hm; exact absurd ⟨a, b, c, r, n, rfl, hm⟩ hx
          · rfl
        · rfl
      rw [hf]; exact F.push i hf hv
  · have hf : fstep out i = i :: out := by unfold fstep; rw [if_neg t1, if_neg t2, if_neg t3]
    rw [hf]; exact F.push i hf hv

theorem Folds.all (B : Int) (code : List In) : ∀ (p out : List In) (h h' : Int), Folds p out → crun B B code h = .ok h' → Folds (p ++ code) (code.foldl fstep out) := by
  induction code with
  | nil => intro p out h h' F _; rw [List.append_nil]; exact F
  | cons i r ih =>
    intro p out h h' F hc
    simp only [crun] at hc
    cases hs : cstep B B i h with
    | error e => rw [hs] at hc; cases hc
    | ok x =>
      rw [hs] at hc
      have := ih (p ++ [i]) (fstep out i) x h' (F.step i B h x hs) hc
      rw [List.append_assoc] at this
      exact this

theorem crun_error (nv na : Int) (code : List In) (h e : Int) (hx : crun nv na code h = .error e) : e = 2 ∨ e = 3 ∨ e = 5 := by
  induction code generalizing h with
  | nil => cases hx
  | cons i r ih =>
    simp only [crun] at hx
    cases hs : cstep nv na i h with
    | error e' =>
      rw [hs] at hx
      cases hx
      unfold cstep at hs
      split at hs
      · cases hs; simp
      · split at hs
        · cases hs; simp
        · split at hs
          · cases hs; simp
          · cases hs
    | ok x => rw [hs] at hx; exact ih x hx

theorem check_ok (code : List In) (nv na : Int) (h : (check code nv na).2 = 0) : 0 ≤ nv ∧ 0 ≤ na ∧ code.length ≤ 31 ∧ crun nv na code 0 = .ok 1 := by
  rw [check_err] at h
  split at h
  · cases h
  · split at h
    · cases h
    · cases hx : crun nv na code 0 with
      | error e =>
        rw [hx] at h
        have h2 := crun_error _ _ _ _ _ hx
        have h1 : e = 0 := h
        omega
      | ok x =>
        rw [hx] at h
        unfold cend at h
        simp only at h
        split at h
        · subst x; exact ⟨by omega, by omega, by omega, rfl⟩
        · cases h

/-- What Fold leaves: as it was, or folded whole. -/
theorem fold_cases (B : Int) (code : List In) : fold B code = code ∨ ((check code B B).2 = 0 ∧ fold B code = (code.foldl fstep []).reverse ∧ Folds code (code.foldl fstep [])) := by
  by_cases h : (check code B B).2 = 0
  · right
    exact ⟨h, by unfold fold; rw [if_neg (by omega)], Folds.all B code [] [] 0 1 Folds.nil (check_ok code B B h).2.2.2⟩
  · left; unfold fold; rw [if_pos h]

theorem fold_length (B : Int) (code : List In) : (fold B code).length ≤ code.length := by
  rcases fold_cases B code with h | ⟨_, h, F⟩
  · rw [h]; exact Nat.le_refl _
  · rw [h, List.length_reverse]; exact F.len

theorem fold_fold (B : Int) (code : List In) : fold B (fold B code) = fold B code := by
  rcases fold_cases B code with h | ⟨_, h, F⟩
  · rw [h, h]
  · rw [h]
    unfold fold
    split
    · rfl
    · have h0 := F.stay 0
      rw [List.drop_zero] at h0
      rw [h0]

theorem fold_check (B : Int) (code : List In) (nv na : Int) : (check (fold B code) nv na).2 = (check code nv na).2 := by
  rcases fold_cases B code with h | ⟨hc, h, F⟩
  · rw [h]
  · have hl := (check_ok code B B hc).2.2.1
    have hl2 := F.len
    rw [h, check_err, check_err, F.chk, List.length_reverse]
    rw [if_neg (show ¬ 31 < (code.foldl fstep []).length by omega), if_neg (show ¬ 31 < code.length by omega)]

theorem fold_run (B : Int) (code : List In) (vs as st : List Int) : run vs as (fold B code) st = run vs as code st := by
  rcases fold_cases B code with h | ⟨_, h, F⟩
  · rw [h]
  · rw [h, F.run]

/-- P3.5. -/
theorem eval_fold (B : Int) (code : List In) (vs as : List Int) : eval (fold B code) vs as = eval code vs as := by
  unfold eval; rw [fold_check, fold_run]

/-- What is folded is of what there was, or a Const. -/
theorem fstep_mem (out : List In) (x i : In) (h : i ∈ fstep out x) : i = x ∨ i ∈ out ∨ i.1 = 1 := by
  have hc : ∀ (n : Int) (r : List In), (∀ j ∈ r, j ∈ out) → i ∈ ((1, n) : In) :: r → i = x ∨ i ∈ out ∨ i.1 = 1 := by
    intro n r hr hi
    rcases List.mem_cons.1 hi with rfl | hi
    · exact Or.inr (Or.inr rfl)
    · exact Or.inr (Or.inl (hr i hi))
  have hp : i ∈ x :: out → i = x ∨ i ∈ out ∨ i.1 = 1 := by
    intro hi
    rcases List.mem_cons.1 hi with rfl | hi
    · exact Or.inl rfl
    · exact Or.inr (Or.inl hi)
  unfold fstep at h
  split at h
  · split at h
    · split at h
      · exact hc _ _ (fun j hj => by simp [hj]) h
      · exact hp h
    · exact hp h
  · split at h
    · split at h
      · split at h
        · exact hc _ _ (fun j hj => by simp [hj]) h
        · exact hp h
      · exact hp h
    · split at h
      · split at h
        · split at h
          · exact hc _ _ (fun j hj => by simp [hj]) h
          · exact hp h
        · exact hp h
      · exact hp h

theorem foldl_mem (code out : List In) (i : In) (h : i ∈ code.foldl fstep out) : i ∈ code ∨ i ∈ out ∨ i.1 = 1 := by
  induction code generalizing out with
  | nil => exact Or.inr (Or.inl h)
  | cons x r ih =>
    rcases ih _ h with h1 | h1 | h1
    · exact Or.inl (by simp [h1])
    · rcases fstep_mem out x i h1 with h2 | h2 | h2
      · exact Or.inl (by simp [h2])
      · exact Or.inr (Or.inl h2)
      · exact Or.inr (Or.inr h2)
    · exact Or.inr (Or.inr h1)

theorem fold_mem (B : Int) (code : List In) (i : In) (h : i ∈ fold B code) : i ∈ code ∨ (i.1 = 1 ∧ isVal i.2 = true) := by
  rcases fold_cases B code with e | ⟨_, e, F⟩
  · rw [e] at h; exact Or.inl h
  · rw [e, List.mem_reverse] at h
    rcases foldl_mem code [] i h with h1 | h1 | h1
    · exact Or.inl h1
    · cases h1
    · exact Or.inr ⟨h1, F.val i h h1⟩

/-! ## Eval by cases -/

theorem eval_bad (code : List In) (vs as : List Int) (h : (check code vs.length as.length).2 ≠ 0) : eval code vs as = (0, (check code vs.length as.length).2) := by
  unfold eval; rw [if_pos h]

theorem eval_none (code : List In) (vs as : List Int) (h : (check code vs.length as.length).2 = 0) (hv : (vs.all isVal && as.all isVal) = false) : eval code vs as = (0, 2) := by
  unfold eval; rw [if_neg (by omega), if_pos hv]

theorem eval_run (code : List In) (vs as : List Int) (h : (check code vs.length as.length).2 = 0) (hv : (vs.all isVal && as.all isVal) = true) :
    eval code vs as = top (run vs as code []) := by
  unfold eval; rw [if_neg (by omega), if_neg (by rw [hv]; simp)]

/-- An error's number is none that Check does not have. -/
theorem check_errs (code : List In) (nv na : Int) : (check code nv na).2 = 0 ∨ (check code nv na).2 = 2 ∨ (check code nv na).2 = 3 ∨ (check code nv na).2 = 4 ∨ (check code nv na).2 = 5 ∨ (check code nv na).2 = 6 := by
  rw [check_err]
  split
  · simp
  · split
    · simp
    · cases hx : crun nv na code 0 with
      | error e => have := crun_error _ _ _ _ _ hx; simp only [cend]; omega
      | ok x => simp only [cend]; split <;> simp

/-- What is in the row are values. -/
theorem run_val (nv na : Int) (vs as : List Int) (hv : ∀ x ∈ vs, isVal x = true) (ha : ∀ x ∈ as, isVal x = true) (code : List In) (h h' : Int) (st st' : List Int) (hc : crun nv na code h = .ok h') (hst : ∀ x ∈ st, isVal x = true)
    (hr : run vs as code st = some st') : ∀ x ∈ st', isVal x = true := by
  induction code generalizing h st with
  | nil => cases hr; exact hst
  | cons i r ih =>
    simp only [crun] at hc
    simp only [run] at hr
    cases hs : cstep nv na i h with
    | error e => rw [hs] at hc; cases hc
    | ok x =>
      rw [hs] at hc
      cases hp : step vs as i st with
      | none => rw [hp] at hr; cases hr
      | some st1 =>
        rw [hp] at hr
        have h1 : 0 ≤ takes i.1 ∧ (i.1 = 1 → isVal i.2 = true) := by
          unfold cstep at hs
          split at hs
          · cases hs
          · split at hs
            · cases hs
            · rename_i h0 h1
              refine ⟨by omega, fun e => ?_⟩
              have h2 : right i nv na = true := by simpa using h1
              unfold right at h2; rw [if_pos e] at h2; exact h2
        exact ih x st1 hc (step_val vs as i st st1 hv ha h1.2 (takes_zero i.1) h1.1 hst hp) hr

/-- The numbers in the row are as many as Check counts. -/
theorem run_count (nv na : Int) (vs as : List Int) (code : List In) (h h' : Int) (st st' : List Int) (hc : crun nv na code h = .ok h') (hl : (st.length : Int) = h) (hr : run vs as code st = some st') : (st'.length : Int) = h' := by
  induction code generalizing h st with
  | nil => cases hr; cases hc; exact hl
  | cons i r ih =>
    simp only [crun] at hc
    simp only [run] at hr
    cases hs : cstep nv na i h with
    | error e => rw [hs] at hc; cases hc
    | ok x =>
      rw [hs] at hc
      cases hp : step vs as i st with
      | none => rw [hp] at hr; cases hr
      | some st1 =>
        rw [hp] at hr
        refine ih x st1 hc ?_ hr
        have hx : x = h - takes i.1 + 1 ∧ 0 ≤ takes i.1 := by
          unfold cstep at hs
          split at hs
          · cases hs
          · split at hs
            · cases hs
            · split at hs
              · cases hs
              · cases hs; exact ⟨rfl, by omega⟩
        obtain ⟨rfl, h0⟩ := hx
        have h2 : ∀ o, o = 2 → takes o = 0 := by intro o e; subst e; decide
        have h3 : ∀ o, o = 3 → takes o = 0 := by intro o e; subst e; decide
        have hd : takes i.1 = 0 ∨ takes i.1 = 1 ∨ takes i.1 = 2 ∨ takes i.1 = 3 := by
          have : takes i.1 = -1 ∨ takes i.1 = 0 ∨ takes i.1 = 1 ∨ takes i.1 = 2 ∨ takes i.1 = 3 := by
            unfold takes; repeat' split
            all_goals omega
          omega
        unfold step at hp
        split at hp
        · rename_i e; cases hp; have := h2 _ e; simp only [List.length_cons]; omega
        · split at hp
          · rename_i e; cases hp; have := h3 _ e; simp only [List.length_cons]; omega
          · split at hp
            · match st, hp, hl with
              | a :: r, hp, hl =>
                obtain ⟨n, hn, rfl⟩ := Option.map_eq_some_iff.1 hp
                simp only [List.length_cons] at hl ⊢; omega
            · split at hp
              · match st, hp, hl with
                | b :: a :: r, hp, hl =>
                  obtain ⟨n, hn, rfl⟩ := Option.map_eq_some_iff.1 hp
                  simp only [List.length_cons] at hl ⊢; omega
              · split at hp
                · match st, hp, hl with
                  | c :: b :: a :: r, hp, hl =>
                    obtain ⟨n, hn, rfl⟩ := Option.map_eq_some_iff.1 hp
                    simp only [List.length_cons] at hl ⊢; omega
                · cases hp; simp only [List.length_cons]; omega

/-- What Eval comes to where all is well. -/
theorem eval_good (code : List In) (vs as : List Int) (n : Int) (h : eval code vs as = (n, 0)) :
    (check code vs.length as.length).2 = 0 ∧ (∀ x ∈ vs, isVal x = true) ∧ (∀ x ∈ as, isVal x = true) ∧ run vs as code [] = some [n] ∧ isVal n = true := by
  by_cases hc : (check code vs.length as.length).2 = 0
  · by_cases hv : (vs.all isVal && as.all isVal) = true
    · rw [eval_run _ _ _ hc hv] at h
      have hv' := hv
      rw [Bool.and_eq_true, List.all_eq_true, List.all_eq_true] at hv'
      have hok := (check_ok code _ _ hc).2.2.2
      cases hr : run vs as code [] with
      | none => rw [hr] at h; simp [top] at h
      | some st =>
        rw [hr] at h
        have hcount := run_count _ _ vs as code 0 1 [] st hok rfl hr
        match st, h, hcount, hr with
        | [x], h, _, hr =>
          have hx : x = n := by simpa [top] using h
          subst hx
          exact ⟨hc, hv'.1, hv'.2, rfl, run_val _ _ vs as hv'.1 hv'.2 code 0 1 [] [x] hok (by simp) hr x (by simp)⟩
        | [], _, hcount, _ => simp at hcount
        | _ :: _ :: _, _, hcount, _ => simp at hcount; omega
    · rw [eval_none _ _ _ hc (by simpa using hv)] at h; simp at h
  · rw [eval_bad _ _ _ hc] at h
    simp at h; exact absurd h.2 hc

theorem eval_of (code : List In) (vs as : List Int) (n : Int) (hc : (check code vs.length as.length).2 = 0) (hv : ∀ x ∈ vs, isVal x = true) (ha : ∀ x ∈ as, isVal x = true) (hr : run vs as code [] = some [n]) : eval code vs as = (n, 0) := by
  rw [eval_run _ _ _ hc (by rw [Bool.and_eq_true, List.all_eq_true, List.all_eq_true]; exact ⟨hv, ha⟩), hr]; rfl

/-! ## What is named -/

/-- What an expression comes to hangs on what it names alone. -/
theorem run_named (vs as vs' as' : List Int) (code : List In) (st : List Int) (hv : ∀ i ∈ code, i.1 = 2 → vs.getD i.2.toNat 0 = vs'.getD i.2.toNat 0) (ha : ∀ i ∈ code, i.1 = 3 → as.getD i.2.toNat 0 = as'.getD i.2.toNat 0) :
    run vs as code st = run vs' as' code st := by
  induction code generalizing st with
  | nil => rfl
  | cons i r ih =>
    have hs : step vs as i st = step vs' as' i st := by
      unfold step
      split
      · rename_i e; rw [hv i (by simp) e]
      · split
        · rename_i e; rw [ha i (by simp) e]
        · rfl
    simp only [run, hs]
    exact obind_eq (fun s => ih s (fun j hj => hv j (by simp [hj])) (fun j hj => ha j (by simp [hj])))

theorem usesTop_le (o most : Int) (code : List In) (t : Int) : t ≤ usesTop o most code t := by
  induction code generalizing t with
  | nil => exact Int.le_refl _
  | cons i r ih =>
    simp only [usesTop]
    refine Int.le_trans ?_ (ih _)
    split <;> omega

theorem usesTop_named (o most : Int) (code : List In) (t : Int) (i : In) (hi : i ∈ code) (h1 : i.1 = o) (h2 : 0 ≤ i.2) (h3 : i.2 < most) : i.2 ≤ usesTop o most code t := by
  induction code generalizing t with
  | nil => cases hi
  | cons j r ih =>
    simp only [usesTop]
    rcases List.mem_cons.1 hi with rfl | hi
    · refine Int.le_trans ?_ (usesTop_le _ _ _ _)
      rw [if_pos ⟨h1, h2, h3⟩]; omega
    · exact ih _ hi

theorem usesTop_lt (o most : Int) (code : List In) (t : Int) (h : t < most) : usesTop o most code t < most := by
  induction code generalizing t with
  | nil => exact h
  | cons i r ih =>
    simp only [usesTop]
    refine ih _ ?_
    split <;> omega

theorem uses_length (o most : Int) (code : List In) : (uses o most code).length = (usesTop o most code (-1) + 1).toNat := by simp [uses]

theorem uses_get (o most : Int) (code : List In) (n : Nat) (h : n < (uses o most code).length) : (uses o most code)[n]? = some (code.any fun i => decide (i.1 = o ∧ i.2 = (n : Int))) := by
  rw [uses_length] at h
  unfold uses
  rw [List.getElem?_map, List.getElem?_range h]; rfl

/-- A name that is not told is not named. -/
theorem uses_not (o most : Int) (code : List In) (n : Nat) (hm : (n : Int) < most) (h : (uses o most code)[n]? ≠ some true) (i : In) (hi : i ∈ code) (h1 : i.1 = o) : i.2 ≠ (n : Int) := by
  intro e
  have hl := usesTop_named o most code (-1) i hi h1 (by omega) (by omega)
  have hn : n < (uses o most code).length := by rw [uses_length]; omega
  apply h
  rw [uses_get o most code n hn]
  congr 1
  rw [List.any_eq_true]
  exact ⟨i, hi, by simp [h1, e]⟩

end Go.Proofs.YtjcajeehgjpmmaaGreatDoor.E
