/-
  Plain mathematics of layer 3 (expr): which instructions may be, what they come to, what is folded; no program is named here.
  Plain mathematics of layer 3 (expr), continued: what is folded is checked and comes to the same, is not longer, and stays.
  Plain mathematics of layer 4 (infix): expressions, their instructions, their texts in pieces; words of texts; the grammar as derivations. No program is named here.
  Plain mathematics of layer 4: the pieces of a shown text are its words.
  Plain mathematics of layer 4: the grammar as derivations; the words of a shown text are derived back.
  Plain mathematics of layer 4: there and back: every shown expression's words are derived to it; a sign behind it is told.
-/
import Derived.Laws.Concat
namespace Go.Proofs.YtgkniocjlkfhmaaDoor.E
open Go
set_option linter.unusedVariables false

/-- An instruction: what it does, and a number. -/
abbrev In := Int × Int

/-- How many numbers an instruction takes; -1: it is none. -/
def takes (o : Int) : Int := if o < 1 ∨ 16 < o then -1 else if o < 4 then 0 else if o < 6 then 1 else if o < 16 then 2 else 3

/-- May a number be a value? -/
def isVal (n : Int) : Bool := decide (-1099511627776 ≤ n ∧ n ≤ 1099511627776)

theorem isVal_iff (n : Int) : isVal n = true ↔ -1099511627776 ≤ n ∧ n ≤ 1099511627776 := by unfold isVal; exact decide_eq_true_iff
theorem isVal_not (n : Int) : isVal n = false ↔ ¬ (-1099511627776 ≤ n ∧ n ≤ 1099511627776) := by unfold isVal; exact decide_eq_false_iff_not

/-- May an instruction have its number, with so many variables and arguments? -/
def right (i : In) (nv na : Int) : Bool :=
  if i.1 = 1 then isVal i.2 else if i.1 = 2 then decide (0 ≤ i.2 ∧ i.2 < nv) else if i.1 = 3 then decide (0 ≤ i.2 ∧ i.2 < na) else decide (i.2 = 0)

/-- Check's way through the instructions: what is left, the place, how many numbers are in the row; the place and the error. -/
def chk (nv na : Int) : List In → Nat → Int → Int × Int
  | [], k, h => if h = 1 then (0, 0) else (k, 6)
  | i :: r, k, h => if takes i.1 < 0 then (k, 2) else if right i nv na = false then (k, 3) else if h < takes i.1 then (k, 5) else chk nv na r (k + 1) (h - takes i.1 + 1)

/-- P3.1. -/
def check (code : List In) (nv na : Int) : Int × Int :=
  if nv < 0 ∨ na < 0 then (0, 2) else if 31 < code.length then (0, 4) else chk nv na code 0 0

def one (b : Bool) : Int := if b = true then 1 else 0

/-- A number, if it is a value. -/
def gv (n : Int) : Option Int := if isVal n = true then some n else none

/-- What an instruction comes to, of the numbers that it takes (those that it does not take play no part). -/
def made (o a b c : Int) : Option Int :=
  if o = 4 then some (-a) else if o = 5 then some (one (decide (a = 0))) else if o = 6 then gv (a + b) else if o = 7 then gv (a - b) else if o = 8 then gv (a * b)
  else if o = 9 then some (if a ≤ b then a else b) else if o = 10 then some (if a ≤ b then b else a) else if o = 11 then some (one (decide (a < b))) else if o = 12 then some (one (decide (a ≤ b)))
  else if o = 13 then some (one (decide (a = b))) else if o = 14 then some (one (decide (a ≠ 0 ∧ b ≠ 0))) else if o = 15 then some (one (decide (a ≠ 0 ∨ b ≠ 0))) else some (if a ≠ 0 then b else c)

/-- An instruction on a row of numbers, the last one first. -/
def step (vs as : List Int) (i : In) (st : List Int) : Option (List Int) :=
  if i.1 = 2 then some (vs.getD i.2.toNat 0 :: st) else if i.1 = 3 then some (as.getD i.2.toNat 0 :: st)
  else if takes i.1 = 1 then match st with | a :: r => (made i.1 a 0 0).map (· :: r) | _ => none
  else if takes i.1 = 2 then match st with | b :: a :: r => (made i.1 a b 0).map (· :: r) | _ => none
  else if takes i.1 = 3 then match st with | c :: b :: a :: r => (made i.1 a b c).map (· :: r) | _ => none
  else some (i.2 :: st)

/-- All instructions, one behind the other. -/
def run (vs as : List Int) : List In → List Int → Option (List Int)
  | [], st => some st
  | i :: r, st => (step vs as i st).bind (run vs as r)

/-- What is left, or that there is nothing. -/
def top : Option (List Int) → Int × Int
  | some (x :: _) => (x, 0)
  | _ => (0, 3)

/-- P3.2. -/
def eval (code : List In) (vs as : List Int) : Int × Int :=
  if (check code vs.length as.length).2 ≠ 0 then (0, (check code vs.length as.length).2)
  else if (vs.all isVal && as.all isVal) = false then (0, 2)
  else top (run vs as code [])

/-- An instruction put behind what is folded (the last one first). -/
def fstep (out : List In) (i : In) : List In :=
  if takes i.1 = 1 then match out with
    | (1, a) :: r => (match made i.1 a 0 0 with | some n => (1, n) :: r | none => i :: out)
    | _ => i :: out
  else if takes i.1 = 2 then match out with
    | (1, b) :: (1, a) :: r => (match made i.1 a b 0 with | some n => (1, n) :: r | none => i :: out)
    | _ => i :: out
  else if takes i.1 = 3 then match out with
    | (1, c) :: (1, b) :: (1, a) :: r => (match made i.1 a b c with | some n => (1, n) :: r | none => i :: out)
    | _ => i :: out
  else i :: out

/-- P3.3, where more than B variables and arguments are never asked for. -/
def fold (B : Int) (code : List In) : List In := if (check code B B).2 ≠ 0 then code else (code.foldl fstep []).reverse

/-- P3.4. -/
def usesTop (o most : Int) : List In → Int → Int
  | [], t => t
  | i :: r, t => usesTop o most r (if i.1 = o ∧ 0 ≤ i.2 ∧ i.2 < most then max t i.2 else t)
def uses (o most : Int) (code : List In) : List Bool := (List.range (usesTop o most code (-1) + 1).toNat).map fun (n : Nat) => code.any fun i => decide (i.1 = o ∧ i.2 = (n : Int))
def depth : List In → Int → Int → Int
  | [], _, m => m
  | i :: r, h, m => if 0 ≤ takes i.1 ∧ h < takes i.1 then 0 else depth r (if 0 ≤ takes i.1 then h - takes i.1 + 1 else h) (max m (if 0 ≤ takes i.1 then h - takes i.1 + 1 else h))

/-! ## Checking, by the error alone -/

/-- An instruction's error, or how many numbers are in the row behind it. -/
def cstep (nv na : Int) (i : In) (h : Int) : Except Int Int :=
  if takes i.1 < 0 then .error 2 else if right i nv na = false then .error 3 else if h < takes i.1 then .error 5 else .ok (h - takes i.1 + 1)
def crun (nv na : Int) : List In → Int → Except Int Int
  | [], h => .ok h
  | i :: r, h => (cstep nv na i h).bind (crun nv na r)
def cend : Except Int Int → Int
  | .error e => e
  | .ok h => if h = 1 then 0 else 6

theorem chk_err (nv na : Int) (code : List In) (k : Nat) (h : Int) : (chk nv na code k h).2 = cend (crun nv na code h) := by
  induction code generalizing k h with
  | nil => simp only [chk, crun, cend]; split <;> rfl
  | cons i r ih =>
    simp only [chk, crun, cstep]
    split
    · rfl
    · split
      · rfl
      · split
        · rfl
        · exact ih _ _

theorem crun_append (nv na : Int) (a b : List In) (h : Int) : crun nv na (a ++ b) h = (crun nv na a h).bind (crun nv na b) := by
  induction a generalizing h with
  | nil => rfl
  | cons i r ih =>
    simp only [List.cons_append, crun]
    cases cstep nv na i h with
    | error e => rfl
    | ok x => exact ih x

theorem run_append (vs as : List Int) (a b : List In) (st : List Int) : run vs as (a ++ b) st = (run vs as a st).bind (run vs as b) := by
  induction a generalizing st with
  | nil => rfl
  | cons i r ih =>
    simp only [List.cons_append, run]
    cases step vs as i st with
    | none => rfl
    | some x => exact ih x

theorem check_err (code : List In) (nv na : Int) : (check code nv na).2 = if nv < 0 ∨ na < 0 then 2 else if 31 < code.length then 4 else cend (crun nv na code 0) := by
  unfold check
  split
  · rfl
  · split
    · rfl
    · exact chk_err _ _ _ _ _

/-! ## What instructions come to are values -/

theorem isVal_one (b : Bool) : isVal (one b) = true := by cases b <;> decide

theorem gv_val (n m : Int) (h : gv n = some m) : isVal m = true := by
  unfold gv at h; split at h
  · cases h; assumption
  · cases h

theorem made_val (o a b c n : Int) (ha : isVal a = true) (hb : isVal b = true) (hc : isVal c = true) (h : made o a b c = some n) : isVal n = true := by
  unfold made at h
  by_cases h4 : o = 4
  · rw [if_pos h4] at h; cases h; rw [isVal_iff] at *; omega
  rw [if_neg h4] at h
  by_cases h5 : o = 5
  · rw [if_pos h5] at h; cases h; exact isVal_one _
  rw [if_neg h5] at h
  by_cases h6 : o = 6
  · rw [if_pos h6] at h; exact gv_val _ _ h
  rw [if_neg h6] at h
  by_cases h7 : o = 7
  · rw [if_pos h7] at h; exact gv_val _ _ h
  rw [if_neg h7] at h
  by_cases h8 : o = 8
  · rw [if_pos h8] at h; exact gv_val _ _ h
  rw [if_neg h8] at h
  by_cases h9 : o = 9
  · rw [if_pos h9] at h; cases h; split <;> assumption
  rw [if_neg h9] at h
  by_cases h10 : o = 10
  · rw [if_pos h10] at h; cases h; split <;> assumption
  rw [if_neg h10] at h
  by_cases h11 : o = 11
  · rw [if_pos h11] at h; cases h; exact isVal_one _
  rw [if_neg h11] at h
  by_cases h12 : o = 12
  · rw [if_pos h12] at h; cases h; exact isVal_one _
  rw [if_neg h12] at h
  by_cases h13 : o = 13
  · rw [if_pos h13] at h; cases h; exact isVal_one _
  rw [if_neg h13] at h
  by_cases h14 : o = 14
  · rw [if_pos h14] at h; cases h; exact isVal_one _
  rw [if_neg h14] at h
  by_cases h15 : o = 15
  · rw [if_pos h15] at h; cases h; exact isVal_one _
  rw [if_neg h15] at h
  cases h; split <;> assumption

theorem val0 : isVal 0 = true := by decide

/-- The numbers that an instruction does not take play no part. -/
theorem step_val (vs as : List Int) (i : In) (st st' : List Int) (hv : ∀ x ∈ vs, isVal x = true) (ha : ∀ x ∈ as, isVal x = true) (hi : i.1 = 1 → isVal i.2 = true) (hr : takes i.1 = 0 → i.1 = 1 ∨ i.1 = 2 ∨ i.1 = 3)
    (h0 : 0 ≤ takes i.1) (hst : ∀ x ∈ st, isVal x = true) (h : step vs as i st = some st') : ∀ x ∈ st', isVal x = true := by
  have hget : ∀ (l : List Int) (k : Nat), (∀ x ∈ l, isVal x = true) → isVal (l.getD k 0) = true := by
    intro l k hl
    rw [List.getD_eq_getElem?_getD]
    cases hk : l[k]? with
    | none => exact val0
    | some x => exact hl x (List.mem_of_getElem? hk)
  have push : ∀ (x : Int) (r : List Int), isVal x = true → (∀ y ∈ r, isVal y = true) → ∀ y ∈ x :: r, isVal y = true := by
    intro x r hx hr y hy
    rcases List.mem_cons.1 hy with rfl | hy
    · exact hx
    · exact hr y hy
  unfold step at h
  split at h
  · cases h; exact push _ _ (hget _ _ hv) hst
  · split at h
    · cases h; exact push _ _ (hget _ _ ha) hst
    · split at h
      · match st, h, hst with
        | a :: r, h, hst =>
          obtain ⟨n, hn, rfl⟩ := Option.map_eq_some_iff.1 h
          exact push _ _ (made_val _ _ _ _ _ (hst a (by simp)) val0 val0 hn) (fun y hy => hst y (by simp [hy]))
      · split at h
        · match st, h, hst with
          | b :: a :: r, h, hst =>
            obtain ⟨n, hn, rfl⟩ := Option.map_eq_some_iff.1 h
            exact push _ _ (made_val _ _ _ _ _ (hst a (by simp)) (hst b (by simp)) val0 hn) (fun y hy => hst y (by simp [hy]))
        · split at h
          · match st, h, hst with
            | c :: b :: a :: r, h, hst =>
              obtain ⟨n, hn, rfl⟩ := Option.map_eq_some_iff.1 h
              exact push _ _ (made_val _ _ _ _ _ (hst a (by simp)) (hst b (by simp)) (hst c (by simp)) hn) (fun y hy => hst y (by simp [hy]))
          · cases h
            refine push _ _ (hi ?_) hst
            have ht : takes i.1 = 0 := by
              have h1 : takes i.1 = -1 ∨ takes i.1 = 0 ∨ takes i.1 = 1 ∨ takes i.1 = 2 ∨ takes i.1 = 3 := by
                unfold takes; repeat' split
                all_goals omega
              omega
            rcases hr ht with h1 | h1 | h1 <;> first | exact h1 | contradiction

theorem takes_zero (o : Int) (h : takes o = 0) : o = 1 ∨ o = 2 ∨ o = 3 := by
  unfold takes at h
  repeat' split at h
  all_goals omega

end Go.Proofs.YtgkniocjlkfhmaaDoor.E

namespace Go.Proofs.YtgkniocjlkfhmaaDoor.E
open Go
set_option linter.unusedVariables false

theorem takes_const : takes 1 = 0 := by decide

theorem cstep_const (nv na a h : Int) (ha : isVal a = true) : cstep nv na (1, a) h = if h < 0 then .error 5 else .ok (h + 1) := by
  have hr : right (1, a) nv na = true := by unfold right; rw [if_pos rfl]; exact ha
  unfold cstep
  rw [takes_const, hr]
  simp

theorem step_const (vs as : List Int) (a : Int) (st : List Int) : step vs as (1, a) st = some (a :: st) := by
  unfold step
  rw [takes_const]
  simp

/-- An instruction that takes numbers is no Const, Var or Arg: its number must be 0, whatever the variables are. -/
theorem right_op (i : In) (nv na nv' na' : Int) (h : 0 < takes i.1) : right i nv na = right i nv' na' := by
  have h1 : i.1 ≠ 1 := by intro e; rw [e] at h; revert h; decide
  have h2 : i.1 ≠ 2 := by intro e; rw [e] at h; revert h; decide
  have h3 : i.1 ≠ 3 := by intro e; rw [e] at h; revert h; decide
  unfold right
  rw [if_neg h1, if_neg h2, if_neg h3, if_neg h1, if_neg h2, if_neg h3]

theorem cstep_op (nv na : Int) (i : In) (h : Int) (ht : 0 < takes i.1) (hr : right i nv na = true) : cstep nv na i h = if h < takes i.1 then .error 5 else .ok (h - takes i.1 + 1) := by
  unfold cstep
  rw [if_neg (by omega), hr]
  simp

theorem step_op (vs as : List Int) (i : In) (h : 0 < takes i.1) : i.1 ≠ 2 ∧ i.1 ≠ 3 :=
  ⟨fun e => by rw [e] at h; revert h; decide, fun e => by rw [e] at h; revert h; decide⟩

theorem fold1 (nv na : Int) (i : In) (a n h : Int) (ht : takes i.1 = 1) (hr : right i nv na = true) (ha : isVal a = true) (hn : isVal n = true) :
    crun nv na [(1, a), i] h = crun nv na [(1, n)] h := by
  simp only [crun, cstep_const _ _ _ _ ha, cstep_const _ _ _ _ hn]
  by_cases h0 : h < 0
  · simp only [if_pos h0]; rfl
  · simp only [if_neg h0, Except.bind, cstep_op nv na i _ (by omega) hr, ht]
    rw [if_neg (by omega)]
    simp only
    congr 1; omega

theorem fold2 (nv na : Int) (i : In) (a b n h : Int) (ht : takes i.1 = 2) (hr : right i nv na = true) (ha : isVal a = true) (hb : isVal b = true) (hn : isVal n = true) :
    crun nv na [(1, a), (1, b), i] h = crun nv na [(1, n)] h := by
  simp only [crun, cstep_const _ _ _ _ ha, cstep_const _ _ _ _ hb, cstep_const _ _ _ _ hn]
  by_cases h0 : h < 0
  · simp only [if_pos h0]; rfl
  · simp only [if_neg h0, Except.bind]
    rw [if_neg (by omega)]
    simp only [cstep_op nv na i _ (by omega) hr, ht]
    rw [if_neg (by omega)]
    simp only
    congr 1; omega

theorem fold3 (nv na : Int) (i : In) (a b c n h : Int) (ht : takes i.1 = 3) (hr : right i nv na = true) (ha : isVal a = true) (hb : isVal b = true) (hc : isVal c = true) (hn : isVal n = true) :
    crun nv na [(1, a), (1, b), (1, c), i] h = crun nv na [(1, n)] h := by
  simp only [crun, cstep_const _ _ _ _ ha, cstep_const _ _ _ _ hb, cstep_const _ _ _ _ hc, cstep_const _ _ _ _ hn]
  by_cases h0 : h < 0
  · simp only [if_pos h0]; rfl
  · simp only [if_neg h0, Except.bind]
    rw [if_neg (by omega)]
    simp only
    rw [if_neg (by omega)]
    simp only [cstep_op nv na i _ (by omega) hr, ht]
    rw [if_neg (by omega)]
    simp only
    congr 1; omega

theorem run1 (vs as : List Int) (i : In) (a n : Int) (st : List Int) (ht : takes i.1 = 1) (hm : made i.1 a 0 0 = some n) : run vs as [(1, a), i] st = run vs as [(1, n)] st := by
  have h := step_op vs as i (by omega)
  simp only [run, step_const, Option.bind]
  unfold step
  rw [if_neg h.1, if_neg h.2, if_pos ht]
  simp only [hm, Option.map]

theorem run2 (vs as : List Int) (i : In) (a b n : Int) (st : List Int) (ht : takes i.1 = 2) (hm : made i.1 a b 0 = some n) : run vs as [(1, a), (1, b), i] st = run vs as [(1, n)] st := by
  have h := step_op vs as i (by omega)
  simp only [run, step_const, Option.bind]
  unfold step
  rw [if_neg h.1, if_neg h.2, if_neg (by omega), if_pos ht]
  simp only [hm, Option.map]

theorem run3 (vs as : List Int) (i : In) (a b c n : Int) (st : List Int) (ht : takes i.1 = 3) (hm : made i.1 a b c = some n) : run vs as [(1, a), (1, b), (1, c), i] st = run vs as [(1, n)] st := by
  have h := step_op vs as i (by omega)
  simp only [run, step_const, Option.bind]
  unfold step
  rw [if_neg h.1, if_neg h.2, if_neg (by omega), if_neg (by omega), if_pos ht]
  simp only [hm, Option.map]

/-- What holds of what is folded so far (the last one first) of the instructions p. -/
structure Folds (p out : List In) : Prop where
  chk : ∀ nv na h, crun nv na out.reverse h = crun nv na p h
  run : ∀ vs as st, run vs as out.reverse st = run vs as p st
  len : out.length ≤ p.length
  stay : ∀ k, (out.drop k).reverse.foldl fstep [] = out.drop k
  val : ∀ i ∈ out, i.1 = 1 → isVal i.2 = true

theorem Folds.nil : Folds [] [] := ⟨fun _ _ _ => rfl, fun _ _ _ => rfl, Nat.le_refl _, fun k => by simp, by simp⟩

theorem bind_eq {α β ε : Type} {x : Except ε α} {f g : α → Except ε β} (h : ∀ a, f a = g a) : x.bind f = x.bind g := by
  cases x with
  | error e => rfl
  | ok a => exact h a

theorem obind_eq {α β : Type} {x : Option α} {f g : α → Option β} (h : ∀ a, f a = g a) : x.bind f = x.bind g := by
  cases x with
  | none => rfl
  | some a => exact h a

/-- Where nothing is folded. -/
theorem Folds.push {p out : List In} (F : Folds p out) (i : In) (hf : fstep out i = i :: out) (hv : i.1 = 1 → isVal i.2 = true) : Folds (p ++ [i]) (i :: out) := by
  refine ⟨fun nv na h => ?_, fun vs as st => ?_, by simpa using F.len, fun k => ?_, fun j hj => ?_⟩
  · rw [List.reverse_cons, crun_append, crun_append, F.chk]
  · rw [List.reverse_cons, run_append, run_append, F.run]
  · cases k with
    | zero =>
      have h0 := F.stay 0
      rw [List.drop_zero] at h0
      rw [List.drop_zero, List.reverse_cons, List.foldl_append, h0]
      exact hf
    | succ k => exact F.stay k
  · rcases List.mem_cons.1 hj with rfl | hj
    · exact hv
    · exact F.val j hj

/-- Where the last instructions become one Const. -/
theorem Folds.join {p out : List In} (F : Folds p out) (i : In) (cs r : List In) (n : Int) (ho : out = cs.reverse ++ r) (hcs : 0 < cs.length) (hn : isVal n = true)
    (hc : ∀ nv na h, crun nv na (cs ++ [i]) h = crun nv na [(1, n)] h) (hr : ∀ vs as st, Go.Proofs.YtgkniocjlkfhmaaDoor.E.run vs as (cs ++ [i]) st = Go.Proofs.YtgkniocjlkfhmaaDoor.E.run vs as [(1, n)] st) : Folds (p ++ [i]) ((1, n) :: r) := by
  have hrev : out.reverse = r.reverse ++ cs := by rw [ho, List.reverse_append, List.reverse_reverse]
  have hd : ∀ k, r.drop k = out.drop (cs.length + k) := by
    intro k; rw [ho, show cs.length + k = cs.reverse.length + k by simp, List.drop_append]
    simp
  refine ⟨fun nv na h => ?_, fun vs as st => ?_, ?_, fun k => ?_, fun j hj => ?_⟩
  · rw [List.reverse_cons, crun_append, crun_append nv na p, ← F.chk, hrev, crun_append nv na r.reverse]
    cases crun nv na r.reverse h with
    | error e => rfl
    | ok x =>
      have := hc nv na x
      rw [crun_append] at this
      exact this.symm
  · rw [List.reverse_cons, run_append, run_append vs as p, ← F.run, hrev, run_append vs as r.reverse]
    cases Go.Proofs.YtgkniocjlkfhmaaDoor.E.run vs as r.reverse st with
    | none => rfl
    | some x =>
      have := hr vs as x
      rw [run_append] at this
      exact this.symm
  · have := F.len
    rw [ho, List.length_append, List.length_reverse] at this
    simp only [List.length_cons, List.length_append, List.length_nil]
    omega
  · cases k with
    | zero =>
      have h0 := F.stay cs.length
      have hd0 := hd 0
      rw [List.drop_zero, Nat.add_zero] at hd0
      rw [List.drop_zero, List.reverse_cons, List.foldl_append, hd0, h0]
      show fstep _ (1, n) = _
      unfold fstep
      rw [takes_const]
      simp
    | succ k =>
      rw [List.drop_succ_cons, hd k]
      exact F.stay _
  · rcases List.mem_cons.1 hj with rfl | hj
    · intro _; exact hn
    · exact F.val j (by rw [ho]; exact List.mem_append_right _ hj)

theorem Folds.step {p out : List In} (F : Folds p out) (i : In) (B h h' : Int) (hi : cstep B B i h = .ok h') : Folds (p ++ [i]) (fstep out i) := by
  have hr : right i B B = true := by
    unfold cstep at hi
    split at hi
    · cases hi
    · split at hi
      · cases hi
      · rename_i _ h1; simpa using h1
  have hv : i.1 = 1 → isVal i.2 = true := by
    intro e; unfold right at hr; rw [if_pos e] at hr; exact hr
  by_cases t1 : takes i.1 = 1
  · by_cases hx : ∃ a r n, out = (1, a) :: r ∧ made i.1 a 0 0 = some n
    · obtain ⟨a, r, n, rfl, hm⟩ := hx
      have ha : isVal a = true := F.val (1, a) (by simp) rfl
      have hn := made_val _ _ _ _ _ ha val0 val0 hm
      have hf : fstep ((1, a) :: r) i = (1, n) :: r := by unfold fstep; rw [if_pos t1]; simp only [hm]
      rw [hf]
      exact F.join i [(1, a)] r n rfl (by simp) hn (fun nv na h => fold1 nv na i a n h t1 (by rw [right_op i nv na B B (by omega)]; exact hr) ha hn) (fun vs as st => run1 vs as i a n st t1 hm)
    · have hf : fstep out i = i :: out := by
        unfold fstep; rw [if_pos t1]
        split
        · rename_i a r
          split
          · rename_i n hm; exact absurd ⟨a, r, n, rfl, hm⟩ hx
          · rfl
        · rfl
      rw [hf]; exact F.push i hf hv
  by_cases t2 : takes i.1 = 2
  · by_cases hx : ∃ a b r n, out = (1, b) :: (1, a) :: r ∧ made i.1 a b 0 = some n
    · obtain ⟨a, b, r, n, rfl, hm⟩ := hx
      have ha : isVal a = true := F.val (1, a) (by simp) rfl
      have hb : isVal b = true := F.val (1, b) (by simp) rfl
      have hn := made_val _ _ _ _ _ ha hb val0 hm
      have hf : fstep ((1, b) :: (1, a) :: r) i = (1, n) :: r := by unfold fstep; rw [if_neg t1, if_pos t2]; simp only [hm]
      rw [hf]
      exact F.join i [(1, a), (1, b)] r n rfl (by simp) hn (fun nv na h => fold2 nv na i a b n h t2 (by rw [right_op i nv na B B (by omega)]; exact hr) ha hb hn) (fun vs as st => run2 vs as i a b n st t2 hm)
    · have hf : fstep out i = i :: out := by
        unfold fstep; rw [if_neg t1, if_pos t2]
        split
        · rename_i b a r
          split
          · rename_i n hm; exact absurd ⟨a, b, r, n, rfl, hm⟩ hx
          · rfl
        · rfl
      rw [hf]; exact F.push i hf hv
  by_cases t3 : takes i.1 = 3
  · by_cases hx : ∃ a b c r n, out = (1, c) :: (1, b) :: (1, a) :: r ∧ made i.1 a b c = some n
    · obtain ⟨a, b, c, r, n, rfl, hm⟩ := hx
      have ha : isVal a = true := F.val (1, a) (by simp) rfl
      have hb : isVal b = true := F.val (1, b) (by simp) rfl
      have hc : isVal c = true := F.val (1, c) (by simp) rfl
      have hn := made_val _ _ _ _ _ ha hb hc hm
      have hf : fstep ((1, c) :: (1, b) :: (1, a) :: r) i = (1, n) :: r := by unfold fstep; rw [if_neg t1, if_neg t2, if_pos t3]; simp only [hm]
      rw [hf]
      exact F.join i [(1, a), (1, b), (1, c)] r n rfl (by simp) hn (fun nv na h => fold3 nv na i a b c n h t3 (by rw [right_op i nv na B B (by omega)]; exact hr) ha hb hc hn) (fun vs as st => run3 vs as i a b c n st t3 hm)
    · have hf : fstep out i = i :: out := by
        unfold fstep; rw [if_neg t1, if_neg t2, if_pos t3]
        split
        · rename_i c b a r
          split
          · rename_i n hm; exact absurd ⟨a, b, c, r, n, rfl, hm⟩ hx
          · rfl
        · rfl
      rw [hf]; exact F.push i hf hv
  · have hf : fstep out i = i :: out := by unfold fstep; rw [if_neg t1, if_neg t2, if_neg t3]
    rw [hf]; exact F.push i hf hv

theorem Folds.all (B : Int) (code : List In) : ∀ (p out : List In) (h h' : Int), Folds p out → crun B B code h = .ok h' → Folds (p ++ code) (code.foldl fstep out) := by
  induction code with
  | nil => intro p out h h' F _; rw [List.append_nil]; exact F
  | cons i r ih =>
    intro p out h h' F hc
    simp only [crun] at hc
    cases hs : cstep B B i h with
    | error e => rw [hs] at hc; cases hc
    | ok x =>
      rw [hs] at hc
      have := ih (p ++ [i]) (fstep out i) x h' (F.step i B h x hs) hc
      rw [List.append_assoc] at this
      exact this

theorem crun_error (nv na : Int) (code : List In) (h e : Int) (hx : crun nv na code h = .error e) : e = 2 ∨ e = 3 ∨ e = 5 := by
  induction code generalizing h with
  | nil => cases hx
  | cons i r ih =>
    simp only [crun] at hx
    cases hs : cstep nv na i h with
    | error e' =>
      rw [hs] at hx
      cases hx
      unfold cstep at hs
      split at hs
      · cases hs; simp
      · split at hs
        · cases hs; simp
        · split at hs
          · cases hs; simp
          · cases hs
    | ok x => rw [hs] at hx; exact ih x hx

theorem check_ok (code : List In) (nv na : Int) (h : (check code nv na).2 = 0) : 0 ≤ nv ∧ 0 ≤ na ∧ code.length ≤ 31 ∧ crun nv na code 0 = .ok 1 := by
  rw [check_err] at h
  split at h
  · cases h
  · split at h
    · cases h
    · cases hx : crun nv na code 0 with
      | error e =>
        rw [hx] at h
        have h2 := crun_error _ _ _ _ _ hx
        have h1 : e = 0 := h
        omega
      | ok x =>
        rw [hx] at h
        unfold cend at h
        simp only at h
        split at h
        · subst x; exact ⟨by omega, by omega, by omega, rfl⟩
        · cases h

/-- What Fold leaves: as it was, or folded whole. -/
theorem fold_cases (B : Int) (code : List In) : fold B code = code ∨ ((check code B B).2 = 0 ∧ fold B code = (code.foldl fstep []).reverse ∧ Folds code (code.foldl fstep [])) := by
  by_cases h : (check code B B).2 = 0
  · right
    exact ⟨h, by unfold fold; rw [if_neg (by omega)], Folds.all B code [] [] 0 1 Folds.nil (check_ok code B B h).2.2.2⟩
  · left; unfold fold; rw [if_pos h]

theorem fold_length (B : Int) (code : List In) : (fold B code).length ≤ code.length := by
  rcases fold_cases B code with h | ⟨_, h, F⟩
  · rw [h]; exact Nat.le_refl _
  · rw [h, List.length_reverse]; exact F.len

theorem fold_fold (B : Int) (code : List In) : fold B (fold B code) = fold B code := by
  rcases fold_cases B code with h | ⟨_, h, F⟩
  · rw [h, h]
  · rw [h]
    unfold fold
    split
    · rfl
    · have h0 := F.stay 0
      rw [List.drop_zero] at h0
      rw [h0]

theorem fold_check (B : Int) (code : List In) (nv na : Int) : (check (fold B code) nv na).2 = (check code nv na).2 := by
  rcases fold_cases B code with h | ⟨hc, h, F⟩
  · rw [h]
  · have hl := (check_ok code B B hc).2.2.1
    have hl2 := F.len
    rw [h, check_err, check_err, F.chk, List.length_reverse]
    rw [if_neg (show ¬ 31 < (code.foldl fstep []).length by omega), if_neg (show ¬ 31 < code.length by omega)]

theorem fold_run (B : Int) (code : List In) (vs as st : List Int) : run vs as (fold B code) st = run vs as code st := by
  rcases fold_cases B code with h | ⟨_, h, F⟩
  · rw [h]
  · rw [h, F.run]

/-- P3.5. -/
theorem eval_fold (B : Int) (code : List In) (vs as : List Int) : eval (fold B code) vs as = eval code vs as := by
  unfold eval; rw [fold_check, fold_run]

/-- What is folded is of what there was, or a Const. -/
theorem fstep_mem (out : List In) (x i : In) (h : i ∈ fstep out x) : i = x ∨ i ∈ out ∨ i.1 = 1 := by
  have hc : ∀ (n : Int) (r : List In), (∀ j ∈ r, j ∈ out) → i ∈ ((1, n) : In) :: r → i = x ∨ i ∈ out ∨ i.1 = 1 := by
    intro n r hr hi
    rcases List.mem_cons.1 hi with rfl | hi
    · exact Or.inr (Or.inr rfl)
    · exact Or.inr (Or.inl (hr i hi))
  have hp : i ∈ x :: out → i = x ∨ i ∈ out ∨ i.1 = 1 := by
    intro hi
    rcases List.mem_cons.1 hi with rfl | hi
    · exact Or.inl rfl
    · exact Or.inr (Or.inl hi)
  unfold fstep at h
  split at h
  · split at h
    · split at h
      · exact hc _ _ (fun j hj => by simp [hj]) h
      · exact hp h
    · exact hp h
  · split at h
    · split at h
      · split at h
        · exact hc _ _ (fun j hj => by simp [hj]) h
        · exact hp h
      · exact hp h
    · split at h
      · split at h
        · split at h
          · exact hc _ _ (fun j hj => by simp [hj]) h
          · exact hp h
        · exact hp h
      · exact hp h

theorem foldl_mem (code out : List In) (i : In) (h : i ∈ code.foldl fstep out) : i ∈ code ∨ i ∈ out ∨ i.1 = 1 := by
  induction code generalizing out with
  | nil => exact Or.inr (Or.inl h)
  | cons x r ih =>
    rcases ih _ h with h1 | h1 | h1
    · exact Or.inl (by simp [h1])
    · rcases fstep_mem out x i h1 with h2 | h2 | h2
      · exact Or.inl (by simp [h2])
      · exact Or.inr (Or.inl h2)
      · exact Or.inr (Or.inr h2)
    · exact Or.inr (Or.inr h1)

theorem fold_mem (B : Int) (code : List In) (i : In) (h : i ∈ fold B code) : i ∈ code ∨ (i.1 = 1 ∧ isVal i.2 = true) := by
  rcases fold_cases B code with e | ⟨_, e, F⟩
  · rw [e] at h; exact Or.inl h
  · rw [e, List.mem_reverse] at h
    rcases foldl_mem code [] i h with h1 | h1 | h1
    · exact Or.inl h1
    · cases h1
    · exact Or.inr ⟨h1, F.val i h h1⟩

/-! ## Eval by cases -/

theorem eval_bad (code : List In) (vs as : List Int) (h : (check code vs.length as.length).2 ≠ 0) : eval code vs as = (0, (check code vs.length as.length).2) := by
  unfold eval; rw [if_pos h]

theorem eval_none (code : List In) (vs as : List Int) (h : (check code vs.length as.length).2 = 0) (hv : (vs.all isVal && as.all isVal) = false) : eval code vs as = (0, 2) := by
  unfold eval; rw [if_neg (by omega), if_pos hv]

theorem eval_run (code : List In) (vs as : List Int) (h : (check code vs.length as.length).2 = 0) (hv : (vs.all isVal && as.all isVal) = true) :
    eval code vs as = top (run vs as code []) := by
  unfold eval; rw [if_neg (by omega), if_neg (by rw [hv]; simp)]

/-- An error's number is none that Check does not have. -/
theorem check_errs (code : List In) (nv na : Int) : (check code nv na).2 = 0 ∨ (check code nv na).2 = 2 ∨ (check code nv na).2 = 3 ∨ (check code nv na).2 = 4 ∨ (check code nv na).2 = 5 ∨ (check code nv na).2 = 6 := by
  rw [check_err]
  split
  · simp
  · split
    · simp
    · cases hx : crun nv na code 0 with
      | error e => have := crun_error _ _ _ _ _ hx; simp only [cend]; omega
      | ok x => simp only [cend]; split <;> simp

/-- What is in the row are values. -/
theorem run_val (nv na : Int) (vs as : List Int) (hv : ∀ x ∈ vs, isVal x = true) (ha : ∀ x ∈ as, isVal x = true) (code : List In) (h h' : Int) (st st' : List Int) (hc : crun nv na code h = .ok h') (hst : ∀ x ∈ st, isVal x = true)
    (hr : run vs as code st = some st') : ∀ x ∈ st', isVal x = true := by
  induction code generalizing h st with
  | nil => cases hr; exact hst
  | cons i r ih =>
    simp only [crun] at hc
    simp only [run] at hr
    cases hs : cstep nv na i h with
    | error e => rw [hs] at hc; cases hc
    | ok x =>
      rw [hs] at hc
      cases hp : step vs as i st with
      | none => rw [hp] at hr; cases hr
      | some st1 =>
        rw [hp] at hr
        have h1 : 0 ≤ takes i.1 ∧ (i.1 = 1 → isVal i.2 = true) := by
          unfold cstep at hs
          split at hs
          · cases hs
          · split at hs
            · cases hs
            · rename_i h0 h1
              refine ⟨by omega, fun e => ?_⟩
              have h2 : right i nv na = true := by simpa using h1
              unfold right at h2; rw [if_pos e] at h2; exact h2
        exact ih x st1 hc (step_val vs as i st st1 hv ha h1.2 (takes_zero i.1) h1.1 hst hp) hr

/-- The numbers in the row are as many as Check counts. -/
theorem run_count (nv na : Int) (vs as : List Int) (code : List In) (h h' : Int) (st st' : List Int) (hc : crun nv na code h = .ok h') (hl : (st.length : Int) = h) (hr : run vs as code st = some st') : (st'.length : Int) = h' := by
  induction code generalizing h st with
  | nil => cases hr; cases hc; exact hl
  | cons i r ih =>
    simp only [crun] at hc
    simp only [run] at hr
    cases hs : cstep nv na i h with
    | error e => rw [hs] at hc; cases hc
    | ok x =>
      rw [hs] at hc
      cases hp : step vs as i st with
      | none => rw [hp] at hr; cases hr
      | some st1 =>
        rw [hp] at hr
        refine ih x st1 hc ?_ hr
        have hx : x = h - takes i.1 + 1 ∧ 0 ≤ takes i.1 := by
          unfold cstep at hs
          split at hs
          · cases hs
          · split at hs
            · cases hs
            · split at hs
              · cases hs
              · cases hs; exact ⟨rfl, by omega⟩
        obtain ⟨rfl, h0⟩ := hx
        have h2 : ∀ o, o = 2 → takes o = 0 := by intro o e; subst e; decide
        have h3 : ∀ o, o = 3 → takes o = 0 := by intro o e; subst e; decide
        have hd : takes i.1 = 0 ∨ takes i.1 = 1 ∨ takes i.1 = 2 ∨ takes i.1 = 3 := by
          have : takes i.1 = -1 ∨ takes i.1 = 0 ∨ takes i.1 = 1 ∨ takes i.1 = 2 ∨ takes i.1 = 3 := by
            unfold takes; repeat' split
            all_goals omega
          omega
        unfold step at hp
        split at hp
        · rename_i e; cases hp; have := h2 _ e; simp only [List.length_cons]; omega
        · split at hp
          · rename_i e; cases hp; have := h3 _ e; simp only [List.length_cons]; omega
          · split at hp
            · match st, hp, hl with
              | a :: r, hp, hl =>
                obtain ⟨n, hn, rfl⟩ := Option.map_eq_some_iff.1 hp
                simp only [List.length_cons] at hl ⊢; omega
            · split at hp
              · match st, hp, hl with
                | b :: a :: r, hp, hl =>
                  obtain ⟨n, hn, rfl⟩ := Option.map_eq_some_iff.1 hp
                  simp only [List.length_cons] at hl ⊢; omega
              · split at hp
                · match st, hp, hl with
                  | c :: b :: a :: r, hp, hl =>
                    obtain ⟨n, hn, rfl⟩ := Option.map_eq_some_iff.1 hp
                    simp only [List.length_cons] at hl ⊢; omega
                · cases hp; simp only [List.length_cons]; omega

/-- What Eval comes to where all is well. -/
theorem eval_good (code : List In) (vs as : List Int) (n : Int) (h : eval code vs as = (n, 0)) :
    (check code vs.length as.length).2 = 0 ∧ (∀ x ∈ vs, isVal x = true) ∧ (∀ x ∈ as, isVal x = true) ∧ run vs as code [] = some [n] ∧ isVal n = true := by
  by_cases hc : (check code vs.length as.length).2 = 0
  · by_cases hv : (vs.all isVal && as.all isVal) = true
    · rw [eval_run _ _ _ hc hv] at h
      have hv' := hv
      rw [Bool.and_eq_true, List.all_eq_true, List.all_eq_true] at hv'
      have hok := (check_ok code _ _ hc).2.2.2
      cases hr : run vs as code [] with
      | none => rw [hr] at h; simp [top] at h
      | some st =>
        rw [hr] at h
        have hcount := run_count _ _ vs as code 0 1 [] st hok rfl hr
        match st, h, hcount, hr with
        | [x], h, _, hr =>
          have hx : x = n := by simpa [top] using h
          subst hx
          exact ⟨hc, hv'.1, hv'.2, rfl, run_val _ _ vs as hv'.1 hv'.2 code 0 1 [] [x] hok (by simp) hr x (by simp)⟩
        | [], _, hcount, _ => simp at hcount
        | _ :: _ :: _, _, hcount, _ => simp at hcount; omega
    · rw [eval_none _ _ _ hc (by simpa using hv)] at h; simp at h
  · rw [eval_bad _ _ _ hc] at h
    simp at h; exact absurd h.2 hc

theorem eval_of (code : List In) (vs as : List Int) (n : Int) (hc : (check code vs.length as.length).2 = 0) (hv : ∀ x ∈ vs, isVal x = true) (ha : ∀ x ∈ as, isVal x = true) (hr : run vs as code [] = some [n]) : eval code vs as = (n, 0) := by
  rw [eval_run _ _ _ hc (by rw [Bool.and_eq_true, List.all_eq_true, List.all_eq_true]; exact ⟨hv, ha⟩), hr]; rfl

/-! ## What is named -/

/-- What an expression comes to hangs on what it names alone. -/
theorem run_named (vs as vs' as' : List Int) (code : List In) (st : List Int) (hv : ∀ i ∈ code, i.1 = 2 → vs.getD i.2.toNat 0 = vs'.getD i.2.toNat 0) (ha : ∀ i ∈ code, i.1 = 3 → as.getD i.2.toNat 0 = as'.getD i.2.toNat 0) :
    run vs as code st = run vs' as' code st := by
  induction code generalizing st with
  | nil => rfl
  | cons i r ih =>
    have hs : step vs as i st = step vs' as' i st := by
      unfold step
      split
      · rename_i e; rw [hv i (by simp) e]
      · split
        · rename_i e; rw [ha i (by simp) e]
        · rfl
    simp only [run, hs]
    exact obind_eq (fun s => ih s (fun j hj => hv j (by simp [hj])) (fun j hj => ha j (by simp [hj])))

theorem usesTop_le (o most : Int) (code : List In) (t : Int) : t ≤ usesTop o most code t := by
  induction code generalizing t with
  | nil => exact Int.le_refl _
  | cons i r ih =>
    simp only [usesTop]
    refine Int.le_trans ?_ (ih _)
    split <;> omega

theorem usesTop_named (o most : Int) (code : List In) (t : Int) (i : In) (hi : i ∈ code) (h1 : i.1 = o) (h2 : 0 ≤ i.2) (h3 : i.2 < most) : i.2 ≤ usesTop o most code t := by
  induction code generalizing t with
  | nil => cases hi
  | cons j r ih =>
    simp only [usesTop]
    rcases List.mem_cons.1 hi with rfl | hi
    · refine Int.le_trans ?_ (usesTop_le _ _ _ _)
      rw [if_pos ⟨h1, h2, h3⟩]; omega
    · exact ih _ hi

theorem usesTop_lt (o most : Int) (code : List In) (t : Int) (h : t < most) : usesTop o most code t < most := by
  induction code generalizing t with
  | nil => exact h
  | cons i r ih =>
    simp only [usesTop]
    refine ih _ ?_
    split <;> omega

theorem uses_length (o most : Int) (code : List In) : (uses o most code).length = (usesTop o most code (-1) + 1).toNat := by simp [uses]

theorem uses_get (o most : Int) (code : List In) (n : Nat) (h : n < (uses o most code).length) : (uses o most code)[n]? = some (code.any fun i => decide (i.1 = o ∧ i.2 = (n : Int))) := by
  rw [uses_length] at h
  unfold uses
  rw [List.getElem?_map, List.getElem?_range h]; rfl

/-- A name that is not told is not named. -/
theorem uses_not (o most : Int) (code : List In) (n : Nat) (hm : (n : Int) < most) (h : (uses o most code)[n]? ≠ some true) (i : In) (hi : i ∈ code) (h1 : i.1 = o) : i.2 ≠ (n : Int) := by
  intro e
  have hl := usesTop_named o most code (-1) i hi h1 (by omega) (by omega)
  have hn : n < (uses o most code).length := by rw [uses_length]; omega
  apply h
  rw [uses_get o most code n hn]
  congr 1
  rw [List.any_eq_true]
  exact ⟨i, hi, by simp [h1, e]⟩

end Go.Proofs.YtgkniocjlkfhmaaDoor.E

namespace Go.Proofs.YtgkniocjlkfhmaaDoor.I
open Go Go.Proofs.YtgkniocjlkfhmaaDoor.E
set_option linter.unusedVariables false

/-- An expression. -/
inductive Ex where
  | con (n : Int) | var (k : Nat) | arg (k : Nat) | un (o : Int) (a : Ex) | bin (o : Int) (a b : Ex) | ite (a b c : Ex)

/-- Its instructions. -/
def codeOf : Ex → List In
  | .con n => [(1, n)] | .var k => [(2, (k : Int))] | .arg k => [(3, (k : Int))]
  | .un o a => codeOf a ++ [(o, 0)] | .bin o a b => codeOf a ++ codeOf b ++ [(o, 0)] | .ite a b c => codeOf a ++ codeOf b ++ codeOf c ++ [(16, 0)]

/-- May it be, with so many variables and arguments? -/
def WF (nv na : Int) : Ex → Prop
  | .con n => isVal n = true | .var k => (k : Int) < nv | .arg k => (k : Int) < na
  | .un o a => (o = 4 ∨ o = 5) ∧ WF nv na a | .bin o a b => takes o = 2 ∧ WF nv na a ∧ WF nv na b | .ite a b c => WF nv na a ∧ WF nv na b ∧ WF nv na c

/-- The rows of expressions that instructions make. -/
def flat (st : List Ex) : List In := (st.reverse.map codeOf).flatten

theorem flat_cons (e : Ex) (st : List Ex) : flat (e :: st) = flat st ++ codeOf e := by simp [flat]

theorem right_cases (i : In) (nv na : Int) (h : right i nv na = true) : (i.1 = 1 ∧ isVal i.2 = true) ∨ (i.1 = 2 ∧ 0 ≤ i.2 ∧ i.2 < nv) ∨ (i.1 = 3 ∧ 0 ≤ i.2 ∧ i.2 < na) ∨ (i.1 ≠ 1 ∧ i.1 ≠ 2 ∧ i.1 ≠ 3 ∧ i.2 = 0) := by
  unfold right at h
  split at h
  · rename_i h1; exact Or.inl ⟨h1, h⟩
  · split at h
    · rename_i h1 h2; have := of_decide_eq_true h; exact Or.inr (Or.inl ⟨h2, this.1, this.2⟩)
    · split at h
      · rename_i h1 h2 h3; have := of_decide_eq_true h; exact Or.inr (Or.inr (Or.inl ⟨h3, this.1, this.2⟩))
      · rename_i h1 h2 h3; exact Or.inr (Or.inr (Or.inr ⟨h1, h2, h3, of_decide_eq_true h⟩))

theorem takes_is (o : Int) : (o = 1 ∨ o = 2 ∨ o = 3) ∧ takes o = 0 ∨ (o = 4 ∨ o = 5) ∧ takes o = 1 ∨ (6 ≤ o ∧ o ≤ 15) ∧ takes o = 2 ∨ o = 16 ∧ takes o = 3 ∨ (o < 1 ∨ 16 < o) ∧ takes o = -1 := by
  unfold takes; repeat' split
  all_goals omega

theorem rows (nv na : Int) (code : List In) (h z : Int) (hc : crun nv na code h = .ok z) (st : List Ex) (hl : (st.length : Int) = h) (hw : ∀ e ∈ st, WF nv na e) :
    ∃ st', (st'.length : Int) = z ∧ (∀ e ∈ st', WF nv na e) ∧ flat st ++ code = flat st' := by
  induction code generalizing h st with
  | nil => simp only [crun] at hc; cases hc; exact ⟨st, hl, hw, by simp⟩
  | cons i r ih =>
    simp only [crun, cstep] at hc
    split at hc
    · cases hc
    · split at hc
      · cases hc
      · split at hc
        · cases hc
        · rename_i t0 t1 t2
          have hr : right i nv na = true := by simpa using t1
          have hrc := right_cases i nv na hr
          obtain ⟨o, x⟩ := i
          simp only at t0 t2 hrc hc
          have hti := takes_is o
          have key : ∀ (e : Ex) (rest : List Ex), (st.length : Int) - takes o = rest.length → WF nv na e → (∀ e ∈ rest, WF nv na e) → flat st ++ [(o, x)] = flat (e :: rest) →
              ∃ st', (st'.length : Int) = z ∧ (∀ e ∈ st', WF nv na e) ∧ flat st ++ (o, x) :: r = flat st' := by
            intro e rest h1 h2 h3 h4
            obtain ⟨st', k1, k2, k3⟩ := ih (h - takes o + 1) hc (e :: rest) (by rw [List.length_cons]; omega) (by intro e' he'; rcases List.mem_cons.1 he' with rfl | h'; exact h2; exact h3 e' h')
            exact ⟨st', k1, k2, by rw [← k3, ← h4]; simp⟩
          rcases hrc with ⟨rfl, hv⟩ | ⟨rfl, hx0, hx1⟩ | ⟨rfl, hx0, hx1⟩ | ⟨n1, n2, n3, rfl⟩
          · exact key (.con x) st (by omega) hv hw (by rw [flat_cons]; rfl)
          · obtain ⟨k, rfl⟩ := Int.eq_ofNat_of_zero_le hx0
            exact key (.var k) st (by omega) hx1 hw (by rw [flat_cons]; rfl)
          · obtain ⟨k, rfl⟩ := Int.eq_ofNat_of_zero_le hx0
            exact key (.arg k) st (by omega) hx1 hw (by rw [flat_cons]; rfl)
          · rcases hti with ⟨h1, _⟩ | ⟨h1, h2⟩ | ⟨h1, h2⟩ | ⟨h1, h2⟩ | ⟨_, h2⟩
            · omega
            · cases st with
              | nil => simp at hl; omega
              | cons a rest =>
                exact key (.un o a) rest (by rw [List.length_cons]; omega) ⟨h1, hw a (by simp)⟩ (fun e he => hw e (by simp [he])) (by rw [flat_cons, flat_cons]; simp [codeOf])
            · cases st with
              | nil => simp at hl; omega
              | cons b st2 =>
                cases st2 with
                | nil => simp at hl; omega
                | cons a rest =>
                  exact key (.bin o a b) rest (by simp only [List.length_cons]; omega) ⟨h2, hw a (by simp), hw b (by simp)⟩ (fun e he => hw e (by simp [he])) (by rw [flat_cons, flat_cons, flat_cons]; simp [codeOf])
            · subst h1
              cases st with
              | nil => simp at hl; omega
              | cons c st2 =>
                cases st2 with
                | nil => simp at hl; omega
                | cons b st3 =>
                  cases st3 with
                  | nil => simp at hl; omega
                  | cons a rest =>
                    exact key (.ite a b c) rest (by simp only [List.length_cons]; omega) ⟨hw a (by simp), hw b (by simp), hw c (by simp)⟩ (fun e he => hw e (by simp [he])) (by rw [flat_cons, flat_cons, flat_cons, flat_cons]; simp [codeOf])
            · omega

/-- What may be is an expression's. -/
theorem ex_of (code : List In) (nv na : Int) (h : (check code nv na).2 = 0) : ∃ e, WF nv na e ∧ codeOf e = code := by
  obtain ⟨_, _, _, hc⟩ := check_ok code nv na h
  obtain ⟨st, h1, h2, h3⟩ := rows nv na code 0 1 hc [] (by simp) (by simp)
  match st, h1, h2, h3 with
  | [e], _, h2, h3 => exact ⟨e, h2 e (by simp), by simpa [flat] using h3.symm⟩
  | [], h1, _, _ => simp at h1
  | _ :: _ :: _, h1, _, _ => simp at h1; omega

/-! ## The text -/

abbrev Bs := List UInt8

/-- Digits of a number. -/
def dig (n : Nat) : Bs := if h : n < 10 then [UInt8.ofNat (48 + n)] else dig (n / 10) ++ [UInt8.ofNat (48 + n % 10)]
termination_by n
decreasing_by omega

/-- The level at which an expression is made. -/
def rank : Ex → Nat
  | .con n => if n < 0 then 6 else 7 | .var _ => 7 | .arg _ => 7 | .un _ _ => 6 | .ite _ _ _ => 7
  | .bin o _ _ => if o = 15 then 1 else if o = 14 then 2 else if o = 11 ∨ o = 12 ∨ o = 13 then 3 else if o = 6 ∨ o = 7 then 4 else if o = 8 then 5 else 7

def sign (o : Int) : Bs := if o = 6 then [43] else if o = 7 then [45] else if o = 8 then [42] else if o = 11 then [60] else if o = 12 then [60, 61] else if o = 13 then [61] else if o = 14 then [38] else [124]
def wmin : Bs := [109, 105, 110]
def wmax : Bs := [109, 97, 120]
def wif : Bs := [105, 102]

/-- Brackets, where they must be. -/
def wrap (r least : Nat) (p : List Bs) : List Bs := if r < least then [[40]] ++ p ++ [[41]] else p

/-- A constant from 0 on? -/
def plainCon : Ex → Bool | .con n => decide (0 ≤ n) | _ => false

/-- The text's pieces: words, and blanks. -/
def pieces (vs : List Bs) : Ex → List Bs
  | .con n => if n < 0 then [[45], dig n.natAbs] else [dig n.natAbs]
  | .var k => [vs.getD k []]
  | .arg k => [[36] ++ dig k]
  | .un o a => if o = 4 then (if plainCon a = true then [[45], [40]] ++ pieces vs a ++ [[41]] else [[45]] ++ wrap (rank a) 6 (pieces vs a)) else [[33]] ++ wrap (rank a) 6 (pieces vs a)
  | .ite a b c => [wif, [40]] ++ pieces vs a ++ [[44], [32]] ++ pieces vs b ++ [[44], [32]] ++ pieces vs c ++ [[41]]
  | .bin o a b => if o = 9 ∨ o = 10 then [if o = 9 then wmin else wmax, [40]] ++ pieces vs a ++ [[44], [32]] ++ pieces vs b ++ [[41]]
      else wrap (rank a) (if rank (.bin o a b) = 3 then 4 else rank (.bin o a b)) (pieces vs a) ++ [[32], sign o, [32]] ++ wrap (rank b) (rank (.bin o a b) + 1) (pieces vs b)

/-- P4.3: the text. -/
def text (vs : List Bs) (e : Ex) : Bs := (pieces vs e).flatten

/-! ## Words -/

def letter (c : UInt8) : Bool := decide (97 ≤ c.toNat ∧ c.toNat ≤ 122)
def digit (c : UInt8) : Bool := decide (48 ≤ c.toNat ∧ c.toNat ≤ 57)
def idc (c : UInt8) : Bool := letter c || digit c || decide (c = 95)

/-- P4.1. -/
def isName (s : Bs) : Bool := match s with
  | [] => false
  | c :: r => decide (r.length < 24) && letter c && (c :: r).all idc && decide (c :: r ≠ wmin) && decide (c :: r ≠ wmax) && decide (c :: r ≠ wif)

def signs : Bs := [43, 45, 42, 33, 38, 124, 60, 61, 40, 41, 44]

/-- How long a text's first word is; 0: none begins. -/
def wordLen (s : Bs) : Nat := match s with
  | [] => 0
  | c :: r => if letter c = true then 1 + (r.takeWhile idc).length else if digit c = true then 1 + (r.takeWhile digit).length
    else if c = 36 then (match r with | d :: _ => if digit d = true then 2 else 0 | [] => 0)
    else if c = 60 ∧ r.head? = some 61 then 2 else if c ∈ signs then 1 else 0

/-- A word and its place; at the end: none. -/
abbrev Tk := Nat × Bs

/-- A text's words, from a place on. -/
inductive Lx : Nat → Bs → List Tk → Prop
  | nil (p : Nat) : Lx p [] [(p, [])]
  | blank (p : Nat) (r : Bs) (ts : List Tk) : Lx (p + 1) r ts → Lx p (32 :: r) ts
  | word (p : Nat) (w r : Bs) (ts : List Tk) : w ≠ [] → w.head? ≠ some 32 → wordLen (w ++ r) = w.length → Lx (p + w.length) r ts → Lx p (w ++ r) ((p, w) :: ts)

/-- The words of pieces. -/
def toks : Nat → List Bs → List Tk
  | _, [] => []
  | p, w :: r => if w = [32] then toks (p + 1) r else (p, w) :: toks (p + w.length) r

theorem toks_append (p : Nat) (a b : List Bs) : toks p (a ++ b) = toks p a ++ toks (p + a.flatten.length) b := by
  induction a generalizing p with
  | nil => simp [toks]
  | cons w r ih =>
    simp only [List.cons_append, toks]
    split
    · rename_i h
      rw [ih, h]
      simp only [List.flatten_cons, List.length_append, List.length_cons, List.length_nil]
      congr 2; omega
    · rw [ih]
      simp only [List.flatten_cons, List.length_append, List.cons_append]
      congr 3; omega

def IsWord (w r : Bs) : Prop := w ≠ [] ∧ w.head? ≠ some 32 ∧ wordLen (w ++ r) = w.length

/-- Pieces that are told apart, with what follows. -/
def Good : List Bs → Bs → Prop
  | [], _ => True
  | w :: r, tail => (w = [32] ∨ IsWord w (r.flatten ++ tail)) ∧ Good r tail

theorem Good.append {a b : List Bs} {tail : Bs} (ha : Good a (b.flatten ++ tail)) (hb : Good b tail) : Good (a ++ b) tail := by
  induction a with
  | nil => exact hb
  | cons w r ih =>
    refine ⟨?_, ih ha.2⟩
    have h := ha.1
    show w = [32] ∨ IsWord w ((r ++ b).flatten ++ tail)
    rw [List.flatten_append, List.append_assoc]
    exact h

theorem Lx.pieces {ps : List Bs} {p : Nat} {tail : Bs} {ts : List Tk} (hg : Good ps tail) (h : Lx (p + ps.flatten.length) tail ts) : Lx p (ps.flatten ++ tail) (toks p ps ++ ts) := by
  induction ps generalizing p with
  | nil => simpa [toks] using h
  | cons w r ih =>
    have h2 : Lx (p + w.length) (r.flatten ++ tail) (toks (p + w.length) r ++ ts) := by
      refine ih hg.2 ?_
      rw [List.flatten_cons, List.length_append] at h
      rw [Nat.add_assoc]
      exact h
    rw [List.flatten_cons, List.append_assoc]
    unfold toks
    split
    · rename_i hw
      subst hw
      exact Lx.blank p _ _ h2
    · rename_i hw
      obtain ⟨w1, w2, w3⟩ := hg.1.resolve_left hw
      exact Lx.word p w _ _ w1 w2 w3 h2

end Go.Proofs.YtgkniocjlkfhmaaDoor.I

namespace Go.Proofs.YtgkniocjlkfhmaaDoor.I
open Go Go.Proofs.YtgkniocjlkfhmaaDoor.E
set_option linter.unusedVariables false

/-- What may follow: nothing, a blank, a closing bracket, a comma. -/
def Brk (t : Bs) : Prop := t = [] ∨ ∃ c r, t = c :: r ∧ (c = 32 ∨ c = 41 ∨ c = 44)

theorem brk_idc {t : Bs} (h : Brk t) : t.takeWhile idc = [] ∧ t.takeWhile digit = [] := by
  rcases h with rfl | ⟨c, r, rfl, h⟩
  · exact ⟨rfl, rfl⟩
  · rcases h with rfl | rfl | rfl <;> exact ⟨rfl, rfl⟩

theorem brk_cons (c : UInt8) (r : Bs) (h : c = 32 ∨ c = 41 ∨ c = 44) : Brk (c :: r) := Or.inr ⟨c, r, rfl, h⟩

theorem takeWhile_all {p : UInt8 → Bool} {a b : Bs} (ha : ∀ c ∈ a, p c = true) (hb : b.takeWhile p = []) : (a ++ b).takeWhile p = a := by
  induction a with
  | nil => exact hb
  | cons c r ih =>
    rw [List.cons_append, List.takeWhile_cons, if_pos (ha c (by simp)), ih (fun d hd => ha d (by simp [hd]))]

/-- A name is a word. -/
theorem word_name (s t : Bs) (hs : isName s = true) (ht : Brk t) : IsWord s t := by
  match s, hs with
  | c :: r, hs =>
    simp only [isName, Bool.and_eq_true, decide_eq_true_eq, List.all_cons] at hs
    obtain ⟨⟨⟨⟨⟨hl, hc⟩, ha⟩, _⟩, _⟩, _⟩ := hs
    refine ⟨by simp, ?_, ?_⟩
    · intro h
      cases h
      revert hc; decide
    · simp only [List.cons_append, wordLen]
      rw [if_pos hc, takeWhile_all (fun d hd => List.all_eq_true.1 ha.2 d hd) (brk_idc ht).1]
      simp only [List.length_cons]; omega

theorem word_key (s t : Bs) (hs : s = wmin ∨ s = wmax ∨ s = wif) : IsWord s (40 :: t) := by
  rcases hs with rfl | rfl | rfl
  all_goals
    refine ⟨by decide, by decide, ?_⟩
    rfl

theorem ofNat_digit (n : Nat) (h : n < 10) : digit (UInt8.ofNat (48 + n)) = true := by
  unfold digit
  refine decide_eq_true ?_
  rw [UInt8.toNat_ofNat']
  omega

theorem dig_digits (n : Nat) : ∀ c ∈ dig n, digit c = true := by
  induction n using Nat.strongRecOn with
  | _ n ih =>
    intro c hc
    unfold dig at hc
    split at hc
    · rename_i h
      obtain rfl := List.mem_singleton.1 hc
      exact ofNat_digit n h
    · rename_i h
      rcases List.mem_append.1 hc with hc | hc
      · exact ih (n / 10) (by omega) c hc
      · obtain rfl := List.mem_singleton.1 hc
        exact ofNat_digit _ (by omega)

theorem dig_ne (n : Nat) : dig n ≠ [] := by
  unfold dig
  split
  · simp
  · simp

theorem not_letter {c : UInt8} (h : digit c = true) : letter c = false := by
  unfold digit at h
  have := of_decide_eq_true h
  unfold letter
  exact decide_eq_false (by omega)

theorem word_dig (n : Nat) (t : Bs) (ht : Brk t) : IsWord (dig n) t := by
  have hd := dig_digits n
  have hne := dig_ne n
  obtain ⟨c, r, hcr⟩ := List.exists_cons_of_ne_nil hne
  rw [hcr] at hd ⊢
  have hc := hd c (by simp)
  refine ⟨by simp, ?_, ?_⟩
  · intro h
    cases h
    revert hc; decide
  · simp only [List.cons_append, wordLen]
    rw [if_neg (by rw [not_letter hc]; decide), if_pos hc, takeWhile_all (fun d hd' => hd d (by simp [hd'])) (brk_idc ht).2]
    simp only [List.length_cons]; omega

theorem word_one (c : UInt8) (t : Bs) (h : c = 43 ∨ c = 45 ∨ c = 42 ∨ c = 33 ∨ c = 38 ∨ c = 124 ∨ c = 61 ∨ c = 40 ∨ c = 41 ∨ c = 44) : IsWord [c] t := by
  rcases h with rfl | rfl | rfl | rfl | rfl | rfl | rfl | rfl | rfl | rfl
  all_goals
    refine ⟨by simp, by decide, ?_⟩
    rfl

theorem word_sign (o : Int) (t : Bs) : IsWord (sign o) (32 :: t) := by
  unfold sign
  repeat' split
  all_goals
    refine ⟨by decide, by decide, ?_⟩
    rfl

theorem word_arg (k : Nat) (t : Bs) (h : k < 10) : IsWord ([36] ++ dig k) t := by
  have hd : dig k = [UInt8.ofNat (48 + k)] := by unfold dig; rw [dif_pos h]
  rw [hd]
  refine ⟨by simp, by show some (36 : UInt8) ≠ some 32; decide, ?_⟩
  have h1 : letter 36 = false := by decide
  have h2 : digit 36 = false := by decide
  simp only [List.cons_append, List.nil_append, wordLen, h1, h2, ofNat_digit k h]
  rfl

/-- All that an expression names has a name, and its arguments' digits are one each. -/
def Nm (vs : List Bs) : Ex → Prop
  | .con _ => True | .var k => isName (vs.getD k []) = true | .arg k => k < 10
  | .un _ a => Nm vs a | .bin _ a b => Nm vs a ∧ Nm vs b | .ite a b c => Nm vs a ∧ Nm vs b ∧ Nm vs c

theorem nm_of (vs : List Bs) (na : Int) (hna : na ≤ 10) (hv : ∀ s ∈ vs, isName s = true) (e : Ex) (hw : WF vs.length na e) : Nm vs e := by
  induction e with
  | con n => trivial
  | var k =>
    have hk : k < vs.length := by have h : (k : Int) < vs.length := hw; omega
    show isName (vs.getD k []) = true
    rw [List.getD_eq_getElem?_getD, List.getElem?_eq_getElem hk]
    exact hv _ (List.getElem_mem hk)
  | arg k => show k < 10; have h : (k : Int) < na := hw; omega
  | un o a ih => exact ih hw.2
  | bin o a b iha ihb => exact ⟨iha hw.2.1, ihb hw.2.2⟩
  | ite a b c iha ihb ihc => exact ⟨iha hw.1, ihb hw.2.1, ihc hw.2.2⟩

theorem good_wrap (r least : Nat) (p : List Bs) (t : Bs) (h : ∀ t, Brk t → Good p t) (ht : Brk t) : Good (wrap r least p) t := by
  unfold wrap
  split
  · have h1 : Good p ([41] ++ t) := h _ (brk_cons 41 t (by simp))
    have h2 : Good (p ++ [[41]]) t := Good.append (by simpa using h1) ⟨Or.inr (word_one 41 _ (by simp)), trivial⟩
    rw [List.append_assoc]
    exact ⟨Or.inr (word_one 40 _ (by simp)), h2⟩
  · exact h t ht

theorem good_pieces (vs : List Bs) (e : Ex) (hn : Nm vs e) : ∀ t, Brk t → Good (pieces vs e) t := by
  induction e with
  | con n =>
    intro t ht
    unfold pieces
    split
    · exact ⟨Or.inr (word_one 45 _ (by simp)), Or.inr (word_dig _ _ (by simpa using ht)), trivial⟩
    · exact ⟨Or.inr (word_dig _ _ (by simpa using ht)), trivial⟩
  | var k => intro t ht; exact ⟨Or.inr (word_name _ _ hn (by simpa using ht)), trivial⟩
  | arg k => intro t ht; exact ⟨Or.inr (word_arg k _ hn), trivial⟩
  | un o a ih =>
    intro t ht
    have ih := ih hn
    unfold pieces
    split
    · split
      · have h2 : Good (pieces vs a ++ [[41]]) t := Good.append (by simpa using ih _ (brk_cons 41 t (by simp))) ⟨Or.inr (word_one 41 _ (by simp)), trivial⟩
        exact ⟨Or.inr (word_one 45 _ (by simp)), Or.inr (word_one 40 _ (by simp)), h2⟩
      · exact ⟨Or.inr (word_one 45 _ (by simp)), good_wrap _ _ _ _ ih ht⟩
    · exact ⟨Or.inr (word_one 33 _ (by simp)), good_wrap _ _ _ _ ih ht⟩
  | ite a b c iha ihb ihc =>
    intro t ht
    have h3 : Good (pieces vs c ++ [[41]]) t := Good.append (by simpa using ihc hn.2.2 _ (brk_cons 41 t (by simp))) ⟨Or.inr (word_one 41 _ (by simp)), trivial⟩
    have h2 : Good (pieces vs b ++ ([[44], [32]] ++ (pieces vs c ++ [[41]]))) t := Good.append (by simpa using ihb hn.2.1 _ (brk_cons 44 _ (by simp))) ⟨Or.inr (word_one 44 _ (by simp)), Or.inl rfl, h3⟩
    have h1 : Good (pieces vs a ++ ([[44], [32]] ++ (pieces vs b ++ ([[44], [32]] ++ (pieces vs c ++ [[41]]))))) t := Good.append (by simpa using iha hn.1 _ (brk_cons 44 _ (by simp))) ⟨Or.inr (word_one 44 _ (by simp)), Or.inl rfl, h2⟩
    have h0 : Good ([wif, [40]] ++ (pieces vs a ++ ([[44], [32]] ++ (pieces vs b ++ ([[44], [32]] ++ (pieces vs c ++ [[41]])))))) t := ⟨Or.inr (word_key wif _ (by simp)), Or.inr (word_one 40 _ (by simp)), h1⟩
    simpa [pieces] using h0
  | bin o a b iha ihb =>
    intro t ht
    unfold pieces
    split
    · rename_i ho
      have h2 : Good (pieces vs b ++ [[41]]) t := Good.append (by simpa using ihb hn.2 _ (brk_cons 41 t (by simp))) ⟨Or.inr (word_one 41 _ (by simp)), trivial⟩
      have h1 : Good (pieces vs a ++ ([[44], [32]] ++ (pieces vs b ++ [[41]]))) t := Good.append (by simpa using iha hn.1 _ (brk_cons 44 _ (by simp))) ⟨Or.inr (word_one 44 _ (by simp)), Or.inl rfl, h2⟩
      have hk : (if o = 9 then wmin else wmax) = wmin ∨ (if o = 9 then wmin else wmax) = wmax ∨ (if o = 9 then wmin else wmax) = wif := by
        split
        · exact Or.inl rfl
        · exact Or.inr (Or.inl rfl)
      have h0 : Good ([if o = 9 then wmin else wmax, [40]] ++ (pieces vs a ++ ([[44], [32]] ++ (pieces vs b ++ [[41]])))) t := ⟨Or.inr (word_key _ _ hk), Or.inr (word_one 40 _ (by simp)), h1⟩
      simpa using h0
    · have hb := good_wrap (rank b) (rank (.bin o a b) + 1) _ t (ihb hn.2) ht
      have h1 : Good ([[32], sign o, [32]] ++ wrap (rank b) (rank (.bin o a b) + 1) (pieces vs b)) t := ⟨Or.inl rfl, Or.inr (by simpa using word_sign o _), Or.inl rfl, hb⟩
      have ha := good_wrap (rank a) (if rank (.bin o a b) = 3 then 4 else rank (.bin o a b)) _ (([[32], sign o, [32]] ++ wrap (rank b) (rank (.bin o a b) + 1) (pieces vs b)).flatten ++ t) (iha hn.1) (by simp only [List.cons_append, List.flatten_cons]; exact brk_cons 32 _ (by simp))
      rw [List.append_assoc]
      exact Good.append ha h1

/-- A shown text's words. -/
theorem text_words (vs : List Bs) (e : Ex) (hn : Nm vs e) (p : Nat) (t : Bs) (ht : Brk t) (ts : List Tk) (h : Lx (p + (text vs e).length) t ts) : Lx p (text vs e ++ t) (toks p (pieces vs e) ++ ts) :=
  Lx.pieces (good_pieces vs e hn t ht) h
end Go.Proofs.YtgkniocjlkfhmaaDoor.I

namespace Go.Proofs.YtgkniocjlkfhmaaDoor.I
open Go Go.Proofs.YtgkniocjlkfhmaaDoor.E
set_option linter.unusedVariables false

/-- What is read: a level's operands (6: one), what follows an operand, one, an atom. -/
inductive Kd where
  | lv (k : Nat) | lo (k : Nat) (many : Bool) (c : List In) | on | atom

/-- What was read: instructions, and the words behind; or a place and an error. -/
inductive Rs where
  | ok (c : List In) (r : List Tk) | err (p : Nat) (e : Int)

/-- The instruction that a sign of a level is. -/
def opAt (k : Nat) (s : Bs) : Option Int :=
  if k = 1 then (if s = [124] then some 15 else none) else if k = 2 then (if s = [38] then some 14 else none)
  else if k = 3 then (if s = [60] then some 11 else if s = [60, 61] then some 12 else if s = [61] then some 13 else none)
  else if k = 4 then (if s = [43] then some 6 else if s = [45] then some 7 else none) else if k = 5 then (if s = [42] then some 8 else none) else none

def headB (l : List Tk) : Bs := match l with | (_, s) :: _ => s | [] => []

/-- A number, right behind. -/
def near (p : Nat) (r : List Tk) : Prop := ∃ c s r', r = (p + 1, c :: s) :: r' ∧ digit c = true

/-- The grammar, as far as shown texts, and one sign behind them, go. -/
inductive Pa (vs : List Bs) (na : Int) : Kd → List Tk → Rs → Prop
  | six (l : List Tk) (x : Rs) : Pa vs na .on l x → Pa vs na (.lv 6) l x
  | lvErr (k : Nat) (l : List Tk) (p : Nat) (e : Int) : 1 ≤ k → k ≤ 5 → Pa vs na (.lv (k + 1)) l (.err p e) → Pa vs na (.lv k) l (.err p e)
  | lvGo (k : Nat) (l : List Tk) (c : List In) (r : List Tk) (x : Rs) : 1 ≤ k → k ≤ 5 → Pa vs na (.lv (k + 1)) l (.ok c r) → Pa vs na (.lo k false c) r x → Pa vs na (.lv k) l x
  | loStop (k : Nat) (m : Bool) (c : List In) (r : List Tk) : (opAt k (headB r) = none ∨ (k = 3 ∧ m = true)) → Pa vs na (.lo k m c) r (.ok c r)
  | loErr (k : Nat) (m : Bool) (c : List In) (q : Nat) (s : Bs) (o : Int) (r : List Tk) (p : Nat) (e : Int) : opAt k s = some o → ¬ (k = 3 ∧ m = true) → Pa vs na (.lv (k + 1)) r (.err p e) → Pa vs na (.lo k m c) ((q, s) :: r) (.err p e)
  | loGo (k : Nat) (m : Bool) (c : List In) (q : Nat) (s : Bs) (o : Int) (r : List Tk) (d : List In) (t : List Tk) (x : Rs) : opAt k s = some o → ¬ (k = 3 ∧ m = true) → Pa vs na (.lv (k + 1)) r (.ok d t) → Pa vs na (.lo k (decide (k = 3)) (c ++ d ++ [(o, 0)])) t x → Pa vs na (.lo k m c) ((q, s) :: r) x
  | num (p v : Nat) (r : List Tk) : v ≤ 1099511627776 → Pa vs na .on ((p, [45]) :: (p + 1, dig v) :: r) (.ok [(1, -(v : Int))] r)
  | neg (p : Nat) (l : List Tk) (c : List In) (r : List Tk) : ¬ near p l → Pa vs na .on l (.ok c r) → Pa vs na .on ((p, [45]) :: l) (.ok (c ++ [(4, 0)]) r)
  | non (p : Nat) (l : List Tk) (c : List In) (r : List Tk) : Pa vs na .on l (.ok c r) → Pa vs na .on ((p, [33]) :: l) (.ok (c ++ [(5, 0)]) r)
  | atm (l : List Tk) (x : Rs) : headB l ≠ [45] → headB l ≠ [33] → Pa vs na .atom l x → Pa vs na .on l x
  | aEnd (p : Nat) : Pa vs na .atom [(p, [])] (.err p 6)
  | aNum (p v : Nat) (r : List Tk) : v ≤ 1099511627776 → Pa vs na .atom ((p, dig v) :: r) (.ok [(1, (v : Int))] r)
  | aVar (p k : Nat) (s : Bs) (r : List Tk) : vs[k]? = some s → isName s = true → (∀ j, j < k → vs[j]? ≠ some s) → Pa vs na .atom ((p, s) :: r) (.ok [(2, (k : Int))] r)
  | aArg (p k : Nat) (r : List Tk) : (k : Int) < na → k < 10 → Pa vs na .atom ((p, [36] ++ dig k) :: r) (.ok [(3, (k : Int))] r)
  | aPar (p : Nat) (l : List Tk) (c : List In) (q : Nat) (r : List Tk) : Pa vs na (.lv 1) l (.ok c ((q, [41]) :: r)) → Pa vs na .atom ((p, [40]) :: l) (.ok c r)
  | aTwo (o : Int) (p p' : Nat) (l : List Tk) (c1 : List In) (q : Nat) (r1 : List Tk) (c2 : List In) (q' : Nat) (r : List Tk) : (o = 9 ∨ o = 10) → Pa vs na (.lv 1) l (.ok c1 ((q, [44]) :: r1)) → Pa vs na (.lv 1) r1 (.ok c2 ((q', [41]) :: r)) →
      Pa vs na .atom ((p, if o = 9 then wmin else wmax) :: (p', [40]) :: l) (.ok (c1 ++ c2 ++ [(o, 0)]) r)
  | aIf (p p' : Nat) (l : List Tk) (c1 : List In) (q : Nat) (r1 : List Tk) (c2 : List In) (q' : Nat) (r2 : List Tk) (c3 : List In) (q'' : Nat) (r : List Tk) : Pa vs na (.lv 1) l (.ok c1 ((q, [44]) :: r1)) → Pa vs na (.lv 1) r1 (.ok c2 ((q', [44]) :: r2)) → Pa vs na (.lv 1) r2 (.ok c3 ((q'', [41]) :: r)) →
      Pa vs na .atom ((p, wif) :: (p', [40]) :: l) (.ok (c1 ++ c2 ++ c3 ++ [(16, 0)]) r)

/-- No sign of a level from k on. -/
def Stop (k : Nat) (r : List Tk) : Prop := ∀ j, k ≤ j → j ≤ 5 → opAt j (headB r) = none

theorem Stop.mono {k k' : Nat} {r : List Tk} (h : Stop k r) (hk : k ≤ k') : Stop k' r := fun j h1 h2 => h j (by omega) h2

theorem opAt_none (j : Nat) (s : Bs) (h : s ≠ [124] ∧ s ≠ [38] ∧ s ≠ [60] ∧ s ≠ [60, 61] ∧ s ≠ [61] ∧ s ≠ [43] ∧ s ≠ [45] ∧ s ≠ [42]) : opAt j s = none := by
  obtain ⟨h1, h2, h3, h4, h5, h6, h7, h8⟩ := h
  unfold opAt
  simp only [h1, h2, h3, h4, h5, h6, h7, h8, if_false]
  repeat' split
  all_goals rfl

theorem stop_of (k q : Nat) (s : Bs) (r : List Tk) (h : s ≠ [124] ∧ s ≠ [38] ∧ s ≠ [60] ∧ s ≠ [60, 61] ∧ s ≠ [61] ∧ s ≠ [43] ∧ s ≠ [45] ∧ s ≠ [42]) : Stop k ((q, s) :: r) := fun j _ _ => opAt_none j s h

section
variable {vs : List Bs} {na : Int}

theorem lo_stop {k : Nat} {m : Bool} {c : List In} {r : List Tk} (hk : k ≤ 5) (h : Stop k r) : Pa vs na (.lo k m c) r (.ok c r) := Pa.loStop k m c r (Or.inl (h k (Nat.le_refl _) hk))

/-- From a level on, down to any lower one. -/
theorem down (T : Nat → List Tk) (c : List In) (m : Nat) (hm : m ≤ 6) (base : ∀ p rest, Stop m rest → Pa vs na (.lv m) (T p ++ rest) (.ok c rest)) :
    ∀ d k, 1 ≤ k → k + 1 + d = m → ∀ p rest x, Stop (k + 1) rest → Pa vs na (.lo k false c) rest x → Pa vs na (.lv k) (T p ++ rest) x := by
  intro d
  induction d with
  | zero =>
    intro k hk he p rest x hs hx
    refine Pa.lvGo k _ c rest x hk (by omega) ?_ hx
    have := base p rest (by rw [← he]; exact hs)
    rw [show k + 1 = m by omega]
    exact this
  | succ d ih =>
    intro k hk he p rest x hs hx
    refine Pa.lvGo k _ c rest x hk (by omega) ?_ hx
    exact ih (k + 1) (by omega) (by omega) p rest _ (hs.mono (by omega)) (lo_stop (by omega) hs)

/-- What stands for itself, or has its sign ahead, at any level. -/
theorem from_one (T : Nat → List Tk) (c : List In) (h : ∀ p rest, Pa vs na .on (T p ++ rest) (.ok c rest)) (k : Nat) (h1 : 1 ≤ k) (h2 : k ≤ 5) (p : Nat) (rest : List Tk) (x : Rs) (hs : Stop (k + 1) rest) (hx : Pa vs na (.lo k false c) rest x) :
    Pa vs na (.lv k) (T p ++ rest) x :=
  down T c 6 (Nat.le_refl _) (fun p rest _ => Pa.six _ _ (h p rest)) (5 - k) k h1 (by omega) p rest x hs hx

/-- In brackets. -/
theorem in_par (T : Nat → List Tk) (c : List In) (h : ∀ p rest, Stop 1 rest → Pa vs na (.lv 1) (T p ++ rest) (.ok c rest)) (p p' q : Nat) (rest : List Tk) : Pa vs na .on ((p, [40]) :: (T p' ++ (q, [41]) :: rest)) (.ok c rest) := by
  refine Pa.atm _ _ (by show ([40] : Bs) ≠ [45]; decide) (by show ([40] : Bs) ≠ [33]; decide) ?_
  exact Pa.aPar p _ c q rest (h p' _ (stop_of _ _ _ _ (by decide)))
end

theorem toks_one (p : Nat) (w : Bs) (r : List Bs) (h : w ≠ [32]) : toks p (w :: r) = (p, w) :: toks (p + w.length) r := by
  conv => lhs; unfold toks
  rw [if_neg h]
theorem toks_blank (p : Nat) (r : List Bs) : toks p ([32] :: r) = toks (p + 1) r := by
  conv => lhs; unfold toks
  rw [if_pos rfl]

theorem dig_head (n : Nat) : ∃ c r, dig n = c :: r ∧ digit c = true := by
  obtain ⟨c, r, h⟩ := List.exists_cons_of_ne_nil (dig_ne n)
  exact ⟨c, r, h, dig_digits n c (by rw [h]; simp)⟩

theorem dig_not (n : Nat) (c : UInt8) (r : Bs) (hc : digit c = false) : dig n ≠ c :: r := by
  obtain ⟨d, r', h, hd⟩ := dig_head n
  intro e
  rw [h] at e
  cases e
  rw [hd] at hc; cases hc

theorem name_not (s : Bs) (c : UInt8) (r : Bs) (hs : isName s = true) (hc : letter c = false) : s ≠ c :: r := by
  rintro rfl
  simp only [isName, Bool.and_eq_true] at hs
  rw [hs.1.1.1.1.2] at hc
  cases hc

/-- Names that are told apart. -/
def Apart (vs : List Bs) : Prop := ∀ (i j : Nat) (s : Bs), vs[i]? = some s → vs[j]? = some s → i = j

/-- An expression whose names are there. -/
def There (vs : List Bs) (na : Int) : Ex → Prop
  | .con n => isVal n = true | .var k => ∃ s, vs[k]? = some s ∧ isName s = true | .arg k => (k : Int) < na ∧ k < 10
  | .un o a => (o = 4 ∨ o = 5) ∧ There vs na a | .bin o a b => takes o = 2 ∧ There vs na a ∧ There vs na b | .ite a b c => There vs na a ∧ There vs na b ∧ There vs na c

theorem there_of (vs : List Bs) (na : Int) (hna : na ≤ 10) (hv : ∀ s ∈ vs, isName s = true) (e : Ex) (hw : WF vs.length na e) : There vs na e := by
  induction e with
  | con n => exact hw
  | var k =>
    have hk : k < vs.length := by have h : (k : Int) < vs.length := hw; omega
    exact ⟨vs[k], List.getElem?_eq_getElem hk, hv _ (List.getElem_mem hk)⟩
  | arg k => have h : (k : Int) < na := hw; exact ⟨h, by omega⟩
  | un o a ih => exact ⟨hw.1, ih hw.2⟩
  | bin o a b iha ihb => exact ⟨hw.1, iha hw.2.1, ihb hw.2.2⟩
  | ite a b c iha ihb ihc => exact ⟨iha hw.1, ihb hw.2.1, ihc hw.2.2⟩

/-- The words of an expression at a level. -/
def wt (vs : List Bs) (e : Ex) (least p : Nat) : List Tk := toks p (wrap (rank e) least (pieces vs e))

/-- Has a level's one comparison been read? -/
def flag (e : Ex) (k : Nat) : Bool := decide (k = 3 ∧ rank e = 3)

/-- What is to be shown of each expression. -/
structure Der (vs : List Bs) (na : Int) (e : Ex) : Prop where
  lv : ∀ k p rest x, 1 ≤ k → k ≤ 5 → Stop (k + 1) rest → Pa vs na (.lo k (flag e k) (codeOf e)) rest x → Pa vs na (.lv k) (wt vs e k p ++ rest) x
  on : ∀ p rest, Pa vs na .on (wt vs e 6 p ++ rest) (.ok (codeOf e) rest)

theorem wrap_no (r least : Nat) (p : List Bs) (h : least ≤ r) : wrap r least p = p := by unfold wrap; rw [if_neg (by omega)]
theorem wrap_yes (r least : Nat) (p : List Bs) (h : r < least) : wrap r least p = [[40]] ++ p ++ [[41]] := by unfold wrap; rw [if_pos h]

theorem toks_par (p : Nat) (ps : List Bs) : toks p ([[40]] ++ ps ++ [[41]]) = (p, [40]) :: (toks (p + 1) ps ++ [(p + 1 + ps.flatten.length, [41])]) := by
  rw [List.append_assoc, List.singleton_append, toks_one _ _ _ (by decide), toks_append, toks_one _ _ _ (by decide)]
  rfl

theorem rank_pos (e : Ex) : 1 ≤ rank e ∧ rank e ≤ 7 := by
  cases e <;> simp only [rank] <;> (repeat' split) <;> omega

/-- Whole, where nothing goes on. -/
theorem Der.whole {vs : List Bs} {na : Int} {e : Ex} (h : Der vs na e) (p : Nat) (rest : List Tk) (hs : Stop 1 rest) : Pa vs na (.lv 1) (toks p (pieces vs e) ++ rest) (.ok (codeOf e) rest) := by
  have h1 := h.lv 1 p rest (.ok (codeOf e) rest) (by omega) (by omega) (hs.mono (by omega)) (lo_stop (by omega) hs)
  unfold wt at h1
  rwa [wrap_no _ _ _ (rank_pos e).1] at h1

/-- Of what stands for itself, or has its sign ahead. -/
theorem Der.of_one {vs : List Bs} {na : Int} {e : Ex} (hr : 6 ≤ rank e) (h : ∀ p rest, Pa vs na .on (toks p (pieces vs e) ++ rest) (.ok (codeOf e) rest)) : Der vs na e := by
  have hf : ∀ k, flag e k = false := fun k => decide_eq_false (by omega)
  refine ⟨fun k p rest x h1 h2 hs hx => ?_, fun p rest => ?_⟩
  · unfold wt
    rw [wrap_no _ _ _ (by omega)]
    rw [hf] at hx
    exact from_one (fun p => toks p (pieces vs e)) (codeOf e) h k h1 h2 p rest x hs hx
  · unfold wt
    rw [wrap_no _ _ _ hr]
    exact h p rest

/-- Of what is made at a level of its own. -/
theorem Der.of_level {vs : List Bs} {na : Int} {e : Ex} (r : Nat) (hr : rank e = r) (hr5 : r ≤ 5)
    (h : ∀ p rest x, Stop (r + 1) rest → Pa vs na (.lo r (flag e r) (codeOf e)) rest x → Pa vs na (.lv r) (toks p (pieces vs e) ++ rest) x) : Der vs na e := by
  have hr1 := (rank_pos e).1
  have base : ∀ p rest, Stop r rest → Pa vs na (.lv r) (toks p (pieces vs e) ++ rest) (.ok (codeOf e) rest) := fun p rest hs => h p rest _ (hs.mono (by omega)) (lo_stop hr5 hs)
  have low : ∀ k p rest x, 1 ≤ k → k < r → Stop (k + 1) rest → Pa vs na (.lo k false (codeOf e)) rest x → Pa vs na (.lv k) (toks p (pieces vs e) ++ rest) x :=
    fun k p rest x h1 h2 hs hx => down (fun p => toks p (pieces vs e)) (codeOf e) r (by omega) base (r - 1 - k) k h1 (by omega) p rest x hs hx
  have whole : ∀ p rest, Stop 1 rest → Pa vs na (.lv 1) (toks p (pieces vs e) ++ rest) (.ok (codeOf e) rest) := by
    intro p rest hs
    rcases Nat.eq_or_lt_of_le (show 1 ≤ r by omega) with h1 | h1
    · subst h1; exact base p rest hs
    · exact low 1 p rest _ (by omega) h1 (hs.mono (by omega)) (lo_stop (by omega) hs)
  have par : ∀ p rest, Pa vs na .on (toks p ([[40]] ++ pieces vs e ++ [[41]]) ++ rest) (.ok (codeOf e) rest) := by
    intro p rest
    rw [toks_par, List.cons_append, List.append_assoc]
    exact in_par (fun p => toks p (pieces vs e)) (codeOf e) whole p (p + 1) _ rest
  have hf : ∀ k, k ≠ r → flag e k = false := fun k hk => decide_eq_false (by omega)
  refine ⟨fun k p rest x h1 h2 hs hx => ?_, fun p rest => ?_⟩
  · unfold wt
    rcases Nat.lt_trichotomy k r with hk | hk | hk
    · rw [wrap_no _ _ _ (by omega)]
      rw [hf k (by omega)] at hx
      exact low k p rest x h1 hk hs hx
    · subst hk
      rw [wrap_no _ _ _ (by omega)]
      exact h p rest x hs hx
    · rw [wrap_yes _ _ _ (by omega)]
      rw [hf k (by omega)] at hx
      exact from_one (fun p => toks p ([[40]] ++ pieces vs e ++ [[41]])) (codeOf e) par k h1 h2 p rest x hs hx
  · unfold wt
    rw [wrap_yes _ _ _ (by omega)]
    exact par p rest
end Go.Proofs.YtgkniocjlkfhmaaDoor.I

namespace Go.Proofs.YtgkniocjlkfhmaaDoor.I
open Go Go.Proofs.YtgkniocjlkfhmaaDoor.E
set_option linter.unusedVariables false

theorem toks_bin (p : Nat) (A : List Bs) (w : Bs) (B : List Bs) (h : w ≠ [32]) : toks p (A ++ [[32], w, [32]] ++ B) = toks p A ++ (p + A.flatten.length + 1, w) :: toks (p + A.flatten.length + 1 + w.length + 1) B := by
  rw [List.append_assoc, toks_append]
  simp only [List.cons_append, List.nil_append]
  rw [toks_blank, toks_one _ _ _ h, toks_blank]

theorem bin_ops (o : Int) (h : takes o = 2) : (o = 9 ∨ o = 10) ∨ (o = 6 ∨ o = 7 ∨ o = 8 ∨ o = 11 ∨ o = 12 ∨ o = 13 ∨ o = 14 ∨ o = 15) := by
  have := takes_is o
  omega

theorem sign_at (o : Int) (a b : Ex) (h : o = 6 ∨ o = 7 ∨ o = 8 ∨ o = 11 ∨ o = 12 ∨ o = 13 ∨ o = 14 ∨ o = 15) :
    1 ≤ rank (.bin o a b) ∧ rank (.bin o a b) ≤ 5 ∧ opAt (rank (.bin o a b)) (sign o) = some o ∧ (∀ j, j ≠ rank (.bin o a b) → opAt j (sign o) = none) ∧ sign o ≠ [32] := by
  have key : ∀ (r : Nat) (s : Bs), rank (.bin o a b) = r → sign o = s → 1 ≤ r → r ≤ 5 → opAt r s = some o → (∀ j, j ≤ 5 → j ≠ r → opAt j s = none) → s ≠ [32] →
      1 ≤ rank (.bin o a b) ∧ rank (.bin o a b) ≤ 5 ∧ opAt (rank (.bin o a b)) (sign o) = some o ∧ (∀ j, j ≠ rank (.bin o a b) → opAt j (sign o) = none) ∧ sign o ≠ [32] := by
    intro r s h1 h2 h3 h4 h5 h6 h7
    rw [h1, h2]
    refine ⟨h3, h4, h5, fun j hj => ?_, h7⟩
    by_cases hj5 : j ≤ 5
    · exact h6 j hj5 hj
    · unfold opAt
      rw [if_neg (by omega), if_neg (by omega), if_neg (by omega), if_neg (by omega), if_neg (by omega)]
  have none_of : ∀ (r : Nat) (s : Bs), (opAt 0 s = none ∨ r = 0) → (opAt 1 s = none ∨ r = 1) → (opAt 2 s = none ∨ r = 2) → (opAt 3 s = none ∨ r = 3) → (opAt 4 s = none ∨ r = 4) → (opAt 5 s = none ∨ r = 5) → ∀ j, j ≤ 5 → j ≠ r → opAt j s = none := by
    intro r s h0 h1 h2 h3 h4 h5 j hj hne
    match j, hj with
    | 0, _ => exact h0.resolve_right (fun e => hne e.symm)
    | 1, _ => exact h1.resolve_right (fun e => hne e.symm)
    | 2, _ => exact h2.resolve_right (fun e => hne e.symm)
    | 3, _ => exact h3.resolve_right (fun e => hne e.symm)
    | 4, _ => exact h4.resolve_right (fun e => hne e.symm)
    | 5, _ => exact h5.resolve_right (fun e => hne e.symm)
    | j + 6, h => omega
  rcases h with rfl | rfl | rfl | rfl | rfl | rfl | rfl | rfl
  · exact key 4 [43] rfl rfl (by decide) (by decide) rfl (none_of 4 [43] (by decide) (by decide) (by decide) (by decide) (by decide) (by decide)) (by decide)
  · exact key 4 [45] rfl rfl (by decide) (by decide) rfl (none_of 4 [45] (by decide) (by decide) (by decide) (by decide) (by decide) (by decide)) (by decide)
  · exact key 5 [42] rfl rfl (by decide) (by decide) rfl (none_of 5 [42] (by decide) (by decide) (by decide) (by decide) (by decide) (by decide)) (by decide)
  · exact key 3 [60] rfl rfl (by decide) (by decide) rfl (none_of 3 [60] (by decide) (by decide) (by decide) (by decide) (by decide) (by decide)) (by decide)
  · exact key 3 [60, 61] rfl rfl (by decide) (by decide) rfl (none_of 3 [60, 61] (by decide) (by decide) (by decide) (by decide) (by decide) (by decide)) (by decide)
  · exact key 3 [61] rfl rfl (by decide) (by decide) rfl (none_of 3 [61] (by decide) (by decide) (by decide) (by decide) (by decide) (by decide)) (by decide)
  · exact key 2 [38] rfl rfl (by decide) (by decide) rfl (none_of 2 [38] (by decide) (by decide) (by decide) (by decide) (by decide) (by decide)) (by decide)
  · exact key 1 [124] rfl rfl (by decide) (by decide) rfl (none_of 1 [124] (by decide) (by decide) (by decide) (by decide) (by decide) (by decide)) (by decide)

theorem name_first (s : Bs) (hs : isName s = true) : ∃ c r, s = c :: r ∧ letter c = true := by
  match s, hs with
  | c :: r, hs =>
    simp only [isName, Bool.and_eq_true] at hs
    exact ⟨c, r, rfl, hs.1.1.1.1.2⟩

theorem name_blank (s : Bs) (hs : isName s = true) : s ≠ [32] := name_not s 32 [] hs (by decide)
theorem dig_blank (n : Nat) : dig n ≠ [32] := dig_not n 32 [] (by decide)

/-- The first word of an operand is no number, but of a constant from 0 on. -/
theorem not_near (vs : List Bs) (na : Int) (e : Ex) (ht : There vs na e) (hc : plainCon e = false) (p : Nat) (rest : List Tk) : ¬ near p (wt vs e 6 (p + 1) ++ rest) := by
  have no : ∀ (c : UInt8) (s : Bs) (r : List Tk), digit c = false → ¬ near p ((p + 1, c :: s) :: r) := by
    rintro c s r hd ⟨c', s', r', h, hd'⟩
    cases h
    rw [hd] at hd'; cases hd'
  unfold wt
  by_cases hr : rank e < 6
  · rw [wrap_yes _ _ _ hr, toks_par]
    exact no 40 [] _ (by decide)
  · rw [wrap_no _ _ _ (by omega)]
    cases e with
    | con n =>
      have hn : n < 0 := by
        rcases Int.lt_or_le n 0 with h | h
        · exact h
        · exfalso
          have : plainCon (.con n) = true := decide_eq_true h
          rw [hc] at this; cases this
      unfold pieces
      rw [if_pos hn, toks_one _ _ _ (by decide)]
      exact no 45 [] _ (by decide)
    | var k =>
      obtain ⟨s, hs, hn⟩ := ht
      have hg : vs.getD k [] = s := by rw [List.getD_eq_getElem?_getD, hs]; rfl
      obtain ⟨c, r, hcr, hl⟩ := name_first s hn
      unfold pieces
      rw [hg, toks_one _ _ _ (name_blank s hn), hcr]
      refine no c r _ ?_
      cases hd : digit c with
      | false => rfl
      | true => rw [not_letter hd] at hl; cases hl
    | arg k =>
      unfold pieces
      rw [toks_one _ _ _ (by simp [dig_ne])]
      exact no 36 _ _ (by decide)
    | un o a =>
      unfold pieces
      split
      · split
        · simp only [List.cons_append, List.nil_append]
          rw [toks_one _ _ _ (by decide)]
          exact no 45 [] _ (by decide)
        · simp only [List.cons_append, List.nil_append]
          rw [toks_one _ _ _ (by decide)]
          exact no 45 [] _ (by decide)
      · simp only [List.cons_append, List.nil_append]
        rw [toks_one _ _ _ (by decide)]
        exact no 33 [] _ (by decide)
    | bin o a b =>
      rcases bin_ops o ht.1 with ho | ho
      · unfold pieces
        rw [if_pos ho]
        simp only [List.cons_append, List.nil_append]
        rcases ho with rfl | rfl
        · rw [if_pos rfl, toks_one _ _ _ (by decide)]
          exact no 109 _ _ (by decide)
        · rw [if_neg (by decide), toks_one _ _ _ (by decide)]
          exact no 109 _ _ (by decide)
      · exfalso
        have := (sign_at o a b ho).2.1
        omega
    | ite a b c =>
      unfold pieces
      simp only [List.cons_append, List.nil_append]
      rw [toks_one _ _ _ (by decide)]
      exact no 105 _ _ (by decide)

/-- Every expression's words are derived to it. -/
theorem der (vs : List Bs) (na : Int) (ha : Apart vs) (e : Ex) (ht : There vs na e) : Der vs na e := by
  induction e with
  | con n =>
    have hv := (isVal_iff n).1 ht
    by_cases hn : n < 0
    · refine Der.of_one (by simp [rank, hn]) (fun p rest => ?_)
      unfold pieces
      rw [if_pos hn, toks_one _ _ _ (by decide), toks_one _ _ _ (dig_blank _)]
      have h := Pa.num (vs := vs) (na := na) p n.natAbs rest (by omega)
      rw [show -((n.natAbs : Nat) : Int) = n by omega] at h
      exact h
    · refine Der.of_one (by simp [rank, hn]) (fun p rest => ?_)
      unfold pieces
      rw [if_neg hn, toks_one _ _ _ (dig_blank _)]
      have h := Pa.aNum (vs := vs) (na := na) p n.natAbs rest (by omega)
      rw [show ((n.natAbs : Nat) : Int) = n by omega] at h
      exact Pa.atm _ _ (dig_not _ _ _ (by decide)) (dig_not _ _ _ (by decide)) h
  | var k =>
    obtain ⟨s, hs, hn⟩ := ht
    have hg : vs.getD k [] = s := by rw [List.getD_eq_getElem?_getD, hs]; rfl
    refine Der.of_one (by simp [rank]) (fun p rest => ?_)
    unfold pieces
    rw [hg, toks_one _ _ _ (name_blank s hn)]
    exact Pa.atm _ _ (name_not s _ _ hn (by decide)) (name_not s _ _ hn (by decide)) (Pa.aVar p k s rest hs hn (fun j hj he => by have := ha j k s he hs; omega))
  | arg k =>
    refine Der.of_one (by simp [rank]) (fun p rest => ?_)
    unfold pieces
    rw [toks_one _ _ _ (by simp [dig_ne])]
    exact Pa.atm _ _ (by simp [headB]) (by simp [headB]) (Pa.aArg p k rest ht.1 ht.2)
  | un o a ih =>
    have ih := ih ht.2
    refine Der.of_one (by simp [rank]) (fun p rest => ?_)
    unfold pieces
    rcases ht.1 with rfl | rfl
    · rw [if_pos rfl]
      by_cases hc : plainCon a = true
      · rw [if_pos hc]
        have he : [[45], [40]] ++ pieces vs a ++ [[41]] = [45] :: ([[40]] ++ pieces vs a ++ [[41]]) := by simp
        rw [he, toks_one _ _ _ (by decide), toks_par, List.cons_append, List.cons_append, List.append_assoc]
        refine Pa.neg p _ (codeOf a) rest ?_ ?_
        · rintro ⟨c, s, r, h, hd⟩
          cases h
          revert hd; decide
        · exact in_par (fun p => toks p (pieces vs a)) (codeOf a) (fun p rest hs => ih.whole p rest hs) _ _ _ rest
      · rw [if_neg hc]
        simp only [List.cons_append, List.nil_append]
        rw [toks_one _ _ _ (by decide)]
        exact Pa.neg p _ (codeOf a) rest (not_near vs na a ht.2 (by simpa using hc) p rest) (ih.on (p + 1) rest)
    · rw [if_neg (by decide)]
      simp only [List.cons_append, List.nil_append]
      rw [toks_one _ _ _ (by decide)]
      exact Pa.non p _ (codeOf a) rest (ih.on (p + 1) rest)
  | ite a b c iha ihb ihc =>
    have iha := iha ht.1
    have ihb := ihb ht.2.1
    have ihc := ihc ht.2.2
    refine Der.of_one (by simp [rank]) (fun p rest => ?_)
    unfold pieces
    have he : [wif, [40]] ++ pieces vs a ++ [[44], [32]] ++ pieces vs b ++ [[44], [32]] ++ pieces vs c ++ [[41]] = wif :: [40] :: (pieces vs a ++ ([44] :: [32] :: (pieces vs b ++ ([44] :: [32] :: (pieces vs c ++ [[41]]))))) := by simp
    rw [he, toks_one _ _ _ (by decide), toks_one _ _ _ (by decide), toks_append, toks_one _ _ _ (by decide), toks_blank, toks_append, toks_one _ _ _ (by decide), toks_blank, toks_append, toks_one _ _ _ (by decide)]
    simp only [List.cons_append, List.append_assoc]
    refine Pa.atm _ _ (by show wif ≠ _; decide) (by show wif ≠ _; decide) ?_
    exact Pa.aIf _ _ _ (codeOf a) _ _ (codeOf b) _ _ (codeOf c) _ rest (iha.whole _ _ (stop_of _ _ _ _ (by decide))) (ihb.whole _ _ (stop_of _ _ _ _ (by decide))) (ihc.whole _ _ (stop_of _ _ _ _ (by decide)))
  | bin o a b iha ihb =>
    have iha := iha ht.2.1
    have ihb := ihb ht.2.2
    rcases bin_ops o ht.1 with ho | ho
    · refine Der.of_one (by rcases ho with rfl | rfl <;> simp [rank]) (fun p rest => ?_)
      unfold pieces
      rw [if_pos ho]
      have he : [if o = 9 then wmin else wmax, [40]] ++ pieces vs a ++ [[44], [32]] ++ pieces vs b ++ [[41]] = (if o = 9 then wmin else wmax) :: [40] :: (pieces vs a ++ ([44] :: [32] :: (pieces vs b ++ [[41]]))) := by simp
      have hw : (if o = 9 then wmin else wmax) ≠ [32] ∧ (if o = 9 then wmin else wmax) ≠ [45] ∧ (if o = 9 then wmin else wmax) ≠ [33] := by
        split <;> decide
      rw [he, toks_one _ _ _ hw.1, toks_one _ _ _ (by decide), toks_append, toks_one _ _ _ (by decide), toks_blank, toks_append, toks_one _ _ _ (by decide)]
      simp only [List.cons_append, List.append_assoc]
      refine Pa.atm _ _ hw.2.1 hw.2.2 ?_
      exact Pa.aTwo o _ _ _ (codeOf a) _ _ (codeOf b) _ rest ho (iha.whole _ _ (stop_of _ _ _ _ (by decide))) (ihb.whole _ _ (stop_of _ _ _ _ (by decide)))
    · obtain ⟨h1, h5, hop, hno, hbl⟩ := sign_at o a b ho
      obtain ⟨r, hr⟩ : ∃ r, rank (.bin o a b) = r := ⟨_, rfl⟩
      refine Der.of_level r hr (by omega) (fun p rest x hs hx => ?_)
      rw [hr] at h1 h5 hop hno
      unfold pieces
      rw [if_neg (by omega), hr, toks_bin _ _ _ _ hbl, List.append_assoc, List.cons_append]
      have hstop : ∀ k q R, r < k → Stop k ((q, sign o) :: R) := fun k q R hk j hj _ => hno j (by omega)
      have hb : ∀ q, Pa vs na (.lv (r + 1)) (wt vs b (r + 1) q ++ rest) (.ok (codeOf b) rest) := by
        intro q
        rcases Nat.lt_or_ge r 5 with h | h
        · exact ihb.lv (r + 1) q rest _ (by omega) (by omega) (hs.mono (by omega)) (lo_stop (by omega) hs)
        · obtain rfl : r = 5 := by omega
          exact Pa.six _ _ (ihb.on q rest)
      by_cases h3 : r = 3
      · subst h3
        rw [if_pos rfl]
        have hfl : flag (.bin o a b) 3 = true := decide_eq_true ⟨rfl, hr⟩
        rw [hfl] at hx
        refine Pa.lvGo 3 _ (codeOf a) _ x (by decide) (by decide) (iha.lv 4 p _ _ (by decide) (by decide) (hstop 5 _ _ (by decide)) (lo_stop (by decide) (hstop 4 _ _ (by decide)))) ?_
        exact Pa.loGo 3 false (codeOf a) _ (sign o) o _ (codeOf b) rest x hop (by simp) (hb _) hx
      · rw [if_neg h3]
        have hfl : flag (.bin o a b) r = false := decide_eq_false (by omega)
        have hfa : flag a r = false := decide_eq_false (by omega)
        rw [hfl] at hx
        refine iha.lv r p _ x h1 h5 (hstop _ _ _ (by omega)) ?_
        rw [hfa]
        refine Pa.loGo r false (codeOf a) _ (sign o) o _ (codeOf b) rest x hop (by simp) (hb _) ?_
        rw [decide_eq_false h3]
        exact hx

/-- A sum's sign, and nothing behind it. -/
theorem plus_err (vs : List Bs) (na : Int) (ha : Apart vs) (q z : Nat) (e : Ex) (ht : There vs na e) : ∀ k, 1 ≤ k → k ≤ 4 → ∀ p, Pa vs na (.lv k) (wt vs e k p ++ [(q, [43]), (z, [])]) (.err z 6) := by
  have hend : Pa vs na (.lv 5) [(z, [])] (.err z 6) :=
    Pa.lvErr 5 _ z 6 (by decide) (by decide) (Pa.six _ _ (Pa.atm _ _ (by show ([] : Bs) ≠ _; decide) (by show ([] : Bs) ≠ _; decide) (Pa.aEnd z)))
  have s5 : Stop 5 [(q, [43]), (z, ([] : Bs))] := fun j h1 h2 => by
    obtain rfl : j = 5 := by omega
    rfl
  have at4 : ∀ (e : Ex), There vs na e → ∀ p, Pa vs na (.lv 4) (wt vs e 4 p ++ [(q, [43]), (z, [])]) (.err z 6) := by
    intro e ht p
    refine (der vs na ha e ht).lv 4 p _ _ (by decide) (by decide) s5 ?_
    exact Pa.loErr 4 _ _ q [43] 6 _ z 6 rfl (by simp) hend
  have six : ∀ (e : Ex), There vs na e → 5 < rank e → ∀ k, 1 ≤ k → k ≤ 4 → ∀ p, Pa vs na (.lv k) (wt vs e k p ++ [(q, [43]), (z, [])]) (.err z 6) := by
    intro e ht hr k h1 h2 p
    have he : ∀ k, k ≤ 5 → wt vs e k p = toks p (pieces vs e) := fun k hk => by unfold wt; rw [wrap_no _ _ _ (by omega)]
    have h4 := at4 e ht p
    rw [he 4 (by decide)] at h4
    rw [he k (by omega)]
    have h3 := Pa.lvErr 3 _ z 6 (by decide) (by decide) h4
    have h2' := Pa.lvErr 2 _ z 6 (by decide) (by decide) h3
    have h1' := Pa.lvErr 1 _ z 6 (by decide) (by decide) h2'
    rcases (show k = 1 ∨ k = 2 ∨ k = 3 ∨ k = 4 by omega) with rfl | rfl | rfl | rfl
    · exact h1'
    · exact h2'
    · exact h3
    · exact h4
  induction e with
  | con n => exact six _ ht (by simp only [rank]; split <;> omega)
  | var k => exact six _ ht (by simp [rank])
  | arg k => exact six _ ht (by simp [rank])
  | un o a _ => exact six _ ht (by simp [rank])
  | ite a b c _ _ _ => exact six _ ht (by simp [rank])
  | bin o a b iha ihb =>
    have hup : ∀ k, 1 ≤ k → k ≤ 3 → k ≠ rank (.bin o a b) → (∀ p, Pa vs na (.lv (k + 1)) (wt vs (.bin o a b) (k + 1) p ++ [(q, [43]), (z, [])]) (.err z 6)) → ∀ p, Pa vs na (.lv k) (wt vs (.bin o a b) k p ++ [(q, [43]), (z, [])]) (.err z 6) := by
      intro k h1 h2 h3 h4 p
      have he : wt vs (.bin o a b) k p = wt vs (.bin o a b) (k + 1) p := by
        unfold wt
        rcases Nat.lt_or_ge (rank (.bin o a b)) k with h | h
        · rw [wrap_yes _ _ _ h, wrap_yes _ _ _ (by omega)]
        · rw [wrap_no _ _ _ h, wrap_no _ _ _ (by omega)]
      rw [he]
      exact Pa.lvErr k _ z 6 h1 (by omega) (h4 p)
    have hown : ∀ k, 1 ≤ k → k ≤ 3 → k = rank (.bin o a b) → ∀ p, Pa vs na (.lv k) (wt vs (.bin o a b) k p ++ [(q, [43]), (z, [])]) (.err z 6) := by
      intro k h1 h2 h3 p
      have ho : o = 6 ∨ o = 7 ∨ o = 8 ∨ o = 11 ∨ o = 12 ∨ o = 13 ∨ o = 14 ∨ o = 15 := by
        rcases bin_ops o ht.1 with (rfl | rfl) | ho
        · have : rank (.bin 9 a b) = 7 := rfl
          omega
        · have : rank (.bin 10 a b) = 7 := rfl
          omega
        · exact ho
      obtain ⟨_, _, hop, hno, hbl⟩ := sign_at o a b ho
      rw [← h3] at hop hno
      have hd := der vs na ha a ht.2.1
      have hstop : ∀ m q R, k < m → Stop m ((q, sign o) :: R) := fun m q R hk j hj _ => hno j (by omega)
      unfold wt
      rw [wrap_no _ _ _ (by omega)]
      unfold pieces
      rw [if_neg (by omega), ← h3, toks_bin _ _ _ _ hbl, List.append_assoc, List.cons_append]
      have hb := fun p => ihb ht.2.2 (k + 1) (by omega) (by omega) p
      by_cases hk3 : k = 3
      · rw [if_pos hk3]
        subst hk3
        refine Pa.lvGo 3 _ (codeOf a) _ _ (by decide) (by decide) (hd.lv 4 p _ _ (by decide) (by decide) (hstop 5 _ _ (by decide)) (lo_stop (by decide) (hstop 4 _ _ (by decide)))) ?_
        exact Pa.loErr 3 false (codeOf a) _ (sign o) o _ z 6 hop (by simp) (hb _)
      · rw [if_neg hk3]
        have hfa : flag a k = false := decide_eq_false (by omega)
        refine hd.lv k p _ _ h1 (by omega) (hstop _ _ _ (by omega)) ?_
        rw [hfa]
        exact Pa.loErr k false (codeOf a) _ (sign o) o _ z 6 hop (by simp) (hb _)
    have h4 := at4 _ ht
    have step : ∀ k, 1 ≤ k → k ≤ 3 → (∀ p, Pa vs na (.lv (k + 1)) (wt vs (.bin o a b) (k + 1) p ++ [(q, [43]), (z, [])]) (.err z 6)) → ∀ p, Pa vs na (.lv k) (wt vs (.bin o a b) k p ++ [(q, [43]), (z, [])]) (.err z 6) := by
      intro k h1 h2 h
      by_cases hk : k = rank (.bin o a b)
      · exact hown k h1 h2 hk
      · exact hup k h1 h2 hk h
    have h3 := step 3 (by decide) (by decide) h4
    have h2 := step 2 (by decide) (by decide) h3
    have h1 := step 1 (by decide) (by decide) h2
    intro k hk1 hk2 p
    rcases (show k = 1 ∨ k = 2 ∨ k = 3 ∨ k = 4 by omega) with rfl | rfl | rfl | rfl
    · exact h1 p
    · exact h2 p
    · exact h3 p
    · exact h4 p

/-- The words of a shown text, whole. -/
theorem back (vs : List Bs) (na : Int) (ha : Apart vs) (e : Ex) (ht : There vs na e) (rest : List Tk) (hs : Stop 1 rest) : Pa vs na (.lv 1) (toks 0 (pieces vs e) ++ rest) (.ok (codeOf e) rest) :=
  (der vs na ha e ht).whole 0 rest hs

theorem back_plus (vs : List Bs) (na : Int) (ha : Apart vs) (e : Ex) (ht : There vs na e) (q z : Nat) : Pa vs na (.lv 1) (toks 0 (pieces vs e) ++ [(q, [43]), (z, [])]) (.err z 6) := by
  have h := plus_err vs na ha q z e ht 1 (by decide) (by decide) 0
  unfold wt at h
  rwa [wrap_no _ _ _ (rank_pos e).1] at h

/-! ## How long a text is -/

theorem dig_length (n : Nat) (h : n ≤ 1099511627776) : (dig n).length ≤ 13 := by
  have key : ∀ d n, n < 10 ^ (d + 1) → (dig n).length ≤ d + 1 := by
    intro d
    induction d with
    | zero => intro n hn; unfold dig; rw [dif_pos (by omega)]; simp
    | succ d ih =>
      intro n hn
      unfold dig
      split
      · simp
      · rw [List.length_append]
        have := ih (n / 10) (by rw [Nat.div_lt_iff_lt_mul (by decide)]; rw [Nat.pow_succ] at hn; omega)
        simp only [List.length_cons, List.length_nil]; omega
  exact key 12 n (by omega)

theorem name_length (s : Bs) (hs : isName s = true) : s.length ≤ 24 := by
  match s, hs with
  | c :: r, hs =>
    simp only [isName, Bool.and_eq_true, decide_eq_true_eq] at hs
    have := hs.1.1.1.1.1
    simp only [List.length_cons]; omega

theorem wrap_length (r least : Nat) (p : List Bs) : (wrap r least p).flatten.length ≤ p.flatten.length + 2 := by
  unfold wrap
  split
  · simp
  · omega

theorem sign_length (o : Int) : (sign o).length ≤ 2 := by
  unfold sign; repeat' split
  all_goals decide

theorem text_length (vs : List Bs) (na : Int) (e : Ex) (ht : There vs na e) : (pieces vs e).flatten.length + 2 ≤ 36 * (codeOf e).length := by
  induction e with
  | con n =>
    have hv := (isVal_iff n).1 ht
    have := dig_length n.natAbs (by omega)
    unfold pieces codeOf
    split <;> simp <;> omega
  | var k =>
    obtain ⟨s, hs, hn⟩ := ht
    have hg : vs.getD k [] = s := by rw [List.getD_eq_getElem?_getD, hs]; rfl
    have := name_length s hn
    unfold pieces codeOf
    rw [hg]
    simp; omega
  | arg k =>
    have hd : dig k = [UInt8.ofNat (48 + k)] := by unfold dig; rw [dif_pos ht.2]
    unfold pieces codeOf
    rw [hd]
    simp
  | un o a ih =>
    have ih := ih ht.2
    have hw := wrap_length (rank a) 6 (pieces vs a)
    unfold pieces codeOf
    split
    · split
      · simp; simp at ih; omega
      · simp only [List.flatten_append, List.length_append]
        simp; simp at ih hw; omega
    · simp only [List.flatten_append, List.length_append]
      simp; simp at ih hw; omega
  | ite a b c iha ihb ihc =>
    have iha := iha ht.1
    have ihb := ihb ht.2.1
    have ihc := ihc ht.2.2
    unfold pieces codeOf
    simp [wif]; simp at iha ihb ihc; omega
  | bin o a b iha ihb =>
    have iha := iha ht.2.1
    have ihb := ihb ht.2.2
    have hs := sign_length o
    unfold pieces codeOf
    split
    · have hw : (if o = 9 then wmin else wmax).length = 3 := by split <;> rfl
      simp only [List.flatten_append, List.flatten_cons, List.flatten_nil, List.length_append, hw, List.length_cons, List.length_nil]
      omega
    · have h1 := wrap_length (rank a) (if rank (.bin o a b) = 3 then 4 else rank (.bin o a b)) (pieces vs a)
      have h2 := wrap_length (rank b) (rank (.bin o a b) + 1) (pieces vs b)
      simp only [List.flatten_append, List.flatten_cons, List.flatten_nil, List.length_append, List.length_cons, List.length_nil]
      omega
end Go.Proofs.YtgkniocjlkfhmaaDoor.I
