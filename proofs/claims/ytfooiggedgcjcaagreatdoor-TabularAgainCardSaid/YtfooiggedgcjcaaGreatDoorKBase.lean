/-
  Plain mathematics of layer 3 (expr): which instructions may be, what they come to, what is folded; no program is named here.
  A slice that reads as a list of values of one cell each.
  A slice that reads as a list of pairs of numbers (structs of two ints).
  'append(b, s...)' of a text behind bytes whose row bears a mark past its end (what '[]byte(s)' lays), or none.
  Small facts for every layer: texts by their bytes, rows of bytes that a call owns, cells behind a call. No program of the project is named here, but its numbers for []uint8, uint8 and string.
-/
import Derived.Laws.Concat
import Derived.WalkKit
import Derived.Lib.Buffer
import Derived.Deep.Slices
import Derived.Deep.Fields
import Derived.ProofKit
import Derived.Lib.FrozenHead
import Derived.Laws.IdiomStrings
import Derived.Lib.UnsafeStr
import Derived.Lib.BufferRead
import Derived.Test.YtfooiggedgcjcaaGreatDoorProg
import Derived.WalkSpells
import Derived.WalkLawsBesides
import Derived.Lib.Hide
import Derived.Lib.Strings
import Derived.Lib.VarintMem
import Derived.RegionCalls
import Derived.Deep.RegionWith
namespace Go.Proofs.YtfooiggedgcjcaaGreatDoor.E
open Go
set_option linter.unusedVariables false

/-- An instruction: what it does, and a number. -/
abbrev In := Int × Int

/-- How many numbers an instruction takes; -1: it is none. -/
def takes (o : Int) : Int := if o < 1 ∨ 16 < o then -1 else if o < 4 then 0 else if o < 6 then 1 else if o < 16 then 2 else 3

/-- May a number be a value? -/
def isVal (n : Int) : Bool := decide (-1099511627776 ≤ n ∧ n ≤ 1099511627776)

theorem isVal_iff (n : Int) : isVal n = true ↔ -1099511627776 ≤ n ∧ n ≤ 1099511627776 := by unfold isVal; exact decide_eq_true_iff
theorem isVal_not (n : Int) : isVal n = false ↔ ¬ (-1099511627776 ≤ n ∧ n ≤ 1099511627776) := by unfold isVal; exact decide_eq_false_iff_not

/-- May an instruction have its number, with so many variables and arguments? -/
def right (i : In) (nv na : Int) : Bool :=
  if i.1 = 1 then isVal i.2 else if i.1 = 2 then decide (0 ≤ i.2 ∧ i.2 < nv) else if i.1 = 3 then decide (0 ≤ i.2 ∧ i.2 < na) else decide (i.2 = 0)

/-- Check's way through the instructions: what is left, the place, how many numbers are in the row; the place and the error. -/
def chk (nv na : Int) : List In → Nat → Int → Int × Int
  | [], k, h => if h = 1 then (0, 0) else (k, 6)
  | i :: r, k, h => if takes i.1 < 0 then (k, 2) else if right i nv na = false then (k, 3) else if h < takes i.1 then (k, 5) else chk nv na r (k + 1) (h - takes i.1 + 1)

/-- P3.1. -/
def check (code : List In) (nv na : Int) : Int × Int :=
  if nv < 0 ∨ na < 0 then (0, 2) else if 31 < code.length then (0, 4) else chk nv na code 0 0

def one (b : Bool) : Int := if b = true then 1 else 0

/-- A number, if it is a value. -/
def gv (n : Int) : Option Int := if isVal n = true then some n else none

/-- What an instruction comes to, of the numbers that it takes (those that it does not take play no part). -/
def made (o a b c : Int) : Option Int :=
  if o = 4 then some (-a) else if o = 5 then some (one (decide (a = 0))) else if o = 6 then gv (a + b) else if o = 7 then gv (a - b) else if o = 8 then gv (a * b)
  else if o = 9 then some (if a ≤ b then a else b) else if o = 10 then some (if a ≤ b then b else a) else if o = 11 then some (one (decide (a < b))) else if o = 12 then some (one (decide (a ≤ b)))
  else if o = 13 then some (one (decide (a = b))) else if o = 14 then some (one (decide (a ≠ 0 ∧ b ≠ 0))) else if o = 15 then some (one (decide (a ≠ 0 ∨ b ≠ 0))) else some (if a ≠ 0 then b else c)

/-- An instruction on a row of numbers, the last one first. -/
def step (vs as_ : List Int) (i : In) (st : List Int) : Option (List Int) :=
  if i.1 = 2 then some (vs.getD i.2.toNat 0 :: st) else if i.1 = 3 then some (as_.getD i.2.toNat 0 :: st)
  else if takes i.1 = 1 then match st with | a :: r => (made i.1 a 0 0).map (· :: r) | _ => none
  else if takes i.1 = 2 then match st with | b :: a :: r => (made i.1 a b 0).map (· :: r) | _ => none
  else if takes i.1 = 3 then match st with | c :: b :: a :: r => (made i.1 a b c).map (· :: r) | _ => none
  else some (i.2 :: st)

/-- All instructions, one behind the other. -/
def run (vs as_ : List Int) : List In → List Int → Option (List Int)
  | [], st => some st
  | i :: r, st => (step vs as_ i st).bind (run vs as_ r)

/-- What is left, or that there is nothing. -/
def top : Option (List Int) → Int × Int
  | some (x :: _) => (x, 0)
  | _ => (0, 3)

/-- P3.2. -/
def eval (code : List In) (vs as_ : List Int) : Int × Int :=
  if (check code vs.length as_.length).2 ≠ 0 then (0, (check code vs.length as_.length).2)
  else if (vs.all isVal && as_.all isVal) = false then (0, 2)
  else top (run vs as_ code [])

/-- An instruction put behind what is folded (the last one first). -/
def fstep (out : List In) (i : In) : List In :=
  if takes i.1 = 1 then match out with
    | (1, a) :: r => (match made i.1 a 0 0 with | some n => (1, n) :: r | none => i :: out)
    | _ => i :: out
  else if takes i.1 = 2 then match out with
    | (1, b) :: (1, a) :: r => (match made i.1 a b 0 with | some n => (1, n) :: r | none => i :: out)
    | _ => i :: out
  else if takes i.1 = 3 then match out with
    | (1, c) :: (1, b) :: (1, a) :: r => (match made i.1 a b c with | some n => (1, n) :: r | none => i :: out)
    | _ => i :: out
  else i :: out

/-- P3.3, where more than B variables and arguments are never asked for. -/
def fold (B : Int) (code : List In) : List In := if (check code B B).2 ≠ 0 then code else (code.foldl fstep []).reverse

/-- P3.4. -/
def usesTop (o most : Int) : List In → Int → Int
  | [], t => t
  | i :: r, t => usesTop o most r (if i.1 = o ∧ 0 ≤ i.2 ∧ i.2 < most then max t i.2 else t)
def uses (o most : Int) (code : List In) : List Bool := (List.range (usesTop o most code (-1) + 1).toNat).map fun (n : Nat) => code.any fun i => decide (i.1 = o ∧ i.2 = (n : Int))
def depth : List In → Int → Int → Int
  | [], _, m => m
  | i :: r, h, m => if 0 ≤ takes i.1 ∧ h < takes i.1 then 0 else depth r (if 0 ≤ takes i.1 then h - takes i.1 + 1 else h) (max m (if 0 ≤ takes i.1 then h - takes i.1 + 1 else h))

/-! ## Checking, by the error alone -/

/-- An instruction's error, or how many numbers are in the row behind it. -/
def cstep (nv na : Int) (i : In) (h : Int) : Except Int Int :=
  if takes i.1 < 0 then .error 2 else if right i nv na = false then .error 3 else if h < takes i.1 then .error 5 else .ok (h - takes i.1 + 1)
def crun (nv na : Int) : List In → Int → Except Int Int
  | [], h => .ok h
  | i :: r, h => (cstep nv na i h).bind (crun nv na r)
def cend : Except Int Int → Int
  | .error e => e
  | .ok h => if h = 1 then 0 else 6

theorem chk_err (nv na : Int) (code : List In) (k : Nat) (h : Int) : (chk nv na code k h).2 = cend (crun nv na code h) := by
  induction code generalizing k h with
  | nil => simp only [chk, crun, cend]; split <;> rfl
  | cons i r ih =>
    simp only [chk, crun, cstep]
    split
    · rfl
    · split
      · rfl
      · split
        · rfl
        · exact ih _ _

theorem crun_append (nv na : Int) (a b : List In) (h : Int) : crun nv na (a ++ b) h = (crun nv na a h).bind (crun nv na b) := by
  induction a generalizing h with
  | nil => rfl
  | cons i r ih =>
    simp only [List.cons_append, crun]
    cases cstep nv na i h with
    | error e => rfl
    | ok x => exact ih x

theorem run_append (vs as_ : List Int) (a b : List In) (st : List Int) : run vs as_ (a ++ b) st = (run vs as_ a st).bind (run vs as_ b) := by
  induction a generalizing st with
  | nil => rfl
  | cons i r ih =>
    simp only [List.cons_append, run]
    cases step vs as_ i st with
    | none => rfl
    | some x => exact ih x

theorem check_err (code : List In) (nv na : Int) : (check code nv na).2 = if nv < 0 ∨ na < 0 then 2 else if 31 < code.length then 4 else cend (crun nv na code 0) := by
  unfold check
  split
  · rfl
  · split
    · rfl
    · exact chk_err _ _ _ _ _

/-! ## What instructions come to are values -/

theorem isVal_one (b : Bool) : isVal (one b) = true := by cases b <;> decide

theorem gv_val (n m : Int) (h : gv n = some m) : isVal m = true := by
  unfold gv at h; split at h
  · cases h; assumption
  · cases h

theorem made_val (o a b c n : Int) (ha : isVal a = true) (hb : isVal b = true) (hc : isVal c = true) (h : made o a b c = some n) : isVal n = true := by
  unfold made at h
  by_cases h4 : o = 4
  · rw [if_pos h4] at h; cases h; rw [isVal_iff] at *; omega
  rw [if_neg h4] at h
  by_cases h5 : o = 5
  · rw [if_pos h5] at h; cases h; exact isVal_one _
  rw [if_neg h5] at h
  by_cases h6 : o = 6
  · rw [if_pos h6] at h; exact gv_val _ _ h
  rw [if_neg h6] at h
  by_cases h7 : o = 7
  · rw [if_pos h7] at h; exact gv_val _ _ h
  rw [if_neg h7] at h
  by_cases h8 : o = 8
  · rw [if_pos h8] at h; exact gv_val _ _ h
  rw [if_neg h8] at h
  by_cases h9 : o = 9
  · rw [if_pos h9] at h; cases h; split <;> assumption
  rw [if_neg h9] at h
  by_cases h10 : o = 10
  · rw [if_pos h10] at h; cases h; split <;> assumption
  rw [if_neg h10] at h
  by_cases h11 : o = 11
  · rw [if_pos h11] at h; cases h; exact isVal_one _
  rw [if_neg h11] at h
  by_cases h12 : o = 12
  · rw [if_pos h12] at h; cases h; exact isVal_one _
  rw [if_neg h12] at h
  by_cases h13 : o = 13
  · rw [if_pos h13] at h; cases h; exact isVal_one _
  rw [if_neg h13] at h
  by_cases h14 : o = 14
  · rw [if_pos h14] at h; cases h; exact isVal_one _
  rw [if_neg h14] at h
  by_cases h15 : o = 15
  · rw [if_pos h15] at h; cases h; exact isVal_one _
  rw [if_neg h15] at h
  cases h; split <;> assumption

theorem val0 : isVal 0 = true := by decide

/-- The numbers that an instruction does not take play no part. -/
theorem step_val (vs as_ : List Int) (i : In) (st st' : List Int) (hv : ∀ x ∈ vs, isVal x = true) (ha : ∀ x ∈ as_, isVal x = true) (hi : i.1 = 1 → isVal i.2 = true) (hr : takes i.1 = 0 → i.1 = 1 ∨ i.1 = 2 ∨ i.1 = 3)
    (h0 : 0 ≤ takes i.1) (hst : ∀ x ∈ st, isVal x = true) (h : step vs as_ i st = some st') : ∀ x ∈ st', isVal x = true := by
  have hget : ∀ (l : List Int) (k : Nat), (∀ x ∈ l, isVal x = true) → isVal (l.getD k 0) = true := by
    intro l k hl
    rw [List.getD_eq_getElem?_getD]
    cases hk : l[k]? with
    | none => exact val0
    | some x => exact hl x (List.mem_of_getElem? hk)
  have push : ∀ (x : Int) (r : List Int), isVal x = true → (∀ y ∈ r, isVal y = true) → ∀ y ∈ x :: r, isVal y = true := by
    intro x r hx hr y hy
    rcases List.mem_cons.1 hy with rfl | hy
    · exact hx
    · exact hr y hy
  unfold step at h
  split at h
  · cases h; exact push _ _ (hget _ _ hv) hst
  · split at h
    · cases h; exact push _ _ (hget _ _ ha) hst
    · split at h
      · match st, h, hst with
        | a :: r, h, hst =>
          obtain ⟨n, hn, rfl⟩ := Option.map_eq_some_iff.1 h
          exact push _ _ (made_val _ _ _ _ _ (hst a (by simp)) val0 val0 hn) (fun y hy => hst y (by simp [hy]))
      · split at h
        · match st, h, hst with
          | b :: a :: r, h, hst =>
            obtain ⟨n, hn, rfl⟩ := Option.map_eq_some_iff.1 h
            exact push _ _ (made_val _ _ _ _ _ (hst a (by simp)) (hst b (by simp)) val0 hn) (fun y hy => hst y (by simp [hy]))
        · split at h
          · match st, h, hst with
            | c :: b :: a :: r, h, hst =>
              obtain ⟨n, hn, rfl⟩ := Option.map_eq_some_iff.1 h
              exact push _ _ (made_val _ _ _ _ _ (hst a (by simp)) (hst b (by simp)) (hst c (by simp)) hn) (fun y hy => hst y (by simp [hy]))
          · cases h
            refine push _ _ (hi ?_) hst
            have ht : takes i.1 = 0 := by
              have h1 : takes i.1 = -1 ∨ takes i.1 = 0 ∨ takes i.1 = 1 ∨ takes i.1 = 2 ∨ takes i.1 = 3 := by
                unfold takes; repeat' split
                all_goals omega
              omega
            rcases hr ht with h1 | h1 | h1 <;> first | exact h1 | contradiction

theorem takes_zero (o : Int) (h : takes o = 0) : o = 1 ∨ o = 2 ∨ o = 3 := by
  unfold takes at h
  repeat' split at h
  all_goals omega

end Go.Proofs.YtfooiggedgcjcaaGreatDoor.E

namespace Go.Proofs.YtfooiggedgcjcaaGreatDoor.K
open Go Go.RowKit

/-- The slice value v reads, in the world w, as the values xs. -/
def Sl (w : World) (v : Value) (xs : List Value) : Prop :=
  ∃ a cap, v = .slice a xs.length cap ∧ ∀ j u, xs[j]? = some u → ∃ b off, a = some ⟨b, off, none⟩ ∧ w.cell? ⟨b, off + j, none⟩ = some u

theorem Sl.nil (w : World) : Sl w (.slice none 0 0) [] := ⟨none, 0, rfl, fun j u h => by simp at h⟩

theorem Sl.below {w w' : World} {v : Value} {xs : List Value} (h : Sl w v xs) (hb : Below w.heap.size w w') : Sl w' v xs := by
  obtain ⟨a, cap, rfl, hc⟩ := h
  refine ⟨a, cap, rfl, fun j u hj => ?_⟩
  obtain ⟨b, off, ha, hcell⟩ := hc j u hj
  exact ⟨b, off, ha, (hb.cell (p := ⟨b, off + j, none⟩) (World.block_lt_of_cell? w _ hcell)).trans hcell⟩

theorem Sl.row {w : World} {g cap : Nat} {cur : Array Value} {T : TypeId} {fr : Nat × Nat} {xs : List Value} (hg : w.heap[g]? = some (.cells cur T fr)) (ht : cur.toList.take xs.length = xs) :
    Sl w (.slice (some ⟨g, 0, none⟩) xs.length cap) xs := by
  refine ⟨_, cap, rfl, fun j u hj => ⟨g, 0, rfl, ?_⟩⟩
  have := Lib.cells_of_row hg xs.length j u (by rw [ht]; exact hj)
  rw [Lib.addr_add] at this
  exact this

theorem Sl.owns {w : World} {base : Nat} {e : TypeId} {v : Value} {n : Nat} {xs : List Value} (h : w.ownsRow base e 1 v n xs) : Sl w v xs := by
  obtain ⟨hl, h⟩ := h
  rw [Nat.mul_one] at hl
  rcases h with ⟨rfl, h0⟩ | ⟨g, cap, cur, rfl, _, hg, _, _, _, ht⟩
  · have : xs = [] := List.eq_nil_of_length_eq_zero (by omega)
    subst this
    exact Sl.nil w
  · rw [← hl]
    exact Sl.row hg (by rw [hl]; simpa using ht)

/-- A cell of a row of which nothing is frozen. -/
theorem row_cell {w : World} {g k : Nat} {cur : Array Value} {T : TypeId} (hg : w.heap[g]? = some (.cells cur T (0, 0))) (hk : k < cur.size) :
    ∃ old, w.cell? ⟨g, k, none⟩ = some old ∧ w.frozen? ⟨g, k, none⟩ = false :=
  ⟨cur[k], by simp [World.cell?, hg, hk], by simp [World.frozen?, hg]⟩

/-- One store more at the end of what has been filled. -/
theorem row_fill {w : World} {g k : Nat} {cur : Array Value} {T : TypeId} {xs : List Value} (hg : w.heap[g]? = some (.cells cur T (0, 0))) (hk : k < cur.size) (ht : cur.toList.take k = xs) (u : Value) :
    ∃ cur' : Array Value, (w.setCell ⟨g, k, none⟩ u).heap[g]? = some (.cells cur' T (0, 0)) ∧ cur'.size = cur.size ∧ cur'.toList.take (k + 1) = xs ++ [u] := by
  refine ⟨cur.setIfInBounds k u, heap_setCell_same w g k cur T u hg, by simp, ?_⟩
  rw [Array.toList_setIfInBounds, List.take_add_one]
  have h1 : (cur.toList.set k u).take k = xs := by rw [List.take_set_of_le (Nat.le_refl _)]; exact ht
  have h2 : (cur.toList.set k u)[k]? = some u := by simp [hk]
  rw [h1, h2]
  rfl

end Go.Proofs.YtfooiggedgcjcaaGreatDoor.K

namespace Go.Proofs.YtfooiggedgcjcaaGreatDoor.K
open Go Go.RowKit Go.ChangeShapes Go.WideShapes Go.ChangeAt
set_option linter.unusedVariables false

/-- The slice value v reads, in the world w, as the pairs xs. -/
def SlI (w : World) (v : Value) (xs : List (Int × Int)) : Prop :=
  ∃ a cap, v = .slice a xs.length cap ∧ ∀ j i, xs[j]? = some i → ∃ b off, a = some ⟨b, off, none⟩ ∧ w.cell? ⟨b, off + j * 2, none⟩ = some (.int .i64 i.1) ∧ w.cell? ⟨b, off + j * 2 + 1, none⟩ = some (.int .i64 i.2)

theorem SlI.nil (w : World) : SlI w (.slice none 0 0) [] := ⟨none, 0, rfl, fun j i h => by simp at h⟩

theorem SlI.below {w w' : World} {v : Value} {xs : List (Int × Int)} (h : SlI w v xs) (hb : Below w.heap.size w w') : SlI w' v xs := by
  obtain ⟨a, cap, rfl, hc⟩ := h
  refine ⟨a, cap, rfl, fun j i hj => ?_⟩
  obtain ⟨b, off, ha, h1, h2⟩ := hc j i hj
  exact ⟨b, off, ha, (hb.cell (p := ⟨b, off + j * 2, none⟩) (World.block_lt_of_cell? w _ h1)).trans h1, (hb.cell (p := ⟨b, off + j * 2 + 1, none⟩) (World.block_lt_of_cell? w _ h2)).trans h2⟩

/-- The slice's shape, and the cells of one pair. -/
theorem SlI.open {w : World} {v : Value} {xs : List (Int × Int)} (h : SlI w v xs) : ∃ a cap, v = .slice a xs.length cap ∧ ∀ j i, xs[j]? = some i → ∃ b off, a = some ⟨b, off, none⟩ ∧ w.cell? ⟨b, off + j * 2, none⟩ = some (.int .i64 i.1) ∧ w.cell? ⟨b, off + j * 2 + 1, none⟩ = some (.int .i64 i.2) := h

theorem SlI.at {w : World} {a : Option Addr} {len cap : Nat} {xs : List (Int × Int)} {j : Nat} {i : Int × Int} (h : SlI w (.slice a len cap) xs) (hi : xs[j]? = some i) :
    ∃ b off, a = some ⟨b, off, none⟩ ∧ w.cell? ⟨b, off + j * 2, none⟩ = some (.int .i64 i.1) ∧ w.cell? ⟨b, off + j * 2 + 1, none⟩ = some (.int .i64 i.2) := by
  obtain ⟨a', cap', e, hc⟩ := h
  cases e
  exact hc j i hi

theorem Sl.at {w : World} {a : Option Addr} {len cap : Nat} {xs : List Value} {j : Nat} {u : Value} (h : Sl w (.slice a len cap) xs) (hu : xs[j]? = some u) :
    ∃ b off, a = some ⟨b, off, none⟩ ∧ w.cell? ⟨b, off + j, none⟩ = some u := by
  obtain ⟨a', cap', e, hc⟩ := h
  cases e
  exact hc j u hu

/-- A row of the call's own, behind what leaves all below alone. -/
theorem own_kept {w w' : World} {B : Nat} {e : TypeId} {k : Nat} {v : Value} {n : Nat} {xs : List Value} (h : w.ownsRow B e k v n xs) (hb : Below w.heap.size w w') : w'.ownsRow B e k v n xs :=
  h.kept (row := none) ⟨hb.os, hb.tape, hb.output, hb.size, fun j hj _ => hb.block j hj⟩ (by cases hv : v.ownBlock <;> simp)

/-- The cells of a list of pairs. -/
def pairCells (xs : List (Int × Int)) : List Value := xs.flatMap fun i => [.int .i64 i.1, .int .i64 i.2]

theorem pairCells_length (xs : List (Int × Int)) : (pairCells xs).length = xs.length * 2 := by
  induction xs with
  | nil => rfl
  | cons i r ih => simp only [pairCells, List.flatMap_cons, List.length_append, List.length_cons, List.length_nil] at ih ⊢; omega

theorem pairCells_append (a b : List (Int × Int)) : pairCells (a ++ b) = pairCells a ++ pairCells b := by simp [pairCells]

theorem pairCells_at (xs : List (Int × Int)) (j : Nat) (i : Int × Int) (h : xs[j]? = some i) : (pairCells xs)[j * 2]? = some (.int .i64 i.1) ∧ (pairCells xs)[j * 2 + 1]? = some (.int .i64 i.2) := by
  induction xs generalizing j with
  | nil => simp at h
  | cons x r ih =>
    have e : pairCells (x :: r) = .int .i64 x.1 :: .int .i64 x.2 :: pairCells r := by simp [pairCells]
    rw [e]
    cases j with
    | zero => simp at h; subst h; exact ⟨rfl, rfl⟩
    | succ j =>
      have h' : r[j]? = some i := by simpa using h
      have := ih j h'
      rw [show (j + 1) * 2 = j * 2 + 1 + 1 by omega]
      simpa using this

theorem pairCells_one (xs : List (Int × Int)) : ∀ u ∈ pairCells xs, u.oneCell' = true := by
  intro u hu
  obtain ⟨i, _, hu⟩ := List.mem_flatMap.1 hu
  simp at hu
  rcases hu with rfl | rfl <;> rfl

theorem SlI.owns {w : World} {base : Nat} {e : TypeId} {v : Value} {n : Nat} {xs : List (Int × Int)} (h : w.ownsRow base e 2 v n (pairCells xs)) : SlI w v xs := by
  obtain ⟨hl, h⟩ := h
  rw [pairCells_length] at hl
  rcases h with ⟨rfl, h0⟩ | ⟨g, cap, cur, rfl, _, hg, _, _, _, ht⟩
  · have : xs = [] := List.eq_nil_of_length_eq_zero (by omega)
    subst this
    exact SlI.nil w
  · obtain rfl : n = xs.length := by omega
    refine ⟨_, cap, rfl, fun j i hj => ⟨g, 0, rfl, ?_⟩⟩
    have hp := pairCells_at xs j i hj
    rw [← ht] at hp
    have h1 := Lib.cells_of_row hg (xs.length * 2) (j * 2) _ hp.1
    have h2 := Lib.cells_of_row hg (xs.length * 2) (j * 2 + 1) _ hp.2
    rw [Lib.addr_add] at h1 h2
    exact ⟨h1, h2⟩

/-- A block just made, whole, as a slice over it. -/
theorem SlI.made {w : World} {g cap : Nat} {T : TypeId} {fr : Nat × Nat} {cs : Array Value} {xs : List (Int × Int)} (hg : w.heap[g]? = some (.cells cs T fr)) (h : cs.toList = pairCells xs) : SlI w (.slice (some ⟨g, 0, none⟩) xs.length cap) xs := by
  refine ⟨_, cap, rfl, fun j i hj => ⟨g, 0, rfl, ?_⟩⟩
  have hp := pairCells_at xs j i hj
  rw [← h] at hp
  have h1 := Lib.cells_of_row hg cs.toList.length (j * 2) _ (by rw [List.take_length]; exact hp.1)
  have h2 := Lib.cells_of_row hg cs.toList.length (j * 2 + 1) _ (by rw [List.take_length]; exact hp.2)
  rw [Lib.addr_add] at h1 h2
  exact ⟨h1, h2⟩

section
variable {H : Type} {enc : TypeId × Value → H} {P : Program} {W : World}

/-- A value that reads as a slice of structs of two ints. -/
theorem pairs_field {t e f0 f1 : TypeId} {F0 F1 : Field} (ht : P.underlying t = some (.slice e)) (he : P.underlying e = some (.struct #[F0, F1])) (hf0 : F0.type = f0) (hf1 : F1.type = f1) (ho0 : F0.offset = 0) (ho1 : F1.offset = 1)
    (hu0 : P.underlying f0 = some (.int .i64)) (hu1 : P.underlying f1 = some (.int .i64)) (hc : P.cellsOf e = 2) (hc0 : P.cellsOf f0 = 1) (hc1 : P.cellsOf f1 = 1) {fuel : Nat} {v : Value} {y : DataW H × List MemPlace}
    (hf : DataW.trod enc P W 0 (fun _ => true) true fuel t [v] = some y) :
    ∃ xs : List (Int × Int), SlI W v xs ∧ (∀ x ∈ xs, (-9223372036854775808 ≤ x.1 ∧ x.1 ≤ 9223372036854775807) ∧ (-9223372036854775808 ≤ x.2 ∧ x.2 ≤ 9223372036854775807)) ∧ xs.length ≤ maxLen := by
  rcases Go.Deep.open_slice ht hf with ⟨hcs, _⟩ | ⟨a, len, cap, m, n, D, Pl, hcs, _, hl, hm, hmm, _, hx⟩
  · simp at hcs
    subst hcs
    exact ⟨[], SlI.nil W, by simp, by simp⟩
  · simp at hcs
    subst hcs
    rw [hc] at hx
    have hm' : m = cap := by simpa using hmm
    obtain ⟨X, hX⟩ := Go.Deep.choose_lt (α := Int × Int) (n := m) (p := fun i x => (W.cell? (a.add (i * 2)) = some (.int .i64 x.1) ∧ W.cell? ((a.add (i * 2)).add 1) = some (.int .i64 x.2)) ∧ (Lit.int .i64 x.1).wf = true ∧ (Lit.int .i64 x.2).wf = true) (fun i hi => by
      obtain ⟨cs', h1, h2⟩ := hx i hi
      obtain ⟨_, hlen, hcell⟩ := World.cells?_some h1
      obtain ⟨y0, y1, n', _, _, g0, g1⟩ := trod_struct2 he h2
      match cs', hlen with
      | [c0, c1], _ =>
        rw [ho0, hf0, hc0] at g0
        rw [ho1, hf1, hc1] at g1
        obtain ⟨n0, e0, _, w0⟩ := DataW.trod_int hu0 g0
        obtain ⟨n1, e1, _, w1⟩ := DataW.trod_int hu1 g1
        simp at e0 e1
        subst e0 e1
        refine ⟨(n0, n1), ⟨?_, ?_⟩, w0, w1⟩
        · have := hcell 0 (by omega)
          simpa [Addr.add] using this
        · have := hcell 1 (by omega)
          simpa using this)
    refine ⟨(List.range len).map X, ⟨some a, cap, by simp, fun j i hj => ?_⟩, fun x hxm => ?_, by simp; omega⟩
    · have hjl : j < len := by
        have := (List.getElem?_eq_some_iff.1 hj).1
        simpa using this
      rw [List.getElem?_map, List.getElem?_range hjl] at hj
      have hj' : X j = i := by simpa using hj
      obtain ⟨⟨c1, c2⟩, _, _⟩ := hX j (by omega)
      rw [hj'] at c1 c2
      obtain ⟨b, off, spot⟩ := a
      have hs : spot = none := by
        obtain ⟨⟨z1, _⟩, _⟩ := hX 0 (by omega)
        have := World.cell?_spot z1
        simpa [Addr.add] using this
      subst hs
      rw [add_plain] at c1 c2
      rw [add_plain] at c2
      exact ⟨b, off, rfl, c1, c2⟩
    · obtain ⟨j, hj, rfl⟩ := List.mem_map.1 hxm
      obtain ⟨_, w0, w1⟩ := hX j (by have := List.mem_range.1 hj; omega)
      simp [Lit.wf, IntKind.min, IntKind.max, IntKind.signed, IntKind.bits] at w0 w1
      omega

/-- An argument that is such a slice. -/
theorem pairs_arg {t e f0 f1 : TypeId} {F0 F1 : Field} (ht : P.underlying t = some (.slice e)) (he : P.underlying e = some (.struct #[F0, F1])) (hf0 : F0.type = f0) (hf1 : F1.type = f1) (ho0 : F0.offset = 0) (ho1 : F1.offset = 1)
    (hu0 : P.underlying f0 = some (.int .i64)) (hu1 : P.underlying f1 = some (.int .i64)) (hc : P.cellsOf e = 2) (hc0 : P.cellsOf f0 = 1) (hc1 : P.cellsOf f1 = 1) {base : Nat} {v : Value} {d : DataW H} {p : List MemPlace}
    (hval : Value.okWide P W .any base t v) (hd : DataW.Trod enc P W 0 (fun _ => true) true t v d p) :
    ∃ xs : List (Int × Int), SlI W v xs ∧ (∀ x ∈ xs, (-9223372036854775808 ≤ x.1 ∧ x.1 ≤ 9223372036854775807) ∧ (-9223372036854775808 ≤ x.2 ∧ x.2 ≤ 9223372036854775807)) ∧ xs.length ≤ maxLen := by
  obtain ⟨a0, len, cap, rfl⟩ := okWide_slice ht hval
  obtain ⟨fuel, hf⟩ := hd
  exact pairs_field ht he hf0 hf1 ho0 ho1 hu0 hu1 hc hc0 hc1 (by simpa [Value.cells] using hf)

/-- How many elements an argument that is a slice reads as. -/
theorem pairs_len {t e : TypeId} (ht : P.underlying t = some (.slice e)) {v : Value} {d : DataW H} {p : List MemPlace} {xs : List (Int × Int)} (hs : SlI W v xs) (hd : DataW.Trod enc P W 0 (fun _ => true) true t v d p) :
    xs = [] ∨ ∃ elems spare, d = .slice elems spare ∧ elems.length = xs.length := by
  obtain ⟨fuel, hf⟩ := hd
  obtain ⟨a, cap, rfl, _⟩ := hs
  have hf' : DataW.trod enc P W 0 (fun _ => true) true fuel t [.slice a xs.length cap] = some (d, p) := by simpa [Value.cells] using hf
  rcases Go.Deep.open_slice ht hf' with ⟨hcs, _⟩ | ⟨a', len, cap', m, n, D, Pl, hcs, _, _, _, _, hx, _⟩
  · left
    simp only [List.cons.injEq, Value.slice.injEq, and_true] at hcs
    exact List.eq_nil_of_length_eq_zero hcs.2.1
  · right
    simp only [List.cons.injEq, Value.slice.injEq, and_true] at hcs
    simp only [Prod.mk.injEq] at hx
    exact ⟨_, _, hx.1, by simp [hcs.2.1]⟩

end
end Go.Proofs.YtfooiggedgcjcaaGreatDoor.K

namespace Go.Proofs.YtfooiggedgcjcaaGreatDoor.K
open Go Go.RowKit Go.Lib

/-- No cell of a row of n cells lies in the range. -/
def Clear (fz : Nat × Nat) (n : Nat) : Prop := ∀ k, k < n → ¬ (fz.1 ≤ k ∧ k < fz.2)

theorem clear_none (n : Nat) : Clear (0, 0) n := fun k _ h => by simp at h
theorem clear_mark (n : Nat) : Clear (n, n + 1) n := fun k hk h => by simp at h; omega

/-- The slice v of n bytes owns the cells xs; of its row's cells none is frozen. -/
def OwnsG (w : World) (base : Nat) (e : TypeId) (v : Value) (n : Nat) (xs : List Value) : Prop :=
  xs.length = n ∧ ((v = .slice none 0 0 ∧ n = 0) ∨ ∃ g cap cur fz, v = .slice (some ⟨g, 0, none⟩) n cap ∧ base ≤ g ∧ w.heap[g]? = some (.cells cur e fz) ∧ Clear fz cur.size ∧ n ≤ cap ∧ cap ≤ maxLen ∧ cur.size = cap ∧ cur.toList.take n = xs)

theorem alloc_keeps (w : World) (o : Obj) (k : Nat) (h : k < w.heap.size) : (w.alloc o).heap[k]? = w.heap[k]? := Below.heap_alloc w o k h

section
variable {P : Program}

theorem storeG (g o : Nat) (t : TypeId) (fz : Nat × Nat) : ∀ (vs : List Value) (i : Nat) (cur : Array Value) (w : World), w.heap[g]? = some (.cells cur t fz) → Clear fz cur.size → o + i + vs.length ≤ cur.size → (∀ v ∈ vs, v.oneCell' = true) →
    (storeCells ⟨g, o, none⟩ vs i).run P w = .ok () (w.setRow g (cur.toList.take (o + i) ++ vs ++ cur.toList.drop (o + i + vs.length)).toArray) := by
  intro vs
  induction vs with
  | nil =>
    intro i cur w hg _ _ _
    simp only [storeCells, List.append_nil, List.length_nil, Nat.add_zero, List.take_append_drop, Array.toArray_toList]
    rw [setRow_self w g cur t fz hg]
    rfl
  | cons v rest ih =>
    intro i cur w hg hfz hl h1
    have hi : o + i < cur.size := by simp at hl; omega
    have hadd : (⟨g, o, none⟩ : Addr).add i = ⟨g, o + i, none⟩ := by unfold Addr.add; split <;> simp_all
    have hcell : w.cell? ⟨g, o + i, none⟩ = some cur[o + i] := by simp [World.cell?, hg, hi]
    have hfro : w.frozen? ⟨g, o + i, none⟩ = false := by
      have := hfz (o + i) hi
      simp only [World.frozen?, hg, Bool.and_eq_false_iff, decide_eq_false_iff_not]
      by_cases h : fz.1 ≤ o + i
      · right; omega
      · left; exact h
    have hst : (store ((⟨g, o, none⟩ : Addr).add i) v).run P w = .ok () (w.setRow g (cur.setIfInBounds (o + i) v)) := by
      rw [hadd, run_store P w _ v _ (h1 v (by simp)), hcell]
      simp [hfro, setCell_eq_setRow w g (o + i) cur t fz v hg]
    have := ih (i + 1) (cur.setIfInBounds (o + i) v) (w.setRow g (cur.setIfInBounds (o + i) v)) (setRow_heap w g cur _ t _ hg) (by simpa using hfz) (by simp at hl ⊢; omega) (fun x hx => h1 x (by simp [hx]))
    simp only [storeCells, Sem.run_bind, hst, Result.andThen_ok, this, setRow_setRow]
    congr 3
    have e := list_seg_step cur.toList (o + i) v rest (by simp at hl ⊢; omega)
    simpa [Array.toList_setIfInBounds, Nat.add_assoc] using e

theorem appendG (w : World) (base : Nat) (t u ty e : TypeId) (i : TypeInfo) (ht : P.underlying t = some (.slice e)) (hu : P.underlying u = some .string) (hi : P.info? e = some i) (hz : i.zero = some (.int .u8 0))
    (hsize : i.size = 1) (hby : i.bytes = 1) (v : Value) (n : Nat) (xs : List Value) (hown : OwnsG w base e v n xs) (s : ByteArray) (h63 : n + s.size ≤ maxLen) (hbytes : n + s.size ≤ 140737488355328) (hbase : base ≤ w.heap.size) :
    ∃ v' w', (Builtin.append_ #[t, u] ty #[v, .string s]).run P w = .ok v' w' ∧ OwnsG w' base e v' (n + s.size) (xs ++ strCells s) ∧ w.grownBy w' v.ownBlock := by
  obtain ⟨hxl, hown⟩ := hown
  have hlen : (xs ++ strCells s).length = n + s.size := by rw [List.length_append, hxl, strCells_length]
  rcases hown with ⟨rfl, rfl⟩ | ⟨g, cap, cur, fz, rfl, hbg, hg, hfz, hnc, hcm, hcs, htake⟩
  · obtain ⟨v', w', h1, h2, h3, _⟩ := run_append_own_string (P := P) w base t u ty e i ht hu hi hz hsize hby (.slice none 0 0) 0 xs ⟨by simpa using hxl, .inl ⟨rfl, rfl⟩⟩ s h63 hbytes hbase
    refine ⟨v', w', h1, ⟨hlen, ?_⟩, h3⟩
    rcases h2.2 with h | ⟨g, cap, cur, hv, hb, hg, hn, hc, hs, htk⟩
    · exact .inl h
    · exact .inr ⟨g, cap, cur, (0, 0), hv, hb, hg, clear_none _, hn, hc, by simpa using hs, by simpa using htk⟩
  · by_cases hroom : n + s.size ≤ cap
    · have hf := run_firstCells_string (P := P) w 1 s
      have hst := storeG (P := P) g n e fz (strCells s) 0 cur w hg hfz (by rw [strCells_length]; omega) (strCells_oneCell s)
      simp only [Nat.add_zero, strCells_length] at hst
      have hr : (Builtin.append_ #[t, u] ty #[.slice (some ⟨g, 0, none⟩) n cap, .string s]).run P w = .ok (.slice (some ⟨g, 0, none⟩) (n + s.size) cap) (w.setRow g (cur.toList.take n ++ strCells s ++ cur.toList.drop (n + s.size)).toArray) := by
        simp [Builtin.append_, run_underlying ht, run_underlying hu, sizeOf, typeInfo, hi, hsize, Builtin.lenOf, hroom, hf, Addr.add_lit, hst]
      have hnew : (cur.toList.take n ++ strCells s ++ cur.toList.drop (n + s.size)).toArray.size = cur.size := by
        simp only [List.size_toArray, List.length_append, List.length_take, List.length_drop, Array.length_toList, strCells_length]
        omega
      refine ⟨_, _, hr, ⟨hlen, .inr ⟨g, cap, _, fz, rfl, hbg, setRow_heap w g cur _ e _ hg, by rw [hnew]; exact hfz, hroom, hcm, by rw [hnew]; exact hcs, ?_⟩⟩, ⟨rfl, rfl, rfl, by simp, fun k _ hk => setRow_other w g k _ (fun e => hk (by simp [Value.ownBlock, e]))⟩⟩
      rw [htake, ← hlen]
      exact List.take_left
    · have holds : ∀ j u, xs[j]? = some u → w.cell? ((⟨g, 0, none⟩ : Addr).add j) = some u := fun j u hj => Lib.cells_of_row hg n j u (by rw [htake]; exact hj)
      have hr := run_append_grow_string (P := P) w t u ty e i (.int .u8 0) ht hu hi hz ⟨g, 0, none⟩ n cap xs (by rw [hsize, Nat.mul_one]; exact hxl) holds s (by unfold maxLen at h63; omega) (by omega) (by rw [hby]; exact growslice_fits (by omega) (by omega))
      have hge := grownCap_ge w (n + s.size) cap e
      have hcm2 : grownCap w (n + s.size) cap e ≤ maxLen := grownCap_le_maxLen w (n + s.size) cap e h63
      refine ⟨_, _, hr, ⟨hlen, .inr ⟨w.heap.size, _, _, (0, 0), rfl, hbase, heap_alloc_new w.drew _, clear_none _, hge, hcm2, ?_, ?_⟩⟩, ⟨rfl, rfl, rfl, by simp, fun k hk _ => alloc_keeps w.drew _ k hk⟩⟩
      · have hz1 : (Value.int IntKind.u8 0).cells.size = 1 := rfl
        simp only [Array.size_append, List.size_toArray, size_zeroCells, hz1, hxl, strCells_length]
        omega
      · simp only [Array.toList_append, List.append_assoc]
        rw [← List.append_assoc, ← hlen]
        exact List.take_left

/-- For the walk. -/
theorem wpList_appendG (w : World) {ops : Array Oper} {rest : List Oper} {o : Oper} {a : Act} {Q : Exit → Act → World → Prop} (hgd : o.guard = none) (sl x : Operand) (t u : TypeId)
    (ho : o.op = .call { callee := .builtin .append, args := #[sl, x], argTypes := #[t, u] })
    (base : Nat) (e : TypeId) (i : TypeInfo) (ht : P.underlying t = some (.slice e)) (hu : P.underlying u = some .string) (hi : P.info? e = some i) (hz : i.zero = some (.int .u8 0))
    (hsize : i.size = 1) (hby : i.bytes = 1) (v : Value) (n : Nat) (xs : List Value) (hs : a.eval sl = v) (hown : OwnsG w base e v n xs) (s : ByteArray) (hx : a.eval x = .string s)
    (h63 : n + s.size ≤ maxLen) (hbytes : n + s.size ≤ 140737488355328) (hbase : base ≤ w.heap.size)
    (h : ∀ v' w', OwnsG w' base e v' (n + s.size) (xs ++ strCells s) → w.grownBy w' v.ownBlock → wpList P ops Q rest (a.put o.dst v') w') : wpList P ops Q (o :: rest) a w := by
  refine wpList_plain hgd fun K hK => ?_
  obtain ⟨v', w', hr, h2, h3⟩ := appendG (P := P) w base t u o.type e i ht hu hi hz hsize hby v n xs hown s h63 hbytes hbase
  unfold Oper.wp execOp
  simp only [ho, resolve, invoke, builtin, Sem.run_bind, Sem.run_pure, Result.andThen_ok, List.map_toArray, List.map_cons, List.map_nil, hs, hx, hr]
  exact hK _ _ (h v' w' h2 h3)

/-- 'append(b, x, y..)' of numbers behind such a row. -/
theorem appendGs (w : World) (base : Nat) (t ty e : TypeId) (i : TypeInfo) (ht : P.underlying t = some (.slice e)) (hi : P.info? e = some i) (hz : i.zero = some (.int .u8 0))
    (hsize : i.size = 1) (hby : i.bytes = 1) (v : Value) (n : Nat) (xs : List Value) (hown : OwnsG w base e v n xs) (a : Addr) (m c : Nat) (news : List Value) (hl : news.length = m)
    (hnews : ∀ j u, news[j]? = some u → w.cell? (a.add j) = some u) (h1 : ∀ u ∈ news, u.oneCell' = true) (h63 : n + m ≤ maxLen) (hbytes : n + m ≤ 140737488355328) (hbase : base ≤ w.heap.size) :
    ∃ v' w', (Builtin.append_ #[t, t] ty #[v, .slice (some a) m c]).run P w = .ok v' w' ∧ OwnsG w' base e v' (n + m) (xs ++ news) ∧ w.grownBy w' v.ownBlock := by
  obtain ⟨hxl, hown⟩ := hown
  have hlen : (xs ++ news).length = n + m := by rw [List.length_append, hxl, hl]
  rcases hown with ⟨rfl, rfl⟩ | ⟨g, cap, cur, fz, rfl, hbg, hg, hfz, hnc, hcm, hcs, htake⟩
  · obtain ⟨v', w', h1', h2, h3, _⟩ := run_append_own (P := P) w base t ty e i (.int .u8 0) 1 1 ht hi hz hsize hby rfl (by decide) (.slice none 0 0) 0 xs ⟨by simpa using hxl, .inl ⟨rfl, rfl⟩⟩ a m c news (by rw [hl, Nat.mul_one]) hnews h1 h63 (by rw [Nat.mul_one]; exact hbytes) hbase
    refine ⟨v', w', h1', ⟨hlen, ?_⟩, h3⟩
    rcases h2.2 with h | ⟨g, cap, cur, hv, hb, hg, hn, hc, hs, htk⟩
    · exact .inl h
    · exact .inr ⟨g, cap, cur, (0, 0), hv, hb, hg, clear_none _, hn, hc, by simpa using hs, by simpa using htk⟩
  · by_cases hroom : n + m ≤ cap
    · have hf := run_firstCells_some (P := P) w 1 m a m c news (by rw [hl, Nat.mul_one]) hnews
      have hst := storeG (P := P) g n e fz news 0 cur w hg hfz (by rw [hl]; omega) h1
      simp only [Nat.add_zero, hl] at hst
      have hr : (Builtin.append_ #[t, t] ty #[.slice (some ⟨g, 0, none⟩) n cap, .slice (some a) m c]).run P w = .ok (.slice (some ⟨g, 0, none⟩) (n + m) cap) (w.setRow g (cur.toList.take n ++ news ++ cur.toList.drop (n + m)).toArray) := by
        simp [Builtin.append_, run_underlying ht, sizeOf, typeInfo, hi, hsize, Builtin.lenOf, hroom, hf, Addr.add_lit, hst]
      have hnew : (cur.toList.take n ++ news ++ cur.toList.drop (n + m)).toArray.size = cur.size := by
        simp only [List.size_toArray, List.length_append, List.length_take, List.length_drop, Array.length_toList, hl]
        omega
      refine ⟨_, _, hr, ⟨hlen, .inr ⟨g, cap, _, fz, rfl, hbg, setRow_heap w g cur _ e _ hg, by rw [hnew]; exact hfz, hroom, hcm, by rw [hnew]; exact hcs, ?_⟩⟩, ⟨rfl, rfl, rfl, by simp, fun k _ hk => setRow_other w g k _ (fun e => hk (by simp [Value.ownBlock, e]))⟩⟩
      rw [htake, ← hlen]
      exact List.take_left
    · have holds : ∀ j u, xs[j]? = some u → w.cell? ((⟨g, 0, none⟩ : Addr).add j) = some u := fun j u hj => Lib.cells_of_row hg n j u (by rw [htake]; exact hj)
      have hr := run_append_grow (P := P) w t ty e i (.int .u8 0) ht hi hz ⟨g, 0, none⟩ n cap xs (by rw [hsize, Nat.mul_one]; exact hxl) holds a m c news (by rw [hsize, Nat.mul_one]; exact hl) hnews (by omega) (by unfold maxLen at h63; omega) (by rw [hby]; exact growslice_fits (by omega) (by omega))
      have hge := grownCap_ge w (n + m) cap e
      have hcm2 : grownCap w (n + m) cap e ≤ maxLen := grownCap_le_maxLen w (n + m) cap e h63
      refine ⟨_, _, hr, ⟨hlen, .inr ⟨w.heap.size, _, _, (0, 0), rfl, hbase, heap_alloc_new w.drew _, clear_none _, hge, hcm2, ?_, ?_⟩⟩, ⟨rfl, rfl, rfl, by simp, fun k hk _ => alloc_keeps w.drew _ k hk⟩⟩
      · have hz1 : (Value.int IntKind.u8 0).cells.size = 1 := rfl
        simp only [Array.size_append, List.size_toArray, size_zeroCells, hz1, hxl, hl]
        omega
      · simp only [Array.toList_append, List.append_assoc]
        rw [← List.append_assoc, ← hlen]
        exact List.take_left

theorem wpList_appendGs (w : World) {ops : Array Oper} {rest : List Oper} {o : Oper} {a : Act} {Q : Exit → Act → World → Prop} (hgd : o.guard = none) (sl x : Operand) (t : TypeId)
    (ho : o.op = .call { callee := .builtin .append, args := #[sl, x], argTypes := #[t, t] })
    (base : Nat) (e : TypeId) (i : TypeInfo) (ht : P.underlying t = some (.slice e)) (hi : P.info? e = some i) (hz : i.zero = some (.int .u8 0))
    (hsize : i.size = 1) (hby : i.bytes = 1) (v : Value) (n : Nat) (xs : List Value) (hs : a.eval sl = v) (hown : OwnsG w base e v n xs) (ad : Addr) (m c : Nat) (news : List Value) (hx : a.eval x = .slice (some ad) m c)
    (hl : news.length = m) (hnews : ∀ j u, news[j]? = some u → w.cell? (ad.add j) = some u) (h1 : ∀ u ∈ news, u.oneCell' = true)
    (h63 : n + m ≤ maxLen) (hbytes : n + m ≤ 140737488355328) (hbase : base ≤ w.heap.size)
    (h : ∀ v' w', OwnsG w' base e v' (n + m) (xs ++ news) → w.grownBy w' v.ownBlock → wpList P ops Q rest (a.put o.dst v') w') : wpList P ops Q (o :: rest) a w := by
  refine wpList_plain hgd fun K hK => ?_
  obtain ⟨v', w', hr, h2, h3⟩ := appendGs (P := P) w base t o.type e i ht hi hz hsize hby v n xs hown ad m c news hl hnews h1 h63 hbytes hbase
  unfold Oper.wp execOp
  simp only [ho, resolve, invoke, builtin, Sem.run_bind, Sem.run_pure, Result.andThen_ok, List.map_toArray, List.map_cons, List.map_nil, hs, hx, hr]
  exact hK _ _ (h v' w' h2 h3)

theorem OwnsG.block {w : World} {base : Nat} {e : TypeId} {v : Value} {n : Nat} {xs : List Value} (h : OwnsG w base e v n xs) : ∀ k, v.ownBlock = some k → base ≤ k := by
  intro k hk
  rcases h.2 with ⟨rfl, _⟩ | ⟨g, cap, cur, fz, rfl, hg, _⟩
  · cases hk
  · simp only [Value.ownBlock, Option.some.injEq] at hk
    omega

/-- A row of at least one cell: its cells read, none is frozen, and each may be set. -/
theorem OwnsG.opened {w : World} {base : Nat} {e : TypeId} {v : Value} {n : Nat} {xs : List Value} (h : OwnsG w base e v n xs) (hn : 0 < n) :
    ∃ g cap, v = .slice (some ⟨g, 0, none⟩) n cap ∧ base ≤ g ∧ g < w.heap.size ∧ (∀ j u, xs[j]? = some u → w.cell? ⟨g, j, none⟩ = some u ∧ w.frozen? ⟨g, j, none⟩ = false) ∧
      ∀ j u, j < n → OwnsG (w.setCell ⟨g, j, none⟩ u) base e v n (xs.set j u) := by
  rcases h.2 with ⟨_, rfl⟩ | ⟨g, cap, cur, fz, rfl, hbg, hg, hfz, hnc, hcm, hcs, htake⟩
  · omega
  · refine ⟨g, cap, rfl, hbg, (Array.getElem?_eq_some_iff.1 hg).1, fun j u hj => ?_, fun j u hj => ?_⟩
    · have hjn : j < n := by
        have := (List.getElem?_eq_some_iff.1 hj).1
        rw [h.1] at this
        exact this
      have hju := hj
      rw [← htake, List.getElem?_take_of_lt hjn, Array.getElem?_toList] at hju
      refine ⟨by simp [World.cell?, hg, hju], ?_⟩
      have := hfz j (by omega)
      simp only [World.frozen?, hg, Bool.and_eq_false_iff, decide_eq_false_iff_not]
      by_cases hx : fz.1 ≤ j
      · right; omega
      · left; exact hx
    · refine ⟨by rw [List.length_set]; exact h.1, .inr ⟨g, cap, cur.setIfInBounds j u, fz, rfl, hbg, ?_, by simpa using hfz, hnc, hcm, by simpa using hcs, ?_⟩⟩
      · rw [setCell_eq_setRow w g j cur e fz u hg]
        exact setRow_heap w g cur _ e _ hg
      · rw [Array.toList_setIfInBounds, List.take_set, htake]

/-- What '[]byte(s)' lays is owned. -/
theorem owns_bytes (w : World) (e : TypeId) (s : ByteArray) (hs : s.size ≤ maxLen) :
    OwnsG (w.drew.alloc (.cells (bytesRow s (grownCap w s.size 0 e)) e ((bytesRow s (grownCap w s.size 0 e)).size, (bytesRow s (grownCap w s.size 0 e)).size + 1))) w.heap.size e
      (.slice (some ⟨w.heap.size, 0, none⟩) s.size (grownCap w s.size 0 e)) s.size (strCells s) := by
  have hge := grownCap_ge w s.size 0 e
  refine ⟨strCells_length s, .inr ⟨w.heap.size, _, _, _, rfl, Nat.le_refl _, heap_alloc_new w.drew _, clear_mark _, hge, grownCap_le_maxLen w s.size 0 e hs, ?_, ?_⟩⟩
  · have h1 : s.data.size = s.size := rfl
    simp only [bytesRow, Array.size_append, Array.size_map, Array.size_replicate, h1]
    omega
  · have hl : (strCells s).length = s.size := strCells_length s
    have : (bytesRow s (grownCap w s.size 0 e)).toList = strCells s ++ List.replicate (grownCap w s.size 0 e - s.size) (.int .u8 0) := by simp [bytesRow, strCells]
    rw [this, ← hl, List.take_left]

theorem OwnsG.mono {w : World} {base base' : Nat} {e : TypeId} {v : Value} {n : Nat} {xs : List Value} (h : OwnsG w base e v n xs) (hb : base' ≤ base) : OwnsG w base' e v n xs := by
  refine ⟨h.1, ?_⟩
  rcases h.2 with h | ⟨g, cap, cur, fz, hv, hg, r⟩
  · exact .inl h
  · exact .inr ⟨g, cap, cur, fz, hv, Nat.le_trans hb hg, r⟩

theorem OwnsG.below {w w' : World} {base : Nat} {e : TypeId} {v : Value} {n : Nat} {xs : List Value} (h : OwnsG w base e v n xs) (hb : Below w.heap.size w w') : OwnsG w' base e v n xs := by
  refine ⟨h.1, ?_⟩
  rcases h.2 with h | ⟨g, cap, cur, fz, hv, hg, hh, r⟩
  · exact .inl h
  · exact .inr ⟨g, cap, cur, fz, hv, hg, (hb.block g (Array.getElem?_eq_some_iff.1 hh).1).trans hh, r⟩

/-- '[]byte(s)'. -/
theorem conv_bytes (w : World) (src dst e : TypeId) (s : ByteArray) (hs : P.underlying src = some .string) (hd : P.underlying dst = some (.slice e)) (he : P.underlying e = some (.int .u8)) (hm : s.size ≤ maxLen) :
    ∃ v w', (convert src dst (.string s)).run P w = .ok v w' ∧ OwnsG w' w.heap.size e v s.size (strCells s) ∧ Below w.heap.size w w' :=
  ⟨_, _, run_bytes_of_string w src dst e s hs hd he, owns_bytes w e s hm, (Below.refl _ _).drew.alloc (Nat.le_refl _) _⟩

/-- 'string(b)' of such a row. -/
theorem run_strG {w : World} {base : Nat} {src dst e : TypeId} {v : Value} {n : Nat} {l : List UInt8} (hs : P.underlying src = some (.slice e)) (he : P.underlying e = some (.int .u8)) (hd : P.underlying dst = some .string)
    (h : OwnsG w base e v n (Lib.byteCells l)) : (convert src dst v).run P w = .ok (.string ⟨l.toArray⟩) w := by
  have hl : l.length = n := by have := h.1; rwa [Lib.byteCells_length] at this
  subst hl
  rcases h.2 with ⟨rfl, h0⟩ | ⟨g, cap, cur, fz, rfl, hg, hh, _, _, _, _, htk⟩
  · rw [List.length_eq_zero_iff] at h0
    subst h0
    exact Lib.run_convert_nil_bytes w src dst e 0 hs he hd
  · exact run_convert_bytes_back w src dst e ⟨g, 0, none⟩ cap l hs he hd (Lib.bytes_of_row hh htk)

end
end Go.Proofs.YtfooiggedgcjcaaGreatDoor.K

namespace Go.Proofs.YtfooiggedgcjcaaGreatDoor.B
open Go Go.RowKit

/-- A string that is given by its bytes. -/
def str (l : List UInt8) : ByteArray := ⟨l.toArray⟩
theorem str_size (l : List UInt8) : (str l).size = l.length := by simp [str, ByteArray.size]
theorem str_data (l : List UInt8) : (str l).data.toList = l := by simp [str]
theorem str_eq (s : ByteArray) : str s.data.toList = s := by obtain ⟨⟨l⟩⟩ := s; rfl
theorem str_toList (l : List UInt8) : (str l).toList = l := by rw [Lib.toList_data]; exact str_data l
theorem str_append (a b : List UInt8) : str a ++ str b = str (a ++ b) := by unfold str; exact ByteArray.mk_append_mk a b
theorem str_inj {a b : List UInt8} (h : str a = str b) : a = b := by rw [← str_data a, h, str_data]

/-- A text as a value. -/
def sv (l : List UInt8) : Value := .string (str l)

theorem ret_int {k : IntKind} {a b : Int} (h : a = b) : Ending.returned (.int k a) = .returned (.int k b) := by rw [h]
theorem ret_str {a b : ByteArray} (h : a = b) : Ending.returned (.string a) = .returned (.string b) := by rw [h]
theorem ret_bool {a b : Bool} (h : a = b) : Ending.returned (.bool a) = .returned (.bool b) := by rw [h]

/-- Behind a call that leaves all below alone: cells and marks below read as before. -/
theorem bcell {B : Nat} {W w1 : World} (hb : Below B W w1) : (∀ b o, b < B → w1.cell? ⟨b, o, none⟩ = W.cell? ⟨b, o, none⟩) ∧ (∀ b o, b < B → w1.frozen? ⟨b, o, none⟩ = W.frozen? ⟨b, o, none⟩) :=
  ⟨fun b o h => hb.cell (p := ⟨b, o, none⟩) h, fun b o h => hb.frozen (p := ⟨b, o, none⟩) h⟩

theorem heap_alloc_at (w : World) (o : Obj) : (w.alloc o).heap[w.heap.size]? = some o := by
  show (w.heap.push o)[w.heap.size]? = some o
  simp

/-- A row that starts as the one just made, with nothing in it. -/
theorem owns_made (w : World) (e : TypeId) (z : Value) (c : Nat) (hc : c ≤ maxLen) : (w.alloc (.cells (Array.replicate c z) e)).ownsRow w.heap.size e 1 (.slice (some ⟨w.heap.size, 0, none⟩) 0 c) 0 [] :=
  ⟨rfl, Or.inr ⟨w.heap.size, c, Array.replicate c z, rfl, Nat.le_refl _, heap_alloc_at _ _, by omega, hc, by simp, by simp⟩⟩

theorem owns_block {w : World} {base : Nat} {e : TypeId} {size : Nat} {v : Value} {n : Nat} {xs : List Value} (h : w.ownsRow base e size v n xs) : ∀ k, v.ownBlock = some k → base ≤ k := by
  intro k hk
  rcases h.2 with ⟨rfl, _⟩ | ⟨g, cap, cur, rfl, hg, _⟩
  · cases hk
  · simp only [Value.ownBlock, Option.some.injEq] at hk
    omega

theorem one_new (w : World) (v : Value) (e : TypeId) : ∀ (j : Nat) (u : Value), [v][j]? = some u → (w.alloc (.cells #[v] e)).cell? ((⟨w.heap.size, 0, none⟩ : Addr).add j) = some u := by
  intro j u hj
  match j, hj with
  | 0, hj => simp at hj; subst hj; simp [Addr.add]
theorem one_cell (k : IntKind) (n : Int) : ∀ u ∈ [Value.int k n], u.oneCell' = true := by intro u hu; simp at hu; subst hu; rfl

theorem Tryz.info5 : (Tryz.prog.info? 5).map (fun i => (i.zero, i.size, i.bytes)) = some (some (.int .u8 0), 1, 1) := by kernel_rfl

/-- A byte of a text. -/
theorem byte_at (l : List UInt8) (k : Nat) (h : k < l.length) : ∃ (hk : k < (str l).size), ((str l)[k]'hk).toNat = (l[k]'h).toNat :=
  ⟨by rw [str_size]; exact h, by show ((str l).data[k]'_).toNat = _; simp only [str, List.getElem_toArray]⟩

theorem strCells_str (l : List UInt8) : Lib.strCells (str l) = Lib.byteCells l := by simp [Lib.strCells, str, Lib.byteCells]

/-- A piece of a text. -/
theorem str_extract (l : List UInt8) (a b : Nat) : (str l).extract a b = str ((l.drop a).take (b - a)) := by
  unfold str
  rw [Lib.extract_eq]
theorem str_take (l : List UInt8) (b : Nat) : (str l).extract 0 b = str (l.take b) := by
  rw [str_extract, List.drop_zero, Nat.sub_zero]
theorem str_ne {a b : List UInt8} (h : a ≠ b) : ((str a).toList == (str b).toList) = false := by
  rw [str_toList, str_toList]; exact beq_eq_false_iff_ne.2 h
end Go.Proofs.YtfooiggedgcjcaaGreatDoor.B
