/-
  Plain mathematics of layer 3 (expr), continued: what is folded is checked and comes to the same, is not longer, and stays.
-/
import Derived.Laws.Concat
namespace Go.Proofs.YtjcajeehgjpmmaaGreatDoor.E
open Go
set_option linter.unusedVariables false
abbrev In := Int × Int
def takes (o : Int) : Int := if o < 1 \/ 16 < o then -1 else if o < 4 then 0 else if o < 6 then 1 else if o < 16 then 2 else 3
def isVal (n : Int) : Bool := decide (-1099511627776 <= n /\ n <= 1099511627776)
theorem isVal_iff (n : Int) : isVal n = true ↔ -1099511627776 <= n /\ n <= 1099511627776 := by unfold isVal; exact decide_eq_true_iff
theorem isVal_not (n : Int) : isVal n = false ↔ ¬ (-1099511627776 <= n /\ n <= 1099511627776) := by unfold isVal; exact decide_eq_false_iff_not
def right (i : In) (nv na : Int) : Bool :=
 if i.1 = 1 then isVal i.2 else if i.1 = 2 then decide (0 <= i.2 /\ i.2 < nv) else if i.1 = 3 then decide (0 <= i.2 /\ i.2 < na) else decide (i.2 = 0)
def chk (nv na : Int) : List In -> Nat -> Int -> Int × Int
 | [], k, h => if h = 1 then (0, 0) else (k, 6)
 | i :: r, k, h => if takes i.1 < 0 then (k, 2) else if right i nv na = false then (k, 3) else if h < takes i.1 then (k, 5) else chk nv na r (k + 1) (h - takes i.1 + 1)
def check (code : List In) (nv na : Int) : Int × Int :=
 if nv < 0 \/ na < 0 then (0, 2) else if 31 < code.length then (0, 4) else chk nv na code 0 0
def usesTop (o most : Int) : List In -> Int -> Int
 | [], t => t
 | i :: r, t => usesTop o most r (if i.1 = o /\ 0 <= i.2 /\ i.2 < most then max t i.2 else t)
def cstep (nv na : Int) (i : In) (h : Int) : Except Int Int :=
 if takes i.1 < 0 then .error 2 else if right i nv na = false then .error 3 else if h < takes i.1 then .error 5 else .ok (h - takes i.1 + 1)
def crun (nv na : Int) : List In -> Int -> Except Int Int
 | [], h => .ok h
 | i :: r, h => (cstep nv na i h).bind (crun nv na r)
def cend : Except Int Int -> Int
 | .error e => e
 | .ok h => if h = 1 then 0 else 6
theorem chk_err (nv na : Int) (code : List In) (k : Nat) (h : Int) : (chk nv na code k h).2 = cend (crun nv na code h) := by
 induction code generalizing k h with
 | nil => simp only [chk, crun, cend]; split <;> rfl
 | cons i r ih =>
  simp only [chk, crun, cstep];split
  ·rfl
  ·split
   ·rfl
   ·split
    ·rfl
    ·exact ih _ _
theorem check_err (code : List In) (nv na : Int) : (check code nv na).2 = if nv < 0 \/ na < 0 then 2 else if 31 < code.length then 4 else cend (crun nv na code 0) := by
 unfold check;split
 ·rfl
 ·split
  ·rfl
  ·exact chk_err _ _ _ _ _
theorem crun_error (nv na : Int) (code : List In) (h e : Int) (hx : crun nv na code h = .error e) : e = 2 \/ e = 3 \/ e = 5 := by
 induction code generalizing h with
 | nil => cases hx
 | cons i r ih =>
  simp only [crun] at hx;cases hs : cstep nv na i h with
  | error e' =>
   rw [hs] at hx;cases hx
   unfold cstep at hs;split at hs
   ·cases hs; simp
   ·split at hs
    ·cases hs; simp
    ·split at hs
     ·cases hs; simp
     ·cases hs
  | ok x => rw [hs] at hx; exact ih x hx
theorem check_ok (code : List In) (nv na : Int) (h : (check code nv na).2 = 0) : 0 <= nv /\ 0 <= na /\ code.length <= 31 /\ crun nv na code 0 = .ok 1 := by
 rw [check_err] at h;split at h
 ·cases h
 ·split at h
  ·cases h
  ·cases hx : crun nv na code 0 with
   | error e =>
    rw [hx] at h;have h2 := crun_error _ _ _ _ _ hx;have h1 : e = 0 := h;omega
   | ok x =>
    rw [hx] at h;unfold cend at h;simp only at h;split at h
    ·subst x; exact ⟨by omega, by omega, by omega, rfl⟩
    ·cases h
end Go.Proofs.YtjcajeehgjpmmaaGreatDoor.E
