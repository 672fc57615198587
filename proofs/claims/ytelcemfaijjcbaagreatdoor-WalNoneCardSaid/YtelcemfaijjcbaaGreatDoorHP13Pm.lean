/-
  Layer 13, plainly: what a segment's bytes hold.
-/
import Derived.Test.YtelcemfaijjcbaaGreatDoorHVRdText
import Derived.Test.YtelcemfaijjcbaaGreatDoorHCRefSeal
import Derived.Test.YtelcemfaijjcbaaGreatDoorHP12Rz
namespace Go.Proofs.YtelcemfaijjcbaaGreatDoor.C13
open Go Go.RowKit Go.Proofs Go.Proofs.YtelcemfaijjcbaaGreatDoor.B Go.Proofs.YtelcemfaijjcbaaGreatDoor.K
set_option linter.unusedVariables false

/-- The record at a place, if there is one there: its bytes, and the place behind it. -/
def recAt (s : List UInt8) (first : Int) (A : Nat) : Option (List UInt8 × Nat) :=
  if (V.rdAt s A).2.2 ≠ 0 ∨ (V.rdAt s A).1 < 0 ∨ (s.length : Int) - (V.rdAt s A).2.1 < (V.rdAt s A).1 then none else
  if (C.openOf ((s.drop (V.rdAt s A).2.1.toNat).take (V.rdAt s A).1.toNat)).2 ≠ 0 then none else
  if (V.rdAt (C.openOf ((s.drop (V.rdAt s A).2.1.toNat).take (V.rdAt s A).1.toNat)).1 0).2.2 ≠ 0 ∨ (V.rdAt (C.openOf ((s.drop (V.rdAt s A).2.1.toNat).take (V.rdAt s A).1.toNat)).1 0).1 ≠ first ∨ 1024 < ((C.openOf ((s.drop (V.rdAt s A).2.1.toNat).take (V.rdAt s A).1.toNat)).1.length : Int) - (V.rdAt (C.openOf ((s.drop (V.rdAt s A).2.1.toNat).take (V.rdAt s A).1.toNat)).1 0).2.1 then none else
  some ((C.openOf ((s.drop (V.rdAt s A).2.1.toNat).take (V.rdAt s A).1.toNat)).1.drop (V.rdAt (C.openOf ((s.drop (V.rdAt s A).2.1.toNat).take (V.rdAt s A).1.toNat)).1 0).2.1.toNat, (V.rdAt s A).2.1.toNat + (V.rdAt s A).1.toNat)
def parseGo (s : List UInt8) : Nat → Int → Nat → List (List UInt8) × Nat
  | 0, _, A => ([], A)
  | n + 1, first, A => match recAt s first A with
    | none => ([], A)
    | some (r, q) => (r :: (parseGo s n (first + 1) q).1, (parseGo s n (first + 1) q).2)
def parseL (s : List UInt8) (first : Int) : List (List UInt8) × Nat := if first < 0 then ([], 0) else parseGo s (s.length + 1) first 0
theorem parse_none {s : List UInt8} {n : Nat} {first : Int} {A : Nat} (h : recAt s first A = none) : parseGo s n first A = ([], A) := by
  cases n with
  | zero => rfl
  | succ n => unfold parseGo; rw [h]
theorem parse_some {s : List UInt8} {n : Nat} {first : Int} {A q : Nat} {r : List UInt8} (h : recAt s first A = some (r, q)) : parseGo s (n + 1) first A = (r :: (parseGo s n (first + 1) q).1, (parseGo s n (first + 1) q).2) := by
  rw [parseGo, h]
theorem parse_len (s : List UInt8) : ∀ (n : Nat) (F : Int) (A : Nat), (parseGo s n F A).1.length ≤ n
  | 0, F, A => Nat.zero_le _
  | n + 1, F, A => by
    cases e : recAt s F A with
    | none => rw [parse_none e]; exact Nat.zero_le _
    | some x =>
      obtain ⟨r, q⟩ := x
      rw [parse_some e]
      exact Nat.succ_le_succ (parse_len s n (F + 1) q)
/-- What is one's own stays under what makes new memory alone. -/
theorem row_new {B : Nat} {e : TypeId} {k : Nat} {v : Value} {n : Nat} {xs : List Value} {w w' : World} (h : w.ownsRow B e k v n xs) (hb : Below w.heap.size w w') : w'.ownsRow B e k v n xs :=
  h.kept (row := none) ⟨hb.os, hb.tape, hb.output, hb.size, fun j hj _ => hb.block j hj⟩ (by cases hv : v.ownBlock <;> simp)
end Go.Proofs.YtelcemfaijjcbaaGreatDoor.C13
