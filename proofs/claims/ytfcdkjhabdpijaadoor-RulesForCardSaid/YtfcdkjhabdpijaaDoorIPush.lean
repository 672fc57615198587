/-
  Plain mathematics of layer 4: what instructions make of a row of expressions.
-/
import Derived.Test.YtfcdkjhabdpijaaDoorIMath
namespace Go.Proofs.YtfcdkjhabdpijaaDoor.I
open Go Go.Proofs.YtfcdkjhabdpijaaDoor.E
set_option linter.unusedVariables false

/-- What an instruction makes of a row of expressions (the last one first). -/
def push (st : List Ex) (i : In) : List Ex :=
  if takes i.1 = 0 then (if i.1 = 1 then .con i.2 else if i.1 = 2 then .var i.2.toNat else .arg i.2.toNat) :: st
  else if takes i.1 = 1 then (match st with | a :: r => .un i.1 a :: r | _ => st)
  else if takes i.1 = 2 then (match st with | b :: a :: r => .bin i.1 a b :: r | _ => st)
  else (match st with | c :: b :: a :: r => .ite a b c :: r | _ => st)

theorem push_code (nv na : Int) (e : Ex) (hw : WF nv na e) : ∀ st, (codeOf e).foldl push st = e :: st := by
  induction e with
  | con n => intro st; rfl
  | var k => intro st; show push st (2, (k : Int)) = _; unfold push; rw [if_pos (show takes (2, (k : Int)).1 = 0 from (by decide : takes 2 = 0)), if_neg (by show ¬ (2 : Int) = 1; decide), if_pos rfl]; simp
  | arg k => intro st; show push st (3, (k : Int)) = _; unfold push; rw [if_pos (show takes (3, (k : Int)).1 = 0 from (by decide : takes 3 = 0)), if_neg (by show ¬ (3 : Int) = 1; decide), if_neg (by show ¬ (3 : Int) = 2; decide)]; simp
  | un o a ih =>
    intro st
    simp only [codeOf, List.foldl_append, ih hw.2, List.foldl_cons, List.foldl_nil]
    rcases hw.1 with rfl | rfl <;> rfl
  | bin o a b iha ihb =>
    intro st
    have ht : takes (o, (0 : Int)).1 = 2 := hw.1
    simp only [codeOf, List.foldl_append, iha hw.2.1, ihb hw.2.2, List.foldl_cons, List.foldl_nil]
    unfold push
    rw [if_neg (by omega), if_neg (by omega), if_pos ht]
  | ite a b c iha ihb ihc =>
    intro st
    simp only [codeOf, List.foldl_append, iha hw.1, ihb hw.2.1, ihc hw.2.2, List.foldl_cons, List.foldl_nil]
    rfl

/-- An expression is its instructions'. -/
theorem ex_unique (nv na : Int) (e f : Ex) (he : WF nv na e) (hf : WF nv na f) (h : codeOf e = codeOf f) : e = f := by
  have h1 := push_code nv na e he []
  rw [h, push_code nv na f hf []] at h1
  exact (List.cons.inj h1).1.symm
end Go.Proofs.YtfcdkjhabdpijaaDoor.I
