/-
  Plain mathematics of layer 4: what Show answers.
-/
import Derived.Test.YtbeidmkhpcnbbaaGreatDoorIPush
namespace Go.Proofs.YtbeidmkhpcnbbaaGreatDoor.I
open Go Go.Proofs.YtbeidmkhpcnbbaaGreatDoor.E
set_option linter.unusedVariables false

/-- The expression of instructions. -/
def exOf (code : List In) : Ex := match code.foldl push [] with | e :: _ => e | [] => .con 0

/-- P4.3. -/
def showOf (vs : List Bs) (na : Int) (code : List In) : Bs × Int :=
  if (check code vs.length na).2 ≠ 0 then ([], (check code vs.length na).2) else (text vs (exOf code), 0)

theorem exOf_is (code : List In) (nv na : Int) (h : (check code nv na).2 = 0) : WF nv na (exOf code) ∧ codeOf (exOf code) = code := by
  obtain ⟨e, hw, hc⟩ := ex_of code nv na h
  have h1 := push_code nv na e hw []
  rw [hc] at h1
  have he : exOf code = e := by unfold exOf; rw [h1]
  rw [he]
  exact ⟨hw, hc⟩

theorem showOf_bad (vs : List Bs) (na : Int) (code : List In) (h : (check code vs.length na).2 ≠ 0) : showOf vs na code = ([], (check code vs.length na).2) := by unfold showOf; rw [if_pos h]
theorem showOf_good (vs : List Bs) (na : Int) (code : List In) (h : (check code vs.length na).2 = 0) : showOf vs na code = (text vs (exOf code), 0) := by unfold showOf; rw [if_neg (by omega)]
end Go.Proofs.YtbeidmkhpcnbbaaGreatDoor.I
