/-
  Plain mathematics of layer 3: one instruction more, of what may be.
-/
import Derived.Test.YtbeidmkhpcnbbaaGreatDoorEAux
namespace Go.Proofs.YtbeidmkhpcnbbaaGreatDoor.E
open Go
set_option linter.unusedVariables false

theorem crun_at (nv na : Int) (code : List In) (k : Nat) (i : In) (hi : code[k]? = some i) (h z : Int) (hc : crun nv na (code.drop k) h = .ok z) :
    0 ≤ takes i.1 ∧ right i nv na = true ∧ takes i.1 ≤ h ∧ crun nv na (code.drop (k + 1)) (h - takes i.1 + 1) = .ok z := by
  obtain ⟨hk, e⟩ := List.getElem?_eq_some_iff.1 hi
  rw [List.drop_eq_getElem_cons hk, e] at hc
  simp only [crun, cstep] at hc
  split at hc
  · cases hc
  · split at hc
    · cases hc
    · split at hc
      · cases hc
      · rename_i h1 h2 h3
        exact ⟨by omega, by simpa using h2, by omega, hc⟩
end Go.Proofs.YtbeidmkhpcnbbaaGreatDoor.E
