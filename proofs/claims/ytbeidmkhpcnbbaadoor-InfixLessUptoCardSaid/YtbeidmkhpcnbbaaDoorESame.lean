/-
  Contract of the reference of layer 3: Same, of lists that read the same.
-/
import Derived.Test.YtbeidmkhpcnbbaaDoorEAux
import Derived.Test.YtbeidmkhpcnbbaaDoorKIns
import Derived.Deep.DeepCutAuto
import Derived.Deep.QuietTactic
import Derived.BigQuiet
namespace Go.Proofs.YtbeidmkhpcnbbaaDoor.E
open Go Go.RowKit Go.Proofs.YtbeidmkhpcnbbaaDoor.B Go.Proofs.YtbeidmkhpcnbbaaDoor.K
set_option linter.unusedVariables false

set_option maxHeartbeats 400000 in
theorem refSame_same (xs : List In) (v v' : Value) (w : World) (hs : SlI w v xs) (hs' : SlI w v' xs) (hl : xs.length ≤ 9223372036854775807) :
    Calls Tryd.prog 13 #[v, v'] w fun e w' => e = .returned (.bool true) ∧ Below w.heap.size w w' := by
  have HS := Lib.hid hs
  have HS' := Lib.hid hs'
  obtain ⟨a, cap, rfl, -⟩ := hs
  obtain ⟨a', cap', rfl, -⟩ := hs'
  have HL := Lib.hid hl; clear hl
  obtain ⟨n, hN⟩ : ∃ n, xs.length = n := ⟨_, rfl⟩
  rw [hN] at HL HS HS' ⊢
  have HN := Lib.hid hN
  clear hN
  go_enter Tryd.func13, Tryd.ntmps13
  go_wp2_with fail
  go_loopw [5] (fun k wr => ∃ (K : Nat), k = .int .i64 (K : Int) ∧ K ≤ n ∧ Hid (Below w.heap.size w wr)) (fun k _ => n - (intOf k).toNat)
  case atStart => exact ⟨0, rfl, Nat.zero_le _, Below.refl _ _⟩
  case round =>
    obtain ⟨K, rfl, hK, HBE⟩ := hrel
    by_cases hlt : K < n
    · obtain ⟨x, hx⟩ : ∃ x, xs[K]? = some x := ⟨_, List.getElem?_eq_getElem (by rw [HN.out]; exact hlt)⟩
      obtain ⟨b, off, ea, h1, h2⟩ := (HS.out.below HBE.out).at hx
      obtain ⟨b', off', ea', h1', h2'⟩ := (HS'.out.below HBE.out).at hx
      subst ea ea'
      have hwK : IntKind.i64.wrap ((K : Int) + 1) = (K : Int) + 1 := IntWalk.i64_in _ (by have := HL.out; omega)
      have hltI : (K : Int) < (n : Int) := by omega
      obtain ⟨o, y⟩ := x
      clear hx
      go_wp2_with fail
      go_quiet (fail)
      go_wp2_with fail
      go_roundw
      case rel => exact ⟨K + 1, by go_num, by omega, below_drewN HBE.out _⟩
      case measure => simp [intOf]; omega
    · have hltI : ¬ (K : Int) < (n : Int) := by omega
      go_wp2_with fail
      go_ret
      exact ⟨rfl, HBE.out⟩
end Go.Proofs.YtbeidmkhpcnbbaaDoor.E
