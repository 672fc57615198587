/-
  Contract of the reference of layer 3: Bools, of lists that read the same.
-/
import Derived.Test.YtfcdkjhabdpijaaDoorEAux
import Derived.Test.YtfcdkjhabdpijaaDoorKIns
import Derived.Deep.DeepCutAuto
import Derived.Deep.QuietTactic
import Derived.BigQuiet
namespace Go.Proofs.YtfcdkjhabdpijaaDoor.E
open Go Go.RowKit Go.Proofs.YtfcdkjhabdpijaaDoor.B Go.Proofs.YtfcdkjhabdpijaaDoor.K
set_option linter.unusedVariables false

set_option maxHeartbeats 400000 in
theorem refBools_same (xs : List Bool) (v v' : Value) (w : World) (hs : Sl w v (xs.map Value.bool)) (hs' : Sl w v' (xs.map Value.bool)) (hl : xs.length ≤ 9223372036854775807) :
    Calls Tryd.prog 18 #[v, v'] w fun e w' => e = .returned (.bool true) ∧ Below w.heap.size w w' := by
  have HS := Lib.hid hs
  have HS' := Lib.hid hs'
  obtain ⟨a, cap, rfl, -⟩ := hs
  obtain ⟨a', cap', rfl, -⟩ := hs'
  rw [List.length_map] at HS HS' ⊢
  have HL := Lib.hid hl; clear hl
  obtain ⟨n, hN⟩ : ∃ n, xs.length = n := ⟨_, rfl⟩
  rw [hN] at HL HS HS' ⊢
  have HN := Lib.hid hN
  clear hN
  go_enter Tryd.func18, Tryd.ntmps18
  go_wp2_with fail
  go_loopw [5] (fun k wr => ∃ (K : Nat), k = .int .i64 (K : Int) ∧ K ≤ n ∧ Hid (Below w.heap.size w wr)) (fun k _ => n - (intOf k).toNat)
  case atStart => exact ⟨0, rfl, Nat.zero_le _, Below.refl _ _⟩
  case round =>
    obtain ⟨K, rfl, hK, HBE⟩ := hrel
    by_cases hlt : K < n
    · obtain ⟨x, hx⟩ : ∃ x, xs[K]? = some x := ⟨_, List.getElem?_eq_getElem (by rw [HN.out]; exact hlt)⟩
      have hm : (xs.map Value.bool)[K]? = some (.bool x) := by rw [List.getElem?_map, hx]; rfl
      obtain ⟨b, off, ea, h1⟩ := (HS.out.below HBE.out).at hm
      obtain ⟨b', off', ea', h1'⟩ := (HS'.out.below HBE.out).at hm
      subst ea ea'
      have hwK : IntKind.i64.wrap ((K : Int) + 1) = (K : Int) + 1 := IntWalk.i64_in _ (by have := HL.out; omega)
      have hltI : (K : Int) < (n : Int) := by omega
      clear hm hx
      go_wp2_with fail
      go_quiet (fail)
      go_wp2_with fail
      go_roundw
      case rel => exact ⟨K + 1, by go_num, by omega, below_drewN HBE.out _⟩
      case measure => simp [intOf]; omega
    · have hltI : ¬ (K : Int) < (n : Int) := by omega
      go_wp2_with fail
      go_ret
      exact ⟨rfl, HBE.out⟩

end Go.Proofs.YtfcdkjhabdpijaaDoor.E
