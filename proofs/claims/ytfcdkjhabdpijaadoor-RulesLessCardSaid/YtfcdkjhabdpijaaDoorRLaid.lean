/-
  Layer 5: what the rows' lists of variables give, a world that meets them.
-/
import Derived.Test.YtfcdkjhabdpijaaDoorRows
import Derived.Test.YtfcdkjhabdpijaaDoorIMem
import Derived.Test.YtfcdkjhabdpijaaDoorRArg
import Derived.LaidMore
import Derived.MakeChecks
import Derived.OpenShut
import Derived.Lib.LaidTab
import Derived.Deep.DeepHandedRow
import Derived.Deep.DeepWitnessRowRef
namespace Go.Proofs.YtfcdkjhabdpijaaDoor.I
open Go Go.RowKit Go.Proofs.YtfcdkjhabdpijaaDoor.B Go.Proofs.YtfcdkjhabdpijaaDoor.K Go.Proofs.YtfcdkjhabdpijaaDoor.E
open Go.ChangeShapes Go.WideShapes Go.ChangeAt
set_option linter.unusedVariables false

/-- The list that the rows share. -/
def laid1 : List (String × DataW Unit) := [("surmise/infix.signs", Rows.laid_surmise_infix_signs)]

/-- An array of texts that reads as these texts holds them, cell for cell. -/
theorem cells_of_texts {H : Type} {enc : TypeId × Value → H} {P : Program} {w : World} {base : Nat} {sp : Nat → Bool} {held : Bool} {fuel : Nat} {t e : TypeId} {n : Nat} {cs : List Value} {ls : List Bs} {p : List MemPlace}
    (ht : P.underlying t = some (.array n e)) (he : P.underlying e = some .string) (hce : P.cellsOf e = 1) (hct : P.cellsOf t = n)
    (h : DataW.trod enc P w base sp held fuel t cs = some (.agg (ls.map fun l => .lit (.string l)), p)) : cs = ls.map sv := by
  obtain ⟨xs, m, rfl, hx, hcl, hxl, hel⟩ := DataW.trod_array ht h
  rw [hct] at hcl
  simp only [hce, Nat.mul_one] at hel
  have hxs : ls.map (fun l => (DataW.lit (.string l) : DataW H)) = xs.map (·.1) := by
    have := congrArg Prod.fst hx
    simpa using this
  have hll : ls.length = n := by
    have := congrArg List.length hxs
    simp only [List.length_map] at this
    omega
  apply List.ext_getElem?
  intro i
  by_cases hi : i < n
  · have hi' : i < xs.length := by omega
    have hf := hel i hi
    rw [List.getElem?_eq_getElem hi'] at hf
    obtain ⟨s, hc, hd, _⟩ := DataW.trod_string he hf
    have h1 : cs[i]? = some (.string s) := by
      have := congrArg (·[0]?) hc
      simpa [List.getElem?_take, List.getElem?_drop] using this
    have h2 : (xs.map (·.1))[i]? = some (DataW.lit (.string s.data.toList) : DataW H) := by
      rw [List.getElem?_map, List.getElem?_eq_getElem hi', hd]; rfl
    rw [← hxs, List.getElem?_map] at h2
    obtain ⟨l, hl, e1⟩ := Option.map_eq_some_iff.1 h2
    have e2 : l = s.data.toList := by simpa using e1
    rw [h1, List.getElem?_map, hl, e2]
    rfl
  · rw [List.getElem?_eq_none (by omega), List.getElem?_eq_none (by rw [List.length_map]; omega)]

theorem gSigns : Tryd.prog.globalNamed "surmise/infix.signs" = some 0 := by kernel_rfl
theorem tSigns : (Tryd.prog.globals[0]?).map (·.type) = some 112 := by kernel_rfl

/-- WHAT THE LIST GIVES. -/
theorem glob_of {W : World} (h : laidMetH Tryd.prog laid1 W) : Glob W := by
  rw [MakeChecks.laidMetH_plain _ _ _ (by kernel_rfl)] at h
  obtain ⟨ps, ⟨g5, t5, c5, f5, p5, q5, hg5, ht5, hv5, hd5, _, _⟩, _, _⟩ := h
  obtain rfl := Option.some.inj (gSigns.symm.trans hg5)
  obtain rfl := Option.some.inj (tSigns.symm.trans ht5)
  have e5 : c5.toList = signL.map sv :=
    cells_of_texts Tryd.underlying112 Tryd.underlying9 (by kernel_rfl) (by kernel_rfl) (show DataW.trod _ Tryd.prog W 0 _ false f5 112 c5.toList = some (.agg (signL.map fun l => .lit (.string l)), p5) from hd5)
  refine ⟨?_⟩
  have hv := hv5
  unfold World.var? at hv
  rw [hg5] at hv
  simp only [Option.bind_some] at hv
  split at hv
  · rename_i cs T fr hb
    obtain rfl := Option.some.inj hv
    exact ⟨T, fr, by rw [hb, ← e5]⟩
  · cases hv

/-- A START FOR THE WITNESS: the door's own. -/
theorem laid_met (os : Os) (args : Array Value) : laidMetH Tryd.prog laid1 ((World.doorLaid Tryd.prog 14 os).forCall (fun _ _ => 0) ⟨#[], args, []⟩).memory := by
  rw [MakeChecks.laidMetH_plain _ _ _ (by kernel_rfl)]
  exact laidMet_of_run' 8 (by kernel_rfl) (by kernel_rfl)

end Go.Proofs.YtfcdkjhabdpijaaDoor.I
