/-
  Layer 6: what the rows' lists of variables give, a world that meets them; a table's first slice is no longer than its room.
-/
import Derived.Test.YtfooiggedgcjcaaGreatDoorRows
import Derived.Test.YtfooiggedgcjcaaGreatDoorTSpec
import Derived.Test.YtfooiggedgcjcaaGreatDoorRArg
import Derived.Test.YtfooiggedgcjcaaGreatDoorRPs
import Derived.LaidMore
import Derived.Lay
import Derived.MakeChecks
import Derived.OpenShut
import Derived.Lib.LaidTab
import Derived.Deep.DeepHandedRow
import Derived.Deep.DeepWitnessRowRef
namespace Go.Proofs.YtfooiggedgcjcaaGreatDoor.T
open Go Go.RowKit Go.Proofs.YtfooiggedgcjcaaGreatDoor.B Go.Proofs.YtfooiggedgcjcaaGreatDoor.K Go.Proofs.YtfooiggedgcjcaaGreatDoor.E Go.Proofs.YtfooiggedgcjcaaGreatDoor.R
open Go.ChangeShapes Go.WideShapes Go.ChangeAt
set_option linter.unusedVariables false

/-- The list that the rows share. -/
def laid8 : List (String × DataW Unit) := [("math/bits.deBruijn32tab", Rows.laid_math_bits_deBruijn32tab), ("math/bits.deBruijn64tab", Rows.laid_math_bits_deBruijn64tab), ("internal/strconv.uint64pow10", Rows.laid_internal_strconv_uint64pow10), ("unicode/utf8.acceptRanges", Rows.laid_unicode_utf8_acceptRanges), ("strconv.ErrRange", Rows.laid_strconv_ErrRange), ("strconv.ErrSyntax", Rows.laid_strconv_ErrSyntax), ("surmise/infix.signs", Rows.laid_surmise_infix_signs), ("unicode/utf8.first", Rows.laid_unicode_utf8_first)]

/-- An array of texts that reads as these texts holds them, cell for cell. -/
theorem cells_of_texts {H : Type} {enc : TypeId × Value → H} {P : Program} {w : World} {base : Nat} {sp : Nat → Bool} {held : Bool} {fuel : Nat} {t e : TypeId} {n : Nat} {cs : List Value} {ls : List Bs} {p : List MemPlace}
    (ht : P.underlying t = some (.array n e)) (he : P.underlying e = some .string) (hce : P.cellsOf e = 1) (hct : P.cellsOf t = n)
    (h : DataW.trod enc P w base sp held fuel t cs = some (.agg (ls.map fun l => .lit (.string l)), p)) : cs = ls.map sv := by
  obtain ⟨xs, m, rfl, hx, hcl, hxl, hel⟩ := DataW.trod_array ht h
  rw [hct] at hcl
  simp only [hce, Nat.mul_one] at hel
  have hxs : ls.map (fun l => (DataW.lit (.string l) : DataW H)) = xs.map (·.1) := by
    have := congrArg Prod.fst hx
    simpa using this
  have hll : ls.length = n := by
    have := congrArg List.length hxs
    simp only [List.length_map] at this
    omega
  apply List.ext_getElem?
  intro i
  by_cases hi : i < n
  · have hi' : i < xs.length := by omega
    have hf := hel i hi
    rw [List.getElem?_eq_getElem hi'] at hf
    obtain ⟨s, hc, hd, _⟩ := DataW.trod_string he hf
    have h1 : cs[i]? = some (.string s) := by
      have := congrArg (·[0]?) hc
      simpa [List.getElem?_take, List.getElem?_drop] using this
    have h2 : (xs.map (·.1))[i]? = some (DataW.lit (.string s.data.toList) : DataW H) := by
      rw [List.getElem?_map, List.getElem?_eq_getElem hi', hd]; rfl
    rw [← hxs, List.getElem?_map] at h2
    obtain ⟨l, hl, e1⟩ := Option.map_eq_some_iff.1 h2
    have e2 : l = s.data.toList := by simpa using e1
    rw [h1, List.getElem?_map, hl, e2]
    rfl
  · rw [List.getElem?_eq_none (by omega), List.getElem?_eq_none (by rw [List.length_map]; omega)]

theorem gSigns : Tryz.prog.globalNamed "surmise/infix.signs" = some 1 := by kernel_rfl
theorem tSigns : (Tryz.prog.globals[1]?).map (·.type) = some 176 := by kernel_rfl
theorem tTens : (Tryz.prog.globals[4]?).map (·.type) = some 209 := by kernel_rfl
theorem gSynt : Tryz.prog.globalNamed "strconv.ErrSyntax" = some 5 := by kernel_rfl
theorem gRang : Tryz.prog.globalNamed "strconv.ErrRange" = some 6 := by kernel_rfl
theorem tSynt : (Tryz.prog.globals[5]?).map (·.type) = some 106 := by kernel_rfl
theorem tRang : (Tryz.prog.globals[6]?).map (·.type) = some 106 := by kernel_rfl

/-- A cell of type error that reads as an error of that name holds an interface's value. -/
theorem err_cell {H : Type} {enc : TypeId × Value → H} {W : World} {base : Nat} {sp : Nat → Bool} {n : Nat} {cs : Array Value} {name g : String} {gi : Nat} {d : DataW H} {p : List MemPlace}
    (hg : Tryz.prog.globalNamed g = some gi) (hv : W.var? Tryz.prog g = some cs)
    (h : DataW.trod enc Tryz.prog W base sp false n 106 cs.toList = some (.iface name d, p)) : ∃ t q, W.cell? ⟨gi, 0, none⟩ = some (.iface t q) := by
  obtain ⟨_, u, v, hc, _, _⟩ := iface_of_trod Tryz.underlying106 h
  refine ⟨u, v, ?_⟩
  rw [World.var?_cell hg hv 0]
  obtain ⟨l⟩ := cs
  obtain rfl : l = [.iface u v] := hc
  rfl

/-- WHAT THE LIST GIVES. -/
theorem globs_of {W : World} (h : laidMetH Tryz.prog laid8 W) : Globs W := by
  rw [MakeChecks.laidMetH_plain _ _ _ (by kernel_rfl)] at h
  obtain ⟨ps, ⟨g0, t0, c0, f0, p0, q0, _, _, _, _, ⟨g1, t1, c1, f1, p1, q1, _, _, _, _, ⟨g2, t2, c2, f2, p2, q2, hg2, ht2, hv2, hd2, ⟨g3, t3, c3, f3, p3, q3, _, _, _, _, ⟨g4, t4, c4, f4, p4, q4, hg4, ht4, hv4, hd4, ⟨g5, t5, c5, f5, p5, q5, hg5, ht5, hv5, hd5, ⟨g6, t6, c6, f6, p6, q6, hg6, ht6, hv6, hd6, _⟩, _⟩, _⟩, _⟩, _⟩, _⟩, _⟩, _, _⟩ := h
  obtain rfl := Option.some.inj (I.gTens.symm.trans hg2)
  obtain rfl := Option.some.inj (tTens.symm.trans ht2)
  obtain rfl := Option.some.inj (gRang.symm.trans hg4)
  obtain rfl := Option.some.inj (tRang.symm.trans ht4)
  obtain rfl := Option.some.inj (gSynt.symm.trans hg5)
  obtain rfl := Option.some.inj (tSynt.symm.trans ht5)
  obtain rfl := Option.some.inj (gSigns.symm.trans hg6)
  obtain rfl := Option.some.inj (tSigns.symm.trans ht6)
  have e2 : c2.toList = Lib.pow10Tab.map fun z => Value.int .u64 z :=
    Lib.cells_of_tab Tryz.underlying209 Tryz.underlying182 (by kernel_rfl) (by kernel_rfl) (show DataW.trod _ Tryz.prog W 0 _ false f2 209 c2.toList = some (Lib.tabData .u64 Lib.pow10Tab, p2) from hd2)
  have e6 : c6.toList = I.signL.map sv :=
    cells_of_texts Tryz.underlying176 Tryz.underlying9 (by kernel_rfl) (by kernel_rfl) (show DataW.trod _ Tryz.prog W 0 _ false f6 176 c6.toList = some (.agg (I.signL.map fun l => .lit (.string l)), p6) from hd6)
  refine ⟨⟨?_, ?_⟩, ?_, ?_⟩
  · have hv := hv6
    unfold World.var? at hv
    rw [hg6] at hv
    simp only [Option.bind_some] at hv
    split at hv
    · rename_i cs T fr hb
      obtain rfl := Option.some.inj hv
      exact ⟨T, fr, by rw [hb, ← e6]⟩
    · cases hv
  · unfold Lib.TabIs
    rw [hv2, ← e2]
  · exact err_cell hg5 hv5 hd5
  · exact err_cell hg4 hv4 hd4

/-- A START FOR THE WITNESS: the list laid. -/
theorem laid_met (os : Os) (args : Array Value) : laidMetH Tryz.prog laid8 ((World.laidAll Tryz.prog os laid8).forCall (fun _ _ => 0) ⟨#[], args, []⟩).memory := by
  rw [MakeChecks.laidMetH_plain _ _ _ (by kernel_rfl)]
  exact laidMet_laidAll _ (by kernel_rfl) (by kernel_rfl)

/-- The states' slice of a table that was handed over is no longer than its room. -/
theorem tb_cap {H : Type} {enc : TypeId × Value → H} {W : World} {d : DataW H} {p : List MemPlace} {c0 c1 c2 c3 : Value} (hd : DataW.Trod enc Tryz.prog W 0 (fun _ => true) true 26 (.agg #[c0, c1, c2, c3]) d p) :
    ∀ a l c, c0 = .slice a l c → l ≤ c := by
  obtain ⟨fuel, hf0⟩ := hd
  obtain ⟨hl, m, hf⟩ := each_cell Tryz.underlying26 (by kernel_rfl) (by kernel_rfl) (show DataW.trod enc Tryz.prog W 0 (fun _ => true) true fuel 26 [c0, c1, c2, c3] = some (d, p) from hf0)
  obtain ⟨x, z0, e0, t0⟩ := hf 0 _ rfl
  injection e0 with e0
  subst e0
  intro a l c e
  rcases open_strings Tryz.underlying22 Tryz.underlying9 (by kernel_rfl) t0 with ⟨hcs, _⟩ | ⟨a', len, cap, ss, hcs, _, hl, _⟩
  · injection hcs with hcs
    rw [hcs] at e
    injection e with e1 e2 e3
    omega
  · injection hcs with hcs
    rw [hcs] at e
    injection e with e1 e2 e3
    omega
end Go.Proofs.YtfooiggedgcjcaaGreatDoor.T
