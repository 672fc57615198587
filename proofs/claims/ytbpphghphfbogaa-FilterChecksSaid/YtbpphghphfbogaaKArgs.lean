/-
  Arguments that are slices of numbers or of texts, as they read.
-/
import Derived.ProofKit
import Derived.SliceStrings
import Derived.Deep.Fields
import Derived.Lib.SmallJoins
import Derived.Test.YtbpphghphfbogaaKSl
namespace Go.Proofs.Ytbpphghphfbogaa.K
open Go Go.RowKit Go.ChangeShapes Go.WideShapes Go.ChangeAt

section
variable {H : Type} {enc : TypeId × Value → H} {P : Program} {W : World}

theorem Sl.args {v : Value} {a : Addr} {len cap : Nat} {all : List Value} (hlen : len ≤ all.length) (hv : v = .slice (some a) len cap) (hc : ∀ i u, all[i]? = some u → W.cell? (a.add i) = some u) : Sl W v (all.take len) := by
  subst hv
  have hl : (all.take len).length = len := by simp; omega
  refine ⟨some a, cap, by rw [hl], fun j u hj => ?_⟩
  have hj' : j < len := by
    have := (List.getElem?_eq_some_iff.1 hj).1
    omega
  rw [List.getElem?_take_of_lt hj'] at hj
  have h0 := hc j u hj
  have h1 : a.spot = none := by
    have hz : all[0]? = some all[0] := List.getElem?_eq_getElem (by omega)
    simpa [Addr.add] using World.cell?_spot (hc 0 _ hz)
  obtain ⟨b, off, spot⟩ := a
  subst h1
  exact ⟨b, off, rfl, by rw [← add_plain]; exact h0⟩

/-- A value that reads as a slice of ints (a field, an argument). -/
theorem ints_field {t e : TypeId} (ht : P.underlying t = some (.slice e)) (he : P.underlying e = some (.int .i64)) (hc : P.cellsOf e = 1) {fuel : Nat} {v : Value} {y : DataW H × List MemPlace}
    (hf : DataW.trod enc P W 0 (fun _ => true) true fuel t [v] = some y) :
    ∃ xs : List Int, Sl W v (xs.map (Value.int .i64)) ∧ (∀ x ∈ xs, -9223372036854775808 ≤ x ∧ x ≤ 9223372036854775807) ∧ xs.length ≤ maxLen := by
  rcases open_ints ht he hc hf with ⟨hcs, _⟩ | ⟨a, len, cap, zs, hcs, _, hl, hm, hz, _, hcell, hwz⟩
  · simp at hcs
    subst hcs
    exact ⟨[], Sl.nil W, by simp, by simp⟩
  · simp at hcs
    subst hcs
    simp only [if_true] at hz
    refine ⟨zs.take len, ?_, fun x hx => ?_, by rw [List.length_take]; omega⟩
    · rw [List.map_take]
      refine Sl.args (by rw [List.length_map]; omega) rfl (fun i u hi => ?_)
      rw [List.getElem?_map] at hi
      cases hzi : zs[i]? with
      | none => rw [hzi] at hi; cases hi
      | some z =>
        rw [hzi] at hi
        obtain ⟨hil, hze⟩ := List.getElem?_eq_some_iff.1 hzi
        have := hcell i hil
        rw [this, ← hi]
        simp [List.getD, hzi]
    · have := hwz x (List.mem_of_mem_take hx)
      simpa [Lit.wf, IntKind.min, IntKind.max, IntKind.signed, IntKind.bits] using this

/-- An argument of type []int. -/
theorem ints_arg {t e : TypeId} (ht : P.underlying t = some (.slice e)) (he : P.underlying e = some (.int .i64)) (hc : P.cellsOf e = 1) {base : Nat} {v : Value} {d : DataW H} {p : List MemPlace}
    (hval : Value.okWide P W .any base t v) (hd : DataW.Trod enc P W 0 (fun _ => true) true t v d p) :
    ∃ xs : List Int, Sl W v (xs.map (Value.int .i64)) ∧ (∀ x ∈ xs, -9223372036854775808 ≤ x ∧ x ≤ 9223372036854775807) ∧ xs.length ≤ maxLen := by
  obtain ⟨a0, len, cap, rfl⟩ := okWide_slice ht hval
  obtain ⟨fuel, hf⟩ := hd
  exact ints_field ht he hc (by simpa [Value.cells] using hf)

/-- A value that reads as a slice of texts. -/
theorem strs_field {t e : TypeId} (ht : P.underlying t = some (.slice e)) (he : P.underlying e = some .string) (hc : P.cellsOf e = 1) {fuel : Nat} {v : Value} {y : DataW H × List MemPlace}
    (hf : DataW.trod enc P W 0 (fun _ => true) true fuel t [v] = some y) :
    ∃ xs : List (List UInt8), Sl W v (xs.map fun l => Value.string ⟨l.toArray⟩) ∧ (∀ x ∈ xs, x.length ≤ maxLen) ∧ xs.length ≤ maxLen := by
  rcases open_strings ht he hc hf with ⟨hcs, _⟩ | ⟨a, len, cap, ss, hcs, _, hl, hm, hz, _, hcell, hws⟩
  · simp at hcs
    subst hcs
    exact ⟨[], Sl.nil W, by simp, by simp⟩
  · simp at hcs
    subst hcs
    simp only [if_true] at hz
    refine ⟨(ss.map (fun s => s.data.toList)).take len, ?_, fun x hx => ?_, by rw [List.length_take, List.length_map]; omega⟩
    · rw [List.map_take]
      refine Sl.args (by rw [List.length_map, List.length_map]; omega) rfl (fun i u hi => ?_)
      rw [List.getElem?_map, List.getElem?_map] at hi
      cases hzi : ss[i]? with
      | none => rw [hzi] at hi; cases hi
      | some z =>
        rw [hzi] at hi
        obtain ⟨hil, hze⟩ := List.getElem?_eq_some_iff.1 hzi
        have := hcell i hil
        rw [this, ← hi]
        simp [List.getD, hzi]
    · obtain ⟨s, hs, rfl⟩ := List.mem_map.1 (List.mem_of_mem_take hx)
      have := hws s hs
      rw [Array.length_toList]
      exact this

/-- An argument of type []string. -/
theorem strs_arg {t e : TypeId} (ht : P.underlying t = some (.slice e)) (he : P.underlying e = some .string) (hc : P.cellsOf e = 1) {base : Nat} {v : Value} {d : DataW H} {p : List MemPlace}
    (hval : Value.okWide P W .any base t v) (hd : DataW.Trod enc P W 0 (fun _ => true) true t v d p) :
    ∃ xs : List (List UInt8), Sl W v (xs.map fun l => Value.string ⟨l.toArray⟩) ∧ (∀ x ∈ xs, x.length ≤ maxLen) ∧ xs.length ≤ maxLen := by
  obtain ⟨a0, len, cap, rfl⟩ := okWide_slice ht hval
  obtain ⟨fuel, hf⟩ := hd
  exact strs_field ht he hc (by simpa [Value.cells] using hf)

/-- A struct by value, of fields of one cell each: its cells, field by field. -/
theorem agg_fields {t : TypeId} {fs : Array Field} (hs : P.underlying t = some (.struct fs)) (hone : Deep.oneCellFields P fs = true) (hC : P.cellsOf t = fs.size) {r : Reach} {base : Nat} {v : Value} {d : DataW H} {p : List MemPlace}
    (hval : Value.okWide P W r base t v) (hd : DataW.Trod enc P W 0 (fun _ => true) true t v d p) :
    ∃ cs : List Value, v = .agg cs.toArray ∧ cs.length = fs.size ∧ ∃ n, ∀ (j : Nat) (f : Field), fs[j]? = some f → ∃ c y, cs[j]? = some c ∧ DataW.trod enc P W 0 (fun _ => true) true n f.type [c] = some y := by
  obtain ⟨cs, rfl, hsz⟩ := okWide_struct hs hval
  have hlen : cs.toList.length = fs.size := by rw [Array.length_toList]; exact hsz.trans hC
  refine ⟨cs.toList, by simp, hlen, ?_⟩
  obtain ⟨fuel, hf⟩ := hd
  obtain ⟨xs, n, _, _, _, hxl, hg⟩ := DataW.trod_struct hs hf
  refine ⟨n, fun j f hj => ?_⟩
  obtain ⟨ho, hk⟩ := Deep.hone_of hone j f hj
  have hjl : j < fs.size := (Array.getElem?_eq_some_iff.1 hj).1
  have h1 := hg j f hj
  rw [ho, hk] at h1
  have hcj : cs.toList[j]? = some (cs.toList[j]'(by omega)) := List.getElem?_eq_getElem (by omega)
  have hone1 : (Value.agg cs).cells.toList.drop j = cs.toList[j]'(by omega) :: cs.toList.drop (j + 1) := List.drop_eq_getElem_cons (by omega)
  rw [hone1] at h1
  exact ⟨_, xs[j]'(by omega), hcj, h1.trans (List.getElem?_eq_getElem (by omega))⟩

end
end Go.Proofs.Ytbpphghphfbogaa.K
