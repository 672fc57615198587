/-
  Arguments that are slices of numbers or of texts, as they read.
-/
import Derived.ProofKit
import Derived.SliceStrings
import Derived.Test.YtaclkofkajehpaaKSl
namespace Go.Proofs.Ytaclkofkajehpaa.K
open Go Go.RowKit Go.ChangeShapes Go.WideShapes Go.ChangeAt

section
variable {H : Type} {enc : TypeId × Value → H} {P : Program} {W : World}

theorem Sl.args {v : Value} {a : Addr} {len cap : Nat} {all : List Value} (hlen : len ≤ all.length) (hv : v = .slice (some a) len cap) (hc : ∀ i u, all[i]? = some u → W.cell? (a.add i) = some u) : Sl W v (all.take len) := by
  subst hv
  have hl : (all.take len).length = len := by simp; omega
  refine ⟨some a, cap, by rw [hl], fun j u hj => ?_⟩
  have hj' : j < len := by
    have := (List.getElem?_eq_some_iff.1 hj).1
    omega
  rw [List.getElem?_take_of_lt hj'] at hj
  have h0 := hc j u hj
  have h1 : a.spot = none := by
    have hz : all[0]? = some all[0] := List.getElem?_eq_getElem (by omega)
    simpa [Addr.add] using World.cell?_spot (hc 0 _ hz)
  obtain ⟨b, off, spot⟩ := a
  subst h1
  exact ⟨b, off, rfl, by rw [← add_plain]; exact h0⟩

/-- An argument of type []int. -/
theorem ints_arg {t e : TypeId} (ht : P.underlying t = some (.slice e)) (he : P.underlying e = some (.int .i64)) (hc : P.cellsOf e = 1) {base : Nat} {v : Value} {d : DataW H} {p : List MemPlace}
    (hval : Value.okWide P W .any base t v) (hd : DataW.Trod enc P W 0 (fun _ => true) true t v d p) :
    ∃ xs : List Int, Sl W v (xs.map (Value.int .i64)) ∧ (∀ x ∈ xs, -9223372036854775808 ≤ x ∧ x ≤ 9223372036854775807) ∧ xs.length ≤ maxLen := by
  obtain ⟨a0, len, cap, rfl⟩ := okWide_slice ht hval
  obtain ⟨fuel, hf⟩ := hd
  rcases open_ints ht he hc hf with ⟨hcs, _⟩ | ⟨a, len', cap', zs, hcs, _, hl, hm, hz, _, hcell, hwz⟩
  · simp [Value.cells] at hcs
    obtain ⟨rfl, rfl, rfl⟩ := hcs
    exact ⟨[], Sl.nil W, by simp, by simp⟩
  · simp [Value.cells] at hcs
    obtain ⟨rfl, rfl, rfl⟩ := hcs
    simp only [if_true] at hz
    refine ⟨zs.take len, ?_, fun x hx => ?_, by rw [List.length_take]; omega⟩
    · rw [List.map_take]
      refine Sl.args (by rw [List.length_map]; omega) rfl (fun i u hi => ?_)
      rw [List.getElem?_map] at hi
      cases hzi : zs[i]? with
      | none => rw [hzi] at hi; cases hi
      | some z =>
        rw [hzi] at hi
        obtain ⟨hil, hze⟩ := List.getElem?_eq_some_iff.1 hzi
        have := hcell i hil
        rw [this, ← hi]
        simp [List.getD, hzi]
    · have := hwz x (List.mem_of_mem_take hx)
      simpa [Lit.wf, IntKind.min, IntKind.max, IntKind.signed, IntKind.bits] using this

/-- An argument of type []string. -/
theorem strs_arg {t e : TypeId} (ht : P.underlying t = some (.slice e)) (he : P.underlying e = some .string) (hc : P.cellsOf e = 1) {base : Nat} {v : Value} {d : DataW H} {p : List MemPlace}
    (hval : Value.okWide P W .any base t v) (hd : DataW.Trod enc P W 0 (fun _ => true) true t v d p) :
    ∃ xs : List (List UInt8), Sl W v (xs.map fun l => Value.string ⟨l.toArray⟩) ∧ (∀ x ∈ xs, x.length ≤ maxLen) ∧ xs.length ≤ maxLen := by
  obtain ⟨a0, len, cap, rfl⟩ := okWide_slice ht hval
  obtain ⟨fuel, hf⟩ := hd
  rcases open_strings ht he hc hf with ⟨hcs, _⟩ | ⟨a, len', cap', ss, hcs, _, hl, hm, hz, _, hcell, hws⟩
  · simp [Value.cells] at hcs
    obtain ⟨rfl, rfl, rfl⟩ := hcs
    exact ⟨[], Sl.nil W, by simp, by simp⟩
  · simp [Value.cells] at hcs
    obtain ⟨rfl, rfl, rfl⟩ := hcs
    simp only [if_true] at hz
    refine ⟨(ss.map (fun s => s.data.toList)).take len, ?_, fun x hx => ?_, by rw [List.length_take, List.length_map]; omega⟩
    · rw [List.map_take]
      refine Sl.args (by rw [List.length_map, List.length_map]; omega) rfl (fun i u hi => ?_)
      rw [List.getElem?_map, List.getElem?_map] at hi
      cases hzi : ss[i]? with
      | none => rw [hzi] at hi; cases hi
      | some z =>
        rw [hzi] at hi
        obtain ⟨hil, hze⟩ := List.getElem?_eq_some_iff.1 hzi
        have := hcell i hil
        rw [this, ← hi]
        simp [List.getD, hzi]
    · obtain ⟨s, hs, rfl⟩ := List.mem_map.1 (List.mem_of_mem_take hx)
      have := hws s hs
      rw [Array.length_toList]
      exact this

end
end Go.Proofs.Ytaclkofkajehpaa.K
