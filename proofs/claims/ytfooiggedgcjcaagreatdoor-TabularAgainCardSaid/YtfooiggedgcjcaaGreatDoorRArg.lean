/-
  Arguments that are slices of numbers or of texts, as they read.
  Layer 5: a table that was handed over, as it reads.
-/
import Derived.ProofKit
import Derived.SliceStrings
import Derived.Deep.Fields
import Derived.Lib.SmallJoins
import Derived.Test.YtfooiggedgcjcaaGreatDoorKBase
import Derived.Test.YtfooiggedgcjcaaGreatDoorChecked
import Derived.Test.YtfooiggedgcjcaaGreatDoorIMath
import Derived.OpenShut
namespace Go.Proofs.YtfooiggedgcjcaaGreatDoor.K
open Go Go.RowKit Go.ChangeShapes Go.WideShapes Go.ChangeAt

section
variable {H : Type} {enc : TypeId × Value → H} {P : Program} {W : World}

theorem Sl.args {v : Value} {a : Addr} {len cap : Nat} {all : List Value} (hlen : len ≤ all.length) (hv : v = .slice (some a) len cap) (hc : ∀ i u, all[i]? = some u → W.cell? (a.add i) = some u) : Sl W v (all.take len) := by
  subst hv
  have hl : (all.take len).length = len := by simp; omega
  refine ⟨some a, cap, by rw [hl], fun j u hj => ?_⟩
  have hj' : j < len := by
    have := (List.getElem?_eq_some_iff.1 hj).1
    omega
  rw [List.getElem?_take_of_lt hj'] at hj
  have h0 := hc j u hj
  have h1 : a.spot = none := by
    have hz : all[0]? = some all[0] := List.getElem?_eq_getElem (by omega)
    simpa [Addr.add] using World.cell?_spot (hc 0 _ hz)
  obtain ⟨b, off, spot⟩ := a
  subst h1
  exact ⟨b, off, rfl, by rw [← add_plain]; exact h0⟩

/-- A value that reads as a slice of ints (a field, an argument). -/
theorem ints_field {t e : TypeId} (ht : P.underlying t = some (.slice e)) (he : P.underlying e = some (.int .i64)) (hc : P.cellsOf e = 1) {fuel : Nat} {v : Value} {y : DataW H × List MemPlace}
    (hf : DataW.trod enc P W 0 (fun _ => true) true fuel t [v] = some y) :
    ∃ xs : List Int, Sl W v (xs.map (Value.int .i64)) ∧ (∀ x ∈ xs, -9223372036854775808 ≤ x ∧ x ≤ 9223372036854775807) ∧ xs.length ≤ maxLen := by
  rcases open_ints ht he hc hf with ⟨hcs, _⟩ | ⟨a, len, cap, zs, hcs, _, hl, hm, hz, _, hcell, hwz⟩
  · simp at hcs
    subst hcs
    exact ⟨[], Sl.nil W, by simp, by simp⟩
  · simp at hcs
    subst hcs
    simp only [if_true] at hz
    refine ⟨zs.take len, ?_, fun x hx => ?_, by rw [List.length_take]; omega⟩
    · rw [List.map_take]
      refine Sl.args (by rw [List.length_map]; omega) rfl (fun i u hi => ?_)
      rw [List.getElem?_map] at hi
      cases hzi : zs[i]? with
      | none => rw [hzi] at hi; cases hi
      | some z =>
        rw [hzi] at hi
        obtain ⟨hil, hze⟩ := List.getElem?_eq_some_iff.1 hzi
        have := hcell i hil
        rw [this, ← hi]
        simp [List.getD, hzi]
    · have := hwz x (List.mem_of_mem_take hx)
      simpa [Lit.wf, IntKind.min, IntKind.max, IntKind.signed, IntKind.bits] using this

/-- An argument of type []int. -/
theorem ints_arg {t e : TypeId} (ht : P.underlying t = some (.slice e)) (he : P.underlying e = some (.int .i64)) (hc : P.cellsOf e = 1) {base : Nat} {v : Value} {d : DataW H} {p : List MemPlace}
    (hval : Value.okWide P W .any base t v) (hd : DataW.Trod enc P W 0 (fun _ => true) true t v d p) :
    ∃ xs : List Int, Sl W v (xs.map (Value.int .i64)) ∧ (∀ x ∈ xs, -9223372036854775808 ≤ x ∧ x ≤ 9223372036854775807) ∧ xs.length ≤ maxLen := by
  obtain ⟨a0, len, cap, rfl⟩ := okWide_slice ht hval
  obtain ⟨fuel, hf⟩ := hd
  exact ints_field ht he hc (by simpa [Value.cells] using hf)

/-- A value that reads as a slice of texts. -/
theorem strs_field {t e : TypeId} (ht : P.underlying t = some (.slice e)) (he : P.underlying e = some .string) (hc : P.cellsOf e = 1) {fuel : Nat} {v : Value} {y : DataW H × List MemPlace}
    (hf : DataW.trod enc P W 0 (fun _ => true) true fuel t [v] = some y) :
    ∃ xs : List (List UInt8), Sl W v (xs.map fun l => Value.string ⟨l.toArray⟩) ∧ (∀ x ∈ xs, x.length ≤ maxLen) ∧ xs.length ≤ maxLen := by
  rcases open_strings ht he hc hf with ⟨hcs, _⟩ | ⟨a, len, cap, ss, hcs, _, hl, hm, hz, _, hcell, hws⟩
  · simp at hcs
    subst hcs
    exact ⟨[], Sl.nil W, by simp, by simp⟩
  · simp at hcs
    subst hcs
    simp only [if_true] at hz
    refine ⟨(ss.map (fun s => s.data.toList)).take len, ?_, fun x hx => ?_, by rw [List.length_take, List.length_map]; omega⟩
    · rw [List.map_take]
      refine Sl.args (by rw [List.length_map, List.length_map]; omega) rfl (fun i u hi => ?_)
      rw [List.getElem?_map, List.getElem?_map] at hi
      cases hzi : ss[i]? with
      | none => rw [hzi] at hi; cases hi
      | some z =>
        rw [hzi] at hi
        obtain ⟨hil, hze⟩ := List.getElem?_eq_some_iff.1 hzi
        have := hcell i hil
        rw [this, ← hi]
        simp [List.getD, hzi]
    · obtain ⟨s, hs, rfl⟩ := List.mem_map.1 (List.mem_of_mem_take hx)
      have := hws s hs
      rw [Array.length_toList]
      exact this

/-- An argument of type []string. -/
theorem strs_arg {t e : TypeId} (ht : P.underlying t = some (.slice e)) (he : P.underlying e = some .string) (hc : P.cellsOf e = 1) {base : Nat} {v : Value} {d : DataW H} {p : List MemPlace}
    (hval : Value.okWide P W .any base t v) (hd : DataW.Trod enc P W 0 (fun _ => true) true t v d p) :
    ∃ xs : List (List UInt8), Sl W v (xs.map fun l => Value.string ⟨l.toArray⟩) ∧ (∀ x ∈ xs, x.length ≤ maxLen) ∧ xs.length ≤ maxLen := by
  obtain ⟨a0, len, cap, rfl⟩ := okWide_slice ht hval
  obtain ⟨fuel, hf⟩ := hd
  exact strs_field ht he hc (by simpa [Value.cells] using hf)

/-- A struct by value, of fields of one cell each: its cells, field by field. -/
theorem agg_fields {t : TypeId} {fs : Array Field} (hs : P.underlying t = some (.struct fs)) (hone : Deep.oneCellFields P fs = true) (hC : P.cellsOf t = fs.size) {r : Reach} {base : Nat} {v : Value} {d : DataW H} {p : List MemPlace}
    (hval : Value.okWide P W r base t v) (hd : DataW.Trod enc P W 0 (fun _ => true) true t v d p) :
    ∃ cs : List Value, v = .agg cs.toArray ∧ cs.length = fs.size ∧ ∃ n, ∀ (j : Nat) (f : Field), fs[j]? = some f → ∃ c y, cs[j]? = some c ∧ DataW.trod enc P W 0 (fun _ => true) true n f.type [c] = some y := by
  obtain ⟨cs, rfl, hsz⟩ := okWide_struct hs hval
  have hlen : cs.toList.length = fs.size := by rw [Array.length_toList]; exact hsz.trans hC
  refine ⟨cs.toList, by simp, hlen, ?_⟩
  obtain ⟨fuel, hf⟩ := hd
  obtain ⟨xs, n, _, _, _, hxl, hg⟩ := DataW.trod_struct hs hf
  refine ⟨n, fun j f hj => ?_⟩
  obtain ⟨ho, hk⟩ := Deep.hone_of hone j f hj
  have hjl : j < fs.size := (Array.getElem?_eq_some_iff.1 hj).1
  have h1 := hg j f hj
  rw [ho, hk] at h1
  have hcj : cs.toList[j]? = some (cs.toList[j]'(by omega)) := List.getElem?_eq_getElem (by omega)
  have hone1 : (Value.agg cs).cells.toList.drop j = cs.toList[j]'(by omega) :: cs.toList.drop (j + 1) := List.drop_eq_getElem_cons (by omega)
  rw [hone1] at h1
  exact ⟨_, xs[j]'(by omega), hcj, h1.trans (List.getElem?_eq_getElem (by omega))⟩

end
end Go.Proofs.YtfooiggedgcjcaaGreatDoor.K

namespace Go.Proofs.YtfooiggedgcjcaaGreatDoor.R
open Go Go.RowKit Go.ChangeShapes Go.WideShapes Go.ChangeAt Go.Proofs.YtfooiggedgcjcaaGreatDoor.B Go.Proofs.YtfooiggedgcjcaaGreatDoor.K Go.Proofs.YtfooiggedgcjcaaGreatDoor.E
set_option linter.unusedVariables false

section
variable {H : Type} {enc : TypeId × Value → H} {W : World}

/-- A struct of fields of one cell each: each field's cell reads as its type. -/
theorem each_cell {P : Program} {t : TypeId} {fs : Array Field} (hs : P.underlying t = some (.struct fs)) (hone : Deep.oneCellFields P fs = true) (hC : P.cellsOf t = fs.size) {fuel : Nat} {cs : List Value} {y : DataW H × List MemPlace}
    (hf : DataW.trod enc P W 0 (fun _ => true) true fuel t cs = some y) :
    cs.length = fs.size ∧ ∃ n, ∀ (j : Nat) (f : Field), fs[j]? = some f → ∃ c z, cs[j]? = some c ∧ DataW.trod enc P W 0 (fun _ => true) true n f.type [c] = some z := by
  obtain ⟨xs, n, _, hx, hcl, hxl, hg⟩ := DataW.trod_struct hs hf
  have hlen : cs.length = fs.size := hcl.trans hC
  refine ⟨hlen, n, fun j f hj => ?_⟩
  obtain ⟨ho, hk⟩ := Deep.hone_of hone j f hj
  have hjl : j < fs.size := (Array.getElem?_eq_some_iff.1 hj).1
  have h1 := hg j f hj
  rw [ho, hk, List.drop_eq_getElem_cons (by omega : j < cs.length), List.getElem?_eq_getElem (by omega : j < xs.length)] at h1
  exact ⟨cs[j]'(by omega), _, List.getElem?_eq_getElem (by omega), h1⟩

theorem list2 {cs : List Value} {a b : Value} (h : cs.length = 2) (ha : cs[0]? = some a) (hb : cs[1]? = some b) : cs = [a, b] := by
  match cs, h, ha, hb with
  | [_, _], _, ha, hb => simp at ha hb; rw [ha, hb]
theorem list4 {cs : List Value} {a b c d : Value} (h : cs.length = 4) (ha : cs[0]? = some a) (hb : cs[1]? = some b) (hc : cs[2]? = some c) (hd : cs[3]? = some d) : cs = [a, b, c, d] := by
  match cs, h, ha, hb, hc, hd with
  | [_, _, _, _], _, ha, hb, hc, hd => simp at ha hb hc hd; rw [ha, hb, hc, hd]
theorem list5 {cs : List Value} {a b c d e : Value} (h : cs.length = 5) (ha : cs[0]? = some a) (hb : cs[1]? = some b) (hc : cs[2]? = some c) (hd : cs[3]? = some d) (he : cs[4]? = some e) : cs = [a, b, c, d, e] := by
  match cs, h, ha, hb, hc, hd, he with
  | [_, _, _, _, _], _, ha, hb, hc, hd, he => simp at ha hb hc hd he; rw [ha, hb, hc, hd, he]

theorem int_cell {n : Nat} {c : Value} {z : DataW H × List MemPlace} (h : DataW.trod enc Tryz.prog W 0 (fun _ => true) true n 3 [c] = some z) : ∃ x, c = .int .i64 x ∧ I64 x := by
  obtain ⟨x, g, _, wx⟩ := DataW.trod_int Tryz.underlying3 h
  simp only [List.cons.injEq, and_true] at g
  refine ⟨x, g, ?_⟩
  have := wx
  simp [Lit.wf, IntKind.min, IntKind.max, IntKind.signed, IntKind.bits] at this
  exact this

theorem str_cell {n : Nat} {c : Value} {z : DataW H × List MemPlace} (h : DataW.trod enc Tryz.prog W 0 (fun _ => true) true n 9 [c] = some z) : ∃ l, c = sv l ∧ l.length ≤ 9223372036854775807 := by
  obtain ⟨s, g, _, ws⟩ := DataW.trod_string Tryz.underlying9 h
  simp only [List.cons.injEq, and_true] at g
  refine ⟨s.data.toList, by rw [g]; unfold sv; rw [str_eq], ?_⟩
  exact Nat.le_trans (Nat.le_of_eq rfl) (Nat.le_trans ws (by decide))

theorem code_cell {n : Nat} {c : Value} {z : DataW H × List MemPlace} (h : DataW.trod enc Tryz.prog W 0 (fun _ => true) true n 74 [c] = some z) : ∃ l, SlI W c l ∧ CodeWf l := by
  obtain ⟨code, hs, hwf, hl⟩ := pairs_field Tryz.underlying74 Tryz.underlying83 rfl rfl rfl rfl Tryz.underlying3 Tryz.underlying3 (by kernel_rfl) (by kernel_rfl) (by kernel_rfl) h
  exact ⟨code, hs, hwf, Nat.le_trans hl (by decide)⟩

theorem ints_cell {n : Nat} {c : Value} {z : DataW H × List MemPlace} (h : DataW.trod enc Tryz.prog W 0 (fun _ => true) true n 23 [c] = some z) : ∃ l, SlN W c l ∧ (∀ x ∈ l, I64 x) ∧ l.length ≤ 9223372036854775807 := by
  obtain ⟨l, hs, hw, hl⟩ := ints_field Tryz.underlying23 Tryz.underlying3 (by kernel_rfl) h
  exact ⟨l, hs, hw, Nat.le_trans hl (by decide)⟩

theorem strs_cell {n : Nat} {c : Value} {z : DataW H × List MemPlace} (h : DataW.trod enc Tryz.prog W 0 (fun _ => true) true n 22 [c] = some z) : ∃ l, SlB W c l ∧ (∀ x ∈ l, x.length ≤ 9223372036854775807) ∧ l.length ≤ 9223372036854775807 := by
  obtain ⟨l, ⟨a, cap, rfl, hs⟩, hr, hl⟩ := of_field (X := Bs) (k := 1) (Q := fun cs x => cs = [sv x]) (R := fun x => x.length ≤ 9223372036854775807) Tryz.underlying22 (by kernel_rfl) (by decide) (fun fuel cs y hl hy => by
    match cs, hl, hy with
    | [c], _, hy =>
      obtain ⟨l, rfl, h⟩ := str_cell hy
      exact ⟨l, rfl, h⟩) h
  refine ⟨l, ⟨a, cap, by rw [List.length_map], fun j u hj => ?_⟩, hr, hl⟩
  rw [List.getElem?_map] at hj
  obtain ⟨x, hx, rfl⟩ := Option.map_eq_some_iff.1 hj
  obtain ⟨b, off, ha, cs, _, rfl, hc⟩ := hs j x hx
  exact ⟨b, off, ha, by have := hc 0 _ rfl; simpa using this⟩

theorem gd_cell {n : Nat} {cs : List Value} {z : DataW H × List MemPlace} (h : DataW.trod enc Tryz.prog W 0 (fun _ => true) true n 76 cs = some z) : ∃ g, GdIs W cs g ∧ GdWf g := by
  obtain ⟨hl, m, hf⟩ := each_cell Tryz.underlying76 (by kernel_rfl) (by kernel_rfl) h
  obtain ⟨c0, z0, e0, t0⟩ := hf 0 _ rfl
  obtain ⟨c1, z1, e1, t1⟩ := hf 1 _ rfl
  obtain rfl := list2 hl e0 e1
  obtain ⟨x, rfl, hx⟩ := int_cell t0
  obtain ⟨l, hs, hw⟩ := code_cell t1
  exact ⟨⟨x, l⟩, ⟨c1, rfl, hs⟩, hx, hw⟩

theorem se_cell {n : Nat} {cs : List Value} {z : DataW H × List MemPlace} (h : DataW.trod enc Tryz.prog W 0 (fun _ => true) true n 86 cs = some z) : ∃ g, SeIs W cs g ∧ SeWf g := by
  obtain ⟨hl, m, hf⟩ := each_cell Tryz.underlying86 (by kernel_rfl) (by kernel_rfl) h
  obtain ⟨c0, z0, e0, t0⟩ := hf 0 _ rfl
  obtain ⟨c1, z1, e1, t1⟩ := hf 1 _ rfl
  obtain rfl := list2 hl e0 e1
  obtain ⟨x, rfl, hx⟩ := int_cell t0
  obtain ⟨l, hs, hw⟩ := code_cell t1
  exact ⟨⟨x, l⟩, ⟨c1, rfl, hs⟩, hx, hw⟩

instance : Inhabited Se := ⟨⟨0, []⟩⟩
instance : Inhabited Gd := ⟨⟨0, []⟩⟩
instance : Inhabited Sp := ⟨⟨[], 0⟩⟩
instance : Inhabited Rl := ⟨⟨[], 0, [], [], []⟩⟩

theorem sp_cell {n : Nat} {cs : List Value} {z : DataW H × List MemPlace} (h : DataW.trod enc Tryz.prog W 0 (fun _ => true) true n 80 cs = some z) : ∃ g, SpIs W cs g ∧ SpWf g := by
  obtain ⟨hl, m, hf⟩ := each_cell Tryz.underlying80 (by kernel_rfl) (by kernel_rfl) h
  obtain ⟨c0, z0, e0, t0⟩ := hf 0 _ rfl
  obtain ⟨c1, z1, e1, t1⟩ := hf 1 _ rfl
  obtain rfl := list2 hl e0 e1
  obtain ⟨x, rfl, hx⟩ := int_cell t1
  obtain ⟨l, hs, hw, hn⟩ := of_field (X := Se) (k := 2) (Q := SeIs W) (R := SeWf) Tryz.underlying78 (by kernel_rfl) (by decide) (fun fuel cs y _ hy => se_cell hy) t0
  exact ⟨⟨l, x⟩, ⟨c0, rfl, hs⟩, hw, hn, hx⟩

theorem rl_cell {n : Nat} {cs : List Value} {z : DataW H × List MemPlace} (h : DataW.trod enc Tryz.prog W 0 (fun _ => true) true n 58 cs = some z) : ∃ g, RlIs W cs g ∧ RlWf g := by
  obtain ⟨hl, m, hf⟩ := each_cell Tryz.underlying58 (by kernel_rfl) (by kernel_rfl) h
  obtain ⟨c0, z0, e0, t0⟩ := hf 0 _ rfl
  obtain ⟨c1, z1, e1, t1⟩ := hf 1 _ rfl
  obtain ⟨c2, z2, e2, t2⟩ := hf 2 _ rfl
  obtain ⟨c3, z3, e3, t3⟩ := hf 3 _ rfl
  obtain ⟨c4, z4, e4, t4⟩ := hf 4 _ rfl
  obtain rfl := list5 hl e0 e1 e2 e3 e4
  obtain ⟨nm, rfl, hnm⟩ := str_cell t0
  obtain ⟨x, rfl, hx⟩ := int_cell t1
  obtain ⟨fr, f1, f2, f3⟩ := ints_cell t2
  obtain ⟨gs, g1, g2, g3⟩ := of_field (X := Gd) (k := 2) (Q := GdIs W) (R := GdWf) Tryz.underlying55 (by kernel_rfl) (by decide) (fun fuel cs y _ hy => gd_cell hy) t3
  obtain ⟨ss, s1, s2, s3⟩ := of_field (X := Sp) (k := 2) (Q := SpIs W) (R := SpWf) Tryz.underlying56 (by kernel_rfl) (by decide) (fun fuel cs y _ hy => sp_cell hy) t4
  exact ⟨⟨nm, x, fr, gs, ss⟩, ⟨c2, c3, c4, rfl, f1, g1, s1⟩, hnm, hx, ⟨f2, f3⟩, ⟨g2, g3⟩, ⟨s2, s3⟩⟩

theorem rules_cell {n : Nat} {c : Value} {z : DataW H × List MemPlace} (h : DataW.trod enc Tryz.prog W 0 (fun _ => true) true n 24 [c] = some z) : ∃ l, SlOf W 5 (RlIs W) c l ∧ (∀ x ∈ l, RlWf x) ∧ l.length ≤ 9223372036854775807 :=
  of_field (X := Rl) (k := 5) (Q := RlIs W) (R := RlWf) Tryz.underlying24 (by kernel_rfl) (by decide) (fun fuel cs y _ hy => rl_cell hy) h

/-- Cells that read as a table. -/
theorem tb_cells {n : Nat} {c0 c1 c2 c3 : Value} {z0 z1 z2 z3 : DataW H × List MemPlace} (t0 : DataW.trod enc Tryz.prog W 0 (fun _ => true) true n 22 [c0] = some z0) (t1 : DataW.trod enc Tryz.prog W 0 (fun _ => true) true n 22 [c1] = some z1)
    (t2 : DataW.trod enc Tryz.prog W 0 (fun _ => true) true n 23 [c2] = some z2) (t3 : DataW.trod enc Tryz.prog W 0 (fun _ => true) true n 24 [c3] = some z3) : ∃ t, TbIs W [c0, c1, c2, c3] t ∧ TbWf t := by
  obtain ⟨ss, a1, a2, a3⟩ := strs_cell t0
  obtain ⟨xs, b1, b2, b3⟩ := strs_cell t1
  obtain ⟨st, d1, d2, d3⟩ := ints_cell t2
  obtain ⟨rs, r1, r2, r3⟩ := rules_cell t3
  exact ⟨⟨ss, xs, st, rs⟩, ⟨c0, c1, c2, c3, rfl, a1, b1, d1, r1⟩, ⟨a2, a3⟩, ⟨b2, b3⟩, ⟨d2, d3⟩, ⟨r2, r3⟩⟩

set_option maxRecDepth 100000 in
/-- An argument that is a table. -/
theorem tb_arg {base : Nat} {v : Value} {d : DataW H} {p : List MemPlace} (hval : Value.okWide Tryz.prog W .any base 26 v) (hd : DataW.Trod enc Tryz.prog W 0 (fun _ => true) true 26 v d p) :
    ∃ c0 c1 c2 c3 t, v = .agg #[c0, c1, c2, c3] ∧ TbIs W [c0, c1, c2, c3] t ∧ TbWf t := by
  obtain ⟨cs, rfl, hsz⟩ := okWide_struct Tryz.underlying26 hval
  obtain ⟨fuel, hf0⟩ := hd
  obtain ⟨hl, m, hf⟩ := each_cell Tryz.underlying26 (by kernel_rfl) (by kernel_rfl) (show DataW.trod enc Tryz.prog W 0 (fun _ => true) true fuel 26 cs.toList = some (d, p) from hf0)
  obtain ⟨c0, z0, e0, t0⟩ := hf 0 _ rfl
  obtain ⟨c1, z1, e1, t1⟩ := hf 1 _ rfl
  obtain ⟨c2, z2, e2, t2⟩ := hf 2 _ rfl
  obtain ⟨c3, z3, e3, t3⟩ := hf 3 _ rfl
  have hcs := list4 hl e0 e1 e2 e3
  obtain ⟨l⟩ := cs
  obtain rfl : l = [c0, c1, c2, c3] := hcs
  obtain ⟨t, h1, h2⟩ := tb_cells t0 t1 t2 t3
  exact ⟨c0, c1, c2, c3, t, rfl, h1, h2⟩
end
end Go.Proofs.YtfooiggedgcjcaaGreatDoor.R
