/-
  Layer 13: calls that were handed over, as they read; none longer than memory is.
-/
import Derived.Test.YtelcemfaijjcbaaGreatDoorHP10Arg
namespace Go.Proofs.YtelcemfaijjcbaaGreatDoor.C13
open Go Go.RowKit Go.ChangeShapes Go.WideShapes Go.ChangeAt Go.Proofs Go.Proofs.YtelcemfaijjcbaaGreatDoor.B Go.Proofs.YtelcemfaijjcbaaGreatDoor.K Go.Proofs.YtelcemfaijjcbaaGreatDoor.P8 Go.Proofs.YtelcemfaijjcbaaGreatDoor.C12
open Go.Proofs.YtelcemfaijjcbaaGreatDoor.C10 (list_el int_el str_el ints_el Fits TxWf I64 SlOf SlN NsWf)
set_option linter.unusedVariables false
set_option maxRecDepth 100000

/-- A call of a log. -/
structure CallL where
  kind : Int
  s : List UInt8
  n : Int
  keep : List Int
structure CallWf (a : CallL) : Prop where
  s : a.s.length ≤ 140737488355328
  n : -9223372036854775808 ≤ a.n ∧ a.n ≤ 9223372036854775807
  keep : ∀ n ∈ a.keep, -9223372036854775808 ≤ n ∧ n ≤ 9223372036854775807
instance : Inhabited CallL := ⟨⟨0, [], 0, []⟩⟩
/-- One call as it lies in memory. -/
def CallIs (w : World) (B : Nat) (cs : List Value) (a : CallL) : Prop := ∃ kv, cs = [.int .i64 a.kind, .string (str a.s), .int .i64 a.n, kv] ∧ Kp0 w B kv a.keep ∧ CallWf a
/-- Calls in a slice that was there ahead. -/
def CallsAre (w : World) (B : Nat) (v : Value) (l : List CallL) : Prop :=
  ∃ a cap, v = .slice a l.length cap ∧ ∀ (j : Nat) (y : CallL), l[j]? = some y → ∃ b off cs, a = some ⟨b, off, none⟩ ∧ b < B ∧ CallIs w B cs y ∧ ∀ i u, cs[i]? = some u → w.cell? ⟨b, off + j * 4 + i, none⟩ = some u
theorem CallIs.below {w w' : World} {B : Nat} {cs : List Value} {a : CallL} (h : CallIs w B cs a) (hb : Below B w w') : CallIs w' B cs a := by
  obtain ⟨kv, e, h1, h2⟩ := h
  exact ⟨kv, e, h1.below hb, h2⟩
theorem CallsAre.below {w w' : World} {B : Nat} {v : Value} {l : List CallL} (h : CallsAre w B v l) (hb : Below B w w') : CallsAre w' B v l := by
  obtain ⟨a, cap, rfl, h1⟩ := h
  refine ⟨a, cap, rfl, fun j y hj => ?_⟩
  obtain ⟨b, off, cs, rfl, hlt, h2, h3⟩ := h1 j y hj
  exact ⟨b, off, cs, rfl, hlt, h2.below hb, fun i u hi => cell_same (hb.block b hlt) (h3 i u hi)⟩
theorem CallsAre.wide {w : World} {B B' : Nat} {v : Value} {l : List CallL} (h : CallsAre w B v l) (hb : B ≤ B') : CallsAre w B' v l := by
  obtain ⟨k, cap, hv, h2⟩ := h
  refine ⟨k, cap, hv, fun j u hj => ?_⟩
  obtain ⟨b, off, cs, e1, e2, ⟨kv, e, ⟨k', cap', hv', h1', h2'⟩, h3'⟩, e4⟩ := h2 j u hj
  exact ⟨b, off, cs, e1, Nat.lt_of_lt_of_le e2 hb, ⟨kv, e, ⟨k', cap', hv', h1', fun j u hj => by obtain ⟨b, off, e1, e2, e3⟩ := h2' j u hj; exact ⟨b, off, e1, Nat.lt_of_lt_of_le e2 hb, e3⟩⟩, h3'⟩, e4⟩
section
variable {H : Type} {enc : TypeId × Value → H} {W : World}
theorem keep_el {n : Nat} {c : Value} {z : DataW H × List MemPlace} (h : DataW.trod enc Tryz.prog W 0 (fun _ => true) true n 29 [c] = some z) (hb : Fits (P := Tryz.prog) 29 z.1) : ∃ l, Kp0 W W.heap.size c l ∧ ∀ k ∈ l, -9223372036854775808 ≤ k ∧ k ≤ 9223372036854775807 := by
  obtain ⟨l, hs, hw⟩ := ints_el h hb
  obtain ⟨a, cap, rfl, hc⟩ := hs
  rw [List.length_map] at h ⊢
  refine ⟨l, ⟨a, cap, rfl, ?_, fun j k hj => ?_⟩, hw.1⟩
  · rcases Go.Deep.open_slice Tryz.underlying29 h with ⟨hcs, _⟩ | ⟨a', len, cap', m, k, D, Pl, hcs, _, hl, hm, hmm, hz, hx⟩
    · simp only [List.cons.injEq, Value.slice.injEq, and_true] at hcs
      omega
    · simp only [List.cons.injEq, Value.slice.injEq, and_true] at hcs
      have hm' : m = cap' := by simpa using hmm
      omega
  · obtain ⟨b, off, rfl, h1⟩ := hc j (.int .i64 k) (by rw [List.getElem?_map, hj]; rfl)
    exact ⟨b, off, rfl, World.block_lt_of_cell? W _ h1, h1⟩
theorem call_el {n : Nat} {cs : List Value} {z : DataW H × List MemPlace} (h : DataW.trod enc Tryz.prog W 0 (fun _ => true) true n 49 cs = some z) (hb : Fits (P := Tryz.prog) 49 z.1) : ∃ g, CallIs W W.heap.size cs g := by
  obtain ⟨xs, k, _, hx, hcl, hxl, hg⟩ := DataW.trod_struct Tryz.underlying49 h
  have hcn : cs.length = 4 := hcl.trans (by kernel_rfl)
  obtain ⟨c0, c1, c2, c3, rfl⟩ : ∃ c0 c1 c2 c3, cs = [c0, c1, c2, c3] := by
    match cs, hcn with
    | [c0, c1, c2, c3], _ => exact ⟨c0, c1, c2, c3, rfl⟩
  obtain ⟨y0, y1, y2, y3, rfl⟩ : ∃ y0 y1 y2 y3, xs = [y0, y1, y2, y3] := by
    match xs, hxl with
    | [y0, y1, y2, y3], _ => exact ⟨y0, y1, y2, y3, rfl⟩
  subst hx
  have hf : ∀ m ∈ DataW.weightsEach Tryz.prog [3, 9, 3, 29] [y0.1, y1.1, y2.1, y3.1], m ≤ reachBytes := fun m hm => hb m (by
    unfold DataW.weights
    rw [Tryz.underlying49]
    exact hm)
  have t0 : DataW.trod enc Tryz.prog W 0 (fun _ => true) true k 3 [c0] = some y0 := hg 0 _ rfl
  have t1 : DataW.trod enc Tryz.prog W 0 (fun _ => true) true k 9 [c1] = some y1 := hg 1 _ rfl
  have b1 : Fits (P := Tryz.prog) 9 y1.1 := fun m hm => hf m (DataW.weights_mem_each (j := 1) (t := 9) rfl rfl m hm)
  have t2 : DataW.trod enc Tryz.prog W 0 (fun _ => true) true k 3 [c2] = some y2 := hg 2 _ rfl
  have t3 : DataW.trod enc Tryz.prog W 0 (fun _ => true) true k 29 [c3] = some y3 := hg 3 _ rfl
  have b3 : Fits (P := Tryz.prog) 29 y3.1 := fun m hm => hf m (DataW.weights_mem_each (j := 3) (t := 29) rfl rfl m hm)
  obtain ⟨x0, rfl, h0⟩ := int_el t0
  obtain ⟨s1, rfl, h1⟩ := str_el t1 b1
  obtain ⟨x2, rfl, h2⟩ := int_el t2
  obtain ⟨l, h3, h4⟩ := keep_el t3 b3
  exact ⟨⟨x0, s1, x2, l⟩, c3, rfl, h3, ⟨h1, h2, h4⟩⟩
theorem calls_el {n : Nat} {c : Value} {z : DataW H × List MemPlace} (h : DataW.trod enc Tryz.prog W 0 (fun _ => true) true n 28 [c] = some z) (hb : Fits (P := Tryz.prog) 28 z.1) : ∃ l, CallsAre W W.heap.size c l := by
  obtain ⟨l, ⟨a, cap, rfl, hc⟩, h2, h3⟩ := list_el (X := CallL) (k := 4) (Q := CallIs W W.heap.size) (R := fun _ => True) Tryz.underlying28 (by kernel_rfl) (by decide) (by rw [show Tryz.prog.bytesOf 49 = 56 by kernel_rfl]; decide) (fun n cs z h hb => by
    obtain ⟨g, hg⟩ := call_el h hb
    exact ⟨g, hg, trivial⟩) h hb
  refine ⟨l, a, cap, rfl, fun j y hj => ?_⟩
  obtain ⟨b, off, rfl, cs, hl, hq, hcell⟩ := hc j y hj
  refine ⟨b, off, cs, rfl, ?_, hq, hcell⟩
  obtain ⟨u, hu⟩ : ∃ u, cs[0]? = some u := ⟨_, List.getElem?_eq_getElem (by omega)⟩
  exact World.block_lt_of_cell? W _ (hcell 0 u hu)
end
end Go.Proofs.YtelcemfaijjcbaaGreatDoor.C13
