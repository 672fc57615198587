/-
  Layer 12, the program: Rename's own function, and Rename.
-/
import Derived.Test.YtelcemfaijjcbaaGreatDoorHP12Pp
namespace Go.Proofs.YtelcemfaijjcbaaGreatDoor.C12
open Go Go.RowKit Go.Proofs Go.Proofs.YtelcemfaijjcbaaGreatDoor.B Go.Proofs.YtelcemfaijjcbaaGreatDoor.K Go.Proofs.YtelcemfaijjcbaaGreatDoor.P8
set_option linter.unusedVariables false
set_option maxRecDepth 100000

section
variable {w : World} {F : Nat → Prop} {d M n : Nat} {Dm : DataW Nat} {g : List UInt8 → Nat} {bv : List UInt8 → Value} {D : Dst}

/-- A file under its new name. -/
theorem ren_end {w1 w2 w3 : World} {f : Fl} {t : List UInt8} {n1 n' : Nat} {D1 : Dst} {Dm1 : DataW Nat} (h : PIn w F d M n Dm g bv D) (hf : f ∈ D.files) (hm : f.more = []) (ht : t.length ≤ 24) (hD1 : D1 = { D with files := dropF D.files f.name }) (h1 : PIn w1 F d M n1 Dm1 g bv D1) (hfile : w1.heap[g f.name]? = w.heap[g f.name]? ∧ ∀ q, bufB (bv f.name) = some q → w1.heap[q]? = w.heap[q]?)
    (hs1 : w.heap.size ≤ w1.heap.size) (hb : Below w1.heap.size w1 w2) (ho : w3.ownsMap Tryz.prog 9 fileE M n' (Dm1.put (.string t) (.lit (.int .i64 (g f.name : Int))))) (hg : w2.grownBy w3 (some M)) :
    PIn w3 F d M n' (Dm1.put (.string t) (.lit (.int .i64 (g f.name : Int)))) (fun x => if x = t then g f.name else g x) (fun x => if x = t then bv f.name else bv x) (putF D1 ⟨t, f.safe, []⟩) ∧ Chg F F w1 w3 := by
  have hMl := h1.lt _ h1.ownM
  have fo := h.own f hf
  obtain ⟨k1, k2, k3, k4⟩ := h.gd hf
  have hk : ∀ i, i < w1.heap.size → i ≠ M → w3.heap[i]? = w1.heap[i]? := fun i hi hne => (hg.block i (Nat.lt_of_lt_of_le hi hb.size) (fun e => hne (Option.some.inj e))).trans (hb.block i hi)
  have fat := h.each f hf
  have fat3 : FAt w3 (g f.name) (bv f.name) ⟨t, f.safe, []⟩ := by
    have := fat.same (w' := w3) ((hk _ (h1.lt _ fo.1) k2).trans hfile.1) fun q hq => (hk q (h1.lt _ (fo.2 q hq)) (k3 q hq).2).trans (hfile.2 q hq)
    refine ⟨this.cell, ?_⟩
    have hb := this.buf
    rw [hm] at hb
    exact hb
  refine ⟨PIn.put (f := ⟨t, f.safe, []⟩) (v := bv f.name) h1 (by show t.length ≤ maxLen; unfold maxLen; omega) (fun x => mem_set) ⟨rfl, rfl, rfl⟩ (by rw [hD1]; exact h.fine.rename hf hm ht) (Nat.le_trans hb.size hg.size) (fun i hi hne => hk i (h1.lt i hi) hne) ho fat3 (fun x hx hne => ?_) (fun i hi => hi) fo.1 fo.2 (fun i hi => Nat.lt_of_lt_of_le (h1.lt i hi) (Nat.le_trans hb.size hg.size)), ⟨⟨hg.os.trans hb.os, hg.tape.trans hb.tape, hg.output.trans hb.output, Nat.le_trans hb.size hg.size, fun i hi hne => hk i hi (fun e => hne (e ▸ h1.ownM))⟩, fun i hi => Or.inl hi⟩⟩
  rw [hD1] at hx
  obtain ⟨hx', hxn⟩ := mem_drop.1 hx
  have := h.apart f hf x hx' (Ne.symm hxn)
  exact ⟨Ne.symm this.1, this.2⟩

end
end Go.Proofs.YtelcemfaijjcbaaGreatDoor.C12
