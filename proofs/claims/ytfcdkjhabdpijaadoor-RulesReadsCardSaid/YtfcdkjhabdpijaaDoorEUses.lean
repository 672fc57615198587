/-
  Contract of the reference of layer 3: Uses.
-/
import Derived.Test.YtfcdkjhabdpijaaDoorEVal
import Derived.Test.YtfcdkjhabdpijaaDoorKIns
namespace Go.Proofs.YtfcdkjhabdpijaaDoor.E
open Go Go.RowKit Go.Proofs.YtfcdkjhabdpijaaDoor.B Go.Proofs.YtfcdkjhabdpijaaDoor.K
set_option linter.unusedVariables false

theorem usesTop_at (o most : Int) (code : List In) (k : Nat) (i : In) (h : code[k]? = some i) (t : Int) :
    usesTop o most (code.drop k) t = usesTop o most (code.drop (k + 1)) (if i.1 = o ∧ 0 ≤ i.2 ∧ i.2 < most then max t i.2 else t) := by
  obtain ⟨hk, e⟩ := List.getElem?_eq_some_iff.1 h
  rw [List.drop_eq_getElem_cons hk, e]
  rfl

/-- Is a name named? -/
def named (o n : Int) (i : In) : Bool := decide (i.1 = o ∧ i.2 = n)

theorem any_at (p : In → Bool) (code : List In) (k : Nat) (i : In) (h : code[k]? = some i) : (code.take (k + 1)).any p = ((code.take k).any p || p i) := by
  rw [List.take_add_one, h, List.any_append]
  simp

theorem Tryd.info4 : (Tryd.prog.info? 4).map (fun i => (i.zero, i.size, i.bytes)) = some (some (.bool false), 1, 1) := by kernel_rfl

/-- The first names of those that are told. -/
def usesTo (o : Int) (code : List In) (k : Nat) : List Bool := (List.range k).map fun (n : Nat) => code.any (named o n)

theorem usesTo_succ (o : Int) (code : List In) (k : Nat) : usesTo o code (k + 1) = usesTo o code k ++ [code.any (named o k)] := by
  unfold usesTo; rw [List.range_succ, List.map_append]; rfl
theorem uses_eq (o most : Int) (code : List In) (k : Nat) (h : usesTop o most code (-1) + 1 = (k : Int)) : uses o most code = usesTo o code k := by
  unfold uses usesTo named; rw [h, Int.toNat_natCast]
theorem usesTo_length (o : Int) (code : List In) (k : Nat) : (usesTo o code k).length = k := by simp [usesTo]

theorem one_newb (w : World) (b : Bool) (e : TypeId) : ∀ (j : Nat) (u : Value), [Value.bool b][j]? = some u → (w.alloc (.cells #[.bool b] e)).cell? ((⟨w.heap.size, 0, none⟩ : Addr).add j) = some u := one_new w (.bool b) e
theorem one_cellb (b : Bool) : ∀ u ∈ [Value.bool b], u.oneCell' = true := by intro u hu; simp at hu; subst hu; rfl
end Go.Proofs.YtfcdkjhabdpijaaDoor.E
