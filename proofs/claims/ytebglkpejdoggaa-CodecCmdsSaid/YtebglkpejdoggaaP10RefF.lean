/-
  Layer 10, the document's answers: which lists of items and of verdicts may be laid.
-/
import Derived.Test.YtebglkpejdoggaaP10RefE
import Derived.BigQuiet
namespace Go.Proofs.Ytebglkpejdoggaa.C10
open Go Go.RowKit Go.Proofs Go.Proofs.Ytebglkpejdoggaa.B Go.Proofs.Ytebglkpejdoggaa.K Go.Proofs.Ytebglkpejdoggaa.P8
set_option linter.unusedVariables false
set_option maxRecDepth 100000

/-- A world of a class. -/
structure Wd (S : World → Prop) where
  val : World
  ok : S val
theorem wp_region_quiet_wd {P : Program} {S : World → Prop} {id : Nat} {Q : Exit → Act → World → Prop} {a : Act} {w : World} {l : List Oper} (hm : P.follows .mixedOrders = true) (hB : Region.lexB .any l.toArray = true) (hS : S w.drew)
    (h : wpQuiet P l.toArray (fun w' => ∃ x : Wd S, w' = x.val) (fun a' => ∀ w', (∃ x : Wd S, w' = x.val) → Q .normal a' w') l a) : (Code.region id l.toArray true).wp P Q a w :=
  wp_region_quiet (C := fun w' => ∃ x : Wd S, w' = x.val) hm hB ⟨⟨_, hS⟩, rfl⟩ (by simpa using h)
theorem wd_call {P : Program} {S : World → Prop} {f : FuncId} {args : Array Value} {v : Value} (h : ∀ W, S W → Calls P f args W fun e w' => e = .returned v ∧ S w') (x : Wd S) : Calls P f args x.val fun e w' => e = .returned v ∧ ∃ y : Wd S, w' = y.val :=
  (h x.val x.ok).mono fun _ w' ⟨h1, h2⟩ => ⟨h1, ⟨w', h2⟩, rfl⟩
theorem vdsGo_drop {l m : List Vd} {x : Vd} {K : Nat} (h : m[K]? = some x) : vdsGo l K (m.drop K) = (vdP l K x && vdsGo l (K + 1) (m.drop (K + 1))) := by
  obtain ⟨hlt, rfl⟩ := List.getElem?_eq_some_iff.1 h
  rw [List.drop_eq_getElem_cons hlt, vdsGo]
theorem itemsGo_drop {l m : List It} {x : It} {K : Nat} (h : m[K]? = some x) : itemsGo l K (m.drop K) = (itP l K x && itemsGo l (K + 1) (m.drop (K + 1))) := by
  obtain ⟨hlt, rfl⟩ := List.getElem?_eq_some_iff.1 h
  rw [List.drop_eq_getElem_cons hlt, itemsGo]

end Go.Proofs.Ytebglkpejdoggaa.C10
