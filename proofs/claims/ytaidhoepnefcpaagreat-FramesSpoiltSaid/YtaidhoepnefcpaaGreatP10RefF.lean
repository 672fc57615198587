/-
  Layer 10, the document's answers: which lists of items and of verdicts may be laid.
-/
import Derived.Test.YtaidhoepnefcpaaGreatP10RefE
namespace Go.Proofs.YtaidhoepnefcpaaGreat.C10
open Go Go.RowKit Go.Proofs B K P8
set_option linter.unusedVariables false
set_option maxRecDepth 100000
structure Wd (S : World -> Prop) where
 val : World
 ok : S val
theorem wp_region_quiet_wd {P : Program} {S : World -> Prop} {id : Nat} {Q : Exit -> Act -> World -> Prop} {a : Act} {w : World} {l : List Oper} (hm : P.follows .mixedOrders = true) (hB : Region.lexB .any l.toArray = true) (hS : S w.drew)
 (h : wpQuiet P l.toArray (fun w' => ∃ x : Wd S, w' = x.val) (fun a' => ∀ w', (∃ x : Wd S, w' = x.val) -> Q .normal a' w') l a) : (Code.region id l.toArray true).wp P Q a w :=
 wp_region_quiet (C := fun w' => ∃ x : Wd S, w' = x.val) hm hB ⟨⟨_, hS⟩, rfl⟩ (by simpa using h)
theorem wd_call {P : Program} {S : World -> Prop} {f : FuncId} {args : Array Value} {v : Value} (h : ∀ W, S W -> Calls P f args W fun e w' => e = .returned v /\ S w') (x : Wd S) : Calls P f args x.val fun e w' => e = .returned v /\ ∃ y : Wd S, w' = y.val :=
 (h x.val x.ok).mono fun _ w' ⟨h1, h2⟩ => ⟨h1, ⟨w', h2⟩, rfl⟩
end Go.Proofs.YtaidhoepnefcpaaGreat.C10
