/-
  What is asked of the program's package expr, call by call (contracts; they are proved elsewhere).
-/
import Derived.Test.YtaiogcmbpalbpaaKBase
import Derived.Test.YtaiogcmbpalbpaaKIns
import Derived.Test.YtaiogcmbpalbpaaEFold
namespace Go.Proofs.Ytaiogcmbpalbpaa.E
open Go Go.RowKit Go.Proofs.Ytaiogcmbpalbpaa.B Go.Proofs.Ytaiogcmbpalbpaa.K
set_option linter.unusedVariables false

/-- A number of Go's int. -/
def I64 (x : Int) : Prop := -9223372036854775808 ≤ x ∧ x ≤ 9223372036854775807

structure Contracts : Prop where
  check_ : ∀ (code : List In) (v : Value) (nv na : Int) (w : World), SlI w v code → (∀ i ∈ code, I64 i.1 ∧ I64 i.2) → code.length ≤ 9223372036854775807 → I64 nv → I64 na →
    Calls Try.prog 8 #[v, .int .i64 nv, .int .i64 na] w fun e w' => e = .returned (.tuple #[.int .i64 (check code nv na).1, .int .i64 (check code nv na).2]) ∧ Below w.heap.size w w'
  eval_ : ∀ (code : List In) (vs ar : List Int) (v v1 v2 : Value) (w : World), SlI w v code → Sl w v1 (vs.map (Value.int .i64)) → Sl w v2 (ar.map (Value.int .i64)) → (∀ i ∈ code, I64 i.1 ∧ I64 i.2) → (∀ x ∈ vs, I64 x) → (∀ x ∈ ar, I64 x) →
    code.length ≤ 9223372036854775807 → vs.length ≤ 9223372036854775807 → ar.length ≤ 9223372036854775807 →
    Calls Try.prog 11 #[v, v1, v2] w fun e w' => e = .returned (.tuple #[.int .i64 (eval code vs ar).1, .int .i64 (eval code vs ar).2]) ∧ Below w.heap.size w w'
  fold_ : ∃ B : Int, 0 ≤ B ∧ ∀ (code : List In) (v : Value) (w : World), SlI w v code → (∀ i ∈ code, I64 i.1 ∧ I64 i.2) → code.length * 16 ≤ 140737488351232 →
    Calls Try.prog 13 #[v] w fun e w' => (∃ v', e = .returned v' ∧ SlI w' v' (fold B code)) ∧ Below w.heap.size w w'
  uses_ : ∀ (code : List In) (v : Value) (w : World), SlI w v code → (∀ i ∈ code, I64 i.1 ∧ I64 i.2) → code.length ≤ 9223372036854775807 →
    Calls Try.prog 15 #[v] w fun e w' => (∃ u1 u2, e = .returned (.tuple #[u1, u2]) ∧ Sl w' u1 ((uses 2 6 code).map Value.bool) ∧ Sl w' u2 ((uses 3 4 code).map Value.bool)) ∧ Below w.heap.size w w'
  depth_ : ∀ (code : List In) (v : Value) (w : World), SlI w v code → (∀ i ∈ code, I64 i.1 ∧ I64 i.2) → code.length ≤ 9223372036854775807 →
    Calls Try.prog 18 #[v] w fun e w' => e = .returned (.int .i64 (depth code 0 0)) ∧ Below w.heap.size w w'
end Go.Proofs.Ytaiogcmbpalbpaa.E
