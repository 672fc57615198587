/-
  What is asked of the program's package check, call by call (contracts; they are proved elsewhere).
-/
import Derived.Test.YtlfkbdfaacpjeaaKBase
import Derived.Test.YtlfkbdfaacpjeaaCSpec
namespace Go.Proofs.Ytlfkbdfaacpjeaa.C
open Go Go.RowKit Go.Proofs.Ytlfkbdfaacpjeaa.B Go.Proofs.Ytlfkbdfaacpjeaa.K

structure Contracts : Prop where
  sum : ∀ (l : List UInt8) (w : World), l.length ≤ 70368744177660 →
    Calls Try.prog 13 #[.string (str l)] w fun e w' => e = .returned (.int .u32 (sum l : Nat)) ∧ Below w.heap.size w w'
  more : ∀ (x : Nat) (l : List UInt8) (w : World), x < 4294967296 → l.length ≤ 70368744177660 →
    Calls Try.prog 17 #[.int .u32 (x : Int), .string (str l)] w fun e w' => e = .returned (.int .u32 (more x l : Nat)) ∧ Below w.heap.size w w'
  join : ∀ (a b : Nat) (n : Int) (w : World), a < 4294967296 → b < 4294967296 → -9223372036854775808 ≤ n → n ≤ 9223372036854775807 →
    Calls Try.prog 19 #[.int .u32 (a : Int), .int .u32 (b : Int), .int .i64 n] w fun e w' => e = .returned (.tuple #[.int .u32 ((joinOf a b n).1 : Nat), .int .i64 (joinOf a b n).2]) ∧ Below w.heap.size w w'
  seal_ : ∀ (l : List UInt8) (w : World), l.length ≤ 70368744177660 →
    Calls Try.prog 15 #[.string (str l)] w fun e w' => e = .returned (.string (str (sealed l))) ∧ Below w.heap.size w w'
  open_ : ∀ (l : List UInt8) (w : World), l.length ≤ 70368744177660 →
    Calls Try.prog 10 #[.string (str l)] w fun e w' => e = .returned (.tuple #[.string (str (openOf l).1), .int .i64 (openOf l).2]) ∧ Below w.heap.size w w'
end Go.Proofs.Ytlfkbdfaacpjeaa.C
