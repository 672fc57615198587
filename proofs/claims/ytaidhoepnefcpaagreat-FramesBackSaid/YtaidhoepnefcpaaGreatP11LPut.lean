/-
  Layer 11, the law FramesPut: its walk.
-/
import Derived.Test.YtaidhoepnefcpaaGreatP11Len
namespace Go.Proofs.YtaidhoepnefcpaaGreat.C10
open Go Go.RowKit Go.Proofs B K P8
set_option linter.unusedVariables false
set_option maxRecDepth 100000
structure Sea : Prop where
 sl : ∀ (s : List UInt8) (w : World), s.length <= 70368744177664 -> Calls Tryz.prog 11 #[.string (str s)] w fun e w' => e = .returned (.string (str (C.sealed s))) /\ Below w.heap.size w w'
theorem putS_f (t : List UInt8) : putS11 false t = [] := rfl
theorem putS_t (t : List UInt8) : putS11 true t = t := rfl
theorem putE_f : putE11 false = 2 := rfl
theorem putE_t : putE11 true = 0 := rfl
theorem tl_refl (a : List UInt8) : ((str a).toList == (str a).toList) = true := by simp
end Go.Proofs.YtaidhoepnefcpaaGreat.C10
