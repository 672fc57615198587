/-
  Layer 10, the document's answers: the bytes of items, verdicts and filters.
-/
import Derived.Test.YtaidhoepnefcpaaGreatP10RefD
namespace Go.Proofs.YtaidhoepnefcpaaGreat.C10
open Go Go.RowKit Go.Proofs B K P8
set_option linter.unusedVariables false
set_option maxRecDepth 100000
theorem layVd_len (x : Vd) (h : VdWf x) : (layVd x).length <= 20 := by
 have e2 := numsL_len [x.seq, x.code] (by intro y hy; simp at hy; rcases hy with rfl | rfl; exact h.1; exact h.2);exact e2
end Go.Proofs.YtaidhoepnefcpaaGreat.C10
