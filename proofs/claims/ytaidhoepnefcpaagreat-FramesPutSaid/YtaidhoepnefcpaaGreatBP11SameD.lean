/-
  Layer 11, the document's answers: whether two lists of events, of items are the same (told for any two).
-/
import Derived.Test.YtaidhoepnefcpaaGreatBP11SameC
namespace Go.Proofs.YtaidhoepnefcpaaGreat.C10
open Go Go.RowKit Go.Proofs B K P8
set_option linter.unusedVariables false
set_option maxRecDepth 100000
end Go.Proofs.YtaidhoepnefcpaaGreat.C10
