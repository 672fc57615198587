/-
  The program's package expr keeps all five contracts.
-/
import Derived.Test.YtaiogcmbpalbpaaECon
import Derived.Test.YtaiogcmbpalbpaaEPFold2
import Derived.Test.YtaiogcmbpalbpaaEPUses2
import Derived.Test.YtaiogcmbpalbpaaEPDepth
namespace Go.Proofs.Ytaiogcmbpalbpaa.E
open Go Go.RowKit Go.Proofs.Ytaiogcmbpalbpaa.B Go.Proofs.Ytaiogcmbpalbpaa.K

theorem contracts : Contracts where
  check_ code v nv na w hs _ hl _ _ := check_any code v nv na w hs hl
  eval_ code vs ar v v1 v2 w hs hs1 hs2 _ _ _ hl hl1 hl2 := eval_any code vs ar v v1 v2 w hs hs1 hs2 hl hl1 hl2
  fold_ := ⟨most, by decide, fun code v w hs _ hr => fold_any code v w hs hr⟩
  uses_ code v w hs _ hl := uses_any code v w hs hl
  depth_ code v w hs _ hl := depth_any code v w hs hl
end Go.Proofs.Ytaiogcmbpalbpaa.E
