/-
  Layer 11, the document's answers: whether two lists of commands, of entries are the same (told for any two).
-/
import Derived.Test.YtaidhoepnefcpaaGreatBP11SameD
namespace Go.Proofs.YtaidhoepnefcpaaGreat.C10
open Go Go.RowKit Go.Proofs B K P8
set_option linter.unusedVariables false
set_option maxRecDepth 100000
def CmIs (w : World) (cs : List Value) (c : Cm) : Prop := ∃ v, cs = [.int .i64 c.client, .int .i64 c.seq, .string (str c.stream), .int .i64 c.rule, v, .int .i64 c.expect] /\ SlN w v c.args
def CmsIs (w : World) (v : Value) (l : List Cm) : Prop := SlOf w 6 (CmIs w) v l
theorem CmIs.below {w w' : World} {cs : List Value} {c : Cm} (h : CmIs w cs c) (hb : Below w.heap.size w w') : CmIs w' cs c := by
 obtain ⟨v, rfl, h⟩ := h; exact ⟨v, rfl, h.below hb⟩
theorem CmsIs.below {w w' : World} {v : Value} {l : List Cm} (h : CmsIs w v l) (hb : Below w.heap.size w w') : CmsIs w' v l := SlOf.below h hb fun _ _ q => q.below hb
structure En where
 index : Int
 stream : List UInt8
 events : List Ev
 seq : Int
 code : Int
def EnIs (w : World) (cs : List Value) (e : En) : Prop := ∃ v, cs = [.int .i64 e.index, .string (str e.stream), v, .int .i64 e.seq, .int .i64 e.code] /\ EvsIs w v e.events
def EnsIs (w : World) (v : Value) (l : List En) : Prop := SlOf w 5 (EnIs w) v l
theorem EnIs.below {w w' : World} {cs : List Value} {c : En} (h : EnIs w cs c) (hb : Below w.heap.size w w') : EnIs w' cs c := by
 obtain ⟨v, rfl, h⟩ := h; exact ⟨v, rfl, h.below hb⟩
theorem EnsIs.below {w w' : World} {v : Value} {l : List En} (h : EnsIs w v l) (hb : Below w.heap.size w w') : EnsIs w' v l := SlOf.below h hb fun _ _ q => q.below hb
end Go.Proofs.YtaidhoepnefcpaaGreat.C10
