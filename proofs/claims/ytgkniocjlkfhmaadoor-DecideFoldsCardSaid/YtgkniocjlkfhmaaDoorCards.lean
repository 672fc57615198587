/-
  DERIVED. GIVEN WITH THE SEED: THE CARDS: each row of YtgkniocjlkfhmaaDoorRows.lean that lists a variable, with what it lists TIED to the program's text (the seventh form; the later family's looks); each row that meets fmt, with fmt's text TOLD by the authors' own Lean function (tested against real Go, not proved from fmt's source: count such statements apart). THE CARD IS WHAT COUNTS. Prove the row's statement (the work); the ties are given (YtgkniocjlkfhmaaDoorTie.lean); close each card by the builder's one call (the guide's Derived/Test/ToyasCard.lean, 'card_holds'). Laid BY PROGRAM, IN A SANDBOX (cutbox-door.mjs). By AI agents, Wed Nov 11 2026. No macro, syntax, notation, axiom, sorry.
-/
import Derived.Test.YtgkniocjlkfhmaaDoorRows
import GoSem.ClaimSeven
namespace Go.Proofs.YtgkniocjlkfhmaaDoor
namespace Rows

/-- THE TIED CARD OF 'surmiselaw07.DecideFolds'. -/
def decideFoldsCard : Claim7 := { stood := { row := decideFoldsRow, standIns := [], harness := (true, "cb8bb8b478eec4993c46103795054eba726082111c794aeffbbc8ff85c3a819f"), looks := false }, kinds := [], alts := [], laidByText := true, laidKinds := [.data], laidTests := true, laidLooks := .later }
def DecideFoldsCardSaid : Prop := Claim7.holds Tryd.pinned (.plain (OpenSpec.ofChange decideFoldsSpec)) decideFoldsCard

/-- THE SECOND FORM's CARD OF 'surmiselaw07.DecideFolds'. -/
def decideFoldsUptoCard : Claim7 := { stood := { row := decideFoldsUptoRow, standIns := [], harness := (true, "cb8bb8b478eec4993c46103795054eba726082111c794aeffbbc8ff85c3a819f"), looks := false }, kinds := [], alts := [], laidByText := true, laidKinds := [.data], laidTests := true, laidLooks := .later }
def DecideFoldsUptoCardSaid : Prop := Claim7.holds Tryd.pinned (.plain (OpenSpec.upto decideFoldsSpec)) decideFoldsUptoCard
end Rows
end Go.Proofs.YtgkniocjlkfhmaaDoor
