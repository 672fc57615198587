/-
  DERIVED. GIVEN WITH THE SEED: THE CARDS: each row of YtfooiggedgcjcaaGreatDoorRows.lean that lists a variable, with what it lists TIED to the program's text (the seventh form; the later family's looks); each row that meets fmt, with fmt's text TOLD by the authors' own Lean function (tested against real Go, not proved from fmt's source: count such statements apart). THE CARD IS WHAT COUNTS. Prove the row's statement (the work); the ties are given (YtfooiggedgcjcaaGreatDoorTie.lean); close each card by the builder's one call (the guide's Derived/Test/ToyasCard.lean, 'card_holds'). Laid BY PROGRAM, IN A SANDBOX (cutbox-door.mjs). By AI agents, Wed Nov 11 2026. No macro, syntax, notation, axiom, sorry.
-/
import Derived.Test.YtfooiggedgcjcaaGreatDoorRows
import GoSem.ClaimSeven
namespace Go.Proofs.YtfooiggedgcjcaaGreatDoor
namespace Rows

/-- THE TIED CARD OF 'surmiselaw06.TabularAgain'. -/
def tabularAgainCard : Claim7 := { stood := { row := tabularAgainRow, standIns := [], harness := (true, "9cb33d44400489b7d44b240361d6b7b97b40e8481db097ffbfda58264a272c0c"), looks := true }, kinds := [], alts := [], laidByText := true, laidKinds := [.data, .data, .data, .data, .sentinel, .sentinel, .data, .pinned], laidTests := true, laidLooks := .later }
def TabularAgainCardSaid : Prop := Claim7.holds Tryz.pinned (.plain (OpenSpec.ofChange tabularAgainSpec)) tabularAgainCard

/-- THE SECOND FORM's CARD OF 'surmiselaw06.TabularAgain'. -/
def tabularAgainUptoCard : Claim7 := { stood := { row := tabularAgainUptoRow, standIns := [], harness := (true, "9cb33d44400489b7d44b240361d6b7b97b40e8481db097ffbfda58264a272c0c"), looks := true }, kinds := [], alts := [], laidByText := true, laidKinds := [.data, .data, .data, .data, .sentinel, .sentinel, .data, .pinned], laidTests := true, laidLooks := .later }
def TabularAgainUptoCardSaid : Prop := Claim7.holds Tryz.pinned (.plain (OpenSpec.upto tabularAgainSpec)) tabularAgainUptoCard
end Rows
end Go.Proofs.YtfooiggedgcjcaaGreatDoor
