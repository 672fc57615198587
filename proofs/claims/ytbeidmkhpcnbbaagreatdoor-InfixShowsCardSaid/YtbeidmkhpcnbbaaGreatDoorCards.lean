/-
  DERIVED. GIVEN WITH THE SEED: THE CARDS: each row of YtbeidmkhpcnbbaaGreatDoorRows.lean that lists a variable, with what it lists TIED to the program's text (the seventh form; the later family's looks); each row that meets fmt, with fmt's text TOLD by the authors' own Lean function (tested against real Go, not proved from fmt's source: count such statements apart). THE CARD IS WHAT COUNTS. Prove the row's statement (the work); the ties are given (YtbeidmkhpcnbbaaGreatDoorTie.lean); close each card by the builder's one call (the guide's Derived/Test/ToyasCard.lean, 'card_holds'). Laid BY PROGRAM, IN A SANDBOX (cutbox-door.mjs). By AI agents, Wed Nov 11 2026. No macro, syntax, notation, axiom, sorry.
-/
import Derived.Test.YtbeidmkhpcnbbaaGreatDoorRows
import GoSem.ClaimSeven
namespace Go.Proofs.YtbeidmkhpcnbbaaGreatDoor
namespace Rows

/-- THE TIED CARD OF 'surmiselaw04.InfixShows'. -/
def infixShowsCard : Claim7 := { stood := { row := infixShowsRow, standIns := [], harness := (true, "bbd780181d53b906a1836d3718fb938a95166ca5c4fdaf0929b08d86889961f5"), looks := true }, kinds := [], alts := [], laidByText := true, laidKinds := [.data, .data, .data, .sentinel, .sentinel, .data], laidTests := true, laidLooks := .later }
def InfixShowsCardSaid : Prop := Claim7.holds Tryz.pinned (.plain (OpenSpec.ofChange infixShowsSpec)) infixShowsCard

/-- THE SECOND FORM's CARD OF 'surmiselaw04.InfixShows'. -/
def infixShowsUptoCard : Claim7 := { stood := { row := infixShowsUptoRow, standIns := [], harness := (true, "bbd780181d53b906a1836d3718fb938a95166ca5c4fdaf0929b08d86889961f5"), looks := true }, kinds := [], alts := [], laidByText := true, laidKinds := [.data, .data, .data, .sentinel, .sentinel, .data], laidTests := true, laidLooks := .later }
def InfixShowsUptoCardSaid : Prop := Claim7.holds Tryz.pinned (.plain (OpenSpec.upto infixShowsSpec)) infixShowsUptoCard
end Rows
end Go.Proofs.YtbeidmkhpcnbbaaGreatDoor
