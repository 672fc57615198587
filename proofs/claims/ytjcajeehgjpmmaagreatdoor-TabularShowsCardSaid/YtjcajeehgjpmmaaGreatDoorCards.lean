/-
  DERIVED. GIVEN WITH THE SEED: THE CARDS: each row of YtjcajeehgjpmmaaGreatDoorRows.lean that lists a variable, with what it lists TIED to the program's text (the seventh form; the later family's looks); each row that meets fmt, with fmt's text TOLD by the authors' own Lean function (tested against real Go, not proved from fmt's source: count such statements apart). THE CARD IS WHAT COUNTS. Prove the row's statement (the work); the ties are given (YtjcajeehgjpmmaaGreatDoorTie.lean); close each card by the builder's one call (the guide's Derived/Test/ToyasCard.lean, 'card_holds'). Laid BY PROGRAM, IN A SANDBOX (cutbox-door.mjs). By AI agents, Wed Nov 11 2026. No macro, syntax, notation, axiom, sorry.
-/
import Derived.Test.YtjcajeehgjpmmaaGreatDoorRows
import GoSem.ClaimSeven
namespace Go.Proofs.YtjcajeehgjpmmaaGreatDoor
namespace Rows

/-- THE TIED CARD OF 'surmiselaw06.TabularShows'. -/
def tabularShowsCard : Claim7 := { stood := { row := tabularShowsRow, standIns := [], harness := (true, "d481926da9a22cc908d6a62c9a0bce64e998bb22f78be8055d5b30662066fd36"), looks := true }, kinds := [], alts := [], laidByText := true, laidKinds := [.data, .data, .data, .data, .sentinel, .sentinel, .data, .pinned], laidTests := true, laidLooks := .later }
def TabularShowsCardSaid : Prop := Claim7.holds Tryz.pinned (.plain (OpenSpec.ofChange tabularShowsSpec)) tabularShowsCard

/-- THE TIED CARD OF 'surmiselaw06.TabularBack'. -/
def tabularBackCard : Claim7 := { stood := { row := tabularBackRow, standIns := [], harness := (true, "d481926da9a22cc908d6a62c9a0bce64e998bb22f78be8055d5b30662066fd36"), looks := true }, kinds := [], alts := [], laidByText := true, laidKinds := [.data, .data, .data, .data, .sentinel, .sentinel, .data, .pinned], laidTests := true, laidLooks := .later }
def TabularBackCardSaid : Prop := Claim7.holds Tryz.pinned (.plain (OpenSpec.ofChange tabularBackSpec)) tabularBackCard

/-- THE TIED CARD OF 'surmiselaw06.TabularAgain'. -/
def tabularAgainCard : Claim7 := { stood := { row := tabularAgainRow, standIns := [], harness := (true, "d481926da9a22cc908d6a62c9a0bce64e998bb22f78be8055d5b30662066fd36"), looks := true }, kinds := [], alts := [], laidByText := true, laidKinds := [.data, .data, .data, .data, .sentinel, .sentinel, .data, .pinned], laidTests := true, laidLooks := .later }
def TabularAgainCardSaid : Prop := Claim7.holds Tryz.pinned (.plain (OpenSpec.ofChange tabularAgainSpec)) tabularAgainCard

/-- THE SECOND FORM's CARD OF 'surmiselaw06.TabularShows'. -/
def tabularShowsUptoCard : Claim7 := { stood := { row := tabularShowsUptoRow, standIns := [], harness := (true, "d481926da9a22cc908d6a62c9a0bce64e998bb22f78be8055d5b30662066fd36"), looks := true }, kinds := [], alts := [], laidByText := true, laidKinds := [.data, .data, .data, .data, .sentinel, .sentinel, .data, .pinned], laidTests := true, laidLooks := .later }
def TabularShowsUptoCardSaid : Prop := Claim7.holds Tryz.pinned (.plain (OpenSpec.upto tabularShowsSpec)) tabularShowsUptoCard

/-- THE SECOND FORM's CARD OF 'surmiselaw06.TabularBack'. -/
def tabularBackUptoCard : Claim7 := { stood := { row := tabularBackUptoRow, standIns := [], harness := (true, "d481926da9a22cc908d6a62c9a0bce64e998bb22f78be8055d5b30662066fd36"), looks := true }, kinds := [], alts := [], laidByText := true, laidKinds := [.data, .data, .data, .data, .sentinel, .sentinel, .data, .pinned], laidTests := true, laidLooks := .later }
def TabularBackUptoCardSaid : Prop := Claim7.holds Tryz.pinned (.plain (OpenSpec.upto tabularBackSpec)) tabularBackUptoCard

/-- THE SECOND FORM's CARD OF 'surmiselaw06.TabularAgain'. -/
def tabularAgainUptoCard : Claim7 := { stood := { row := tabularAgainUptoRow, standIns := [], harness := (true, "d481926da9a22cc908d6a62c9a0bce64e998bb22f78be8055d5b30662066fd36"), looks := true }, kinds := [], alts := [], laidByText := true, laidKinds := [.data, .data, .data, .data, .sentinel, .sentinel, .data, .pinned], laidTests := true, laidLooks := .later }
def TabularAgainUptoCardSaid : Prop := Claim7.holds Tryz.pinned (.plain (OpenSpec.upto tabularAgainSpec)) tabularAgainUptoCard
end Rows
end Go.Proofs.YtjcajeehgjpmmaaGreatDoor
