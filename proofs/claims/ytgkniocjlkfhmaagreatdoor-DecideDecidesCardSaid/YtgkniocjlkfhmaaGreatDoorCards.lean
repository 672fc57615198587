/-
  DERIVED. GIVEN WITH THE SEED: THE CARDS: each row of YtgkniocjlkfhmaaGreatDoorRows.lean that lists a variable, with what it lists TIED to the program's text (the seventh form; the later family's looks); each row that meets fmt, with fmt's text TOLD by the authors' own Lean function (tested against real Go, not proved from fmt's source: count such statements apart). THE CARD IS WHAT COUNTS. Prove the row's statement (the work); the ties are given (YtgkniocjlkfhmaaGreatDoorTie.lean); close each card by the builder's one call (the guide's Derived/Test/ToyasCard.lean, 'card_holds'). Laid BY PROGRAM, IN A SANDBOX (cutbox-door.mjs). By AI agents, Wed Nov 11 2026. No macro, syntax, notation, axiom, sorry.
-/
import Derived.Test.YtgkniocjlkfhmaaGreatDoorRows
import GoSem.ClaimSeven
namespace Go.Proofs.YtgkniocjlkfhmaaGreatDoor
namespace Rows

/-- THE TIED CARD OF 'surmiselaw06.TabularShows'. -/
def tabularShowsCard : Claim7 := { stood := { row := tabularShowsRow, standIns := [], harness := (true, "4cb74e6c0bebe37f784e162eb2c8246ddd39c7c0c55b10d690ba068825571e87"), looks := true }, kinds := [], alts := [], laidByText := true, laidKinds := [.data, .data, .data, .data, .sentinel, .sentinel, .data, .pinned], laidTests := true, laidLooks := .later }
def TabularShowsCardSaid : Prop := Claim7.holds Tryz.pinned (.plain (OpenSpec.ofChange tabularShowsSpec)) tabularShowsCard

/-- THE TIED CARD OF 'surmiselaw06.TabularBack'. -/
def tabularBackCard : Claim7 := { stood := { row := tabularBackRow, standIns := [], harness := (true, "4cb74e6c0bebe37f784e162eb2c8246ddd39c7c0c55b10d690ba068825571e87"), looks := true }, kinds := [], alts := [], laidByText := true, laidKinds := [.data, .data, .data, .data, .sentinel, .sentinel, .data, .pinned], laidTests := true, laidLooks := .later }
def TabularBackCardSaid : Prop := Claim7.holds Tryz.pinned (.plain (OpenSpec.ofChange tabularBackSpec)) tabularBackCard

/-- THE TIED CARD OF 'surmiselaw06.TabularAgain'. -/
def tabularAgainCard : Claim7 := { stood := { row := tabularAgainRow, standIns := [], harness := (true, "4cb74e6c0bebe37f784e162eb2c8246ddd39c7c0c55b10d690ba068825571e87"), looks := true }, kinds := [], alts := [], laidByText := true, laidKinds := [.data, .data, .data, .data, .sentinel, .sentinel, .data, .pinned], laidTests := true, laidLooks := .later }
def TabularAgainCardSaid : Prop := Claim7.holds Tryz.pinned (.plain (OpenSpec.ofChange tabularAgainSpec)) tabularAgainCard

/-- THE TIED CARD OF 'surmiselaw07.DecideDecides'. -/
def decideDecidesCard : Claim7 := { stood := { row := decideDecidesRow, standIns := [], harness := (true, "4cb74e6c0bebe37f784e162eb2c8246ddd39c7c0c55b10d690ba068825571e87"), looks := true }, kinds := [], alts := [], laidByText := true, laidKinds := [.data], laidTests := true, laidLooks := .later }
def DecideDecidesCardSaid : Prop := Claim7.holds Tryz.pinned (.plain (OpenSpec.ofChange decideDecidesSpec)) decideDecidesCard

/-- THE TIED CARD OF 'surmiselaw07.DecideBegins'. -/
def decideBeginsCard : Claim7 := { stood := { row := decideBeginsRow, standIns := [], harness := (true, "4cb74e6c0bebe37f784e162eb2c8246ddd39c7c0c55b10d690ba068825571e87"), looks := true }, kinds := [], alts := [], laidByText := true, laidKinds := [.data], laidTests := true, laidLooks := .later }
def DecideBeginsCardSaid : Prop := Claim7.holds Tryz.pinned (.plain (OpenSpec.ofChange decideBeginsSpec)) decideBeginsCard

/-- THE TIED CARD OF 'surmiselaw07.DecideRight'. -/
def decideRightCard : Claim7 := { stood := { row := decideRightRow, standIns := [], harness := (true, "4cb74e6c0bebe37f784e162eb2c8246ddd39c7c0c55b10d690ba068825571e87"), looks := true }, kinds := [], alts := [], laidByText := true, laidKinds := [.data], laidTests := true, laidLooks := .later }
def DecideRightCardSaid : Prop := Claim7.holds Tryz.pinned (.plain (OpenSpec.ofChange decideRightSpec)) decideRightCard

/-- THE TIED CARD OF 'surmiselaw07.DecideAlone'. -/
def decideAloneCard : Claim7 := { stood := { row := decideAloneRow, standIns := [], harness := (true, "4cb74e6c0bebe37f784e162eb2c8246ddd39c7c0c55b10d690ba068825571e87"), looks := true }, kinds := [], alts := [], laidByText := true, laidKinds := [.data], laidTests := true, laidLooks := .later }
def DecideAloneCardSaid : Prop := Claim7.holds Tryz.pinned (.plain (OpenSpec.ofChange decideAloneSpec)) decideAloneCard

/-- THE SECOND FORM's CARD OF 'surmiselaw06.TabularShows'. -/
def tabularShowsUptoCard : Claim7 := { stood := { row := tabularShowsUptoRow, standIns := [], harness := (true, "4cb74e6c0bebe37f784e162eb2c8246ddd39c7c0c55b10d690ba068825571e87"), looks := true }, kinds := [], alts := [], laidByText := true, laidKinds := [.data, .data, .data, .data, .sentinel, .sentinel, .data, .pinned], laidTests := true, laidLooks := .later }
def TabularShowsUptoCardSaid : Prop := Claim7.holds Tryz.pinned (.plain (OpenSpec.upto tabularShowsSpec)) tabularShowsUptoCard

/-- THE SECOND FORM's CARD OF 'surmiselaw06.TabularBack'. -/
def tabularBackUptoCard : Claim7 := { stood := { row := tabularBackUptoRow, standIns := [], harness := (true, "4cb74e6c0bebe37f784e162eb2c8246ddd39c7c0c55b10d690ba068825571e87"), looks := true }, kinds := [], alts := [], laidByText := true, laidKinds := [.data, .data, .data, .data, .sentinel, .sentinel, .data, .pinned], laidTests := true, laidLooks := .later }
def TabularBackUptoCardSaid : Prop := Claim7.holds Tryz.pinned (.plain (OpenSpec.upto tabularBackSpec)) tabularBackUptoCard

/-- THE SECOND FORM's CARD OF 'surmiselaw06.TabularAgain'. -/
def tabularAgainUptoCard : Claim7 := { stood := { row := tabularAgainUptoRow, standIns := [], harness := (true, "4cb74e6c0bebe37f784e162eb2c8246ddd39c7c0c55b10d690ba068825571e87"), looks := true }, kinds := [], alts := [], laidByText := true, laidKinds := [.data, .data, .data, .data, .sentinel, .sentinel, .data, .pinned], laidTests := true, laidLooks := .later }
def TabularAgainUptoCardSaid : Prop := Claim7.holds Tryz.pinned (.plain (OpenSpec.upto tabularAgainSpec)) tabularAgainUptoCard

/-- THE SECOND FORM's CARD OF 'surmiselaw07.DecideDecides'. -/
def decideDecidesUptoCard : Claim7 := { stood := { row := decideDecidesUptoRow, standIns := [], harness := (true, "4cb74e6c0bebe37f784e162eb2c8246ddd39c7c0c55b10d690ba068825571e87"), looks := true }, kinds := [], alts := [], laidByText := true, laidKinds := [.data], laidTests := true, laidLooks := .later }
def DecideDecidesUptoCardSaid : Prop := Claim7.holds Tryz.pinned (.plain (OpenSpec.upto decideDecidesSpec)) decideDecidesUptoCard

/-- THE SECOND FORM's CARD OF 'surmiselaw07.DecideBegins'. -/
def decideBeginsUptoCard : Claim7 := { stood := { row := decideBeginsUptoRow, standIns := [], harness := (true, "4cb74e6c0bebe37f784e162eb2c8246ddd39c7c0c55b10d690ba068825571e87"), looks := true }, kinds := [], alts := [], laidByText := true, laidKinds := [.data], laidTests := true, laidLooks := .later }
def DecideBeginsUptoCardSaid : Prop := Claim7.holds Tryz.pinned (.plain (OpenSpec.upto decideBeginsSpec)) decideBeginsUptoCard

/-- THE SECOND FORM's CARD OF 'surmiselaw07.DecideRight'. -/
def decideRightUptoCard : Claim7 := { stood := { row := decideRightUptoRow, standIns := [], harness := (true, "4cb74e6c0bebe37f784e162eb2c8246ddd39c7c0c55b10d690ba068825571e87"), looks := true }, kinds := [], alts := [], laidByText := true, laidKinds := [.data], laidTests := true, laidLooks := .later }
def DecideRightUptoCardSaid : Prop := Claim7.holds Tryz.pinned (.plain (OpenSpec.upto decideRightSpec)) decideRightUptoCard

/-- THE SECOND FORM's CARD OF 'surmiselaw07.DecideAlone'. -/
def decideAloneUptoCard : Claim7 := { stood := { row := decideAloneUptoRow, standIns := [], harness := (true, "4cb74e6c0bebe37f784e162eb2c8246ddd39c7c0c55b10d690ba068825571e87"), looks := true }, kinds := [], alts := [], laidByText := true, laidKinds := [.data], laidTests := true, laidLooks := .later }
def DecideAloneUptoCardSaid : Prop := Claim7.holds Tryz.pinned (.plain (OpenSpec.upto decideAloneSpec)) decideAloneUptoCard
end Rows
end Go.Proofs.YtgkniocjlkfhmaaGreatDoor
