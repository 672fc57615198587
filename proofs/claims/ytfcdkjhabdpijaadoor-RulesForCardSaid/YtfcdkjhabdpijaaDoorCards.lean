/-
  DERIVED. GIVEN WITH THE SEED: THE CARDS: each row of YtfcdkjhabdpijaaDoorRows.lean that lists a variable, with what it lists TIED to the program's text (the seventh form; the later family's looks); each row that meets fmt, with fmt's text TOLD by the authors' own Lean function (tested against real Go, not proved from fmt's source: count such statements apart). THE CARD IS WHAT COUNTS. Prove the row's statement (the work); the ties are given (YtfcdkjhabdpijaaDoorTie.lean); close each card by the builder's one call (the guide's Derived/Test/ToyasCard.lean, 'card_holds'). Laid BY PROGRAM, IN A SANDBOX (cutbox-door.mjs). By AI agents, Wed Nov 11 2026. No macro, syntax, notation, axiom, sorry.
-/
import Derived.Test.YtfcdkjhabdpijaaDoorRows
import GoSem.ClaimSeven
namespace Go.Proofs.YtfcdkjhabdpijaaDoor
namespace Rows

/-- THE TIED CARD OF 'surmiselaw05.RulesCheck'. -/
def rulesCheckCard : Claim7 := { stood := { row := rulesCheckRow, standIns := [], harness := (true, "b612bc9f9c84844b341c38c69f1b0e3f4743529fe819e4838558a26eb5ce679e"), looks := false }, kinds := [], alts := [], laidByText := true, laidKinds := [.data], laidTests := true, laidLooks := .later }
def RulesCheckCardSaid : Prop := Claim7.holds Tryd.pinned (.plain (OpenSpec.ofChange rulesCheckSpec)) rulesCheckCard

/-- THE TIED CARD OF 'surmiselaw05.RulesFor'. -/
def rulesForCard : Claim7 := { stood := { row := rulesForRow, standIns := [], harness := (true, "b612bc9f9c84844b341c38c69f1b0e3f4743529fe819e4838558a26eb5ce679e"), looks := false }, kinds := [], alts := [], laidByText := true, laidKinds := [.data], laidTests := true, laidLooks := .later }
def RulesForCardSaid : Prop := Claim7.holds Tryd.pinned (.plain (OpenSpec.ofChange rulesForSpec)) rulesForCard

/-- THE TIED CARD OF 'surmiselaw05.RulesReach'. -/
def rulesReachCard : Claim7 := { stood := { row := rulesReachRow, standIns := [], harness := (true, "b612bc9f9c84844b341c38c69f1b0e3f4743529fe819e4838558a26eb5ce679e"), looks := false }, kinds := [], alts := [], laidByText := true, laidKinds := [.data], laidTests := true, laidLooks := .later }
def RulesReachCardSaid : Prop := Claim7.holds Tryd.pinned (.plain (OpenSpec.ofChange rulesReachSpec)) rulesReachCard

/-- THE TIED CARD OF 'surmiselaw05.RulesReads'. -/
def rulesReadsCard : Claim7 := { stood := { row := rulesReadsRow, standIns := [], harness := (true, "b612bc9f9c84844b341c38c69f1b0e3f4743529fe819e4838558a26eb5ce679e"), looks := false }, kinds := [], alts := [], laidByText := true, laidKinds := [.data], laidTests := true, laidLooks := .later }
def RulesReadsCardSaid : Prop := Claim7.holds Tryd.pinned (.plain (OpenSpec.ofChange rulesReadsSpec)) rulesReadsCard

/-- THE TIED CARD OF 'surmiselaw05.RulesLess'. -/
def rulesLessCard : Claim7 := { stood := { row := rulesLessRow, standIns := [], harness := (true, "b612bc9f9c84844b341c38c69f1b0e3f4743529fe819e4838558a26eb5ce679e"), looks := false }, kinds := [], alts := [], laidByText := true, laidKinds := [.data], laidTests := true, laidLooks := .later }
def RulesLessCardSaid : Prop := Claim7.holds Tryd.pinned (.plain (OpenSpec.ofChange rulesLessSpec)) rulesLessCard

/-- THE TIED CARD OF 'surmiselaw05.RulesClosed'. -/
def rulesClosedCard : Claim7 := { stood := { row := rulesClosedRow, standIns := [], harness := (true, "b612bc9f9c84844b341c38c69f1b0e3f4743529fe819e4838558a26eb5ce679e"), looks := false }, kinds := [], alts := [], laidByText := true, laidKinds := [.data], laidTests := true, laidLooks := .later }
def RulesClosedCardSaid : Prop := Claim7.holds Tryd.pinned (.plain (OpenSpec.ofChange rulesClosedSpec)) rulesClosedCard

/-- THE SECOND FORM's CARD OF 'surmiselaw05.RulesCheck'. -/
def rulesCheckUptoCard : Claim7 := { stood := { row := rulesCheckUptoRow, standIns := [], harness := (true, "b612bc9f9c84844b341c38c69f1b0e3f4743529fe819e4838558a26eb5ce679e"), looks := false }, kinds := [], alts := [], laidByText := true, laidKinds := [.data], laidTests := true, laidLooks := .later }
def RulesCheckUptoCardSaid : Prop := Claim7.holds Tryd.pinned (.plain (OpenSpec.upto rulesCheckSpec)) rulesCheckUptoCard

/-- THE SECOND FORM's CARD OF 'surmiselaw05.RulesFor'. -/
def rulesForUptoCard : Claim7 := { stood := { row := rulesForUptoRow, standIns := [], harness := (true, "b612bc9f9c84844b341c38c69f1b0e3f4743529fe819e4838558a26eb5ce679e"), looks := false }, kinds := [], alts := [], laidByText := true, laidKinds := [.data], laidTests := true, laidLooks := .later }
def RulesForUptoCardSaid : Prop := Claim7.holds Tryd.pinned (.plain (OpenSpec.upto rulesForSpec)) rulesForUptoCard

/-- THE SECOND FORM's CARD OF 'surmiselaw05.RulesReach'. -/
def rulesReachUptoCard : Claim7 := { stood := { row := rulesReachUptoRow, standIns := [], harness := (true, "b612bc9f9c84844b341c38c69f1b0e3f4743529fe819e4838558a26eb5ce679e"), looks := false }, kinds := [], alts := [], laidByText := true, laidKinds := [.data], laidTests := true, laidLooks := .later }
def RulesReachUptoCardSaid : Prop := Claim7.holds Tryd.pinned (.plain (OpenSpec.upto rulesReachSpec)) rulesReachUptoCard

/-- THE SECOND FORM's CARD OF 'surmiselaw05.RulesReads'. -/
def rulesReadsUptoCard : Claim7 := { stood := { row := rulesReadsUptoRow, standIns := [], harness := (true, "b612bc9f9c84844b341c38c69f1b0e3f4743529fe819e4838558a26eb5ce679e"), looks := false }, kinds := [], alts := [], laidByText := true, laidKinds := [.data], laidTests := true, laidLooks := .later }
def RulesReadsUptoCardSaid : Prop := Claim7.holds Tryd.pinned (.plain (OpenSpec.upto rulesReadsSpec)) rulesReadsUptoCard

/-- THE SECOND FORM's CARD OF 'surmiselaw05.RulesLess'. -/
def rulesLessUptoCard : Claim7 := { stood := { row := rulesLessUptoRow, standIns := [], harness := (true, "b612bc9f9c84844b341c38c69f1b0e3f4743529fe819e4838558a26eb5ce679e"), looks := false }, kinds := [], alts := [], laidByText := true, laidKinds := [.data], laidTests := true, laidLooks := .later }
def RulesLessUptoCardSaid : Prop := Claim7.holds Tryd.pinned (.plain (OpenSpec.upto rulesLessSpec)) rulesLessUptoCard

/-- THE SECOND FORM's CARD OF 'surmiselaw05.RulesClosed'. -/
def rulesClosedUptoCard : Claim7 := { stood := { row := rulesClosedUptoRow, standIns := [], harness := (true, "b612bc9f9c84844b341c38c69f1b0e3f4743529fe819e4838558a26eb5ce679e"), looks := false }, kinds := [], alts := [], laidByText := true, laidKinds := [.data], laidTests := true, laidLooks := .later }
def RulesClosedUptoCardSaid : Prop := Claim7.holds Tryd.pinned (.plain (OpenSpec.upto rulesClosedSpec)) rulesClosedUptoCard
end Rows
end Go.Proofs.YtfcdkjhabdpijaaDoor
