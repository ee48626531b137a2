/-
  DERIVED. GIVEN WITH THE SEED: THE CARDS: each row of YtfhefakacjkmiaaDoorRows.lean that lists a variable, with what it lists TIED to the program's text (the seventh form; the later family's looks); each row that meets fmt, with fmt's text TOLD by the authors' own Lean function (tested against real Go, not proved from fmt's source: count such statements apart). THE CARD IS WHAT COUNTS. Prove the row's statement (the work); the ties are given (YtfhefakacjkmiaaDoorTie.lean); close each card by the builder's one call (the guide's Derived/Test/ToyasCard.lean, 'card_holds'). Laid BY PROGRAM, IN A SANDBOX (cutbox-door.mjs). By AI agents, Wed Nov 11 2026. No macro, syntax, notation, axiom, sorry.
-/
import Derived.Test.YtfhefakacjkmiaaDoorRows
import GoSem.ClaimSeven
namespace Go.Proofs.YtfhefakacjkmiaaDoor
namespace Rows

/-- THE TIED CARD OF 'laws.FnShared'. -/
def fnSharedCard : Claim7 := { stood := { row := fnSharedRow, standIns := [], harness := (true, "0020e6fcc7286a87c081056daa41290181b130674c901b3178fc584197728f85"), looks := true }, kinds := [], alts := [], laidByText := true, laidKinds := [.sentinel], laidTests := true, laidLooks := .later }
def FnSharedCardSaid : Prop := Claim7.holds Tryd.pinned (.plain (OpenSpec.ofChange fnSharedSpec)) fnSharedCard

/-- THE TIED CARD OF 'laws.FnHidden'. -/
def fnHiddenCard : Claim7 := { stood := { row := fnHiddenRow, standIns := [], harness := (true, "0020e6fcc7286a87c081056daa41290181b130674c901b3178fc584197728f85"), looks := true }, kinds := [], alts := [], laidByText := true, laidKinds := [.sentinel], laidTests := true, laidLooks := .later }
def FnHiddenCardSaid : Prop := Claim7.holds Tryd.pinned (.plain (OpenSpec.ofChange fnHiddenSpec)) fnHiddenCard

/-- THE TIED CARD OF 'laws.FnExactHiddenCommas'. -/
def fnExactHiddenCommasCard : Claim7 := { stood := { row := fnExactHiddenCommasRow, standIns := [], harness := (true, "0020e6fcc7286a87c081056daa41290181b130674c901b3178fc584197728f85"), looks := true }, kinds := [], alts := [], laidByText := true, laidKinds := [.sentinel], laidTests := true, laidLooks := .later }
def FnExactHiddenCommasCardSaid : Prop := Claim7.holds Tryd.pinned (.plain (OpenSpec.ofChange fnExactHiddenCommasSpec)) fnExactHiddenCommasCard

/-- THE TIED CARD OF 'laws.FnExactSharedBy'. -/
def fnExactSharedByCard : Claim7 := { stood := { row := fnExactSharedByRow, standIns := [], harness := (true, "0020e6fcc7286a87c081056daa41290181b130674c901b3178fc584197728f85"), looks := true }, kinds := [], alts := [], laidByText := true, laidKinds := [.sentinel], laidTests := true, laidLooks := .later }
def FnExactSharedByCardSaid : Prop := Claim7.holds Tryd.pinned (.plain (OpenSpec.ofChange fnExactSharedBySpec)) fnExactSharedByCard

/-- THE SECOND FORM's CARD OF 'laws.FnShared'. -/
def fnSharedUptoCard : Claim7 := { stood := { row := fnSharedUptoRow, standIns := [], harness := (true, "0020e6fcc7286a87c081056daa41290181b130674c901b3178fc584197728f85"), looks := true }, kinds := [], alts := [], laidByText := true, laidKinds := [.sentinel], laidTests := true, laidLooks := .later }
def FnSharedUptoCardSaid : Prop := Claim7.holds Tryd.pinned (.plain (OpenSpec.upto fnSharedSpec)) fnSharedUptoCard

/-- THE SECOND FORM's CARD OF 'laws.FnHidden'. -/
def fnHiddenUptoCard : Claim7 := { stood := { row := fnHiddenUptoRow, standIns := [], harness := (true, "0020e6fcc7286a87c081056daa41290181b130674c901b3178fc584197728f85"), looks := true }, kinds := [], alts := [], laidByText := true, laidKinds := [.sentinel], laidTests := true, laidLooks := .later }
def FnHiddenUptoCardSaid : Prop := Claim7.holds Tryd.pinned (.plain (OpenSpec.upto fnHiddenSpec)) fnHiddenUptoCard

/-- THE SECOND FORM's CARD OF 'laws.FnExactHiddenCommas'. -/
def fnExactHiddenCommasUptoCard : Claim7 := { stood := { row := fnExactHiddenCommasUptoRow, standIns := [], harness := (true, "0020e6fcc7286a87c081056daa41290181b130674c901b3178fc584197728f85"), looks := true }, kinds := [], alts := [], laidByText := true, laidKinds := [.sentinel], laidTests := true, laidLooks := .later }
def FnExactHiddenCommasUptoCardSaid : Prop := Claim7.holds Tryd.pinned (.plain (OpenSpec.upto fnExactHiddenCommasSpec)) fnExactHiddenCommasUptoCard

/-- THE SECOND FORM's CARD OF 'laws.FnExactSharedBy'. -/
def fnExactSharedByUptoCard : Claim7 := { stood := { row := fnExactSharedByUptoRow, standIns := [], harness := (true, "0020e6fcc7286a87c081056daa41290181b130674c901b3178fc584197728f85"), looks := true }, kinds := [], alts := [], laidByText := true, laidKinds := [.sentinel], laidTests := true, laidLooks := .later }
def FnExactSharedByUptoCardSaid : Prop := Claim7.holds Tryd.pinned (.plain (OpenSpec.upto fnExactSharedBySpec)) fnExactSharedByUptoCard
end Rows
end Go.Proofs.YtfhefakacjkmiaaDoor
