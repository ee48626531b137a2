/-
  DERIVED. GIVEN WITH THE SEED: THE CARDS: each row of YtmachkcnichefaaDoorRows.lean that lists a variable, with what it lists TIED to the program's text (the seventh form; the later family's looks); each row that meets fmt, with fmt's text TOLD by the authors' own Lean function (tested against real Go, not proved from fmt's source: count such statements apart). THE CARD IS WHAT COUNTS. Prove the row's statement (the work); the ties are given (YtmachkcnichefaaDoorTie.lean); close each card by the builder's one call (the guide's Derived/Test/ToyasCard.lean, 'card_holds'). Laid BY PROGRAM, IN A SANDBOX (cutbox-door.mjs). By AI agents, Wed Nov 11 2026. No macro, syntax, notation, axiom, sorry.
-/
import Derived.Test.YtmachkcnichefaaDoorRows
import GoSem.ClaimSeven
namespace Go.Proofs.YtmachkcnichefaaDoor
namespace Rows

/-- THE TIED CARD OF 'laws.FnNames'. -/
def fnNamesCard : Claim7 := { stood := { row := fnNamesRow, standIns := [], harness := (true, "59447557347186359baba4a36c3736d418474b49599285f602e512776cd84dd0"), looks := false }, kinds := [], alts := [], laidByText := true, laidKinds := [.data], laidTests := true, laidLooks := .later }
def FnNamesCardSaid : Prop := Claim7.holds Tryd.pinned (.plain (OpenSpec.ofChange fnNamesSpec)) fnNamesCard

/-- THE TIED CARD OF 'laws.FnExactNoteName'. -/
def fnExactNoteNameCard : Claim7 := { stood := { row := fnExactNoteNameRow, standIns := [], harness := (true, "59447557347186359baba4a36c3736d418474b49599285f602e512776cd84dd0"), looks := false }, kinds := [], alts := [], laidByText := true, laidKinds := [.data], laidTests := true, laidLooks := .later }
def FnExactNoteNameCardSaid : Prop := Claim7.holds Tryd.pinned (.plain (OpenSpec.ofChange fnExactNoteNameSpec)) fnExactNoteNameCard

/-- THE TIED CARD OF 'laws.FnExactNoteNumber'. -/
def fnExactNoteNumberCard : Claim7 := { stood := { row := fnExactNoteNumberRow, standIns := [], harness := (true, "59447557347186359baba4a36c3736d418474b49599285f602e512776cd84dd0"), looks := false }, kinds := [], alts := [], laidByText := true, laidKinds := [.data], laidTests := true, laidLooks := .later }
def FnExactNoteNumberCardSaid : Prop := Claim7.holds Tryd.pinned (.plain (OpenSpec.ofChange fnExactNoteNumberSpec)) fnExactNoteNumberCard

/-- THE SECOND FORM's CARD OF 'laws.FnNames'. -/
def fnNamesUptoCard : Claim7 := { stood := { row := fnNamesUptoRow, standIns := [], harness := (true, "59447557347186359baba4a36c3736d418474b49599285f602e512776cd84dd0"), looks := false }, kinds := [], alts := [], laidByText := true, laidKinds := [.data], laidTests := true, laidLooks := .later }
def FnNamesUptoCardSaid : Prop := Claim7.holds Tryd.pinned (.plain (OpenSpec.upto fnNamesSpec)) fnNamesUptoCard

/-- THE SECOND FORM's CARD OF 'laws.FnExactNoteName'. -/
def fnExactNoteNameUptoCard : Claim7 := { stood := { row := fnExactNoteNameUptoRow, standIns := [], harness := (true, "59447557347186359baba4a36c3736d418474b49599285f602e512776cd84dd0"), looks := false }, kinds := [], alts := [], laidByText := true, laidKinds := [.data], laidTests := true, laidLooks := .later }
def FnExactNoteNameUptoCardSaid : Prop := Claim7.holds Tryd.pinned (.plain (OpenSpec.upto fnExactNoteNameSpec)) fnExactNoteNameUptoCard

/-- THE SECOND FORM's CARD OF 'laws.FnExactNoteNumber'. -/
def fnExactNoteNumberUptoCard : Claim7 := { stood := { row := fnExactNoteNumberUptoRow, standIns := [], harness := (true, "59447557347186359baba4a36c3736d418474b49599285f602e512776cd84dd0"), looks := false }, kinds := [], alts := [], laidByText := true, laidKinds := [.data], laidTests := true, laidLooks := .later }
def FnExactNoteNumberUptoCardSaid : Prop := Claim7.holds Tryd.pinned (.plain (OpenSpec.upto fnExactNoteNumberSpec)) fnExactNoteNumberUptoCard
end Rows
end Go.Proofs.YtmachkcnichefaaDoor
