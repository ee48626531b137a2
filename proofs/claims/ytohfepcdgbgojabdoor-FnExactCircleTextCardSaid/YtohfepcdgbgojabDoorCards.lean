/-
  DERIVED. GIVEN WITH THE SEED: THE CARDS: each row of YtohfepcdgbgojabDoorRows.lean that lists a variable, with what it lists TIED to the program's text (the seventh form; the later family's looks); each row that meets fmt, with fmt's text TOLD by the authors' own Lean function (tested against real Go, not proved from fmt's source: count such statements apart). THE CARD IS WHAT COUNTS. Prove the row's statement (the work); the ties are given (YtohfepcdgbgojabDoorTie.lean); close each card by the builder's one call (the guide's Derived/Test/ToyasCard.lean, 'card_holds'). Laid BY PROGRAM, IN A SANDBOX (cutbox-door.mjs). By AI agents, Wed Nov 11 2026. No macro, syntax, notation, axiom, sorry.
-/
import Derived.Test.YtohfepcdgbgojabDoorRows
import GoSem.ClaimSeven
namespace Go.Proofs.YtohfepcdgbgojabDoor
namespace Rows

/-- THE TIED CARD OF 'laws.FnTurned'. -/
def fnTurnedCard : Claim7 := { stood := { row := fnTurnedRow, standIns := [], harness := (true, "8dbbecc491a64162cfd74c33fdc94f77679aae0dd93c534fbcceb6efc1240df9"), looks := true }, kinds := [], alts := [], laidByText := true, laidKinds := [.data, .data, .data], laidTests := true, laidLooks := .later }
def FnTurnedCardSaid : Prop := Claim7.holds Tryd.pinned (.plain (OpenSpec.ofChange fnTurnedSpec)) fnTurnedCard

/-- THE TIED CARD OF 'laws.FnThirds'. -/
def fnThirdsCard : Claim7 := { stood := { row := fnThirdsRow, standIns := [], harness := (true, "8dbbecc491a64162cfd74c33fdc94f77679aae0dd93c534fbcceb6efc1240df9"), looks := true }, kinds := [], alts := [], laidByText := true, laidKinds := [.sentinel], laidTests := true, laidLooks := .later }
def FnThirdsCardSaid : Prop := Claim7.holds Tryd.pinned (.plain (OpenSpec.ofChange fnThirdsSpec)) fnThirdsCard

/-- THE TIED CARD OF 'laws.FnExactIsWideThird'. -/
def fnExactIsWideThirdCard : Claim7 := { stood := { row := fnExactIsWideThirdRow, standIns := [], harness := (true, "8dbbecc491a64162cfd74c33fdc94f77679aae0dd93c534fbcceb6efc1240df9"), looks := true }, kinds := [], alts := [], laidByText := true, laidKinds := [.sentinel], laidTests := true, laidLooks := .later }
def FnExactIsWideThirdCardSaid : Prop := Claim7.holds Tryd.pinned (.plain (OpenSpec.ofChange fnExactIsWideThirdSpec)) fnExactIsWideThirdCard

/-- THE TIED CARD OF 'laws.FnExactCircleText'. -/
def fnExactCircleTextCard : Claim7 := { stood := { row := fnExactCircleTextRow, standIns := [], harness := (true, "8dbbecc491a64162cfd74c33fdc94f77679aae0dd93c534fbcceb6efc1240df9"), looks := true }, kinds := [], alts := [], laidByText := true, laidKinds := [.data, .data, .data], laidTests := true, laidLooks := .later }
def FnExactCircleTextCardSaid : Prop := Claim7.holds Tryd.pinned (.plain (OpenSpec.ofChange fnExactCircleTextSpec)) fnExactCircleTextCard

/-- THE SECOND FORM's CARD OF 'laws.FnTurned'. -/
def fnTurnedUptoCard : Claim7 := { stood := { row := fnTurnedUptoRow, standIns := [], harness := (true, "8dbbecc491a64162cfd74c33fdc94f77679aae0dd93c534fbcceb6efc1240df9"), looks := true }, kinds := [], alts := [], laidByText := true, laidKinds := [.data, .data, .data], laidTests := true, laidLooks := .later }
def FnTurnedUptoCardSaid : Prop := Claim7.holds Tryd.pinned (.plain (OpenSpec.upto fnTurnedSpec)) fnTurnedUptoCard

/-- THE SECOND FORM's CARD OF 'laws.FnThirds'. -/
def fnThirdsUptoCard : Claim7 := { stood := { row := fnThirdsUptoRow, standIns := [], harness := (true, "8dbbecc491a64162cfd74c33fdc94f77679aae0dd93c534fbcceb6efc1240df9"), looks := true }, kinds := [], alts := [], laidByText := true, laidKinds := [.sentinel], laidTests := true, laidLooks := .later }
def FnThirdsUptoCardSaid : Prop := Claim7.holds Tryd.pinned (.plain (OpenSpec.upto fnThirdsSpec)) fnThirdsUptoCard

/-- THE SECOND FORM's CARD OF 'laws.FnExactIsWideThird'. -/
def fnExactIsWideThirdUptoCard : Claim7 := { stood := { row := fnExactIsWideThirdUptoRow, standIns := [], harness := (true, "8dbbecc491a64162cfd74c33fdc94f77679aae0dd93c534fbcceb6efc1240df9"), looks := true }, kinds := [], alts := [], laidByText := true, laidKinds := [.sentinel], laidTests := true, laidLooks := .later }
def FnExactIsWideThirdUptoCardSaid : Prop := Claim7.holds Tryd.pinned (.plain (OpenSpec.upto fnExactIsWideThirdSpec)) fnExactIsWideThirdUptoCard

/-- THE SECOND FORM's CARD OF 'laws.FnExactCircleText'. -/
def fnExactCircleTextUptoCard : Claim7 := { stood := { row := fnExactCircleTextUptoRow, standIns := [], harness := (true, "8dbbecc491a64162cfd74c33fdc94f77679aae0dd93c534fbcceb6efc1240df9"), looks := true }, kinds := [], alts := [], laidByText := true, laidKinds := [.data, .data, .data], laidTests := true, laidLooks := .later }
def FnExactCircleTextUptoCardSaid : Prop := Claim7.holds Tryd.pinned (.plain (OpenSpec.upto fnExactCircleTextSpec)) fnExactCircleTextUptoCard
end Rows
end Go.Proofs.YtohfepcdgbgojabDoor
