/-
  DERIVED. GIVEN WITH THE SEED: THE CARDS: each row of YtdnlebijmiaclabDoorRows.lean that lists a variable, with what it lists TIED to the program's text (the seventh form; the later family's looks); each row that meets fmt, with fmt's text TOLD by the authors' own Lean function (tested against real Go, not proved from fmt's source: count such statements apart). THE CARD IS WHAT COUNTS. Prove the row's statement (the work); the ties are given (YtdnlebijmiaclabDoorTie.lean); close each card by the builder's one call (the guide's Derived/Test/ToyasCard.lean, 'card_holds'). Laid BY PROGRAM, IN A SANDBOX (cutbox-door.mjs). By AI agents, Wed Nov 11 2026. No macro, syntax, notation, axiom, sorry.
-/
import Derived.Test.YtdnlebijmiaclabDoorRows
import GoSem.ClaimSeven
namespace Go.Proofs.YtdnlebijmiaclabDoor
namespace Rows

/-- THE TIED CARD OF 'laws.FnOrder'. -/
def fnOrderCard : Claim7 := { stood := { row := fnOrderRow, standIns := [], harness := (true, "3f4a71df1f542aee202acb5e9d79598853e469a56220e13ed13d80b3983d80e2"), looks := true }, kinds := [], alts := [], laidByText := true, laidKinds := [.sentinel], laidTests := true, laidLooks := .later }
def FnOrderCardSaid : Prop := Claim7.holds Tryd.pinned (.plain (OpenSpec.ofChange fnOrderSpec)) fnOrderCard

/-- THE TIED CARD OF 'laws.FnSameSizes'. -/
def fnSameSizesCard : Claim7 := { stood := { row := fnSameSizesRow, standIns := [], harness := (true, "3f4a71df1f542aee202acb5e9d79598853e469a56220e13ed13d80b3983d80e2"), looks := true }, kinds := [], alts := [], laidByText := true, laidKinds := [.sentinel], laidTests := true, laidLooks := .later }
def FnSameSizesCardSaid : Prop := Claim7.holds Tryd.pinned (.plain (OpenSpec.ofChange fnSameSizesSpec)) fnSameSizesCard

/-- THE TIED CARD OF 'laws.FnExactCompareIntervals'. -/
def fnExactCompareIntervalsCard : Claim7 := { stood := { row := fnExactCompareIntervalsRow, standIns := [], harness := (true, "3f4a71df1f542aee202acb5e9d79598853e469a56220e13ed13d80b3983d80e2"), looks := true }, kinds := [], alts := [], laidByText := true, laidKinds := [.sentinel], laidTests := true, laidLooks := .later }
def FnExactCompareIntervalsCardSaid : Prop := Claim7.holds Tryd.pinned (.plain (OpenSpec.ofChange fnExactCompareIntervalsSpec)) fnExactCompareIntervalsCard

/-- THE TIED CARD OF 'laws.FnExactGreatestOf'. -/
def fnExactGreatestOfCard : Claim7 := { stood := { row := fnExactGreatestOfRow, standIns := [], harness := (true, "3f4a71df1f542aee202acb5e9d79598853e469a56220e13ed13d80b3983d80e2"), looks := true }, kinds := [], alts := [], laidByText := true, laidKinds := [.sentinel], laidTests := true, laidLooks := .later }
def FnExactGreatestOfCardSaid : Prop := Claim7.holds Tryd.pinned (.plain (OpenSpec.ofChange fnExactGreatestOfSpec)) fnExactGreatestOfCard

/-- THE TIED CARD OF 'laws.FnExactIsBetween'. -/
def fnExactIsBetweenCard : Claim7 := { stood := { row := fnExactIsBetweenRow, standIns := [], harness := (true, "3f4a71df1f542aee202acb5e9d79598853e469a56220e13ed13d80b3983d80e2"), looks := true }, kinds := [], alts := [], laidByText := true, laidKinds := [.sentinel], laidTests := true, laidLooks := .later }
def FnExactIsBetweenCardSaid : Prop := Claim7.holds Tryd.pinned (.plain (OpenSpec.ofChange fnExactIsBetweenSpec)) fnExactIsBetweenCard

/-- THE TIED CARD OF 'laws.FnOctaves'. -/
def fnOctavesCard : Claim7 := { stood := { row := fnOctavesRow, standIns := [], harness := (true, "3f4a71df1f542aee202acb5e9d79598853e469a56220e13ed13d80b3983d80e2"), looks := true }, kinds := [], alts := [], laidByText := true, laidKinds := [.sentinel], laidTests := true, laidLooks := .later }
def FnOctavesCardSaid : Prop := Claim7.holds Tryd.pinned (.plain (OpenSpec.ofChange fnOctavesSpec)) fnOctavesCard

/-- THE TIED CARD OF 'laws.FnFifths'. -/
def fnFifthsCard : Claim7 := { stood := { row := fnFifthsRow, standIns := [], harness := (true, "3f4a71df1f542aee202acb5e9d79598853e469a56220e13ed13d80b3983d80e2"), looks := true }, kinds := [], alts := [], laidByText := true, laidKinds := [.sentinel], laidTests := true, laidLooks := .later }
def FnFifthsCardSaid : Prop := Claim7.holds Tryd.pinned (.plain (OpenSpec.ofChange fnFifthsSpec)) fnFifthsCard

/-- THE TIED CARD OF 'laws.FnThreeSteps'. -/
def fnThreeStepsCard : Claim7 := { stood := { row := fnThreeStepsRow, standIns := [], harness := (true, "3f4a71df1f542aee202acb5e9d79598853e469a56220e13ed13d80b3983d80e2"), looks := true }, kinds := [], alts := [], laidByText := true, laidKinds := [.sentinel], laidTests := true, laidLooks := .later }
def FnThreeStepsCardSaid : Prop := Claim7.holds Tryd.pinned (.plain (OpenSpec.ofChange fnThreeStepsSpec)) fnThreeStepsCard

/-- THE TIED CARD OF 'laws.FnExactChainOf'. -/
def fnExactChainOfCard : Claim7 := { stood := { row := fnExactChainOfRow, standIns := [], harness := (true, "3f4a71df1f542aee202acb5e9d79598853e469a56220e13ed13d80b3983d80e2"), looks := true }, kinds := [], alts := [], laidByText := true, laidKinds := [.sentinel], laidTests := true, laidLooks := .later }
def FnExactChainOfCardSaid : Prop := Claim7.holds Tryd.pinned (.plain (OpenSpec.ofChange fnExactChainOfSpec)) fnExactChainOfCard

/-- THE TIED CARD OF 'laws.FnCommas'. -/
def fnCommasCard : Claim7 := { stood := { row := fnCommasRow, standIns := [], harness := (true, "3f4a71df1f542aee202acb5e9d79598853e469a56220e13ed13d80b3983d80e2"), looks := true }, kinds := [], alts := [], laidByText := true, laidKinds := [.sentinel], laidTests := true, laidLooks := .later }
def FnCommasCardSaid : Prop := Claim7.holds Tryd.pinned (.plain (OpenSpec.ofChange fnCommasSpec)) fnCommasCard

/-- THE TIED CARD OF 'laws.FnExactIsComma'. -/
def fnExactIsCommaCard : Claim7 := { stood := { row := fnExactIsCommaRow, standIns := [], harness := (true, "3f4a71df1f542aee202acb5e9d79598853e469a56220e13ed13d80b3983d80e2"), looks := true }, kinds := [], alts := [], laidByText := true, laidKinds := [.sentinel], laidTests := true, laidLooks := .later }
def FnExactIsCommaCardSaid : Prop := Claim7.holds Tryd.pinned (.plain (OpenSpec.ofChange fnExactIsCommaSpec)) fnExactIsCommaCard

/-- THE TIED CARD OF 'laws.FnExactCommasWithin'. -/
def fnExactCommasWithinCard : Claim7 := { stood := { row := fnExactCommasWithinRow, standIns := [], harness := (true, "3f4a71df1f542aee202acb5e9d79598853e469a56220e13ed13d80b3983d80e2"), looks := true }, kinds := [], alts := [], laidByText := true, laidKinds := [.sentinel], laidTests := true, laidLooks := .later }
def FnExactCommasWithinCardSaid : Prop := Claim7.holds Tryd.pinned (.plain (OpenSpec.ofChange fnExactCommasWithinSpec)) fnExactCommasWithinCard

/-- THE SECOND FORM's CARD OF 'laws.FnOrder'. -/
def fnOrderUptoCard : Claim7 := { stood := { row := fnOrderUptoRow, standIns := [], harness := (true, "3f4a71df1f542aee202acb5e9d79598853e469a56220e13ed13d80b3983d80e2"), looks := true }, kinds := [], alts := [], laidByText := true, laidKinds := [.sentinel], laidTests := true, laidLooks := .later }
def FnOrderUptoCardSaid : Prop := Claim7.holds Tryd.pinned (.plain (OpenSpec.upto fnOrderSpec)) fnOrderUptoCard

/-- THE SECOND FORM's CARD OF 'laws.FnSameSizes'. -/
def fnSameSizesUptoCard : Claim7 := { stood := { row := fnSameSizesUptoRow, standIns := [], harness := (true, "3f4a71df1f542aee202acb5e9d79598853e469a56220e13ed13d80b3983d80e2"), looks := true }, kinds := [], alts := [], laidByText := true, laidKinds := [.sentinel], laidTests := true, laidLooks := .later }
def FnSameSizesUptoCardSaid : Prop := Claim7.holds Tryd.pinned (.plain (OpenSpec.upto fnSameSizesSpec)) fnSameSizesUptoCard

/-- THE SECOND FORM's CARD OF 'laws.FnExactCompareIntervals'. -/
def fnExactCompareIntervalsUptoCard : Claim7 := { stood := { row := fnExactCompareIntervalsUptoRow, standIns := [], harness := (true, "3f4a71df1f542aee202acb5e9d79598853e469a56220e13ed13d80b3983d80e2"), looks := true }, kinds := [], alts := [], laidByText := true, laidKinds := [.sentinel], laidTests := true, laidLooks := .later }
def FnExactCompareIntervalsUptoCardSaid : Prop := Claim7.holds Tryd.pinned (.plain (OpenSpec.upto fnExactCompareIntervalsSpec)) fnExactCompareIntervalsUptoCard

/-- THE SECOND FORM's CARD OF 'laws.FnExactGreatestOf'. -/
def fnExactGreatestOfUptoCard : Claim7 := { stood := { row := fnExactGreatestOfUptoRow, standIns := [], harness := (true, "3f4a71df1f542aee202acb5e9d79598853e469a56220e13ed13d80b3983d80e2"), looks := true }, kinds := [], alts := [], laidByText := true, laidKinds := [.sentinel], laidTests := true, laidLooks := .later }
def FnExactGreatestOfUptoCardSaid : Prop := Claim7.holds Tryd.pinned (.plain (OpenSpec.upto fnExactGreatestOfSpec)) fnExactGreatestOfUptoCard

/-- THE SECOND FORM's CARD OF 'laws.FnExactIsBetween'. -/
def fnExactIsBetweenUptoCard : Claim7 := { stood := { row := fnExactIsBetweenUptoRow, standIns := [], harness := (true, "3f4a71df1f542aee202acb5e9d79598853e469a56220e13ed13d80b3983d80e2"), looks := true }, kinds := [], alts := [], laidByText := true, laidKinds := [.sentinel], laidTests := true, laidLooks := .later }
def FnExactIsBetweenUptoCardSaid : Prop := Claim7.holds Tryd.pinned (.plain (OpenSpec.upto fnExactIsBetweenSpec)) fnExactIsBetweenUptoCard

/-- THE SECOND FORM's CARD OF 'laws.FnOctaves'. -/
def fnOctavesUptoCard : Claim7 := { stood := { row := fnOctavesUptoRow, standIns := [], harness := (true, "3f4a71df1f542aee202acb5e9d79598853e469a56220e13ed13d80b3983d80e2"), looks := true }, kinds := [], alts := [], laidByText := true, laidKinds := [.sentinel], laidTests := true, laidLooks := .later }
def FnOctavesUptoCardSaid : Prop := Claim7.holds Tryd.pinned (.plain (OpenSpec.upto fnOctavesSpec)) fnOctavesUptoCard

/-- THE SECOND FORM's CARD OF 'laws.FnFifths'. -/
def fnFifthsUptoCard : Claim7 := { stood := { row := fnFifthsUptoRow, standIns := [], harness := (true, "3f4a71df1f542aee202acb5e9d79598853e469a56220e13ed13d80b3983d80e2"), looks := true }, kinds := [], alts := [], laidByText := true, laidKinds := [.sentinel], laidTests := true, laidLooks := .later }
def FnFifthsUptoCardSaid : Prop := Claim7.holds Tryd.pinned (.plain (OpenSpec.upto fnFifthsSpec)) fnFifthsUptoCard

/-- THE SECOND FORM's CARD OF 'laws.FnThreeSteps'. -/
def fnThreeStepsUptoCard : Claim7 := { stood := { row := fnThreeStepsUptoRow, standIns := [], harness := (true, "3f4a71df1f542aee202acb5e9d79598853e469a56220e13ed13d80b3983d80e2"), looks := true }, kinds := [], alts := [], laidByText := true, laidKinds := [.sentinel], laidTests := true, laidLooks := .later }
def FnThreeStepsUptoCardSaid : Prop := Claim7.holds Tryd.pinned (.plain (OpenSpec.upto fnThreeStepsSpec)) fnThreeStepsUptoCard

/-- THE SECOND FORM's CARD OF 'laws.FnExactChainOf'. -/
def fnExactChainOfUptoCard : Claim7 := { stood := { row := fnExactChainOfUptoRow, standIns := [], harness := (true, "3f4a71df1f542aee202acb5e9d79598853e469a56220e13ed13d80b3983d80e2"), looks := true }, kinds := [], alts := [], laidByText := true, laidKinds := [.sentinel], laidTests := true, laidLooks := .later }
def FnExactChainOfUptoCardSaid : Prop := Claim7.holds Tryd.pinned (.plain (OpenSpec.upto fnExactChainOfSpec)) fnExactChainOfUptoCard

/-- THE SECOND FORM's CARD OF 'laws.FnCommas'. -/
def fnCommasUptoCard : Claim7 := { stood := { row := fnCommasUptoRow, standIns := [], harness := (true, "3f4a71df1f542aee202acb5e9d79598853e469a56220e13ed13d80b3983d80e2"), looks := true }, kinds := [], alts := [], laidByText := true, laidKinds := [.sentinel], laidTests := true, laidLooks := .later }
def FnCommasUptoCardSaid : Prop := Claim7.holds Tryd.pinned (.plain (OpenSpec.upto fnCommasSpec)) fnCommasUptoCard

/-- THE SECOND FORM's CARD OF 'laws.FnExactIsComma'. -/
def fnExactIsCommaUptoCard : Claim7 := { stood := { row := fnExactIsCommaUptoRow, standIns := [], harness := (true, "3f4a71df1f542aee202acb5e9d79598853e469a56220e13ed13d80b3983d80e2"), looks := true }, kinds := [], alts := [], laidByText := true, laidKinds := [.sentinel], laidTests := true, laidLooks := .later }
def FnExactIsCommaUptoCardSaid : Prop := Claim7.holds Tryd.pinned (.plain (OpenSpec.upto fnExactIsCommaSpec)) fnExactIsCommaUptoCard

/-- THE SECOND FORM's CARD OF 'laws.FnExactCommasWithin'. -/
def fnExactCommasWithinUptoCard : Claim7 := { stood := { row := fnExactCommasWithinUptoRow, standIns := [], harness := (true, "3f4a71df1f542aee202acb5e9d79598853e469a56220e13ed13d80b3983d80e2"), looks := true }, kinds := [], alts := [], laidByText := true, laidKinds := [.sentinel], laidTests := true, laidLooks := .later }
def FnExactCommasWithinUptoCardSaid : Prop := Claim7.holds Tryd.pinned (.plain (OpenSpec.upto fnExactCommasWithinSpec)) fnExactCommasWithinUptoCard
end Rows
end Go.Proofs.YtdnlebijmiaclabDoor
