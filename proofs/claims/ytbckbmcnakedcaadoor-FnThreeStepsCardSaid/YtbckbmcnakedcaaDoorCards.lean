/-
  DERIVED. GIVEN WITH THE SEED: THE CARDS: each row of YtbckbmcnakedcaaDoorRows.lean that lists a variable, with what it lists TIED to the program's text (the seventh form; the later family's looks); each row that meets fmt, with fmt's text TOLD by the authors' own Lean function (tested against real Go, not proved from fmt's source: count such statements apart). THE CARD IS WHAT COUNTS. Prove the row's statement (the work); the ties are given (YtbckbmcnakedcaaDoorTie.lean); close each card by the builder's one call (the guide's Derived/Test/ToyasCard.lean, 'card_holds'). Laid BY PROGRAM, IN A SANDBOX (cutbox-door.mjs). By AI agents, Wed Nov 11 2026. No macro, syntax, notation, axiom, sorry.
-/
import Derived.Test.YtbckbmcnakedcaaDoorRows
import GoSem.ClaimSeven
namespace Go.Proofs.YtbckbmcnakedcaaDoor
namespace Rows

/-- THE TIED CARD OF 'laws.FnFifths'. -/
def fnFifthsCard : Claim7 := { stood := { row := fnFifthsRow, standIns := [], harness := (true, "2e4e81d249f6db0cc6e5a2ac64e2c6cffe5e17dc24ab266758a97989b4cfe15b"), looks := true }, kinds := [], alts := [], laidByText := true, laidKinds := [.sentinel], laidTests := true, laidLooks := .later }
def FnFifthsCardSaid : Prop := Claim7.holds Tryd.pinned (.plain (OpenSpec.ofChange fnFifthsSpec)) fnFifthsCard

/-- THE TIED CARD OF 'laws.FnThreeSteps'. -/
def fnThreeStepsCard : Claim7 := { stood := { row := fnThreeStepsRow, standIns := [], harness := (true, "2e4e81d249f6db0cc6e5a2ac64e2c6cffe5e17dc24ab266758a97989b4cfe15b"), looks := true }, kinds := [], alts := [], laidByText := true, laidKinds := [.sentinel], laidTests := true, laidLooks := .later }
def FnThreeStepsCardSaid : Prop := Claim7.holds Tryd.pinned (.plain (OpenSpec.ofChange fnThreeStepsSpec)) fnThreeStepsCard

/-- THE TIED CARD OF 'laws.FnExactChainOf'. -/
def fnExactChainOfCard : Claim7 := { stood := { row := fnExactChainOfRow, standIns := [], harness := (true, "2e4e81d249f6db0cc6e5a2ac64e2c6cffe5e17dc24ab266758a97989b4cfe15b"), looks := true }, kinds := [], alts := [], laidByText := true, laidKinds := [.sentinel], laidTests := true, laidLooks := .later }
def FnExactChainOfCardSaid : Prop := Claim7.holds Tryd.pinned (.plain (OpenSpec.ofChange fnExactChainOfSpec)) fnExactChainOfCard

/-- THE TIED CARD OF 'laws.FnOctaves'. -/
def fnOctavesCard : Claim7 := { stood := { row := fnOctavesRow, standIns := [], harness := (true, "2e4e81d249f6db0cc6e5a2ac64e2c6cffe5e17dc24ab266758a97989b4cfe15b"), looks := true }, kinds := [], alts := [], laidByText := true, laidKinds := [.sentinel], laidTests := true, laidLooks := .later }
def FnOctavesCardSaid : Prop := Claim7.holds Tryd.pinned (.plain (OpenSpec.ofChange fnOctavesSpec)) fnOctavesCard

/-- THE SECOND FORM's CARD OF 'laws.FnFifths'. -/
def fnFifthsUptoCard : Claim7 := { stood := { row := fnFifthsUptoRow, standIns := [], harness := (true, "2e4e81d249f6db0cc6e5a2ac64e2c6cffe5e17dc24ab266758a97989b4cfe15b"), looks := true }, kinds := [], alts := [], laidByText := true, laidKinds := [.sentinel], laidTests := true, laidLooks := .later }
def FnFifthsUptoCardSaid : Prop := Claim7.holds Tryd.pinned (.plain (OpenSpec.upto fnFifthsSpec)) fnFifthsUptoCard

/-- THE SECOND FORM's CARD OF 'laws.FnThreeSteps'. -/
def fnThreeStepsUptoCard : Claim7 := { stood := { row := fnThreeStepsUptoRow, standIns := [], harness := (true, "2e4e81d249f6db0cc6e5a2ac64e2c6cffe5e17dc24ab266758a97989b4cfe15b"), looks := true }, kinds := [], alts := [], laidByText := true, laidKinds := [.sentinel], laidTests := true, laidLooks := .later }
def FnThreeStepsUptoCardSaid : Prop := Claim7.holds Tryd.pinned (.plain (OpenSpec.upto fnThreeStepsSpec)) fnThreeStepsUptoCard

/-- THE SECOND FORM's CARD OF 'laws.FnExactChainOf'. -/
def fnExactChainOfUptoCard : Claim7 := { stood := { row := fnExactChainOfUptoRow, standIns := [], harness := (true, "2e4e81d249f6db0cc6e5a2ac64e2c6cffe5e17dc24ab266758a97989b4cfe15b"), looks := true }, kinds := [], alts := [], laidByText := true, laidKinds := [.sentinel], laidTests := true, laidLooks := .later }
def FnExactChainOfUptoCardSaid : Prop := Claim7.holds Tryd.pinned (.plain (OpenSpec.upto fnExactChainOfSpec)) fnExactChainOfUptoCard

/-- THE SECOND FORM's CARD OF 'laws.FnOctaves'. -/
def fnOctavesUptoCard : Claim7 := { stood := { row := fnOctavesUptoRow, standIns := [], harness := (true, "2e4e81d249f6db0cc6e5a2ac64e2c6cffe5e17dc24ab266758a97989b4cfe15b"), looks := true }, kinds := [], alts := [], laidByText := true, laidKinds := [.sentinel], laidTests := true, laidLooks := .later }
def FnOctavesUptoCardSaid : Prop := Claim7.holds Tryd.pinned (.plain (OpenSpec.upto fnOctavesSpec)) fnOctavesUptoCard
end Rows
end Go.Proofs.YtbckbmcnakedcaaDoor
