/-
  DERIVED. GIVEN WITH THE SEED: THE CARDS: each row of YtnlfmiheapcodaaDoorRows.lean that lists a variable, with what it lists TIED to the program's text (the seventh form; the later family's looks); each row that meets fmt, with fmt's text TOLD by the authors' own Lean function (tested against real Go, not proved from fmt's source: count such statements apart). THE CARD IS WHAT COUNTS. Prove the row's statement (the work); the ties are given (YtnlfmiheapcodaaDoorTie.lean); close each card by the builder's one call (the guide's Derived/Test/ToyasCard.lean, 'card_holds'). Laid BY PROGRAM, IN A SANDBOX (cutbox-door.mjs). By AI agents, Wed Nov 11 2026. No macro, syntax, notation, axiom, sorry.
-/
import Derived.Test.YtnlfmiheapcodaaDoorRows
import GoSem.ClaimSeven
namespace Go.Proofs.YtnlfmiheapcodaaDoor
namespace Rows

/-- THE TIED CARD OF 'laws.FnExactIsWideThird'. -/
def fnExactIsWideThirdCard : Claim7 := { stood := { row := fnExactIsWideThirdRow, standIns := [], harness := (true, "bd25a022b7ea8ca8e609cac2ffbf02ec85935890c4d03ed83d91dd90ce152450"), looks := true }, kinds := [], alts := [], laidByText := true, laidKinds := [.sentinel], laidTests := true, laidLooks := .later }
def FnExactIsWideThirdCardSaid : Prop := Claim7.holds Tryd.pinned (.plain (OpenSpec.ofChange fnExactIsWideThirdSpec)) fnExactIsWideThirdCard

/-- THE TIED CARD OF 'laws.FnThirds'. -/
def fnThirdsCard : Claim7 := { stood := { row := fnThirdsRow, standIns := [], harness := (true, "bd25a022b7ea8ca8e609cac2ffbf02ec85935890c4d03ed83d91dd90ce152450"), looks := true }, kinds := [], alts := [], laidByText := true, laidKinds := [.sentinel], laidTests := true, laidLooks := .later }
def FnThirdsCardSaid : Prop := Claim7.holds Tryd.pinned (.plain (OpenSpec.ofChange fnThirdsSpec)) fnThirdsCard

/-- THE SECOND FORM's CARD OF 'laws.FnExactIsWideThird'. -/
def fnExactIsWideThirdUptoCard : Claim7 := { stood := { row := fnExactIsWideThirdUptoRow, standIns := [], harness := (true, "bd25a022b7ea8ca8e609cac2ffbf02ec85935890c4d03ed83d91dd90ce152450"), looks := true }, kinds := [], alts := [], laidByText := true, laidKinds := [.sentinel], laidTests := true, laidLooks := .later }
def FnExactIsWideThirdUptoCardSaid : Prop := Claim7.holds Tryd.pinned (.plain (OpenSpec.upto fnExactIsWideThirdSpec)) fnExactIsWideThirdUptoCard

/-- THE SECOND FORM's CARD OF 'laws.FnThirds'. -/
def fnThirdsUptoCard : Claim7 := { stood := { row := fnThirdsUptoRow, standIns := [], harness := (true, "bd25a022b7ea8ca8e609cac2ffbf02ec85935890c4d03ed83d91dd90ce152450"), looks := true }, kinds := [], alts := [], laidByText := true, laidKinds := [.sentinel], laidTests := true, laidLooks := .later }
def FnThirdsUptoCardSaid : Prop := Claim7.holds Tryd.pinned (.plain (OpenSpec.upto fnThirdsSpec)) fnThirdsUptoCard
end Rows
end Go.Proofs.YtnlfmiheapcodaaDoor
