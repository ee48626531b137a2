/-
  DERIVED. GIVEN WITH THE SEED: THE CARDS: each row of YtpagmeekbdiaoaaDoorRows.lean that lists a variable, with what it lists TIED to the program's text (the seventh form; the later family's looks); each row that meets fmt, with fmt's text TOLD by the authors' own Lean function (tested against real Go, not proved from fmt's source: count such statements apart). THE CARD IS WHAT COUNTS. Prove the row's statement (the work); the ties are given (YtpagmeekbdiaoaaDoorTie.lean); close each card by the builder's one call (the guide's Derived/Test/ToyasCard.lean, 'card_holds'). Laid BY PROGRAM, IN A SANDBOX (cutbox-door.mjs). By AI agents, Wed Nov 11 2026. No macro, syntax, notation, axiom, sorry.
-/
import Derived.Test.YtpagmeekbdiaoaaDoorRows
import GoSem.ClaimSeven
namespace Go.Proofs.YtpagmeekbdiaoaaDoor
namespace Rows

/-- THE TIED CARD OF 'laws.FnBigs'. -/
def fnBigsCard : Claim7 := { stood := { row := fnBigsRow, standIns := [], harness := (true, "945ef9aff2321d5db15c43330748e8671cc23dbed174e23ac6889ce6a042bfa5"), looks := true }, kinds := [], alts := [], laidByText := true, laidKinds := [.data, .data, .data], laidTests := true, laidLooks := .later }
def FnBigsCardSaid : Prop := Claim7.holds Tryd.pinned (.plain (OpenSpec.ofChange fnBigsSpec)) fnBigsCard

/-- THE TIED CARD OF 'laws.FnOrder'. -/
def fnOrderCard : Claim7 := { stood := { row := fnOrderRow, standIns := [], harness := (true, "945ef9aff2321d5db15c43330748e8671cc23dbed174e23ac6889ce6a042bfa5"), looks := true }, kinds := [], alts := [], laidByText := true, laidKinds := [.sentinel], laidTests := true, laidLooks := .later }
def FnOrderCardSaid : Prop := Claim7.holds Tryd.pinned (.plain (OpenSpec.ofChange fnOrderSpec)) fnOrderCard

/-- THE TIED CARD OF 'laws.FnSameSizes'. -/
def fnSameSizesCard : Claim7 := { stood := { row := fnSameSizesRow, standIns := [], harness := (true, "945ef9aff2321d5db15c43330748e8671cc23dbed174e23ac6889ce6a042bfa5"), looks := true }, kinds := [], alts := [], laidByText := true, laidKinds := [.sentinel], laidTests := true, laidLooks := .later }
def FnSameSizesCardSaid : Prop := Claim7.holds Tryd.pinned (.plain (OpenSpec.ofChange fnSameSizesSpec)) fnSameSizesCard

/-- THE TIED CARD OF 'laws.FnExactCompareIntervals'. -/
def fnExactCompareIntervalsCard : Claim7 := { stood := { row := fnExactCompareIntervalsRow, standIns := [], harness := (true, "945ef9aff2321d5db15c43330748e8671cc23dbed174e23ac6889ce6a042bfa5"), looks := true }, kinds := [], alts := [], laidByText := true, laidKinds := [.sentinel], laidTests := true, laidLooks := .later }
def FnExactCompareIntervalsCardSaid : Prop := Claim7.holds Tryd.pinned (.plain (OpenSpec.ofChange fnExactCompareIntervalsSpec)) fnExactCompareIntervalsCard

/-- THE TIED CARD OF 'laws.FnExactGreatestOf'. -/
def fnExactGreatestOfCard : Claim7 := { stood := { row := fnExactGreatestOfRow, standIns := [], harness := (true, "945ef9aff2321d5db15c43330748e8671cc23dbed174e23ac6889ce6a042bfa5"), looks := true }, kinds := [], alts := [], laidByText := true, laidKinds := [.sentinel], laidTests := true, laidLooks := .later }
def FnExactGreatestOfCardSaid : Prop := Claim7.holds Tryd.pinned (.plain (OpenSpec.ofChange fnExactGreatestOfSpec)) fnExactGreatestOfCard

/-- THE TIED CARD OF 'laws.FnExactIsBetween'. -/
def fnExactIsBetweenCard : Claim7 := { stood := { row := fnExactIsBetweenRow, standIns := [], harness := (true, "945ef9aff2321d5db15c43330748e8671cc23dbed174e23ac6889ce6a042bfa5"), looks := true }, kinds := [], alts := [], laidByText := true, laidKinds := [.sentinel], laidTests := true, laidLooks := .later }
def FnExactIsBetweenCardSaid : Prop := Claim7.holds Tryd.pinned (.plain (OpenSpec.ofChange fnExactIsBetweenSpec)) fnExactIsBetweenCard

/-- THE SECOND FORM's CARD OF 'laws.FnBigs'. -/
def fnBigsUptoCard : Claim7 := { stood := { row := fnBigsUptoRow, standIns := [], harness := (true, "945ef9aff2321d5db15c43330748e8671cc23dbed174e23ac6889ce6a042bfa5"), looks := true }, kinds := [], alts := [], laidByText := true, laidKinds := [.data, .data, .data], laidTests := true, laidLooks := .later }
def FnBigsUptoCardSaid : Prop := Claim7.holds Tryd.pinned (.plain (OpenSpec.upto fnBigsSpec)) fnBigsUptoCard

/-- THE SECOND FORM's CARD OF 'laws.FnOrder'. -/
def fnOrderUptoCard : Claim7 := { stood := { row := fnOrderUptoRow, standIns := [], harness := (true, "945ef9aff2321d5db15c43330748e8671cc23dbed174e23ac6889ce6a042bfa5"), looks := true }, kinds := [], alts := [], laidByText := true, laidKinds := [.sentinel], laidTests := true, laidLooks := .later }
def FnOrderUptoCardSaid : Prop := Claim7.holds Tryd.pinned (.plain (OpenSpec.upto fnOrderSpec)) fnOrderUptoCard

/-- THE SECOND FORM's CARD OF 'laws.FnSameSizes'. -/
def fnSameSizesUptoCard : Claim7 := { stood := { row := fnSameSizesUptoRow, standIns := [], harness := (true, "945ef9aff2321d5db15c43330748e8671cc23dbed174e23ac6889ce6a042bfa5"), looks := true }, kinds := [], alts := [], laidByText := true, laidKinds := [.sentinel], laidTests := true, laidLooks := .later }
def FnSameSizesUptoCardSaid : Prop := Claim7.holds Tryd.pinned (.plain (OpenSpec.upto fnSameSizesSpec)) fnSameSizesUptoCard

/-- THE SECOND FORM's CARD OF 'laws.FnExactCompareIntervals'. -/
def fnExactCompareIntervalsUptoCard : Claim7 := { stood := { row := fnExactCompareIntervalsUptoRow, standIns := [], harness := (true, "945ef9aff2321d5db15c43330748e8671cc23dbed174e23ac6889ce6a042bfa5"), looks := true }, kinds := [], alts := [], laidByText := true, laidKinds := [.sentinel], laidTests := true, laidLooks := .later }
def FnExactCompareIntervalsUptoCardSaid : Prop := Claim7.holds Tryd.pinned (.plain (OpenSpec.upto fnExactCompareIntervalsSpec)) fnExactCompareIntervalsUptoCard

/-- THE SECOND FORM's CARD OF 'laws.FnExactGreatestOf'. -/
def fnExactGreatestOfUptoCard : Claim7 := { stood := { row := fnExactGreatestOfUptoRow, standIns := [], harness := (true, "945ef9aff2321d5db15c43330748e8671cc23dbed174e23ac6889ce6a042bfa5"), looks := true }, kinds := [], alts := [], laidByText := true, laidKinds := [.sentinel], laidTests := true, laidLooks := .later }
def FnExactGreatestOfUptoCardSaid : Prop := Claim7.holds Tryd.pinned (.plain (OpenSpec.upto fnExactGreatestOfSpec)) fnExactGreatestOfUptoCard

/-- THE SECOND FORM's CARD OF 'laws.FnExactIsBetween'. -/
def fnExactIsBetweenUptoCard : Claim7 := { stood := { row := fnExactIsBetweenUptoRow, standIns := [], harness := (true, "945ef9aff2321d5db15c43330748e8671cc23dbed174e23ac6889ce6a042bfa5"), looks := true }, kinds := [], alts := [], laidByText := true, laidKinds := [.sentinel], laidTests := true, laidLooks := .later }
def FnExactIsBetweenUptoCardSaid : Prop := Claim7.holds Tryd.pinned (.plain (OpenSpec.upto fnExactIsBetweenSpec)) fnExactIsBetweenUptoCard
end Rows
end Go.Proofs.YtpagmeekbdiaoaaDoor
