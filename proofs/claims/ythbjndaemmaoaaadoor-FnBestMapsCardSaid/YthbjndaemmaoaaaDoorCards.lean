/-
  DERIVED. GIVEN WITH THE SEED: THE CARDS: each row of YthbjndaemmaoaaaDoorRows.lean that lists a variable, with what it lists TIED to the program's text (the seventh form; the later family's looks); each row that meets fmt, with fmt's text TOLD by the authors' own Lean function (tested against real Go, not proved from fmt's source: count such statements apart). THE CARD IS WHAT COUNTS. Prove the row's statement (the work); the ties are given (YthbjndaemmaoaaaDoorTie.lean); close each card by the builder's one call (the guide's Derived/Test/ToyasCard.lean, 'card_holds'). Laid BY PROGRAM, IN A SANDBOX (cutbox-door.mjs). By AI agents, Wed Nov 11 2026. No macro, syntax, notation, axiom, sorry.
-/
import Derived.Test.YthbjndaemmaoaaaDoorRows
import GoSem.ClaimSeven
namespace Go.Proofs.YthbjndaemmaoaaaDoor
namespace Rows

/-- THE TIED CARD OF 'laws.FnBestMaps'. -/
def fnBestMapsCard : Claim7 := { stood := { row := fnBestMapsRow, standIns := [], harness := (true, "40779bc6224f9f880edb4e934c915935510d227f3d98a3dd486db6b241c48d9e"), looks := true }, kinds := [], alts := [], laidByText := true, laidKinds := [.sentinel], laidTests := true, laidLooks := .later }
def FnBestMapsCardSaid : Prop := Claim7.holds Tryd.pinned (.plain (OpenSpec.ofChange fnBestMapsSpec)) fnBestMapsCard

/-- THE SECOND FORM's CARD OF 'laws.FnBestMaps'. -/
def fnBestMapsUptoCard : Claim7 := { stood := { row := fnBestMapsUptoRow, standIns := [], harness := (true, "40779bc6224f9f880edb4e934c915935510d227f3d98a3dd486db6b241c48d9e"), looks := true }, kinds := [], alts := [], laidByText := true, laidKinds := [.sentinel], laidTests := true, laidLooks := .later }
def FnBestMapsUptoCardSaid : Prop := Claim7.holds Tryd.pinned (.plain (OpenSpec.upto fnBestMapsSpec)) fnBestMapsUptoCard
end Rows
end Go.Proofs.YthbjndaemmaoaaaDoor
