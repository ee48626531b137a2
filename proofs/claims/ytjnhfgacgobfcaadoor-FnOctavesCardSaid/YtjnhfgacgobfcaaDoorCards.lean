/-
  DERIVED. GIVEN WITH THE SEED: THE CARDS: each row of YtjnhfgacgobfcaaDoorRows.lean that lists a variable, with what it lists TIED to the program's text (the seventh form; the later family's looks); each row that meets fmt, with fmt's text TOLD by the authors' own Lean function (tested against real Go, not proved from fmt's source: count such statements apart). THE CARD IS WHAT COUNTS. Prove the row's statement (the work); the ties are given (YtjnhfgacgobfcaaDoorTie.lean); close each card by the builder's one call (the guide's Derived/Test/ToyasCard.lean, 'card_holds'). Laid BY PROGRAM, IN A SANDBOX (cutbox-door.mjs). By AI agents, Wed Nov 11 2026. No macro, syntax, notation, axiom, sorry.
-/
import Derived.Test.YtjnhfgacgobfcaaDoorRows
import GoSem.ClaimSeven
namespace Go.Proofs.YtjnhfgacgobfcaaDoor
namespace Rows

/-- THE TIED CARD OF 'laws.FnOctaves'. -/
def fnOctavesCard : Claim7 := { stood := { row := fnOctavesRow, standIns := [], harness := (true, "1f3efdfd2292ede507d1c3c057a38137f2715ca9220de0996112bc58a05555f1"), looks := true }, kinds := [], alts := [], laidByText := true, laidKinds := [.sentinel], laidTests := true, laidLooks := .later }
def FnOctavesCardSaid : Prop := Claim7.holds Tryd.pinned (.plain (OpenSpec.ofChange fnOctavesSpec)) fnOctavesCard

/-- THE SECOND FORM's CARD OF 'laws.FnOctaves'. -/
def fnOctavesUptoCard : Claim7 := { stood := { row := fnOctavesUptoRow, standIns := [], harness := (true, "1f3efdfd2292ede507d1c3c057a38137f2715ca9220de0996112bc58a05555f1"), looks := true }, kinds := [], alts := [], laidByText := true, laidKinds := [.sentinel], laidTests := true, laidLooks := .later }
def FnOctavesUptoCardSaid : Prop := Claim7.holds Tryd.pinned (.plain (OpenSpec.upto fnOctavesSpec)) fnOctavesUptoCard
end Rows
end Go.Proofs.YtjnhfgacgobfcaaDoor
