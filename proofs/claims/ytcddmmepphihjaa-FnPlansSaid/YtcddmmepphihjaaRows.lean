/-
  No cell of these rows narrows 'for every input' (looked for: loops, veiled, ifaces, maps, wideKeys, modest, calm, conditions, laid).
  DERIVED. THE GIVEN ROWS OF THIS SEAT. 8 by the template 'for every input the law returns true; each argument reads behind the call as it read before'; 0 by the template 'total and deterministic' (their statements: YtcddmmepphihjaaTotals.lean).
  GIVEN WITH THE SEED: the statements are not yours to turn. If you find one false, say at which input.
  Laid BY PROGRAM, IN A SANDBOX (cutbox-rows.mjs): the forced cells as the released guide's own fill.sh prints them over the translation 05547224f044f61b… (all of the seat's roots in one cut). By AI agents, Wed Nov 11 2026. No macro, syntax, notation, axiom, sorry.
-/
import Derived.Test.YtcddmmepphihjaaChecked
import GoSem.Claim
import GoSem.ClaimJoined
import GoSem.ClaimMapViews
import Derived.JoinedTies
import Derived.KernelRfl
namespace Go.Proofs.Ytcddmmepphihjaa
/- THE CELL 'sum', in the pinned program and in every row, IS THE sha256 OF THE DUMP (.gsa) THAT YtcddmmepphihjaaProg.lean LOADS. Nothing in Lean hashes anything: it is a label: what it is worth is what the hold of that sum in a sandbox is worth. -/
noncomputable def Try.pinned : Pinned := { name := "ytcddmmepphihjaa", sum := "05547224f044f61b9ad7c688e7fb250363f0fb747db117bc08c632339d97376a", checked := Try.checked }
namespace Rows
def none {H : Type} : Left H := { results := [], args := [] }

/-- 'laws.FnTuned': WHATEVER THE INPUT: true; the input reads as it did. -/
def fnTunedSpec : ChangeSpec := { name := "fnTuned", fn := fun _ => fun
  | [d] => { results := [.lit (.bool true)], args := [d] }
  | _ => none }
def fnTunedRow : OpenClaim := { program := "ytcddmmepphihjaa", sum := "05547224f044f61b9ad7c688e7fb250363f0fb747db117bc08c632339d97376a", func := "loop.example/g00989/laws.FnTuned", spec := "fnTuned", unfollowed := true, recurses := true, apart := false }
def FnTunedSaid : Prop := fnTunedRow.holds Try.pinned (OpenSpec.ofChange fnTunedSpec)

/-- ITS FALSE NEIGHBOUR: 'it returns false'. Refute it at one input. -/
def fnTunedWrong : ChangeSpec := { name := "fnTuned", fn := fun _ => fun
  | [d] => { results := [.lit (.bool false)], args := [d] }
  | _ => none }
def FnTunedWrongFalsely : Prop := fnTunedRow.holds Try.pinned (OpenSpec.ofChange fnTunedWrong)

/-- 'laws.FnPlans': WHATEVER THE INPUT: true; the input reads as it did. -/
def fnPlansSpec : ChangeSpec := { name := "fnPlans", fn := fun _ => fun
  | [d] => { results := [.lit (.bool true)], args := [d] }
  | _ => none }
def fnPlansRow : OpenClaim := { program := "ytcddmmepphihjaa", sum := "05547224f044f61b9ad7c688e7fb250363f0fb747db117bc08c632339d97376a", func := "loop.example/g00989/laws.FnPlans", spec := "fnPlans", unfollowed := true, recurses := true, apart := false }
def FnPlansSaid : Prop := fnPlansRow.holds Try.pinned (OpenSpec.ofChange fnPlansSpec)

/-- ITS FALSE NEIGHBOUR: 'it returns false'. Refute it at one input. -/
def fnPlansWrong : ChangeSpec := { name := "fnPlans", fn := fun _ => fun
  | [d] => { results := [.lit (.bool false)], args := [d] }
  | _ => none }
def FnPlansWrongFalsely : Prop := fnPlansRow.holds Try.pinned (OpenSpec.ofChange fnPlansWrong)

/-- 'laws.FnExactIsNarrow': WHATEVER THE INPUT: true; the input reads as it did. -/
def fnExactIsNarrowSpec : ChangeSpec := { name := "fnExactIsNarrow", fn := fun _ => fun
  | [d1, d2, d3] => { results := [.lit (.bool true)], args := [d1, d2, d3] }
  | _ => none }
def fnExactIsNarrowRow : OpenClaim := { program := "ytcddmmepphihjaa", sum := "05547224f044f61b9ad7c688e7fb250363f0fb747db117bc08c632339d97376a", func := "loop.example/g00989/laws.FnExactIsNarrow", spec := "fnExactIsNarrow", unfollowed := true, recurses := true, apart := false }
def FnExactIsNarrowSaid : Prop := fnExactIsNarrowRow.holds Try.pinned (OpenSpec.ofChange fnExactIsNarrowSpec)

/-- ITS FALSE NEIGHBOUR: 'it returns false'. Refute it at one input. -/
def fnExactIsNarrowWrong : ChangeSpec := { name := "fnExactIsNarrow", fn := fun _ => fun
  | [d1, d2, d3] => { results := [.lit (.bool false)], args := [d1, d2, d3] }
  | _ => none }
def FnExactIsNarrowWrongFalsely : Prop := fnExactIsNarrowRow.holds Try.pinned (OpenSpec.ofChange fnExactIsNarrowWrong)

/-- 'laws.FnExactPlanOk': WHATEVER THE INPUT: true; the input reads as it did. -/
def fnExactPlanOkSpec : ChangeSpec := { name := "fnExactPlanOk", fn := fun _ => fun
  | [d] => { results := [.lit (.bool true)], args := [d] }
  | _ => none }
def fnExactPlanOkRow : OpenClaim := { program := "ytcddmmepphihjaa", sum := "05547224f044f61b9ad7c688e7fb250363f0fb747db117bc08c632339d97376a", func := "loop.example/g00989/laws.FnExactPlanOk", spec := "fnExactPlanOk", apart := false }
def FnExactPlanOkSaid : Prop := fnExactPlanOkRow.holds Try.pinned (OpenSpec.ofChange fnExactPlanOkSpec)

/-- ITS FALSE NEIGHBOUR: 'it returns false'. Refute it at one input. -/
def fnExactPlanOkWrong : ChangeSpec := { name := "fnExactPlanOk", fn := fun _ => fun
  | [d] => { results := [.lit (.bool false)], args := [d] }
  | _ => none }
def FnExactPlanOkWrongFalsely : Prop := fnExactPlanOkRow.holds Try.pinned (OpenSpec.ofChange fnExactPlanOkWrong)

/-- 'laws.FnExactRunPlan': WHATEVER THE INPUT: true; the input reads as it did. -/
def fnExactRunPlanSpec : ChangeSpec := { name := "fnExactRunPlan", fn := fun _ => fun
  | [d1, d2] => { results := [.lit (.bool true)], args := [d1, d2] }
  | _ => none }
def fnExactRunPlanRow : OpenClaim := { program := "ytcddmmepphihjaa", sum := "05547224f044f61b9ad7c688e7fb250363f0fb747db117bc08c632339d97376a", func := "loop.example/g00989/laws.FnExactRunPlan", spec := "fnExactRunPlan", unfollowed := true, recurses := true, apart := false }
def FnExactRunPlanSaid : Prop := fnExactRunPlanRow.holds Try.pinned (OpenSpec.ofChange fnExactRunPlanSpec)

/-- ITS FALSE NEIGHBOUR: 'it returns false'. Refute it at one input. -/
def fnExactRunPlanWrong : ChangeSpec := { name := "fnExactRunPlan", fn := fun _ => fun
  | [d1, d2] => { results := [.lit (.bool false)], args := [d1, d2] }
  | _ => none }
def FnExactRunPlanWrongFalsely : Prop := fnExactRunPlanRow.holds Try.pinned (OpenSpec.ofChange fnExactRunPlanWrong)

/-- 'laws.FnExactKeysTuned': WHATEVER THE INPUT: true; the input reads as it did. -/
def fnExactKeysTunedSpec : ChangeSpec := { name := "fnExactKeysTuned", fn := fun _ => fun
  | [d] => { results := [.lit (.bool true)], args := [d] }
  | _ => none }
def fnExactKeysTunedRow : OpenClaim := { program := "ytcddmmepphihjaa", sum := "05547224f044f61b9ad7c688e7fb250363f0fb747db117bc08c632339d97376a", func := "loop.example/g00989/laws.FnExactKeysTuned", spec := "fnExactKeysTuned", apart := false }
def FnExactKeysTunedSaid : Prop := fnExactKeysTunedRow.holds Try.pinned (OpenSpec.ofChange fnExactKeysTunedSpec)

/-- ITS FALSE NEIGHBOUR: 'it returns false'. Refute it at one input. -/
def fnExactKeysTunedWrong : ChangeSpec := { name := "fnExactKeysTuned", fn := fun _ => fun
  | [d] => { results := [.lit (.bool false)], args := [d] }
  | _ => none }
def FnExactKeysTunedWrongFalsely : Prop := fnExactKeysTunedRow.holds Try.pinned (OpenSpec.ofChange fnExactKeysTunedWrong)

/-- 'laws.FnExactUsualPlan': WHATEVER THE INPUT: true; the input reads as it did. -/
def fnExactUsualPlanSpec : ChangeSpec := { name := "fnExactUsualPlan", fn := fun _ => fun
  | [d] => { results := [.lit (.bool true)], args := [d] }
  | _ => none }
def fnExactUsualPlanRow : OpenClaim := { program := "ytcddmmepphihjaa", sum := "05547224f044f61b9ad7c688e7fb250363f0fb747db117bc08c632339d97376a", func := "loop.example/g00989/laws.FnExactUsualPlan", spec := "fnExactUsualPlan", apart := false }
def FnExactUsualPlanSaid : Prop := fnExactUsualPlanRow.holds Try.pinned (OpenSpec.ofChange fnExactUsualPlanSpec)

/-- ITS FALSE NEIGHBOUR: 'it returns false'. Refute it at one input. -/
def fnExactUsualPlanWrong : ChangeSpec := { name := "fnExactUsualPlan", fn := fun _ => fun
  | [d] => { results := [.lit (.bool false)], args := [d] }
  | _ => none }
def FnExactUsualPlanWrongFalsely : Prop := fnExactUsualPlanRow.holds Try.pinned (OpenSpec.ofChange fnExactUsualPlanWrong)

/-- 'laws.FnExactClosingBeats': WHATEVER THE INPUT: true; the input reads as it did. -/
def fnExactClosingBeatsSpec : ChangeSpec := { name := "fnExactClosingBeats", fn := fun _ => fun
  | [d1, d2] => { results := [.lit (.bool true)], args := [d1, d2] }
  | _ => none }
def fnExactClosingBeatsRow : OpenClaim := { program := "ytcddmmepphihjaa", sum := "05547224f044f61b9ad7c688e7fb250363f0fb747db117bc08c632339d97376a", func := "loop.example/g00989/laws.FnExactClosingBeats", spec := "fnExactClosingBeats", unfollowed := true, recurses := true, apart := false }
def FnExactClosingBeatsSaid : Prop := fnExactClosingBeatsRow.holds Try.pinned (OpenSpec.ofChange fnExactClosingBeatsSpec)

/-- ITS FALSE NEIGHBOUR: 'it returns false'. Refute it at one input. -/
def fnExactClosingBeatsWrong : ChangeSpec := { name := "fnExactClosingBeats", fn := fun _ => fun
  | [d1, d2] => { results := [.lit (.bool false)], args := [d1, d2] }
  | _ => none }
def FnExactClosingBeatsWrongFalsely : Prop := fnExactClosingBeatsRow.holds Try.pinned (OpenSpec.ofChange fnExactClosingBeatsWrong)

/- THE SECOND FORM. 'bulk': how many values and letters a reading holds, each counted each time it is reached (what is shared counts as often as it is met; a slice's spare places count too). A statement '..UptoSaid' is the law's where the arguments, and the package variables that the reading takes, are together of bulk at most 1048576: NARROWER than '..Said'. Prove '..Said' where nothing that the law and all that it calls make is longer than what came in: it says more and counts as full. Else prove '..UptoSaid'. A law counts once. -/
mutual
def uptoBulk {H : Type} : DataW H → Nat
  | .lit (.string bytes) => bytes.length + 1
  | .lit _ => 1
  | .nil => 1
  | .ptr d => uptoBulk d + 1
  | .slice elems spare => uptoBulkAll elems + uptoBulkAll spare + 1
  | .agg parts => uptoBulkAll parts + 1
  | .iface _ d => uptoBulk d + 1
  | .map entries => uptoBulkEntries entries + 1
  | .held _ => 1
def uptoBulkAll {H : Type} : List (DataW H) → Nat
  | [] => 0
  | d :: r => uptoBulk d + uptoBulkAll r
def uptoBulkEntries {H : Type} : List (Lit × DataW H) → Nat
  | [] => 0
  | x :: r => uptoBulkEntry x + uptoBulkEntries r
def uptoBulkEntry {H : Type} : Lit × DataW H → Nat
  | (.string bytes, d) => bytes.length + uptoBulk d + 1
  | (_, d) => uptoBulk d + 1
 end
def uptoSmall : (H : Type) → List (DataW H) → Bool := fun _ ds => decide (uptoBulkAll ds ≤ 1048576)
def OpenSpec.upto (s : _root_.Go.ChangeSpec) : _root_.Go.OpenSpec := { _root_.Go.OpenSpec.ofChange s with cond := some uptoSmall }

/-- 'laws.FnTuned', WHERE WHAT IT READS IS OF BULK AT MOST 1048576: true; the input reads as it did. -/
def fnTunedUptoRow : OpenClaim := { program := "ytcddmmepphihjaa", sum := "05547224f044f61b9ad7c688e7fb250363f0fb747db117bc08c632339d97376a", func := "loop.example/g00989/laws.FnTuned", spec := "fnTuned", unfollowed := true, recurses := true, apart := false, narrowed := true }
def FnTunedUptoSaid : Prop := fnTunedUptoRow.holds Try.pinned (OpenSpec.upto fnTunedSpec)

/-- 'laws.FnPlans', WHERE WHAT IT READS IS OF BULK AT MOST 1048576: true; the input reads as it did. -/
def fnPlansUptoRow : OpenClaim := { program := "ytcddmmepphihjaa", sum := "05547224f044f61b9ad7c688e7fb250363f0fb747db117bc08c632339d97376a", func := "loop.example/g00989/laws.FnPlans", spec := "fnPlans", unfollowed := true, recurses := true, apart := false, narrowed := true }
def FnPlansUptoSaid : Prop := fnPlansUptoRow.holds Try.pinned (OpenSpec.upto fnPlansSpec)

/-- 'laws.FnExactIsNarrow', WHERE WHAT IT READS IS OF BULK AT MOST 1048576: true; the input reads as it did. -/
def fnExactIsNarrowUptoRow : OpenClaim := { program := "ytcddmmepphihjaa", sum := "05547224f044f61b9ad7c688e7fb250363f0fb747db117bc08c632339d97376a", func := "loop.example/g00989/laws.FnExactIsNarrow", spec := "fnExactIsNarrow", unfollowed := true, recurses := true, apart := false, narrowed := true }
def FnExactIsNarrowUptoSaid : Prop := fnExactIsNarrowUptoRow.holds Try.pinned (OpenSpec.upto fnExactIsNarrowSpec)

/-- 'laws.FnExactPlanOk', WHERE WHAT IT READS IS OF BULK AT MOST 1048576: true; the input reads as it did. -/
def fnExactPlanOkUptoRow : OpenClaim := { program := "ytcddmmepphihjaa", sum := "05547224f044f61b9ad7c688e7fb250363f0fb747db117bc08c632339d97376a", func := "loop.example/g00989/laws.FnExactPlanOk", spec := "fnExactPlanOk", apart := false, narrowed := true }
def FnExactPlanOkUptoSaid : Prop := fnExactPlanOkUptoRow.holds Try.pinned (OpenSpec.upto fnExactPlanOkSpec)

/-- 'laws.FnExactRunPlan', WHERE WHAT IT READS IS OF BULK AT MOST 1048576: true; the input reads as it did. -/
def fnExactRunPlanUptoRow : OpenClaim := { program := "ytcddmmepphihjaa", sum := "05547224f044f61b9ad7c688e7fb250363f0fb747db117bc08c632339d97376a", func := "loop.example/g00989/laws.FnExactRunPlan", spec := "fnExactRunPlan", unfollowed := true, recurses := true, apart := false, narrowed := true }
def FnExactRunPlanUptoSaid : Prop := fnExactRunPlanUptoRow.holds Try.pinned (OpenSpec.upto fnExactRunPlanSpec)

/-- 'laws.FnExactKeysTuned', WHERE WHAT IT READS IS OF BULK AT MOST 1048576: true; the input reads as it did. -/
def fnExactKeysTunedUptoRow : OpenClaim := { program := "ytcddmmepphihjaa", sum := "05547224f044f61b9ad7c688e7fb250363f0fb747db117bc08c632339d97376a", func := "loop.example/g00989/laws.FnExactKeysTuned", spec := "fnExactKeysTuned", apart := false, narrowed := true }
def FnExactKeysTunedUptoSaid : Prop := fnExactKeysTunedUptoRow.holds Try.pinned (OpenSpec.upto fnExactKeysTunedSpec)

/-- 'laws.FnExactUsualPlan', WHERE WHAT IT READS IS OF BULK AT MOST 1048576: true; the input reads as it did. -/
def fnExactUsualPlanUptoRow : OpenClaim := { program := "ytcddmmepphihjaa", sum := "05547224f044f61b9ad7c688e7fb250363f0fb747db117bc08c632339d97376a", func := "loop.example/g00989/laws.FnExactUsualPlan", spec := "fnExactUsualPlan", apart := false, narrowed := true }
def FnExactUsualPlanUptoSaid : Prop := fnExactUsualPlanUptoRow.holds Try.pinned (OpenSpec.upto fnExactUsualPlanSpec)

/-- 'laws.FnExactClosingBeats', WHERE WHAT IT READS IS OF BULK AT MOST 1048576: true; the input reads as it did. -/
def fnExactClosingBeatsUptoRow : OpenClaim := { program := "ytcddmmepphihjaa", sum := "05547224f044f61b9ad7c688e7fb250363f0fb747db117bc08c632339d97376a", func := "loop.example/g00989/laws.FnExactClosingBeats", spec := "fnExactClosingBeats", unfollowed := true, recurses := true, apart := false, narrowed := true }
def FnExactClosingBeatsUptoSaid : Prop := fnExactClosingBeatsUptoRow.holds Try.pinned (OpenSpec.upto fnExactClosingBeatsSpec)

end Rows
end Go.Proofs.Ytcddmmepphihjaa
