/-
  No cell of these rows narrows 'for every input' (looked for: loops, veiled, ifaces, maps, wideKeys, modest, calm, conditions, laid).
  DERIVED. THE GIVEN ROWS OF THIS SEAT. 5 by the template 'for every input the law returns true; each argument reads behind the call as it read before'; 0 by the template 'total and deterministic' (their statements: YtgpdaolpaajomaaTotals.lean).
  GIVEN WITH THE SEED: the statements are not yours to turn. If you find one false, say at which input.
  Laid BY PROGRAM, IN A SANDBOX (cutbox-rows.mjs): the forced cells as the released guide's own fill.sh prints them over the translation a450c23f8c19b000… (all of the seat's roots in one cut). By AI agents, Wed Nov 11 2026. No macro, syntax, notation, axiom, sorry.
-/
import Derived.Test.YtgpdaolpaajomaaChecked
import GoSem.Claim
import GoSem.ClaimJoined
import GoSem.ClaimMapViews
import Derived.JoinedTies
import Derived.KernelRfl
namespace Go.Proofs.Ytgpdaolpaajomaa
/- THE CELL 'sum', in the pinned program and in every row, IS THE sha256 OF THE DUMP (.gsa) THAT YtgpdaolpaajomaaProg.lean LOADS. Nothing in Lean hashes anything: it is a label: what it is worth is what the hold of that sum in a sandbox is worth. -/
noncomputable def Try.pinned : Pinned := { name := "ytgpdaolpaajomaa", sum := "a450c23f8c19b00052a04f37f7d1f1aac533ec96a0927e7958738eafe932aed4", checked := Try.checked }
namespace Rows
def none {H : Type} : Left H := { results := [], args := [] }

/-- 'laws.FnTuned': WHATEVER THE INPUT: true; the input reads as it did. -/
def fnTunedSpec : ChangeSpec := { name := "fnTuned", fn := fun _ => fun
  | [d] => { results := [.lit (.bool true)], args := [d] }
  | _ => none }
def fnTunedRow : OpenClaim := { program := "ytgpdaolpaajomaa", sum := "a450c23f8c19b00052a04f37f7d1f1aac533ec96a0927e7958738eafe932aed4", func := "loop.example/g00989/laws.FnTuned", spec := "fnTuned", unfollowed := true, recurses := true, apart := false }
def FnTunedSaid : Prop := fnTunedRow.holds Try.pinned (OpenSpec.ofChange fnTunedSpec)

/-- ITS FALSE NEIGHBOUR: 'it returns false'. Refute it at one input. -/
def fnTunedWrong : ChangeSpec := { name := "fnTuned", fn := fun _ => fun
  | [d] => { results := [.lit (.bool false)], args := [d] }
  | _ => none }
def FnTunedWrongFalsely : Prop := fnTunedRow.holds Try.pinned (OpenSpec.ofChange fnTunedWrong)

/-- 'laws.FnExactTunedPitch': WHATEVER THE INPUT: true; the input reads as it did. -/
def fnExactTunedPitchSpec : ChangeSpec := { name := "fnExactTunedPitch", fn := fun _ => fun
  | [d1, d2, d3] => { results := [.lit (.bool true)], args := [d1, d2, d3] }
  | _ => none }
def fnExactTunedPitchRow : OpenClaim := { program := "ytgpdaolpaajomaa", sum := "a450c23f8c19b00052a04f37f7d1f1aac533ec96a0927e7958738eafe932aed4", func := "loop.example/g00989/laws.FnExactTunedPitch", spec := "fnExactTunedPitch", unfollowed := true, recurses := true, apart := false }
def FnExactTunedPitchSaid : Prop := fnExactTunedPitchRow.holds Try.pinned (OpenSpec.ofChange fnExactTunedPitchSpec)

/-- ITS FALSE NEIGHBOUR: 'it returns false'. Refute it at one input. -/
def fnExactTunedPitchWrong : ChangeSpec := { name := "fnExactTunedPitch", fn := fun _ => fun
  | [d1, d2, d3] => { results := [.lit (.bool false)], args := [d1, d2, d3] }
  | _ => none }
def FnExactTunedPitchWrongFalsely : Prop := fnExactTunedPitchRow.holds Try.pinned (OpenSpec.ofChange fnExactTunedPitchWrong)

/-- 'laws.FnExactBeatsHeard': WHATEVER THE INPUT: true; the input reads as it did. -/
def fnExactBeatsHeardSpec : ChangeSpec := { name := "fnExactBeatsHeard", fn := fun _ => fun
  | [d1, d2, d3] => { results := [.lit (.bool true)], args := [d1, d2, d3] }
  | _ => none }
def fnExactBeatsHeardRow : OpenClaim := { program := "ytgpdaolpaajomaa", sum := "a450c23f8c19b00052a04f37f7d1f1aac533ec96a0927e7958738eafe932aed4", func := "loop.example/g00989/laws.FnExactBeatsHeard", spec := "fnExactBeatsHeard", unfollowed := true, recurses := true, apart := false }
def FnExactBeatsHeardSaid : Prop := fnExactBeatsHeardRow.holds Try.pinned (OpenSpec.ofChange fnExactBeatsHeardSpec)

/-- ITS FALSE NEIGHBOUR: 'it returns false'. Refute it at one input. -/
def fnExactBeatsHeardWrong : ChangeSpec := { name := "fnExactBeatsHeard", fn := fun _ => fun
  | [d1, d2, d3] => { results := [.lit (.bool false)], args := [d1, d2, d3] }
  | _ => none }
def FnExactBeatsHeardWrongFalsely : Prop := fnExactBeatsHeardRow.holds Try.pinned (OpenSpec.ofChange fnExactBeatsHeardWrong)

/-- 'laws.FnExactIsNarrow': WHATEVER THE INPUT: true; the input reads as it did. -/
def fnExactIsNarrowSpec : ChangeSpec := { name := "fnExactIsNarrow", fn := fun _ => fun
  | [d1, d2, d3] => { results := [.lit (.bool true)], args := [d1, d2, d3] }
  | _ => none }
def fnExactIsNarrowRow : OpenClaim := { program := "ytgpdaolpaajomaa", sum := "a450c23f8c19b00052a04f37f7d1f1aac533ec96a0927e7958738eafe932aed4", func := "loop.example/g00989/laws.FnExactIsNarrow", spec := "fnExactIsNarrow", unfollowed := true, recurses := true, apart := false }
def FnExactIsNarrowSaid : Prop := fnExactIsNarrowRow.holds Try.pinned (OpenSpec.ofChange fnExactIsNarrowSpec)

/-- ITS FALSE NEIGHBOUR: 'it returns false'. Refute it at one input. -/
def fnExactIsNarrowWrong : ChangeSpec := { name := "fnExactIsNarrow", fn := fun _ => fun
  | [d1, d2, d3] => { results := [.lit (.bool false)], args := [d1, d2, d3] }
  | _ => none }
def FnExactIsNarrowWrongFalsely : Prop := fnExactIsNarrowRow.holds Try.pinned (OpenSpec.ofChange fnExactIsNarrowWrong)

/-- 'laws.FnExactKindText': WHATEVER THE INPUT: true; the input reads as it did. -/
def fnExactKindTextSpec : ChangeSpec := { name := "fnExactKindText", fn := fun _ => fun
  | [d] => { results := [.lit (.bool true)], args := [d] }
  | _ => none }
def fnExactKindTextRow : OpenClaim := { program := "ytgpdaolpaajomaa", sum := "a450c23f8c19b00052a04f37f7d1f1aac533ec96a0927e7958738eafe932aed4", func := "loop.example/g00989/laws.FnExactKindText", spec := "fnExactKindText", apart := false }
def FnExactKindTextSaid : Prop := fnExactKindTextRow.holds Try.pinned (OpenSpec.ofChange fnExactKindTextSpec)

/-- ITS FALSE NEIGHBOUR: 'it returns false'. Refute it at one input. -/
def fnExactKindTextWrong : ChangeSpec := { name := "fnExactKindText", fn := fun _ => fun
  | [d] => { results := [.lit (.bool false)], args := [d] }
  | _ => none }
def FnExactKindTextWrongFalsely : Prop := fnExactKindTextRow.holds Try.pinned (OpenSpec.ofChange fnExactKindTextWrong)

/- THE SECOND FORM. 'bulk': how many values and letters a reading holds, each counted each time it is reached (what is shared counts as often as it is met; a slice's spare places count too). A statement '..UptoSaid' is the law's where the arguments, and the package variables that the reading takes, are together of bulk at most 1048576: NARROWER than '..Said'. Prove '..Said' where nothing that the law and all that it calls make is longer than what came in: it says more and counts as full. Else prove '..UptoSaid'. A law counts once. -/
mutual
def uptoBulk {H : Type} : DataW H → Nat
  | .lit (.string bytes) => bytes.length + 1
  | .lit _ => 1
  | .nil => 1
  | .ptr d => uptoBulk d + 1
  | .slice elems spare => uptoBulkAll elems + uptoBulkAll spare + 1
  | .agg parts => uptoBulkAll parts + 1
  | .iface _ d => uptoBulk d + 1
  | .map entries => uptoBulkEntries entries + 1
  | .held _ => 1
def uptoBulkAll {H : Type} : List (DataW H) → Nat
  | [] => 0
  | d :: r => uptoBulk d + uptoBulkAll r
def uptoBulkEntries {H : Type} : List (Lit × DataW H) → Nat
  | [] => 0
  | x :: r => uptoBulkEntry x + uptoBulkEntries r
def uptoBulkEntry {H : Type} : Lit × DataW H → Nat
  | (.string bytes, d) => bytes.length + uptoBulk d + 1
  | (_, d) => uptoBulk d + 1
 end
def uptoSmall : (H : Type) → List (DataW H) → Bool := fun _ ds => decide (uptoBulkAll ds ≤ 1048576)
def OpenSpec.upto (s : _root_.Go.ChangeSpec) : _root_.Go.OpenSpec := { _root_.Go.OpenSpec.ofChange s with cond := some uptoSmall }

/-- 'laws.FnTuned', WHERE WHAT IT READS IS OF BULK AT MOST 1048576: true; the input reads as it did. -/
def fnTunedUptoRow : OpenClaim := { program := "ytgpdaolpaajomaa", sum := "a450c23f8c19b00052a04f37f7d1f1aac533ec96a0927e7958738eafe932aed4", func := "loop.example/g00989/laws.FnTuned", spec := "fnTuned", unfollowed := true, recurses := true, apart := false, narrowed := true }
def FnTunedUptoSaid : Prop := fnTunedUptoRow.holds Try.pinned (OpenSpec.upto fnTunedSpec)

/-- 'laws.FnExactTunedPitch', WHERE WHAT IT READS IS OF BULK AT MOST 1048576: true; the input reads as it did. -/
def fnExactTunedPitchUptoRow : OpenClaim := { program := "ytgpdaolpaajomaa", sum := "a450c23f8c19b00052a04f37f7d1f1aac533ec96a0927e7958738eafe932aed4", func := "loop.example/g00989/laws.FnExactTunedPitch", spec := "fnExactTunedPitch", unfollowed := true, recurses := true, apart := false, narrowed := true }
def FnExactTunedPitchUptoSaid : Prop := fnExactTunedPitchUptoRow.holds Try.pinned (OpenSpec.upto fnExactTunedPitchSpec)

/-- 'laws.FnExactBeatsHeard', WHERE WHAT IT READS IS OF BULK AT MOST 1048576: true; the input reads as it did. -/
def fnExactBeatsHeardUptoRow : OpenClaim := { program := "ytgpdaolpaajomaa", sum := "a450c23f8c19b00052a04f37f7d1f1aac533ec96a0927e7958738eafe932aed4", func := "loop.example/g00989/laws.FnExactBeatsHeard", spec := "fnExactBeatsHeard", unfollowed := true, recurses := true, apart := false, narrowed := true }
def FnExactBeatsHeardUptoSaid : Prop := fnExactBeatsHeardUptoRow.holds Try.pinned (OpenSpec.upto fnExactBeatsHeardSpec)

/-- 'laws.FnExactIsNarrow', WHERE WHAT IT READS IS OF BULK AT MOST 1048576: true; the input reads as it did. -/
def fnExactIsNarrowUptoRow : OpenClaim := { program := "ytgpdaolpaajomaa", sum := "a450c23f8c19b00052a04f37f7d1f1aac533ec96a0927e7958738eafe932aed4", func := "loop.example/g00989/laws.FnExactIsNarrow", spec := "fnExactIsNarrow", unfollowed := true, recurses := true, apart := false, narrowed := true }
def FnExactIsNarrowUptoSaid : Prop := fnExactIsNarrowUptoRow.holds Try.pinned (OpenSpec.upto fnExactIsNarrowSpec)

/-- 'laws.FnExactKindText', WHERE WHAT IT READS IS OF BULK AT MOST 1048576: true; the input reads as it did. -/
def fnExactKindTextUptoRow : OpenClaim := { program := "ytgpdaolpaajomaa", sum := "a450c23f8c19b00052a04f37f7d1f1aac533ec96a0927e7958738eafe932aed4", func := "loop.example/g00989/laws.FnExactKindText", spec := "fnExactKindText", apart := false, narrowed := true }
def FnExactKindTextUptoSaid : Prop := fnExactKindTextUptoRow.holds Try.pinned (OpenSpec.upto fnExactKindTextSpec)

end Rows
end Go.Proofs.Ytgpdaolpaajomaa
