/-
  No cell of these rows narrows 'for every input' (looked for: loops, veiled, ifaces, maps, wideKeys, modest, calm, conditions, laid).
  DERIVED. THE GIVEN ROWS OF THIS SEAT. 4 by the template 'for every input the law returns true; each argument reads behind the call as it read before'; 0 by the template 'total and deterministic' (their statements: YtjnhfgacgobfcaaTotals.lean).
  GIVEN WITH THE SEED: the statements are not yours to turn. If you find one false, say at which input.
  Laid BY PROGRAM, IN A SANDBOX (cutbox-rows.mjs): the forced cells as the released guide's own fill.sh prints them over the translation 4338d16c1b63731a… (all of the seat's roots in one cut). By AI agents, Wed Nov 11 2026. No macro, syntax, notation, axiom, sorry.
-/
import Derived.Test.YtjnhfgacgobfcaaChecked
import GoSem.Claim
import GoSem.ClaimJoined
import GoSem.ClaimMapViews
import Derived.JoinedTies
import Derived.KernelRfl
namespace Go.Proofs.Ytjnhfgacgobfcaa
/- THE CELL 'sum', in the pinned program and in every row, IS THE sha256 OF THE DUMP (.gsa) THAT YtjnhfgacgobfcaaProg.lean LOADS. Nothing in Lean hashes anything: it is a label: what it is worth is what the hold of that sum in a sandbox is worth. -/
noncomputable def Try.pinned : Pinned := { name := "ytjnhfgacgobfcaa", sum := "4338d16c1b63731abfa5590e82106ff478ae02ea4bf2c5c76302426a26edc4c7", checked := Try.checked }
namespace Rows
def none {H : Type} : Left H := { results := [], args := [] }

/-- 'laws.FnExactOctavesIn': WHATEVER THE INPUT: true; the input reads as it did. -/
def fnExactOctavesInSpec : ChangeSpec := { name := "fnExactOctavesIn", fn := fun _ => fun
  | [d] => { results := [.lit (.bool true)], args := [d] }
  | _ => none }
def fnExactOctavesInRow : OpenClaim := { program := "ytjnhfgacgobfcaa", sum := "4338d16c1b63731abfa5590e82106ff478ae02ea4bf2c5c76302426a26edc4c7", func := "loop.example/g00989/laws.FnExactOctavesIn", spec := "fnExactOctavesIn", apart := false }
def FnExactOctavesInSaid : Prop := fnExactOctavesInRow.holds Try.pinned (OpenSpec.ofChange fnExactOctavesInSpec)

/-- ITS FALSE NEIGHBOUR: 'it returns false'. Refute it at one input. -/
def fnExactOctavesInWrong : ChangeSpec := { name := "fnExactOctavesIn", fn := fun _ => fun
  | [d] => { results := [.lit (.bool false)], args := [d] }
  | _ => none }
def FnExactOctavesInWrongFalsely : Prop := fnExactOctavesInRow.holds Try.pinned (OpenSpec.ofChange fnExactOctavesInWrong)

/-- 'laws.FnExactWithinOctave': WHATEVER THE INPUT: true; the input reads as it did. -/
def fnExactWithinOctaveSpec : ChangeSpec := { name := "fnExactWithinOctave", fn := fun _ => fun
  | [d] => { results := [.lit (.bool true)], args := [d] }
  | _ => none }
def fnExactWithinOctaveRow : OpenClaim := { program := "ytjnhfgacgobfcaa", sum := "4338d16c1b63731abfa5590e82106ff478ae02ea4bf2c5c76302426a26edc4c7", func := "loop.example/g00989/laws.FnExactWithinOctave", spec := "fnExactWithinOctave", apart := false }
def FnExactWithinOctaveSaid : Prop := fnExactWithinOctaveRow.holds Try.pinned (OpenSpec.ofChange fnExactWithinOctaveSpec)

/-- ITS FALSE NEIGHBOUR: 'it returns false'. Refute it at one input. -/
def fnExactWithinOctaveWrong : ChangeSpec := { name := "fnExactWithinOctave", fn := fun _ => fun
  | [d] => { results := [.lit (.bool false)], args := [d] }
  | _ => none }
def FnExactWithinOctaveWrongFalsely : Prop := fnExactWithinOctaveRow.holds Try.pinned (OpenSpec.ofChange fnExactWithinOctaveWrong)

/-- 'laws.FnExactInvertInterval': WHATEVER THE INPUT: true; the input reads as it did. -/
def fnExactInvertIntervalSpec : ChangeSpec := { name := "fnExactInvertInterval", fn := fun _ => fun
  | [d] => { results := [.lit (.bool true)], args := [d] }
  | _ => none }
def fnExactInvertIntervalRow : OpenClaim := { program := "ytjnhfgacgobfcaa", sum := "4338d16c1b63731abfa5590e82106ff478ae02ea4bf2c5c76302426a26edc4c7", func := "loop.example/g00989/laws.FnExactInvertInterval", spec := "fnExactInvertInterval", apart := false }
def FnExactInvertIntervalSaid : Prop := fnExactInvertIntervalRow.holds Try.pinned (OpenSpec.ofChange fnExactInvertIntervalSpec)

/-- ITS FALSE NEIGHBOUR: 'it returns false'. Refute it at one input. -/
def fnExactInvertIntervalWrong : ChangeSpec := { name := "fnExactInvertInterval", fn := fun _ => fun
  | [d] => { results := [.lit (.bool false)], args := [d] }
  | _ => none }
def FnExactInvertIntervalWrongFalsely : Prop := fnExactInvertIntervalRow.holds Try.pinned (OpenSpec.ofChange fnExactInvertIntervalWrong)

/-- 'laws.FnExactSamePitchClass': WHATEVER THE INPUT: true; the input reads as it did. -/
def fnExactSamePitchClassSpec : ChangeSpec := { name := "fnExactSamePitchClass", fn := fun _ => fun
  | [d1, d2] => { results := [.lit (.bool true)], args := [d1, d2] }
  | _ => none }
def fnExactSamePitchClassRow : OpenClaim := { program := "ytjnhfgacgobfcaa", sum := "4338d16c1b63731abfa5590e82106ff478ae02ea4bf2c5c76302426a26edc4c7", func := "loop.example/g00989/laws.FnExactSamePitchClass", spec := "fnExactSamePitchClass", apart := false }
def FnExactSamePitchClassSaid : Prop := fnExactSamePitchClassRow.holds Try.pinned (OpenSpec.ofChange fnExactSamePitchClassSpec)

/-- ITS FALSE NEIGHBOUR: 'it returns false'. Refute it at one input. -/
def fnExactSamePitchClassWrong : ChangeSpec := { name := "fnExactSamePitchClass", fn := fun _ => fun
  | [d1, d2] => { results := [.lit (.bool false)], args := [d1, d2] }
  | _ => none }
def FnExactSamePitchClassWrongFalsely : Prop := fnExactSamePitchClassRow.holds Try.pinned (OpenSpec.ofChange fnExactSamePitchClassWrong)

/- THE SECOND FORM. 'bulk': how many values and letters a reading holds, each counted each time it is reached (what is shared counts as often as it is met; a slice's spare places count too). A statement '..UptoSaid' is the law's where the arguments, and the package variables that the reading takes, are together of bulk at most 1048576: NARROWER than '..Said'. Prove '..Said' where nothing that the law and all that it calls make is longer than what came in: it says more and counts as full. Else prove '..UptoSaid'. A law counts once. -/
mutual
def uptoBulk {H : Type} : DataW H → Nat
  | .lit (.string bytes) => bytes.length + 1
  | .lit _ => 1
  | .nil => 1
  | .ptr d => uptoBulk d + 1
  | .slice elems spare => uptoBulkAll elems + uptoBulkAll spare + 1
  | .agg parts => uptoBulkAll parts + 1
  | .iface _ d => uptoBulk d + 1
  | .map entries => uptoBulkEntries entries + 1
  | .held _ => 1
def uptoBulkAll {H : Type} : List (DataW H) → Nat
  | [] => 0
  | d :: r => uptoBulk d + uptoBulkAll r
def uptoBulkEntries {H : Type} : List (Lit × DataW H) → Nat
  | [] => 0
  | x :: r => uptoBulkEntry x + uptoBulkEntries r
def uptoBulkEntry {H : Type} : Lit × DataW H → Nat
  | (.string bytes, d) => bytes.length + uptoBulk d + 1
  | (_, d) => uptoBulk d + 1
 end
def uptoSmall : (H : Type) → List (DataW H) → Bool := fun _ ds => decide (uptoBulkAll ds ≤ 1048576)
def OpenSpec.upto (s : _root_.Go.ChangeSpec) : _root_.Go.OpenSpec := { _root_.Go.OpenSpec.ofChange s with cond := some uptoSmall }

/-- 'laws.FnExactOctavesIn', WHERE WHAT IT READS IS OF BULK AT MOST 1048576: true; the input reads as it did. -/
def fnExactOctavesInUptoRow : OpenClaim := { program := "ytjnhfgacgobfcaa", sum := "4338d16c1b63731abfa5590e82106ff478ae02ea4bf2c5c76302426a26edc4c7", func := "loop.example/g00989/laws.FnExactOctavesIn", spec := "fnExactOctavesIn", apart := false, narrowed := true }
def FnExactOctavesInUptoSaid : Prop := fnExactOctavesInUptoRow.holds Try.pinned (OpenSpec.upto fnExactOctavesInSpec)

/-- 'laws.FnExactWithinOctave', WHERE WHAT IT READS IS OF BULK AT MOST 1048576: true; the input reads as it did. -/
def fnExactWithinOctaveUptoRow : OpenClaim := { program := "ytjnhfgacgobfcaa", sum := "4338d16c1b63731abfa5590e82106ff478ae02ea4bf2c5c76302426a26edc4c7", func := "loop.example/g00989/laws.FnExactWithinOctave", spec := "fnExactWithinOctave", apart := false, narrowed := true }
def FnExactWithinOctaveUptoSaid : Prop := fnExactWithinOctaveUptoRow.holds Try.pinned (OpenSpec.upto fnExactWithinOctaveSpec)

/-- 'laws.FnExactInvertInterval', WHERE WHAT IT READS IS OF BULK AT MOST 1048576: true; the input reads as it did. -/
def fnExactInvertIntervalUptoRow : OpenClaim := { program := "ytjnhfgacgobfcaa", sum := "4338d16c1b63731abfa5590e82106ff478ae02ea4bf2c5c76302426a26edc4c7", func := "loop.example/g00989/laws.FnExactInvertInterval", spec := "fnExactInvertInterval", apart := false, narrowed := true }
def FnExactInvertIntervalUptoSaid : Prop := fnExactInvertIntervalUptoRow.holds Try.pinned (OpenSpec.upto fnExactInvertIntervalSpec)

/-- 'laws.FnExactSamePitchClass', WHERE WHAT IT READS IS OF BULK AT MOST 1048576: true; the input reads as it did. -/
def fnExactSamePitchClassUptoRow : OpenClaim := { program := "ytjnhfgacgobfcaa", sum := "4338d16c1b63731abfa5590e82106ff478ae02ea4bf2c5c76302426a26edc4c7", func := "loop.example/g00989/laws.FnExactSamePitchClass", spec := "fnExactSamePitchClass", apart := false, narrowed := true }
def FnExactSamePitchClassUptoSaid : Prop := fnExactSamePitchClassUptoRow.holds Try.pinned (OpenSpec.upto fnExactSamePitchClassSpec)

end Rows
end Go.Proofs.Ytjnhfgacgobfcaa
