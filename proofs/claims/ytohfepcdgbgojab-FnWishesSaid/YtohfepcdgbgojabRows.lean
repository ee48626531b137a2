/-
  No cell of these rows narrows 'for every input' (looked for: loops, veiled, ifaces, maps, wideKeys, modest, calm, conditions, laid).
  DERIVED. THE GIVEN ROWS OF THIS SEAT. 10 by the template 'for every input the law returns true; each argument reads behind the call as it read before'; 0 by the template 'total and deterministic' (their statements: YtohfepcdgbgojabTotals.lean).
  GIVEN WITH THE SEED: the statements are not yours to turn. If you find one false, say at which input.
  Laid BY PROGRAM, IN A SANDBOX (cutbox-rows.mjs): the forced cells as the released guide's own fill.sh prints them over the translation 49ea9ef010dec1ce… (all of the seat's roots in one cut). By AI agents, Wed Nov 11 2026. No macro, syntax, notation, axiom, sorry.
-/
import Derived.Test.YtohfepcdgbgojabChecked
import GoSem.Claim
import GoSem.ClaimJoined
import GoSem.ClaimMapViews
import Derived.JoinedTies
import Derived.KernelRfl
namespace Go.Proofs.Ytohfepcdgbgojab
/- THE CELL 'sum', in the pinned program and in every row, IS THE sha256 OF THE DUMP (.gsa) THAT YtohfepcdgbgojabProg.lean LOADS. Nothing in Lean hashes anything: it is a label: what it is worth is what the hold of that sum in a sandbox is worth. -/
noncomputable def Try.pinned : Pinned := { name := "ytohfepcdgbgojab", sum := "49ea9ef010dec1cee811e0b8c76792cc379259cf5cef42182a4d933bef3987f2", checked := Try.checked }
namespace Rows
def none {H : Type} : Left H := { results := [], args := [] }

/-- 'laws.FnFamilies': WHATEVER THE INPUT: true; the input reads as it did. -/
def fnFamiliesSpec : ChangeSpec := { name := "fnFamilies", fn := fun _ => fun
  | [d] => { results := [.lit (.bool true)], args := [d] }
  | _ => none }
def fnFamiliesRow : OpenClaim := { program := "ytohfepcdgbgojab", sum := "49ea9ef010dec1cee811e0b8c76792cc379259cf5cef42182a4d933bef3987f2", func := "loop.example/g00989/laws.FnFamilies", spec := "fnFamilies", unfollowed := true, recurses := true, plainKeys := false, apart := false }
def FnFamiliesSaid : Prop := fnFamiliesRow.holds Try.pinned (OpenSpec.ofChange fnFamiliesSpec)

/-- ITS FALSE NEIGHBOUR: 'it returns false'. Refute it at one input. -/
def fnFamiliesWrong : ChangeSpec := { name := "fnFamilies", fn := fun _ => fun
  | [d] => { results := [.lit (.bool false)], args := [d] }
  | _ => none }
def FnFamiliesWrongFalsely : Prop := fnFamiliesRow.holds Try.pinned (OpenSpec.ofChange fnFamiliesWrong)

/-- 'laws.FnWishes': WHATEVER THE INPUT: true; the input reads as it did. -/
def fnWishesSpec : ChangeSpec := { name := "fnWishes", fn := fun _ => fun
  | [d] => { results := [.lit (.bool true)], args := [d] }
  | _ => none }
def fnWishesRow : OpenClaim := { program := "ytohfepcdgbgojab", sum := "49ea9ef010dec1cee811e0b8c76792cc379259cf5cef42182a4d933bef3987f2", func := "loop.example/g00989/laws.FnWishes", spec := "fnWishes", unfollowed := true, recurses := true, plainKeys := false, apart := false }
def FnWishesSaid : Prop := fnWishesRow.holds Try.pinned (OpenSpec.ofChange fnWishesSpec)

/-- ITS FALSE NEIGHBOUR: 'it returns false'. Refute it at one input. -/
def fnWishesWrong : ChangeSpec := { name := "fnWishes", fn := fun _ => fun
  | [d] => { results := [.lit (.bool false)], args := [d] }
  | _ => none }
def FnWishesWrongFalsely : Prop := fnWishesRow.holds Try.pinned (OpenSpec.ofChange fnWishesWrong)

/-- 'laws.FnExactMeets': WHATEVER THE INPUT: true; the input reads as it did. -/
def fnExactMeetsSpec : ChangeSpec := { name := "fnExactMeets", fn := fun _ => fun
  | [d1, d2] => { results := [.lit (.bool true)], args := [d1, d2] }
  | _ => none }
def fnExactMeetsRow : OpenClaim := { program := "ytohfepcdgbgojab", sum := "49ea9ef010dec1cee811e0b8c76792cc379259cf5cef42182a4d933bef3987f2", func := "loop.example/g00989/laws.FnExactMeets", spec := "fnExactMeets", plainKeys := false, apart := false }
def FnExactMeetsSaid : Prop := fnExactMeetsRow.holds Try.pinned (OpenSpec.ofChange fnExactMeetsSpec)

/-- ITS FALSE NEIGHBOUR: 'it returns false'. Refute it at one input. -/
def fnExactMeetsWrong : ChangeSpec := { name := "fnExactMeets", fn := fun _ => fun
  | [d1, d2] => { results := [.lit (.bool false)], args := [d1, d2] }
  | _ => none }
def FnExactMeetsWrongFalsely : Prop := fnExactMeetsRow.holds Try.pinned (OpenSpec.ofChange fnExactMeetsWrong)

/-- 'laws.FnExactCountMeeting': WHATEVER THE INPUT: true; the input reads as it did. -/
def fnExactCountMeetingSpec : ChangeSpec := { name := "fnExactCountMeeting", fn := fun _ => fun
  | [d1, d2] => { results := [.lit (.bool true)], args := [d1, d2] }
  | _ => none }
def fnExactCountMeetingRow : OpenClaim := { program := "ytohfepcdgbgojab", sum := "49ea9ef010dec1cee811e0b8c76792cc379259cf5cef42182a4d933bef3987f2", func := "loop.example/g00989/laws.FnExactCountMeeting", spec := "fnExactCountMeeting", unfollowed := true, recurses := true, plainKeys := false, apart := false }
def FnExactCountMeetingSaid : Prop := fnExactCountMeetingRow.holds Try.pinned (OpenSpec.ofChange fnExactCountMeetingSpec)

/-- ITS FALSE NEIGHBOUR: 'it returns false'. Refute it at one input. -/
def fnExactCountMeetingWrong : ChangeSpec := { name := "fnExactCountMeeting", fn := fun _ => fun
  | [d1, d2] => { results := [.lit (.bool false)], args := [d1, d2] }
  | _ => none }
def FnExactCountMeetingWrongFalsely : Prop := fnExactCountMeetingRow.holds Try.pinned (OpenSpec.ofChange fnExactCountMeetingWrong)

/-- 'laws.FnExactFirstMeeting': WHATEVER THE INPUT: true; the input reads as it did. -/
def fnExactFirstMeetingSpec : ChangeSpec := { name := "fnExactFirstMeeting", fn := fun _ => fun
  | [d1, d2] => { results := [.lit (.bool true)], args := [d1, d2] }
  | _ => none }
def fnExactFirstMeetingRow : OpenClaim := { program := "ytohfepcdgbgojab", sum := "49ea9ef010dec1cee811e0b8c76792cc379259cf5cef42182a4d933bef3987f2", func := "loop.example/g00989/laws.FnExactFirstMeeting", spec := "fnExactFirstMeeting", unfollowed := true, recurses := true, plainKeys := false, apart := false }
def FnExactFirstMeetingSaid : Prop := fnExactFirstMeetingRow.holds Try.pinned (OpenSpec.ofChange fnExactFirstMeetingSpec)

/-- ITS FALSE NEIGHBOUR: 'it returns false'. Refute it at one input. -/
def fnExactFirstMeetingWrong : ChangeSpec := { name := "fnExactFirstMeeting", fn := fun _ => fun
  | [d1, d2] => { results := [.lit (.bool false)], args := [d1, d2] }
  | _ => none }
def FnExactFirstMeetingWrongFalsely : Prop := fnExactFirstMeetingRow.holds Try.pinned (OpenSpec.ofChange fnExactFirstMeetingWrong)

/-- 'laws.FnHeard': WHATEVER THE INPUT: true; the input reads as it did. -/
def fnHeardSpec : ChangeSpec := { name := "fnHeard", fn := fun _ => fun
  | [d] => { results := [.lit (.bool true)], args := [d] }
  | _ => none }
def fnHeardRow : OpenClaim := { program := "ytohfepcdgbgojab", sum := "49ea9ef010dec1cee811e0b8c76792cc379259cf5cef42182a4d933bef3987f2", func := "loop.example/g00989/laws.FnHeard", spec := "fnHeard", unfollowed := true, recurses := true, plainKeys := false, apart := false }
def FnHeardSaid : Prop := fnHeardRow.holds Try.pinned (OpenSpec.ofChange fnHeardSpec)

/-- ITS FALSE NEIGHBOUR: 'it returns false'. Refute it at one input. -/
def fnHeardWrong : ChangeSpec := { name := "fnHeard", fn := fun _ => fun
  | [d] => { results := [.lit (.bool false)], args := [d] }
  | _ => none }
def FnHeardWrongFalsely : Prop := fnHeardRow.holds Try.pinned (OpenSpec.ofChange fnHeardWrong)

/-- 'laws.FnExactThirdsOf': WHATEVER THE INPUT: true; the input reads as it did. -/
def fnExactThirdsOfSpec : ChangeSpec := { name := "fnExactThirdsOf", fn := fun _ => fun
  | [d] => { results := [.lit (.bool true)], args := [d] }
  | _ => none }
def fnExactThirdsOfRow : OpenClaim := { program := "ytohfepcdgbgojab", sum := "49ea9ef010dec1cee811e0b8c76792cc379259cf5cef42182a4d933bef3987f2", func := "loop.example/g00989/laws.FnExactThirdsOf", spec := "fnExactThirdsOf", plainKeys := false, apart := false }
def FnExactThirdsOfSaid : Prop := fnExactThirdsOfRow.holds Try.pinned (OpenSpec.ofChange fnExactThirdsOfSpec)

/-- ITS FALSE NEIGHBOUR: 'it returns false'. Refute it at one input. -/
def fnExactThirdsOfWrong : ChangeSpec := { name := "fnExactThirdsOf", fn := fun _ => fun
  | [d] => { results := [.lit (.bool false)], args := [d] }
  | _ => none }
def FnExactThirdsOfWrongFalsely : Prop := fnExactThirdsOfRow.holds Try.pinned (OpenSpec.ofChange fnExactThirdsOfWrong)

/-- 'laws.FnExactCirclesHeard': WHATEVER THE INPUT: true; the input reads as it did. -/
def fnExactCirclesHeardSpec : ChangeSpec := { name := "fnExactCirclesHeard", fn := fun _ => fun
  | [d1, d2] => { results := [.lit (.bool true)], args := [d1, d2] }
  | _ => none }
def fnExactCirclesHeardRow : OpenClaim := { program := "ytohfepcdgbgojab", sum := "49ea9ef010dec1cee811e0b8c76792cc379259cf5cef42182a4d933bef3987f2", func := "loop.example/g00989/laws.FnExactCirclesHeard", spec := "fnExactCirclesHeard", unfollowed := true, recurses := true, plainKeys := false, apart := false }
def FnExactCirclesHeardSaid : Prop := fnExactCirclesHeardRow.holds Try.pinned (OpenSpec.ofChange fnExactCirclesHeardSpec)

/-- ITS FALSE NEIGHBOUR: 'it returns false'. Refute it at one input. -/
def fnExactCirclesHeardWrong : ChangeSpec := { name := "fnExactCirclesHeard", fn := fun _ => fun
  | [d1, d2] => { results := [.lit (.bool false)], args := [d1, d2] }
  | _ => none }
def FnExactCirclesHeardWrongFalsely : Prop := fnExactCirclesHeardRow.holds Try.pinned (OpenSpec.ofChange fnExactCirclesHeardWrong)

/-- 'laws.FnExactNearestHeard': WHATEVER THE INPUT: true; the input reads as it did. -/
def fnExactNearestHeardSpec : ChangeSpec := { name := "fnExactNearestHeard", fn := fun _ => fun
  | [d1, d2] => { results := [.lit (.bool true)], args := [d1, d2] }
  | _ => none }
def fnExactNearestHeardRow : OpenClaim := { program := "ytohfepcdgbgojab", sum := "49ea9ef010dec1cee811e0b8c76792cc379259cf5cef42182a4d933bef3987f2", func := "loop.example/g00989/laws.FnExactNearestHeard", spec := "fnExactNearestHeard", unfollowed := true, recurses := true, plainKeys := false, apart := false }
def FnExactNearestHeardSaid : Prop := fnExactNearestHeardRow.holds Try.pinned (OpenSpec.ofChange fnExactNearestHeardSpec)

/-- ITS FALSE NEIGHBOUR: 'it returns false'. Refute it at one input. -/
def fnExactNearestHeardWrong : ChangeSpec := { name := "fnExactNearestHeard", fn := fun _ => fun
  | [d1, d2] => { results := [.lit (.bool false)], args := [d1, d2] }
  | _ => none }
def FnExactNearestHeardWrongFalsely : Prop := fnExactNearestHeardRow.holds Try.pinned (OpenSpec.ofChange fnExactNearestHeardWrong)

/-- 'laws.FnExactDifferenceOf': WHATEVER THE INPUT: true; the input reads as it did. -/
def fnExactDifferenceOfSpec : ChangeSpec := { name := "fnExactDifferenceOf", fn := fun _ => fun
  | [d1, d2] => { results := [.lit (.bool true)], args := [d1, d2] }
  | _ => none }
def fnExactDifferenceOfRow : OpenClaim := { program := "ytohfepcdgbgojab", sum := "49ea9ef010dec1cee811e0b8c76792cc379259cf5cef42182a4d933bef3987f2", func := "loop.example/g00989/laws.FnExactDifferenceOf", spec := "fnExactDifferenceOf", plainKeys := false, apart := false }
def FnExactDifferenceOfSaid : Prop := fnExactDifferenceOfRow.holds Try.pinned (OpenSpec.ofChange fnExactDifferenceOfSpec)

/-- ITS FALSE NEIGHBOUR: 'it returns false'. Refute it at one input. -/
def fnExactDifferenceOfWrong : ChangeSpec := { name := "fnExactDifferenceOf", fn := fun _ => fun
  | [d1, d2] => { results := [.lit (.bool false)], args := [d1, d2] }
  | _ => none }
def FnExactDifferenceOfWrongFalsely : Prop := fnExactDifferenceOfRow.holds Try.pinned (OpenSpec.ofChange fnExactDifferenceOfWrong)

/- THE SECOND FORM. 'bulk': how many values and letters a reading holds, each counted each time it is reached (what is shared counts as often as it is met; a slice's spare places count too). A statement '..UptoSaid' is the law's where the arguments, and the package variables that the reading takes, are together of bulk at most 1048576: NARROWER than '..Said'. Prove '..Said' where nothing that the law and all that it calls make is longer than what came in: it says more and counts as full. Else prove '..UptoSaid'. A law counts once. -/
mutual
def uptoBulk {H : Type} : DataW H → Nat
  | .lit (.string bytes) => bytes.length + 1
  | .lit _ => 1
  | .nil => 1
  | .ptr d => uptoBulk d + 1
  | .slice elems spare => uptoBulkAll elems + uptoBulkAll spare + 1
  | .agg parts => uptoBulkAll parts + 1
  | .iface _ d => uptoBulk d + 1
  | .map entries => uptoBulkEntries entries + 1
  | .held _ => 1
def uptoBulkAll {H : Type} : List (DataW H) → Nat
  | [] => 0
  | d :: r => uptoBulk d + uptoBulkAll r
def uptoBulkEntries {H : Type} : List (Lit × DataW H) → Nat
  | [] => 0
  | x :: r => uptoBulkEntry x + uptoBulkEntries r
def uptoBulkEntry {H : Type} : Lit × DataW H → Nat
  | (.string bytes, d) => bytes.length + uptoBulk d + 1
  | (_, d) => uptoBulk d + 1
 end
def uptoSmall : (H : Type) → List (DataW H) → Bool := fun _ ds => decide (uptoBulkAll ds ≤ 1048576)
def OpenSpec.upto (s : _root_.Go.ChangeSpec) : _root_.Go.OpenSpec := { _root_.Go.OpenSpec.ofChange s with cond := some uptoSmall }

/-- 'laws.FnFamilies', WHERE WHAT IT READS IS OF BULK AT MOST 1048576: true; the input reads as it did. -/
def fnFamiliesUptoRow : OpenClaim := { program := "ytohfepcdgbgojab", sum := "49ea9ef010dec1cee811e0b8c76792cc379259cf5cef42182a4d933bef3987f2", func := "loop.example/g00989/laws.FnFamilies", spec := "fnFamilies", unfollowed := true, recurses := true, plainKeys := false, apart := false, narrowed := true }
def FnFamiliesUptoSaid : Prop := fnFamiliesUptoRow.holds Try.pinned (OpenSpec.upto fnFamiliesSpec)

/-- 'laws.FnWishes', WHERE WHAT IT READS IS OF BULK AT MOST 1048576: true; the input reads as it did. -/
def fnWishesUptoRow : OpenClaim := { program := "ytohfepcdgbgojab", sum := "49ea9ef010dec1cee811e0b8c76792cc379259cf5cef42182a4d933bef3987f2", func := "loop.example/g00989/laws.FnWishes", spec := "fnWishes", unfollowed := true, recurses := true, plainKeys := false, apart := false, narrowed := true }
def FnWishesUptoSaid : Prop := fnWishesUptoRow.holds Try.pinned (OpenSpec.upto fnWishesSpec)

/-- 'laws.FnExactMeets', WHERE WHAT IT READS IS OF BULK AT MOST 1048576: true; the input reads as it did. -/
def fnExactMeetsUptoRow : OpenClaim := { program := "ytohfepcdgbgojab", sum := "49ea9ef010dec1cee811e0b8c76792cc379259cf5cef42182a4d933bef3987f2", func := "loop.example/g00989/laws.FnExactMeets", spec := "fnExactMeets", plainKeys := false, apart := false, narrowed := true }
def FnExactMeetsUptoSaid : Prop := fnExactMeetsUptoRow.holds Try.pinned (OpenSpec.upto fnExactMeetsSpec)

/-- 'laws.FnExactCountMeeting', WHERE WHAT IT READS IS OF BULK AT MOST 1048576: true; the input reads as it did. -/
def fnExactCountMeetingUptoRow : OpenClaim := { program := "ytohfepcdgbgojab", sum := "49ea9ef010dec1cee811e0b8c76792cc379259cf5cef42182a4d933bef3987f2", func := "loop.example/g00989/laws.FnExactCountMeeting", spec := "fnExactCountMeeting", unfollowed := true, recurses := true, plainKeys := false, apart := false, narrowed := true }
def FnExactCountMeetingUptoSaid : Prop := fnExactCountMeetingUptoRow.holds Try.pinned (OpenSpec.upto fnExactCountMeetingSpec)

/-- 'laws.FnExactFirstMeeting', WHERE WHAT IT READS IS OF BULK AT MOST 1048576: true; the input reads as it did. -/
def fnExactFirstMeetingUptoRow : OpenClaim := { program := "ytohfepcdgbgojab", sum := "49ea9ef010dec1cee811e0b8c76792cc379259cf5cef42182a4d933bef3987f2", func := "loop.example/g00989/laws.FnExactFirstMeeting", spec := "fnExactFirstMeeting", unfollowed := true, recurses := true, plainKeys := false, apart := false, narrowed := true }
def FnExactFirstMeetingUptoSaid : Prop := fnExactFirstMeetingUptoRow.holds Try.pinned (OpenSpec.upto fnExactFirstMeetingSpec)

/-- 'laws.FnHeard', WHERE WHAT IT READS IS OF BULK AT MOST 1048576: true; the input reads as it did. -/
def fnHeardUptoRow : OpenClaim := { program := "ytohfepcdgbgojab", sum := "49ea9ef010dec1cee811e0b8c76792cc379259cf5cef42182a4d933bef3987f2", func := "loop.example/g00989/laws.FnHeard", spec := "fnHeard", unfollowed := true, recurses := true, plainKeys := false, apart := false, narrowed := true }
def FnHeardUptoSaid : Prop := fnHeardUptoRow.holds Try.pinned (OpenSpec.upto fnHeardSpec)

/-- 'laws.FnExactThirdsOf', WHERE WHAT IT READS IS OF BULK AT MOST 1048576: true; the input reads as it did. -/
def fnExactThirdsOfUptoRow : OpenClaim := { program := "ytohfepcdgbgojab", sum := "49ea9ef010dec1cee811e0b8c76792cc379259cf5cef42182a4d933bef3987f2", func := "loop.example/g00989/laws.FnExactThirdsOf", spec := "fnExactThirdsOf", plainKeys := false, apart := false, narrowed := true }
def FnExactThirdsOfUptoSaid : Prop := fnExactThirdsOfUptoRow.holds Try.pinned (OpenSpec.upto fnExactThirdsOfSpec)

/-- 'laws.FnExactCirclesHeard', WHERE WHAT IT READS IS OF BULK AT MOST 1048576: true; the input reads as it did. -/
def fnExactCirclesHeardUptoRow : OpenClaim := { program := "ytohfepcdgbgojab", sum := "49ea9ef010dec1cee811e0b8c76792cc379259cf5cef42182a4d933bef3987f2", func := "loop.example/g00989/laws.FnExactCirclesHeard", spec := "fnExactCirclesHeard", unfollowed := true, recurses := true, plainKeys := false, apart := false, narrowed := true }
def FnExactCirclesHeardUptoSaid : Prop := fnExactCirclesHeardUptoRow.holds Try.pinned (OpenSpec.upto fnExactCirclesHeardSpec)

/-- 'laws.FnExactNearestHeard', WHERE WHAT IT READS IS OF BULK AT MOST 1048576: true; the input reads as it did. -/
def fnExactNearestHeardUptoRow : OpenClaim := { program := "ytohfepcdgbgojab", sum := "49ea9ef010dec1cee811e0b8c76792cc379259cf5cef42182a4d933bef3987f2", func := "loop.example/g00989/laws.FnExactNearestHeard", spec := "fnExactNearestHeard", unfollowed := true, recurses := true, plainKeys := false, apart := false, narrowed := true }
def FnExactNearestHeardUptoSaid : Prop := fnExactNearestHeardUptoRow.holds Try.pinned (OpenSpec.upto fnExactNearestHeardSpec)

/-- 'laws.FnExactDifferenceOf', WHERE WHAT IT READS IS OF BULK AT MOST 1048576: true; the input reads as it did. -/
def fnExactDifferenceOfUptoRow : OpenClaim := { program := "ytohfepcdgbgojab", sum := "49ea9ef010dec1cee811e0b8c76792cc379259cf5cef42182a4d933bef3987f2", func := "loop.example/g00989/laws.FnExactDifferenceOf", spec := "fnExactDifferenceOf", plainKeys := false, apart := false, narrowed := true }
def FnExactDifferenceOfUptoSaid : Prop := fnExactDifferenceOfUptoRow.holds Try.pinned (OpenSpec.upto fnExactDifferenceOfSpec)

end Rows
end Go.Proofs.Ytohfepcdgbgojab
