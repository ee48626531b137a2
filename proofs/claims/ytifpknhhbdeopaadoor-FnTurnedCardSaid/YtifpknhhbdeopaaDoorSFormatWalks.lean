/- Contract of spec.FormatInt. -/
import Derived.Test.YtifpknhhbdeopaaDoorProg
import Derived.Test.YtifpknhhbdeopaaDoorFmtMath
import Derived.Test.YtifpknhhbdeopaaDoorFigWalks
import Derived.WalkKit
import Derived.Below
import Derived.Lib.Hide
namespace Go.Proofs.YtifpknhhbdeopaaDoor
open Go.RowKit
set_option linter.unusedVariables false
theorem conv_digit (u : Nat) (wr : World) : (convert 22 9 (.slice (some ⟨wr.heap.size, 0, none⟩) 1 1)).run Tryd.prog (wr.alloc (.cells #[.int .u8 (48 + (u : Int) % 10)] 5)) = .ok (.string ⟨#[UInt8.ofNat (48 + u % 10)]⟩) (wr.alloc (.cells #[.int .u8 (48 + (u : Int) % 10)] 5)) := by
  refine conv_own (l := [UInt8.ofNat (48 + u % 10)]) (base := 0) (e' := 5) (n := 1) Tryd.underlying22 Tryd.underlying5 Tryd.underlying9 ?_
  have e1 : Lib.byteCells [UInt8.ofNat (48 + u % 10)] = #[Value.int .u8 (48 + (u : Int) % 10)].toList := by
    have : (UInt8.ofNat (48 + u % 10)).toNat = 48 + u % 10 := by rw [UInt8.toNat_ofNat']; omega
    simp only [Lib.byteCells, List.map_cons, List.map_nil, this]
    rfl
  rw [e1]
  exact World.ownsRow_lit wr _ 1 (Nat.zero_le _) (by unfold maxLen; omega) rfl
end Go.Proofs.YtifpknhhbdeopaaDoor
