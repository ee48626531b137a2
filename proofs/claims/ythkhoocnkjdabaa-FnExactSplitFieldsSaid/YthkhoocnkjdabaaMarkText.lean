/- Contract of laws.markText. -/
import Derived.Test.YthkhoocnkjdabaaProg
import Derived.Test.YthkhoocnkjdabaaFmtMath
import Derived.WalkKit
import Derived.Below
import Derived.Lib.Hide
namespace Go.Proofs.Ythkhoocnkjdabaa
open Go.RowKit
set_option linter.unusedVariables false
theorem conv_digit' (u : Nat) (wr : World) : (convert 22 9 (.slice (some ⟨wr.heap.size, 0, none⟩) 1 1)).run Try.prog (wr.alloc (.cells #[.int .u8 (48 + (u : Int) % 10)] 5)) = .ok (.string ⟨#[UInt8.ofNat (48 + u % 10)]⟩) (wr.alloc (.cells #[.int .u8 (48 + (u : Int) % 10)] 5)) := by
  refine conv_own (l := [UInt8.ofNat (48 + u % 10)]) (base := 0) (e' := 5) (n := 1) Try.underlying22 Try.underlying5 Try.underlying9 ?_
  have e1 : Lib.byteCells [UInt8.ofNat (48 + u % 10)] = #[Value.int .u8 (48 + (u : Int) % 10)].toList := by
    have : (UInt8.ofNat (48 + u % 10)).toNat = 48 + u % 10 := by rw [UInt8.toNat_ofNat']; omega
    simp only [Lib.byteCells, List.map_cons, List.map_nil, this]
    rfl
  rw [e1]
  exact World.ownsRow_lit wr _ 1 (Nat.zero_le _) (by unfold maxLen; omega) rfl
/-- The mark's text. -/
def markOf (k : Nat) : ByteArray := ⟨(109 :: Lib.decDigits k).toArray⟩
theorem mark_append (acc : List UInt8) : (⟨#[109]⟩ ++ ⟨acc.toArray⟩ : ByteArray) = ⟨(109 :: acc).toArray⟩ := ByteArray.mk_append_mk [109] acc
set_option maxHeartbeats 400000 in
theorem markText_any (m : Nat) (hm0 : 0 < m) (hm : m ≤ 9223372036854775807) (w : World) : Calls Try.prog 33 #[.int .i64 m] w fun e w' => e = .returned (.string (markOf m)) ∧ Below w.heap.size w w' := by
  have hst := fmtTo_start m (by omega)
  go_enter Try.func33, Try.ntmps33
  go_wp2
  go_loopw [0, 3] (fun x t wr => ∃ u : Nat, ∃ acc : List UInt8, u ≤ m ∧ x = .int .i64 u ∧ t = .string ⟨acc.toArray⟩ ∧ FmtTo m u acc ∧ Below w.heap.size w wr) (fun x _ _ => (intOf x).toNat)
  case atStart => exact ⟨m, [], Nat.le_refl _, rfl, rfl, hst, Below.refl _ _⟩
  case round =>
    obtain ⟨u, acc, hu, rfl, rfl, hto, hb⟩ := hrel
    clear hst
    by_cases hu0 : u = 0
    · subst hu0
      have hlen := fmtTo_len hto (by omega)
      have Hf := Lib.hid (fmtTo_end hto)
      go_wp2
      go_ret
      exact ⟨by unfold markOf; rw [← Hf.out]; exact congrArg (fun b => Ending.returned (.string b)) (mark_append acc), hb⟩
    · have hlen := fmtTo_len hto (by omega)
      have t2 : (0 : Int) < (u : Int) := by omega
      have hconv := conv_digit' u wr
      have hw8 : IntKind.u8.wrap (48 + (u : Int) % 10) = 48 + (u : Int) % 10 := IntWalk.u8_in _ ⟨by omega, by omega⟩
      go_wp2
      go_roundw
      case rel => exact ⟨u / 10, UInt8.ofNat (48 + u % 10) :: acc, by omega, by go_num, str_cons u acc, fmtTo_step hto hu0, hb.alloc hb.size _⟩
      case measure => simp [intOf]; omega
end Go.Proofs.Ythkhoocnkjdabaa
