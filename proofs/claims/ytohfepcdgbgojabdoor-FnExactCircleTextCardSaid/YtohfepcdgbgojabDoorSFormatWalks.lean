/- Contract of spec.FormatInt. -/
import Derived.Test.YtohfepcdgbgojabDoorProg
import Derived.Test.YtohfepcdgbgojabDoorFmtMath
import Derived.Test.YtohfepcdgbgojabDoorFigWalks
import Derived.WalkKit
import Derived.Below
import Derived.Lib.Hide
namespace Go.Proofs.YtohfepcdgbgojabDoor
open Go.RowKit
set_option linter.unusedVariables false
theorem digit_ok (d : Int) (w : World) (h0 : 0 ≤ d) (h1 : d < 10) : Calls Tryd.prog 71 #[.int .i64 d] w fun e w' => e = .returned (.int .u8 (48 + d)) ∧ w = w' :=
  (figure_ok d w h0 (by omega)).mono fun e w' ⟨he, hw⟩ => ⟨by rw [he]; exact ret_int (by unfold figN; split <;> omega), hw⟩
set_option maxRecDepth 100000 in
theorem conv_digit (u : Nat) (wr : World) : (convert 22 9 (.slice (some ⟨wr.heap.size, 0, none⟩) 1 1)).run Tryd.prog (wr.alloc (.cells #[.int .u8 (48 + (u : Int) % 10)] 5)) = .ok (.string ⟨#[UInt8.ofNat (48 + u % 10)]⟩) (wr.alloc (.cells #[.int .u8 (48 + (u : Int) % 10)] 5)) := by
  refine conv_own (l := [UInt8.ofNat (48 + u % 10)]) (base := 0) (e' := 5) (n := 1) Tryd.underlying22 Tryd.underlying5 Tryd.underlying9 ?_
  have e1 : Lib.byteCells [UInt8.ofNat (48 + u % 10)] = #[Value.int .u8 (48 + (u : Int) % 10)].toList := by
    have : (UInt8.ofNat (48 + u % 10)).toNat = 48 + u % 10 := by rw [UInt8.toNat_ofNat']; omega
    simp only [Lib.byteCells, List.map_cons, List.map_nil, this]
    rfl
  rw [e1]
  exact World.ownsRow_lit wr _ 1 (Nat.zero_le _) (by unfold maxLen; omega) rfl
set_option maxRecDepth 100000 in
set_option maxHeartbeats 400000 in
theorem sformat_pos (m : Nat) (hm0 : m ≠ 0) (hm : m ≤ 9223372036854775807) (w : World) : Calls Tryd.prog 46 #[.int .i64 m] w fun e w' => e = .returned (.string ⟨(Lib.decDigits m).toArray⟩) ∧ Below w.heap.size w w' := by
  have t0 : ((m : Int) == 0) = false := by simp; omega
  have t1 : decide ((m : Int) < 0) = false := by simp
  have hst := fmtTo_start m hm0
  clear hm0
  go_enter Tryd.func46, Tryd.ntmps46
  go_wp2
  go_loopw [0, 4] (fun x t wr => ∃ u : Nat, ∃ acc : List UInt8, u ≤ m ∧ x = .int .i64 u ∧ t = .string ⟨acc.toArray⟩ ∧ FmtTo m u acc ∧ Below w.heap.size w wr) (fun x _ _ => (intOf x).toNat)
  case atStart => exact ⟨m, [], Nat.le_refl _, rfl, rfl, hst, Below.refl _ _⟩
  case round =>
    obtain ⟨u, acc, hu, rfl, rfl, hto, hb⟩ := hrel
    clear hst
    by_cases hu0 : u = 0
    · subst hu0
      have Hf := Lib.hid (fmtTo_end hto)
      go_wp2
      go_ret
      exact ⟨ret_str Hf.out, hb⟩
    · have hlen := fmtTo_len hto (by omega)
      have t2 : ((u : Int) != 0) = true := by simp; omega
      have hconv := conv_digit u wr
      go_wp2_with (go_at_call 71; refine (digit_ok _ _ (by omega) (by omega)).mono ?_; rintro e w' ⟨rfl, rfl⟩)
      go_roundw
      case rel => exact ⟨u / 10, UInt8.ofNat (48 + u % 10) :: acc, by omega, by go_num, str_cons u acc, fmtTo_step hto hu0, hb.alloc hb.size _⟩
      case measure => simp [intOf]; omega
set_option maxRecDepth 100000 in
set_option maxHeartbeats 400000 in
theorem sformat_neg (m : Nat) (hm0 : m ≠ 0) (hm : m ≤ 9223372036854775808) (w : World) : Calls Tryd.prog 46 #[.int .i64 (-(m : Int))] w fun e w' => e = .returned (.string ⟨(45 :: Lib.decDigits m).toArray⟩) ∧ Below w.heap.size w w' := by
  have t0 : (-(m : Int) == 0) = false := by simp; omega
  have t1 : decide (0 < m) = true := by simp; omega
  have hpos : 0 < m := by omega
  have hst := fmtTo_start m hm0
  clear hm0
  go_enter Tryd.func46, Tryd.ntmps46
  go_wp2
  go_loopw [0, 4] (fun x t wr => ∃ u : Nat, ∃ acc : List UInt8, u ≤ m ∧ x = .int .i64 (-(u : Int)) ∧ t = .string ⟨acc.toArray⟩ ∧ FmtTo m u acc ∧ Below w.heap.size w wr) (fun x _ _ => (-(intOf x)).toNat)
  case atStart => exact ⟨m, [], Nat.le_refl _, rfl, rfl, hst, Below.refl _ _⟩
  case round =>
    obtain ⟨u, acc, hu, rfl, rfl, hto, hb⟩ := hrel
    clear hst
    by_cases hu0 : u = 0
    · subst hu0
      have hlen := fmtTo_len hto hm
      have Hf := Lib.hid (fmtTo_end hto)
      go_wp2
      go_ret
      exact ⟨by rw [← Hf.out]; exact congrArg (fun b => Ending.returned (.string b)) (ByteArray.mk_append_mk [45] acc), hb⟩
    · have hlen := fmtTo_len hto (by omega)
      have t2 : (-(u : Int) != 0) = true := by simp; omega
      have hconv := conv_digit u wr
      have r1 := neg_mod u
      have r2 := neg_div u
      by_cases hz : u % 10 = 0
      · have hz' : (u : Int) % 10 = 0 := by omega
        have hconv0 : (convert 22 9 (.slice (some ⟨wr.heap.size, 0, none⟩) 1 1)).run Tryd.prog (wr.alloc (.cells #[.int .u8 48] 5)) = .ok (.string ⟨#[48]⟩) (wr.alloc (.cells #[.int .u8 48] 5)) := conv_digit 0 wr
        have hto' := fmtTo_step hto hu0
        rw [hz] at hto'
        clear hz hconv
        go_wp2_with (go_at_call 71; refine (digit_ok _ _ (by omega) (by omega)).mono ?_; rintro e w' ⟨rfl, rfl⟩)
        go_roundw
        case rel => exact ⟨u / 10, 48 :: acc, by omega, by go_num, str_cons 0 acc, hto', hb.alloc hb.size _⟩
        case measure => simp [intOf]; omega
      · have hz' : -((u : Int) % 10) < 0 := by omega
        clear hz
        go_wp2_with (go_at_call 71; refine (digit_ok _ _ (by omega) (by omega)).mono ?_; rintro e w' ⟨rfl, rfl⟩)
        go_roundw
        case rel => exact ⟨u / 10, UInt8.ofNat (48 + u % 10) :: acc, by omega, by go_num, str_cons u acc, fmtTo_step hto hu0, hb.alloc hb.size _⟩
        case measure => simp [intOf]; omega
set_option maxRecDepth 100000 in
/-- The model's decimal text of every int. -/
theorem sformat_any (n : Int) (h0 : -9223372036854775808 ≤ n) (h1 : n ≤ 9223372036854775807) (w : World) : Calls Tryd.prog 46 #[.int .i64 n] w fun e w' => e = .returned (.string ⟨(Lib.itoa n).toArray⟩) ∧ Below w.heap.size w w' := by
  rcases Int.lt_trichotomy n 0 with h | h | h
  · obtain ⟨m, rfl⟩ : ∃ m : Nat, n = -(m : Int) := ⟨n.natAbs, by omega⟩
    rw [Lib.itoa_neg m (by omega)]
    exact sformat_neg m (by omega) (by omega) w
  · subst h
    go_enter Tryd.func46, Tryd.ntmps46
    go_wp2
    go_ret
    exact ⟨ret_str (a := [48]) (by rw [show (0 : Int) = ((0 : Nat) : Int) from rfl, Lib.itoa_nonneg, Lib.decDigits_one (by omega)]; rfl), Below.refl _ _⟩
  · obtain ⟨m, rfl⟩ : ∃ m : Nat, n = (m : Int) := ⟨n.toNat, by omega⟩
    rw [Lib.itoa_nonneg m]
    exact sformat_pos m (by omega) (by omega) w
end Go.Proofs.YtohfepcdgbgojabDoor
