/- Contract of impl.EncodeHex. -/
import Derived.Test.YthkhoocnkjdabaaDoorProg
import Derived.Test.YthkhoocnkjdabaaDoorHexMath
import Derived.WalkKit
import Derived.Below
import Derived.Deep.AppendLies
import Derived.Deep.RegionLaw
import Derived.Lib.Hide
import Derived.Outline
namespace Go.Proofs.YthkhoocnkjdabaaDoor
open Go.RowKit
set_option linter.unusedVariables false
theorem infoU8 : (Tryd.prog.info? 5).map (fun i => (i.zero, i.size, i.bytes)) = some (some (.int .u8 0), 1, 1) := by kernel_rfl
theorem encode_long (s : ByteArray) (w : World) (h : 20000 < s.size) (hs : s.size ≤ maxLen) : Calls Tryd.prog 9 #[.string s] w fun e w' => e = .returned (.tuple #[.string ⟨#[]⟩, .bool false]) ∧ w = w' := by
  unfold maxLen at hs
  go_enter Tryd.func9, Tryd.ntmps9
  go_wp2
  go_ret2
  exact ⟨rfl, rfl⟩
set_option maxHeartbeats 400000 in
theorem encode_ok (s : ByteArray) (w : World) (h : s.size ≤ 20000) : Calls Tryd.prog 9 #[.string s] w fun e w' => e = .returned (.tuple #[.string ⟨(encB s.data.toList).toArray⟩, .bool true]) ∧ Below w.heap.size w w' := by
  obtain ⟨i0, hi, hz0, hz1, hz2⟩ := info_parts infoU8
  go_enter Tryd.func9, Tryd.ntmps9
  go_wp2_with (at_make; refine wpList_make_own _ rfl _ _ 22 rfl w.heap.size 5 i0 (.int .u8 0) 1 Tryd.underlying22 hi hz0 hz1 _ _ _ (2 * s.size) rfl rfl (by push_cast; omega) (by rw [hz2]; omega) (by unfold maxLen; omega) (Nat.le_refl _) ?_; intro w1 hown1 hgrow1)
  go_loopw [4, 5] (fun v i wr => ∃ k : Nat, k ≤ s.size ∧ i = .int .i64 k ∧ wr.ownsRow w.heap.size 5 1 v (2 * k) (Lib.byteCells (encB (s.data.toList.take k))) ∧ Below w.heap.size w wr) (fun _ i _ => s.size - (intOf i).toNat)
  case atStart => exact ⟨0, Nat.zero_le _, rfl, by simpa [encB, Lib.byteCells] using hown1, (Below.refl _ _).grown hgrow1 (Nat.le_refl _) (by simp)⟩
  case round =>
    obtain ⟨k, hk, rfl, hown, hb⟩ := hrel
    clear hown1 hgrow1
    by_cases hlt : k < s.size
    · have hbd : ((s[k].toNat : Nat) : Int) < 256 := by have := s[k].toNat_lt; omega
      have hq : IntKind.u8.wrap ((s[k].toNat : Int) / 16) = (s[k].toNat : Int) / 16 := IntWalk.u8_in _ ⟨by omega, by omega⟩
      have hr : IntKind.u8.wrap ((s[k].toNat : Int) % 16) = (s[k].toNat : Int) % 16 := IntWalk.u8_in _ ⟨by omega, by omega⟩
      have hq1 : 0 ≤ (s[k].toNat : Int) / 16 := by omega
      have hr1 : 0 ≤ (s[k].toNat : Int) % 16 := by omega
      have hq2 : (s[k].toNat : Int) / 16 < 16 := by omega
      have hr2 : (s[k].toNat : Int) % 16 < 16 := by omega
      have hq3 : ((s[k].toNat : Int) / 16).toNat = s[k].toNat / 16 := by omega
      have hr3 : ((s[k].toNat : Int) % 16).toNat = s[k].toNat % 16 := by omega
      have hm : (s[k].toNat : Int).tmod 16 = (s[k].toNat : Int) % 16 := Int.tmod_eq_emod_of_nonneg (by omega)
      have hhex := hexConst
      go_wp2_with fail
      go_region_law ((refine step_append_lies _ rfl (.tmp 19) (.tmp 30) 22 rfl w.heap.size 5 i0 (.int .u8 0) 1 1 Tryd.underlying22 hi hz0 hz1 hz2 rfl (by decide) u4 (2 * k) _ rfl (hown.alloc _) ⟨wr.heap.size, 0, none⟩ 2 2 _ rfl rfl (World.news_of_block (heap_alloc_new wr _)) (by simp [Value.oneCell']) (by decide) (by unfold maxLen; omega) (by omega) (by have := hb.size; simp; omega) _ rfl ?_); intro g cap w1 hown' hgrow hat hgt)
      all_goals
        have R1 := enc_own hlt rfl hown'
        have R2 : Below w.heap.size w w1 := ((hb.alloc hb.size _).drew).grown hgrow (Nat.le_trans hb.size (by simp)) (fun j hj => (hown.lt j hj).1)
        clear hown' hgrow hat hgt hown hb hhex hm hq3 hr3 hq2 hr2 hq1 hr1 hq hr
        go_wp2
        go_roundw
        case rel => exact ⟨k + 1, by omega, by go_num, R1, R2⟩
        case measure => simp [intOf]; omega
    · have hconv := conv_own (P := Tryd.prog) (src := 22) (dst := 9) Tryd.underlying22 Tryd.underlying5 Tryd.underlying9 hown
      have hk' : s.data.toList.take k = s.data.toList := List.take_of_length_le (by simp; omega)
      rw [hk'] at hconv
      clear hk'
      go_wp2
      go_ret2
      exact ⟨rfl, hb⟩
end Go.Proofs.YthkhoocnkjdabaaDoor
