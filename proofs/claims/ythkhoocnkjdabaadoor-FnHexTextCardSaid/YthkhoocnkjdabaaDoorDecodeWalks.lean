/- Contract of impl.DecodeHex and of impl.hexValue. -/
import Derived.Test.YthkhoocnkjdabaaDoorProg
import Derived.Test.YthkhoocnkjdabaaDoorDecMath
import Derived.WalkKit
import Derived.Below
import Derived.Deep.AppendLies
import Derived.Lib.Hide
namespace Go.Proofs.YthkhoocnkjdabaaDoor
open Go.RowKit
set_option linter.unusedVariables false
theorem infoU8d : (Tryd.prog.info? 5).map (fun i => (i.zero, i.size, i.bytes)) = some (some (.int .u8 0), 1, 1) := by kernel_rfl
theorem hexValue_any (c : Nat) (hc : c < 256) (w : World) : Calls Tryd.prog 25 #[.int .u8 c] w fun e w' => e = .returned (.tuple #[.int .u8 (hvN c), .bool (hvB c)]) ∧ w = w' := by
  have hw : (hvN c : Int) = if 48 ≤ (c : Int) ∧ (c : Int) ≤ 57 then (c : Int) - 48 else if 97 ≤ (c : Int) ∧ (c : Int) ≤ 102 then (c : Int) - 97 + 10 else 0 := by
    unfold hvN; (repeat' split) <;> omega
  have hb : hvB c = decide ((48 ≤ (c : Int) ∧ (c : Int) ≤ 57) ∨ (97 ≤ (c : Int) ∧ (c : Int) ≤ 102)) := by
    unfold hvB; rw [decide_eq_decide]; omega
  have Hw := Lib.hid hw
  have Hb := Lib.hid hb
  clear hw hb
  rcases (show (c < 48) ∨ (48 ≤ c ∧ c ≤ 57) ∨ (57 < c ∧ c < 97) ∨ (97 ≤ c ∧ c ≤ 102) ∨ 102 < c from by omega) with h | h | h | h | h
  all_goals
    go_enter Tryd.func25, Tryd.ntmps25
    go_wp2
    go_ret2
    exact ⟨ret_ib (by rw [Hw.out]; (repeat' split) <;> omega) (by rw [Hb.out, eq_comm]; simp; omega), rfl⟩
set_option maxHeartbeats 1000000 in
theorem decode_any (s : ByteArray) (w : World) (hs : s.size ≤ maxLen) : Calls Tryd.prog 11 #[.string s] w fun e w' => e = .returned (.tuple #[.string ⟨(decV s).1.toArray⟩, .bool (decV s).2]) ∧ Below w.heap.size w w' := by
  unfold maxLen at hs
  by_cases hodd : s.size % 2 = 0
  · by_cases hbig : 40000 < s.size
    · have Hf := Lib.hid (decV_odd s (.inr hbig))
      have t1 : ((s.size : Int) % 2 != 0) = false := by simp; omega
      clear hodd
      go_enter Tryd.func11, Tryd.ntmps11
      go_wp2
      go_ret2
      exact ⟨ret_dec Hf.out, Below.refl _ _⟩
    · obtain ⟨i0, hi, hz0, hz1, hz2⟩ := info_parts infoU8d
      have hno : ¬ (s.size % 2 ≠ 0 ∨ 40000 < s.size) := by omega
      have Hno := Lib.hid hno
      have t1 : ((s.size : Int) % 2 != 0) = false := by simp; omega
      have hev : 2 ∣ s.size := by omega
      clear hodd hno
      go_enter Tryd.func11, Tryd.ntmps11
      go_wp2_with (at_make; refine wpList_make_own _ rfl _ _ 22 rfl w.heap.size 5 i0 (.int .u8 0) 1 Tryd.underlying22 hi hz0 hz1 _ _ _ (s.size / 2) rfl rfl (by omega) (by rw [hz2]; omega) (by unfold maxLen; omega) (Nat.le_refl _) ?_; intro w1 hown1 hgrow1)
      go_loopw [4, 5] (fun v i wr => ∃ j : Nat, ∃ l : List UInt8, j ≤ s.size ∧ 2 ∣ j ∧ i = .int .i64 j ∧ DecTo s j l ∧ wr.ownsRow w.heap.size 5 1 v l.length (Lib.byteCells l) ∧ Below w.heap.size w wr) (fun _ i _ => s.size - (intOf i).toNat)
      case atStart => exact ⟨0, [], Nat.zero_le _, by omega, rfl, decTo_zero s, hown1, (Below.refl _ _).grown hgrow1 (Nat.le_refl _) (by simp)⟩
      case round =>
        obtain ⟨j, l, hj, hd, rfl, hto, hown, hb⟩ := hrel
        clear hown1 hgrow1
        by_cases hlt : j < s.size
        · have hj1 : j + 1 < s.size := by omega
          have hl : l.length ≤ 20000 := by have := decTo_len hto hj; omega
          have c1 : s[j].toNat < 256 := s[j].toNat_lt
          have c2 : s[j + 1].toNat < 256 := s[j + 1].toNat_lt
          cases e1 : hvB s[j].toNat
          · have Hf := Lib.hid (decV_none s Hno.out (decTo_none hto hj1 (.inl e1)))
            go_wp2_with (go_at_call 25; refine (hexValue_any _ (by assumption) _).mono ?_; rintro e w' ⟨rfl, rfl⟩)
            go_ret2
            exact ⟨ret_dec Hf.out, hb⟩
          · cases e2 : hvB s[j + 1].toNat
            · have Hf := Lib.hid (decV_none s Hno.out (decTo_none hto hj1 (.inr e2)))
              go_wp2_with (go_at_call 25; refine (hexValue_any _ (by assumption) _).mono ?_; rintro e w' ⟨rfl, rfl⟩)
              go_ret2
              exact ⟨ret_dec Hf.out, hb⟩
            · have b1 : (hvN s[j].toNat : Int) < 16 := by have := hvN_lt s[j].toNat; omega
              have b2 : (hvN s[j + 1].toNat : Int) < 16 := by have := hvN_lt s[j + 1].toNat; omega
              have n1 : l.length + 1 ≤ maxLen := by unfold maxLen; omega
              have n2 : (l.length + 1) * 1 ≤ 140737488355328 := by omega
              have n3 : ∀ o, w.heap.size ≤ (wr.alloc o).heap.size := fun o => by have := hb.size; simp; omega
              have hto' := decTo_step hto hj1 e1 e2
              go_wp2_with (first
                | (go_at_call 25; refine (hexValue_any _ (by assumption) _).mono ?_; rintro e w' ⟨rfl, rfl⟩)
                | (at_builtin; refine wpList_append_lies _ rfl (.tmp 50) (.tmp 55) 22 rfl w.heap.size 5 i0 (.int .u8 0) 1 1 Tryd.underlying22 hi hz0 hz1 hz2 rfl (by decide) u4 l.length _ rfl (hown.alloc _) ⟨wr.heap.size, 0, none⟩ 1 1 _ rfl rfl (World.news_of_block (heap_alloc_new wr _)) (by simp [Value.oneCell']) (by decide) n1 n2 (n3 _) _ rfl ?_; intro g cap w1 hown' hgrow hat hgt; have R1 := dec_own (a := s[j].toNat) (b := s[j + 1].toNat) (by omega) hown'; have R2 : Below w.heap.size w w1 := (hb.alloc hb.size _).grown hgrow (Nat.le_trans hb.size (by simp)) (fun j hj => (hown.lt j hj).1); clear hown' hgrow hat hgt hown hb n1 n2 n3 e1 e2 b1 b2 c1 c2))
              go_roundw
              case rel => exact ⟨j + 2, l ++ [UInt8.ofNat (16 * hvN s[j].toNat + hvN s[j + 1].toNat)], by omega, by omega, by go_num, hto', by assumption, by assumption⟩
              case measure => simp [intOf]; omega
        · have hconv := conv_own (P := Tryd.prog) (src := 22) (dst := 9) Tryd.underlying22 Tryd.underlying5 Tryd.underlying9 hown
          have Hf := Lib.hid (decV_ok s Hno.out l (decTo_all hto (by omega)))
          go_wp2
          go_ret2
          exact ⟨ret_dec Hf.out, hb⟩
  · have Hf := Lib.hid (decV_odd s (.inl hodd))
    have t1 : ((s.size : Int) % 2 != 0) = true := by simp; omega
    go_enter Tryd.func11, Tryd.ntmps11
    go_wp2
    go_ret2
    exact ⟨ret_dec Hf.out, Below.refl _ _⟩
end Go.Proofs.YthkhoocnkjdabaaDoor
