/- Contract of spec.DecodeHex and of spec.l01Value. -/
import Derived.Test.YthkhoocnkjdabaaProg
import Derived.Test.YthkhoocnkjdabaaDecMath
import Derived.WalkKit
import Derived.Below
import Derived.Deep.AppendLies
import Derived.Lib.Hide
namespace Go.Proofs.Ythkhoocnkjdabaa
open Go.RowKit
set_option linter.unusedVariables false
theorem infoU8e : (Try.prog.info? 5).map (fun i => (i.zero, i.size, i.bytes)) = some (some (.int .u8 0), 1, 1) := by kernel_rfl
/-- The model's value of a digit: -1 if it is none. -/
def svI (c : Nat) : Int := if hvB c then (hvN c : Int) else -1
theorem svI_pos (c : Nat) (h : hvB c = true) : svI c = hvN c := by unfold svI; rw [if_pos h]
theorem svI_neg (c : Nat) (h : hvB c = false) : svI c = -1 := by unfold svI; rw [if_neg (by simp [h])]
theorem value_any (c : Nat) (hc : c < 256) (w : World) : Calls Try.prog 29 #[.int .u8 c] w fun e w' => e = .returned (.int .i64 (svI c)) ∧ w = w' := by
  have hw : svI c = if 48 ≤ (c : Int) ∧ (c : Int) ≤ 57 then (c : Int) - 48 else if 97 ≤ (c : Int) ∧ (c : Int) ≤ 102 then (c : Int) - 97 + 10 else -1 := by
    unfold svI hvB hvN
    by_cases h : (48 ≤ c ∧ c ≤ 57) ∨ (97 ≤ c ∧ c ≤ 102)
    · rw [if_pos (by simpa using h)]; (repeat' split) <;> omega
    · rw [if_neg (by simpa using h)]; (repeat' split) <;> omega
  have Hw := Lib.hid hw
  clear hw
  have hu : IntKind.i64.wrap (c : Int) = (c : Int) := IntWalk.i64_in _ ⟨by omega, by omega⟩
  rcases (show (c < 48) ∨ (48 ≤ c ∧ c ≤ 57) ∨ (57 < c ∧ c < 97) ∨ (97 ≤ c ∧ c ≤ 102) ∨ 102 < c from by omega) with h | h | h | h | h
  all_goals
    go_enter Try.func29, Try.ntmps29
    go_wp2
    go_ret
    exact ⟨ret_int (by rw [Hw.out]; (repeat' split) <;> omega), rfl⟩
set_option maxHeartbeats 1000000 in
theorem sdecode_any (s : ByteArray) (w : World) (hs : s.size ≤ maxLen) : Calls Try.prog 14 #[.string s] w fun e w' => e = .returned (.tuple #[.string ⟨(decV s).1.toArray⟩, .bool (decV s).2]) ∧ Below w.heap.size w w' := by
  unfold maxLen at hs
  by_cases hodd : s.size % 2 = 0
  · by_cases hbig : 40000 < s.size
    · have Hf := Lib.hid (decV_odd s (.inr hbig))
      have t1 : ((s.size : Int) % 2 != 0) = false := by simp; omega
      clear hodd
      go_enter Try.func14, Try.ntmps14
      go_wp2
      go_ret2
      exact ⟨ret_dec Hf.out, Below.refl _ _⟩
    · obtain ⟨i0, hi, hz0, hz1, hz2⟩ := info_parts infoU8e
      have hno : ¬ (s.size % 2 ≠ 0 ∨ 40000 < s.size) := by omega
      have Hno := Lib.hid hno
      have t1 : ((s.size : Int) % 2 != 0) = false := by simp; omega
      have hev : 2 ∣ s.size := by omega
      clear hodd hno
      go_enter Try.func14, Try.ntmps14
      go_wp2
      go_loopw [4, 5] (fun v i wr => ∃ j : Nat, ∃ l : List UInt8, j ≤ s.size ∧ 2 ∣ j ∧ i = .int .i64 j ∧ DecTo s j l ∧ wr.ownsRow w.heap.size 5 1 v l.length (Lib.byteCells l) ∧ Below w.heap.size w wr) (fun _ i _ => s.size - (intOf i).toNat)
      case atStart => exact ⟨0, [], Nat.zero_le _, by omega, rfl, decTo_zero s, World.ownsRow_lit w #[] 0 (Nat.le_refl _) (Nat.zero_le _) rfl, (Below.refl _ _).alloc (Nat.le_refl _) _⟩
      case round =>
        obtain ⟨j, l, hj, hd, rfl, hto, hown, hb⟩ := hrel
        by_cases hlt : j < s.size
        · have hj1 : j + 1 < s.size := by omega
          have hl : l.length ≤ 20000 := by have := decTo_len hto hj; omega
          have c1 : s[j].toNat < 256 := s[j].toNat_lt
          have c2 : s[j + 1].toNat < 256 := s[j + 1].toNat_lt
          cases e1 : hvB s[j].toNat
          · have Hf := Lib.hid (decV_none s Hno.out (decTo_none hto hj1 (.inl e1)))
            have q1 : svI s[j].toNat < 0 := by rw [svI_neg _ e1]; omega
            go_wp2_with (go_at_call 29; refine (value_any _ (by assumption) _).mono ?_; rintro e w' ⟨rfl, rfl⟩)
            go_ret2
            exact ⟨ret_dec Hf.out, hb⟩
          · cases e2 : hvB s[j + 1].toNat
            · have Hf := Lib.hid (decV_none s Hno.out (decTo_none hto hj1 (.inr e2)))
              have q1 : 0 ≤ svI s[j].toNat := by rw [svI_pos _ e1]; omega
              have q2 : svI s[j + 1].toNat < 0 := by rw [svI_neg _ e2]; omega
              go_wp2_with (go_at_call 29; refine (value_any _ (by assumption) _).mono ?_; rintro e w' ⟨rfl, rfl⟩)
              go_ret2
              exact ⟨ret_dec Hf.out, hb⟩
            · have b1 : (hvN s[j].toNat : Int) < 16 := by have := hvN_lt s[j].toNat; omega
              have b2 : (hvN s[j + 1].toNat : Int) < 16 := by have := hvN_lt s[j + 1].toNat; omega
              have HS1 := Lib.hid (svI_pos _ e1)
              have HS2 := Lib.hid (svI_pos _ e2)
              have q1 : 0 ≤ svI s[j].toNat := by rw [svI_pos _ e1]; omega
              have q2 : 0 ≤ svI s[j + 1].toNat := by rw [svI_pos _ e2]; omega
              have q3 : svI s[j].toNat < 16 := by rw [svI_pos _ e1]; omega
              have q4 : svI s[j + 1].toNat < 16 := by rw [svI_pos _ e2]; omega
              have n1 : l.length + 1 ≤ maxLen := by unfold maxLen; omega
              have n2 : (l.length + 1) * 1 ≤ 140737488355328 := by omega
              have n3 : ∀ o, w.heap.size ≤ (wr.alloc o).heap.size := fun o => by have := hb.size; simp; omega
              have hto' := decTo_step hto hj1 e1 e2
              go_wp2_with (first
                | (go_at_call 29; refine (value_any _ (by assumption) _).mono ?_; rintro e w' ⟨rfl, rfl⟩)
                | (at_builtin; refine wpList_append_lies _ rfl (.tmp 39) (.tmp 45) 22 rfl w.heap.size 5 i0 (.int .u8 0) 1 1 Try.underlying22 hi hz0 hz1 hz2 rfl (by decide) u4 l.length _ rfl (hown.alloc _) ⟨wr.heap.size, 0, none⟩ 1 1 _ rfl rfl (World.news_of_block (heap_alloc_new wr _)) (by simp [Value.oneCell']) (by decide) n1 n2 (n3 _) _ rfl ?_; intro g cap w1 hown' hgrow hat hgt; have R1 := dec_own (a := s[j].toNat) (b := s[j + 1].toNat) (by have h1 := HS1.out; have h2 := HS2.out; omega) hown'; have R2 : Below w.heap.size w w1 := (hb.alloc hb.size _).grown hgrow (Nat.le_trans hb.size (by simp)) (fun j hj => (hown.lt j hj).1); clear hown' hgrow hat hgt hown hb n1 n2 n3 e1 e2 b1 b2 c1 c2 q1 q2 q3 q4 HS1 HS2))
              go_roundw
              case rel => exact ⟨j + 2, l ++ [UInt8.ofNat (16 * hvN s[j].toNat + hvN s[j + 1].toNat)], by omega, by omega, by go_num, hto', by assumption, by assumption⟩
              case measure => simp [intOf]; omega
        · have hconv := conv_own (P := Try.prog) (src := 22) (dst := 9) Try.underlying22 Try.underlying5 Try.underlying9 hown
          have Hf := Lib.hid (decV_ok s Hno.out l (decTo_all hto (by omega)))
          go_wp2
          go_ret2
          exact ⟨ret_dec Hf.out, hb⟩
  · have Hf := Lib.hid (decV_odd s (.inl hodd))
    have t1 : ((s.size : Int) % 2 != 0) = true := by simp; omega
    go_enter Try.func14, Try.ntmps14
    go_wp2
    all_goals
      go_ret2
      exact ⟨ret_dec Hf.out, Below.refl _ _⟩
end Go.Proofs.Ythkhoocnkjdabaa
