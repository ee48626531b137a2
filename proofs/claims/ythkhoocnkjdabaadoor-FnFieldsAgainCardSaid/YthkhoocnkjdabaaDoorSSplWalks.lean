/- Contract of spec.SplitFields. -/
import Derived.Test.YthkhoocnkjdabaaDoorSplWalks
namespace Go.Proofs.YthkhoocnkjdabaaDoor
open Go.RowKit
set_option linter.unusedVariables false
theorem split_no' {T : TypeId} {l : List UInt8} {w wr : World} (h : splV l = ([], false)) (hb : Below w.heap.size w wr) : SplPost T l w (.returned (.tuple #[.slice (some ⟨wr.heap.size, 0, none⟩) 0 0, .bool false])) (wr.alloc (.cells #[] T)) :=
  ⟨_, by rw [h], by rw [h]; exact World.ownsRow_lit wr #[] 0 hb.size (Nat.zero_le _) rfl, hb.alloc hb.size _⟩
/-- The model's state after k bytes; behind the last one all fields are there. -/
def SplS (s : ByteArray) (k st : Nat) (fs : List (List UInt8)) : Prop := (k ≤ s.size ∧ ∃ cur, SplTo s k st fs cur) ∨ (k = s.size + 1 ∧ splEnd (splFold s.data.toList) = fs ∧ okS s.data.toList = decide (fs.length ≤ 24))
theorem splS_zero (s : ByteArray) : SplS s 0 0 [] := .inl ⟨Nat.zero_le _, [], splTo_zero s⟩
set_option maxHeartbeats 2000000 in
theorem ssplit_any (s : ByteArray) (w : World) (hs : s.size ≤ maxLen) : Calls Tryd.prog 16 #[.string s] w (SplPost 9 s.data.toList w) := by
  unfold maxLen at hs
  obtain ⟨i0, hi, hz0, hz1, hz2⟩ := info_parts infoStr
  by_cases h6 : 600 < s.size
  · have Hf := Lib.hid (splV_no (spl_long h6))
    go_enter Tryd.func16, Tryd.ntmps16
    go_wp2
    go_ret2
    exact split_no' Hf.out (Below.refl _ _)
  · have hst0 := splS_zero s
    go_enter Tryd.func16, Tryd.ntmps16
    go_wp2
    go_loopw [4, 5, 6] (fun v b i wr => ∃ (k st : Nat) (fs : List (List UInt8)), k ≤ s.size + 1 ∧ st ≤ k ∧ fs.length ≤ k ∧ i = .int .i64 k ∧ b = .int .i64 st ∧ SplS s k st fs ∧ wr.ownsRow w.heap.size 9 1 v fs.length ((strOf fs).map Value.string) ∧ Below w.heap.size w wr) (fun _ _ i _ => s.size + 1 - (intOf i).toNat)
    case atStart => exact ⟨0, 0, [], Nat.zero_le _, Nat.le_refl _, Nat.le_refl _, rfl, rfl, hst0, World.ownsRow_lit w #[] 0 (Nat.le_refl _) (Nat.zero_le _) rfl, (Below.refl _ _).alloc (Nat.le_refl _) _⟩
    case round =>
      obtain ⟨k, st, fs, hk, hst, hcnt, rfl, rfl, hS, hown, hb⟩ := hrel
      clear hst0
      have n1 : fs.length + 1 ≤ maxLen := by unfold maxLen; omega
      have n2 : (fs.length + 1) * 16 ≤ 140737488355328 := by omega
      have n3 : ∀ o, w.heap.size ≤ (wr.alloc o).heap.size := fun o => by have := hb.size; simp; omega
      have hst' : (st : Int) ≤ k := by omega
      rcases hS with ⟨hk', cur, hto⟩ | ⟨hk', hfin, hok⟩
      · have hkI : (k : Int) ≤ s.size := by omega
        by_cases hlt : k < s.size
        · have hlt' : (k : Int) < s.size := by omega
          rcases (show (s[k].toNat < 32 ∨ 126 < s[k].toNat) ∨ s[k].toNat = 32 ∨ (32 < s[k].toNat ∧ s[k].toNat ≤ 126) from by omega) with hc | hc | hc
          · have Hf := Lib.hid (splV_no (spl_bad hlt hc))
            rcases hc with hc | hc
            all_goals
              go_wp2
              go_ret2
              exact split_no' Hf.out hb
          · have t1 : ((s[k].toNat : Int) != 32) = false := by simp; omega
            have t2 : (s[k].toNat : Int) ≤ 32 := by omega
            have t3 : (32 : Int) ≤ (s[k].toNat : Int) := by omega
            by_cases hl : st < k
            · have hto' := hto.space hlt hc hl
              have hstr := Lib.hid hto.str
              have hlI : (st : Int) < k := by omega
              clear hc
              go_wp2_with (at_builtin; refine wpList_append_lies _ rfl (.tmp 48) (.tmp 53) 31 rfl w.heap.size 9 i0 (.string ⟨#[]⟩) 1 16 Tryd.underlying31 hi hz0 hz1 hz2 rfl (by decide) u4 fs.length _ rfl (hown.alloc _) ⟨wr.heap.size, 0, none⟩ 1 1 _ rfl rfl (World.news_of_block (heap_alloc_new wr _)) (by simp [Value.oneCell']) (by decide) n1 n2 (n3 _) _ rfl ?_; intro g cap w1 hown' hgrow hat hgt; rw [hstr.out] at hown'; have R1 := own_snoc rfl hown'; have R2 : Below w.heap.size w w1 := (hb.alloc hb.size _).grown hgrow (n3 _) (fun j hj => (hown.lt j hj).1); clear hown' hgrow hat hgt hown hb n1 n2 n3)
              go_roundw
              case rel => exact ⟨k + 1, k + 1, fs ++ [cur], by omega, Nat.le_refl _, by simp; omega, by go_num, by go_num, .inl ⟨by omega, [], hto'⟩, by assumption, by assumption⟩
              case measure => simp [intOf]; omega
            · have hto' := hto.space0 hlt hc hl
              have hlI : ¬ (st : Int) < k := by omega
              clear hc
              go_wp2
              go_roundw
              case rel => exact ⟨k + 1, k + 1, fs, by omega, Nat.le_refl _, by omega, by go_num, by go_num, .inl ⟨by omega, [], hto'⟩, hown, hb⟩
              case measure => simp [intOf]; omega
          · have hto' := hto.char hlt (by omega) (by omega)
            have t1 : ((s[k].toNat : Int) != 32) = true := by simp; omega
            have t2 : (s[k].toNat : Int) ≤ 126 := by omega
            have t3 : (32 : Int) < (s[k].toNat : Int) := by omega
            go_wp2
            go_roundw
            case rel => exact ⟨k + 1, st, fs, by omega, by omega, by omega, by go_num, rfl, .inl ⟨by omega, _, hto'⟩, hown, hb⟩
            case measure => simp [intOf]; omega
        · obtain rfl : k = s.size := by omega
          have hok := hto.okS rfl (by omega)
          by_cases hl : st < s.size
          · have hfin := hto.fin rfl (fs ++ [cur]) (by rw [if_pos hl])
            rw [hfin] at hok
            have HS := Lib.hid (show SplS s (s.size + 1) (s.size + 1) (fs ++ [cur]) from .inr ⟨rfl, hfin, hok⟩)
            have hstr := Lib.hid hto.str
            have hlI : (st : Int) < s.size := by omega
            clear hfin hok
            go_wp2_with (at_builtin; refine wpList_append_lies _ rfl (.tmp 48) (.tmp 53) 31 rfl w.heap.size 9 i0 (.string ⟨#[]⟩) 1 16 Tryd.underlying31 hi hz0 hz1 hz2 rfl (by decide) u4 fs.length _ rfl (hown.alloc _) ⟨wr.heap.size, 0, none⟩ 1 1 _ rfl rfl (World.news_of_block (heap_alloc_new wr _)) (by simp [Value.oneCell']) (by decide) n1 n2 (n3 _) _ rfl ?_; intro g cap w1 hown' hgrow hat hgt; rw [hstr.out] at hown'; have R1 := own_snoc rfl hown'; have R2 : Below w.heap.size w w1 := (hb.alloc hb.size _).grown hgrow (n3 _) (fun j hj => (hown.lt j hj).1); clear hown' hgrow hat hgt hown hb n1 n2 n3)
            go_roundw
            case rel => exact ⟨s.size + 1, s.size + 1, fs ++ [cur], by omega, Nat.le_refl _, by simp; omega, by go_num, by go_num, HS.out, by assumption, by assumption⟩
            case measure => simp [intOf]
          · have hfin := hto.fin rfl fs (by rw [if_neg hl])
            rw [hfin] at hok
            have HS := Lib.hid (show SplS s (s.size + 1) (s.size + 1) fs from .inr ⟨rfl, hfin, hok⟩)
            have hlI : ¬ (st : Int) < s.size := by omega
            clear hfin hok
            go_wp2
            go_roundw
            case rel => exact ⟨s.size + 1, s.size + 1, fs, by omega, Nat.le_refl _, by omega, by go_num, by go_num, HS.out, hown, hb⟩
            case measure => simp [intOf]
      · have hkI : ¬ (k : Int) ≤ s.size := by omega
        obtain ⟨pp, cc, hv⟩ := own_slice hown
        subst hv
        by_cases h24 : fs.length ≤ 24
        · have Hf := Lib.hid (splV_yes (l := s.data.toList) (by rw [hok]; simpa using h24))
          rw [hfin] at Hf
          have h24' : ¬ (24 : Int) < (fs.length : Int) := by omega
          clear hfin hok hk'
          go_wp2
          go_ret2
          exact split_yes Hf.out hown hb
        · have Hf := Lib.hid (splV_no (l := s.data.toList) (by rw [hok]; simp; omega))
          have h24' : (24 : Int) < (fs.length : Int) := by omega
          clear hfin hok hk'
          go_wp2
          go_ret2
          exact split_no' Hf.out hb
end Go.Proofs.YthkhoocnkjdabaaDoor
