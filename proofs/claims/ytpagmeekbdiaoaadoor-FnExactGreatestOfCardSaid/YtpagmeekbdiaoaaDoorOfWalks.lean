/- Contracts of spec.BigOf and impl.BigOf, and the walk of laws.FnExactBigOf. -/
import Derived.Test.YtpagmeekbdiaoaaDoorEqInts
import Derived.Test.YtpagmeekbdiaoaaDoorBigMath
import Derived.Laws.AppendOwn
namespace Go.Proofs.YtpagmeekbdiaoaaDoor
open Go.RowKit
set_option linter.unusedVariables false
theorem own_zero_lit (w : World) (T : TypeId) : (w.alloc (.cells #[] T)).ownsRow w.heap.size T 1 (.slice (some ⟨w.heap.size, 0, none⟩) 0 0) ([] : List Int).length (intCs []) :=
  World.ownsRow_lit w #[] 0 (Nat.le_refl _) (by unfold maxLen; omega) rfl
theorem isnoc {w1 : World} {B : Nat} {e : TypeId} {v : Value} {l : List Int} {n : Nat} {y : Int} (hn : n = l.length) (h : w1.ownsRow B e 1 v (n + 1) (intCs l ++ #[Value.int .i64 y].toList)) : w1.ownsRow B e 1 v (l ++ [y]).length (intCs (l ++ [y])) := by
  subst hn
  rw [intCs_app, List.length_append]
  exact h
set_option maxRecDepth 100000 in
set_option maxHeartbeats 1000000 in
theorem of_any (n : Int) (h1 : n ≤ 9223372036854775807) (w : World) : Calls Tryd.prog 14 #[.int .i64 n] w (OwnPost 3 (ofB n.toNat) w) := by
  obtain ⟨i0, hi, hz0, hz1, hz2⟩ := info_parts infoInt
  have hlen := Lib.hid (ofB_len 5 n.toNat (by omega))
  go_enter Tryd.func14, Tryd.ntmps14
  go_wp2
  go_loopw [0, 3] (fun x v wr => ∃ (y : Int) (out : List Int), y ≤ 9223372036854775807 ∧ x = .int .i64 y ∧ out ++ ofB y.toNat = ofB n.toNat ∧ wr.ownsRow w.heap.size 3 1 v out.length (intCs out) ∧ Below w.heap.size w wr) (fun x _ _ => (intOf x).toNat)
  case atStart => exact ⟨n, [], h1, rfl, rfl, World.ownsRow_nil _ _ _ _, Below.refl _ _⟩
  case round =>
    obtain ⟨y, out, hy, rfl, hof, hown, hb⟩ := hrel
    have HOF := Lib.hid hof
    clear hof
    by_cases hy0 : 0 < y
    · obtain ⟨u, rfl⟩ := Int.eq_ofNat_of_zero_le (Int.le_of_lt hy0)
      have hu : u ≠ 0 := by omega
      have hol : out.length ≤ 1000 := by have h2 := congrArg List.length HOF.out; rw [List.length_append] at h2; have := hlen.out; omega
      obtain ⟨k, hk⟩ : ∃ k, k = out.length := ⟨_, rfl⟩
      rw [← hk] at hown hol
      have HK := Lib.hid hk
      clear hk
      obtain ⟨lo, hlo⟩ : ∃ lo, lo = u % 10000 := ⟨_, rfl⟩
      have hm : (u : Int).tmod 10000 = (lo : Int) := by rw [Int.tmod_eq_emod_of_nonneg (by omega)]; omega
      have hm2 : (u : Int) % 10000 = (lo : Int) := by omega
      have HLO := Lib.hid hlo
      clear hlo
      go_wp2_with (at_builtin; refine wpList_append_lies _ rfl (.tmp 8) (.tmp 11) 63 rfl w.heap.size 3 i0 (.int .i64 0) 1 8 Tryd.underlying63 hi hz0 hz1 hz2 rfl (by decide) _ k _ rfl (hown.alloc _) ⟨wr.heap.size, 0, none⟩ 1 1 _ rfl rfl (World.news_of_block (heap_alloc_new wr _)) (by simp [Value.oneCell']) (by decide) (by unfold maxLen; omega) (by omega) (by have := hb.size; simp; omega) _ rfl ?_; intro g cap w1 hown' hgrow hat hgt)
      have R1 := isnoc HK.out hown'
      have R2 : Below w.heap.size w w1 := (hb.alloc hb.size _).grown hgrow (Nat.le_trans hb.size (by simp)) (fun j hj => (hown.lt j hj).1)
      clear hown' hgrow hat hgt hown hb
      go_wp2
      go_roundw
      case rel =>
        refine ⟨((u / 10000 : Nat) : Int), _, by omega, by go_num, ?_, R1, R2⟩
        have h2 := HOF.out
        rw [Int.toNat_natCast] at h2 ⊢
        rw [ofB_pos u hu] at h2
        rw [← h2, List.append_assoc, HLO.out]
        rfl
      case measure => simp [intOf]; omega
    · have h2 : out = ofB n.toNat := by have h2 := HOF.out; rw [show y.toNat = 0 from by omega, ofB_zero, List.append_nil] at h2; exact h2
      subst h2
      go_wp2
      go_ret
      exact ⟨_, rfl, hown, hb⟩
set_option maxRecDepth 100000 in
set_option maxHeartbeats 1000000 in
theorem sof_any (n : Int) (h1 : n ≤ 9223372036854775807) (w : World) : Calls Tryd.prog 52 #[.int .i64 n] w (OwnPost 3 (ofB n.toNat) w) := by
  obtain ⟨i0, hi, hz0, hz1, hz2⟩ := info_parts infoInt
  have hlen := Lib.hid (ofB_len 5 n.toNat (by omega))
  go_enter Tryd.func52, Tryd.ntmps52
  go_wp2
  go_loopw [0, 3] (fun x v wr => ∃ (y : Int) (out : List Int), y ≤ 9223372036854775807 ∧ x = .int .i64 y ∧ out ++ ofB y.toNat = ofB n.toNat ∧ wr.ownsRow w.heap.size 3 1 v out.length (intCs out) ∧ Below w.heap.size w wr) (fun x _ _ => (intOf x).toNat)
  case atStart => exact ⟨n, [], h1, rfl, rfl, own_zero_lit _ _, (Below.refl _ _).alloc (Nat.le_refl _) _⟩
  case round =>
    obtain ⟨y, out, hy, rfl, hof, hown, hb⟩ := hrel
    have HOF := Lib.hid hof
    clear hof
    by_cases hy0 : 0 < y
    · obtain ⟨u, rfl⟩ := Int.eq_ofNat_of_zero_le (Int.le_of_lt hy0)
      have hu : u ≠ 0 := by omega
      have hol : out.length ≤ 1000 := by have h2 := congrArg List.length HOF.out; rw [List.length_append] at h2; have := hlen.out; omega
      obtain ⟨k, hk⟩ : ∃ k, k = out.length := ⟨_, rfl⟩
      rw [← hk] at hown hol
      have HK := Lib.hid hk
      clear hk
      obtain ⟨lo, hlo⟩ : ∃ lo, lo = u % 10000 := ⟨_, rfl⟩
      have hm : (u : Int).tmod 10000 = (lo : Int) := by rw [Int.tmod_eq_emod_of_nonneg (by omega)]; omega
      have hm2 : (u : Int) % 10000 = (lo : Int) := by omega
      have HLO := Lib.hid hlo
      clear hlo
      go_wp2_with (at_builtin; refine wpList_append_lies _ rfl (.tmp 7) (.tmp 10) 24 rfl w.heap.size 3 i0 (.int .i64 0) 1 8 Tryd.underlying24 hi hz0 hz1 hz2 rfl (by decide) _ k _ rfl (hown.alloc _) ⟨wr.heap.size, 0, none⟩ 1 1 _ rfl rfl (World.news_of_block (heap_alloc_new wr _)) (by simp [Value.oneCell']) (by decide) (by unfold maxLen; omega) (by omega) (by have := hb.size; simp; omega) _ rfl ?_; intro g cap w1 hown' hgrow hat hgt)
      have R1 := isnoc HK.out hown'
      have R2 : Below w.heap.size w w1 := (hb.alloc hb.size _).grown hgrow (Nat.le_trans hb.size (by simp)) (fun j hj => (hown.lt j hj).1)
      clear hown' hgrow hat hgt hown hb
      go_wp2
      go_roundw
      case rel =>
        refine ⟨((u / 10000 : Nat) : Int), _, by omega, by go_num, ?_, R1, R2⟩
        have h2 := HOF.out
        rw [Int.toNat_natCast] at h2 ⊢
        rw [ofB_pos u hu] at h2
        rw [← h2, List.append_assoc, HLO.out]
        rfl
      case measure => simp [intOf]; omega
    · have h2 : out = ofB n.toNat := by have h2 := HOF.out; rw [show y.toNat = 0 from by omega, ofB_zero, List.append_nil] at h2; exact h2
      subst h2
      go_wp2
      go_ret
      exact ⟨_, rfl, hown, hb⟩
end Go.Proofs.YtpagmeekbdiaoaaDoor
