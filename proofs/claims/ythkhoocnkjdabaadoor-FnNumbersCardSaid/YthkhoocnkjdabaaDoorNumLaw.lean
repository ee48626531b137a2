/- Contract of spec.DrawFormatInt, and the walk of laws.FnNumbers. -/
import Derived.Test.YthkhoocnkjdabaaDoorDrawNum
import Derived.Test.YthkhoocnkjdabaaDoorItoaWalks
import Derived.Test.YthkhoocnkjdabaaDoorParseWalks
namespace Go.Proofs.YthkhoocnkjdabaaDoor
open Go.RowKit
set_option linter.unusedVariables false
theorem dec_all : ∀ m : Nat, (Lib.decDigits m).all isDg = true := by
  intro m
  induction m using Nat.strongRecOn with
  | _ m ih =>
    have hd : ∀ x : Nat, x < 10 → isDg (UInt8.ofNat (48 + x)) = true := fun x hx => by
      have : (UInt8.ofNat (48 + x)).toNat = 48 + x := by rw [UInt8.toNat_ofNat']; omega
      unfold isDg; rw [this]; simp; omega
    rw [Lib.decDigits]
    split
    · rename_i h; simp only [List.all_cons, List.all_nil, Bool.and_true]; exact hd m h
    · rw [List.all_append, ih (m / 10) (by omega)]; simp only [List.all_cons, List.all_nil, Bool.and_true, Bool.true_and]; exact hd _ (by omega)
theorem val_dec : ∀ m : Nat, valD (Lib.decDigits m) = m := by
  intro m
  induction m using Nat.strongRecOn with
  | _ m ih =>
    have hd : ∀ x : Nat, x < 10 → (UInt8.ofNat (48 + x)).toNat = 48 + x := fun x hx => by rw [UInt8.toNat_ofNat']; omega
    rw [Lib.decDigits]
    split
    · rename_i h
      have := valD_snoc [] (UInt8.ofNat (48 + m))
      rw [List.nil_append] at this
      rw [this, hd m h]; simp [valD]
    · rw [valD_snoc, ih (m / 10) (by omega), hd _ (by omega)]; omega
theorem par_in (m : Nat) (h : m ≤ 1000000000) : parV (Lib.itoa (m : Int)) = ((m : Int), true) := by
  rw [Lib.itoa_nonneg, parV_yes (by simp [okU, dec_all, dec_canon, val_dec, h]), val_dec]
theorem par_big (m : Nat) (h : 1000000000 < m) : parV (Lib.itoa (m : Int)) = (0, false) := by
  rw [Lib.itoa_nonneg, parV_no (by have : ¬ m ≤ 1000000000 := by omega
                                   simp [okU, val_dec, this])]
theorem par_neg (m : Nat) (h : 0 < m) : parV (Lib.itoa (-(m : Int))) = (0, false) := by
  rw [Lib.itoa_neg m h, parV_no (by simp [okU, isDg])]
theorem itoa_ne (n : Int) : ¬ Lib.itoa n = [] := by unfold Lib.itoa; split <;> simp [dec_ne]
theorem parse_list (l : List UInt8) (w : World) (hl : l.length ≤ maxLen) : Calls Tryd.prog 13 #[.string ⟨l.toArray⟩] w fun e w' => e = .returned (.tuple #[.int .i64 (parV l).1, .bool (parV l).2]) ∧ w = w' :=
  parse_any ⟨l.toArray⟩ w (by simpa [ByteArray.size] using hl)
/-- An int; what was there is as it was. -/
def DrawnI (W : World) (e : Ending) (w' : World) : Prop := ∃ x : Int, InI64 x ∧ e = .returned (.int .i64 x) ∧ Below W.heap.size W w'
theorem wrap_in (x : Int) : InI64 (wrap64 x) := by unfold InI64 wrap64; omega
set_option maxHeartbeats 400000 in
theorem drawFormat_any {W : World} {a : Option Addr} {len cap : Nat} {zs : List Int} (hr : IsRow .u8 W a len cap zs) :
    Calls Tryd.prog 12 #[.slice a len cap] W (DrawnI W) := by
  go_enter Tryd.func12, Tryd.ntmps12
  go_wp2_with fail
  refine (new_any hr).mono ?_
  rintro e w1 ⟨b, rfl, hc1⟩
  go_wp2_with fail
  refine (once_any hc1 _).mono ?_
  rintro e w2 ⟨x, rfl, hc2, hg2⟩
  cases x
  · go_wp2_with fail
    refine (number_any hc2).mono ?_
    rintro e w3 ⟨y, hy, rfl, hc3, hg3⟩
    go_wp2_with fail
    go_ret
    exact ⟨y, hy, rfl, hc3.below⟩
  · go_wp2_with fail
    refine (below_any hc2 _).mono ?_
    rintro e w3 ⟨y, ⟨hy0, _, hy1⟩, rfl, hc3, hg3⟩
    have hy2 := hy1 (by omega)
    clear hy1
    go_wp2_with fail
    refine (below_any hc3 _).mono ?_
    rintro e w4 ⟨z, ⟨hz0, _, hz1⟩, rfl, hc4, hg4⟩
    have hz2 := hz1 (by omega)
    clear hz1
    go_wp2_with fail
    go_ret
    exact ⟨wrap64 (y * (z - 1000000)), wrap_in _, rfl, hc4.below⟩
theorem big_any' (a : Option Addr) (len cap : Nat) (w : World) (h : len ≤ 9223372036854775807) : Calls Tryd.prog 7 #[.slice a len cap] w fun e w' => e = .returned (.bool (decide (1048576 < (len : Int)))) ∧ w = w' := by
  go_enter Tryd.func7, Tryd.ntmps7
  go_wp2
  go_ret
  exact ⟨rfl, rfl⟩
theorem row_len' {k : IntKind} {W : World} {a : Option Addr} {len cap : Nat} {zs : List Int} (hr : IsRow k W a len cap zs) : len ≤ 9223372036854775807 := by
  rcases hr with ⟨_, h1, _⟩ | ⟨x, _, h1, h2, _⟩
  · omega
  · unfold maxLen at h2; omega
set_option maxHeartbeats 1000000 in
theorem walk_FnNumbers (a0 : Option Addr) (len0 cap0 : Nat) (z0 : List Int) (w : World) (ht : ItoaTab w) (hr : IsRow .u8 w a0 len0 cap0 z0) :
    Calls Tryd.prog 4 #[.slice a0 len0 cap0] w fun e w' => e = .returned (.bool true) ∧ Below w.heap.size w w' := by
  have hlen := row_len' hr
  by_cases hbig : 1048576 < len0
  · have t0 : decide (1048576 < (len0 : Int)) = true := by simp; omega
    go_enter Tryd.func4, Tryd.ntmps4
    go_wp2_with fail
    refine (big_any' _ _ _ _ hlen).mono ?_
    rintro e w' ⟨rfl, rfl⟩
    go_wp2_with fail
    go_ret
    exact ⟨rfl, Below.refl _ _⟩
  · have t0 : decide (1048576 < (len0 : Int)) = false := by simp; omega
    have HT := Lib.hid ht
    clear ht
    go_enter Tryd.func4, Tryd.ntmps4
    go_wp2_with fail
    refine (big_any' _ _ _ _ hlen).mono ?_
    rintro e w' ⟨rfl, rfl⟩
    go_wp2_with fail
    refine (drawFormat_any hr).mono ?_
    rintro e w1 ⟨n, ⟨hn0, hn1⟩, rfl, hb1⟩
    go_wp2_with fail
    refine (format_any n hn0 hn1 w1 (HT.out.below hb1 HT.out.lt)).mono ?_
    rintro e w2 ⟨rfl, hb2⟩
    have hll := Lib.itoa_length_le n hn0 hn1
    have hfin := hb1.trans (hb2.mono hb1.size)
    have u1 := itoa_ne n
    have u2 : (Lib.itoa n).isEmpty = false := by cases h : Lib.itoa n with
      | nil => exact absurd h u1
      | cons a l => rfl
    go_wp2_with fail
    refine (parse_list _ _ (by unfold maxLen; omega)).mono ?_
    rintro e w3 ⟨rfl, rfl⟩
    rcases (show n < 0 ∨ (0 ≤ n ∧ n ≤ 1000000000) ∨ 1000000000 < n from by omega) with h | ⟨h, h'⟩ | h
    · obtain ⟨m, hm⟩ : ∃ m : Nat, n = -(m : Int) := ⟨n.natAbs, by omega⟩
      have hp : parV (Lib.itoa n) = (0, false) := by rw [hm]; exact par_neg m (by omega)
      clear hm
      go_wp2_with fail
      go_ret
      exact ⟨rfl, hfin⟩
    · obtain ⟨m, hm⟩ : ∃ m : Nat, n = (m : Int) := ⟨n.toNat, by omega⟩
      have hp : parV (Lib.itoa n) = (n, true) := by rw [hm]; exact par_in m (by omega)
      clear hm
      go_wp2_with fail
      go_ret
      exact ⟨rfl, hfin⟩
    · obtain ⟨m, hm⟩ : ∃ m : Nat, n = (m : Int) := ⟨n.toNat, by omega⟩
      have hp : parV (Lib.itoa n) = (0, false) := by rw [hm]; exact par_big m (by omega)
      clear hm
      go_wp2_with fail
      go_ret
      exact ⟨rfl, hfin⟩
end Go.Proofs.YthkhoocnkjdabaaDoor
