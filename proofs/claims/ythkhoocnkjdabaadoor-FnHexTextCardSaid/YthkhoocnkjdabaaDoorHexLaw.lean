/- The walk of laws.FnHexText over the contracts. -/
import Derived.Test.YthkhoocnkjdabaaDoorDrawStr
import Derived.Test.YthkhoocnkjdabaaDoorItoaWalks
import Derived.Test.YthkhoocnkjdabaaDoorEncodeWalks
import Derived.Test.YthkhoocnkjdabaaDoorDecodeWalks
namespace Go.Proofs.YthkhoocnkjdabaaDoor
open Go.RowKit
set_option linter.unusedVariables false
theorem fig_back (x : Nat) (h : x < 16) : hvB (UInt8.ofNat (figN x)).toNat = true ∧ hvN (UInt8.ofNat (figN x)).toNat = x := by
  have e : (UInt8.ofNat (figN x)).toNat = figN x := by rw [UInt8.toNat_ofNat']; have := figN_lt x h; omega
  rw [e]
  unfold hvB hvN figN
  split
  · exact ⟨by simp; omega, by (repeat' split) <;> omega⟩
  · exact ⟨by simp; omega, by (repeat' split) <;> omega⟩
theorem dec_enc : ∀ l : List UInt8, decB (encB l) = some l
  | [] => rfl
  | c :: l => by
    have hc := c.toNat_lt
    obtain ⟨a1, a2⟩ := fig_back (c.toNat / 16) (by omega)
    obtain ⟨b1, b2⟩ := fig_back (c.toNat % 16) (by omega)
    have e : encB (c :: l) = UInt8.ofNat (figN (c.toNat / 16)) :: UInt8.ofNat (figN (c.toNat % 16)) :: encB l := rfl
    rw [e]
    simp only [decB, a1, b1, Bool.and_self, if_true, a2, b2, dec_enc l, Option.map_some]
    rw [show 16 * (c.toNat / 16) + c.toNat % 16 = c.toNat from by omega]
    simp
theorem decV_enc (l : List UInt8) (h : l.length ≤ 20000) : decV ⟨(encB l).toArray⟩ = (l, true) := by
  have hs : (⟨(encB l).toArray⟩ : ByteArray).size = 2 * l.length := by rw [← encB_length]; simp [ByteArray.size]
  exact decV_ok _ (by rw [hs]; omega) l (dec_enc l)
theorem decode_list (l : List UInt8) (w : World) (h : l.length ≤ 20000) : Calls Tryd.prog 11 #[.string ⟨(encB l).toArray⟩] w fun e w' => e = .returned (.tuple #[.string ⟨l.toArray⟩, .bool true]) ∧ Below w.heap.size w w' := by
  have hd := decode_any ⟨(encB l).toArray⟩ w (by have := encB_length l; unfold maxLen; simp [ByteArray.size]; omega)
  rw [decV_enc l h] at hd
  exact hd
theorem encode_list (l : List UInt8) (w : World) (h : l.length ≤ 20000) : Calls Tryd.prog 9 #[.string ⟨l.toArray⟩] w fun e w' => e = .returned (.tuple #[.string ⟨(encB l).toArray⟩, .bool true]) ∧ Below w.heap.size w w' :=
  encode_ok ⟨l.toArray⟩ w (by simpa [ByteArray.size] using h)
theorem encode_list_long (l : List UInt8) (w : World) (h : 20000 < l.length) (h' : l.length ≤ 20001) : Calls Tryd.prog 9 #[.string ⟨l.toArray⟩] w fun e w' => e = .returned (.tuple #[.string ⟨#[]⟩, .bool false]) ∧ w = w' :=
  encode_long ⟨l.toArray⟩ w (by simpa [ByteArray.size] using h) (by unfold maxLen; simp [ByteArray.size]; omega)
theorem itoa_ten : Lib.itoa 10 = [49, 48] := by rw [show (10 : Int) = ((10 : Nat) : Int) from rfl, Lib.itoa_nonneg, Lib.decDigits_two (by omega) (by omega)]; rfl
theorem bigC_any (a : Option Addr) (len cap : Nat) (w : World) (h : len ≤ 9223372036854775807) : Calls Tryd.prog 7 #[.slice a len cap] w fun e w' => e = .returned (.bool (decide (1048576 < (len : Int)))) ∧ w = w' := by
  go_enter Tryd.func7, Tryd.ntmps7
  go_wp2
  go_ret
  exact ⟨rfl, rfl⟩
theorem rowC_len {k : IntKind} {W : World} {a : Option Addr} {len cap : Nat} {zs : List Int} (hr : IsRow k W a len cap zs) : len ≤ 9223372036854775807 := by
  rcases hr with ⟨_, h1, _⟩ | ⟨x, _, h1, h2, _⟩
  · omega
  · unfold maxLen at h2; omega
set_option maxHeartbeats 1000000 in
theorem walk_FnHexText (a0 : Option Addr) (len0 cap0 : Nat) (z0 : List Int) (w : World) (ht : ItoaTab w) (hr : IsRow .u8 w a0 len0 cap0 z0) :
    Calls Tryd.prog 3 #[.slice a0 len0 cap0] w fun e w' => e = .returned (.bool true) ∧ Below w.heap.size w w' := by
  have hlen := rowC_len hr
  by_cases hbig : 1048576 < len0
  · have t0 : decide (1048576 < (len0 : Int)) = true := by simp; omega
    go_enter Tryd.func3, Tryd.ntmps3
    go_wp2_with fail
    refine (bigC_any _ _ _ _ hlen).mono ?_
    rintro e w' ⟨rfl, rfl⟩
    go_wp2_with fail
    go_ret
    exact ⟨rfl, Below.refl _ _⟩
  · have t0 : decide (1048576 < (len0 : Int)) = false := by simp; omega
    have HT := Lib.hid ht
    clear ht
    go_enter Tryd.func3, Tryd.ntmps3
    go_wp2_with fail
    refine (bigC_any _ _ _ _ hlen).mono ?_
    rintro e w' ⟨rfl, rfl⟩
    go_wp2_with fail
    refine (drawEncode_any hr).mono ?_
    rintro e w1 ⟨l, hl, rfl, hb1⟩
    have HT1 := Lib.hid (HT.out.below hb1 HT.out.lt)
    by_cases h2 : 20000 < l.length
    · have q1 : (20000 : Int) < (l.length : Int) := by omega
      have it := itoa_ten
      go_wp2_with fail
      refine (encode_list_long l _ h2 hl).mono ?_
      rintro e w2 ⟨rfl, rfl⟩
      go_wp2_with fail
      refine (format_any 10 (by omega) (by omega) w1 HT1.out).mono ?_
      rintro e w3 ⟨rfl, hb3⟩
      go_wp2_with fail
      go_ret
      exact ⟨rfl, hb1.trans (hb3.mono hb1.size)⟩
    · have q1 : ¬ (20000 : Int) < (l.length : Int) := by omega
      have he := encB_length l
      have HE := Lib.hid he
      clear he
      go_wp2_with fail
      refine (encode_list l _ (by omega)).mono ?_
      rintro e w2 ⟨rfl, hb2⟩
      go_wp2_with fail
      refine (decode_list l _ (by omega)).mono ?_
      rintro e w3 ⟨rfl, hb3⟩
      have he : ((encB l).length : Int) = 2 * (l.length : Int) := by rw [HE.out]; push_cast; rfl
      go_wp2_with fail
      go_ret
      exact ⟨rfl, (hb1.trans (hb2.mono hb1.size)).trans (hb3.mono (Nat.le_trans hb1.size hb2.size))⟩
end Go.Proofs.YthkhoocnkjdabaaDoor
