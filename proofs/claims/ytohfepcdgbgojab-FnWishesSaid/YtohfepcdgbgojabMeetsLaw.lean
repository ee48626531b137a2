/- The walk of laws.FnExactMeets over the program's contract. -/
import Derived.Test.YtohfepcdgbgojabMeets
import Derived.Test.YtohfepcdgbgojabCirOkLaw
namespace Go.Proofs.Ytohfepcdgbgojab
open Go.RowKit Go.Joins
set_option linter.unusedVariables false
/-- The program's Meets answers as the model's. -/
def MeetsSays : Prop := ∀ (w : World) (b : Nat) (e : TypeId) (v : Value) (xs : List Int) (b' : Nat) (e' : TypeId) (v' : Value) (ws : List Wi), xs.length ≤ 2000000 → ws.length ≤ 2000000 → w.ownsRow b e 1 v xs.length (intCs xs) → w.ownsRow b' e' 2 v' ws.length (wiCs ws) →
    Calls Try.prog 21 #[cirV v, v'] w fun en w' => en = .returned (.bool (meetB xs ws)) ∧ Below w.heap.size w w'
theorem wiRow_len {W : World} {a : Option Addr} {len : Nat} {xs : List Wi} (h : WiRow W a len xs) : xs.length = len ∧ len ≤ 9223372036854775807 := ⟨h.1, h.2.1⟩
/-- toWishS behind a world that is named. -/
theorem calls_toWis {W w : World} {a : Option Addr} {len cap : Nat} {xs : List Wi} (h : Below W.heap.size W w) (hr : WiRow W a len xs) (hl : len ≤ 1048576) :
    Calls Try.prog 28 #[.slice a len cap] w fun e w' => ∃ v, e = .returned v ∧ w'.ownsRow w.heap.size 76 2 v xs.length (wiCs xs) ∧ Below W.heap.size W w' :=
  (toWis_any w a len cap xs (wiRow_below hr h) hl).mono fun e w' ⟨v, he, o, b⟩ => ⟨v, he, o, h.trans (b.mono h.size)⟩
set_option maxRecDepth 100000 in
set_option maxHeartbeats 8000000 in
theorem walk_MeetsBy (MI : MeetsSays) (a : Option Addr) (len cap : Nat) (zs : List Int) (a' : Option Addr) (len' cap' : Nat) (ws : List Wi) (w : World) (hr : IsRow .i64 w a len cap zs) (hw : WiRow w a' len' ws) :
    Calls Try.prog 5 #[cirV (.slice a len cap), .slice a' len' cap'] w fun e w' => e = .returned (.bool true) ∧ Below w.heap.size w w' := by
  have HL := Lib.hid (row_len hr)
  have HR := Lib.hid hr
  have HW := Lib.hid hw
  have hl' := HL.out.2
  obtain ⟨hwl, hwm⟩ := wiRow_len hw
  have HWL := Lib.hid hwl
  obtain ⟨n, hn⟩ : ∃ n, n = w.heap.size := ⟨_, rfl⟩
  have C0 : Hid (One n (.slice a len cap) (w.alloc (.cells #[.slice a len cap] 40))) := Lib.hid (by rw [hn]; exact one_alloc)
  have B0 := Lib.hid (below_alloc1 w (.cells #[.slice a len cap] 40))
  clear hr hw hwl
  go_enter Try.func5, Try.ntmps5
  go_upto_region 1 with fail
  obtain ⟨W0, hW⟩ : ∃ W, W = w.alloc (.cells #[.slice a len cap] 40) := ⟨_, rfl⟩
  rw [← hW] at C0 B0 ⊢
  rw [← hn]
  clear hW hn
  obtain ⟨_, c0, _⟩ := C0.out
  by_cases h1 : 1048576 < len
  · go_wp2_with fail
    refine (szCir_high a len cap _ h1 hl').mono ?_
    rintro e w1 ⟨rfl, b1⟩
    go_wp2_with fail
    go_ret
    exact ⟨rfl, B0.out.trans (b1.mono B0.out.size)⟩
  · obtain ⟨xs, hxs⟩ : ∃ xs, xs = zs.take len := ⟨_, rfl⟩
    have HX := Lib.hid hxs
    have HLEN := Lib.hid (show xs.length ≤ 2000000 from by have := HL.out.1; rw [hxs]; omega)
    have hl1 : len ≤ 1048576 := by omega
    have hl2 : ¬ (1048576 : Int) - len < 0 := by omega
    clear hxs h1
    go_wp2_with fail
    refine (szCir_low a len cap _ hl1).mono ?_
    rintro e w1 ⟨rfl, b1⟩
    have C1 := Lib.hid (one_keep b1 C0.out)
    have B1 := Lib.hid (B0.out.trans (b1.mono B0.out.size))
    clear c0 C0 B0 b1
    obtain ⟨z, hz⟩ : ∃ z, z = (1048576 : Int) - len := ⟨_, rfl⟩
    rw [← hz] at hl2 ⊢
    have hz2 : 0 ≤ z ∧ z ≤ 1048576 := by omega
    have SZ := Lib.hid (fun w => szWi_any a' len' cap' z hz2 w hwm)
    clear hz
    by_cases h2 : z < (len' : Int)
    · rw [if_pos h2] at SZ
      go_wp2_with fail
      refine (SZ.out _).mono ?_
      rintro e w2 ⟨rfl, rfl⟩
      go_wp2_with fail
      go_ret
      exact ⟨rfl, B1.out⟩
    · rw [if_neg h2] at SZ
      have hl3 : len' ≤ 1048576 := by omega
      have hl4 : ¬ z - (len' : Int) < 0 := by omega
      have HWS := Lib.hid (show ws.length ≤ 2000000 from by have := HWL.out; omega)
      clear h2 hz2
      go_wp2_with fail
      refine (SZ.out _).mono ?_
      rintro e w2 ⟨rfl, rfl⟩
      obtain ⟨_, c0, _⟩ := C1.out
      go_wp2_with fail
      refine (calls_toCir (Below.refl _ _) (HR.out.below B1.out) hl1 HX).mono ?_
      rintro e w3 ⟨v3, rfl, o3, b3⟩
      have C3 := Lib.hid (one_keep b3 C1.out)
      have B3 := Lib.hid (B1.out.trans (b3.mono B1.out.size))
      clear c0 C1 B1 b3 SZ
      go_wp2_with fail
      refine (calls_toWis (Below.refl _ _) (wiRow_below HW.out B3.out) hl3).mono ?_
      rintro e w4 ⟨v4, rfl, o4, b4⟩
      have O4 := Lib.hid (own_below o3 b4)
      have C4 := Lib.hid (one_keep b4 C3.out)
      have B4 := Lib.hid (B3.out.trans (b4.mono B3.out.size))
      clear o3 C3 B3 b4
      go_wp2_with fail
      refine (meets_spec w4 _ _ v3 xs _ _ v4 ws HLEN.out HWS.out O4.out o4).mono ?_
      rintro e w5 ⟨rfl, b5⟩
      have C5 := Lib.hid (one_keep b5 C4.out)
      have B5 := Lib.hid (B4.out.trans (b5.mono B4.out.size))
      clear O4 o4 C4 B4 b5
      obtain ⟨_, c0, _⟩ := C5.out
      go_wp2_with fail
      refine (calls_toCir (Below.refl _ _) (HR.out.below B5.out) hl1 HX).mono ?_
      rintro e w6 ⟨v6, rfl, o6, b6⟩
      obtain ⟨l, hl⟩ : ∃ l, l = xs.length := ⟨_, rfl⟩
      rw [← hl] at o6
      obtain ⟨p, c, rfl⟩ := own_slice o6
      have A6 := below_alloc1 w6 (.cells #[.slice p l c] 29)
      have X6 := Lib.hid (one_alloc (w := w6) (v := .slice p l c) (t := 29))
      have O6 := Lib.hid (own_below o6 A6)
      have C6 := Lib.hid (one_keep A6 (one_keep b6 C5.out))
      have B6 := Lib.hid ((B5.out.trans (b6.mono B5.out.size)).trans (A6.mono (Nat.le_trans B5.out.size b6.size)))
      have HLL := Lib.hid hl
      clear c0 C5 B5 b6 o6 A6 hl
      go_upto_region 10 with fail
      obtain ⟨W6, hW⟩ : ∃ W, W = w6.alloc (.cells #[.slice p l c] 29) := ⟨_, rfl⟩
      obtain ⟨m, hm⟩ : ∃ m, m = w6.heap.size := ⟨_, rfl⟩
      rw [← hW] at X6 O6 C6 B6 ⊢
      rw [← hm] at X6 ⊢
      clear hW hm
      go_wp2_with fail
      refine (calls_toWis (Below.refl _ _) (wiRow_below HW.out B6.out) hl3).mono ?_
      rintro e w7 ⟨v7, rfl, o7, b7⟩
      have Y7 := Lib.hid o7
      have X7 := Lib.hid (one_keep b7 X6.out)
      have O7 := Lib.hid (own_below O6.out b7)
      have C7 := Lib.hid (one_keep b7 C6.out)
      have B7 := Lib.hid (B6.out.trans (b7.mono B6.out.size))
      clear o7 b7 X6 O6 C6 B6
      obtain ⟨_, c5, _⟩ := X7.out
      go_wp2_with fail
      have O7' := Lib.hid (own_eq O7.out (rfl : xs = xs) HLL.out)
      refine (MI w7 _ _ _ xs _ _ v7 ws HLEN.out HWS.out O7'.out Y7.out).mono ?_
      rintro e w8 ⟨rfl, b8⟩
      have X8 := Lib.hid (one_keep b8 X7.out)
      have O8 := Lib.hid (own_below O7'.out b8)
      have Y8 := Lib.hid (ownW_below Y7.out b8)
      have C8 := Lib.hid (one_keep b8 C7.out)
      have B8 := Lib.hid (B7.out.trans (b8.mono B7.out.size))
      have t0 : (meetB xs ws != meetB xs ws) = false := by simp
      clear c5 X7 O7 O7' Y7 C7 B7 b8
      have HR8 := Lib.hid (HR.out.below B8.out)
      obtain ⟨_, c0, _⟩ := C8.out
      obtain ⟨_, c5, _⟩ := X8.out
      go_upto_region 14 with fail
      go_cut [39] (fun s wx => s = .bool false ∧ Below w8.heap.size w8 wx)
      case first =>
        go_region_with (first
          | (go_at_call 27; refine (calls_toCir (W := w8) (by with_reducible first | assumption | exact (Below.refl _ _).drew) HR8.out hl1 HX).mono ?_; rintro e1 w9 ⟨v9, rfl, o9, b9⟩; obtain ⟨_, d0, _⟩ := one_keep b9 C8.out; obtain ⟨_, d5, _⟩ := one_keep b9 X8.out)
          | (go_at_call 29; refine (calls_eqCir (W := w8) (by with_reducible assumption) HLEN.out O8.out (by with_reducible assumption)).mono ?_; rintro e1 w10 ⟨rfl, b10⟩))
        all_goals
          go_wp2_with fail
          go_meet
          exact ⟨rfl, b10⟩
      case rest =>
        obtain ⟨rfl, b9⟩ := hcut
        obtain ⟨W9, hW⟩ : ∃ W, W = wc := ⟨_, rfl⟩
        rw [← hW] at b9 ⊢
        have Y9 := Lib.hid (ownW_below Y8.out b9)
        have B9 := Lib.hid (B8.out.trans (b9.mono B8.out.size))
        clear hW b9 c0 c5 Y8 B8 O8 C8 X8 HR8 t0
        go_wp2_with fail
        refine (calls_toWis (Below.refl _ _) (wiRow_below HW.out B9.out) hl3).mono ?_
        rintro e w10 ⟨v10, rfl, o10, b10⟩
        have O10 := Lib.hid o10
        have Y10 := Lib.hid (ownW_below Y9.out b10)
        have B10 := Lib.hid (B9.out.trans (b10.mono B9.out.size))
        clear o10 b10 Y9 B9
        go_wp2_with fail
        refine (eqWis_same w10 _ _ _ _ v7 v10 ws HWS.out Y10.out O10.out).mono ?_
        rintro e w11 ⟨rfl, b11⟩
        have B11 := Lib.hid (B10.out.trans (b11.mono B10.out.size))
        clear b11 Y10 O10 B10
        go_wp2_with fail
        go_ret
        exact ⟨rfl, B11.out⟩
end Go.Proofs.Ytohfepcdgbgojab
