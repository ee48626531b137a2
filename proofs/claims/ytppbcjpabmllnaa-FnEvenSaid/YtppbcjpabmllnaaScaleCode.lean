/- Contracts of impl.ScaleOk, ScaleSum, isSizeOf, isCountOf, ring[int].at, SpanAt, SpansOf, HasTwoSizes and MajorScale. -/
import Derived.Test.YtppbcjpabmllnaaSortInts
import Derived.Test.YtppbcjpabmllnaaSScale
import Derived.Test.YtppbcjpabmllnaaOffRows
import Derived.Test.YtppbcjpabmllnaaScImpl
namespace Go.Proofs.Ytppbcjpabmllnaa
open Go.RowKit Go.Joins
set_option linter.unusedVariables false
/-- The program's ScaleOk answers as the model's at a row that begins anywhere. -/
def ScOkOff : Prop := ∀ (xs : List Int) (y : Bool), ScAt xs y → ∀ (w : World) (b : Nat) (v : Value), xs.length ≤ 2000000 → OffI w b v xs.length xs →
    Calls Try.prog 31 #[cirV v] w fun en w' => en = .returned (.bool y) ∧ Below w.heap.size w w'
/-- The program's ScaleSum answers as the model's at a row that begins anywhere. -/
def ScSumOff : Prop := ∀ (xs : List Int) (y : Int), SumAt21 xs y → ∀ (w : World) (b : Nat) (v : Value), xs.length ≤ 2000000 → OffI w b v xs.length xs →
    Calls Try.prog 11 #[cirV v] w fun en w' => en = .returned (.int .i64 y) ∧ Below w.heap.size w w'
/-- The program's HasTwoSizes answers as the model's at a row that begins anywhere. -/
def TwoOff : Prop := ∀ (xs : List Int) (y : Bool), TwoAt xs y → ∀ (w : World) (b : Nat) (v : Value), xs.length ≤ 2000000 → OffI w b v xs.length xs →
    Calls Try.prog 15 #[cirV v] w fun en w' => en = .returned (.bool y) ∧ Below w.heap.size w w'
/-- The program's SpanAt answers as the model's at a row that begins anywhere. -/
def SpanOff : Prop := ∀ (xs : List Int) (i k y : Int), SpanAt21 xs i k y → ∀ (w : World) (b : Nat) (v : Value), xs.length ≤ 2000000 → OffI w b v xs.length xs →
    Calls Try.prog 50 #[cirV v, .int .i64 i, .int .i64 k] w fun en w' => en = .returned (.int .i64 y) ∧ Below w.heap.size w w'
/-- The program's SpansOf answers as the model's at a row that begins anywhere. -/
def SpansOff : Prop := ∀ (xs : List Int) (i : Int) (ys : List Int), SpsAt xs i ys → ∀ (w : World) (b : Nat) (v : Value), xs.length ≤ 2000000 → OffI w b v xs.length xs →
    Calls Try.prog 36 #[cirV v, .int .i64 i] w (OwnPost 3 ys w)
set_option maxHeartbeats 2000000 in
theorem scOk_off : ScOkOff := by
  intro xs y hy w b v hl h
  obtain ⟨n, hn⟩ : ∃ n, n = xs.length := ⟨_, rfl⟩
  rw [← hn] at h hl
  have HY := Lib.hid hy
  have HN := Lib.hid hn
  clear hy hn
  obtain ⟨W0, hW⟩ : ∃ W, W = w.alloc (.cells #[v] 26) := ⟨_, rfl⟩
  have B0 : Hid (Below w.heap.size w W0) := Lib.hid (by rw [hW]; exact below_alloc1 w _)
  by_cases h1 : 1 ≤ n
  · obtain ⟨q, o, c, rfl, hbox⟩ := scBoxO_new (by omega) h hW
    have c0 := scBoxO_cell hbox
    have q1 : ¬ (n : Int) < 1 := by omega
    by_cases h2 : n ≤ 12
    · have q2 : ¬ (12 : Int) < n := by omega
      have A := Lib.hid (areWithin_off W0 q o c n xs 1 20 (by omega) hbox.2.2)
      have BX := Lib.hid hbox
      by_cases hin : InTo xs 1 20 n
      · rw [decide_eq_true hin] at A
        have C := Lib.hid (sumOf_off W0 q o c n xs h2 (fun j hj => by have := hin j hj; omega) BX.out.2.2)
        have OK : Hid (sumTo xs n ≤ 60 ↔ ScOk xs) := Lib.hid ⟨fun u => ⟨by rw [← HN.out]; exact ⟨h1, h2⟩, by rw [← HN.out]; exact hin, by rw [← HN.out]; exact u⟩, fun u => by rw [HN.out]; exact u.2.2⟩
        obtain ⟨s, hs⟩ : ∃ s, s = sumTo xs n := ⟨_, rfl⟩
        rw [← hs] at C OK
        clear hbox hin h h1 h2 hs
        go_enter Try.func31, Try.ntmps31
        go_upto_region 1 with fail
        rw [← hW]
        clear hW
        go_wp2_with fail
        refine A.out.mono ?_
        rintro e1 w1 ⟨rfl, rfl⟩
        go_wp2_with fail
        refine C.out.mono ?_
        rintro e1 w1 ⟨rfl, rfl⟩
        go_wp2_with fail
        go_ret
        exact ⟨ret_boolT (by rw [HY.out]; unfold scB; exact decide_eq_decide.2 OK.out), B0.out⟩
      · rw [decide_eq_false hin] at A
        have R : Hid (y = false) := Lib.hid (by rw [HY.out]; exact decide_eq_false (fun u => hin (by rw [HN.out]; exact u.2.1)))
        clear hbox hin h h1 h2
        go_enter Try.func31, Try.ntmps31
        go_upto_region 1 with fail
        rw [← hW]
        clear hW
        go_wp2_with fail
        refine A.out.mono ?_
        rintro e1 w1 ⟨rfl, rfl⟩
        go_wp2_with fail
        go_ret
        exact ⟨ret_boolT R.out.symm, B0.out⟩
    · have q2 : (12 : Int) < n := by omega
      have R : Hid (y = false) := Lib.hid (by rw [HY.out]; exact decide_eq_false (fun u => h2 (by rw [HN.out]; exact u.1.2)))
      clear hbox h h1 h2
      go_enter Try.func31, Try.ntmps31
      go_upto_region 1 with fail
      rw [← hW]
      clear hW
      go_wp2_with fail
      go_ret
      exact ⟨ret_boolT R.out.symm, B0.out⟩
  · obtain rfl : n = 0 := by omega
    have R : Hid (y = false) := Lib.hid (by rw [HY.out]; exact decide_eq_false (fun u => h1 (by rw [HN.out]; exact u.1.1)))
    obtain ⟨p, c, rfl⟩ := off_slice h
    obtain ⟨_, c0, _⟩ := one_alloc (w := w) (v := .slice p 0 c) (t := 26)
    rw [← hW] at c0
    clear h h1
    go_enter Try.func31, Try.ntmps31
    go_upto_region 1 with fail
    rw [← hW]
    clear hW
    go_wp2_with fail
    go_ret
    exact ⟨ret_boolT R.out.symm, B0.out⟩
theorem scSum_off : ScSumOff := by
  intro xs y hy w b v hl h
  have CO := Lib.hid (fun X (hX : Below w.heap.size w X) => scOk_off xs (scB xs) rfl X b v hl (off_below h hX))
  obtain ⟨n, hn⟩ : ∃ n, n = xs.length := ⟨_, rfl⟩
  rw [← hn] at h hl
  have HY := Lib.hid hy
  have HN := Lib.hid hn
  clear hy hn
  obtain ⟨W0, hW⟩ : ∃ W, W = w.alloc (.cells #[v] 26) := ⟨_, rfl⟩
  have B0 : Hid (Below w.heap.size w W0) := Lib.hid (by rw [hW]; exact below_alloc1 w _)
  by_cases hs : ScOk xs
  · rw [show scB xs = true from decide_eq_true hs] at CO
    have h12 : 1 ≤ n ∧ n ≤ 12 := by rw [HN.out]; exact hs.1
    obtain ⟨q, o, c, rfl, hbox⟩ := scBoxO_new (by omega) h hW
    have BX := Lib.hid hbox
    have c0 := scBoxO_cell hbox
    have CK := Lib.hid (CO.out W0 B0.out)
    have SU := Lib.hid (fun X (hX : Below W0.heap.size W0 X) => sumOf_off X q o c n xs h12.2 (fun j hj => by have := hs.2.1 j (by rw [← HN.out]; exact hj); omega) (scBoxO_keep BX.out hX).2.2)
    have R : Hid (y = sumTo xs n) := Lib.hid (by rw [HY.out, HN.out]; exact if_pos hs)
    rw [← R.out] at SU
    clear hbox h hs h12 CO
    go_enter Try.func11, Try.ntmps11
    go_upto_region 1 with fail
    rw [← hW]
    clear hW
    obtain ⟨m, hm⟩ : ∃ m, m = w.heap.size := ⟨_, rfl⟩
    rw [← hm] at c0 BX ⊢
    clear hm
    go_wp2_with fail
    refine CK.out.mono ?_
    rintro e1 w1 ⟨rfl, b1⟩
    have c1 := scBoxO_cell (scBoxO_keep BX.out b1)
    have SK := Lib.hid (SU.out w1 b1)
    have B1 := Lib.hid (B0.out.trans (b1.mono B0.out.size))
    clear b1 c0 CK
    go_wp2_with fail
    refine SK.out.mono ?_
    rintro e1 w2 ⟨rfl, rfl⟩
    go_wp2_with fail
    go_ret
    exact ⟨rfl, B1.out⟩
  · rw [show scB xs = false from decide_eq_false hs] at CO
    have R : Hid (y = 0) := Lib.hid (by rw [HY.out]; exact if_neg hs)
    obtain ⟨p, c, rfl⟩ := off_slice h
    obtain ⟨_, c0, _⟩ := one_alloc (w := w) (v := .slice p n c) (t := 26)
    rw [← hW] at c0
    have CK := Lib.hid (CO.out W0 B0.out)
    clear h hs CO
    go_enter Try.func11, Try.ntmps11
    go_upto_region 1 with fail
    rw [← hW]
    clear hW
    go_wp2_with fail
    refine CK.out.mono ?_
    rintro e1 w1 ⟨rfl, b1⟩
    have B1 := Lib.hid (B0.out.trans (b1.mono B0.out.size))
    clear b1
    go_wp2_with fail
    go_ret
    exact ⟨ret_int R.out.symm, B1.out⟩
theorem size_at {i : Int} {n : Nat} {z : Bool} (hz : decide (0 ≤ i ∧ i < n) = z) (p : Option Addr) (c : Nat) (w : World) : Calls Try.prog 47 #[cirV (.slice p n c), .int .i64 i] w fun e w' => e = .returned (.bool z) ∧ Below w.heap.size w w' := by
  obtain ⟨W0, hW⟩ : ∃ W, W = w.alloc (.cells #[.slice p n c] 26) := ⟨_, rfl⟩
  have B0 : Hid (Below w.heap.size w W0) := Lib.hid (by rw [hW]; exact below_alloc1 w _)
  obtain ⟨_, c0, _⟩ := one_alloc (w := w) (v := .slice p n c) (t := 26)
  rw [← hW] at c0
  by_cases h0 : 0 ≤ i
  · by_cases h1 : i < n
    · rw [decide_eq_true ⟨h0, h1⟩] at hz
      subst hz
      go_enter Try.func47, Try.ntmps47
      go_upto_region 1 with fail
      rw [← hW]
      clear hW
      go_wp2_with fail
      go_ret
      exact ⟨rfl, B0.out⟩
    · rw [decide_eq_false (fun q => h1 q.2)] at hz
      subst hz
      go_enter Try.func47, Try.ntmps47
      go_upto_region 1 with fail
      rw [← hW]
      clear hW
      go_wp2_with fail
      go_ret
      exact ⟨rfl, B0.out⟩
  · rw [decide_eq_false (fun q => h0 q.1)] at hz
    subst hz
    have h2 : ¬ 0 ≤ i := h0
    go_enter Try.func47, Try.ntmps47
    go_upto_region 1 with fail
    rw [← hW]
    clear hW
    go_wp2_with fail
    go_ret
    exact ⟨rfl, B0.out⟩
theorem count_at {i : Int} {n : Nat} {z : Bool} (hz : decide (0 ≤ i ∧ i ≤ n) = z) (p : Option Addr) (c : Nat) (w : World) : Calls Try.prog 49 #[cirV (.slice p n c), .int .i64 i] w fun e w' => e = .returned (.bool z) ∧ Below w.heap.size w w' := by
  obtain ⟨W0, hW⟩ : ∃ W, W = w.alloc (.cells #[.slice p n c] 26) := ⟨_, rfl⟩
  have B0 : Hid (Below w.heap.size w W0) := Lib.hid (by rw [hW]; exact below_alloc1 w _)
  obtain ⟨_, c0, _⟩ := one_alloc (w := w) (v := .slice p n c) (t := 26)
  rw [← hW] at c0
  by_cases h0 : 0 ≤ i
  · by_cases h1 : i ≤ n
    · rw [decide_eq_true ⟨h0, h1⟩] at hz
      subst hz
      go_enter Try.func49, Try.ntmps49
      go_upto_region 1 with fail
      rw [← hW]
      clear hW
      go_wp2_with fail
      go_ret
      exact ⟨rfl, B0.out⟩
    · rw [decide_eq_false (fun q => h1 q.2)] at hz
      subst hz
      go_enter Try.func49, Try.ntmps49
      go_upto_region 1 with fail
      rw [← hW]
      clear hW
      go_wp2_with fail
      go_ret
      exact ⟨rfl, B0.out⟩
  · rw [decide_eq_false (fun q => h0 q.1)] at hz
    subst hz
    have h2 : ¬ 0 ≤ i := h0
    go_enter Try.func49, Try.ntmps49
    go_upto_region 1 with fail
    rw [← hW]
    clear hW
    go_wp2_with fail
    go_ret
    exact ⟨rfl, B0.out⟩
theorem ring_at {xs : List Int} {q o c n a : Nat} (hn : 0 < n) (ha : a ≤ 1000000) (w : World) (h : ∀ j, j < n → w.cell? ⟨q, o + j, none⟩ = some (.int .i64 (xs.getD j 0))) :
    Calls Try.prog 56 #[.slice (some ⟨q, o, none⟩) n c, .int .i64 a] w fun e w' => e = .returned (.int .i64 (xs.getD (a % n) 0)) ∧ Below w.heap.size w w' := by
  obtain ⟨l, hl⟩ : ∃ l, l = a % n := ⟨_, rfl⟩
  have hl12 : l < n := by rw [hl]; exact Nat.mod_lt _ hn
  obtain ⟨x, hx⟩ : ∃ x, x = xs.getD l 0 := ⟨_, rfl⟩
  have q1 : w.cell? ⟨q, o + l, none⟩ = some (.int .i64 x) := (h _ hl12).trans (by rw [hx])
  have HX := Lib.hid (show x = xs.getD (a % n) 0 from by rw [hx, hl])
  have vt : ((a : Int)).tmod (n : Int) = (l : Int) := by rw [Int.tmod_eq_emod_of_nonneg (by omega), hl]; rfl
  have ve : (a : Int) % (n : Int) = (l : Int) := by rw [hl]; rfl
  have hn0 : ¬ (n : Int) = 0 := by omega
  have hn1 : ¬ n = 0 := by omega
  have hl1 : (l : Int) < n := by omega
  have hl0 : (0 : Int) ≤ l := by omega
  clear hx hl hl12 h
  go_enter Try.func56, Try.ntmps56
  go_wp2_with fail
  go_ret
  exact ⟨ret_int HX.out, Below.refl _ _⟩
set_option maxRecDepth 100000 in
set_option maxHeartbeats 4000000 in
theorem span_off : SpanOff := by
  intro xs i k y hy w b v hl h
  have CO := Lib.hid (fun X (hX : Below w.heap.size w X) => scOk_off xs (scB xs) rfl X b v hl (off_below h hX))
  obtain ⟨n, hn⟩ : ∃ n, n = xs.length := ⟨_, rfl⟩
  rw [← hn] at h hl
  have HY := Lib.hid hy
  have HN := Lib.hid hn
  clear hy hn
  obtain ⟨W0, hW⟩ : ∃ W, W = w.alloc (.cells #[v] 26) := ⟨_, rfl⟩
  have B0 : Hid (Below w.heap.size w W0) := Lib.hid (by rw [hW]; exact below_alloc1 w _)
  by_cases hs : ScOk xs
  · rw [show scB xs = true from decide_eq_true hs] at CO
    have h12 : 1 ≤ n ∧ n ≤ 12 := by rw [HN.out]; exact hs.1
    obtain ⟨q, o, c, rfl, hbox⟩ := scBoxO_new (by omega) h hW
    have BX := Lib.hid hbox
    have c0 := scBoxO_cell hbox
    have CK := Lib.hid (CO.out W0 B0.out)
    have HS := Lib.hid hs
    obtain ⟨zi, hzi⟩ : ∃ z, decide (0 ≤ i ∧ i < (n : Int)) = z := ⟨_, rfl⟩
    obtain ⟨zk, hzk⟩ : ∃ z, decide (0 ≤ k ∧ k ≤ (n : Int)) = z := ⟨_, rfl⟩
    have SA := Lib.hid (fun X => size_at hzi (some ⟨q, o, none⟩) c X)
    have CA := Lib.hid (fun X => count_at hzk (some ⟨q, o, none⟩) c X)
    have HZI := Lib.hid hzi
    have HZK := Lib.hid hzk
    clear hbox h hs CO hzi hzk
    cases zi
    · have R : Hid (y = 0) := Lib.hid (by rw [HY.out]; exact span_no (fun u => of_decide_eq_false HZI.out (by have := u.2.1; have := HN.out; omega)))
      go_enter Try.func50, Try.ntmps50
      go_upto_region 1 with fail
      rw [← hW]
      clear hW
      obtain ⟨m, hm⟩ : ∃ m, m = w.heap.size := ⟨_, rfl⟩
      rw [← hm] at c0 BX ⊢
      have HM := Lib.hid hm
      clear hm
      go_wp2_with fail
      refine CK.out.mono ?_
      rintro e1 w1 ⟨rfl, b1⟩
      have BX1 := Lib.hid (scBoxO_keep BX.out b1)
      have c1 := scBoxO_cell BX1.out
      have B1 := Lib.hid (B0.out.trans (b1.mono B0.out.size))
      clear b1 c0 CK BX
      go_wp2_with fail
      refine (SA.out _).mono ?_
      rintro e1 w2 ⟨rfl, b2⟩
      have B2 := Lib.hid (B1.out.trans (b2.mono B1.out.size))
      clear b2 c1
      go_wp2_with fail
      go_ret
      exact ⟨ret_int R.out.symm, B2.out⟩
    · cases zk
      · have R : Hid (y = 0) := Lib.hid (by rw [HY.out]; exact span_no (fun u => of_decide_eq_false HZK.out (by have := u.2.2; have := HN.out; omega)))
        go_enter Try.func50, Try.ntmps50
        go_upto_region 1 with fail
        rw [← hW]
        clear hW
        obtain ⟨m, hm⟩ : ∃ m, m = w.heap.size := ⟨_, rfl⟩
        rw [← hm] at c0 BX ⊢
        have HM := Lib.hid hm
        clear hm
        go_wp2_with fail
        refine CK.out.mono ?_
        rintro e1 w1 ⟨rfl, b1⟩
        have BX1 := Lib.hid (scBoxO_keep BX.out b1)
        have c1 := scBoxO_cell BX1.out
        have B1 := Lib.hid (B0.out.trans (b1.mono B0.out.size))
        clear b1 c0 CK BX
        go_wp2_with fail
        refine (SA.out _).mono ?_
        rintro e1 w2 ⟨rfl, b2⟩
        have c2 := scBoxO_cell (scBoxO_keep BX1.out b2)
        have B2 := Lib.hid (B1.out.trans (b2.mono B1.out.size))
        clear b2 c1
        go_wp2_with fail
        refine (CA.out _).mono ?_
        rintro e1 w3 ⟨rfl, b3⟩
        have B3 := Lib.hid (B2.out.trans (b3.mono B2.out.size))
        clear b3 c2
        go_wp2_with fail
        go_ret
        exact ⟨ret_int R.out.symm, B3.out⟩
      · have hi := of_decide_eq_true HZI.out
        have hk := of_decide_eq_true HZK.out
        obtain ⟨j, rfl⟩ : ∃ j : Nat, i = (j : Int) := ⟨i.toNat, by omega⟩
        obtain ⟨d, rfl⟩ : ∃ d : Nat, k = (d : Int) := ⟨k.toNat, by omega⟩
        have hj : j < n := by omega
        have hd : d ≤ n := by omega
        have R := Lib.hid (show y = spTo xs j d from by rw [HY.out]; exact span_yes HS.out (by rw [← HN.out]; exact hj) (by rw [← HN.out]; exact hd))
        clear hi hk
        go_enter Try.func50, Try.ntmps50
        go_upto_region 1 with fail
        rw [← hW]
        clear hW
        obtain ⟨m, hm⟩ : ∃ m, m = w.heap.size := ⟨_, rfl⟩
        rw [← hm] at c0 BX ⊢
        have HM := Lib.hid hm
        clear hm
        go_wp2_with fail
        refine CK.out.mono ?_
        rintro e1 w1 ⟨rfl, b1⟩
        have BX1 := Lib.hid (scBoxO_keep BX.out b1)
        have c1 := scBoxO_cell BX1.out
        have B1 := Lib.hid (B0.out.trans (b1.mono B0.out.size))
        clear b1 c0 CK BX
        go_wp2_with fail
        refine (SA.out _).mono ?_
        rintro e1 w2 ⟨rfl, b2⟩
        have BX2 := Lib.hid (scBoxO_keep BX1.out b2)
        have c2 := scBoxO_cell BX2.out
        have B2 := Lib.hid (B1.out.trans (b2.mono B1.out.size))
        clear b2 c1
        go_wp2_with fail
        refine (CA.out _).mono ?_
        rintro e1 w3 ⟨rfl, b3⟩
        have BX3 := Lib.hid (scBoxO_keep BX2.out b3)
        have c3 := scBoxO_cell BX3.out
        have B3 := Lib.hid (B2.out.trans (b3.mono B2.out.size))
        clear b3 c2
        go_wp2_with fail
        go_loopw [8, 28] (fun s x wr => ∃ (t : Nat) (S : Int), t ≤ d ∧ S = spTo xs j t ∧ s = .int .i64 S ∧ x = .int .i64 t ∧ Hid (Below w3.heap.size w3 wr)) (fun _ x _ => d - (intOf x).toNat)
        case atStart => exact ⟨0, 0, Nat.zero_le _, rfl, rfl, rfl, Lib.hid (Below.refl _ _)⟩
        case round =>
          obtain ⟨t, T, ht, hT, rfl, rfl, HB⟩ := hrel
          have hb := sp_bd HS.out j t
          rw [← hT] at hb
          have HTT := Lib.hid hT
          have BX4 := Lib.hid (scBoxO_keep BX3.out HB.out)
          clear hT c3
          by_cases hlt : t < d
          · have q3 : (t : Int) < d := by omega
            obtain ⟨a, ha⟩ : ∃ a, a = j + t := ⟨_, rfl⟩
            have q4 : IntKind.i64.wrap ((j : Int) + t) = (a : Int) := by rw [IntWalk.i64_in _ (by omega), ha]; omega
            have q5 : (j : Int) + t = (a : Int) := by omega
            have RA := Lib.hid (ring_at (c := c) (a := a) h12.1 (by omega) wr BX4.out.2.2)
            obtain ⟨x, hx⟩ : ∃ x, x = xs.getD (a % n) 0 := ⟨_, rfl⟩
            rw [← hx] at RA
            have hxb : 1 ≤ x ∧ x ≤ 20 := by rw [hx]; exact HS.out.2.1 _ (by rw [← HN.out]; exact Nat.mod_lt _ (by omega))
            have HX := Lib.hid (show x = xs.getD ((j + t) % n) 0 from by rw [hx, ha])
            have HLT := Lib.hid hlt
            clear hx ha hlt
            go_wp2_with fail
            refine RA.out.mono ?_
            rintro e1 w4 ⟨rfl, b4⟩
            have B4 := Lib.hid (HB.out.trans (b4.mono HB.out.size))
            clear b4 q5
            go_wp2_with fail
            go_roundw
            case rel => exact ⟨t + 1, T + x, HLT.out, by rw [HTT.out, HX.out, HN.out]; rfl, by go_num, by go_num, B4⟩
            case measure => have := HLT.out; simp [intOf]; omega
          · have q3 : ¬ (t : Int) < d := by omega
            obtain rfl : t = d := by omega
            have B9 := Lib.hid (B3.out.trans (HB.out.mono B3.out.size))
            go_wp2_with fail
            go_ret
            exact ⟨ret_int (HTT.out.trans R.out.symm), B9.out⟩
  · rw [show scB xs = false from decide_eq_false hs] at CO
    have R : Hid (y = 0) := Lib.hid (by rw [HY.out]; exact span_no (fun u => hs u.1))
    obtain ⟨p, c, rfl⟩ := off_slice h
    obtain ⟨_, c0, _⟩ := one_alloc (w := w) (v := .slice p n c) (t := 26)
    rw [← hW] at c0
    have CK := Lib.hid (CO.out W0 B0.out)
    clear h hs CO
    go_enter Try.func50, Try.ntmps50
    go_upto_region 1 with fail
    rw [← hW]
    clear hW
    go_wp2_with fail
    refine CK.out.mono ?_
    rintro e1 w1 ⟨rfl, b1⟩
    have B1 := Lib.hid (B0.out.trans (b1.mono B0.out.size))
    clear b1
    go_wp2_with fail
    go_ret
    exact ⟨ret_int R.out.symm, B1.out⟩
/-- A row of n numbers of which the first t are laid, the others 0. -/
def fillL (F : Nat → Int) (n t : Nat) : List Int := (List.range n).map fun j => if j < t then F j else 0
theorem fillL_len (F : Nat → Int) (n t : Nat) : (fillL F n t).length = n := by simp [fillL]
theorem fillL_get (F : Nat → Int) {n t j : Nat} (h : j < n) : (fillL F n t).getD j 0 = if j < t then F j else 0 := by simp [fillL, h]
theorem fillL_set (F : Nat → Int) {n t : Nat} (h : t < n) : (fillL F n t).set t (F t) = fillL F n (t + 1) := by
  refine ext_getD (by simp [fillL]) fun j hj => ?_
  rw [List.length_set, fillL_len] at hj
  rw [getD_set (by rw [fillL_len]; exact h), fillL_get F hj, fillL_get F hj]
  by_cases e : t = j
  · subst e; rw [if_pos rfl, if_pos (by omega)]
  · rw [if_neg e]
    by_cases e2 : j < t
    · rw [if_pos e2, if_pos (by omega)]
    · rw [if_neg e2, if_neg (by omega)]
theorem fillL_zero (F : Nat → Int) (n : Nat) : fillL F n 0 = List.replicate n 0 := by
  refine ext_getD (by simp [fillL]) fun j hj => ?_
  rw [fillL_len] at hj
  rw [fillL_get F hj, if_neg (by omega)]
  simp [hj]
theorem fillL_mem (F : Nat → Int) (n : Nat) (a : Int) : a ∈ fillL F n n ↔ ∃ j, j < n ∧ a = F j := by
  rw [mem_getD, fillL_len]
  exact ⟨fun ⟨j, hj, e⟩ => ⟨j, hj, by rw [← e, fillL_get F hj, if_pos hj]⟩, fun ⟨j, hj, e⟩ => ⟨j, hj, by rw [fillL_get F hj, if_pos hj]; exact e.symm⟩⟩
theorem intR_new {w w1 : World} {n : Nat} {F : Nat → Int} (hown : w1.ownsRow w.heap.size 3 1 (.slice (some ⟨w.heap.size, 0, none⟩) n n) n (madeCells (Value.int .i64 0).cells (n * 1)).toList) (hb : Below w.heap.size w w1) : IntR w.heap.size w.heap.size n n w (fillL F n 0) w1 :=
  ⟨fillL_len F n 0, by rw [fillL_zero]; simpa [intCs, toList_madeCells_one, Value.cells] using hown, hb, Nat.le_refl _, Nat.le_refl _⟩
set_option maxRecDepth 100000 in
set_option maxHeartbeats 8000000 in
theorem spans_off : SpansOff := by
  intro xs i ys hy w b v hl h
  have CO := Lib.hid (fun X (hX : Below w.heap.size w X) => scOk_off xs (scB xs) rfl X b v hl (off_below h hX))
  have SP := Lib.hid (fun X (j k : Int) (y : Int) (hy : y = spanF xs j k) (hX : Below w.heap.size w X) => span_off xs j k y hy X b v hl (off_below h hX))
  obtain ⟨n, hn⟩ : ∃ n, n = xs.length := ⟨_, rfl⟩
  rw [← hn] at h hl
  have HY := Lib.hid hy
  have HN := Lib.hid hn
  clear hy hn
  obtain ⟨W0, hW⟩ : ∃ W, W = w.alloc (.cells #[v] 26) := ⟨_, rfl⟩
  have B0 : Hid (Below w.heap.size w W0) := Lib.hid (by rw [hW]; exact below_alloc1 w _)
  by_cases hs : ScOk xs
  · rw [show scB xs = true from decide_eq_true hs] at CO
    have h12 : 1 ≤ n ∧ n ≤ 12 := by rw [HN.out]; exact hs.1
    obtain ⟨q, o, c, rfl, hbox⟩ := scBoxO_new (by omega) h hW
    have BX := Lib.hid hbox
    have c0 := scBoxO_cell hbox
    have CK := Lib.hid (CO.out W0 B0.out)
    have HS := Lib.hid hs
    obtain ⟨zk, hzk⟩ : ∃ z, decide (0 ≤ i ∧ i ≤ (n : Int)) = z := ⟨_, rfl⟩
    have CA := Lib.hid (fun X => count_at hzk (some ⟨q, o, none⟩) c X)
    have HZK := Lib.hid hzk
    clear hbox h hs CO hzk
    cases zk
    · have R : Hid (ys = []) := Lib.hid (by rw [HY.out]; exact sps_no (fun u => of_decide_eq_false HZK.out (by have := u.2; have := HN.out; omega)))
      go_enter Try.func36, Try.ntmps36
      go_upto_region 1 with fail
      rw [← hW]
      clear hW
      obtain ⟨m, hm⟩ : ∃ m, m = w.heap.size := ⟨_, rfl⟩
      rw [← hm] at c0 BX ⊢
      have HM := Lib.hid hm
      clear hm
      go_wp2_with fail
      refine CK.out.mono ?_
      rintro e1 w1 ⟨rfl, b1⟩
      have c1 := scBoxO_cell (scBoxO_keep BX.out b1)
      have B1 := Lib.hid (B0.out.trans (b1.mono B0.out.size))
      clear b1 c0 CK BX
      go_wp2_with fail
      refine (CA.out _).mono ?_
      rintro e1 w2 ⟨rfl, b2⟩
      have B2 := Lib.hid (B1.out.trans (b2.mono B1.out.size))
      clear b2 c1
      go_wp2_with fail
      go_ret
      exact ⟨_, rfl, by rw [R.out]; exact World.ownsRow_nil _ _ _ _, B2.out⟩
    · have hk := of_decide_eq_true HZK.out
      obtain ⟨d, rfl⟩ : ∃ d : Nat, i = (d : Int) := ⟨i.toNat, by omega⟩
      have hd : d ≤ n := by omega
      have R := Lib.hid (show ys = spsTo xs d n from by rw [HY.out, HN.out]; exact sps_yes HS.out (by rw [← HN.out]; exact hd))
      obtain ⟨i0, hif, hz0, hz1, hz2⟩ := info_parts infoInt
      have HD := Lib.hid hd
      clear hk HZK HY hd
      go_enter Try.func36, Try.ntmps36
      go_upto_region 1 with fail
      rw [← hW]
      clear hW
      obtain ⟨m, hm⟩ : ∃ m, m = w.heap.size := ⟨_, rfl⟩
      rw [← hm] at c0 BX ⊢
      have HM := Lib.hid hm
      clear hm
      go_wp2_with fail
      refine CK.out.mono ?_
      rintro e1 w1 ⟨rfl, b1⟩
      have BX1 := Lib.hid (scBoxO_keep BX.out b1)
      have c1 := scBoxO_cell BX1.out
      have B1 := Lib.hid (B0.out.trans (b1.mono B0.out.size))
      clear b1 c0 CK BX
      go_wp2_with fail
      refine (CA.out _).mono ?_
      rintro e1 w2 ⟨rfl, b2⟩
      have BX2 := Lib.hid (scBoxO_keep BX1.out b2)
      have c2 := scBoxO_cell BX2.out
      have B2 := Lib.hid (B1.out.trans (b2.mono B1.out.size))
      clear b2 c1 BX1 B1 B0 CA
      go_wp2_with (at_make; refine wpList_make_full _ rfl _ _ 24 rfl w2.heap.size 3 i0 (.int .i64 0) 1 Try.underlying24 hif hz0 hz1 _ _ _ _ n rfl rfl rfl rfl (by rw [hz2]; omega) (by unfold maxLen; omega) (Nat.le_refl _) ?_; intro w3 hown1 hgrow1)
      have I0 : Hid (IntR w2.heap.size w2.heap.size n n w2 (fillL (fun t => spTo xs t d) n 0) w3) := Lib.hid (intR_new hown1 ((Below.refl _ _).grown hgrow1 (Nat.le_refl _) (by simp)))
      clear hown1 hgrow1 c2
      obtain ⟨g, hg⟩ : ∃ g, g = w2.heap.size := ⟨_, rfl⟩
      rw [← hg] at I0 ⊢
      have HG := Lib.hid hg
      clear hg
      go_wp2_with fail
      go_loopw [22] (fun x wr => ∃ t : Nat, t ≤ n ∧ x = .int .i64 (t : Int) ∧ Hid (IntR g g n n w2 (fillL (fun t => spTo xs t d) n t) wr)) (fun x _ => n - (intOf x).toNat)
      case atStart => exact ⟨0, Nat.zero_le _, by go_num, I0⟩
      case round =>
        clear I0
        obtain ⟨t, ht, rfl, HI⟩ := hrel
        by_cases hlt : t < n
        · have q3 : (t : Int) < n := by omega
          have q4 : (0 : Int) ≤ (t : Int) := by omega
          have BW : Below w2.heap.size w2 wr := by have := HI.out.bel; rw [HG.out] at this; exact this
          have c3 := scBoxO_cell (scBoxO_keep BX2.out BW)
          obtain ⟨y, hyy⟩ : ∃ y, y = spTo xs t d := ⟨_, rfl⟩
          have SK := Lib.hid (SP.out wr t d y (by rw [hyy]; exact (span_yes HS.out (by rw [← HN.out]; exact hlt) (by rw [← HN.out]; exact HD.out)).symm) (B2.out.trans (BW.mono B2.out.size)))
          have HYY := Lib.hid hyy
          have HLT := Lib.hid hlt
          clear hyy BW hlt
          go_wp2_with fail
          refine SK.out.mono ?_
          rintro e1 w4 ⟨rfl, b4⟩
          have I4 := Lib.hid (HI.out.below b4)
          have fz := I4.out.free t
          have ck := I4.out.cell HLT.out
          have I5 : Hid (IntR g g n n w2 (fillL (fun t => spTo xs t d) n (t + 1)) (w4.setCell ⟨g, t, none⟩ (.int .i64 y))) := Lib.hid (by
            have k := I4.out.put t y
            rw [HYY.out, show (fillL (fun t => spTo xs t d) n t).set t (spTo xs t d) = fillL (fun t => spTo xs t d) n (t + 1) from fillL_set (fun t => spTo xs t d) HLT.out, ← HYY.out] at k
            exact k)
          generalize (fillL (fun t => spTo xs t d) n t).getD t 0 = z at ck
          clear b4 c3 SK HI I4
          go_wp2_with fail
          go_roundw
          case rel => exact ⟨t + 1, HLT.out, by go_num, I5⟩
          case measure => have := HLT.out; simp [intOf]; omega
        · have q3 : ¬ (t : Int) < n := by omega
          obtain rfl : t = n := by omega
          have SR := Lib.hid (sortInts_run h12 wr HI.out)
          clear HI
          go_wp2_with fail
          refine SR.out.mono ?_
          rintro e1 w5 ⟨rfl, M, hM, hA, hI⟩
          have CR := Lib.hid (compact_run ⟨h12.1, by omega⟩ hA w5 hI)
          have HMM := Lib.hid hM
          clear hM hA hI SR
          go_wp2_with fail
          refine CR.out.mono ?_
          rintro e1 w6 ⟨zs, ⟨v1, rfl, o1⟩, ⟨a1, a2, a3⟩, b6⟩
          have E : Hid (zs = ys) := Lib.hid (by
            rw [R.out]
            refine asc_same a1 (sps_asc xs d t) fun a => ?_
            rw [a3, HMM.out.2, fillL_mem, sps_mem])
          have O6 := Lib.hid o1
          have B6 := Lib.hid b6
          clear o1 b6 a1 a2 a3 CR
          go_wp2_with fail
          go_ret
          refine ⟨v1, rfl, ?_, ?_⟩
          · rw [← E.out]; exact own_base O6.out (by rw [HG.out]; exact B2.out.size)
          · have := B6.out; rw [HG.out] at this; exact B2.out.trans (this.mono B2.out.size)
  · rw [show scB xs = false from decide_eq_false hs] at CO
    have R : Hid (ys = []) := Lib.hid (by rw [HY.out]; exact sps_no (fun u => hs u.1))
    obtain ⟨p, c, rfl⟩ := off_slice h
    obtain ⟨_, c0, _⟩ := one_alloc (w := w) (v := .slice p n c) (t := 26)
    rw [← hW] at c0
    have CK := Lib.hid (CO.out W0 B0.out)
    clear h hs CO
    go_enter Try.func36, Try.ntmps36
    go_upto_region 1 with fail
    rw [← hW]
    clear hW
    go_wp2_with fail
    refine CK.out.mono ?_
    rintro e1 w1 ⟨rfl, b1⟩
    have B1 := Lib.hid (B0.out.trans (b1.mono B0.out.size))
    clear b1
    go_wp2_with fail
    go_ret
    exact ⟨_, rfl, by rw [R.out]; exact World.ownsRow_nil _ _ _ _, B1.out⟩
set_option maxRecDepth 100000 in
set_option maxHeartbeats 4000000 in
theorem two_off : TwoOff := by
  intro xs y hf w b v hl h
  have CO := Lib.hid (fun X (hX : Below w.heap.size w X) => scOk_off xs (scB xs) rfl X b v hl (off_below h hX))
  have SP := Lib.hid (fun X (k : Nat) (hX : Below w.heap.size w X) => spans_off xs (k : Int) _ rfl X b v hl (off_below h hX))
  have HF := Lib.hid hf
  obtain ⟨n, hn⟩ : ∃ n, n = xs.length := ⟨_, rfl⟩
  rw [← hn] at h hl
  have HN := Lib.hid hn
  obtain ⟨p, c, rfl⟩ := off_slice h
  obtain ⟨W0, hW0⟩ : ∃ W0, W0 = w.alloc (.cells #[.slice p n c] 26) := ⟨_, rfl⟩
  have B0 : Hid (Below w.heap.size w W0) := Lib.hid (by rw [hW0]; exact below_alloc1 w _)
  have X0 : Hid (One w.heap.size (.slice p n c) W0) := Lib.hid (by rw [hW0]; exact one_alloc)
  have CK := Lib.hid (CO.out W0 B0.out)
  obtain ⟨_, c0, _⟩ := X0.out
  clear h hn hf CO
  by_cases hs : ScOk xs
  · rw [show scB xs = true from decide_eq_true hs] at CK
    have HS := Lib.hid hs
    clear hs
    go_enter Try.func15, Try.ntmps15
    go_upto_region 1 with fail
    rw [← hW0]
    obtain ⟨m, hm⟩ : ∃ m, m = w.heap.size := ⟨_, rfl⟩
    rw [← hm] at X0 c0 ⊢
    have HM := Lib.hid hm
    clear hW0 hm
    go_wp2_with fail
    refine CK.out.mono ?_
    rintro e1 w1 ⟨rfl, b1⟩
    have X1 := Lib.hid (one_keep b1 X0.out)
    obtain ⟨_, c1, _⟩ := X1.out
    have B1 := Lib.hid (B0.out.trans (b1.mono B0.out.size))
    clear b1 c0 CK X0
    go_wp2_with fail
    go_loopw [10] (fun x wr => ∃ k : Nat, k ≤ n ∧ x = .int .i64 (k : Int) ∧ Hid (∀ j, j < k → (spsL xs j).length ≤ 2) ∧ Hid (Below w1.heap.size w1 wr)) (fun x _ => n + 2 - (intOf x).toNat)
    case atStart => exact ⟨0, Nat.zero_le _, by go_num, Lib.hid (fun j hj => by omega), Lib.hid (Below.refl _ _)⟩
    case round =>
      clear c1
      obtain ⟨k, hk, rfl, HA, HB⟩ := hrel
      obtain ⟨_, c1, _⟩ := one_keep HB.out X1.out
      by_cases hlt : k < n
      · have q3 : (k : Int) < n := by omega
        have SK := Lib.hid (SP.out wr k (B1.out.trans (HB.out.mono B1.out.size)))
        have HK := Lib.hid hlt
        have hl12 := spsL_len xs k
        obtain ⟨L, hL⟩ : ∃ L, L = spsL xs k := ⟨_, rfl⟩
        rw [← hL] at SK hl12
        have HLL := Lib.hid hL
        clear hlt hL
        go_wp2_with fail
        refine SK.out.mono ?_
        rintro e1 w2 ⟨v1, rfl, o1, b1⟩
        have B2 := Lib.hid (HB.out.trans (b1.mono HB.out.size))
        have HL3 : Hid (L.length = (spsL xs k).length) := Lib.hid (by rw [HLL.out])
        generalize L.length = l at o1 hl12 HL3
        obtain ⟨p1, c1', rfl⟩ := own_slice o1
        clear o1 b1 c1
        by_cases h2 : 2 < l
        · have R := Lib.hid (show y = false from by rw [HF.out]; exact two_bad (j := k) (by have := HN.out; have := HK.out; omega) (by rw [← HL3.out]; omega))
          have q4 : (2 : Int) < l := by omega
          have B3 := Lib.hid (B1.out.trans (B2.out.mono B1.out.size))
          clear h2
          go_wp2_with fail
          go_ret
          exact ⟨ret_bool R.out.symm, B3.out⟩
        · have q4 : ¬ (2 : Int) < l := by omega
          have H2 := Lib.hid (show l ≤ 2 from by omega)
          clear h2
          go_wp2_with fail
          go_roundw
          case rel => exact ⟨k + 1, by have := HK.out; omega, by go_num, Lib.hid (fun j hj => (show j < k ∨ j = k from by omega).elim (HA.out j) (fun e => by rw [e, ← HL3.out]; exact H2.out)), B2⟩
          case measure => simp [intOf]; have := HK.out; omega
      · have q3 : ¬ (k : Int) < n := by omega
        obtain rfl : k = n := by omega
        have R := Lib.hid (show y = true from by
          rw [HF.out, two_end (fun j hj => ?_)]
          · exact decide_eq_true HS.out
          · by_cases e : j < k
            · exact HA.out j e
            · obtain rfl : j = xs.length := by have := HN.out; omega
              rw [sps_yes HS.out (Nat.le_refl _), sps_whole HS.out]
              simp)
        have B3 := Lib.hid (B1.out.trans (HB.out.mono B1.out.size))
        go_wp2_with fail
        go_ret
        exact ⟨ret_bool R.out.symm, B3.out⟩
  · rw [show scB xs = false from decide_eq_false hs] at CK
    have R := Lib.hid (show y = false from by rw [HF.out]; exact decide_eq_false (fun u => hs u.1))
    clear hs
    go_enter Try.func15, Try.ntmps15
    go_upto_region 1 with fail
    rw [← hW0]
    clear hW0
    go_wp2_with fail
    refine CK.out.mono ?_
    rintro e1 w1 ⟨rfl, b1⟩
    have B1 := Lib.hid (B0.out.trans (b1.mono B0.out.size))
    clear b1
    go_wp2_with fail
    go_ret
    exact ⟨ret_bool R.out.symm, B1.out⟩
theorem scOk_impl : ScOkImpl := fun xs y hy w b e v hl h => scOk_off xs y hy w b v hl (off_own h)
theorem scSum_impl : ScSumImpl := fun xs y hy w b e v hl h => scSum_off xs y hy w b v hl (off_own h)
theorem span_impl : SpanImpl := fun xs i k y hy w b e v hl h => span_off xs i k y hy w b v hl (off_own h)
theorem spans_impl : SpansImpl := fun xs i ys hy w b e v hl h => spans_off xs i ys hy w b v hl (off_own h)
theorem two_impl : TwoImpl := fun xs y hy w b e v hl h => two_off xs y hy w b v hl (off_own h)
end Go.Proofs.Ytppbcjpabmllnaa
