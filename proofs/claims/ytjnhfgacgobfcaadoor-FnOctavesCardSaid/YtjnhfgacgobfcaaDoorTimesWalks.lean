/- Contracts of impl's times and impl.TimesBig. -/
import Derived.Test.YtjnhfgacgobfcaaDoorOkWalks
import Derived.Test.YtjnhfgacgobfcaaDoorOfWalks
import Derived.Test.YtjnhfgacgobfcaaDoorMulMath
namespace Go.Proofs.YtjnhfgacgobfcaaDoor
open Go.RowKit
set_option linter.unusedVariables false
theorem slice_own {w : World} {b : Nat} {e : TypeId} {v : Value} {n : Nat} {xs : List Value} (h : w.ownsRow b e 1 v n xs) : ∃ p c, v = .slice p n c := by
  rcases own_shape h with ⟨h, h'⟩ | ⟨g, cap, h, _⟩
  · exact ⟨_, _, by rw [h, h']⟩
  · exact ⟨_, _, h⟩
/-- Where a product stands: what is out, and what is still to come. -/
def MulTo (N : Int) (xs out : List Int) (k : Nat) (c : Int) : Prop := out.length = k ∧ 0 ≤ c ∧ c ≤ 1000 ∧ out ++ mulB N (xs.drop k) c = mulB N xs 0
theorem mulTo_zero (N : Int) (xs : List Int) : MulTo N xs [] 0 0 := ⟨rfl, by omega, by omega, rfl⟩
theorem mulTo_step {N : Int} {xs out : List Int} {k : Nat} {c x y : Int} (h : MulTo N xs out k c) (hk : k < xs.length) (hx : x = xs.getD k 0) (hy : x * N = y) (hy0 : 0 ≤ y) (hy1 : y ≤ 9999000) : MulTo N xs (out ++ [(y + c) % 10000]) (k + 1) ((y + c) / 10000) := by
  obtain ⟨h1, h2, h3, h4⟩ := h
  refine ⟨by simp [h1], by omega, by omega, ?_⟩
  have e : xs.drop k = x :: xs.drop (k + 1) := by rw [List.drop_eq_getElem_cons hk, hx]; simp [hk]
  rw [e, show mulB N (x :: xs.drop (k + 1)) c = (x * N + c) % 10000 :: mulB N (xs.drop (k + 1)) ((x * N + c) / 10000) from rfl, hy] at h4
  rw [List.append_assoc]
  exact h4
theorem mulTo_end {N : Int} {xs out : List Int} {c : Int} (h : MulTo N xs out xs.length c) : mulB N xs 0 = out ++ (if 0 < c then [c] else []) := by
  rw [← h.2.2.2, List.drop_length]; rfl
theorem mul_bdT {x N : Int} (h0 : 0 ≤ x) (h1 : x ≤ 9999) (n0 : 0 ≤ N) (n1 : N ≤ 1000) : 0 ≤ x * N ∧ x * N ≤ 9999000 :=
  ⟨Int.mul_nonneg h0 n0, by have := Int.mul_le_mul h1 n1 n0 (by omega); omega⟩
/-- Where a product by any factor stands. -/
def GTo (N : Int) (xs out : List Int) (k : Nat) (c : Int) : Prop := out.length = k ∧ 0 ≤ c ∧ c ≤ N ∧ out ++ mulG N (xs.drop k) c = mulG N xs 0
theorem gTo_zero (N : Int) (xs : List Int) (h : 1 ≤ N) : GTo N xs [] 0 0 := ⟨rfl, by omega, by omega, rfl⟩
theorem gTo_step {N : Int} {xs out : List Int} {k : Nat} {c x y : Int} (h : GTo N xs out k c) (hk : k < xs.length) (hx : x = xs.getD k 0) (hy : x * N = y) (hy0 : 0 ≤ y) (hy1 : y ≤ 9999 * N) : GTo N xs (out ++ [(y + c) % 10000]) (k + 1) ((y + c) / 10000) := by
  obtain ⟨h1, h2, h3, h4⟩ := h
  refine ⟨by simp [h1], by omega, by omega, ?_⟩
  have e : xs.drop k = x :: xs.drop (k + 1) := by rw [List.drop_eq_getElem_cons hk, hx]; simp [hk]
  rw [e, show mulG N (x :: xs.drop (k + 1)) c = (x * N + c) % 10000 :: mulG N (xs.drop (k + 1)) ((x * N + c) / 10000) from rfl, hy] at h4
  rw [List.append_assoc]
  exact h4
theorem gTo_end {N : Int} {xs out : List Int} {c : Int} (h : GTo N xs out xs.length c) : out ++ ofB c.toNat = mulG N xs 0 := by
  rw [← h.2.2.2, List.drop_length]; rfl
theorem mulG_len2 (n : Int) (h1 : 1 ≤ n) (h2 : n ≤ 1000000000000) : ∀ (xs : List Int) (c : Int), 0 ≤ c → c ≤ n → BdB xs → (mulG n xs c).length ≤ xs.length + 4
  | [], c, c0, c1, _ => by
    unfold mulG
    have := ofB_len 4 c.toNat (by omega)
    simp only [List.length_nil]
    omega
  | x :: xs, c, c0, c1, hx => by
    have x0 := bdB_head hx
    have xn0 : 0 ≤ x * n := Int.mul_nonneg x0.1 (by omega)
    have xn1 : x * n ≤ 9999 * n := Int.mul_le_mul_of_nonneg_right x0.2 (by omega)
    have := mulG_len2 n h1 h2 xs ((x * n + c) / 10000) (by omega) (by omega) (bdB_tail hx)
    unfold mulG
    simp only [List.length_cons]
    omega
theorem tail_step {out ys : List Int} {m : Nat} (h : out ++ ofB m = ys) (hm : 0 < m) : (out ++ [((m % 10000 : Nat) : Int)]) ++ ofB (m / 10000) = ys := by
  rw [← h, ofB_pos m (by omega), List.append_assoc]; rfl
theorem tail_end {out ys : List Int} (h : out ++ ofB 0 = ys) : out = ys := by rw [← h, ofB_zero, List.append_nil]
theorem tail_len {out ys : List Int} {m : Nat} (h : out ++ ofB m = ys) : out.length ≤ ys.length := by rw [← h]; simp
set_option maxHeartbeats 2000000 in
theorem times_gen (w : World) (b : Nat) (e : TypeId) (v : Value) (xs : List Int) (N : Int) (hx : BdB xs) (hl : xs.length ≤ 2000000) (n0 : 1 ≤ N) (n1 : N ≤ 1000000000000) (h : w.ownsRow b e 1 v xs.length (intCs xs)) :
    Calls Tryd.prog 37 #[v, .int .i64 N] w (OwnPost 3 (mulG N xs 0) w) := by
    obtain ⟨i0, hi, hz0, hz1, hz2⟩ := info_parts infoInt
    have t0 : (N == 0) = false := by simp; omega
    have HX := Lib.hid hx
    have HLEN := Lib.hid (mulG_len2 N n0 n1 xs 0 (by omega) (by omega) hx)
    obtain ⟨p, cp, rfl⟩ := slice_own h
    obtain ⟨n, hn⟩ : ∃ n, n = xs.length := ⟨_, rfl⟩
    rw [← hn] at h hl ⊢
    have HN := Lib.hid hn
    have HH := Lib.hid h
    clear hn hx h
    go_enter Tryd.func37, Tryd.ntmps37
    go_wp2_with (at_make; refine wpList_make_own _ rfl _ _ 54 rfl w.heap.size 3 i0 (.int .i64 0) 1 Tryd.underlying54 hi hz0 hz1 _ _ _ (n + 3) rfl rfl (by push_cast; omega) (by rw [hz2]; omega) (by unfold maxLen; omega) (Nat.le_refl _) ?_; intro w1 hown1 hgrow1)
    go_loopw [5, 6, 8, 9, 18] (fun v c _ _ i wr => ∃ (k : Nat) (out : List Int) (y : Int), k ≤ n ∧ i = .int .i64 k ∧ c = .int .i64 y ∧ GTo N xs out k y ∧ wr.ownsRow w.heap.size 3 1 v k (intCs out) ∧ Below w.heap.size w wr) (fun _ _ _ _ i _ => n - (intOf i).toNat)
    case atStart => exact ⟨0, [], 0, Nat.zero_le _, rfl, rfl, gTo_zero N xs n0, by simpa [intCs] using hown1, (Below.refl _ _).grown hgrow1 (Nat.le_refl _) (by simp)⟩
    case round =>
      obtain ⟨k, out, c, hk, rfl, rfl, hto, hown, hb⟩ := hrel
      clear hown1 hgrow1
      have c0 := hto.2.1
      have c1 := hto.2.2.1
      have HTO := Lib.hid hto
      clear hto
      by_cases hlt : k < n
      · have hin := own_below HH.out hb
        obtain ⟨g, cap, hv, _, _⟩ := own_pos hin (by omega)
        cases hv
        have q1 := own_icell hin k hlt
        have q3 : (k : Int) < n := by omega
        have hx0 := HX.out k (by have := HN.out; omega)
        obtain ⟨x, hxk⟩ : ∃ x, x = xs.getD k 0 := ⟨_, rfl⟩
        rw [← hxk] at q1 hx0
        obtain ⟨y, hy⟩ : ∃ y, x * N = y := ⟨_, rfl⟩
        have y0 : 0 ≤ y := by rw [← hy]; exact Int.mul_nonneg hx0.1 (by omega)
        have y1 : y ≤ 9999 * N := by rw [← hy]; exact Int.mul_le_mul_of_nonneg_right hx0.2 (by omega)
        have STEP := Lib.hid (gTo_step HTO.out (by have := HN.out; omega) hxk hy y0 y1)
        clear hxk hin hx0
        go_wp2_with (at_builtin; refine wpList_append_lies _ rfl (.tmp 27) (.tmp 30) 54 rfl w.heap.size 3 i0 (.int .i64 0) 1 8 Tryd.underlying54 hi hz0 hz1 hz2 rfl (by decide) _ k _ rfl (hown.alloc _) ⟨wr.heap.size, 0, none⟩ 1 1 _ rfl rfl (World.news_of_block (heap_alloc_new wr _)) (by simp [Value.oneCell']) (by decide) (by unfold maxLen; omega) (by omega) (by have := hb.size; simp; omega) _ rfl ?_; intro g1 cap1 w1 hown' hgrow hat hgt)
        have R1 := isnoc HTO.out.1.symm hown'
        have R2 : Below w.heap.size w w1 := (hb.alloc hb.size _).grown hgrow (Nat.le_trans hb.size (by simp)) (fun j hj => (hown.lt j hj).1)
        rw [List.length_append, HTO.out.1] at R1
        clear hown' hgrow hat hgt hown hb
        go_wp2
        go_roundw
        case rel => exact ⟨k + 1, _, _, by omega, by go_num, rfl, STEP.out, R1, R2⟩
        case measure => simp [intOf]; omega
      · have q3 : ¬ (k : Int) < n := by omega
        obtain rfl : k = n := by omega
        have HE := Lib.hid (gTo_end (by have := HTO.out; rwa [HN.out] at this))
        have hol : out.length = k := HTO.out.1
        rw [← hol] at hown
        obtain ⟨m, rfl⟩ := Int.eq_ofNat_of_zero_le c0
        rw [Int.toNat_natCast] at HE
        have hm : m ≤ 1000000000000 := by omega
        clear HTO hol
        go_wp2
        go_loopw [5, 6] (fun v c wr2 => ∃ (out2 : List Int) (m2 : Nat), c = .int .i64 (m2 : Int) ∧ m2 ≤ 1000000000000 ∧ Hid (out2 ++ ofB m2 = mulG N xs 0) ∧ wr2.ownsRow w.heap.size 3 1 v out2.length (intCs out2) ∧ Below w.heap.size w wr2) (fun _ c _ => (intOf c).toNat)
        case atStart => exact ⟨out, m, rfl, hm, HE, hown, hb⟩
        case round =>
          obtain ⟨out2, m2, rfl, hm2, HE2, hown2, hb2⟩ := hrel
          clear HE hown hb
          obtain ⟨L, hL⟩ : ∃ L, L = out2.length := ⟨_, rfl⟩
          rw [← hL] at hown2
          have HL := Lib.hid hL
          have hLl : L ≤ 3000000 := by have h1 := tail_len HE2.out; have h2 := HLEN.out; have h3 := HN.out; omega
          clear hL
          by_cases hc : 0 < m2
          · have q5 : (0 : Int) < (m2 : Int) := by omega
            have STEP := Lib.hid (tail_step HE2.out hc)
            obtain ⟨lo, hlo⟩ : ∃ lo, lo = m2 % 10000 := ⟨_, rfl⟩
            obtain ⟨up, hup⟩ : ∃ up, up = m2 / 10000 := ⟨_, rfl⟩
            rw [← hlo, ← hup] at STEP
            have q6 : (m2 : Int) % 10000 = (lo : Int) := by omega
            have q7 : (m2 : Int) / 10000 = (up : Int) := by omega
            have q8 : up < m2 ∧ up ≤ 1000000000000 := by omega
            have Q8 := Lib.hid q8
            clear hlo hup q8
            go_wp2_with (at_builtin; refine wpList_append_lies _ rfl (.tmp 39) (.tmp 42) 54 rfl w.heap.size 3 i0 (.int .i64 0) 1 8 Tryd.underlying54 hi hz0 hz1 hz2 rfl (by decide) _ L _ rfl (hown2.alloc _) ⟨wr.heap.size, 0, none⟩ 1 1 _ rfl rfl (World.news_of_block (heap_alloc_new wr _)) (by simp [Value.oneCell']) (by decide) (by unfold maxLen; omega) (by omega) (by have := hb2.size; simp; omega) _ rfl ?_; intro g1 cap1 w1 hown' hgrow hat hgt)
            have R1 := isnoc HL.out hown'
            have R2 : Below w.heap.size w w1 := (hb2.alloc hb2.size _).grown hgrow (Nat.le_trans hb2.size (by simp)) (fun j hj => (hown2.lt j hj).1)
            clear hown' hgrow hat hgt hown2 hb2 HE2
            go_wp2
            go_roundw
            case rel => exact ⟨_, up, rfl, Q8.out.2, STEP, R1, R2⟩
            case measure => have := Q8.out.1; simp [intOf]; omega
          · have q5 : ¬ (0 : Int) < (m2 : Int) := by omega
            obtain rfl : m2 = 0 := by omega
            have E := tail_end HE2.out
            have R1 := own_eq hown2 E (by rw [← E]; exact HL.out)
            clear hown2 E
            go_wp2
            go_ret
            exact ⟨_, rfl, R1, hb2⟩
theorem times_any (w : World) (b : Nat) (e : TypeId) (v : Value) (xs : List Int) (N : Int) (hx : OkB xs) (n0 : 0 ≤ N) (n1 : N ≤ 1000) (h : w.ownsRow b e 1 v xs.length (intCs xs)) :
    Calls Tryd.prog 37 #[v, .int .i64 N] w (OwnPost 3 (timesB xs N) w) := by
  by_cases hN : N = 0
  · subst hN
    go_enter Tryd.func37, Tryd.ntmps37
    go_wp2
    go_ret
    exact ⟨_, rfl, World.ownsRow_nil _ _ _ _, Below.refl _ _⟩
  · rw [timesB_mulG (by omega) n1 hx.2.1]
    exact times_gen w b e v xs N hx.2.1 (by have := hx.1; omega) (by omega) (by omega) h
/-- The product of the number V with N. -/
theorem timesV_any (w : World) (b : Nat) (e : TypeId) (v : Value) (V N : Nat) (hl : (ofB V).length ≤ 2000000) (n0 : 1 ≤ N) (n1 : N ≤ 1000000000000) (h : w.ownsRow b e 1 v (ofB V).length (intCs (ofB V))) :
    Calls Tryd.prog 37 #[v, .int .i64 (N : Int)] w (OwnPost 3 (ofB (V * N)) w) := by
  rw [← mulG_times N V n0]
  exact times_gen w b e v _ _ (ofB_bd V) hl (by omega) (by omega) h
theorem ret_own {T : TypeId} {w w' : World} {v : Value} {xs ys : List Int} {b c : Bool} (hx : (ys, c) = (xs, b)) (h : w'.ownsRow w.heap.size T 1 v xs.length (intCs xs)) (hb : Below w.heap.size w w') : OwnPostB T ys c w (.returned (.tuple #[v, .bool b])) w' := by
  cases hx; exact ⟨v, rfl, h, hb⟩
theorem timesR_no {xs : List Int} {n : Int} (h : ¬ (OkB xs ∧ 0 ≤ n ∧ n ≤ 1000)) : TimesR xs n = ([], false) := by unfold TimesR; rw [if_neg h]
theorem timesR_long {xs : List Int} {n : Int} (h : ¬ (timesB xs n).length ≤ 120) : TimesR xs n = ([], false) := by unfold TimesR; rw [if_neg h]; split <;> rfl
theorem timesR_yes {xs : List Int} {n : Int} (h : OkB xs ∧ 0 ≤ n ∧ n ≤ 1000) (h' : (timesB xs n).length ≤ 120) : TimesR xs n = (timesB xs n, true) := by unfold TimesR; rw [if_pos h, if_pos h']
end Go.Proofs.YtjnhfgacgobfcaaDoor
