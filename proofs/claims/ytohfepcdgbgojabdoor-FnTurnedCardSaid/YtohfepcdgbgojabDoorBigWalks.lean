/- Contracts of spec.l01In, spec.BigOk and impl.BigOk, and the walk of laws.FnExactBigOk. -/
import Derived.Test.YtohfepcdgbgojabDoorIntRows
import Derived.Test.YtohfepcdgbgojabDoorBigMath
import Derived.Laws.AppendOwn
import Derived.Deep.RegionHeld3
namespace Go.Proofs.YtohfepcdgbgojabDoor
open Go.RowKit
set_option linter.unusedVariables false
theorem in_any (n lo hi : Int) (w : World) : Calls Tryd.prog 65 #[.int .i64 n, .int .i64 lo, .int .i64 hi] w fun e w' => e = .returned (.bool (decide (lo ≤ n ∧ n ≤ hi))) ∧ w = w' := by
  by_cases h1 : lo ≤ n
  · by_cases h2 : n ≤ hi
    · have R := Lib.hid (And.intro h1 h2)
      go_enter Tryd.func65, Tryd.ntmps65
      go_wp2
      go_ret
      exact ⟨ret_bool (decide_eq_true R.out).symm, rfl⟩
    · have R := Lib.hid h2
      go_enter Tryd.func65, Tryd.ntmps65
      go_wp2
      go_ret
      exact ⟨ret_bool (decide_eq_false (fun h => by have := R.out; omega)).symm, rfl⟩
  · have R := Lib.hid h1
    go_enter Tryd.func65, Tryd.ntmps65
    go_wp2
    go_ret
    exact ⟨ret_bool (by have := R.out; simp; omega), rfl⟩
end Go.Proofs.YtohfepcdgbgojabDoor
/- Contracts of spec.BigOf and impl.BigOf, and the walk of laws.FnExactBigOf. -/
namespace Go.Proofs.YtohfepcdgbgojabDoor
open Go.RowKit
set_option linter.unusedVariables false
theorem own_zero_lit (w : World) (T : TypeId) : (w.alloc (.cells #[] T)).ownsRow w.heap.size T 1 (.slice (some ⟨w.heap.size, 0, none⟩) 0 0) ([] : List Int).length (intCs []) :=
  World.ownsRow_lit w #[] 0 (Nat.le_refl _) (by unfold maxLen; omega) rfl
theorem isnoc {w1 : World} {B : Nat} {e : TypeId} {v : Value} {l : List Int} {n : Nat} {y : Int} (hn : n = l.length) (h : w1.ownsRow B e 1 v (n + 1) (intCs l ++ #[Value.int .i64 y].toList)) : w1.ownsRow B e 1 v (l ++ [y]).length (intCs (l ++ [y])) := by
  subst hn
  rw [intCs_app, List.length_append]
  exact h
end Go.Proofs.YtohfepcdgbgojabDoor
/- Contracts of impl's times and impl.TimesBig. -/
namespace Go.Proofs.YtohfepcdgbgojabDoor
open Go.RowKit
set_option linter.unusedVariables false
theorem slice_own {w : World} {b : Nat} {e : TypeId} {v : Value} {n : Nat} {xs : List Value} (h : w.ownsRow b e 1 v n xs) : ∃ p c, v = .slice p n c := by
  rcases own_shape h with ⟨h, h'⟩ | ⟨g, cap, h, _⟩
  · exact ⟨_, _, by rw [h, h']⟩
  · exact ⟨_, _, h⟩
/-- Where a product stands: what is out, and what is still to come. -/
def MulTo (N : Int) (xs out : List Int) (k : Nat) (c : Int) : Prop := out.length = k ∧ 0 ≤ c ∧ c ≤ 1000 ∧ out ++ mulB N (xs.drop k) c = mulB N xs 0
theorem mulTo_zero (N : Int) (xs : List Int) : MulTo N xs [] 0 0 := ⟨rfl, by omega, by omega, rfl⟩
theorem mulTo_step {N : Int} {xs out : List Int} {k : Nat} {c x y : Int} (h : MulTo N xs out k c) (hk : k < xs.length) (hx : x = xs.getD k 0) (hy : x * N = y) (hy0 : 0 ≤ y) (hy1 : y ≤ 9999000) : MulTo N xs (out ++ [(y + c) % 10000]) (k + 1) ((y + c) / 10000) := by
  obtain ⟨h1, h2, h3, h4⟩ := h
  refine ⟨by simp [h1], by omega, by omega, ?_⟩
  have e : xs.drop k = x :: xs.drop (k + 1) := by rw [List.drop_eq_getElem_cons hk, hx]; simp [hk]
  rw [e, show mulB N (x :: xs.drop (k + 1)) c = (x * N + c) % 10000 :: mulB N (xs.drop (k + 1)) ((x * N + c) / 10000) from rfl, hy] at h4
  rw [List.append_assoc]
  exact h4
theorem mulTo_end {N : Int} {xs out : List Int} {c : Int} (h : MulTo N xs out xs.length c) : mulB N xs 0 = out ++ (if 0 < c then [c] else []) := by
  rw [← h.2.2.2, List.drop_length]; rfl
theorem mul_bdT {x N : Int} (h0 : 0 ≤ x) (h1 : x ≤ 9999) (n0 : 0 ≤ N) (n1 : N ≤ 1000) : 0 ≤ x * N ∧ x * N ≤ 9999000 :=
  ⟨Int.mul_nonneg h0 n0, by have := Int.mul_le_mul h1 n1 n0 (by omega); omega⟩
/-- Where a product by any factor stands. -/
def GTo (N : Int) (xs out : List Int) (k : Nat) (c : Int) : Prop := out.length = k ∧ 0 ≤ c ∧ c ≤ N ∧ out ++ mulG N (xs.drop k) c = mulG N xs 0
theorem gTo_zero (N : Int) (xs : List Int) (h : 1 ≤ N) : GTo N xs [] 0 0 := ⟨rfl, by omega, by omega, rfl⟩
theorem gTo_step {N : Int} {xs out : List Int} {k : Nat} {c x y : Int} (h : GTo N xs out k c) (hk : k < xs.length) (hx : x = xs.getD k 0) (hy : x * N = y) (hy0 : 0 ≤ y) (hy1 : y ≤ 9999 * N) : GTo N xs (out ++ [(y + c) % 10000]) (k + 1) ((y + c) / 10000) := by
  obtain ⟨h1, h2, h3, h4⟩ := h
  refine ⟨by simp [h1], by omega, by omega, ?_⟩
  have e : xs.drop k = x :: xs.drop (k + 1) := by rw [List.drop_eq_getElem_cons hk, hx]; simp [hk]
  rw [e, show mulG N (x :: xs.drop (k + 1)) c = (x * N + c) % 10000 :: mulG N (xs.drop (k + 1)) ((x * N + c) / 10000) from rfl, hy] at h4
  rw [List.append_assoc]
  exact h4
theorem gTo_end {N : Int} {xs out : List Int} {c : Int} (h : GTo N xs out xs.length c) : out ++ ofB c.toNat = mulG N xs 0 := by
  rw [← h.2.2.2, List.drop_length]; rfl
theorem mulG_len2 (n : Int) (h1 : 1 ≤ n) (h2 : n ≤ 1000000000000) : ∀ (xs : List Int) (c : Int), 0 ≤ c → c ≤ n → BdB xs → (mulG n xs c).length ≤ xs.length + 4
  | [], c, c0, c1, _ => by
    unfold mulG
    have := ofB_len 4 c.toNat (by omega)
    simp only [List.length_nil]
    omega
  | x :: xs, c, c0, c1, hx => by
    have x0 := bdB_head hx
    have xn0 : 0 ≤ x * n := Int.mul_nonneg x0.1 (by omega)
    have xn1 : x * n ≤ 9999 * n := Int.mul_le_mul_of_nonneg_right x0.2 (by omega)
    have := mulG_len2 n h1 h2 xs ((x * n + c) / 10000) (by omega) (by omega) (bdB_tail hx)
    unfold mulG
    simp only [List.length_cons]
    omega
theorem tail_step {out ys : List Int} {m : Nat} (h : out ++ ofB m = ys) (hm : 0 < m) : (out ++ [((m % 10000 : Nat) : Int)]) ++ ofB (m / 10000) = ys := by
  rw [← h, ofB_pos m (by omega), List.append_assoc]; rfl
theorem tail_end {out ys : List Int} (h : out ++ ofB 0 = ys) : out = ys := by rw [← h, ofB_zero, List.append_nil]
theorem tail_len {out ys : List Int} {m : Nat} (h : out ++ ofB m = ys) : out.length ≤ ys.length := by rw [← h]; simp
set_option maxHeartbeats 2000000 in
theorem times_gen (w : World) (b : Nat) (e : TypeId) (v : Value) (xs : List Int) (N : Int) (hx : BdB xs) (hl : xs.length ≤ 2000000) (n0 : 1 ≤ N) (n1 : N ≤ 1000000000000) (h : w.ownsRow b e 1 v xs.length (intCs xs)) :
    Calls Tryd.prog 99 #[v, .int .i64 N] w (OwnPost 3 (mulG N xs 0) w) := by
    obtain ⟨i0, hi, hz0, hz1, hz2⟩ := info_parts infoInt
    have t0 : (N == 0) = false := by simp; omega
    have HX := Lib.hid hx
    have HLEN := Lib.hid (mulG_len2 N n0 n1 xs 0 (by omega) (by omega) hx)
    obtain ⟨p, cp, rfl⟩ := slice_own h
    obtain ⟨n, hn⟩ : ∃ n, n = xs.length := ⟨_, rfl⟩
    rw [← hn] at h hl ⊢
    have HN := Lib.hid hn
    have HH := Lib.hid h
    clear hn hx h
    go_enter Tryd.func99, Tryd.ntmps99
    go_wp2_with (at_make; refine wpList_make_own _ rfl _ _ 106 rfl w.heap.size 3 i0 (.int .i64 0) 1 Tryd.underlying106 hi hz0 hz1 _ _ _ (n + 3) rfl rfl (by push_cast; omega) (by rw [hz2]; omega) (by unfold maxLen; omega) (Nat.le_refl _) ?_; intro w1 hown1 hgrow1)
    go_loopw [5, 6, 8, 9, 18] (fun v c _ _ i wr => ∃ (k : Nat) (out : List Int) (y : Int), k ≤ n ∧ i = .int .i64 k ∧ c = .int .i64 y ∧ GTo N xs out k y ∧ wr.ownsRow w.heap.size 3 1 v k (intCs out) ∧ Below w.heap.size w wr) (fun _ _ _ _ i _ => n - (intOf i).toNat)
    case atStart => exact ⟨0, [], 0, Nat.zero_le _, rfl, rfl, gTo_zero N xs n0, by simpa [intCs] using hown1, (Below.refl _ _).grown hgrow1 (Nat.le_refl _) (by simp)⟩
    case round =>
      obtain ⟨k, out, c, hk, rfl, rfl, hto, hown, hb⟩ := hrel
      clear hown1 hgrow1
      have c0 := hto.2.1
      have c1 := hto.2.2.1
      have HTO := Lib.hid hto
      clear hto
      by_cases hlt : k < n
      · have hin := own_below HH.out hb
        obtain ⟨g, cap, hv, _, _⟩ := own_pos hin (by omega)
        cases hv
        have q1 := own_icell hin k hlt
        have q3 : (k : Int) < n := by omega
        have hx0 := HX.out k (by have := HN.out; omega)
        obtain ⟨x, hxk⟩ : ∃ x, x = xs.getD k 0 := ⟨_, rfl⟩
        rw [← hxk] at q1 hx0
        obtain ⟨y, hy⟩ : ∃ y, x * N = y := ⟨_, rfl⟩
        have y0 : 0 ≤ y := by rw [← hy]; exact Int.mul_nonneg hx0.1 (by omega)
        have y1 : y ≤ 9999 * N := by rw [← hy]; exact Int.mul_le_mul_of_nonneg_right hx0.2 (by omega)
        have STEP := Lib.hid (gTo_step HTO.out (by have := HN.out; omega) hxk hy y0 y1)
        clear hxk hin hx0
        go_wp2_with (at_builtin; refine wpList_append_lies _ rfl (.tmp 27) (.tmp 30) 106 rfl w.heap.size 3 i0 (.int .i64 0) 1 8 Tryd.underlying106 hi hz0 hz1 hz2 rfl (by decide) _ k _ rfl (hown.alloc _) ⟨wr.heap.size, 0, none⟩ 1 1 _ rfl rfl (World.news_of_block (heap_alloc_new wr _)) (by simp [Value.oneCell']) (by decide) (by unfold maxLen; omega) (by omega) (by have := hb.size; simp; omega) _ rfl ?_; intro g1 cap1 w1 hown' hgrow hat hgt)
        have R1 := isnoc HTO.out.1.symm hown'
        have R2 : Below w.heap.size w w1 := (hb.alloc hb.size _).grown hgrow (Nat.le_trans hb.size (by simp)) (fun j hj => (hown.lt j hj).1)
        rw [List.length_append, HTO.out.1] at R1
        clear hown' hgrow hat hgt hown hb
        go_wp2
        go_roundw
        case rel => exact ⟨k + 1, _, _, by omega, by go_num, rfl, STEP.out, R1, R2⟩
        case measure => simp [intOf]; omega
      · have q3 : ¬ (k : Int) < n := by omega
        obtain rfl : k = n := by omega
        have HE := Lib.hid (gTo_end (by have := HTO.out; rwa [HN.out] at this))
        have hol : out.length = k := HTO.out.1
        rw [← hol] at hown
        obtain ⟨m, rfl⟩ := Int.eq_ofNat_of_zero_le c0
        rw [Int.toNat_natCast] at HE
        have hm : m ≤ 1000000000000 := by omega
        clear HTO hol
        go_wp2
        go_loopw [5, 6] (fun v c wr2 => ∃ (out2 : List Int) (m2 : Nat), c = .int .i64 (m2 : Int) ∧ m2 ≤ 1000000000000 ∧ Hid (out2 ++ ofB m2 = mulG N xs 0) ∧ wr2.ownsRow w.heap.size 3 1 v out2.length (intCs out2) ∧ Below w.heap.size w wr2) (fun _ c _ => (intOf c).toNat)
        case atStart => exact ⟨out, m, rfl, hm, HE, hown, hb⟩
        case round =>
          obtain ⟨out2, m2, rfl, hm2, HE2, hown2, hb2⟩ := hrel
          clear HE hown hb
          obtain ⟨L, hL⟩ : ∃ L, L = out2.length := ⟨_, rfl⟩
          rw [← hL] at hown2
          have HL := Lib.hid hL
          have hLl : L ≤ 3000000 := by have h1 := tail_len HE2.out; have h2 := HLEN.out; have h3 := HN.out; omega
          clear hL
          by_cases hc : 0 < m2
          · have q5 : (0 : Int) < (m2 : Int) := by omega
            have STEP := Lib.hid (tail_step HE2.out hc)
            obtain ⟨lo, hlo⟩ : ∃ lo, lo = m2 % 10000 := ⟨_, rfl⟩
            obtain ⟨up, hup⟩ : ∃ up, up = m2 / 10000 := ⟨_, rfl⟩
            rw [← hlo, ← hup] at STEP
            have q6 : (m2 : Int) % 10000 = (lo : Int) := by omega
            have q7 : (m2 : Int) / 10000 = (up : Int) := by omega
            have q8 : up < m2 ∧ up ≤ 1000000000000 := by omega
            have Q8 := Lib.hid q8
            clear hlo hup q8
            go_wp2_with (at_builtin; refine wpList_append_lies _ rfl (.tmp 39) (.tmp 42) 106 rfl w.heap.size 3 i0 (.int .i64 0) 1 8 Tryd.underlying106 hi hz0 hz1 hz2 rfl (by decide) _ L _ rfl (hown2.alloc _) ⟨wr.heap.size, 0, none⟩ 1 1 _ rfl rfl (World.news_of_block (heap_alloc_new wr _)) (by simp [Value.oneCell']) (by decide) (by unfold maxLen; omega) (by omega) (by have := hb2.size; simp; omega) _ rfl ?_; intro g1 cap1 w1 hown' hgrow hat hgt)
            have R1 := isnoc HL.out hown'
            have R2 : Below w.heap.size w w1 := (hb2.alloc hb2.size _).grown hgrow (Nat.le_trans hb2.size (by simp)) (fun j hj => (hown2.lt j hj).1)
            clear hown' hgrow hat hgt hown2 hb2 HE2
            go_wp2
            go_roundw
            case rel => exact ⟨_, up, rfl, Q8.out.2, STEP, R1, R2⟩
            case measure => have := Q8.out.1; simp [intOf]; omega
          · have q5 : ¬ (0 : Int) < (m2 : Int) := by omega
            obtain rfl : m2 = 0 := by omega
            have E := tail_end HE2.out
            have R1 := own_eq hown2 E (by rw [← E]; exact HL.out)
            clear hown2 E
            go_wp2
            go_ret
            exact ⟨_, rfl, R1, hb2⟩
theorem times_any (w : World) (b : Nat) (e : TypeId) (v : Value) (xs : List Int) (N : Int) (hx : OkB xs) (n0 : 0 ≤ N) (n1 : N ≤ 1000) (h : w.ownsRow b e 1 v xs.length (intCs xs)) :
    Calls Tryd.prog 99 #[v, .int .i64 N] w (OwnPost 3 (timesB xs N) w) := by
  by_cases hN : N = 0
  · subst hN
    go_enter Tryd.func99, Tryd.ntmps99
    go_wp2
    go_ret
    exact ⟨_, rfl, World.ownsRow_nil _ _ _ _, Below.refl _ _⟩
  · rw [timesB_mulG (by omega) n1 hx.2.1]
    exact times_gen w b e v xs N hx.2.1 (by have := hx.1; omega) (by omega) (by omega) h
/-- The product of the number V with N. -/
theorem timesV_any (w : World) (b : Nat) (e : TypeId) (v : Value) (V N : Nat) (hl : (ofB V).length ≤ 2000000) (n0 : 1 ≤ N) (n1 : N ≤ 1000000000000) (h : w.ownsRow b e 1 v (ofB V).length (intCs (ofB V))) :
    Calls Tryd.prog 99 #[v, .int .i64 (N : Int)] w (OwnPost 3 (ofB (V * N)) w) := by
  rw [← mulG_times N V n0]
  exact times_gen w b e v _ _ (ofB_bd V) hl (by omega) (by omega) h
theorem ret_own {T : TypeId} {w w' : World} {v : Value} {xs ys : List Int} {b c : Bool} (hx : (ys, c) = (xs, b)) (h : w'.ownsRow w.heap.size T 1 v xs.length (intCs xs)) (hb : Below w.heap.size w w') : OwnPostB T ys c w (.returned (.tuple #[v, .bool b])) w' := by
  cases hx; exact ⟨v, rfl, h, hb⟩
theorem timesR_no {xs : List Int} {n : Int} (h : ¬ (OkB xs ∧ 0 ≤ n ∧ n ≤ 1000)) : TimesR xs n = ([], false) := by unfold TimesR; rw [if_neg h]
theorem timesR_long {xs : List Int} {n : Int} (h : ¬ (timesB xs n).length ≤ 120) : TimesR xs n = ([], false) := by unfold TimesR; rw [if_neg h]; split <;> rfl
theorem timesR_yes {xs : List Int} {n : Int} (h : OkB xs ∧ 0 ≤ n ∧ n ≤ 1000) (h' : (timesB xs n).length ≤ 120) : TimesR xs n = (timesB xs n, true) := by unfold TimesR; rw [if_pos h, if_pos h']
end Go.Proofs.YtohfepcdgbgojabDoor
/- Contract of spec.TimesBig. -/
namespace Go.Proofs.YtohfepcdgbgojabDoor
open Go.RowKit
set_option linter.unusedVariables false
theorem own_lower {w : World} {base base' : Nat} {e : TypeId} {v : Value} {n : Nat} {xs : List Value} (h : w.ownsRow base e 1 v n xs) (hb : base' ≤ base) : w.ownsRow base' e 1 v n xs := by
  obtain ⟨h1, h2⟩ := h
  refine ⟨h1, ?_⟩
  rcases h2 with h2 | ⟨g, cap, cur, hv, hg, r⟩
  · exact .inl h2
  · exact .inr ⟨g, cap, cur, hv, Nat.le_trans hb hg, r⟩
end Go.Proofs.YtohfepcdgbgojabDoor
/- Contracts of impl.PowerBig and spec.PowerBig. -/
namespace Go.Proofs.YtohfepcdgbgojabDoor
open Go.RowKit
set_option linter.unusedVariables false
theorem powR_no {b e : Int} (h : ¬ (1 ≤ b ∧ b ≤ 1000 ∧ 0 ≤ e ∧ e ≤ 2000)) : PowR b e = ([], false) := by unfold PowR; rw [if_neg h]
theorem powR_long {b : Int} {e k : Nat} (hk : k ≤ e) (h : powB b k = none) : PowR b e = ([], false) := by
  unfold PowR
  rw [Int.toNat_natCast, powB_none h e hk]
  split <;> rfl
theorem powR_yes {b : Int} {e : Nat} {xs : List Int} (h1 : 1 ≤ b) (h2 : b ≤ 1000) (h3 : e ≤ 2000) (h : powB b e = some xs) : PowR b e = (xs, true) := by
  unfold PowR
  rw [Int.toNat_natCast, h, if_pos (by omega)]
theorem powB_next {b : Int} {k : Nat} {xs : List Int} (h : powB b k = some xs) (hl : (timesB xs b).length ≤ 120) : powB b (k + 1) = some (timesB xs b) := by
  unfold powB; rw [h]; simp only; rw [if_pos hl]
theorem powB_over {b : Int} {k : Nat} {xs : List Int} (h : powB b k = some xs) (hl : ¬ (timesB xs b).length ≤ 120) : powB b (k + 1) = none := by
  unfold powB; rw [h]; simp only; rw [if_neg hl]
theorem one_lit (w : World) (T : TypeId) : (w.alloc (.cells #[.int .i64 1] T)).ownsRow w.heap.size T 1 (.slice (some ⟨w.heap.size, 0, none⟩) 1 1) ([1] : List Int).length (intCs [1]) :=
  World.ownsRow_lit w #[.int .i64 1] 1 (Nat.le_refl _) (by unfold maxLen; omega) rfl
theorem zero_lit2 (w : World) (o : Obj) (T : TypeId) : ((w.alloc o).alloc (.cells #[] T)).ownsRow w.heap.size T 1 (.slice (some ⟨w.heap.size + 1, 0, none⟩) 0 0) ([] : List Int).length (intCs []) := by
  have e : (w.alloc o).heap.size = w.heap.size + 1 := by simp
  have h := own_zero_lit (w.alloc o) T
  rw [e] at h
  exact own_lower h (by omega)
theorem powR_len (b e : Int) : (PowR b e).1.length ≤ 120 := by
  unfold PowR
  split
  · next h =>
    split
    · simp
    · next xs hx => exact (powB_ok h.1 h.2.1 _ xs hx).1
  · simp
end Go.Proofs.YtohfepcdgbgojabDoor
/- Contracts of impl's timesPower and powersProduct: the groups of V * B^E; the groups of 2^t * 3^h * 5^f. -/
namespace Go.Proofs.YtohfepcdgbgojabDoor
open Go.RowKit
set_option linter.unusedVariables false
/-- A row of ints at its own base, and what was below the base is unchanged. -/
def OwnAt (base : Nat) (xs : List Int) (w : World) (e : Ending) (w' : World) : Prop :=
  ∃ v, e = .returned v ∧ w'.ownsRow base 3 1 v xs.length (intCs xs) ∧ Below w.heap.size w w'
theorem pow_next (V B k j : Nat) : V * B ^ k * B ^ j = V * B ^ (k + j) := by rw [Nat.pow_add, Nat.mul_assoc]
theorem pow_one' (B : Nat) : B = B ^ 1 := by rw [Nat.pow_one]
theorem pow_ge1 (B j : Nat) (h : 1 ≤ B) : 1 ≤ B ^ j := Nat.pow_pos (by omega)
set_option maxRecDepth 100000 in
set_option maxHeartbeats 2000000 in
theorem timesPower_any (w : World) (base : Nat) (v : Value) (V B : Nat) (b E : Int) (hb : b = (B : Int)) (hB1 : 2 ≤ B) (hB2 : B ≤ 5) (hE1 : -20000 ≤ E) (hE2 : E ≤ 20000) (hl : ∀ k, k ≤ E.toNat → (ofB (V * B ^ k)).length ≤ 1000000) (hbase : base ≤ w.heap.size) (h : w.ownsRow base 3 1 v (ofB V).length (intCs (ofB V))) :
    Calls Tryd.prog 92 #[v, .int .i64 b, .int .i64 E] w (OwnAt base (ofB (V * B ^ E.toNat)) w) := by
  subst hb
  have HL := Lib.hid hl
  have H0 := Lib.hid (own_eq h (show ofB V = ofB (V * B ^ 0) from by rw [Nat.pow_zero, Nat.mul_one]) (by rw [Nat.pow_zero, Nat.mul_one]))
  clear hl h
  go_enter Tryd.func92, Tryd.ntmps92
  go_wp2
  go_loopw [2, 7, 8] (fun x v _ wr => ∃ (k : Nat) (y : Int), x = .int .i64 y ∧ (y = E - k ∧ (k : Int) ≤ max E 0) ∧ wr.ownsRow base 3 1 v (ofB (V * B ^ k)).length (intCs (ofB (V * B ^ k))) ∧ Below w.heap.size w wr) (fun x _ _ _ => (intOf x).toNat)
  case atStart => exact ⟨0, E, rfl, ⟨by omega, by omega⟩, H0.out, Below.refl _ _⟩
  case round =>
    obtain ⟨k, y, rfl, hy, hown, hbl⟩ := hrel
    have HY := Lib.hid hy
    have y1 : -20000 ≤ y := by omega
    have y2 : y ≤ 20000 := by omega
    have HO := Lib.hid hown
    have HB := Lib.hid hbl
    clear hy hown hbl H0
    by_cases hy0 : 0 < y
    · obtain ⟨wo, rfl⟩ : ∃ wo : World, wo = wr := ⟨_, rfl⟩
      go_wp2_with fail
      go_loopw [2, 8] (fun x f wr => ∃ (j g : Nat) (z : Int), x = .int .i64 z ∧ f = .int .i64 (g : Int) ∧ (z = y - j ∧ 1 ≤ j ∧ 0 ≤ z ∧ 1 ≤ g ∧ g ≤ 1000000000000) ∧ Hid (g = B ^ j) ∧ wr = wo) (fun x _ _ => (intOf x).toNat)
      case atStart => exact ⟨1, B, y - 1, by go_num, rfl, ⟨by omega, by omega, by omega, by omega, by omega⟩, Lib.hid (pow_one' B), rfl⟩
      case round =>
        obtain ⟨j, g, z, rfl, rfl, hz, hg, rfl⟩ := hrel
        have HZ := Lib.hid hz
        obtain ⟨_, _, z0, g1, g2⟩ := hz
        have z2 : z ≤ 20000 := by have := HZ.out.1; omega
        by_cases hz0 : 0 < z
        · obtain ⟨q, hq⟩ : ∃ q : Nat, g * B = q := ⟨_, rfl⟩
          have q1 : (g : Int) * (B : Int) = (q : Int) := by rw [← hq, Int.natCast_mul]
          have q2 : q ≤ 5000000000000 := by rw [← hq]; exact Nat.le_trans (Nat.mul_le_mul g2 hB2) (by omega)
          have q3 : 1 ≤ q := by rw [← hq]; exact Nat.mul_le_mul g1 (show 1 ≤ B by omega)
          have Q := Lib.hid (show q = B ^ (j + 1) from by rw [← hq, hg.out, Nat.pow_succ])
          clear hq
          by_cases hle : (q : Int) ≤ 1000000000000
          · go_wp2_with fail
            go_roundw
            case rel => exact ⟨j + 1, q, z - 1, by go_num, rfl, ⟨by have := HZ.out; omega, by omega, by omega, by omega, by omega⟩, Q, by trivial⟩
            case measure => simp [intOf]; omega
          · go_wp2_with fail
            refine (timesV_any _ _ _ _ (V * B ^ k) g (Nat.le_trans (HL.out k (by have := HY.out; omega)) (by omega)) g1 g2 HO.out).mono ?_
            rintro e1 w1 ⟨v1, rfl, o1, b1⟩
            have R1 := own_eq (own_lower o1 (Nat.le_trans hbase HB.out.size)) (show ofB (V * B ^ k * g) = ofB (V * B ^ (k + j)) from by rw [hg.out, pow_next]) (by rw [hg.out, pow_next])
            have R2 := HB.out.trans (b1.mono HB.out.size)
            clear o1 b1
            go_wp2_with fail
            go_roundw
            case rel => exact ⟨k + j, _, rfl, ⟨by have := HZ.out; have := HY.out; omega, by have := HZ.out; have := HY.out; omega⟩, R1, R2⟩
            case measure => have := HZ.out; simp [intOf]; omega
        · go_wp2_with fail
          refine (timesV_any _ _ _ _ (V * B ^ k) g (Nat.le_trans (HL.out k (by have := HY.out; omega)) (by omega)) g1 g2 HO.out).mono ?_
          rintro e1 w1 ⟨v1, rfl, o1, b1⟩
          have R1 := own_eq (own_lower o1 (Nat.le_trans hbase HB.out.size)) (show ofB (V * B ^ k * g) = ofB (V * B ^ (k + j)) from by rw [hg.out, pow_next]) (by rw [hg.out, pow_next])
          have R2 := HB.out.trans (b1.mono HB.out.size)
          clear o1 b1
          go_wp2_with fail
          go_roundw
          case rel => exact ⟨k + j, _, rfl, ⟨by have := HZ.out; have := HY.out; omega, by have := HZ.out; have := HY.out; omega⟩, R1, R2⟩
          case measure => have := HZ.out; simp [intOf]; omega
    · have hk : k = E.toNat := by have := HY.out; omega
      have R1 := own_eq HO.out (show ofB (V * B ^ k) = ofB (V * B ^ E.toNat) from by rw [hk]) (by rw [hk])
      have R2 := HB.out
      clear HO HB hk
      go_wp2_with fail
      go_ret
      exact ⟨_, rfl, R1, R2⟩
set_option maxRecDepth 100000 in
set_option maxHeartbeats 1000000 in
theorem powersProduct_any (w : World) (t h f : Int) (t1 : -20000 ≤ t) (t2 : t ≤ 20000) (h1 : -20000 ≤ h) (h2 : h ≤ 20000) (f1 : -20000 ≤ f) (f2 : f ≤ 20000) :
    Calls Tryd.prog 86 #[.int .i64 t, .int .i64 h, .int .i64 f] w (OwnPost 3 (ofB (pw t.toNat h.toNat f.toNat)) w) := by
  go_enter Tryd.func86, Tryd.ntmps86
  go_wp2_with fail
  have O0 := one_lit w 3
  refine (timesPower_any _ w.heap.size _ 1 2 2 t rfl (by omega) (by omega) t1 t2 (fun k hk => by rw [pw2]; exact Nat.le_trans (pw_groups k 0 0) (by omega)) (by simp) (own_eq O0 ofB_one.symm (by rw [ofB_one]))).mono ?_
  rintro e1 w1 ⟨v1, rfl, o1, b1⟩
  have B1 : Below w.heap.size w w1 := ((Below.refl _ _).alloc (Nat.le_refl _) _).trans (b1.mono (by simp))
  rw [pw2] at o1
  clear O0 b1
  go_wp2_with fail
  refine (timesPower_any _ w.heap.size _ _ 3 3 h rfl (by omega) (by omega) h1 h2 (fun k hk => by rw [pw3]; exact Nat.le_trans (pw_groups t.toNat k 0) (by omega)) B1.size o1).mono ?_
  rintro e2 w2 ⟨v2, rfl, o2, b2⟩
  have B2 : Below w.heap.size w w2 := B1.trans (b2.mono B1.size)
  rw [pw3] at o2
  clear o1 b2 B1
  go_wp2_with fail
  refine (timesPower_any _ w.heap.size _ _ 5 5 f rfl (by omega) (by omega) f1 f2 (fun k hk => by rw [pw5]; exact Nat.le_trans (pw_groups t.toNat h.toNat k) (by omega)) B2.size o2).mono ?_
  rintro e3 w3 ⟨v3, rfl, o3, b3⟩
  have B3 : Below w.heap.size w w3 := B2.trans (b3.mono B2.size)
  rw [pw5] at o3
  clear o2 b3 B2
  go_wp2_with fail
  go_ret
  exact ⟨_, rfl, o3, B3⟩
end Go.Proofs.YtohfepcdgbgojabDoor
/- Contracts of impl.signOfInt, impl's compare, impl.CompareBig and spec.CompareBig. -/
namespace Go.Proofs.YtohfepcdgbgojabDoor
open Go.RowKit
set_option linter.unusedVariables false
def clampJ (n lo hi : Int) : Int := if hi < lo ∨ n < lo then lo else if hi < n then hi else n
theorem clamp_implJ (n lo hi : Int) (w : World) : Calls Tryd.prog 77 #[.int .i64 n, .int .i64 lo, .int .i64 hi] w fun e w' => e = .returned (.int .i64 (clampJ n lo hi)) ∧ w = w' := by
  by_cases h1 : n < lo
  · go_enter Tryd.func77, Tryd.ntmps77
    go_wp2
    go_ret
    exact ⟨ret_int (by unfold clampJ; (repeat' split) <;> omega), rfl⟩
  · by_cases h2 : hi < lo
    · go_enter Tryd.func77, Tryd.ntmps77
      go_wp2
      go_ret
      exact ⟨ret_int (by unfold clampJ; (repeat' split) <;> omega), rfl⟩
    · by_cases h3 : hi < n
      · go_enter Tryd.func77, Tryd.ntmps77
        go_wp2
        go_ret
        exact ⟨ret_int (by unfold clampJ; (repeat' split) <;> omega), rfl⟩
      · go_enter Tryd.func77, Tryd.ntmps77
        go_wp2
        go_ret
        exact ⟨ret_int (by unfold clampJ; (repeat' split) <;> omega), rfl⟩
def sgnI (n : Int) : Int := if n < 0 then -1 else if 0 < n then 1 else 0
theorem sign_any (n : Int) (w : World) : Calls Tryd.prog 93 #[.int .i64 n] w fun e w' => e = .returned (.int .i64 (sgnI n)) ∧ w = w' := by
  go_enter Tryd.func93, Tryd.ntmps93
  go_wp2_with fail
  refine (clamp_implJ _ _ _ _).mono ?_
  rintro e1 w1 ⟨rfl, rfl⟩
  go_wp2_with fail
  go_ret
  exact ⟨ret_int (by unfold sgnI clampJ; (repeat' split) <;> omega), rfl⟩
theorem slice_cmp {w : World} {b : Nat} {e : TypeId} {v : Value} {n : Nat} {xs : List Value} (h : w.ownsRow b e 1 v n xs) : ∃ p c, v = .slice p n c := by
  rcases own_shape h with ⟨h, h'⟩ | ⟨g, cap, h, _⟩
  · exact ⟨_, _, by rw [h, h']⟩
  · exact ⟨_, _, h⟩
set_option maxHeartbeats 1500000 in
theorem compare_gen (w : World) (b1 b2 : Nat) (e1 e2 : TypeId) (v1 v2 : Value) (xs ys : List Int) (hx : BdB xs) (hy : BdB ys) (hl1 : xs.length ≤ 2000000) (hl2 : ys.length ≤ 2000000) (h1 : w.ownsRow b1 e1 1 v1 xs.length (intCs xs)) (h2 : w.ownsRow b2 e2 1 v2 ys.length (intCs ys)) :
    Calls Tryd.prog 87 #[v1, v2] w fun e w' => e = .returned (.int .i64 (cmpB xs ys)) ∧ Below w.heap.size w w' := by
  obtain ⟨p1, c1, rfl⟩ := slice_cmp h1
  obtain ⟨p2, c2, rfl⟩ := slice_cmp h2
  have HX := Lib.hid hx
  have HY := Lib.hid hy
  obtain ⟨n, hn⟩ : ∃ n, n = xs.length := ⟨_, rfl⟩
  obtain ⟨m, hm⟩ : ∃ m, m = ys.length := ⟨_, rfl⟩
  rw [← hn] at h1 hl1 ⊢
  rw [← hm] at h2 hl2 ⊢
  have HN := Lib.hid hn
  have HM := Lib.hid hm
  clear hn hm hx hy
  by_cases hne : n = m
  · subst hne
    have HC := Lib.hid (show cmpB xs ys = cmpTo xs ys n from by unfold cmpB; rw [← HN.out, ← HM.out, if_neg (by omega), if_neg (by omega)])
    have t0 : ((n : Int) != (n : Int)) = false := by simp
    go_enter Tryd.func87, Tryd.ntmps87
    go_wp2
    go_loopw [5] (fun i wr => ∃ j d : Nat, j ≤ n ∧ i = .int .i64 ((j : Int) - 1) ∧ cmpB xs ys = cmpTo xs ys j ∧ wr = w.drewN d) (fun i _ => (intOf i + 1).toNat)
    case atStart => exact ⟨n, 0, Nat.le_refl _, rfl, HC.out, rfl⟩
    case round =>
      obtain ⟨j, d, hj, rfl, hc, rfl⟩ := hrel
      have HC := Lib.hid hc
      clear hc
      rcases j with _ | t
      · go_wp2
        go_ret
        exact ⟨ret_int (by rw [HC.out]; rfl), ⟨rfl, rfl, rfl, Nat.le_refl _, fun _ _ => rfl⟩⟩
      · rw [show ((t + 1 : Nat) : Int) - 1 = (t : Int) from by omega]
        obtain ⟨g1, k1, hv1, _, _⟩ := own_pos h1 (by omega)
        obtain ⟨g2, k2, hv2, _, _⟩ := own_pos h2 (by omega)
        cases hv1
        cases hv2
        have q1 := own_icell h1 t (by omega)
        have q2 := own_icell h2 t (by omega)
        have q3 : (t : Int) < n := by omega
        have x0 := HX.out t (by have := HN.out; omega)
        have y0 := HY.out t (by have := HM.out; omega)
        obtain ⟨x, hxk⟩ : ∃ x, x = xs.getD t 0 := ⟨_, rfl⟩
        obtain ⟨y, hyk⟩ : ∃ y, y = ys.getD t 0 := ⟨_, rfl⟩
        have HS := Lib.hid (show cmpTo xs ys (t + 1) = (if x < y then -1 else if y < x then 1 else cmpTo xs ys t) from by rw [hxk, hyk]; rfl)
        rw [← hxk] at q1 x0
        rw [← hyk] at q2 y0
        clear hxk hyk
        obtain ⟨xa, xb⟩ := x0
        obtain ⟨ya, yb⟩ := y0
        clear h1 h2
        by_cases hxy : x = y
        · have t1 : (x != y) = false := by simp [hxy]
          have E : cmpTo xs ys (t + 1) = cmpTo xs ys t := by rw [HS.out, if_neg (by omega), if_neg (by omega)]
          have HE := Lib.hid E
          clear hxy E
          go_wp2_with fail
          go_quiet (fail)
          go_wp2_with fail
          go_roundw
          case rel => exact ⟨t, _, by omega, by go_num, HC.out.trans HE.out, rfl⟩
          case measure => first | (simp [intOf]; done) | (simp [intOf]; omega)
        · have t1 : (x != y) = true := by simp [hxy]
          have E : sgnI (x - y) = cmpTo xs ys (t + 1) := by
            rw [HS.out]; unfold sgnI
            rcases (show x < y ∨ y < x from by omega) with h | h
            · rw [if_pos (by omega), if_pos h]
            · rw [if_neg (by omega), if_pos (by omega), if_neg (by omega), if_pos h]
          have HE := Lib.hid E
          clear hxy E
          go_wp2_with fail
          go_quiet (fail)
          go_wp2_with fail
          go_region_held3 (fun w' => w'.cell? ⟨g1, t, none⟩ = some (.int .i64 x) ∧ w'.cell? ⟨g2, t, none⟩ = some (.int .i64 y)) (first | exact ⟨q1, q2⟩ | assumption) (first | (go_at_call 93; refine (sign_any _ _).mono ?_; rintro e3 w3 ⟨rfl, rfl⟩))
          go_wp2_with fail
          go_ret
          exact ⟨ret_int (by rw [HC.out, ← HE.out, IntWalk.i64_in _ ⟨by omega, by omega⟩]), ⟨rfl, rfl, rfl, Nat.le_refl _, fun _ _ => rfl⟩⟩
  · have t0 : ((n : Int) != (m : Int)) = true := by simp; omega
    have E : sgnI ((n : Int) - m) = cmpB xs ys := by
      unfold cmpB sgnI
      rw [← HN.out, ← HM.out]
      rcases (show n < m ∨ m < n from by omega) with h | h
      · rw [if_pos (by omega), if_pos h]
      · rw [if_neg (by omega), if_pos (by omega), if_neg (by omega), if_pos h]
    have HE := Lib.hid E
    clear E hne h1 h2
    go_enter Tryd.func87, Tryd.ntmps87
    go_wp2_with (go_at_call 93; refine (sign_any _ _).mono ?_; rintro e3 w3 ⟨rfl, rfl⟩)
    go_ret
    exact ⟨ret_int HE.out, Below.refl _ _⟩
theorem compare_any (w : World) (b1 b2 : Nat) (e1 e2 : TypeId) (v1 v2 : Value) (xs ys : List Int) (hx : OkB xs) (hy : OkB ys) (h1 : w.ownsRow b1 e1 1 v1 xs.length (intCs xs)) (h2 : w.ownsRow b2 e2 1 v2 ys.length (intCs ys)) :
    Calls Tryd.prog 87 #[v1, v2] w fun e w' => e = .returned (.int .i64 (cmpB xs ys)) ∧ Below w.heap.size w w' :=
  compare_gen w b1 b2 e1 e2 v1 v2 xs ys hx.2.1 hy.2.1 (by have := hx.1; omega) (by have := hy.1; omega) h1 h2
end Go.Proofs.YtohfepcdgbgojabDoor
