/- Contracts of CircleText, both sides. -/
import Derived.Test.YtohfepcdgbgojabDoorCirOk
import Derived.Test.YtohfepcdgbgojabDoorFmText
import Derived.Test.YtohfepcdgbgojabDoorItoaWalks
import Derived.Test.YtohfepcdgbgojabDoorShelfJ
import Derived.Lib.Join
import Derived.Deep.AppendLies
namespace Go.Proofs.YtohfepcdgbgojabDoor
open Go.RowKit Go.Joins
set_option linter.unusedVariables false
/-- The texts of the first k parts. -/
def itTo (xs : List Int) : Nat → List (List UInt8)
  | 0 => []
  | k + 1 => itTo xs k ++ [Lib.itoa (xs.getD k 0)]
def baS (l : List (List UInt8)) : List ByteArray := l.map fun x => ⟨x.toArray⟩
theorem itTo_len (xs : List Int) : ∀ k, (itTo xs k).length = k
  | 0 => rfl
  | k + 1 => by simp [itTo, itTo_len xs k]
/-- The text of the first k parts. -/
def textTo (xs : List Int) (k : Nat) : List UInt8 := Lib.join (itTo xs k) [44]
theorem join_snoc (l : List (List UInt8)) (y sep : List UInt8) (h : l ≠ []) : Lib.join (l ++ [y]) sep = Lib.join l sep ++ (sep ++ y) := by
  cases l with
  | nil => exact absurd rfl h
  | cons x r => rw [List.cons_append, Lib.join_cons, Lib.join_cons, Lib.joinTail, Lib.joinTail]; simp
theorem textTo_one (xs : List Int) : textTo xs 1 = Lib.itoa (xs.getD 0 0) := by
  show Lib.join ([] ++ [Lib.itoa (xs.getD 0 0)]) [44] = _
  rw [List.nil_append, Lib.join_one]
theorem textTo_succ (xs : List Int) {k : Nat} (hk : 0 < k) : textTo xs (k + 1) = textTo xs k ++ ([44] ++ Lib.itoa (xs.getD k 0)) := by
  unfold textTo
  rw [itTo]
  exact join_snoc _ _ _ (fun e => by have := itTo_len xs k; rw [e] at this; simp at this; omega)
/-- CircleText. -/
def cirT (xs : List Int) : List UInt8 := if CirOk xs then textTo xs 12 else []
theorem strCs_snoc (l : List (List UInt8)) (y : List UInt8) : strCs (baS (l ++ [y])) = strCs (baS l) ++ [.string ⟨y.toArray⟩] := by simp [strCs, baS]
theorem baS_data (l : List (List UInt8)) : (baS l).map (·.data.toList) = l := by
  induction l with
  | nil => rfl
  | cons x r ih => exact congrArg (List.cons x) ih
theorem infoStrC : (Tryd.prog.info? 9).map (fun i => (i.zero, i.size, i.bytes)) = some (some (.string ⟨#[]⟩), 1, 16) := by kernel_rfl
theorem itoa_len (n : Int) (h0 : 0 ≤ n) (h1 : n ≤ 12) : (Lib.itoa n).length ≤ 100 := by
  have := Lib.itoa_length_le n (by omega) (by omega)
  omega
theorem textTo_len {xs : List Int} (h : ∀ j, j < 12 → 0 ≤ xs.getD j 0 ∧ xs.getD j 0 ≤ 12) : ∀ k, k ≤ 12 → (textTo xs k).length ≤ 200 * k
  | 0, _ => by simp [textTo, itTo, Lib.join_nil]
  | k + 1, hk => by
    have e := textTo_len h k (by omega)
    have f := h k (by omega)
    have g := itoa_len _ f.1 f.2
    rcases Nat.eq_zero_or_pos k with q | q
    · subst q; rw [textTo_one]; omega
    · rw [textTo_succ xs q]; simp only [List.length_append, List.length_cons, List.length_nil]; omega
/-- The row of a valid circle. -/
theorem cir_rowT {w : World} {b : Nat} {e : TypeId} {v : Value} {xs : List Int} (h : w.ownsRow b e 1 v xs.length (intCs xs)) (hc : CirOk xs) : ∃ g cap, v = .slice (some ⟨g, 0, none⟩) 12 cap ∧ g < w.heap.size ∧ ∀ j, j < 12 → w.cell? ⟨g, j, none⟩ = some (.int .i64 (xs.getD j 0)) := by
  obtain ⟨l, hl⟩ : ∃ l, l = xs.length := ⟨_, rfl⟩
  have hl' := hc.1
  rw [← hl] at h hl'
  subst hl'
  obtain ⟨g, cap, rfl, _, hg⟩ := own_pos h (by omega)
  exact ⟨g, cap, rfl, hg, fun j hj => own_icell h j hj⟩
theorem join12 {w : World} {B : Nat} {v : Value} {xs : List Int} (h : w.ownsRow B 9 1 v 12 (strCs (baS (itTo xs 12)))) (hl : (textTo xs 12).length ≤ 1000000) :
    Calls Tryd.prog 32 #[v, .string ⟨#[44]⟩] w fun e w' => e = .returned (.string ⟨(textTo xs 12).toArray⟩) ∧ Below w.heap.size w w' := by
  have h0 := h
  obtain ⟨g, cap, rfl, _, hg⟩ := own_pos h (by omega)
  obtain ⟨_, h1 | ⟨g', cap', cur, hv, _, _, q1, q2, _⟩⟩ := h0
  · exact absurd h1.2 (by omega)
  · simp only [Value.slice.injEq] at hv
    obtain ⟨_, _, rfl⟩ := hv
    have hbl : (baS (itTo xs 12)).length = 12 := by simp [baS, itTo_len]
    have J := Tryd.strings_Join g 0 cap (baS (itTo xs 12)) ⟨#[44]⟩ w (fun j x hx => by
      have hj : j < 12 := by
        rcases Nat.lt_or_ge j 12 with q | q
        · exact q
        · rw [List.getElem?_eq_none (by omega)] at hx; cases hx
      rw [Nat.zero_add, own_cell h hbl j hj]
      rw [List.getElem?_eq_getElem (by omega)] at hx
      injection hx with hx
      rw [hx]) hg (by omega) (by omega) (by rw [baS_data]; show (textTo xs 12).length ≤ _; omega)
    rw [hbl, baS_data] at J
    exact J
set_option maxHeartbeats 1000000 in
theorem text_impl (w : World) (b : Nat) (e : TypeId) (v : Value) (xs : List Int) (hl : xs.length ≤ 2000000) (h : w.ownsRow b e 1 v xs.length (intCs xs)) (ht : ItoaTab w) :
    Calls Tryd.prog 12 #[cirV v] w fun en w' => en = .returned (.string ⟨(cirT xs).toArray⟩) ∧ Below w.heap.size w w' := by
  have CO := Lib.hid (cirOk_impl _ b e v xs hl (own_below h (below_alloc1 w (.cells #[v] 26))))
  obtain ⟨i0, hi, hz0, hz1, hz2⟩ := info_parts infoStrC
  by_cases hc : CirOk xs
  · rw [show cirB xs = true from decide_eq_true hc] at CO
    have HV : Hid (cirT xs = textTo xs 12) := Lib.hid (by unfold cirT; rw [if_pos hc])
    obtain ⟨g, cap, rfl, hg, hcl⟩ := cir_rowT h hc
    have HC := Lib.hid hcl
    have HP := Lib.hid hc.2.1
    have HT := Lib.hid ht
    clear hcl h hc ht hl
    go_enter Tryd.func12, Tryd.ntmps12
    go_wp2_with fail
    refine CO.out.mono ?_
    rintro e1 w1 ⟨rfl, b1⟩
    obtain ⟨_, c0, _⟩ := one_keep b1 (one_alloc (w := w) (v := .slice (some ⟨g, 0, none⟩) 12 cap) (t := 26))
    have B1 := Lib.hid ((below_alloc1 w (.cells #[.slice (some ⟨g, 0, none⟩) 12 cap] 26)).trans (b1.mono (by simp)))
    clear b1 CO
    go_wp2_with fail
    go_loopw [3, 5, 12] (fun x y z wr => ∃ k : Nat, k ≤ 12 ∧ z = .int .i64 k ∧ Hid (wr.ownsRow w.heap.size 9 1 x k (strCs (baS (itTo xs k)))) ∧ Hid (Below w.heap.size w wr)) (fun _ _ z _ => 12 - (intOf z).toNat)
    case atStart => exact ⟨0, Nat.zero_le _, rfl, Lib.hid (World.ownsRow_nil _ _ _ _), B1⟩
    case round =>
      obtain ⟨k, hk, rfl, O1, B2⟩ := hrel
      clear c0
      by_cases hlt : k < 12
      · have q3 : (k : Int) < 12 := by omega
        have q1 := (B2.out.cell (p := ⟨g, k, none⟩) hg).trans (HC.out k hlt)
        have hp := HP.out k hlt
        obtain ⟨x, hx⟩ : ∃ x, x = xs.getD k 0 := ⟨_, rfl⟩
        rw [← hx] at q1 hp
        obtain ⟨p0, p1⟩ := hp
        have HX := Lib.hid hx
        have hbs := B2.out.size
        clear hx
        go_wp2_with fail
        refine (format_any x (by omega) (by omega) _ (HT.out.below B2.out HT.out.lt)).mono ?_
        rintro e2 w2 ⟨rfl, b2⟩
        have O2 := Lib.hid (own_below O1.out b2)
        have B3 := Lib.hid (B2.out.trans (b2.mono B2.out.size))
        have hbs2 := B3.out.size
        clear q1 O1 B1 B2 b2
        go_wp2_with (at_builtin; refine wpList_append_lies _ rfl (.tmp 16) (.tmp 19) 52 rfl w.heap.size 9 i0 (.string ⟨#[]⟩) 1 16 Tryd.underlying52 hi hz0 hz1 hz2 rfl (by decide) _ k _ rfl (O2.out.alloc _) ⟨_, 0, none⟩ 1 1 _ rfl rfl (World.news_of_block (heap_alloc_new _ _)) (by simp [Value.oneCell']) (by decide) (by unfold maxLen; omega) (by omega) (by simp; omega) _ rfl ?_; intro g1 cap1 w5 hown' hgrow hat hgt)
        have R5 := Lib.hid ((B3.out.alloc B3.out.size _).grown hgrow (Nat.le_trans B3.out.size (by simp)) (fun j hj => (O2.out.lt j hj).1))
        have O5 : Hid (w5.ownsRow w.heap.size 9 1 (.slice (some ⟨g1, 0, none⟩) (k + 1) cap1) (k + 1) (strCs (baS (itTo xs (k + 1))))) := Lib.hid (by rw [itTo, strCs_snoc, ← HX.out]; exact hown')
        clear hown' hgrow hat hgt O2 B3
        go_wp2_with fail
        go_roundw
        case rel => exact ⟨k + 1, by omega, by go_num, O5, R5⟩
        case measure => simp [intOf]; omega
      · obtain rfl : k = 12 := by omega
        have q3 : ¬ ((12 : Nat) : Int) < 12 := by omega
        go_wp2_with fail
        refine (join12 O1.out (by have := textTo_len HP.out 12 (Nat.le_refl _); omega)).mono ?_
        rintro e2 w2 ⟨rfl, b2⟩
        go_wp2_with fail
        go_ret
        exact ⟨ret_strT HV.out.symm, B2.out.trans (b2.mono B2.out.size)⟩
  · rw [show cirB xs = false from decide_eq_false hc] at CO
    have HV : Hid (cirT xs = []) := Lib.hid (by unfold cirT; rw [if_neg hc])
    clear h hc ht hl
    go_enter Tryd.func12, Tryd.ntmps12
    go_wp2_with fail
    refine CO.out.mono ?_
    rintro e1 w1 ⟨rfl, b1⟩
    have B1 := Lib.hid ((below_alloc1 w (.cells #[v] 26)).trans (b1.mono (by simp)))
    clear b1 CO
    go_wp2_with fail
    go_ret
    exact ⟨by rw [HV.out]; rfl, B1.out⟩
set_option maxHeartbeats 2000000 in
theorem text_spec (w : World) (b : Nat) (e : TypeId) (v : Value) (xs : List Int) (hl : xs.length ≤ 2000000) (h : w.ownsRow b e 1 v xs.length (intCs xs)) :
    Calls Tryd.prog 25 #[cirV v] w fun en w' => en = .returned (.string ⟨(cirT xs).toArray⟩) ∧ Below w.heap.size w w' := by
  have CO := Lib.hid (fun w (h : w.ownsRow b e 1 v xs.length (intCs xs)) => cirOk_spec w b e v xs hl h)
  have HH := Lib.hid h
  by_cases hc : CirOk xs
  · rw [show cirB xs = true from decide_eq_true hc] at CO
    have HV : Hid (cirT xs = textTo xs 12) := Lib.hid (by unfold cirT; rw [if_pos hc])
    obtain ⟨g, cap, rfl, hg, hcl⟩ := cir_rowT h hc
    have HC := Lib.hid hcl
    have HP := Lib.hid hc.2.1
    clear hcl h hc hl
    go_enter Tryd.func25, Tryd.ntmps25
    go_upto_region 1 with fail
    obtain ⟨W0, hW⟩ : ∃ W, W = w.alloc (.cells #[.slice (some ⟨g, 0, none⟩) 12 cap] 26) := ⟨_, rfl⟩
    obtain ⟨n, hn⟩ : ∃ n, n = w.heap.size := ⟨_, rfl⟩
    have C0 : Hid (One n (.slice (some ⟨g, 0, none⟩) 12 cap) W0) := Lib.hid (by rw [hW, hn]; exact one_alloc)
    have B0 : Hid (Below w.heap.size w W0) := Lib.hid (by rw [hW]; exact below_alloc1 w _)
    rw [← hW, ← hn]
    clear hW hn
    go_wp2_with fail
    go_loopw [3, 4] (fun x y wr => ∃ (k : Nat) (T : List UInt8), k ≤ 12 ∧ y = .int .i64 k ∧ x = .string ⟨T.toArray⟩ ∧ Hid (T = textTo xs k) ∧ Hid (One n (.slice (some ⟨g, 0, none⟩) 12 cap) wr) ∧ Hid (Below w.heap.size w wr)) (fun _ y _ => 12 - (intOf y).toNat)
    case atStart => exact ⟨0, [], Nat.zero_le _, rfl, rfl, Lib.hid rfl, C0, B0⟩
    case round =>
      clear C0 B0
      obtain ⟨k, T, hk, rfl, rfl, HT, C1, B1⟩ := hrel
      obtain ⟨_, c0, _⟩ := C1.out
      by_cases hlt : k < 12
      · have q3 : (k : Int) < 12 := by omega
        have hp := HP.out k hlt
        have hTl := textTo_len HP.out k hk
        rw [← HT.out] at hTl
        obtain ⟨x, hx⟩ : ∃ x, x = xs.getD k 0 := ⟨_, rfl⟩
        rw [← hx] at hp
        obtain ⟨p0, p1⟩ := hp
        have HX := Lib.hid hx
        obtain ⟨L, hL⟩ : ∃ L, L = Lib.itoa x := ⟨_, rfl⟩
        have hLl : L.length ≤ 100 := by rw [hL]; exact itoa_len x p0 p1
        have FL := Lib.hid (⟨hL, by omega, by omega⟩ : Fm x L)
        go_wp2_with fail
        refine (CO.out _ (own_below HH.out B1.out)).mono ?_
        rintro e2 w2 ⟨rfl, b2⟩
        have C2 := Lib.hid (one_keep b2 C1.out)
        have B2 := Lib.hid (B1.out.trans (b2.mono B1.out.size))
        have q1 := (B2.out.cell (p := ⟨g, k, none⟩) hg).trans (HC.out k hlt)
        rw [← hx] at q1
        clear hx hL c0 C1 B1 b2
        obtain ⟨_, c0, _⟩ := C2.out
        rcases Nat.eq_zero_or_pos k with hk0 | hk0
        · subst hk0
          obtain ⟨Z, hZ1, hZ2, hZ3⟩ := cat_run Tryd.prog T L 3000 100 (by omega) hLl (by decide)
          have HZ : Hid (Z = textTo xs 1) := Lib.hid (by rw [hZ2, HT.out, textTo_one, ← HX.out, ← FL.out.1]; rfl)
          clear hZ1 hZ2
          go_wp2_with fail
          refine (fm_spec FL.out _).mono ?_
          rintro e3 w3 ⟨rfl, b3⟩
          have C3 := Lib.hid (one_keep b3 C2.out)
          have B3 := Lib.hid (B2.out.trans (b3.mono B2.out.size))
          clear q1 c0 C2 B2 b3
          go_wp2_with fail
          go_roundw
          case rel => exact ⟨1, Z, by omega, by go_num, rfl, HZ, C3, B3⟩
          case measure => simp [intOf]
        · obtain ⟨Y, hY1, hY2, hY3⟩ := cat_run Tryd.prog T [44] 3000 1 (by omega) (by decide) (by decide)
          obtain ⟨Z, hZ1, hZ2, hZ3⟩ := cat_run Tryd.prog Y L 3001 100 hY1 hLl (by decide)
          have HZ : Hid (Z = textTo xs (k + 1)) := Lib.hid (by rw [hZ2, hY2, HT.out, textTo_succ xs hk0, ← HX.out, ← FL.out.1, List.append_assoc])
          have q4 : (0 : Int) < k := by omega
          clear hZ1 hZ2 hY1 hY2
          go_wp2_with fail
          refine (fm_spec FL.out _).mono ?_
          rintro e3 w3 ⟨rfl, b3⟩
          have C3 := Lib.hid (one_keep b3 C2.out)
          have B3 := Lib.hid (B2.out.trans (b3.mono B2.out.size))
          clear q1 c0 C2 B2 b3
          go_wp2_with fail
          go_roundw
          case rel => exact ⟨k + 1, Z, by omega, by go_num, rfl, HZ, C3, B3⟩
          case measure => simp [intOf]; omega
      · obtain rfl : k = 12 := by omega
        have q3 : ¬ ((12 : Nat) : Int) < 12 := by omega
        go_wp2_with fail
        go_ret
        exact ⟨ret_strT (HT.out.trans HV.out.symm), B1.out⟩
  · rw [show cirB xs = false from decide_eq_false hc] at CO
    have HV : Hid (cirT xs = []) := Lib.hid (by unfold cirT; rw [if_neg hc])
    obtain ⟨p0, cap, rfl⟩ := own_slice h
    have CB := Lib.hid (CO.out (w.alloc (.cells #[.slice p0 xs.length cap] 26)) (own_below HH.out (below_alloc1 w _)))
    clear h hc CO HH
    generalize xs.length = l at CB hl ⊢
    rcases Nat.eq_zero_or_pos l with h0 | h0
    · subst h0
      go_enter Tryd.func25, Tryd.ntmps25
      go_wp2_with fail
      refine wp_loop_rounds 1 ?_
      rw [rounds_succ]
      go_wp2_with fail
      go_ret
      exact ⟨ret_strT HV.out.symm, below_alloc1 w _⟩
    · have q3 : (0 : Int) < l := by omega
      go_enter Tryd.func25, Tryd.ntmps25
      go_wp2_with fail
      refine wp_loop_rounds 1 ?_
      rw [rounds_succ]
      go_wp2_with fail
      refine CB.out.mono ?_
      rintro e1 w1 ⟨rfl, b1⟩
      go_wp2_with fail
      go_ret
      exact ⟨ret_strT HV.out.symm, (below_alloc1 w _).trans (b1.mono (by simp))⟩
end Go.Proofs.YtohfepcdgbgojabDoor
