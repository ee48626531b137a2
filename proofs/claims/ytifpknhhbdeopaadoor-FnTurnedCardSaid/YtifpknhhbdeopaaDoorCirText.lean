/- Contracts of CircleText, both sides. -/
import Derived.Test.YtifpknhhbdeopaaDoorCirOk
import Derived.Test.YtifpknhhbdeopaaDoorFmText
import Derived.Test.YtifpknhhbdeopaaDoorItoaWalks
import Derived.Test.YtifpknhhbdeopaaDoorShelfJ
import Derived.Lib.Join
import Derived.Deep.AppendLies
namespace Go.Proofs.YtifpknhhbdeopaaDoor
open Go.RowKit Go.Joins
set_option linter.unusedVariables false
/-- The texts of the first k parts. -/
def itTo (xs : List Int) : Nat → List (List UInt8)
  | 0 => []
  | k + 1 => itTo xs k ++ [Lib.itoa (xs.getD k 0)]
def baS (l : List (List UInt8)) : List ByteArray := l.map fun x => ⟨x.toArray⟩
theorem itTo_len (xs : List Int) : ∀ k, (itTo xs k).length = k
  | 0 => rfl
  | k + 1 => by simp [itTo, itTo_len xs k]
/-- The text of the first k parts. -/
def textTo (xs : List Int) (k : Nat) : List UInt8 := Lib.join (itTo xs k) [44]
theorem join_snoc (l : List (List UInt8)) (y sep : List UInt8) (h : l ≠ []) : Lib.join (l ++ [y]) sep = Lib.join l sep ++ (sep ++ y) := by
  cases l with
  | nil => exact absurd rfl h
  | cons x r => rw [List.cons_append, Lib.join_cons, Lib.join_cons, Lib.joinTail, Lib.joinTail]; simp
theorem textTo_one (xs : List Int) : textTo xs 1 = Lib.itoa (xs.getD 0 0) := by
  show Lib.join ([] ++ [Lib.itoa (xs.getD 0 0)]) [44] = _
  rw [List.nil_append, Lib.join_one]
theorem textTo_succ (xs : List Int) {k : Nat} (hk : 0 < k) : textTo xs (k + 1) = textTo xs k ++ ([44] ++ Lib.itoa (xs.getD k 0)) := by
  unfold textTo
  rw [itTo]
  exact join_snoc _ _ _ (fun e => by have := itTo_len xs k; rw [e] at this; simp at this; omega)
/-- CircleText. -/
def cirT (xs : List Int) : List UInt8 := if CirOk xs then textTo xs 12 else []
theorem strCs_snoc (l : List (List UInt8)) (y : List UInt8) : strCs (baS (l ++ [y])) = strCs (baS l) ++ [.string ⟨y.toArray⟩] := by simp [strCs, baS]
theorem baS_data (l : List (List UInt8)) : (baS l).map (·.data.toList) = l := by
  induction l with
  | nil => rfl
  | cons x r ih => exact congrArg (List.cons x) ih
theorem infoStrC : (Tryd.prog.info? 9).map (fun i => (i.zero, i.size, i.bytes)) = some (some (.string ⟨#[]⟩), 1, 16) := by kernel_rfl
theorem itoa_len (n : Int) (h0 : 0 ≤ n) (h1 : n ≤ 12) : (Lib.itoa n).length ≤ 100 := by
  have := Lib.itoa_length_le n (by omega) (by omega)
  omega
theorem textTo_len {xs : List Int} (h : ∀ j, j < 12 → 0 ≤ xs.getD j 0 ∧ xs.getD j 0 ≤ 12) : ∀ k, k ≤ 12 → (textTo xs k).length ≤ 200 * k
  | 0, _ => by simp [textTo, itTo, Lib.join_nil]
  | k + 1, hk => by
    have e := textTo_len h k (by omega)
    have f := h k (by omega)
    have g := itoa_len _ f.1 f.2
    rcases Nat.eq_zero_or_pos k with q | q
    · subst q; rw [textTo_one]; omega
    · rw [textTo_succ xs q]; simp only [List.length_append, List.length_cons, List.length_nil]; omega
/-- The row of a valid circle. -/
theorem cir_rowT {w : World} {b : Nat} {e : TypeId} {v : Value} {xs : List Int} (h : w.ownsRow b e 1 v xs.length (intCs xs)) (hc : CirOk xs) : ∃ g cap, v = .slice (some ⟨g, 0, none⟩) 12 cap ∧ g < w.heap.size ∧ ∀ j, j < 12 → w.cell? ⟨g, j, none⟩ = some (.int .i64 (xs.getD j 0)) := by
  obtain ⟨l, hl⟩ : ∃ l, l = xs.length := ⟨_, rfl⟩
  have hl' := hc.1
  rw [← hl] at h hl'
  subst hl'
  obtain ⟨g, cap, rfl, _, hg⟩ := own_pos h (by omega)
  exact ⟨g, cap, rfl, hg, fun j hj => own_icell h j hj⟩
theorem join12 {w : World} {B : Nat} {v : Value} {xs : List Int} (h : w.ownsRow B 9 1 v 12 (strCs (baS (itTo xs 12)))) (hl : (textTo xs 12).length ≤ 1000000) :
    Calls Tryd.prog 17 #[v, .string ⟨#[44]⟩] w fun e w' => e = .returned (.string ⟨(textTo xs 12).toArray⟩) ∧ Below w.heap.size w w' := by
  have h0 := h
  obtain ⟨g, cap, rfl, _, hg⟩ := own_pos h (by omega)
  obtain ⟨_, h1 | ⟨g', cap', cur, hv, _, _, q1, q2, _⟩⟩ := h0
  · exact absurd h1.2 (by omega)
  · simp only [Value.slice.injEq] at hv
    obtain ⟨_, _, rfl⟩ := hv
    have hbl : (baS (itTo xs 12)).length = 12 := by simp [baS, itTo_len]
    have J := Tryd.strings_Join g 0 cap (baS (itTo xs 12)) ⟨#[44]⟩ w (fun j x hx => by
      have hj : j < 12 := by
        rcases Nat.lt_or_ge j 12 with q | q
        · exact q
        · rw [List.getElem?_eq_none (by omega)] at hx; cases hx
      rw [Nat.zero_add, own_cell h hbl j hj]
      rw [List.getElem?_eq_getElem (by omega)] at hx
      injection hx with hx
      rw [hx]) hg (by omega) (by omega) (by rw [baS_data]; show (textTo xs 12).length ≤ _; omega)
    rw [hbl, baS_data] at J
    exact J
set_option maxHeartbeats 1000000 in
theorem text_impl (w : World) (b : Nat) (e : TypeId) (v : Value) (xs : List Int) (hl : xs.length ≤ 2000000) (h : w.ownsRow b e 1 v xs.length (intCs xs)) (ht : ItoaTab w) :
    Calls Tryd.prog 9 #[cirV v] w fun en w' => en = .returned (.string ⟨(cirT xs).toArray⟩) ∧ Below w.heap.size w w' := by
  have CO := Lib.hid (cirOk_impl _ b e v xs hl (own_below h (below_alloc1 w (.cells #[v] 26))))
  obtain ⟨i0, hi, hz0, hz1, hz2⟩ := info_parts infoStrC
  by_cases hc : CirOk xs
  · rw [show cirB xs = true from decide_eq_true hc] at CO
    have HV : Hid (cirT xs = textTo xs 12) := Lib.hid (by unfold cirT; rw [if_pos hc])
    obtain ⟨g, cap, rfl, hg, hcl⟩ := cir_rowT h hc
    have HC := Lib.hid hcl
    have HP := Lib.hid hc.2.1
    have HT := Lib.hid ht
    clear hcl h hc ht hl
    go_enter Tryd.func9, Tryd.ntmps9
    go_wp2_with fail
    refine CO.out.mono ?_
    rintro e1 w1 ⟨rfl, b1⟩
    obtain ⟨_, c0, _⟩ := one_keep b1 (one_alloc (w := w) (v := .slice (some ⟨g, 0, none⟩) 12 cap) (t := 26))
    have B1 := Lib.hid ((below_alloc1 w (.cells #[.slice (some ⟨g, 0, none⟩) 12 cap] 26)).trans (b1.mono (by simp)))
    clear b1 CO
    go_wp2_with fail
    go_loopw [3, 5, 12] (fun x y z wr => ∃ k : Nat, k ≤ 12 ∧ z = .int .i64 k ∧ Hid (wr.ownsRow w.heap.size 9 1 x k (strCs (baS (itTo xs k)))) ∧ Hid (Below w.heap.size w wr)) (fun _ _ z _ => 12 - (intOf z).toNat)
    case atStart => exact ⟨0, Nat.zero_le _, rfl, Lib.hid (World.ownsRow_nil _ _ _ _), B1⟩
    case round =>
      obtain ⟨k, hk, rfl, O1, B2⟩ := hrel
      clear c0
      by_cases hlt : k < 12
      · have q3 : (k : Int) < 12 := by omega
        have q1 := (B2.out.cell (p := ⟨g, k, none⟩) hg).trans (HC.out k hlt)
        have hp := HP.out k hlt
        obtain ⟨x, hx⟩ : ∃ x, x = xs.getD k 0 := ⟨_, rfl⟩
        rw [← hx] at q1 hp
        obtain ⟨p0, p1⟩ := hp
        have HX := Lib.hid hx
        have hbs := B2.out.size
        clear hx
        go_wp2_with fail
        refine (format_any x (by omega) (by omega) _ (HT.out.below B2.out HT.out.lt)).mono ?_
        rintro e2 w2 ⟨rfl, b2⟩
        have O2 := Lib.hid (own_below O1.out b2)
        have B3 := Lib.hid (B2.out.trans (b2.mono B2.out.size))
        have hbs2 := B3.out.size
        clear q1 O1 B1 B2 b2
        go_wp2_with (at_builtin; refine wpList_append_lies _ rfl (.tmp 16) (.tmp 19) 41 rfl w.heap.size 9 i0 (.string ⟨#[]⟩) 1 16 Tryd.underlying41 hi hz0 hz1 hz2 rfl (by decide) _ k _ rfl (O2.out.alloc _) ⟨_, 0, none⟩ 1 1 _ rfl rfl (World.news_of_block (heap_alloc_new _ _)) (by simp [Value.oneCell']) (by decide) (by unfold maxLen; omega) (by omega) (by simp; omega) _ rfl ?_; intro g1 cap1 w5 hown' hgrow hat hgt)
        have R5 := Lib.hid ((B3.out.alloc B3.out.size _).grown hgrow (Nat.le_trans B3.out.size (by simp)) (fun j hj => (O2.out.lt j hj).1))
        have O5 : Hid (w5.ownsRow w.heap.size 9 1 (.slice (some ⟨g1, 0, none⟩) (k + 1) cap1) (k + 1) (strCs (baS (itTo xs (k + 1))))) := Lib.hid (by rw [itTo, strCs_snoc, ← HX.out]; exact hown')
        clear hown' hgrow hat hgt O2 B3
        go_wp2_with fail
        go_roundw
        case rel => exact ⟨k + 1, by omega, by go_num, O5, R5⟩
        case measure => simp [intOf]; omega
      · obtain rfl : k = 12 := by omega
        have q3 : ¬ ((12 : Nat) : Int) < 12 := by omega
        go_wp2_with fail
        refine (join12 O1.out (by have := textTo_len HP.out 12 (Nat.le_refl _); omega)).mono ?_
        rintro e2 w2 ⟨rfl, b2⟩
        go_wp2_with fail
        go_ret
        exact ⟨ret_strT HV.out.symm, B2.out.trans (b2.mono B2.out.size)⟩
  · rw [show cirB xs = false from decide_eq_false hc] at CO
    have HV : Hid (cirT xs = []) := Lib.hid (by unfold cirT; rw [if_neg hc])
    clear h hc ht hl
    go_enter Tryd.func9, Tryd.ntmps9
    go_wp2_with fail
    refine CO.out.mono ?_
    rintro e1 w1 ⟨rfl, b1⟩
    have B1 := Lib.hid ((below_alloc1 w (.cells #[v] 26)).trans (b1.mono (by simp)))
    clear b1 CO
    go_wp2_with fail
    go_ret
    exact ⟨by rw [HV.out]; rfl, B1.out⟩
end Go.Proofs.YtifpknhhbdeopaaDoor
