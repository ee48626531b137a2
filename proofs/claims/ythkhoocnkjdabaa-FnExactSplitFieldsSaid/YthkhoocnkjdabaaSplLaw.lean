/- The walk of laws.FnExactSplitFields over the contracts. -/
import Derived.Test.YthkhoocnkjdabaaSSplWalks
import Derived.Test.YthkhoocnkjdabaaStrSlices
namespace Go.Proofs.Ythkhoocnkjdabaa
open Go.RowKit
set_option linter.unusedVariables false
theorem own_down {w : World} {base base' : Nat} {e : TypeId} {v : Value} {n : Nat} {xs : List Value} (h : w.ownsRow base e 1 v n xs) (hb : base' ≤ base) : w.ownsRow base' e 1 v n xs := by
  obtain ⟨h1, h2⟩ := h
  refine ⟨h1, ?_⟩
  rcases h2 with h2 | ⟨g, cap, cur, hv, hg, r⟩
  · exact .inl h2
  · exact .inr ⟨g, cap, cur, hv, Nat.le_trans hb hg, r⟩
/-- A row of an older base is kept where only newer blocks are written. -/
theorem own_old {w w' : World} {base B : Nat} {e : TypeId} {v : Value} {n : Nat} {xs : List Value} (h : w.ownsRow base e 1 v n xs) (hb : Below B w w') (hB : ∀ g, v.ownBlock = some g → g < B) : w'.ownsRow base e 1 v n xs := by
  obtain ⟨h1, h2⟩ := h
  refine ⟨h1, ?_⟩
  rcases h2 with h2 | ⟨g, cap, cur, hv, hg, hh, r⟩
  · exact .inl h2
  · exact .inr ⟨g, cap, cur, hv, hg, by rw [hb.block g (hB g (by rw [hv]; rfl))]; exact hh, r⟩
theorem own_blk {w : World} {base : Nat} {e : TypeId} {v : Value} {n : Nat} {xs : List Value} (h : w.ownsRow base e 1 v n xs) : ∀ g, v.ownBlock = some g → g < w.heap.size := fun g hg => (h.lt g hg).2
set_option maxHeartbeats 1000000 in
theorem walk_FnExactSplitFields (s : ByteArray) (hs : s.size ≤ maxLen) (w : World) :
    Calls Try.prog 7 #[.string s] w fun e w' => e = .returned (.bool true) ∧ Below w.heap.size w w' := by
  have hs' := hs
  unfold maxLen at hs'
  by_cases h1 : 1048576 < s.size
  · go_enter Try.func7, Try.ntmps7
    go_wp2_with fail
    go_ret
    exact ⟨rfl, Below.refl _ _⟩
  · have hle := splV_le s.data.toList
    go_enter Try.func7, Try.ntmps7
    go_wp2_with fail
    refine (ssplit_any _ _ hs).mono ?_
    rintro e w1 ⟨vw, rfl, hw1, hb1⟩
    go_wp2_with fail
    refine (split_any _ _ hs).mono ?_
    rintro e w2 ⟨vg, rfl, hg2, hb2⟩
    generalize hfs : (splV s.data.toList).1 = fs at *
    have hlen : (strOf fs).length = fs.length := strOf_len fs
    have HL := Lib.hid hlen
    have HF := Lib.hid hfs
    clear hlen hfs
    have hn24 : fs.length ≤ 1000000 := by omega
    have hw2 := own_below hw1 hb2
    have hB2 : w.heap.size ≤ w2.heap.size := Nat.le_trans hb1.size hb2.size
    go_wp2_with fail
    refine (eqStrings_eq w2 _ _ _ _ vg vw fs.length (strOf fs) HL.out hn24 hg2 hw2).mono ?_
    rintro e w3 ⟨rfl, hb3⟩
    have hg3 := own_below hg2 hb3
    have hw3 := own_below hw2 hb3
    go_wp2_with fail
    refine (markStrings_any w3 w1.heap.size 1 _ vg fs.length (strOf fs) HL.out hn24 (by omega) (by omega) hg3 (Nat.le_trans hb2.size hb3.size)).mono ?_
    rintro e w4 ⟨rfl, hg4, hb4⟩
    have hw4 := own_old hw3 hb4 (own_blk hw1)
    go_wp2_with fail
    refine (heldStrings_any w4 w1.heap.size 1 _ vg fs.length hn24 (by omega) (by omega) hg4).mono ?_
    rintro e w5 ⟨rfl, hb5⟩
    have hg5 := own_below hg4 hb5
    have hw5 := own_below hw4 hb5
    have t1 : ¬ ((1 : Int) + fs.length) < 0 := by omega
    go_wp2_with fail
    refine (split_any _ _ hs).mono ?_
    rintro e w6 ⟨vh, rfl, hh6, hb6⟩
    rw [HF.out] at hh6
    have hg6 := own_below hg5 hb6
    have hw6 := own_below hw5 hb6
    go_wp2_with fail
    refine (eqStrings_eq w6 _ _ _ _ vh vw fs.length (strOf fs) HL.out hn24 hh6 hw6).mono ?_
    rintro e w7 ⟨rfl, hb7⟩
    have hg7 := own_below hg6 hb7
    go_wp2_with fail
    refine (heldStrings_any w7 w1.heap.size 1 _ vg fs.length hn24 (by omega) (by omega) hg7).mono ?_
    rintro e w8 ⟨rfl, hb8⟩
    go_wp2_with fail
    go_ret
    refine ⟨rfl, ?_⟩
    have s2 := Nat.le_trans hb1.size hb2.size
    have s3 := Nat.le_trans s2 hb3.size
    have s4 := Nat.le_trans s3 hb4.size
    have s5 := Nat.le_trans s4 hb5.size
    have s6 := Nat.le_trans s5 hb6.size
    have s7 := Nat.le_trans s6 hb7.size
    exact ((((((hb1.trans (hb2.mono hb1.size)).trans (hb3.mono s2)).trans (hb4.mono hb1.size)).trans (hb5.mono s4)).trans (hb6.mono s5)).trans (hb7.mono s6)).trans (hb8.mono s7)
end Go.Proofs.Ythkhoocnkjdabaa
