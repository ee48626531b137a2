/- Contracts of laws.eqStringS, laws.markStringS and laws.heldStringS over slices of strings that the call owns. -/
import Derived.Test.YthkhoocnkjdabaaMarkText
import Derived.Laws.OwnMore
import Derived.Deep.QuietTactic
import Derived.BigQuiet
import Derived.Deep.AppendLies
import Derived.Deep.RegionHeld3
import Derived.Outline
namespace Go.Proofs.Ythkhoocnkjdabaa
open Go.RowKit
set_option linter.unusedVariables false
def strCs (xs : List ByteArray) : List Value := xs.map Value.string
theorem strCs_len (xs : List ByteArray) : (strCs xs).length = xs.length := by simp [strCs]
theorem strCs_get (xs : List ByteArray) (j : Nat) (h : j < xs.length) : (strCs xs)[j]? = some (.string xs[j]) := by simp [strCs, h]
/-- The shape of an owned slice of strings: nil, or the head of a row. -/
theorem own_shape {w : World} {base : Nat} {e : TypeId} {v : Value} {n : Nat} {xs : List Value} (h : w.ownsRow base e 1 v n xs) : (v = .slice none 0 0 ∧ n = 0) ∨ ∃ g cap, v = .slice (some ⟨g, 0, none⟩) n cap ∧ base ≤ g ∧ g < w.heap.size := by
  rcases h.2 with h1 | ⟨g, cap, cur, hv, hb, hg, _⟩
  · exact .inl h1
  · exact .inr ⟨g, cap, hv, hb, lt_of_block hg⟩
theorem own_zero {w : World} {base : Nat} {e : TypeId} {v : Value} {n : Nat} {xs : List Value} (h : w.ownsRow base e 1 v n xs) (h0 : n = 0) : ∃ p c, v = .slice p 0 c := by
  rcases own_shape h with ⟨rfl, _⟩ | ⟨g, cap, rfl, _⟩
  · exact ⟨_, _, rfl⟩
  · exact ⟨_, _, by rw [h0]⟩
theorem own_pos {w : World} {base : Nat} {e : TypeId} {v : Value} {n : Nat} {xs : List Value} (h : w.ownsRow base e 1 v n xs) (h0 : 0 < n) : ∃ g cap, v = .slice (some ⟨g, 0, none⟩) n cap ∧ base ≤ g ∧ g < w.heap.size := by
  rcases own_shape h with ⟨_, h'⟩ | h'
  · omega
  · exact h'
theorem own_cell {w : World} {base : Nat} {e : TypeId} {g n cap : Nat} {xs : List ByteArray} (h : w.ownsRow base e 1 (.slice (some ⟨g, 0, none⟩) n cap) n (strCs xs)) (hn : xs.length = n) (j : Nat) (hj : j < n) : w.cell? ⟨g, j, none⟩ = some (.string (xs[j]'(by omega))) := by
  rw [h.cellAt j (by omega), strCs_get xs j (by omega)]
set_option maxHeartbeats 400000 in
theorem eqStrings_eq (w : World) (b1 b2 : Nat) (e1 e2 : TypeId) (v1 v2 : Value) (n : Nat) (xs : List ByteArray) (hn : xs.length = n) (hn' : n ≤ 1000000) (h1 : w.ownsRow b1 e1 1 v1 n (strCs xs)) (h2 : w.ownsRow b2 e2 1 v2 n (strCs xs)) :
    Calls Try.prog 20 #[v1, v2] w fun e w' => e = .returned (.bool true) ∧ Below w.heap.size w w' := by
  have HN := Lib.hid hn
  clear hn
  rcases Nat.eq_zero_or_pos n with h0 | h0
  · obtain ⟨p1, c1, rfl⟩ := own_zero h1 h0
    obtain ⟨p2, c2, rfl⟩ := own_zero h2 h0
    clear h1 h2 h0
    go_enter Try.func20, Try.ntmps20
    go_wp2
    refine wp_loop_rounds 1 ?_
    rw [rounds_succ]
    go_wp2
    go_ret
    exact ⟨rfl, Below.refl _ _⟩
  · obtain ⟨g1, c1, rfl, _, _⟩ := own_pos h1 h0
    obtain ⟨g2, c2, rfl, _, _⟩ := own_pos h2 h0
    have t0 : ((n : Int) != (n : Int)) = false := by simp
    go_enter Try.func20, Try.ntmps20
    go_wp2
    go_loopw [5] (fun i wr => ∃ k d : Nat, k ≤ n ∧ i = .int .i64 k ∧ wr = w.drewN d) (fun i _ => n - (intOf i).toNat)
    case atStart => exact ⟨0, 0, Nat.zero_le _, rfl, rfl⟩
    case round =>
      obtain ⟨k, d, hk, rfl, rfl⟩ := hrel
      by_cases hlt : k < n
      · have q1 := own_cell h1 HN.out k hlt
        have q2 := own_cell h2 HN.out k hlt
        have hl : k < xs.length := by have := HN.out; omega
        generalize xs[k] = s at q1 q2
        have q3 : (k : Int) < n := by omega
        go_wp2_with fail
        go_quiet (fail)
        go_wp2_with fail
        go_roundw
        case rel => exact ⟨k + 1, _, by omega, by go_num, rfl⟩
        case measure => simp [intOf]; omega
      · have q3 : ¬ (k : Int) < n := by omega
        go_wp2_with fail
        go_ret
        exact ⟨rfl, ⟨rfl, rfl, rfl, Nat.le_refl _, fun _ _ => rfl⟩⟩
/-- The marks k0, k0 + 1, .. -/
def marksFrom (k0 n : Nat) : List ByteArray := (List.range n).map fun t => markOf (k0 + t)
theorem marks_len (k0 n : Nat) : (marksFrom k0 n).length = n := by simp [marksFrom]
theorem marks_set (k0 j : Nat) (xs : List ByteArray) (h : j < xs.length) : (strCs (marksFrom k0 j ++ xs.drop j)).set j (.string (markOf (k0 + j))) = strCs (marksFrom k0 (j + 1) ++ xs.drop (j + 1)) := by
  have e1 : xs.drop j = xs[j] :: xs.drop (j + 1) := List.drop_eq_getElem_cons h
  have e2 : marksFrom k0 (j + 1) = marksFrom k0 j ++ [markOf (k0 + j)] := by simp [marksFrom, List.range_succ]
  rw [e1, e2]
  unfold strCs
  have e3 : j - (List.map Value.string (marksFrom k0 j)).length = 0 := by simp [marksFrom]
  rw [List.map_append, List.map_append, List.map_append, List.set_append_right _ _ (by simp [marksFrom]), e3, List.map_cons, List.set_cons_zero]
  simp
theorem grown_of_below {w w' : World} (h : Below w.heap.size w w') : w.grownBy w' none := ⟨h.os, h.tape, h.output, h.size, fun k hk _ => h.block k hk⟩
theorem own_below {w w' : World} {base : Nat} {e : TypeId} {v : Value} {n : Nat} {xs : List Value} (h : w.ownsRow base e 1 v n xs) (hb : Below w.heap.size w w') : w'.ownsRow base e 1 v n xs := by
  refine h.kept (grown_of_below hb) ?_
  cases v.ownBlock
  · exact .inl rfl
  · exact .inr (by simp)
set_option maxHeartbeats 400000 in
theorem markStrings_any (w : World) (base k0 : Nat) (e : TypeId) (v : Value) (n : Nat) (xs : List ByteArray) (hn : xs.length = n) (hn' : n ≤ 1000000) (hk0 : 0 < k0) (hk1 : k0 ≤ 1000000) (h : w.ownsRow base e 1 v n (strCs xs)) (hbs : base ≤ w.heap.size) :
    Calls Try.prog 21 #[v, .int .i64 k0] w fun en w' => en = .returned (.int .i64 ((k0 : Int) + n)) ∧ w'.ownsRow base e 1 v n (strCs (marksFrom k0 n)) ∧ Below base w w' := by
  have HN := Lib.hid hn
  clear hn
  rcases Nat.eq_zero_or_pos n with h0 | h0
  · obtain ⟨p1, c1, rfl⟩ := own_zero h h0
    subst h0
    have hx : xs = [] := List.eq_nil_of_length_eq_zero HN.out
    subst hx
    have HH := Lib.hid h
    clear h
    go_enter Try.func21, Try.ntmps21
    go_wp2
    refine wp_loop_rounds 1 ?_
    rw [rounds_succ]
    go_wp2
    go_ret
    exact ⟨ret_int (by omega), HH.out, Below.refl _ _⟩
  · obtain ⟨g, c, rfl, hg, hgl⟩ := own_pos h h0
    go_enter Try.func21, Try.ntmps21
    go_wp2
    go_loopw [1, 5] (fun k i wr => ∃ j : Nat, j ≤ n ∧ i = .int .i64 j ∧ k = .int .i64 ((k0 : Int) + j) ∧ wr.ownsRow base e 1 (.slice (some ⟨g, 0, none⟩) n c) n (strCs (marksFrom k0 j ++ xs.drop j)) ∧ Below base w wr) (fun _ i _ => n - (intOf i).toNat)
    case atStart => exact ⟨0, Nat.zero_le _, rfl, by simp, by simpa [marksFrom] using h, Below.refl _ _⟩
    case round =>
      obtain ⟨j, hj, rfl, rfl, hown, hb⟩ := hrel
      clear h
      by_cases hlt : j < n
      · have q3 : (j : Int) < n := by omega
        have hl : j < xs.length := by have := HN.out; omega
        have hml : (marksFrom k0 j ++ xs.drop j).length = n := by rw [List.length_append, marks_len, List.length_drop]; have := HN.out; omega
        have HML := Lib.hid hml
        clear hml
        go_wp2_with fail
        rw [show ((k0 : Int) + j) = ((k0 + j : Nat) : Int) from by omega]
        refine (markText_any (k0 + j) (by omega) (by omega) _).mono ?_
        rintro e1 w1 ⟨rfl, hb1⟩
        have hown1 := own_below hown hb1
        have q1 := own_cell hown1 HML.out j hlt
        have q2 := hown1.frozenAt j
        have R1 := (hown1.stored j (.string (markOf (k0 + j)))).1
        rw [marks_set k0 j xs hl] at R1
        have R2 : Below base w (w1.setCell ⟨g, j, none⟩ (.string (markOf (k0 + j)))) := (hb.trans (hb1.mono (Nat.le_trans hbs hb.size))).setCell (p := ⟨g, j, none⟩) hg _
        generalize (marksFrom k0 j ++ xs.drop j)[j]'(by have := HML.out; omega) = y at q1
        clear hown hown1 hb hb1
        go_wp2_with fail
        go_roundw
        case rel => exact ⟨j + 1, by omega, by go_num, by push_cast; go_num, R1, R2⟩
        case measure => simp [intOf]; omega
      · have q3 : ¬ (j : Int) < n := by omega
        obtain rfl : j = n := by omega
        go_wp2_with fail
        go_ret
        refine ⟨rfl, ?_, hb⟩
        rwa [List.drop_of_length_le (by have := HN.out; omega), List.append_nil] at hown
set_option maxHeartbeats 400000 in
theorem heldStrings_any (w : World) (base k0 : Nat) (e : TypeId) (v : Value) (n : Nat) (hn' : n ≤ 1000000) (hk0 : 0 < k0) (hk1 : k0 ≤ 1000000) (h : w.ownsRow base e 1 v n (strCs (marksFrom k0 n))) :
    Calls Try.prog 22 #[v, .int .i64 k0] w fun en w' => en = .returned (.int .i64 ((k0 : Int) + n)) ∧ Below w.heap.size w w' := by
  rcases Nat.eq_zero_or_pos n with h0 | h0
  · obtain ⟨p1, c1, rfl⟩ := own_zero h h0
    subst h0
    clear h
    go_enter Try.func22, Try.ntmps22
    go_wp2
    refine wp_loop_rounds 1 ?_
    rw [rounds_succ]
    go_wp2
    go_ret
    exact ⟨ret_int (by omega), Below.refl _ _⟩
  · obtain ⟨g, c, rfl, hg, hgl⟩ := own_pos h h0
    go_enter Try.func22, Try.ntmps22
    go_wp2
    go_loopw [1, 5] (fun k i wr => ∃ j : Nat, j ≤ n ∧ i = .int .i64 j ∧ k = .int .i64 ((k0 : Int) + j) ∧ Below w.heap.size w wr) (fun _ i _ => n - (intOf i).toNat)
    case atStart => exact ⟨0, Nat.zero_le _, rfl, by simp, Below.refl _ _⟩
    case round =>
      obtain ⟨j, hj, rfl, rfl, hb⟩ := hrel
      by_cases hlt : j < n
      · have q3 : (j : Int) < n := by omega
        have hown := own_below h hb
        have q1 : wr.cell? ⟨g, j, none⟩ = some (.string (markOf (k0 + j))) := by rw [own_cell hown (marks_len k0 n) j hlt]; simp [marksFrom]
        have hgr : g < wr.heap.size := Nat.lt_of_lt_of_le hgl hb.size
        generalize hmk : markOf (k0 + j) = mk at q1
        have HMK := Lib.hid hmk
        clear hmk h hown
        go_wp2_with fail
        go_region_held3 (fun w' => w'.cell? ⟨g, j, none⟩ = some (.string mk)) (first | exact q1 | assumption) (first | (go_at_call 33; rw [show ((k0 : Int) + j) = ((k0 + j : Nat) : Int) from by omega]; refine (markText_any (k0 + j) (by omega) (by omega) _).mono ?_; rintro e1 w1 ⟨rfl, hb1⟩; rw [HMK.out]; have q2 : w1.cell? ⟨g, j, none⟩ = some (.string mk) := (hb1.cell (p := ⟨g, j, none⟩) hgr).trans q1))
        go_wp2_with fail
        go_roundw
        case rel => exact ⟨j + 1, by omega, by go_num, by push_cast; go_num, by first | exact hb.trans (hb1.mono hb.size) | exact (hb.drew).trans (hb1.mono hb.size)⟩
        case measure => simp [intOf]; omega
      · have q3 : ¬ (j : Int) < n := by omega
        obtain rfl : j = n := by omega
        go_wp2_with fail
        go_ret
        exact ⟨rfl, hb⟩
end Go.Proofs.Ythkhoocnkjdabaa
