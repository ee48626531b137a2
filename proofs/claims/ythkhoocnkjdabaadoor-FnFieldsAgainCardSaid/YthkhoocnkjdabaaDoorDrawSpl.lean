/- Contracts of spec.l01Pick and spec.DrawSplitFields. -/
import Derived.Test.YthkhoocnkjdabaaDoorDrawStr
import Derived.Laws.Concat
namespace Go.Proofs.YthkhoocnkjdabaaDoor
open Go.RowKit
set_option linter.unusedVariables false
/-- What l01Pick leaves: one of the strings. -/
def DrawnP (T : TypeId) (W : World) (a : Option Addr) (len cap : Nat) (zs : List Int) (b : Nat) (w : World) (xs : List (List UInt8)) (e : Ending) (w' : World) : Prop :=
  ∃ l : List UInt8, l ∈ xs ∧ e = .returned (.string ⟨l.toArray⟩) ∧ Cur T W a len cap zs b w' ∧ w.grownBy w' (some b)
theorem pick_any {W : World} {a : Option Addr} {len cap : Nat} {zs : List Int} {b : Nat} {w : World} (hc : Cur 49 W a len cap zs b w) (L m cp : Nat) (xs : List (List UInt8)) (t : TypeId) (hm : xs.length = m) (h0 : 0 < m) (hm' : m ≤ 1000) (hL : L ≠ b)
    (hcs : w.heap[L]? = some (.cells (xs.map fun l => Value.string ⟨l.toArray⟩).toArray t (0, 0))) :
    Calls Tryd.prog 27 #[.pointer (some ⟨b, 0, none⟩), .slice (some ⟨L, 0, none⟩) m cp] w (DrawnP 49 W a len cap zs b w xs) := by
  have HM := Lib.hid hm
  have HCS := Lib.hid hcs
  clear hm hcs
  go_enter Tryd.func27, Tryd.ntmps27
  go_wp2_with fail
  refine (below_any hc _).mono ?_
  rintro e w1 ⟨x, ⟨hx0, _, hx1⟩, rfl, hc1, hg1⟩
  obtain ⟨j, rfl⟩ := Int.eq_ofNat_of_zero_le hx0
  have hj : j < m := by have := hx1 (by omega); omega
  have hq : (j : Int) < m := by omega
  clear hx0 hx1
  have hcell : w1.cell? ⟨L, j, none⟩ = some (.string ⟨(xs.getD j []).toArray⟩) := by
    have e1 : w1.heap[L]? = some (.cells (xs.map fun l => Value.string ⟨l.toArray⟩).toArray t (0, 0)) := (hg1.block L (lt_of_block HCS.out) (by simpa using hL)).trans HCS.out
    rw [cell_of_row w1 L j _ t _ e1]
    have hl := HM.out
    simp [List.getElem?_eq_getElem (show j < xs.length by omega)]
  have hmem : xs.getD j [] ∈ xs := by
    have hl := HM.out
    rw [List.getD_eq_getElem?_getD, List.getElem?_eq_getElem (by omega)]; exact List.getElem_mem _
  generalize xs.getD j [] = v at hcell hmem
  go_wp2_with fail
  go_ret
  exact ⟨v, hmem, rfl, hc1, hg1⟩
theorem str_app (x y : List UInt8) : Value.string (⟨x.toArray⟩ ++ ⟨y.toArray⟩) = Value.string ⟨(x ++ y).toArray⟩ := congrArg Value.string (ByteArray.mk_append_mk x y)
theorem longL_len (n x : Int) (h : 0 ≤ n) : ((longL n x).length : Int) = n := by unfold longL; rw [List.length_replicate]; omega
theorem conv_byte (y : Int) (h0 : 0 ≤ y) (h1 : y ≤ 255) (wr : World) : (convert 22 9 (.slice (some ⟨wr.heap.size, 0, none⟩) 1 1)).run Tryd.prog (wr.alloc (.cells #[.int .u8 y] 5)) = .ok (.string ⟨[UInt8.ofNat y.toNat].toArray⟩) (wr.alloc (.cells #[.int .u8 y] 5)) := by
  refine conv_own (l := [UInt8.ofNat y.toNat]) (base := 0) (e' := 5) (n := 1) Tryd.underlying22 Tryd.underlying5 Tryd.underlying9 ?_
  have e1 : Lib.byteCells [UInt8.ofNat y.toNat] = #[Value.int .u8 y].toList := by
    have : ((UInt8.ofNat y.toNat).toNat : Int) = y := by rw [UInt8.toNat_ofNat']; omega
    simp only [Lib.byteCells, List.map_cons, List.map_nil, this]
  rw [e1]
  exact World.ownsRow_lit wr _ 1 (Nat.zero_le _) (by unfold maxLen; omega) rfl
theorem Cur.below_more {T : TypeId} {W : World} {a : Option Addr} {len cap : Nat} {zs : List Int} {b : Nat} {w w' : World} (h : Cur T W a len cap zs b w) (hb : Below w.heap.size w w') : Cur T W a len cap zs b w' := by
  obtain ⟨i, x, hi, hc⟩ := h.cells
  exact ⟨h.row, h.below.trans (hb.mono h.below.size), h.ge, i, x, hi, (hb.block b h.lt).trans hc⟩
/-- A line of at most 2000 bytes; what was there is as it was. -/
def DrawnL (W : World) (e : Ending) (w' : World) : Prop := ∃ l : List UInt8, l.length ≤ 2000 ∧ e = .returned (.string ⟨l.toArray⟩) ∧ Below W.heap.size W w'
set_option maxHeartbeats 4000000 in
theorem drawSplit_any {W : World} {a : Option Addr} {len cap : Nat} {zs : List Int} (hr : IsRow .u8 W a len cap zs) :
    Calls Tryd.prog 14 #[.slice a len cap] W (DrawnL W) := by
  go_enter Tryd.func14, Tryd.ntmps14
  go_wp2_with fail
  refine (new_any hr).mono ?_
  rintro e w1 ⟨b, rfl, hc1⟩
  go_wp2_with fail
  refine (below_any hc1 _).mono ?_
  rintro e w2 ⟨y, ⟨hy0, _, hy1⟩, rfl, hc2, hg2⟩
  have hy2 := hy1 (by omega)
  obtain ⟨n, rfl⟩ := Int.eq_ofNat_of_zero_le hy0
  clear hy1 hy0 hc1 hg2
  go_wp2_with fail
  refine (once_any hc2 _).mono ?_
  rintro e w3 ⟨x, rfl, hc3, hg3⟩
  cases x
  · have hm : n ≤ 25 := by omega
    have hc0 := hc3
    clear hc2 hg3 hc3 hy2
    revert hc0 hm
    generalize n = m
    intro hm hc0
    go_wp2_with fail
    go_loopw [5, 6] (fun s i wr => ∃ (k : Nat) (l : List UInt8), k ≤ m ∧ l.length ≤ 8 * k ∧ i = .int .i64 k ∧ s = .string ⟨l.toArray⟩ ∧ Cur 49 W a len cap zs b wr) (fun _ i _ => m - (intOf i).toNat)
    case atStart => exact ⟨0, [], Nat.zero_le _, by simp, rfl, rfl, hc0⟩
    case round =>
      obtain ⟨k, l, hk, hl, rfl, rfl, hck⟩ := hrel
      clear hc0
      by_cases hlt : k < m
      · have q1 : (k : Int) < m := by omega
        by_cases hk0 : 0 < k
        · have q2 : (0 : Int) < k := by omega
          have hcs := hck
          clear hck
          go_wp2_with fail
          refine (below_any hcs _).mono ?_
          rintro e wp ⟨y, ⟨hy0, _, hy1⟩, rfl, hcp, hgp⟩
          have hy2 := hy1 (by omega)
          clear hy1 hcs
          go_wp2_with fail
          refine (below_any hcp _).mono ?_
          rintro e wq ⟨z, ⟨hz0, _, hz1⟩, rfl, hcq, hgq⟩
          have hz2 := hz1 (by omega)
          clear hz1 hcp hgp hgq
          obtain ⟨u, hu⟩ : ∃ u : Int, y * z = u := ⟨_, rfl⟩
          have hu0 : 0 ≤ u ∧ u ≤ 2 := by
            rcases (show y = 0 ∨ y = 1 from by omega) with h | h
            · subst h; omega
            · subst h; omega
          obtain ⟨hu0, hu1⟩ := hu0
          have hw : IntKind.i64.wrap u = u := IntWalk.i64_in _ ⟨by omega, by omega⟩
          have hw' : wrap64 u = u := IntWalk.wrap64_in _ ⟨by omega, by omega⟩
          go_wp2_with fail
          refine (long_any (1 + u) 32 _ (by omega) (by omega) (by omega) (by omega)).mono ?_
          rintro e wt ⟨rfl, hbt⟩
          have hcv := hcq.below_more hbt
          have ht : (longL (1 + u) 32).length ≤ 3 := by have := longL_len (1 + u) 32 (by omega); omega
          clear hcq hbt hu hw hw' hu0 hu1 hy0 hy2 hz0 hz2
          generalize longL (1 + u) 32 = t at ht ⊢
          go_wp2_with fail
          rw [str_app l t]
          have hl1 : (l ++ t).length ≤ 8 * k + 3 := by rw [List.length_append]; omega
          generalize l ++ t = l1 at hl1 ⊢
          clear ht hl
          go_loopw [5, 7] (fun s j wr => ∃ (j' : Nat) (l2 : List UInt8), j' ≤ 5 ∧ l2.length ≤ 8 * k + 3 + j' ∧ j = .int .i64 j' ∧ s = .string ⟨l2.toArray⟩ ∧ Cur 49 W a len cap zs b wr) (fun _ j _ => 5 - (intOf j).toNat)
          case atStart => exact ⟨0, l1, by omega, by omega, rfl, rfl, hcv⟩
          case round =>
            obtain ⟨j, l2, hj, hl2, rfl, rfl, hcj⟩ := hrel
            clear hcv hl1
            go_wp2_with fail
            refine (below_any hcj _).mono ?_
            rintro e wa ⟨y, ⟨hy0, _, hy1⟩, rfl, hca, hga⟩
            have hy2 := hy1 (by omega)
            clear hy1 hcj
            by_cases hle : (j : Int) ≤ y
            · go_wp2_with fail
              refine (below_any hca _).mono ?_
              rintro e wb ⟨z, ⟨hz0, _, hz1⟩, rfl, hcb, hgb⟩
              have hz2 := hz1 (by omega)
              clear hz1 hca hga hgb
              have hconv := conv_byte (33 + z) (by omega) (by omega) wb
              have q4 : IntKind.u8.wrap (33 + z) = 33 + z := IntWalk.u8_in _ ⟨by omega, by omega⟩
              generalize UInt8.ofNat (33 + z).toNat = ch at hconv
              go_wp2_with fail
              go_roundw
              case rel => exact ⟨j + 1, l2 ++ [ch], by omega, by simp; omega, by go_num, str_app l2 [ch], hcb.alloc _⟩
              case measure => simp [intOf]; omega
            · go_wp2_with fail
              go_roundw
              case rel => exact ⟨k + 1, l2, by omega, by omega, by go_num, rfl, hca⟩
              case measure => simp [intOf]; omega
        · have q2 : ¬ (0 : Int) < (k : Int) := by omega
          go_wp2_with fail
          refine (once_any hck _).mono ?_
          rintro e wo ⟨x, rfl, hco, hgo⟩
          clear hck hgo
          cases x
          · go_wp2_with fail
            have hl1 : l.length ≤ 8 * k + 3 := by omega
            have hcv := hco
            clear hco hl
            generalize l = l1 at hl1 ⊢
            go_loopw [5, 7] (fun s j wr => ∃ (j' : Nat) (l2 : List UInt8), j' ≤ 5 ∧ l2.length ≤ 8 * k + 3 + j' ∧ j = .int .i64 j' ∧ s = .string ⟨l2.toArray⟩ ∧ Cur 49 W a len cap zs b wr) (fun _ j _ => 5 - (intOf j).toNat)
            case atStart => exact ⟨0, l1, by omega, by omega, rfl, rfl, hcv⟩
            case round =>
              obtain ⟨j, l2, hj, hl2, rfl, rfl, hcj⟩ := hrel
              clear hcv hl1
              go_wp2_with fail
              refine (below_any hcj _).mono ?_
              rintro e wa ⟨y, ⟨hy0, _, hy1⟩, rfl, hca, hga⟩
              have hy2 := hy1 (by omega)
              clear hy1 hcj
              by_cases hle : (j : Int) ≤ y
              · go_wp2_with fail
                refine (below_any hca _).mono ?_
                rintro e wb ⟨z, ⟨hz0, _, hz1⟩, rfl, hcb, hgb⟩
                have hz2 := hz1 (by omega)
                clear hz1 hca hga hgb
                have hconv := conv_byte (33 + z) (by omega) (by omega) wb
                have q4 : IntKind.u8.wrap (33 + z) = 33 + z := IntWalk.u8_in _ ⟨by omega, by omega⟩
                generalize UInt8.ofNat (33 + z).toNat = ch at hconv
                go_wp2_with fail
                go_roundw
                case rel => exact ⟨j + 1, l2 ++ [ch], by omega, by simp; omega, by go_num, str_app l2 [ch], hcb.alloc _⟩
                case measure => simp [intOf]; omega
              · go_wp2_with fail
                go_roundw
                case rel => exact ⟨k + 1, l2, by omega, by omega, by go_num, rfl, hca⟩
                case measure => simp [intOf]; omega
          · have hcs := hco
            clear hco
            go_wp2_with fail
            refine (below_any hcs _).mono ?_
            rintro e wp ⟨y, ⟨hy0, _, hy1⟩, rfl, hcp, hgp⟩
            have hy2 := hy1 (by omega)
            clear hy1 hcs
            go_wp2_with fail
            refine (below_any hcp _).mono ?_
            rintro e wq ⟨z, ⟨hz0, _, hz1⟩, rfl, hcq, hgq⟩
            have hz2 := hz1 (by omega)
            clear hz1 hcp hgp hgq
            obtain ⟨u, hu⟩ : ∃ u : Int, y * z = u := ⟨_, rfl⟩
            have hu0 : 0 ≤ u ∧ u ≤ 2 := by
              rcases (show y = 0 ∨ y = 1 from by omega) with h | h
              · subst h; omega
              · subst h; omega
            obtain ⟨hu0, hu1⟩ := hu0
            have hw : IntKind.i64.wrap u = u := IntWalk.i64_in _ ⟨by omega, by omega⟩
            have hw' : wrap64 u = u := IntWalk.wrap64_in _ ⟨by omega, by omega⟩
            go_wp2_with fail
            refine (long_any (1 + u) 32 _ (by omega) (by omega) (by omega) (by omega)).mono ?_
            rintro e wt ⟨rfl, hbt⟩
            have hcv := hcq.below_more hbt
            have ht : (longL (1 + u) 32).length ≤ 3 := by have := longL_len (1 + u) 32 (by omega); omega
            clear hcq hbt hu hw hw' hu0 hu1 hy0 hy2 hz0 hz2
            generalize longL (1 + u) 32 = t at ht ⊢
            go_wp2_with fail
            rw [str_app l t]
            have hl1 : (l ++ t).length ≤ 8 * k + 3 := by rw [List.length_append]; omega
            generalize l ++ t = l1 at hl1 ⊢
            clear ht hl
            go_loopw [5, 7] (fun s j wr => ∃ (j' : Nat) (l2 : List UInt8), j' ≤ 5 ∧ l2.length ≤ 8 * k + 3 + j' ∧ j = .int .i64 j' ∧ s = .string ⟨l2.toArray⟩ ∧ Cur 49 W a len cap zs b wr) (fun _ j _ => 5 - (intOf j).toNat)
            case atStart => exact ⟨0, l1, by omega, by omega, rfl, rfl, hcv⟩
            case round =>
              obtain ⟨j, l2, hj, hl2, rfl, rfl, hcj⟩ := hrel
              clear hcv hl1
              go_wp2_with fail
              refine (below_any hcj _).mono ?_
              rintro e wa ⟨y, ⟨hy0, _, hy1⟩, rfl, hca, hga⟩
              have hy2 := hy1 (by omega)
              clear hy1 hcj
              by_cases hle : (j : Int) ≤ y
              · go_wp2_with fail
                refine (below_any hca _).mono ?_
                rintro e wb ⟨z, ⟨hz0, _, hz1⟩, rfl, hcb, hgb⟩
                have hz2 := hz1 (by omega)
                clear hz1 hca hga hgb
                have hconv := conv_byte (33 + z) (by omega) (by omega) wb
                have q4 : IntKind.u8.wrap (33 + z) = 33 + z := IntWalk.u8_in _ ⟨by omega, by omega⟩
                generalize UInt8.ofNat (33 + z).toNat = ch at hconv
                go_wp2_with fail
                go_roundw
                case rel => exact ⟨j + 1, l2 ++ [ch], by omega, by simp; omega, by go_num, str_app l2 [ch], hcb.alloc _⟩
                case measure => simp [intOf]; omega
              · go_wp2_with fail
                go_roundw
                case rel => exact ⟨k + 1, l2, by omega, by omega, by go_num, rfl, hca⟩
                case measure => simp [intOf]; omega
      · have q1 : ¬ (k : Int) < m := by omega
        go_wp2_with fail
        refine (below_any hck _).mono ?_
        rintro e we ⟨x, ⟨hx0, _, hx1⟩, rfl, hce, hge⟩
        have hx2 := hx1 (by omega)
        clear hx1 hck hge
        rcases (show x = 0 ∨ x = 1 ∨ 1 < x from by omega) with h | h | h
        · have t1 : (x == 0) = true := by simp; omega
          have hne : we.heap.size ≠ b := by have := hce.lt; omega
          clear h hx0 hx2
          go_wp2_with fail
          refine (pick_any (hce.alloc _) we.heap.size 6 6 [[32], [32, 32], [9], [10], [127], [233]] 9 rfl (by omega) (by omega) hne (heap_alloc_new we _)).mono ?_
          rintro e wf ⟨t, ht, rfl, hcf, hgf⟩
          have ht2 : t.length ≤ 2 := by
            simp only [List.mem_cons, List.not_mem_nil, or_false] at ht
            rcases ht with h | h | h | h | h | h <;> subst h <;> decide
          clear ht hgf
          go_wp2_with fail
          rw [str_app l t]
          go_ret
          exact ⟨l ++ t, by rw [List.length_append]; omega, rfl, hcf.below⟩
        · have t1 : (x == 0) = false := by simp; omega
          have t2 : (x == 1) = true := by simp; omega
          have q3 : (l.length : Int) < 600 := by omega
          clear h hx0 hx2
          go_wp2_with fail
          refine (below_any hce _).mono ?_
          rintro e wf ⟨y, ⟨hy0, _, hy1⟩, rfl, hcf, hgf⟩
          have hy2 := hy1 (by omega)
          clear hy1 hce hgf
          go_wp2_with fail
          refine (long_any (600 - l.length + y) 32 _ (by omega) (by omega) (by omega) (by omega)).mono ?_
          rintro e wg ⟨rfl, hbg⟩
          have hcg := hcf.below_more hbg
          have ht : (longL (600 - l.length + y) 32).length ≤ 601 := by have := longL_len (600 - l.length + y) 32 (by omega); omega
          clear hcf hbg
          generalize longL (600 - l.length + y) 32 = t at ht ⊢
          go_wp2_with fail
          rw [str_app l t]
          go_ret
          exact ⟨l ++ t, by rw [List.length_append]; omega, rfl, hcg.below⟩
        · have t1 : (x == 0) = false := by simp; omega
          have t2 : (x == 1) = false := by simp; omega
          clear h hx0 hx2
          go_wp2_with fail
          go_ret
          exact ⟨l, by omega, rfl, hce.below⟩
  · go_wp2_with fail
    refine (below_any hc3 _).mono ?_
    rintro e w4 ⟨z, ⟨hz0, _, hz1⟩, rfl, hc4, hg4⟩
    have hz2 := hz1 (by omega)
    obtain ⟨n2, rfl⟩ := Int.eq_ofNat_of_zero_le hz0
    have hm : 24 + n2 ≤ 25 := by omega
    have hc0 := hc4
    clear hz1 hz0 hz2 hy2 hc4 hc3 hc2 hg3 hg4
    go_wp2_with fail
    rw [show (24 : Int) + (n2 : Int) = ((24 + n2 : Nat) : Int) from by omega]
    generalize 24 + n2 = m at hm ⊢
    go_loopw [5, 6] (fun s i wr => ∃ (k : Nat) (l : List UInt8), k ≤ m ∧ l.length ≤ 8 * k ∧ i = .int .i64 k ∧ s = .string ⟨l.toArray⟩ ∧ Cur 49 W a len cap zs b wr) (fun _ i _ => m - (intOf i).toNat)
    case atStart => exact ⟨0, [], Nat.zero_le _, by simp, rfl, rfl, hc0⟩
    case round =>
      obtain ⟨k, l, hk, hl, rfl, rfl, hck⟩ := hrel
      clear hc0
      by_cases hlt : k < m
      · have q1 : (k : Int) < m := by omega
        by_cases hk0 : 0 < k
        · have q2 : (0 : Int) < k := by omega
          have hcs := hck
          clear hck
          go_wp2_with fail
          refine (below_any hcs _).mono ?_
          rintro e wp ⟨y, ⟨hy0, _, hy1⟩, rfl, hcp, hgp⟩
          have hy2 := hy1 (by omega)
          clear hy1 hcs
          go_wp2_with fail
          refine (below_any hcp _).mono ?_
          rintro e wq ⟨z, ⟨hz0, _, hz1⟩, rfl, hcq, hgq⟩
          have hz2 := hz1 (by omega)
          clear hz1 hcp hgp hgq
          obtain ⟨u, hu⟩ : ∃ u : Int, y * z = u := ⟨_, rfl⟩
          have hu0 : 0 ≤ u ∧ u ≤ 2 := by
            rcases (show y = 0 ∨ y = 1 from by omega) with h | h
            · subst h; omega
            · subst h; omega
          obtain ⟨hu0, hu1⟩ := hu0
          have hw : IntKind.i64.wrap u = u := IntWalk.i64_in _ ⟨by omega, by omega⟩
          have hw' : wrap64 u = u := IntWalk.wrap64_in _ ⟨by omega, by omega⟩
          go_wp2_with fail
          refine (long_any (1 + u) 32 _ (by omega) (by omega) (by omega) (by omega)).mono ?_
          rintro e wt ⟨rfl, hbt⟩
          have hcv := hcq.below_more hbt
          have ht : (longL (1 + u) 32).length ≤ 3 := by have := longL_len (1 + u) 32 (by omega); omega
          clear hcq hbt hu hw hw' hu0 hu1 hy0 hy2 hz0 hz2
          generalize longL (1 + u) 32 = t at ht ⊢
          go_wp2_with fail
          rw [str_app l t]
          have hl1 : (l ++ t).length ≤ 8 * k + 3 := by rw [List.length_append]; omega
          generalize l ++ t = l1 at hl1 ⊢
          clear ht hl
          go_loopw [5, 7] (fun s j wr => ∃ (j' : Nat) (l2 : List UInt8), j' ≤ 5 ∧ l2.length ≤ 8 * k + 3 + j' ∧ j = .int .i64 j' ∧ s = .string ⟨l2.toArray⟩ ∧ Cur 49 W a len cap zs b wr) (fun _ j _ => 5 - (intOf j).toNat)
          case atStart => exact ⟨0, l1, by omega, by omega, rfl, rfl, hcv⟩
          case round =>
            obtain ⟨j, l2, hj, hl2, rfl, rfl, hcj⟩ := hrel
            clear hcv hl1
            go_wp2_with fail
            refine (below_any hcj _).mono ?_
            rintro e wa ⟨y, ⟨hy0, _, hy1⟩, rfl, hca, hga⟩
            have hy2 := hy1 (by omega)
            clear hy1 hcj
            by_cases hle : (j : Int) ≤ y
            · go_wp2_with fail
              refine (below_any hca _).mono ?_
              rintro e wb ⟨z, ⟨hz0, _, hz1⟩, rfl, hcb, hgb⟩
              have hz2 := hz1 (by omega)
              clear hz1 hca hga hgb
              have hconv := conv_byte (33 + z) (by omega) (by omega) wb
              have q4 : IntKind.u8.wrap (33 + z) = 33 + z := IntWalk.u8_in _ ⟨by omega, by omega⟩
              generalize UInt8.ofNat (33 + z).toNat = ch at hconv
              go_wp2_with fail
              go_roundw
              case rel => exact ⟨j + 1, l2 ++ [ch], by omega, by simp; omega, by go_num, str_app l2 [ch], hcb.alloc _⟩
              case measure => simp [intOf]; omega
            · go_wp2_with fail
              go_roundw
              case rel => exact ⟨k + 1, l2, by omega, by omega, by go_num, rfl, hca⟩
              case measure => simp [intOf]; omega
        · have q2 : ¬ (0 : Int) < (k : Int) := by omega
          go_wp2_with fail
          refine (once_any hck _).mono ?_
          rintro e wo ⟨x, rfl, hco, hgo⟩
          clear hck hgo
          cases x
          · go_wp2_with fail
            have hl1 : l.length ≤ 8 * k + 3 := by omega
            have hcv := hco
            clear hco hl
            generalize l = l1 at hl1 ⊢
            go_loopw [5, 7] (fun s j wr => ∃ (j' : Nat) (l2 : List UInt8), j' ≤ 5 ∧ l2.length ≤ 8 * k + 3 + j' ∧ j = .int .i64 j' ∧ s = .string ⟨l2.toArray⟩ ∧ Cur 49 W a len cap zs b wr) (fun _ j _ => 5 - (intOf j).toNat)
            case atStart => exact ⟨0, l1, by omega, by omega, rfl, rfl, hcv⟩
            case round =>
              obtain ⟨j, l2, hj, hl2, rfl, rfl, hcj⟩ := hrel
              clear hcv hl1
              go_wp2_with fail
              refine (below_any hcj _).mono ?_
              rintro e wa ⟨y, ⟨hy0, _, hy1⟩, rfl, hca, hga⟩
              have hy2 := hy1 (by omega)
              clear hy1 hcj
              by_cases hle : (j : Int) ≤ y
              · go_wp2_with fail
                refine (below_any hca _).mono ?_
                rintro e wb ⟨z, ⟨hz0, _, hz1⟩, rfl, hcb, hgb⟩
                have hz2 := hz1 (by omega)
                clear hz1 hca hga hgb
                have hconv := conv_byte (33 + z) (by omega) (by omega) wb
                have q4 : IntKind.u8.wrap (33 + z) = 33 + z := IntWalk.u8_in _ ⟨by omega, by omega⟩
                generalize UInt8.ofNat (33 + z).toNat = ch at hconv
                go_wp2_with fail
                go_roundw
                case rel => exact ⟨j + 1, l2 ++ [ch], by omega, by simp; omega, by go_num, str_app l2 [ch], hcb.alloc _⟩
                case measure => simp [intOf]; omega
              · go_wp2_with fail
                go_roundw
                case rel => exact ⟨k + 1, l2, by omega, by omega, by go_num, rfl, hca⟩
                case measure => simp [intOf]; omega
          · have hcs := hco
            clear hco
            go_wp2_with fail
            refine (below_any hcs _).mono ?_
            rintro e wp ⟨y, ⟨hy0, _, hy1⟩, rfl, hcp, hgp⟩
            have hy2 := hy1 (by omega)
            clear hy1 hcs
            go_wp2_with fail
            refine (below_any hcp _).mono ?_
            rintro e wq ⟨z, ⟨hz0, _, hz1⟩, rfl, hcq, hgq⟩
            have hz2 := hz1 (by omega)
            clear hz1 hcp hgp hgq
            obtain ⟨u, hu⟩ : ∃ u : Int, y * z = u := ⟨_, rfl⟩
            have hu0 : 0 ≤ u ∧ u ≤ 2 := by
              rcases (show y = 0 ∨ y = 1 from by omega) with h | h
              · subst h; omega
              · subst h; omega
            obtain ⟨hu0, hu1⟩ := hu0
            have hw : IntKind.i64.wrap u = u := IntWalk.i64_in _ ⟨by omega, by omega⟩
            have hw' : wrap64 u = u := IntWalk.wrap64_in _ ⟨by omega, by omega⟩
            go_wp2_with fail
            refine (long_any (1 + u) 32 _ (by omega) (by omega) (by omega) (by omega)).mono ?_
            rintro e wt ⟨rfl, hbt⟩
            have hcv := hcq.below_more hbt
            have ht : (longL (1 + u) 32).length ≤ 3 := by have := longL_len (1 + u) 32 (by omega); omega
            clear hcq hbt hu hw hw' hu0 hu1 hy0 hy2 hz0 hz2
            generalize longL (1 + u) 32 = t at ht ⊢
            go_wp2_with fail
            rw [str_app l t]
            have hl1 : (l ++ t).length ≤ 8 * k + 3 := by rw [List.length_append]; omega
            generalize l ++ t = l1 at hl1 ⊢
            clear ht hl
            go_loopw [5, 7] (fun s j wr => ∃ (j' : Nat) (l2 : List UInt8), j' ≤ 5 ∧ l2.length ≤ 8 * k + 3 + j' ∧ j = .int .i64 j' ∧ s = .string ⟨l2.toArray⟩ ∧ Cur 49 W a len cap zs b wr) (fun _ j _ => 5 - (intOf j).toNat)
            case atStart => exact ⟨0, l1, by omega, by omega, rfl, rfl, hcv⟩
            case round =>
              obtain ⟨j, l2, hj, hl2, rfl, rfl, hcj⟩ := hrel
              clear hcv hl1
              go_wp2_with fail
              refine (below_any hcj _).mono ?_
              rintro e wa ⟨y, ⟨hy0, _, hy1⟩, rfl, hca, hga⟩
              have hy2 := hy1 (by omega)
              clear hy1 hcj
              by_cases hle : (j : Int) ≤ y
              · go_wp2_with fail
                refine (below_any hca _).mono ?_
                rintro e wb ⟨z, ⟨hz0, _, hz1⟩, rfl, hcb, hgb⟩
                have hz2 := hz1 (by omega)
                clear hz1 hca hga hgb
                have hconv := conv_byte (33 + z) (by omega) (by omega) wb
                have q4 : IntKind.u8.wrap (33 + z) = 33 + z := IntWalk.u8_in _ ⟨by omega, by omega⟩
                generalize UInt8.ofNat (33 + z).toNat = ch at hconv
                go_wp2_with fail
                go_roundw
                case rel => exact ⟨j + 1, l2 ++ [ch], by omega, by simp; omega, by go_num, str_app l2 [ch], hcb.alloc _⟩
                case measure => simp [intOf]; omega
              · go_wp2_with fail
                go_roundw
                case rel => exact ⟨k + 1, l2, by omega, by omega, by go_num, rfl, hca⟩
                case measure => simp [intOf]; omega
      · have q1 : ¬ (k : Int) < m := by omega
        go_wp2_with fail
        refine (below_any hck _).mono ?_
        rintro e we ⟨x, ⟨hx0, _, hx1⟩, rfl, hce, hge⟩
        have hx2 := hx1 (by omega)
        clear hx1 hck hge
        rcases (show x = 0 ∨ x = 1 ∨ 1 < x from by omega) with h | h | h
        · have t1 : (x == 0) = true := by simp; omega
          have hne : we.heap.size ≠ b := by have := hce.lt; omega
          clear h hx0 hx2
          go_wp2_with fail
          refine (pick_any (hce.alloc _) we.heap.size 6 6 [[32], [32, 32], [9], [10], [127], [233]] 9 rfl (by omega) (by omega) hne (heap_alloc_new we _)).mono ?_
          rintro e wf ⟨t, ht, rfl, hcf, hgf⟩
          have ht2 : t.length ≤ 2 := by
            simp only [List.mem_cons, List.not_mem_nil, or_false] at ht
            rcases ht with h | h | h | h | h | h <;> subst h <;> decide
          clear ht hgf
          go_wp2_with fail
          rw [str_app l t]
          go_ret
          exact ⟨l ++ t, by rw [List.length_append]; omega, rfl, hcf.below⟩
        · have t1 : (x == 0) = false := by simp; omega
          have t2 : (x == 1) = true := by simp; omega
          have q3 : (l.length : Int) < 600 := by omega
          clear h hx0 hx2
          go_wp2_with fail
          refine (below_any hce _).mono ?_
          rintro e wf ⟨y, ⟨hy0, _, hy1⟩, rfl, hcf, hgf⟩
          have hy2 := hy1 (by omega)
          clear hy1 hce hgf
          go_wp2_with fail
          refine (long_any (600 - l.length + y) 32 _ (by omega) (by omega) (by omega) (by omega)).mono ?_
          rintro e wg ⟨rfl, hbg⟩
          have hcg := hcf.below_more hbg
          have ht : (longL (600 - l.length + y) 32).length ≤ 601 := by have := longL_len (600 - l.length + y) 32 (by omega); omega
          clear hcf hbg
          generalize longL (600 - l.length + y) 32 = t at ht ⊢
          go_wp2_with fail
          rw [str_app l t]
          go_ret
          exact ⟨l ++ t, by rw [List.length_append]; omega, rfl, hcg.below⟩
        · have t1 : (x == 0) = false := by simp; omega
          have t2 : (x == 1) = false := by simp; omega
          clear h hx0 hx2
          go_wp2_with fail
          go_ret
          exact ⟨l, by omega, rfl, hce.below⟩
end Go.Proofs.YthkhoocnkjdabaaDoor
