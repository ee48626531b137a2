/- Contracts of spec.l02Big and spec.DrawBigs. -/
import Derived.Test.YtpagmeekbdiaoaaDoorPickWalks
import Derived.Test.YtpagmeekbdiaoaaDoorSTimesWalks
import Derived.Test.YtpagmeekbdiaoaaDoorBigsMath
namespace Go.Proofs.YtpagmeekbdiaoaaDoor
open Go.RowKit
set_option linter.unusedVariables false
theorem Cur.keep {T : TypeId} {W : World} {a : Option Addr} {len cap : Nat} {zs : List Int} {b : Nat} {w w' : World} (h : Cur T W a len cap zs b w) (hb : Below w.heap.size w w') : Cur T W a len cap zs b w' := by
  obtain ⟨i, x, hi, hc⟩ := h.cells
  exact ⟨h.row, h.below.trans (hb.mono h.below.size), h.ge, i, x, hi, (hb.block b h.lt).trans hc⟩
theorem grown_keep {w w' : World} {r : Option Nat} (hb : Below w.heap.size w w') : w.grownBy w' r := ⟨hb.os, hb.tape, hb.output, hb.size, fun k hk _ => hb.block k hk⟩
theorem own_draw {w w' : World} {B : Nat} {e : TypeId} {v : Value} {n : Nat} {xs : List Value} {b : Nat} (h : w.ownsRow B e 1 v n xs) (hg : w.grownBy w' (some b)) (hb : b < B) : w'.ownsRow B e 1 v n xs := by
  refine h.kept hg ?_
  rcases own_shape h with ⟨rfl, _⟩ | ⟨g, cap, rfl, hB, _⟩
  · exact .inl rfl
  · exact .inr (by simp [Value.ownBlock]; omega)
/-- What l02Big leaves: a valid large number of at most six groups in memory of its own, the cursor, and nothing else changed. -/
def DrawnBig (TI : TypeId) (T : TypeId) (W : World) (a : Option Addr) (len cap : Nat) (zs : List Int) (b : Nat) (w : World) (e : Ending) (w' : World) : Prop :=
  ∃ (v : Value) (xs : List Int), OkB xs ∧ xs.length ≤ 6 ∧ e = .returned v ∧ w'.ownsRow w.heap.size TI 1 v xs.length (intCs xs) ∧ Cur T W a len cap zs b w' ∧ w.grownBy w' (some b)
set_option maxHeartbeats 1000000 in
theorem big_any2 {W : World} {a : Option Addr} {len cap : Nat} {zs : List Int} {b : Nat} {w : World} (hc : Cur 78 W a len cap zs b w) :
    Calls Tryd.prog 37 #[.pointer (some ⟨b, 0, none⟩)] w (DrawnBig 3 78 W a len cap zs b w) := by
  have hlt := hc.lt
  have HC := Lib.hid hc
  clear hc
  go_enter Tryd.func37, Tryd.ntmps37
  go_wp2_with fail
  refine (below_any HC.out _).mono ?_
  rintro e w1 ⟨x1, hx1, rfl, hc1, hg1⟩
  have k1 : 0 ≤ x1 ∧ x1 < 1000000 := ⟨hx1.1, hx1.2.2 (by omega)⟩
  obtain ⟨k10, k11⟩ := k1
  have HC1 := Lib.hid hc1
  have HG1 := Lib.hid hg1
  have hne : w1.heap.size ≠ b := by have := hc1.lt; omega
  have HNE := Lib.hid hne
  clear hx1 hc1 hg1 hne
  go_wp2_with fail
  refine (pickInt_any (HC1.out.alloc _) w1.heap.size 5 5 [0, 1, 9999, 10000, x1] 3 rfl (by omega) (by omega) HNE.out (heap_alloc_new w1 _)).mono ?_
  rintro e w2 ⟨x2, hx2, rfl, hc2, hg2⟩
  have k2 : 0 ≤ x2 ∧ x2 < 1000000 := by simp only [List.mem_cons, List.not_mem_nil, or_false] at hx2; omega
  obtain ⟨k20, k21⟩ := k2
  have HC2 := Lib.hid hc2
  have HG2 := Lib.hid (grown_trans HG1.out (grown_alloc_first hg2))
  clear hx2 hc2 hg2 HC1 HG1 HNE k10 k11
  go_wp2_with fail
  refine (sof_any x2 (by omega) _).mono ?_
  rintro e w3 ⟨v3, rfl, o3, b3⟩
  obtain ⟨ok3, l3⟩ := ofB_ok x2.toNat (by omega)
  have HC3 := Lib.hid (HC2.out.keep b3)
  have HG3 := Lib.hid (grown_trans HG2.out (grown_keep b3))
  have O3 := Lib.hid (own_lower o3 HG2.out.size)
  have OK3 := Lib.hid ok3
  clear o3 b3 ok3 HC2 HG2 k20 k21
  generalize ofB x2.toNat = xs3 at O3 OK3 l3
  go_wp2_with fail
  refine (below_any HC3.out _).mono ?_
  rintro e w4 ⟨x4, hx4, rfl, hc4, hg4⟩
  have k4 : 0 ≤ x4 ∧ x4 < 5 := ⟨hx4.1, hx4.2.2 (by omega)⟩
  obtain ⟨k40, k41⟩ := k4
  obtain ⟨n, rfl⟩ := Int.eq_ofNat_of_zero_le k40
  have HC4 := Lib.hid hc4
  have HG4 := Lib.hid (grown_trans HG3.out hg4)
  have O4 := Lib.hid (own_draw O3.out hg4 hlt)
  clear hx4 hc4 hg4 HC3 HG3 O3
  go_wp2_with fail
  go_loopw [3, 5] (fun s i wr => ∃ k : Nat, ∃ xs : List Int, k ≤ n ∧ i = .int .i64 k ∧ OkB xs ∧ xs.length ≤ 2 + k ∧ wr.ownsRow w.heap.size 3 1 s xs.length (intCs xs) ∧ Cur 78 W a len cap zs b wr ∧ w.grownBy wr (some b)) (fun _ i _ => n - (intOf i).toNat)
  case atStart => exact ⟨0, xs3, Nat.zero_le _, rfl, OK3.out, l3, O4.out, HC4.out, HG4.out⟩
  case round =>
    obtain ⟨k, xs, hk, rfl, ok, hl, ho, hcu, hgr⟩ := hrel
    have OK := Lib.hid ok
    have O := Lib.hid ho
    have C := Lib.hid hcu
    have G := Lib.hid hgr
    clear ok ho hcu hgr
    by_cases hlt2 : k < n
    · have q3 : (k : Int) < n := by omega
      go_wp2_with fail
      refine (below_any C.out _).mono ?_
      rintro e w5 ⟨x5, hx5, rfl, hc5, hg5⟩
      have k5 : 0 ≤ x5 ∧ x5 < 999 := ⟨hx5.1, hx5.2.2 (by omega)⟩
      obtain ⟨k50, k51⟩ := k5
      have C5 := Lib.hid hc5
      have G5 := Lib.hid (grown_trans G.out hg5)
      have O5 := Lib.hid (own_draw O.out hg5 hlt)
      clear hx5 hc5 hg5 O C G
      go_wp2_with fail
      refine (stimesBig_any _ _ _ _ xs (1 + x5) (by omega) O5.out).mono ?_
      rintro e w6 ⟨v6, rfl, o6, b6⟩
      obtain ⟨e6, ok6, l6⟩ := times_short (n := 1 + x5) OK.out (by omega) (by omega) (by omega)
      rw [e6] at o6 ⊢
      have C6 := Lib.hid (C5.out.keep b6)
      have G6 := Lib.hid (grown_trans G5.out (grown_keep b6))
      have O6 := Lib.hid (own_lower o6 G5.out.size)
      have OK6 := Lib.hid ok6
      clear o6 b6 ok6 e6 C5 G5 O5
      go_wp2_with fail
      go_roundw
      case rel => exact ⟨k + 1, _, by omega, by go_num, OK6.out, by omega, O6.out, C6.out, G6.out⟩
      case measure => first | (simp [intOf]; done) | (simp [intOf]; omega)
    · have q3 : ¬ (k : Int) < n := by omega
      go_wp2_with fail
      go_ret
      exact ⟨_, xs, OK.out, by omega, rfl, O.out, C.out, G.out⟩
/-- What DrawBigs leaves. -/
def DrawnBigs (TI : TypeId) (W : World) (e : Ending) (w' : World) : Prop :=
  ∃ (v v' : Value) (xs ys : List Int), OkB xs ∧ xs.length ≤ 6 ∧ OkB ys ∧ ys.length ≤ 6 ∧ e = .returned (.tuple #[v, v']) ∧ w'.ownsRow W.heap.size TI 1 v xs.length (intCs xs) ∧ w'.ownsRow W.heap.size TI 1 v' ys.length (intCs ys) ∧ Below W.heap.size W w'
set_option maxHeartbeats 1000000 in
theorem drawBigs_any {W : World} {a : Option Addr} {len cap : Nat} {zs : List Int} (hr : IsRow .u8 W a len cap zs) :
    Calls Tryd.prog 10 #[.slice a len cap] W (DrawnBigs 3 W) := by
  have HR := Lib.hid hr
  clear hr
  go_enter Tryd.func10, Tryd.ntmps10
  go_wp2_with fail
  refine (new_any HR.out).mono ?_
  rintro e w1 ⟨b, rfl, hc1⟩
  have HC1 := Lib.hid hc1
  clear hc1
  go_wp2_with fail
  refine (big_any2 HC1.out).mono ?_
  rintro e w2 ⟨v2, xs, ok2, l2, rfl, o2, hc2, hg2⟩
  have HC2 := Lib.hid hc2
  have O2 := Lib.hid o2
  have OK2 := Lib.hid ok2
  clear hc2 o2 ok2 hg2
  go_wp2_with fail
  refine (big_any2 HC2.out).mono ?_
  rintro e w3 ⟨v3, ys, ok3, l3, rfl, o3, hc3, hg3⟩
  have O23 := Lib.hid (own_draw O2.out hg3 HC1.out.lt)
  have O3 := Lib.hid o3
  have OK3 := Lib.hid ok3
  have HC3 := Lib.hid hc3
  clear hc3 o3 ok3 hg3
  go_wp2_with fail
  go_ret2
  exact ⟨v2, v3, xs, ys, OK2.out, l2, OK3.out, l3, rfl, own_lower O23.out HC1.out.below.size, own_lower O3.out HC2.out.below.size, HC3.out.below⟩
end Go.Proofs.YtpagmeekbdiaoaaDoor
