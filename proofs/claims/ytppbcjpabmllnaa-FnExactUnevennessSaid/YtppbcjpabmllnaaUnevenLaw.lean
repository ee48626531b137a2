/- The walk of laws.FnExactUnevenness. -/
import Derived.Test.YtppbcjpabmllnaaSEven
import Derived.Test.YtppbcjpabmllnaaEvenImpl
import Derived.Test.YtppbcjpabmllnaaScRows
import Derived.Deep.RegionWith
namespace Go.Proofs.Ytppbcjpabmllnaa
open Go.RowKit Go.Joins
set_option linter.unusedVariables false
set_option maxRecDepth 100000 in
set_option maxHeartbeats 4000000 in
theorem walk_UnevennessBy (II : UnevenImpl) (a : Option Addr) (len cap : Nat) (zs : List Int) (w : World) (hr : IsRow .i64 w a len cap zs) :
    Calls Try.prog 7 #[cirV (.slice a len cap)] w fun e w' => e = .returned (.bool true) ∧ Below w.heap.size w w' := by
  have HL := Lib.hid (row_len hr)
  have HR := Lib.hid hr
  have hl' := HL.out.2
  obtain ⟨n, hn⟩ : ∃ n, n = w.heap.size := ⟨_, rfl⟩
  have HN := Lib.hid hn
  have C0 : Hid (One n (.slice a len cap) (w.alloc (.cells #[.slice a len cap] 38))) := Lib.hid (by rw [hn]; exact one_alloc)
  have B0 := Lib.hid (below_alloc1 w (.cells #[.slice a len cap] 38))
  clear hr
  go_enter Try.func7, Try.ntmps7
  go_upto_region 1 with fail
  obtain ⟨W0, hW⟩ : ∃ W, W = w.alloc (.cells #[.slice a len cap] 38) := ⟨_, rfl⟩
  rw [← hW] at C0 B0 ⊢
  rw [← hn]
  clear hW hn
  obtain ⟨_, c0, _⟩ := C0.out
  by_cases h1 : 1048576 < len
  · go_wp2_with fail
    refine (szSc_high a len cap _ h1 hl').mono ?_
    rintro e w1 ⟨rfl, b1⟩
    go_wp2_with fail
    go_ret
    exact ⟨rfl, B0.out.trans (b1.mono B0.out.size)⟩
  · obtain ⟨xs, hxs⟩ : ∃ xs, xs = zs.take len := ⟨_, rfl⟩
    have HX := Lib.hid hxs
    have HLEN := Lib.hid (show xs.length ≤ 2000000 from by have := HL.out.1; rw [hxs]; omega)
    have hl1 : len ≤ 1048576 := by omega
    have hl2 : ¬ (1048576 : Int) - len < 0 := by omega
    obtain ⟨y, hat⟩ := unAt_ex xs
    have HA := Lib.hid hat
    clear hxs h1 hat
    go_wp2_with fail
    refine (szSc_low a len cap _ hl1).mono ?_
    rintro e w1 ⟨rfl, b1⟩
    have C1 := Lib.hid (one_keep b1 C0.out)
    have B1 := Lib.hid (B0.out.trans (b1.mono B0.out.size))
    clear c0 C0 B0 b1
    obtain ⟨_, c0, _⟩ := C1.out
    go_wp2_with fail
    refine (calls_toSc (Below.refl _ _) (HR.out.below B1.out) hl1 HX).mono ?_
    rintro e w2 ⟨v2, rfl, o2, b2⟩
    have C2 := Lib.hid (one_keep b2 C1.out)
    have B2 := Lib.hid (B1.out.trans (b2.mono B1.out.size))
    clear c0 C1 B1 b2
    go_wp2_with fail
    refine (uneven_spec HA.out _ _ _ v2 HLEN.out o2).mono ?_
    rintro e w3 ⟨rfl, b3⟩
    have C3 := Lib.hid (one_keep b3 C2.out)
    have B3 := Lib.hid (B2.out.trans (b3.mono B2.out.size))
    clear C2 B2 b3 o2
    obtain ⟨_, c0, _⟩ := C3.out
    go_wp2_with fail
    refine (calls_toSc (Below.refl _ _) (HR.out.below B3.out) hl1 HX).mono ?_
    rintro e w4 ⟨v4, rfl, o4, b4⟩
    have C4 := Lib.hid (one_keep b4 C3.out)
    have B4 := Lib.hid (B3.out.trans (b4.mono B3.out.size))
    obtain ⟨l, hl⟩ : ∃ l, l = xs.length := ⟨_, rfl⟩
    rw [← hl] at o4
    obtain ⟨p, c, rfl⟩ := own_slice o4
    have C5 := Lib.hid (one_alloc (w := w4) (v := .slice p l c) (t := 26))
    have O5 := Lib.hid (own_below o4 (below_alloc1 w4 (.cells #[.slice p l c] 26)))
    have C4' := Lib.hid (one_al (o := .cells #[.slice p l c] 26) C4.out)
    have B5 := Lib.hid (B4.out.alloc B4.out.size (.cells #[.slice p l c] 26))
    clear c0 C3 B3 b4 o4 C4 B4
    have HLL := Lib.hid hl
    clear hl
    go_upto_region 7 with fail
    obtain ⟨W5, hW⟩ : ∃ W, W = w4.alloc (.cells #[.slice p l c] 26) := ⟨_, rfl⟩
    obtain ⟨m, hm⟩ : ∃ m, m = w4.heap.size := ⟨_, rfl⟩
    rw [← hW] at C5 O5 C4' B5 ⊢
    rw [← hm] at C5 ⊢
    clear hW hm
    obtain ⟨_, c5, _⟩ := C5.out
    go_wp2_with fail
    have O6 := Lib.hid (own_eq O5.out (rfl : xs = xs) HLL.out)
    refine ((II _ _) HA.out _ _ _ _ HLEN.out O6.out).mono ?_
    rintro e w6 ⟨rfl, b6⟩
    have C6 := Lib.hid (one_keep b6 C5.out)
    have C7 := Lib.hid (one_keep b6 C4'.out)
    have B6 := Lib.hid (B5.out.trans (b6.mono B5.out.size))
    have O7 := Lib.hid (own_below O6.out b6)
    have HR6 := Lib.hid (HR.out.below B6.out)
    have t0 : (y != y) = false := by simp
    clear c5 C5 C4' B5 O5 O6 b6 HR
    obtain ⟨_, c0, _⟩ := C7.out
    obtain ⟨_, c5, _⟩ := C6.out
    go_upto_region 10 with fail
    go_region_with (first
      | (go_at_call 27; refine (calls_toSc (W := w6) (by with_reducible first | assumption | exact (Below.refl _ _).drew) HR6.out hl1 HX).mono ?_; rintro e1 w7 ⟨v7, rfl, o7, b7⟩; obtain ⟨_, d0, _⟩ := one_keep b7 C7.out; obtain ⟨_, d5, _⟩ := one_keep b7 C6.out)
      | (go_at_call 22; refine (calls_eqSc (W := w6) (by with_reducible assumption) HLEN.out O7.out (by with_reducible assumption)).mono ?_; rintro e1 w8 ⟨rfl, b8⟩))
    all_goals
      go_wp2_with fail
      go_ret
      exact ⟨rfl, B6.out.trans (b8.mono B6.out.size)⟩
end Go.Proofs.Ytppbcjpabmllnaa
