/- The walk of laws.FnNames. -/
import Derived.Test.YtmachkcnichefaaDoorNumbWalks
import Derived.Test.YtmachkcnichefaaDoorAtWalks
namespace Go.Proofs.YtmachkcnichefaaDoor
open Go.RowKit
set_option linter.unusedVariables false
/-- What AccidentalOf, StepsUp, AreEnharmonic, NoteName answer, told without a look inside. -/
def AccAt (n a : Int) : Prop := a = accN n
def UpAt (a b x : Int) : Prop := x = upN a b
def EnhAt (a b : Int) (y : Bool) : Prop := y = enhN a b
def NameAt (n : Int) (L : List UInt8) : Prop := L = nameL n
theorem acc_impl_at {n a : Int} (h : AccAt n a) (w : World) : Calls Tryd.prog 11 #[.int .i64 n] w fun e w' => e = .returned (.int .i64 a) ∧ w = w' := by
  rw [show a = accN n from h]; exact acc_impl n w
theorem up_impl_at {a b x : Int} (h : UpAt a b x) (w : World) : Calls Tryd.prog 12 #[.int .i64 a, .int .i64 b] w fun e w' => e = .returned (.int .i64 x) ∧ w = w' := by
  rw [show x = upN a b from h]; exact up_impl a b w
theorem enh_impl_at {a b : Int} {y : Bool} (h : EnhAt a b y) (w : World) : Calls Tryd.prog 13 #[.int .i64 a, .int .i64 b] w fun e w' => e = .returned (.bool y) ∧ w = w' := by
  rw [show y = enhN a b from h]; exact enh_impl a b w
theorem name_impl_at {n : Int} {L : List UInt8} (h : NameAt n L) {W w : World} (ht : LetTab W) (hb : Below W.heap.size W w) : Calls Tryd.prog 9 #[.int .i64 n] w fun e w' => e = .returned (.string ⟨L.toArray⟩) ∧ Below W.heap.size W w' := by
  rw [show L = nameL n from h]
  exact (name_impl n w (ht.below hb)).mono fun e w' ⟨he, h2⟩ => ⟨he, hb.trans (h2.mono hb.size)⟩
theorem up_five {n : Int} (h : HasN n) (h' : HasN (n + 1)) : upN n (n + 1) = 4 := by
  rw [upN_yes h h', letN_yes h, letN_yes h']
  have := h.1
  omega
set_option maxRecDepth 100000 in
set_option maxHeartbeats 2000000 in
theorem walk_FnNames (a : Option Addr) (len cap : Nat) (zs : List Int) (w : World) (ht : LetTab w) (hr : IsRow .u8 w a len cap zs) :
    Calls Tryd.prog 3 #[.slice a len cap] w fun e w' => e = .returned (.bool true) ∧ Below w.heap.size w w' := by
  have hl9 := row_len hr
  have T := Lib.hid ht
  clear ht
  go_enter Tryd.func3, Tryd.ntmps3
  go_wp2_with fail
  refine (bigA_any a len cap w hl9.2).mono ?_
  rintro e w1 ⟨rfl, rfl⟩
  by_cases hbig : 1048576 < (len : Int)
  · go_wp2_with fail
    go_ret
    exact ⟨rfl, Below.refl _ _⟩
  · have hl : len ≤ 1048576 := by omega
    go_wp2_with fail
    refine (at_any hr hl 0 (by omega)).mono ?_
    rintro e w1 ⟨u, hu, rfl, rfl⟩
    go_wp2_with fail
    obtain ⟨n, hn⟩ : ∃ n : Int, n = (u : Int) % 28 - 15 := ⟨_, rfl⟩
    rw [← hn]
    have n0 : -15 ≤ n := by omega
    have n1 : n ≤ 12 := by omega
    clear hn hu
    have hN : HasN n := ⟨n0, by omega⟩
    have hN1 : HasN (n + 1) := ⟨by omega, by omega⟩
    have hN7 : HasN (n + 7) := ⟨by omega, by omega⟩
    obtain ⟨Ln, hLn⟩ : ∃ Ln, Ln = nameL n := ⟨_, rfl⟩
    have NN : NameAt n Ln := hLn
    have NU := numAt_own hN
    rw [← hLn] at NU
    obtain ⟨x, hx⟩ : ∃ x, x = letN n := ⟨_, rfl⟩
    have X0 : LetAt n x := hx
    have X7 : LetAt (n + 7) x := by unfold LetAt; rw [hx, letN_yes hN, letN_yes hN7]; omega
    obtain ⟨c, hc⟩ : ∃ c, c = accN n := ⟨_, rfl⟩
    have cb := accN_bd hN
    rw [← hc] at cb
    have C0 : AccAt n c := hc
    have C7 : AccAt (n + 7) (c + 1) := by unfold AccAt; rw [hc, accN_yes hN, accN_yes hN7]; omega
    have U1 : UpAt n (n + 1) 4 := (up_five hN hN1).symm
    have c0 := cb.1
    have c1 := cb.2
    have HN := Lib.hid hN
    have HL := Lib.hid hLn
    clear hx hc cb hN hN1 hN7 hLn
    refine (name_impl_at NN T.out (Below.refl _ _)).mono ?_
    rintro e w1 ⟨rfl, hb1⟩
    have B1 := Lib.hid hb1
    clear hb1
    go_wp2_with fail
    refine (number_impl NU _ (T.out.below B1.out)).mono ?_
    rintro e w2 ⟨rfl, hb2⟩
    have B2 := Lib.hid (B1.out.trans (hb2.mono B1.out.size))
    clear hb2 B1 NU
    go_wp2_with fail
    refine (at_any (hr.below B2.out) hl 1 (by omega)).mono ?_
    rintro e w3 ⟨v, hv, rfl, rfl⟩
    go_upto_region 6 with fail
    obtain ⟨m, hm⟩ : ∃ m : Int, m = (v : Int) % 35 - 15 := ⟨_, rfl⟩
    rw [← hm]
    have m0 : -15 ≤ m := by omega
    have m1 : m ≤ 19 := by omega
    clear hm hv
    have hM : HasN m := ⟨m0, by omega⟩
    obtain ⟨Lm, hLm⟩ : ∃ Lm, Lm = nameL m := ⟨_, rfl⟩
    have NM : NameAt m Lm := hLm
    obtain ⟨z, hz⟩ : ∃ z : Bool, z = (n == m) := ⟨_, rfl⟩
    have t1 : (n == m) = z := hz.symm
    have t2 : (Ln == Lm) = z := by
      rw [hz, HL.out, hLm]
      by_cases e : n = m
      · rw [e]; simp
      · have : nameL n ≠ nameL m := fun k => e (name_inj HN.out hM k)
        rw [beq_eq_false_iff_ne.2 this, beq_eq_false_iff_ne.2 e]
    obtain ⟨y, hy⟩ : ∃ y, y = enhN n m := ⟨_, rfl⟩
    have E1 : EnhAt n m y := hy
    have t3 : ((n - m).tmod 12 == 0) = y := by
      rw [hy, enhN_yes HN.out hM]
      have := mod12 (n - m)
      by_cases e : (n - m) % 12 = 0
      · have e2 := this.2 e
        rw [e2, decide_eq_true e]; rfl
      · have e2 : ¬ (n - m).tmod 12 = 0 := fun k => e (this.1 k)
        rw [decide_eq_false e]; exact beq_eq_false_iff_ne.2 e2
    clear hM hz hy HL hLm HN
    have B := B2.out
    go_wp2_with (first
      | (go_at_call 10; refine (letter_impl_at (by with_reducible assumption) _).mono ?_; rintro e w1 ⟨rfl, rfl⟩)
      | (go_at_call 11; refine (acc_impl_at (by with_reducible assumption) _).mono ?_; rintro e w1 ⟨rfl, rfl⟩)
      | (go_at_call 12; refine (up_impl_at (by with_reducible assumption) _).mono ?_; rintro e w1 ⟨rfl, rfl⟩)
      | (go_at_call 13; refine (enh_impl_at (by with_reducible assumption) _).mono ?_; rintro e w1 ⟨rfl, rfl⟩)
      | (go_at_call 9; refine (name_impl_at (by with_reducible assumption) T.out (by with_reducible assumption)).mono ?_; rintro e w1 ⟨rfl, hb⟩))
    go_ret
    exact ⟨rfl, hb⟩
end Go.Proofs.YtmachkcnichefaaDoor
