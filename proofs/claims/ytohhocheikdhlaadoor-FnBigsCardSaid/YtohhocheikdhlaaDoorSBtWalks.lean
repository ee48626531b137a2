/- Contract of spec.BigText. -/
import Derived.Test.YtohhocheikdhlaaDoorBtMath
import Derived.Test.YtohhocheikdhlaaDoorOkWalks
import Derived.Test.YtohhocheikdhlaaDoorFmText
namespace Go.Proofs.YtohhocheikdhlaaDoor
open Go.RowKit
set_option linter.unusedVariables false
set_option maxHeartbeats 1000000 in
theorem sbt_any (w : World) (b : Nat) (e : TypeId) (v : Value) (xs : List Int) (hx : xs.length ≤ 2000000) (h : w.ownsRow b e 1 v xs.length (intCs xs)) :
    Calls Tryd.prog 17 #[v] w fun en w' => en = .returned (.string ⟨(BtR xs).toArray⟩) ∧ Below w.heap.size w w' := by
  have C1 := sok_any w b e v xs hx h
  by_cases hok : OkB xs
  · rw [decide_eq_true hok] at C1
    have HC := Lib.hid C1
    have HE : Hid (BtR xs = btV xs) := Lib.hid (by unfold BtR; rw [if_pos hok])
    have HB := Lib.hid hok.2.1
    have hn120 := hok.1
    clear C1 hx hok
    obtain ⟨n, hn⟩ : ∃ n, n = xs.length := ⟨_, rfl⟩
    rw [← hn] at h hn120
    have HN := Lib.hid hn
    clear hn
    rcases Nat.eq_zero_or_pos n with h0 | h0
    · obtain ⟨p1, c1, rfl⟩ := own_zero h h0
      have HV := Lib.hid (HE.out.trans (btV_zero (HN.out.symm.trans h0)))
      clear h h0 hn120
      go_enter Tryd.func17, Tryd.ntmps17
      go_wp2_with fail
      refine HC.out.mono ?_
      rintro e3 w3 ⟨rfl, rfl⟩
      go_wp2_with fail
      go_ret
      exact ⟨by rw [HV.out]; rfl, Below.refl _ _⟩
    · obtain ⟨g, c, rfl, _, _⟩ := own_pos h h0
      have q1 := own_icell h (n - 1) (by omega)
      have qi : ((n : Int) - 1).toNat = n - 1 := by omega
      have qj : (n : Int) - 1 < n := by omega
      have qk : 0 ≤ (n : Int) - 1 := by omega
      have t0 : ((n : Int) == 0) = false := by simp; omega
      have hx0 := HB.out (n - 1) (by have := HN.out; omega)
      obtain ⟨x, hxk⟩ : ∃ x, x = xs.getD (n - 1) 0 := ⟨_, rfl⟩
      rw [← hxk] at q1 hx0
      have HX := Lib.hid hxk
      clear hxk
      obtain ⟨A, fa, la⟩ := fm_get x (by omega) (by omega)
      clear hx0
      have HS : Hid (BtTo xs (n - 1) A) := Lib.hid (by
        have := btTo_start (xs := xs) (by have := HN.out; omega) HB.out
        rw [← HN.out, ← HX.out, ← fa.1] at this
        exact this)
      go_enter Tryd.func17, Tryd.ntmps17
      go_wp2_with fail
      refine HC.out.mono ?_
      rintro e3 w3 ⟨rfl, rfl⟩
      go_wp2_with fail
      refine (fm_spec fa _).mono ?_
      rintro e4 w4 ⟨rfl, hb4⟩
      go_wp2_with fail
      clear q1 qi qj qk t0
      go_loopw [3, 4] (fun s i wr => ∃ j : Nat, ∃ acc : List UInt8, BtTo xs j acc ∧ s = .string ⟨acc.toArray⟩ ∧ i = .int .i64 ((j : Int) - 1) ∧ Below w.heap.size w wr) (fun _ i _ => (intOf i + 1).toNat)
      case atStart => exact ⟨n - 1, A, HS.out, rfl, by congr 1; omega, hb4⟩
      case round =>
        obtain ⟨j, acc, hto, rfl, rfl, hb⟩ := hrel
        rcases j with _ | t
        · have HF := Lib.hid (HE.out.trans (btTo_end hto).symm)
          clear hto
          go_wp2
          go_ret
          exact ⟨ret_strT HF.out.symm, hb⟩
        · rw [show ((t + 1 : Nat) : Int) - 1 = (t : Int) from by omega]
          have htn : t + 1 < n := by rw [HN.out]; exact hto.2.2
          have q1 := own_icell (own_below h hb) t (by omega)
          have q3 : (t : Int) < n := by omega
          have y0 := HB.out t (by have := HN.out; omega)
          have hl := btTo_len hto (by have := HN.out; omega)
          have hto' := btTo_step hto HB.out
          unfold figs at hto'
          obtain ⟨y, hyk⟩ : ∃ y, y = xs.getD t 0 := ⟨_, rfl⟩
          rw [← hyk] at q1 y0 hto'
          clear hyk hto
          obtain ⟨ya, yb⟩ := y0
          obtain ⟨F, ff, lf⟩ := fm_get (10000 + y) (by omega) (by omega)
          rw [← ff.1] at hto'
          have hsl := slice1_run F (by rw [ff.1]; exact itoa_pos _)
          obtain ⟨G, hG⟩ : ∃ G, G = F.drop 1 := ⟨_, rfl⟩
          have lg : G.length ≤ 100 := by rw [hG, List.length_drop]; omega
          rw [← hG] at hsl hto'
          clear hG lf
          obtain ⟨Z, lz, ez, hcat⟩ := cat_run Tryd.prog acc G 12000 100 hl lg (by omega)
          rw [← ez] at hto'
          have HTO := Lib.hid hto'
          clear hto' ez lz lg hl
          go_wp2_with fail
          refine (fm_spec ff _).mono ?_
          rintro e5 w5 ⟨rfl, hb5⟩
          go_wp2_with fail
          go_roundw
          case rel => exact ⟨t, Z, HTO.out, rfl, by go_num, hb.trans (hb5.mono hb.size)⟩
          case measure => first | (simp [intOf]; done) | (simp [intOf]; omega)
  · rw [decide_eq_false hok] at C1
    have HC := Lib.hid C1
    have HE : Hid (BtR xs = []) := Lib.hid (by unfold BtR; rw [if_neg hok])
    clear C1 hx hok h
    go_enter Tryd.func17, Tryd.ntmps17
    go_wp2_with fail
    refine HC.out.mono ?_
    rintro e3 w3 ⟨rfl, rfl⟩
    go_wp2_with fail
    go_ret
    exact ⟨by rw [HE.out]; rfl, Below.refl _ _⟩
end Go.Proofs.YtohhocheikdhlaaDoor
