/- Contracts of impl's text and impl.BigText, and the walk of laws.FnExactBigText. -/
import Derived.Test.YtpagmeekbdiaoaaDoorSBtWalks
import Derived.Test.YtpagmeekbdiaoaaDoorBuilderWalks
import Derived.Test.YtpagmeekbdiaoaaDoorShelfB
import Derived.Test.YtpagmeekbdiaoaaDoorItoaWalks
namespace Go.Proofs.YtpagmeekbdiaoaaDoor
open Go.RowKit Go.Joins
set_option linter.unusedVariables false
theorem fm_implB {n : Int} {L : List UInt8} (h : Fm n L) {w : World} (ht : ItoaTab w) : Calls Tryd.prog 18 #[.int .i64 n] w fun e w' => e = .returned (.string ⟨L.toArray⟩) ∧ Below w.heap.size w w' := by
  obtain ⟨rfl, h0, h1⟩ := h
  exact format_any n h0 h1 w ht
theorem builder_keep {T e : TypeId} {B b : Nat} {bs : List Value} {w w' : World} (h : Lib.IsBuilder T e B b bs w) (hb : Below w.heap.size w w') : Lib.IsBuilder T e B b bs w' := by
  have k : ∀ p, Lib.BuilderAt T e B b p bs w → Lib.BuilderAt T e B b p bs w' := by
    rintro p ⟨hB, v, hblk, hown, hne⟩
    exact ⟨hB, v, (hb.block b (lt_of_block hblk)).trans hblk, own_below hown hb, hne⟩
  exact h.elim (fun x => .inl (k _ x)) (fun x => .inr (k _ x))
theorem builder_new (w : World) : Lib.IsBuilder 84 5 w.heap.size w.heap.size (Lib.byteCells []) (w.alloc (.cells #[.pointer none, .slice none 0 0] 84)) :=
  .inl ⟨Nat.le_refl _, .slice none 0 0, heap_alloc_new w _, ⟨by simp [Lib.byteCells], .inl ⟨rfl, by simp [Lib.byteCells]⟩⟩, by simp [Value.ownBlock]⟩
set_option maxHeartbeats 1000000 in
theorem text_any (w : World) (b : Nat) (e : TypeId) (v : Value) (xs : List Int) (hok : OkB xs) (h : w.ownsRow b e 1 v xs.length (intCs xs)) (ht : ItoaTab w) :
    Calls Tryd.prog 40 #[v] w fun en w' => en = .returned (.string ⟨(btV xs).toArray⟩) ∧ Below w.heap.size w w' := by
  have HB := Lib.hid hok.2.1
  have HT := Lib.hid ht
  have hn120 := hok.1
  clear hok ht
  obtain ⟨n, hn⟩ : ∃ n, n = xs.length := ⟨_, rfl⟩
  rw [← hn] at h hn120
  have HN := Lib.hid hn
  clear hn
  rcases Nat.eq_zero_or_pos n with h0 | h0
  · obtain ⟨p1, c1, rfl⟩ := own_zero h h0
    have HV := Lib.hid (btV_zero (HN.out.symm.trans h0))
    clear h h0 hn120
    go_enter Tryd.func40, Tryd.ntmps40
    go_wp2_with fail
    go_ret
    exact ⟨by rw [HV.out]; rfl, Below.refl _ _⟩
  · obtain ⟨g, c, rfl, _, hg⟩ := own_pos h h0
    have q1 := own_icell h (n - 1) (by omega)
    have qi : ((n : Int) - 1).toNat = n - 1 := by omega
    have qj : (n : Int) - 1 < n := by omega
    have qk : 0 ≤ (n : Int) - 1 := by omega
    have t0 : ((n : Int) == 0) = false := by simp; omega
    have hx0 := HB.out (n - 1) (by have := HN.out; omega)
    obtain ⟨x, hxk⟩ : ∃ x, x = xs.getD (n - 1) 0 := ⟨_, rfl⟩
    rw [← hxk] at q1 hx0
    have HX := Lib.hid hxk
    clear hxk
    obtain ⟨A, fa, la⟩ := fm_get x (by omega) (by omega)
    clear hx0
    have HS : Hid (BtTo xs (n - 1) A) := Lib.hid (by
      have := btTo_start (xs := xs) (by have := HN.out; omega) HB.out
      rw [← HN.out, ← HX.out, ← fa.1] at this
      exact this)
    have BN := Lib.hid (builder_new w)
    have B1 : Hid (Below w.heap.size w (w.alloc (.cells #[.pointer none, .slice none 0 0] 84))) := Lib.hid (below_alloc1 w _)
    have hne : g ≠ w.heap.size := by omega
    go_enter Tryd.func40, Tryd.ntmps40
    go_wp2_with fail
    refine (fm_implB fa (HT.out.below B1.out HT.out.lt)).mono ?_
    rintro e4 w4 ⟨rfl, hb4⟩
    have BN4 := Lib.hid (builder_keep BN.out hb4)
    have B4 : Hid (Below w.heap.size w w4) := Lib.hid (B1.out.trans (hb4.mono B1.out.size))
    clear hb4 BN B1
    go_wp2_with fail
    refine (writeString_any w.heap.size w.heap.size [] A w4 BN4.out (by simp; omega) B4.out.size).mono ?_
    rintro e5 w5 ⟨⟨n5, rfl⟩, hbd5, hb5⟩
    have BN5 : Hid (Lib.IsBuilder 84 5 w.heap.size w.heap.size (Lib.byteCells A) w5) := Lib.hid hbd5
    have B5 : Hid (Below w.heap.size w w5) := Lib.hid (B4.out.trans hb5)
    clear hbd5 hb5 BN4 B4
    go_wp2_with fail
    clear q1 qi qj qk t0
    go_loopw [4] (fun i wr => ∃ j : Nat, ∃ acc : List UInt8, BtTo xs j acc ∧ i = .int .i64 ((j : Int) - 1) ∧ Lib.IsBuilder 84 5 w.heap.size w.heap.size (Lib.byteCells acc) wr ∧ Below w.heap.size w wr) (fun i _ => (intOf i + 1).toNat)
    case atStart => exact ⟨n - 1, A, HS.out, by congr 1; omega, BN5.out, B5.out⟩
    case round =>
      obtain ⟨j, acc, hto, rfl, hbd, hb⟩ := hrel
      have HBD := Lib.hid hbd
      clear hbd
      rcases j with _ | t
      · have HF := Lib.hid (btTo_end hto)
        clear hto
        go_wp2_with fail
        refine (Tryd.Builder_String_any w.heap.size w.heap.size acc _ HBD.out hb.size).mono ?_
        rintro e6 w6 ⟨rfl, hb6⟩
        go_wp2_with fail
        go_ret
        exact ⟨ret_strT HF.out, hb.trans hb6⟩
      · rw [show ((t + 1 : Nat) : Int) - 1 = (t : Int) from by omega]
        have htn : t + 1 < n := by rw [HN.out]; exact hto.2.2
        have q1 := own_icell (own_below h hb) t (by omega)
        have q3 : (t : Int) < n := by omega
        have y0 := HB.out t (by have := HN.out; omega)
        have hl := btTo_len hto (by have := HN.out; omega)
        have hto' := btTo_step hto HB.out
        unfold figs at hto'
        obtain ⟨y, hyk⟩ : ∃ y, y = xs.getD t 0 := ⟨_, rfl⟩
        rw [← hyk] at q1 y0 hto'
        clear hyk hto
        obtain ⟨ya, yb⟩ := y0
        obtain ⟨F, ff, lf⟩ := fm_get (10000 + y) (by omega) (by omega)
        rw [← ff.1] at hto'
        have hsl := slice1_run F (by rw [ff.1]; exact itoa_pos _)
        obtain ⟨G, hG⟩ : ∃ G, G = F.drop 1 := ⟨_, rfl⟩
        have lg : G.length ≤ 100 := by rw [hG, List.length_drop]; omega
        rw [← hG] at hsl hto'
        clear hG lf
        have HTO := Lib.hid hto'
        have HL : Hid (acc.length + G.length ≤ 1000000) := Lib.hid (by omega)
        clear hto' lg hl
        go_wp2_with fail
        refine (fm_implB ff (HT.out.below hb HT.out.lt)).mono ?_
        rintro e5 w5 ⟨rfl, hb5⟩
        have BN5 := Lib.hid (builder_keep HBD.out hb5)
        have B5 : Hid (Below w.heap.size w w5) := Lib.hid (hb.trans (hb5.mono hb.size))
        clear hb5
        go_wp2_with fail
        refine (writeString_any w.heap.size w.heap.size acc G w5 BN5.out HL.out B5.out.size).mono ?_
        rintro e6 w6 ⟨⟨n6, rfl⟩, hbd6, hb6⟩
        have BN6 := Lib.hid hbd6
        clear hbd6
        go_wp2_with fail
        go_roundw
        case rel => exact ⟨t, _, HTO.out, by go_num, BN6.out, B5.out.trans hb6⟩
        case measure => first | (simp [intOf]; done) | (simp [intOf]; omega)
set_option maxHeartbeats 1000000 in
theorem bt_any (w : World) (b : Nat) (e : TypeId) (v : Value) (xs : List Int) (hx : xs.length ≤ 2000000) (h : w.ownsRow b e 1 v xs.length (intCs xs)) (ht : ItoaTab w) :
    Calls Tryd.prog 17 #[v] w fun en w' => en = .returned (.string ⟨(BtR xs).toArray⟩) ∧ Below w.heap.size w w' := by
  have C1 := ok_any w b e v xs hx h
  by_cases hok : OkB xs
  · rw [decide_eq_true hok] at C1
    have HC := Lib.hid C1
    have HC2 := Lib.hid (text_any w b e v xs hok h ht)
    have HE : Hid (BtR xs = btV xs) := Lib.hid (by unfold BtR; rw [if_pos hok])
    clear C1 hok hx h ht
    go_enter Tryd.func17, Tryd.ntmps17
    go_wp2_with fail
    refine HC.out.mono ?_
    rintro e3 w3 ⟨rfl, rfl⟩
    go_wp2_with fail
    refine HC2.out.mono ?_
    rintro e3 w3 ⟨rfl, hb3⟩
    go_wp2_with fail
    go_ret
    exact ⟨ret_strT HE.out.symm, hb3⟩
  · rw [decide_eq_false hok] at C1
    have HC := Lib.hid C1
    have HE : Hid (BtR xs = []) := Lib.hid (by unfold BtR; rw [if_neg hok])
    clear C1 hx hok h ht
    go_enter Tryd.func17, Tryd.ntmps17
    go_wp2_with fail
    refine HC.out.mono ?_
    rintro e3 w3 ⟨rfl, rfl⟩
    go_wp2_with fail
    go_ret
    exact ⟨by rw [HE.out]; rfl, Below.refl _ _⟩
end Go.Proofs.YtpagmeekbdiaoaaDoor
