/- Contract of spec.CountSizes over a row of intervals that the call owns. -/
import Derived.Test.YtdnlebijmiaclaaCntMath
import Derived.Test.YtdnlebijmiaclaaSameTone
import Derived.BigRegion
import Derived.BigQuiet
namespace Go.Proofs.Ytdnlebijmiaclaa
open Go.RowKit Go.Joins
set_option linter.unusedVariables false
/-- Two elements of a row. -/
def Two2 (g o p : Nat) (X Y : Iv) (w : World) : Prop := g < w.heap.size ∧ (w.cell? ⟨g, o, none⟩ = some (.int .i64 X.two) ∧ w.cell? ⟨g, o + 1, none⟩ = some (.int .i64 X.three) ∧ w.cell? ⟨g, o + 2, none⟩ = some (.int .i64 X.five) ∧ w.cell? ⟨g, o + 3, none⟩ = some (.int .i64 X.root)) ∧ (w.cell? ⟨g, p, none⟩ = some (.int .i64 Y.two) ∧ w.cell? ⟨g, p + 1, none⟩ = some (.int .i64 Y.three) ∧ w.cell? ⟨g, p + 2, none⟩ = some (.int .i64 Y.five) ∧ w.cell? ⟨g, p + 3, none⟩ = some (.int .i64 Y.root))
theorem two2_keep {W w : World} {g o p : Nat} {X Y : Iv} (hb : Below W.heap.size W w) (h : Two2 g o p X Y W) : Two2 g o p X Y w :=
  ⟨Nat.lt_of_lt_of_le h.1 hb.size, ⟨(hb.cell h.1).trans h.2.1.1, (hb.cell h.1).trans h.2.1.2.1, (hb.cell h.1).trans h.2.1.2.2.1, (hb.cell h.1).trans h.2.1.2.2.2⟩, ⟨(hb.cell h.1).trans h.2.2.1, (hb.cell h.1).trans h.2.2.2.1, (hb.cell h.1).trans h.2.2.2.2.1, (hb.cell h.1).trans h.2.2.2.2.2⟩⟩
theorem two2_drew {w : World} {g o p : Nat} {X Y : Iv} (h : Two2 g o p X Y w) : Two2 g o p X Y w.drew := h
theorem two2_cells {w : World} {g o p : Nat} {X Y : Iv} (h : Two2 g o p X Y w) : w.cell? ⟨g, o, none⟩ = some (.int .i64 X.two) ∧ w.cell? ⟨g, o + 1, none⟩ = some (.int .i64 X.three) ∧ w.cell? ⟨g, o + 2, none⟩ = some (.int .i64 X.five) ∧ w.cell? ⟨g, o + 3, none⟩ = some (.int .i64 X.root) ∧ w.cell? ⟨g, p, none⟩ = some (.int .i64 Y.two) ∧ w.cell? ⟨g, p + 1, none⟩ = some (.int .i64 Y.three) ∧ w.cell? ⟨g, p + 2, none⟩ = some (.int .i64 Y.five) ∧ w.cell? ⟨g, p + 3, none⟩ = some (.int .i64 Y.root) := ⟨h.2.1.1, h.2.1.2.1, h.2.1.2.2.1, h.2.1.2.2.2, h.2.2⟩
theorem freshTo_true {xs : List Iv} {k i : Nat} (h : freshTo xs k i = true) {P Q : Iv} (hP : P = simV (ivAt xs i)) (hQ : Q = simV (ivAt xs k)) : freshTo xs k (i + 1) = !(P.two == Q.two && (P.three == Q.three) && (P.five == Q.five) && (P.root == Q.root)) := by
  show (freshTo xs k i && _) = _
  rw [h, hP, hQ]; rfl
theorem freshTo_false {xs : List Iv} {k i : Nat} (h : freshTo xs k i = false) : freshTo xs k (i + 1) = false := by
  show (freshTo xs k i && _) = _
  rw [h]; rfl
set_option maxRecDepth 100000 in
set_option maxHeartbeats 4000000 in
theorem count_spec (w : World) (b : Nat) (e : TypeId) (v : Value) (xs : List Iv) (hx : xs.length ≤ 2000000) (h : w.ownsRow b e 4 v xs.length (ivCs xs)) :
    Calls Try.prog 43 #[v] w fun en w' => en = .returned (.int .i64 (cntV xs)) ∧ Below w.heap.size w w' := by
  obtain ⟨n, hn⟩ : ∃ n, n = xs.length := ⟨_, rfl⟩
  rw [← hn] at h hx
  have HN := Lib.hid hn
  clear hn
  rcases Nat.eq_zero_or_pos n with h0 | h0
  · have Y := Lib.hid (show cntV xs = 0 from cntV_nil (by have := HN.out; omega))
    obtain ⟨p1, c1, rfl⟩ := own4_zero h h0
    clear h
    go_enter Try.func43, Try.ntmps43
    go_wp2
    refine wp_loop_rounds 1 ?_
    rw [rounds_succ]
    go_wp2
    go_ret
    exact ⟨ret_int Y.out.symm, Below.refl _ _⟩
  · obtain ⟨g0, cap, rfl, _, hgl⟩ := own4_pos h h0
    have HH := Lib.hid h
    have HG := Lib.hid hgl
    clear h hgl
    go_enter Try.func43, Try.ntmps43
    go_wp2
    go_loopw [3, 4] (fun o i wr => ∃ (k s : Nat), k ≤ n ∧ i = .int .i64 (k : Int) ∧ o = .int .i64 (s : Int) ∧ s ≤ k ∧ Hid (s = sizTo xs k) ∧ Hid (okTo xs k = true) ∧ Hid (Below w.heap.size w wr)) (fun _ i _ => n - (intOf i).toNat)
    case atStart => exact ⟨0, 0, Nat.zero_le _, rfl, rfl, Nat.le_refl _, Lib.hid rfl, Lib.hid rfl, Lib.hid (Below.refl _ _)⟩
    case round =>
      obtain ⟨k, s, hk, rfl, rfl, hsk, HS, HOK, HB⟩ := hrel
      by_cases hlt : k < n
      · have q3 : (k : Int) < n := by omega
        have r1 := own_iv (own4_below HH.out HB.out) HN.out k hlt
        obtain ⟨X, hX⟩ : ∃ X, X = ivAt xs k := ⟨_, rfl⟩
        rw [← hX] at r1
        obtain ⟨x0, x1, x2, x3⟩ := r1
        have HX := Lib.hid hX
        clear hX
        by_cases hok : okV X = true
        · have OX : OkAt X.two X.three X.five X.root true := hok
          have NK := Lib.hid (okTo_step HOK.out (by rw [← HX.out]; exact hok))
          have HOX := Lib.hid hok
          clear hok
          go_wp2_with fail
          refine (okAt_spec OX _).mono ?_
          rintro en w2 ⟨rfl, hb2⟩
          have R2 := Lib.hid (HB.out.trans (hb2.mono HB.out.size))
          clear hb2 x0 x1 x2 x3 OX HB
          go_wp2_with fail
          obtain ⟨wo, hwo⟩ : ∃ wo, wo = w2 := ⟨_, rfl⟩
          rw [← hwo] at R2 ⊢
          clear hwo
          go_loopw [5, 6] (fun o i wr => ∃ m : Nat, m ≤ k ∧ i = .int .i64 (m : Int) ∧ o = .bool (freshTo xs k m) ∧ Hid (Below w.heap.size w wr)) (fun _ i _ => k - (intOf i).toNat)
          case atStart => exact ⟨0, Nat.zero_le _, rfl, rfl, R2⟩
          case round =>
            clear R2
            obtain ⟨m, hm, rfl, rfl, HB⟩ := hrel
            by_cases hlt2 : m < k
            · have q4 : (m : Int) < k := by omega
              have q5 : (m : Int) < n := by omega
              obtain ⟨f, hf⟩ : ∃ f, f = freshTo xs k m := ⟨_, rfl⟩
              rw [← hf]
              cases f
              · have NF := Lib.hid (freshTo_false hf.symm)
                have B2 := Lib.hid HB.out.drew
                clear hf HB
                go_wp2_with fail
                go_region
                go_wp2_with fail
                go_roundw
                case rel => exact ⟨m + 1, by omega, by go_num, by rw [NF.out], B2⟩
                case measure => simp [intOf]; omega
              · have r1 := own_iv (own4_below HH.out HB.out) HN.out m (by omega)
                have r2 := own_iv (own4_below HH.out HB.out) HN.out k hlt
                obtain ⟨Z, hZ⟩ : ∃ Z, Z = ivAt xs m := ⟨_, rfl⟩
                rw [← hZ] at r1
                rw [← HX.out] at r2
                have okz : okV Z = true := by rw [hZ]; exact okTo_all HOK.out m hlt2
                obtain ⟨P, hP⟩ : ∃ P, P = simV Z := ⟨_, rfl⟩
                obtain ⟨Q, hQ⟩ : ∃ P, P = simV X := ⟨_, rfl⟩
                have NF := Lib.hid (freshTo_true hf.symm (show P = _ from by rw [hP, hZ]) (show Q = _ from by rw [hQ, HX.out]))
                have SP : SimAt Z.two Z.three Z.five Z.root P.two P.three P.five P.root := by rw [hP]; exact ⟨okz, rfl, rfl, rfl, rfl⟩
                have SQ : SimAt X.two X.three X.five X.root Q.two Q.three Q.five Q.root := by rw [hQ]; exact ⟨HOX.out, rfl, rfl, rfl, rfl⟩
                have TB : Hid (Two2 g0 (m * 4) (k * 4) Z X wr) := Lib.hid ⟨Nat.lt_of_lt_of_le HG.out HB.out.size, r1, r2⟩
                clear r1 r2 hf hP hQ hZ okz
                obtain ⟨W1, hW1⟩ : ∃ y, y = wr := ⟨_, rfl⟩
                rcases neq_cases P Q with h1 | ⟨h1, h2⟩ | ⟨h1, h2, h3⟩ | ⟨h1, h2, h3, h4⟩ | ⟨h1, h2, h3, h4⟩
                all_goals
                  have NG := NF.out
                  simp only [h1] at NG
                  (try simp only [h2] at NG)
                  (try simp only [h3] at NG)
                  (try simp only [h4] at NG)
                  simp only [Bool.false_and, Bool.true_and, Bool.and_true, Bool.not_false, Bool.not_true] at NG
                  have NH := Lib.hid NG
                  clear NG
                  go_upto_region 11 with fail
                  rw [← hW1] at TB HB ⊢
                  clear hW1
                  go_region_held3 (fun w' => w'.cell? ⟨g0, m * 4, none⟩ = some (.int .i64 Z.two) ∧ w'.cell? ⟨g0, m * 4 + 1, none⟩ = some (.int .i64 Z.three) ∧ w'.cell? ⟨g0, m * 4 + 2, none⟩ = some (.int .i64 Z.five) ∧ w'.cell? ⟨g0, m * 4 + 3, none⟩ = some (.int .i64 Z.root) ∧ w'.cell? ⟨g0, k * 4, none⟩ = some (.int .i64 X.two) ∧ w'.cell? ⟨g0, k * 4 + 1, none⟩ = some (.int .i64 X.three) ∧ w'.cell? ⟨g0, k * 4 + 2, none⟩ = some (.int .i64 X.five) ∧ w'.cell? ⟨g0, k * 4 + 3, none⟩ = some (.int .i64 X.root)) (with_reducible first | exact two2_cells (two2_drew TB.out) | exact two2_cells (two2_keep (by assumption) TB.out) | exact two2_cells TB.out)
                    (first
                      | (go_at_call 59; refine (calls_fromS (W := W1) (by with_reducible first | assumption | exact (Below.refl _ _).drew) (simAt_spec (by with_reducible assumption) _)).mono ?_; rintro e1 w1 ⟨rfl, hb⟩))
                  have R3 := Lib.hid (HB.out.trans (hb.mono HB.out.size))
                  clear hb TB HB
                  go_wp2_with fail
                  go_roundw
                  case rel => exact ⟨m + 1, by omega, by go_num, by rw [NH.out], R3⟩
                  case measure => simp [intOf]; omega
            · have q4 : ¬ (m : Int) < k := by omega
              obtain rfl : m = k := by omega
              obtain ⟨f, hf⟩ : ∃ f, f = freshTo xs m m := ⟨_, rfl⟩
              rw [← hf]
              cases f
              · have NS := Lib.hid (HS.out.trans (sizTo_no hf.symm).symm)
                clear hf
                go_wp2_with fail
                go_roundw
                case rel => exact ⟨m + 1, s, by omega, by go_num, rfl, by omega, NS, NK, HB⟩
                case measure => simp [intOf]; omega
              · have NS := Lib.hid (show s + 1 = sizTo xs (m + 1) from by rw [sizTo_yes hf.symm, HS.out])
                clear hf
                go_wp2_with fail
                go_roundw
                case rel => exact ⟨m + 1, s + 1, by omega, by go_num, by go_num, by omega, NS, NK, HB⟩
                case measure => simp [intOf]; omega
        · have OX : OkAt X.two X.three X.five X.root false := Bool.eq_false_iff.2 hok
          have Y := Lib.hid (cntV_bad (xs := xs) (k := k) (by have := HN.out; omega) (by rw [← HX.out]; exact Bool.eq_false_iff.2 hok))
          clear hok
          go_wp2_with fail
          refine (okAt_spec OX _).mono ?_
          rintro en w2 ⟨rfl, hb2⟩
          have R2 := Lib.hid (HB.out.trans (hb2.mono HB.out.size))
          clear hb2 x0 x1 x2 x3
          go_wp2_with fail
          go_ret
          exact ⟨ret_int Y.out.symm, R2.out⟩
      · have q3 : ¬ (k : Int) < n := by omega
        obtain rfl : k = n := by omega
        have Y := Lib.hid (cntV_ok (xs := xs) (by rw [← HN.out]; exact HOK.out))
        go_wp2_with fail
        go_ret
        exact ⟨ret_int (by rw [Y.out, ← HN.out, HS.out]), HB.out⟩
end Go.Proofs.Ytdnlebijmiaclaa
