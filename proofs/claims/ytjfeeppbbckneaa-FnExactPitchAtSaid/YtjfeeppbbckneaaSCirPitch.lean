/- Contract of spec.PitchAt. -/
import Derived.Test.YtjfeeppbbckneaaCirPitch
namespace Go.Proofs.Ytjfeeppbbckneaa
open Go.RowKit Go.Joins
set_option linter.unusedVariables false
theorem checkAt_simple {a b c d p q r s : Int} (h : CheckAt a b c d p q r s true) (w : World) :
    Calls Try.prog 56 #[ivV a b c d] w fun e w' => e = .returned (ivV p q r s) ∧ Below w.heap.size w w' := by
  obtain ⟨⟨h1, h2, h3, h4, h5, h6, h7, h8⟩, ⟨_, hx, rfl, rfl, rfl, rfl⟩ | ⟨h, _⟩⟩ := h
  · exact simple_any a b c d _ w rfl h1 h2 h3 h4 h5 h6 h7 h8
  · cases h
/-- What the walk knows of the interval and its octaves. -/
structure OctX (a b c d n p q r s u m : Int) : Prop where
  oct : OctAt a b c d n
  mul : n * d = m
  less : u = a - m
  check : CheckAt u b c d p q r s true
theorem octX_ex {f k p q r s : Int} (h : ChOk f k) (hp : p = (pitV f k).two) (hq : q = (pitV f k).three) (hr : r = (pitV f k).five) (hs : s = (pitV f k).root) :
    ∃ a b c d n u m, ChAt f k a b c d ∧ OctX a b c d n p q r s u m := by
  obtain ⟨d1, d2, a1, a2, b1, b2, c1, c2⟩ := okI_nums (ch_ok h)
  have m := ch_mul h
  refine ⟨_, _, _, _, chN f k, _, _, ch_chAt h, ⟨ch_oct h, rfl, rfl, ?_⟩⟩
  subst hp hq hr hs
  exact sim_check (X := ⟨(chV f k).two - chN f k * (chV f k).root, (chV f k).three, (chV f k).five, (chV f k).root⟩) (by simp only; omega) rfl (pit_ok h)
set_option maxRecDepth 100000 in
set_option maxHeartbeats 4000000 in
theorem pitch_spec {xs : List Int} {i p q r s : Int} (hf : PtAt xs i p q r s) (w : World) (b : Nat) (e : TypeId) (v : Value) (hl : xs.length ≤ 2000000) (h : w.ownsRow b e 1 v xs.length (intCs xs)) :
    Calls Try.prog 28 #[cirV v, .int .i64 i] w fun en w' => en = .returned (ivV p q r s) ∧ Below w.heap.size w w' := by
  have CO := Lib.hid (l12Has_any _ b e v xs i hl (own_below h (below_alloc2 w (.cells #[v] 26) (.cells #[.int .i64 0, .int .i64 0, .int .i64 0, .int .i64 0] 29))))
  rcases hf with ⟨⟨hc, hi⟩, hp, hq, hr, hs⟩ | ⟨hb, rfl, rfl, rfl, rfl⟩
  · rw [show cirB xs = true from decide_eq_true hc, decide_eq_true hi, Bool.true_and] at CO
    obtain ⟨j, hj⟩ : ∃ j, j = i.toNat := ⟨_, rfl⟩
    rw [← hj] at hp hq hr hs
    have hi' : i = (j : Int) := by omega
    have hj12 : j < 12 := by omega
    subst hi'
    clear hj hi hl
    obtain ⟨g, cap, rfl, hg, hcap, hcm, hcl⟩ := cir_row h hc
    have hk := pt_chOk hc hj12
    obtain ⟨a1, a2, a3, a4, nn, u, mm, hch, hox⟩ := octX_ex hk hp hq hr hs
    have HBD := Lib.hid (fun k (hk : k ≤ 12) => cirOk_sum hc hk)
    obtain ⟨T, hT⟩ : ∃ T, T = sumTo xs j := ⟨_, rfl⟩
    rw [← hT] at hch
    have HT := Lib.hid hT
    obtain ⟨_, _, T1, T2⟩ := hch.1
    have HC := Lib.hid (fun t (ht : t < 12) => hcl t ht)
    obtain ⟨d1, d2, ab1, ab2, bb1, bb2, cb1, cb2⟩ := okI_nums hox.oct.1
    obtain ⟨nb1, nb2⟩ := octAt_num hox.oct
    obtain ⟨N, hN⟩ := top_ex hox.oct
    have N1 := hN.2.2.1
    have N2 : N ≤ 2100 := by have := hN.2.2.2.1; omega
    have HNT := Lib.hid hN
    have HO := Lib.hid hox
    have HS := Lib.hid (fun w => chAt_spec hch w)
    have HE := Lib.hid (fun w => checkAt_simple hox.check w)
    obtain ⟨t, ht⟩ : ∃ t, t = 19 * T - 12 * (j : Int) := ⟨_, rfl⟩
    obtain ⟨o, ho⟩ : ∃ o, o = 12 * (j : Int) - 12 * T := ⟨_, rfl⟩
    rw [← ht, ← ho] at HS
    have v0 : IntKind.i64.wrap (19 * T) = 19 * T := IntWalk.i64_in _ (by omega)
    have v1 : IntKind.i64.wrap (12 * (j : Int)) = 12 * (j : Int) := IntWalk.i64_in _ (by omega)
    have v2 : IntKind.i64.wrap (19 * T - 12 * (j : Int)) = t := by rw [IntWalk.i64_in _ (by omega)]; exact ht.symm
    have v3 : IntKind.i64.wrap (12 * T) = 12 * T := IntWalk.i64_in _ (by omega)
    have v4 : IntKind.i64.wrap (12 * (j : Int) - 12 * T) = o := by rw [IntWalk.i64_in _ (by omega)]; exact ho.symm
    clear hp hq hr hs hk hch hox hT hN hcl h hc hcap hcm ht ho
    go_enter Try.func28, Try.ntmps28
    go_wp2_with fail
    refine CO.out.mono ?_
    rintro e1 w1 ⟨rfl, b1⟩
    have Z1 : Hid (Zero4 (w.heap.size + 1) w1) := Lib.hid (by simpa using zero4_keep b1 (zero4_alloc (w := w.alloc (.cells #[.slice (some ⟨g, 0, none⟩) 12 cap] 26)) (t := 29)))
    obtain ⟨_, c0, _⟩ := one_keep b1 (one_al (o := .cells #[.int .i64 0, .int .i64 0, .int .i64 0, .int .i64 0] 29) (one_alloc (w := w) (v := .slice (some ⟨g, 0, none⟩) 12 cap) (t := 26)))
    have BB := (below_alloc2 w (.cells #[.slice (some ⟨g, 0, none⟩) 12 cap] 26) (.cells #[.int .i64 0, .int .i64 0, .int .i64 0, .int .i64 0] 29)).trans (b1.mono (by simp; omega))
    have HC1 := Lib.hid (fun t (ht : t < 12) => (BB.cell (p := ⟨g, t, none⟩) hg).trans (HC.out t ht))
    have B1 := Lib.hid BB
    clear b1 BB HC
    go_wp2_with fail
    go_loopw [5, 6] (fun x y wr => ∃ (k : Nat) (S : Int), k ≤ j ∧ S = sumTo xs k ∧ x = .int .i64 S ∧ y = .int .i64 k ∧ wr = w1) (fun _ y _ => j - (intOf y).toNat)
    case atStart => exact ⟨0, 0, Nat.zero_le _, rfl, rfl, rfl, rfl⟩
    case round =>
      obtain ⟨k, S, hk, hS, rfl, rfl, rfl⟩ := hrel
      have hb := HBD.out k (by omega)
      rw [← hS] at hb
      obtain ⟨hb1, hb2⟩ := hb
      have HSS := Lib.hid hS
      clear hS
      by_cases hlt : k < j
      · have q1 := HC1.out k (by omega)
        have q3 : (k : Int) < j := by omega
        have hb3 := (HBD.out (k + 1) (by omega)).2
        have hb4 := (HBD.out (k + 1) (by omega)).1
        have he : sumTo xs (k + 1) = sumTo xs k + xs.getD k 0 := rfl
        obtain ⟨x, hxk⟩ : ∃ x, x = xs.getD k 0 := ⟨_, rfl⟩
        rw [← HSS.out, ← hxk] at he
        rw [← hxk] at q1
        obtain ⟨Y, hY⟩ : ∃ Y, Y = sumTo xs (k + 1) := ⟨_, rfl⟩
        rw [← hY] at he hb3 hb4
        have HY := Lib.hid hY
        have v5 : IntKind.i64.wrap (S + x) = Y := by rw [IntWalk.i64_in _ (by omega)]; exact he.symm
        have HE := Lib.hid he
        clear hxk he hY
        go_wp2_with fail
        go_roundw
        case rel => exact ⟨k + 1, Y, by omega, HY.out, rfl, by go_num, by trivial⟩
        case measure => simp [intOf]; omega
      · have q3 : ¬ (k : Int) < j := by omega
        obtain rfl : k = j := by omega
        obtain rfl : S = T := HSS.out.trans HT.out.symm
        clear hlt HSS HT
        go_wp2_with fail
        refine (HS.out _).mono ?_
        rintro e2 w2 ⟨rfl, b2⟩
        have F2 := Lib.hid (four_alloc (w := w2) (p := a1) (q := a2) (r := a3) (s := a4) (t := 29))
        have Z2 := Lib.hid (zero4_keep (below_alloc1 w2 (.cells #[.int .i64 a1, .int .i64 a2, .int .i64 a3, .int .i64 a4] 29)) (zero4_keep b2 Z1.out))
        have B2 := Lib.hid ((B1.out.trans (b2.mono B1.out.size)).alloc (Nat.le_trans B1.out.size b2.size) (.cells #[.int .i64 a1, .int .i64 a2, .int .i64 a3, .int .i64 a4] 29))
        have M2 : w.heap.size + 1 < w2.heap.size := Nat.lt_of_lt_of_le Z1.out.1.1 b2.size
        have Z2f : ∀ o, (w2.alloc (.cells #[.int .i64 a1, .int .i64 a2, .int .i64 a3, .int .i64 a4] 29)).frozen? ⟨w2.heap.size, o, none⟩ = false := fun o => by simp [go_sem]
        clear c0 b2 B1 Z1 HC1 q3 hb1 hb2
        go_upto_region 9 with fail
        obtain ⟨W2, hW⟩ : ∃ W, W = w2.alloc (.cells #[.int .i64 a1, .int .i64 a2, .int .i64 a3, .int .i64 a4] 29) := ⟨_, rfl⟩
        obtain ⟨m, hm⟩ : ∃ m, m = w2.heap.size := ⟨_, rfl⟩
        rw [← hW] at F2 Z2 B2 Z2f ⊢
        rw [← hm] at F2 M2 Z2f ⊢
        have FF := Lib.hid (⟨F2.out, Z2f⟩ : Four m a1 a2 a3 a4 W2 ∧ ∀ o, W2.frozen? ⟨m, o, none⟩ = false)
        clear hW hm Z2f F2
        go_wp2_with fail
        go_loopw [8] (fun x wr => ∃ k : Int, x = .int .i64 k ∧ (0 ≤ k ∧ k ≤ N) ∧ Hid (Four m a1 a2 a3 a4 wr ∧ ∀ o, wr.frozen? ⟨m, o, none⟩ = false) ∧ Hid (Zero4 (w.heap.size + 1) wr) ∧ Hid (Below w.heap.size w wr)) (fun x _ => (N - intOfS x).toNat)
        case atStart => exact ⟨0, rfl, ⟨by omega, N1⟩, FF, Z2, B2⟩
        case round =>
          clear FF Z2 B2
          obtain ⟨k, rfl, ⟨hk0, hk1⟩, F1, Z1, B1⟩ := hrel
          obtain ⟨z0, z1, z2, z3, z4⟩ := F1.out.1
          obtain ⟨pp, hp⟩ : ∃ p, (k + 1) * a4 = p := ⟨_, rfl⟩
          have pb := up_bd HNT.out hk0 hk1
          rw [hp] at pb
          obtain ⟨p1, p2⟩ := pb
          have sg := oct_sgnS HNT.out hp
          go_wp2_with fail
          refine (sign04_walk _ (a1 - pp) a2 a3 (by omega) (by omega) (by omega) (by omega) (by omega) (by omega)).mono ?_
          rintro e1 w2 ⟨rfl, h2⟩
          have F2 := Lib.hid (⟨four_keep h2 F1.out.1, fun o => (h2.frozen (p := ⟨m, o, none⟩) F1.out.1.1).trans (F1.out.2 o)⟩ : Four m a1 a2 a3 a4 w2 ∧ ∀ o, w2.frozen? ⟨m, o, none⟩ = false)
          have Z2 := Lib.hid (zero4_keep h2 Z1.out)
          have B2 := Lib.hid (B1.out.trans (h2.mono B1.out.size))
          clear z0 z1 z2 z3 z4 F1 B1 Z1 h2
          by_cases hs : 0 ≤ sgnP (a1 - pp) a2 a3
          · have hk2 := sg.1 hs
            have hk3 : k + 1 ≤ N := by have := HNT.out.2.1; omega
            go_wp2_with fail
            go_roundw
            case rel => exact ⟨k + 1, rfl, ⟨by omega, hk3⟩, F2, Z2, B2⟩
            case measure => simp [intOfS]; omega
          · have hk2 := sg.2 (by omega)
            clear sg p1 p2 hp
            go_wp2_with fail
            clear hs
            go_loopw [8] (fun x wr => ∃ k : Int, x = .int .i64 k ∧ (nn ≤ k ∧ k ≤ N) ∧ Hid (Four m a1 a2 a3 a4 wr ∧ ∀ o, wr.frozen? ⟨m, o, none⟩ = false) ∧ Hid (Zero4 (w.heap.size + 1) wr) ∧ Hid (Below w.heap.size w wr)) (fun x _ => (intOfS x - nn).toNat)
            case atStart => exact ⟨k, rfl, ⟨by omega, hk1⟩, F2, Z2, B2⟩
            case round =>
              clear F2 Z2 B2
              obtain ⟨l, rfl, ⟨hj0, hj1⟩, F2, Z2, B2⟩ := hrel
              obtain ⟨z0, z1, z2, z3, z4⟩ := F2.out.1
              obtain ⟨rr, hr⟩ : ∃ p, l * a4 = p := ⟨_, rfl⟩
              have rb := down_bd HNT.out hj0 hj1
              rw [hr] at rb
              obtain ⟨r1, r2⟩ := rb
              have SG := Lib.hid (oct_sgnS HNT.out hr)
              go_wp2_with fail
              refine (sign04_walk _ (a1 - rr) a2 a3 (by omega) (by omega) (by omega) (by omega) (by omega) (by omega)).mono ?_
              rintro e1 w3 ⟨rfl, h3⟩
              have F3 := Lib.hid (⟨four_keep h3 F2.out.1, fun o => (h3.frozen (p := ⟨m, o, none⟩) F2.out.1.1).trans (F2.out.2 o)⟩ : Four m a1 a2 a3 a4 w3 ∧ ∀ o, w3.frozen? ⟨m, o, none⟩ = false)
              have Z3 := Lib.hid (zero4_keep h3 Z2.out)
              have B3 := Lib.hid (B2.out.trans (h3.mono B2.out.size))
              clear z0 z1 z2 z3 z4 F2 Z2 B2 h3
              by_cases hs : sgnP (a1 - rr) a2 a3 < 0
              · have hj2 := SG.out.2 (by omega)
                go_wp2_with fail
                go_roundw
                case rel => exact ⟨l - 1, rfl, ⟨by omega, by omega⟩, F3, Z3, B3⟩
                case measure => simp [intOfS]; omega
              · have hj2 := SG.out.1 (by omega)
                obtain rfl : l = nn := by omega
                obtain ⟨⟨z0, z1, z2, z3, z4⟩, zf⟩ := F3.out
                obtain rfl : rr = mm := hr.symm.trans HO.out.mul
                have vu : IntKind.i64.wrap (a1 - rr) = u := by rw [IntWalk.i64_in _ (by omega)]; exact HO.out.less.symm
                have F4 : Hid (Four m u a2 a3 a4 (w3.setCell ⟨m, 0, none⟩ (.int .i64 u))) := Lib.hid ⟨by simpa using z0, by simp [go_sem, z1], by simp [go_sem, z2], by simp [go_sem, z3], by simp [go_sem, z4]⟩
                have Z4 := Lib.hid (zero4_oth (j := 0) (v := .int .i64 u) (show m ≠ w.heap.size + 1 from by omega) Z3.out)
                have B4 := Lib.hid (B3.out.setCell (p := ⟨m, 0, none⟩) (by simp only; omega) (.int .i64 u))
                clear HO SG F3 Z3 B3
                go_upto_region 15 with fail
                obtain ⟨W4, hW⟩ : ∃ W, W = w3.setCell ⟨m, 0, none⟩ (.int .i64 u) := ⟨_, rfl⟩
                rw [← hW] at F4 Z4 B4 ⊢
                clear hW z0 z1 z2 z3 z4 zf
                obtain ⟨_, y0, y1, y2, y3⟩ := F4.out
                go_wp2_with fail
                refine (calls_zero Z4.out (Below.refl _ _) (HE.out _)).mono ?_
                rintro e5 w5 ⟨rfl, hb, ⟨zm, z0, z1, z2, z3⟩, zf⟩
                have B5 := Lib.hid (B4.out.trans (hb.mono B4.out.size))
                clear y0 y1 y2 y3 hb B4 Z4 F4
                go_wp2_with fail
                obtain ⟨X, hX, ⟨gm, g0, g1, g2, g3⟩, gb⟩ := zed4_store (w := w) (p := p) (q := q) (r := r) (s := s) (by omega) B5.out ⟨zm, z0, z1, z2, z3⟩
                rw [← hX]
                have GB := Lib.hid gb
                clear hX gb z0 z1 z2 z3 zm zf B5
                refine bodyPost_ret (v := ivV p q r s) (by simp [results, Try.results28, go_sem, g0, g1, g2, g3]) rfl ⟨rfl, GB.out⟩
  · rw [hb] at CO
    obtain ⟨p0, c0, rfl⟩ := own_slice h
    clear h hl hb
    generalize xs.length = n at CO ⊢
    go_enter Try.func28, Try.ntmps28
    go_wp2_with fail
    refine CO.out.mono ?_
    rintro e1 w1 ⟨rfl, b1⟩
    obtain ⟨⟨zm, z0, z1, z2, z3⟩, zf⟩ : Zero4 (w.heap.size + 1) w1 := by simpa using zero4_keep b1 (zero4_alloc (w := w.alloc (.cells #[.slice p0 n c0] 26)) (t := 29))
    have B1 := Lib.hid ((below_alloc2 w (.cells #[.slice p0 n c0] 26) (.cells #[.int .i64 0, .int .i64 0, .int .i64 0, .int .i64 0] 29)).trans (b1.mono (by simp; omega)))
    clear b1
    go_wp2_with fail
    refine bodyPost_ret (v := ivV 0 0 0 0) (by simp [results, Try.results28, go_sem, z0, z1, z2, z3]) rfl ⟨rfl, ?_⟩
    repeat' (first | exact B1.out | (refine Below.setCell ?_ (by simp) _))
end Go.Proofs.Ytjfeeppbbckneaa
