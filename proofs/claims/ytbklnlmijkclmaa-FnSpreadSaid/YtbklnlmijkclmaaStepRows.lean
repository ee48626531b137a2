/- Rows of steps: contracts of laws.szStepS, toStepS, eqStepS, markStepS and heldStepS (steprows.py writes it out of the texts for rows of intervals). -/
import Derived.Test.YtbklnlmijkclmaaMarkIv
import Derived.Test.YtbklnlmijkclmaaIvOpen
namespace Go.Proofs.Ytbklnlmijkclmaa
open Go.RowKit Go.Joins
set_option linter.unusedVariables false
theorem toStep_any (a b c d : Int) (w : World) :
    Calls Try.prog 53 #[ivV a b c d] w fun e w' => e = .returned (ivV a b c d) ∧ Below w.heap.size w w' := by
  go_enter Try.func53, Try.ntmps53
  go_wp2
  refine bodyPost_ret (v := ivV a b c d) (by simp [results, Try.results53, go_sem]) rfl ⟨rfl, ?_⟩
  exact below_alloc3 _ _ _ _
set_option linter.unusedVariables false
theorem eqStep_same (a b c d : Int) (w : World) :
    Calls Try.prog 54 #[ivV a b c d, ivV a b c d] w fun e w' => e = .returned (.bool true) ∧ Below w.heap.size w w' := by
  go_enter Try.func54, Try.ntmps54
  go_wp2
  go_ret
  exact ⟨rfl, below_alloc2 _ _ _⟩
theorem infoSt : (Try.prog.info? 32).map (fun i => (i.zero, i.size, i.bytes)) = some (some (ivV 0 0 0 0), 4, 32) := by kernel_rfl
/-- What makes a row of intervals leaves. -/
def OwnSt (xs : List Iv) (w : World) (e : Ending) (w' : World) : Prop := ∃ v, e = .returned v ∧ w'.ownsRow w.heap.size 32 4 v xs.length (ivCs xs) ∧ Below w.heap.size w w'
theorem szSt_any (a : Option Addr) (len cap : Nat) (w : World) (hl : len ≤ 9223372036854775807) :
    Calls Try.prog 21 #[.slice a len cap, .int .i64 1048576] w fun e w' => e = .returned (.int .i64 (if 1048576 < len then -1 else 1048576 - (len : Int))) ∧ w = w' := by
  by_cases h : 1048576 < len
  · have t0 : (1048576 : Int) - (len : Int) < 0 := by omega
    have Y := Lib.hid h
    clear h
    go_enter Try.func21, Try.ntmps21
    go_wp2
    go_ret
    exact ⟨rfl, rfl⟩
  · have t0 : ¬ (1048576 : Int) - (len : Int) < 0 := by omega
    have Y := Lib.hid h
    have hl2 : len ≤ 1048576 := by omega
    clear h
    go_enter Try.func21, Try.ntmps21
    go_wp2
    go_ret
    exact ⟨rfl, rfl⟩
set_option maxRecDepth 100000 in
set_option maxHeartbeats 2000000 in
theorem toSteps_any (w : World) (a : Option Addr) (len cap : Nat) (xs : List Iv) (hr : IvRow w a len xs) (hl : len ≤ 1048576) :
    Calls Try.prog 23 #[.slice a len cap] w (OwnSt xs w) := by
  obtain ⟨i0, hi, hz0, hz1, hz2⟩ := info_parts4 infoSt
  have HL := Lib.hid hr.1
  have HR := Lib.hid hr
  clear hr
  go_enter Try.func23, Try.ntmps23
  go_wp2_with (at_make; refine wpList_make_full _ rfl _ _ 24 rfl w.heap.size 32 i0 (ivV 0 0 0 0) 4 Try.underlying24 hi hz0 hz1 _ _ _ _ len rfl rfl rfl rfl (by rw [hz2]; omega) (by unfold maxLen; omega) (Nat.le_refl _) ?_; intro w1 hown1 hgrow1)
  go_loopw [4] (fun i wr => ∃ k : Nat, k ≤ len ∧ i = .int .i64 k ∧ wr.ownsRow w.heap.size 32 4 (.slice (some ⟨w.heap.size, 0, none⟩) len len) len (ivCs (copiedIv xs k len)) ∧ Below w.heap.size w wr) (fun i _ => len - (intOf i).toNat)
  case atStart =>
    refine ⟨0, Nat.zero_le _, rfl, ?_, (Below.refl _ _).grown hgrow1 (Nat.le_refl _) (by simp)⟩
    rw [show copiedIv xs 0 len = List.replicate len ⟨0, 0, 0, 0⟩ from by simp [copiedIv], ivCs_rep, ← made4]
    exact hown1
  case round =>
    obtain ⟨k, hk, rfl, hown, hb⟩ := hrel
    clear hown1 hgrow1
    by_cases hlt : k < len
    · have q3 : (k : Int) < len := by omega
      obtain ⟨g, off, rfl, hg, h0, h1, h2, h3⟩ := HR.out.2.2 k hlt
      obtain ⟨X, hX⟩ : ∃ X, X = ivAt xs k := ⟨_, rfl⟩
      rw [← hX] at h0 h1 h2 h3
      have q0 := (hb.cell (p := ⟨g, off + k * 4, none⟩) hg).trans h0
      have q1 := (hb.cell (p := ⟨g, off + k * 4 + 1, none⟩) hg).trans h1
      have q2 := (hb.cell (p := ⟨g, off + k * 4 + 2, none⟩) hg).trans h2
      have q4 := (hb.cell (p := ⟨g, off + k * 4 + 3, none⟩) hg).trans h3
      have HXX := Lib.hid hX
      have HO := Lib.hid hown
      have HB := Lib.hid hb
      clear h0 h1 h2 h3 hX hown hb
      go_wp2_with fail
      refine (toStep_any _ _ _ _ _).mono ?_
      rintro en w2 ⟨rfl, hb2⟩
      have hown := own4_below HO.out hb2
      have bb := HB.out.trans (hb2.mono HB.out.size)
      have hcl : (copiedIv xs k len).length = len := copiedIv_len xs k len (by omega) HL.out
      obtain ⟨c0, c1, c2, c3⟩ := own_iv hown hcl.symm k hlt
      have f0 := hown.frozenAt (k * 4)
      have f1 := hown.frozenAt (k * 4 + 1)
      have f2 := hown.frozenAt (k * 4 + 2)
      have f3 := hown.frozenAt (k * 4 + 3)
      have R1 := ((((hown.stored (k * 4) (.int .i64 X.two)).1.stored (k * 4 + 1) (.int .i64 X.three)).1.stored (k * 4 + 2) (.int .i64 X.five)).1.stored (k * 4 + 3) (.int .i64 X.root)).1
      rw [ivCs_set _ k X (by omega)] at R1
      have R3 : Hid ((copiedIv xs k len).set k X = copiedIv xs (k + 1) len) := Lib.hid (by rw [HXX.out]; exact copiedIv_set xs k len hlt HL.out)
      rw [R3.out] at R1
      have R2 := (((bb.setCell (p := ⟨w.heap.size, k * 4, none⟩) (Nat.le_refl _) (.int .i64 X.two)).setCell (p := ⟨w.heap.size, k * 4 + 1, none⟩) (Nat.le_refl _) (.int .i64 X.three)).setCell (p := ⟨w.heap.size, k * 4 + 2, none⟩) (Nat.le_refl _) (.int .i64 X.five)).setCell (p := ⟨w.heap.size, k * 4 + 3, none⟩) (Nat.le_refl _) (.int .i64 X.root)
      generalize ivAt (copiedIv xs k len) k = Y at c0 c1 c2 c3
      clear hown bb hb2 q0 q1 q2 q4 hcl R3 HO HB
      go_wp2
      go_roundw
      case rel => exact ⟨k + 1, by omega, by go_num, R1, R2⟩
      case measure => simp [intOf]; omega
    · obtain rfl : k = len := by omega
      have q3 : ¬ (k : Int) < k := by omega
      have R1 := ownIv_eq (ys := xs) hown (by simp [copiedIv, ← HL.out]) HL.out.symm
      clear hown
      go_wp2
      go_ret
      exact ⟨_, rfl, R1, hb⟩
set_option maxRecDepth 100000 in
set_option maxHeartbeats 2000000 in
theorem eqSteps_same (w : World) (b1 b2 : Nat) (e1 e2 : TypeId) (v1 v2 : Value) (xs : List Iv) (hx : xs.length ≤ 2000000) (h1 : w.ownsRow b1 e1 4 v1 xs.length (ivCs xs)) (h2 : w.ownsRow b2 e2 4 v2 xs.length (ivCs xs)) :
    Calls Try.prog 24 #[v1, v2] w fun en w' => en = .returned (.bool true) ∧ Below w.heap.size w w' := by
  obtain ⟨n, hn⟩ : ∃ n, n = xs.length := ⟨_, rfl⟩
  rw [← hn] at h1 h2 hx
  have HN := Lib.hid hn
  clear hn
  have t0 : ((n : Int) != (n : Int)) = false := by simp
  rcases Nat.eq_zero_or_pos n with h0 | h0
  · obtain ⟨p1, c1, rfl⟩ := own4_zero h1 h0
    obtain ⟨p2, c2, rfl⟩ := own4_zero h2 h0
    clear h1 h2
    go_enter Try.func24, Try.ntmps24
    go_wp2
    refine wp_loop_rounds 1 ?_
    rw [rounds_succ]
    go_wp2
    go_ret
    exact ⟨rfl, Below.refl _ _⟩
  · obtain ⟨g1, c1, rfl, _, l1⟩ := own4_pos h1 h0
    obtain ⟨g2, c2, rfl, _, l2⟩ := own4_pos h2 h0
    have H1 := Lib.hid h1
    have H2 := Lib.hid h2
    have L := Lib.hid (And.intro l1 l2)
    clear h1 h2 l1 l2
    go_enter Try.func24, Try.ntmps24
    go_wp2
    go_loopw [5] (fun i wr => ∃ k : Nat, k ≤ n ∧ i = .int .i64 (k : Int) ∧ Below w.heap.size w wr) (fun i _ => n - (intOf i).toNat)
    case atStart => exact ⟨0, Nat.zero_le _, rfl, Below.refl _ _⟩
    case round =>
      obtain ⟨k, hk, rfl, hb⟩ := hrel
      have HB := Lib.hid hb
      by_cases hlt : k < n
      · have q3 : (k : Int) < n := by omega
        obtain ⟨X, hX⟩ : ∃ X, X = ivAt xs k := ⟨_, rfl⟩
        have r1 := own_iv (own4_below H1.out hb) HN.out k hlt
        have r2 := own_iv (own4_below H2.out hb) HN.out k hlt
        rw [← hX] at r1 r2
        have TB : Hid (TwoAt g1 g2 (k * 4) X wr) := Lib.hid ⟨Nat.lt_of_lt_of_le L.out.1 hb.size, Nat.lt_of_lt_of_le L.out.2 hb.size, r1, r2⟩
        clear hX r1 r2 hb
        go_upto_region 6 with fail
        obtain ⟨W1, hW1⟩ : ∃ y, y = wr := ⟨_, rfl⟩
        rw [← hW1] at TB HB ⊢
        clear hW1
        go_region_held3 (fun w' => w'.cell? ⟨g1, k * 4, none⟩ = some (.int .i64 X.two) ∧ w'.cell? ⟨g1, k * 4 + 1, none⟩ = some (.int .i64 X.three) ∧ w'.cell? ⟨g1, k * 4 + 2, none⟩ = some (.int .i64 X.five) ∧ w'.cell? ⟨g1, k * 4 + 3, none⟩ = some (.int .i64 X.root) ∧ w'.cell? ⟨g2, k * 4, none⟩ = some (.int .i64 X.two) ∧ w'.cell? ⟨g2, k * 4 + 1, none⟩ = some (.int .i64 X.three) ∧ w'.cell? ⟨g2, k * 4 + 2, none⟩ = some (.int .i64 X.five) ∧ w'.cell? ⟨g2, k * 4 + 3, none⟩ = some (.int .i64 X.root)) (with_reducible first | exact twoAt_cells (twoAt_drew TB.out) | exact twoAt_cells (twoAt_keep (by assumption) TB.out) | exact twoAt_cells TB.out)
          (first
            | (go_at_call 54; refine (calls_fromS (W := W1) (by with_reducible first | assumption | exact (Below.refl _ _).drew) (eqStep_same _ _ _ _ _)).mono ?_; rintro e1 w1 ⟨rfl, hb⟩))
        have R2 := HB.out.trans (hb.mono HB.out.size)
        clear hb TB HB
        go_wp2_with fail
        go_roundw
        case rel => exact ⟨k + 1, by omega, by go_num, R2⟩
        case measure => simp [intOf]; omega
      · have q3 : ¬ (k : Int) < n := by omega
        clear hb
        go_wp2_with fail
        go_ret
        exact ⟨rfl, HB.out⟩
set_option maxRecDepth 100000 in
set_option maxHeartbeats 2000000 in
theorem markSt_own (w : World) (base : Nat) (e : TypeId) (v : Value) (n : Nat) (f : Nat → Iv) (hn' : n ≤ 2000000) (h : w.ownsRow base e 4 v n (ivCs (rowL n f))) :
    Calls Try.prog 26 #[v, .int .i64 1] w fun en w' => en = .returned (.int .i64 (1 + 4 * (n : Int))) ∧ w'.ownsRow base e 4 v n (ivCs (rowL n (markI 1))) ∧ w.grownBy w' v.ownBlock := by
  rcases Nat.eq_zero_or_pos n with h0 | h0
  · obtain ⟨p1, c1, rfl⟩ := own4_zero h h0
    subst h0
    have HH := Lib.hid h
    clear h
    go_enter Try.func26, Try.ntmps26
    go_wp2
    refine wp_loop_rounds 1 ?_
    rw [rounds_succ]
    go_wp2
    go_ret
    exact ⟨ret_int (by omega), HH.out, World.grownBy.refl _ _⟩
  · obtain ⟨g, c, rfl, hg, hgl⟩ := own4_pos h h0
    have HH := Lib.hid h
    clear h
    go_enter Try.func26, Try.ntmps26
    go_wp2
    go_loopw [1, 5] (fun k i wr => ∃ (j : Nat) (z : Int), j ≤ n ∧ Hid (z = 1 + 4 * (j : Int)) ∧ i = .int .i64 j ∧ k = .int .i64 z ∧ Hid (wr.ownsRow base e 4 (.slice (some ⟨g, 0, none⟩) n c) n (ivCs (rowL n (markTo 1 j f)))) ∧ Hid (w.grownBy wr (some g))) (fun _ i _ => n - (intOf i).toNat)
    case atStart => exact ⟨0, 1, Nat.zero_le _, Lib.hid rfl, rfl, rfl, HH, Lib.hid (World.grownBy.refl _ _)⟩
    case round =>
      obtain ⟨j, z, hj, HZ, rfl, rfl, HO, HB⟩ := hrel
      by_cases hlt : j < n
      · have q3 : (j : Int) < n := by omega
        obtain ⟨z1, hz1⟩ : ∃ z1, z1 = z + 1 := ⟨_, rfl⟩
        obtain ⟨z2, hz2⟩ : ∃ z2, z2 = z1 + 1 := ⟨_, rfl⟩
        obtain ⟨z3, hz3⟩ : ∃ z3, z3 = z2 + 1 := ⟨_, rfl⟩
        obtain ⟨z4, hz4⟩ : ∃ z4, z4 = z3 + 1 := ⟨_, rfl⟩
        have hz := HZ.out
        have c1 : IntKind.i64.wrap (z + 1) = z1 := by rw [IntWalk.i64_in _ (by omega)]; omega
        have c2 : IntKind.i64.wrap (z1 + 1) = z2 := by rw [IntWalk.i64_in _ (by omega)]; omega
        have c3 : IntKind.i64.wrap (z2 + 1) = z3 := by rw [IntWalk.i64_in _ (by omega)]; omega
        have c4 : IntKind.i64.wrap (z3 + 1) = z4 := by rw [IntWalk.i64_in _ (by omega)]; omega
        have em : markI 1 j = ⟨z, z1, z2, z3⟩ := by
          unfold markI
          congr 1 <;> omega
        have E4 := Lib.hid (show z4 = 1 + 4 * ((j + 1 : Nat) : Int) by omega)
        have EM := Lib.hid em
        clear hz hz1 hz2 hz3 hz4 em
        obtain ⟨y0, y1, y2, y3⟩ := own_iv HO.out (rowL_len n _).symm j hlt
        have fz := HO.out.frozenAt
        go_upto_region 6 with fail
        obtain ⟨X1, hX1, k1, fz1⟩ := set_step (v := .int .i64 z) y1 (show j * 4 ≠ j * 4 + 1 by omega) fz
        have k2 := set_keep (v := .int .i64 z) y2 (show j * 4 ≠ j * 4 + 2 by omega)
        have k3 := set_keep (v := .int .i64 z) y3 (show j * 4 ≠ j * 4 + 3 by omega)
        rw [← hX1] at k2 k3
        rw [← hX1]
        have HX1 := Lib.hid hX1
        clear hX1 y0 y1 y2 y3 fz
        go_upto_region 8 with fail
        obtain ⟨X2, hX2, l2, fz2⟩ := set_step (v := .int .i64 z1) k2 (show j * 4 + 1 ≠ j * 4 + 2 by omega) fz1
        have l3 := set_keep (v := .int .i64 z1) k3 (show j * 4 + 1 ≠ j * 4 + 3 by omega)
        rw [← hX2] at l3
        rw [← hX2]
        have HX2 := Lib.hid hX2
        clear hX2 k1 k2 k3 fz1
        go_upto_region 10 with fail
        obtain ⟨X3, hX3, m3, fz3⟩ := set_step (v := .int .i64 z2) l3 (show j * 4 + 2 ≠ j * 4 + 3 by omega) fz2
        rw [← hX3]
        have HX3 := Lib.hid hX3
        clear hX3 l2 l3 fz2
        go_upto_region 11 with fail
        obtain ⟨X4, hX4⟩ : ∃ X, X = X3.setCell ⟨g, j * 4 + 3, none⟩ (.int .i64 z3) := ⟨_, rfl⟩
        rw [← hX4]
        have e4 : X4 = put4 wr g (j * 4) ⟨z, z1, z2, z3⟩ := by rw [hX4, HX3.out, HX2.out, HX1.out]; rfl
        have O4 := Lib.hid (show X4.ownsRow base e 4 (.slice (some ⟨g, 0, none⟩) n c) n (ivCs (rowL n (markTo 1 (j + 1) f))) from by
          rw [e4, ← markTo_step, EM.out]
          exact own_put4 HO.out hlt _)
        have B4 := Lib.hid (show w.grownBy X4 (some g) from by
          rw [hX4, HX3.out, HX2.out, HX1.out]
          exact grownV_set (grownV_set (grownV_set (grownV_set HB.out _ _) _ _) _ _) _ _)
        clear hX4 e4 m3 fz3 HX1 HX2 HX3 HO HB
        go_wp2_with fail
        go_roundw
        case rel => exact ⟨j + 1, z4, by omega, E4, by go_num, rfl, O4, B4⟩
        case measure => simp [intOf]; omega
      · have q3 : ¬ (j : Int) < n := by omega
        obtain rfl : j = n := by omega
        go_wp2_with fail
        go_ret
        refine ⟨ret_int HZ.out, ?_, HB.out⟩
        have := HO.out
        rwa [show rowL j (markTo 1 j f) = rowL j (markI 1) from rowL_congr fun t ht => if_pos ht] at this
set_option maxRecDepth 100000 in
set_option maxHeartbeats 2000000 in
theorem heldSt_own (w : World) (base : Nat) (e : TypeId) (v : Value) (n : Nat) (hn' : n ≤ 2000000) (h : w.ownsRow base e 4 v n (ivCs (rowL n (markI 1)))) :
    Calls Try.prog 27 #[v, .int .i64 1] w fun en w' => en = .returned (.int .i64 (1 + 4 * (n : Int))) ∧ w = w' := by
  rcases Nat.eq_zero_or_pos n with h0 | h0
  · obtain ⟨p1, c1, rfl⟩ := own4_zero h h0
    subst h0
    clear h
    go_enter Try.func27, Try.ntmps27
    go_wp2
    refine wp_loop_rounds 1 ?_
    rw [rounds_succ]
    go_wp2
    go_ret
    exact ⟨ret_int (by omega), rfl⟩
  · obtain ⟨g, c, rfl, hg, hgl⟩ := own4_pos h h0
    have HH := Lib.hid h
    clear h
    go_enter Try.func27, Try.ntmps27
    go_wp2
    go_loopw [1, 5] (fun k i wr => ∃ (j : Nat) (z : Int), j ≤ n ∧ Hid (z = 1 + 4 * (j : Int)) ∧ i = .int .i64 j ∧ k = .int .i64 z ∧ Hid (w = wr)) (fun _ i _ => n - (intOf i).toNat)
    case atStart => exact ⟨0, 1, Nat.zero_le _, Lib.hid rfl, rfl, rfl, Lib.hid rfl⟩
    case round =>
      obtain ⟨j, z, hj, HZ, rfl, rfl, HW⟩ := hrel
      by_cases hlt : j < n
      · have q3 : (j : Int) < n := by omega
        obtain ⟨z1, hz1⟩ : ∃ z1, z1 = z + 1 := ⟨_, rfl⟩
        obtain ⟨z2, hz2⟩ : ∃ z2, z2 = z1 + 1 := ⟨_, rfl⟩
        obtain ⟨z3, hz3⟩ : ∃ z3, z3 = z2 + 1 := ⟨_, rfl⟩
        obtain ⟨z4, hz4⟩ : ∃ z4, z4 = z3 + 1 := ⟨_, rfl⟩
        have hz := HZ.out
        have c1 : IntKind.i64.wrap (z + 1) = z1 := by rw [IntWalk.i64_in _ (by omega)]; omega
        have c2 : IntKind.i64.wrap (z1 + 1) = z2 := by rw [IntWalk.i64_in _ (by omega)]; omega
        have c3 : IntKind.i64.wrap (z2 + 1) = z3 := by rw [IntWalk.i64_in _ (by omega)]; omega
        have c4 : IntKind.i64.wrap (z3 + 1) = z4 := by rw [IntWalk.i64_in _ (by omega)]; omega
        have em : markI 1 j = ⟨z, z1, z2, z3⟩ := by
          unfold markI
          congr 1 <;> omega
        have E4 := Lib.hid (show z4 = 1 + 4 * ((j + 1 : Nat) : Int) by omega)
        obtain ⟨y0, y1, y2, y3⟩ := own_iv HH.out (rowL_len n _).symm j hlt
        rw [rowL_at _ hlt, em, HW.out] at y0 y1 y2 y3
        dsimp only at y0 y1 y2 y3
        clear hz hz1 hz2 hz3 hz4 em
        go_wp2_with fail
        go_roundw
        case rel => exact ⟨j + 1, z4, by omega, E4, by go_num, rfl, HW⟩
        case measure => simp [intOf]; omega
      · have q3 : ¬ (j : Int) < n := by omega
        obtain rfl : j = n := by omega
        go_wp2_with fail
        go_ret
        exact ⟨ret_int HZ.out, HW.out⟩
end Go.Proofs.Ytbklnlmijkclmaa
