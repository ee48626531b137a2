/- Contracts of impl.Closes, impl.LastPart, impl.partOfOthers, impl.WolfAt, impl.IsRegular and impl.GroupThirds. -/
import Derived.Test.YtjfeeppbbckneabClosImpl
import Derived.Test.YtjfeeppbbckneabBestCir
import Derived.Deep.RegionHeld3
namespace Go.Proofs.Ytjfeeppbbckneab
open Go.RowKit Go.Joins
set_option linter.unusedVariables false
set_option maxHeartbeats 1000000 in
theorem closes_impl : ClosesImpl := by
  intro xs w b e v hl h
  obtain ⟨n, hn⟩ : ∃ n, n = xs.length := ⟨_, rfl⟩
  rw [← hn] at h hl
  have HN := Lib.hid hn
  obtain ⟨y, hy⟩ : ∃ y, y = closB xs := ⟨_, rfl⟩
  rw [← hy]
  have HY := Lib.hid hy
  clear hn hy
  by_cases h12 : n = 12
  · subst h12
    obtain ⟨g, cap, rfl, _, hg⟩ := own_pos h (by omega)
    have HC := Lib.hid (fun j (hj : j < 12) => own_icell h j hj)
    have A := Lib.hid (areWithin_any w g cap 12 xs (-1000) 1000 (by omega) HC.out)
    clear h
    by_cases hin : InTo xs (-1000) 1000 12
    · rw [decide_eq_true hin] at A
      have C := Lib.hid (sumOf_wide w g cap 12 xs (by omega) hin HC.out)
      obtain ⟨S, hS⟩ : ∃ S, S = sumTo xs 12 := ⟨_, rfl⟩
      have R := Lib.hid (show y = (S == 12) from by rw [HY.out, hS]; exact clos_sum HN.out.symm hin)
      rw [← hS] at C
      clear hS hin
      go_enter Try.func29, Try.ntmps29
      go_wp2_with fail
      refine A.out.mono ?_
      rintro e1 w1 ⟨rfl, rfl⟩
      go_wp2_with fail
      refine C.out.mono ?_
      rintro e1 w1 ⟨rfl, rfl⟩
      go_wp2_with fail
      go_ret
      exact ⟨ret_bool R.out.symm, Below.refl _ _⟩
    · rw [decide_eq_false hin] at A
      have R := Lib.hid (show y = false from by rw [HY.out]; exact decide_eq_false (fun q : ClosOk xs => hin q.2.1))
      clear hin
      go_enter Try.func29, Try.ntmps29
      go_wp2_with fail
      refine A.out.mono ?_
      rintro e1 w1 ⟨rfl, rfl⟩
      go_wp2_with fail
      go_ret
      exact ⟨ret_bool R.out.symm, Below.refl _ _⟩
  · obtain ⟨p, c, rfl⟩ := own_slice h
    have t0 : ((n : Int) == (12 : Int)) = false := by simp; omega
    have R := Lib.hid (show y = false from by rw [HY.out]; exact clos_len (by have := HN.out; omega))
    clear h h12
    go_enter Try.func29, Try.ntmps29
    go_wp2_with fail
    go_ret
    exact ⟨ret_bool R.out.symm, Below.refl _ _⟩
set_option maxHeartbeats 1000000 in
theorem last_impl : LastImpl := by
  intro xs p z hf w b e v hl h
  obtain ⟨n, hn⟩ : ∃ n, n = xs.length := ⟨_, rfl⟩
  rw [← hn] at h hl
  have HN := Lib.hid hn
  have HF := Lib.hid hf
  clear hn hf
  by_cases h11 : n = 11
  · subst h11
    obtain ⟨g, cap, rfl, _, hg⟩ := own_pos h (by omega)
    have HC := Lib.hid (fun j (hj : j < 11) => own_icell h j hj)
    have A := Lib.hid (areWithin_any w g cap 11 xs 0 12 (by omega) HC.out)
    clear h
    by_cases hin : InTo xs 0 12 11
    · rw [decide_eq_true hin] at A
      have C := Lib.hid (sumOf_any w g cap 11 xs (by omega) hin HC.out)
      have hb := sumTo_bd hin 11 (Nat.le_refl _)
      obtain ⟨hp, hz⟩ : p = 12 - sumTo xs 11 ∧ z = true := HF.out.elim (fun q => q.2) (fun q => absurd ⟨HN.out.symm, hin⟩ q.1)
      obtain ⟨S, hS⟩ : ∃ S, S = sumTo xs 11 := ⟨_, rfl⟩
      rw [← hS] at C hb hp
      subst hz
      subst hp
      clear hS hin HF
      go_enter Try.func25, Try.ntmps25
      go_wp2_with fail
      refine A.out.mono ?_
      rintro e1 w1 ⟨rfl, rfl⟩
      go_wp2_with fail
      refine C.out.mono ?_
      rintro e1 w1 ⟨rfl, rfl⟩
      go_wp2_with fail
      go_ret2
      exact ⟨by trivial, Below.refl _ _⟩
    · rw [decide_eq_false hin] at A
      obtain ⟨hp, hz⟩ : p = 0 ∧ z = false := HF.out.elim (fun q => absurd q.1.2 hin) (fun q => q.2)
      subst hz
      subst hp
      clear hin HF
      go_enter Try.func25, Try.ntmps25
      go_wp2_with fail
      refine A.out.mono ?_
      rintro e1 w1 ⟨rfl, rfl⟩
      go_wp2_with fail
      go_ret2
      exact ⟨by trivial, Below.refl _ _⟩
  · obtain ⟨p0, c0, rfl⟩ := own_slice h
    have t0 : ((n : Int) != (11 : Int)) = true := by simp; omega
    obtain ⟨hp, hz⟩ : p = 0 ∧ z = false := HF.out.elim (fun q => absurd (HN.out.trans q.1.1) h11) (fun q => q.2)
    subst hz
    subst hp
    clear h h11 HF
    go_enter Try.func25, Try.ntmps25
    go_wp2_with fail
    go_ret2
    exact ⟨by trivial, Below.refl _ _⟩
/-- All parts other than that at i are the one behind it. -/
def PoIs (xs : List Int) (i : Nat) : Prop := ∀ j, j < 12 → j = i ∨ xs.getD j 0 = xs.getD ((i + 1) % 12) 0
/-- What partOfOthers answers. -/
def PoAt (xs : List Int) (i : Nat) (p : Int) (z : Bool) : Prop := (PoIs xs i ∧ p = xs.getD ((i + 1) % 12) 0 ∧ z = true) ∨ (¬ PoIs xs i ∧ p = 0 ∧ z = false)
theorem poAt_ex (xs : List Int) (i : Nat) : ∃ p z, PoAt xs i p z :=
  (Classical.em (PoIs xs i)).elim (fun h => ⟨_, _, .inl ⟨h, rfl, rfl⟩⟩) (fun h => ⟨_, _, .inr ⟨h, rfl, rfl⟩⟩)
theorem po_reg {xs : List Int} (hc : CirOk xs) : RegIs xs ↔ ∃ i, i < 12 ∧ PoIs xs i := by
  constructor
  · rintro ⟨_, k, hk, h⟩
    exact ⟨k, hk, fun j hj => (h j hj ((k + 1) % 12) (by omega)).elim .inl fun a => a.elim (fun b => by omega) .inr⟩
  · rintro ⟨k, hk, h⟩
    exact ⟨hc, k, hk, fun i hi j hj => (h i hi).elim .inl fun a => .inr ((h j hj).elim .inl fun b => .inr (a.trans b.symm))⟩
set_option maxRecDepth 100000 in
set_option maxHeartbeats 2000000 in
theorem po_impl {xs : List Int} {i : Nat} {p : Int} {z : Bool} (hf : PoAt xs i p z) (hi : i < 12) (w : World) (q c : Nat) (hq : q < w.heap.size) (hcl : ∀ j, j < 12 → w.cell? ⟨q, j, none⟩ = some (.int .i64 (xs.getD j 0))) :
    Calls Try.prog 52 #[cirV (.slice (some ⟨q, 0, none⟩) 12 c), .int .i64 i] w fun e w' => e = .returned (.tuple #[.int .i64 p, .bool z]) ∧ Below w.heap.size w w' := by
  obtain ⟨W0, hW0⟩ : ∃ W0, W0 = w.alloc (.cells #[.slice (some ⟨q, 0, none⟩) 12 c] 26) := ⟨_, rfl⟩
  have B0 : Hid (Below w.heap.size w W0) := Lib.hid (by rw [hW0]; exact below_alloc1 w _)
  have X0 : One w.heap.size (.slice (some ⟨q, 0, none⟩) 12 c) W0 := by rw [hW0]; exact one_alloc
  have CX0 : Hid (CirBox xs w.heap.size q c W0) := Lib.hid ⟨⟨X0.1, Nat.lt_of_lt_of_le hq B0.out.size⟩, X0.2.1, fun j hj => (B0.out.cell (p := ⟨q, j, none⟩) hq).trans (hcl j hj)⟩
  have HF := Lib.hid hf
  clear hf hcl hq X0
  go_enter Try.func52, Try.ntmps52
  go_upto_region 1 with fail
  rw [← hW0]
  clear hW0
  obtain ⟨m, hm⟩ : ∃ m, m = w.heap.size := ⟨_, rfl⟩
  rw [← hm] at CX0 ⊢
  have HM := Lib.hid hm
  clear hm
  obtain ⟨o, ho⟩ : ∃ o, o = xs.getD ((i + 1) % 12) 0 := ⟨_, rfl⟩
  have c0 := cirBox_cell CX0.out
  have q1 : W0.cell? ⟨q, (i + 1) % 12, none⟩ = some (.int .i64 o) := (CX0.out.2.2 _ (by omega)).trans (by rw [ho])
  have HO := Lib.hid ho
  have hl12 : (i + 1) % 12 < 12 := by omega
  clear ho
  go_wp2_with fail
  go_loopw [19] (fun x wr => ∃ t : Nat, t ≤ 12 ∧ x = .int .i64 (t : Int) ∧ Hid (∀ j, j < t → j = i ∨ xs.getD j 0 = o) ∧ wr = W0) (fun x _ => 12 - (intOf x).toNat)
  case atStart => exact ⟨0, Nat.zero_le _, by go_num, Lib.hid (fun j hj => by omega), rfl⟩
  case round =>
    obtain ⟨t, ht, rfl, HA, hwr⟩ := hrel
    have hwr2 := hwr.symm
    clear hwr
    subst hwr2
    by_cases hlt : t < 12
    · have q3 : (t : Int) < 12 := by omega
      obtain ⟨x, hx⟩ : ∃ x, x = xs.getD t 0 := ⟨_, rfl⟩
      have q4 : W0.cell? ⟨q, t, none⟩ = some (.int .i64 x) := (CX0.out.2.2 _ hlt).trans (by rw [hx])
      have HX := Lib.hid hx
      have HT := Lib.hid hlt
      clear hx hlt q1
      by_cases hti : t = i
      · have t1 : ((t : Int) != (i : Int)) = false := by simp [hti]
        have HI := Lib.hid hti
        clear hti
        go_wp2_with fail
        go_roundw
        case rel => exact ⟨t + 1, HT.out, by go_num, Lib.hid (fun j hj => (show j < t ∨ j = t from by omega).elim (HA.out j) (fun h => .inl (h.trans HI.out))), by first | trivial | rfl⟩
        case measure => simp [intOf]; omega
      · have t1 : ((t : Int) != (i : Int)) = true := by simp; omega
        have HI := Lib.hid hti
        clear hti
        by_cases hxo : x = o
        · have t2 : (x != o) = false := by simp [hxo]
          have HE := Lib.hid hxo
          clear hxo
          go_wp2_with fail
          go_roundw
          case rel => exact ⟨t + 1, HT.out, by go_num, Lib.hid (fun j hj => (show j < t ∨ j = t from by omega).elim (HA.out j) (fun h => .inr (by rw [h, ← HX.out]; exact HE.out))), by first | trivial | rfl⟩
          case measure => simp [intOf]; omega
        · have t2 : (x != o) = true := by simp [hxo]
          obtain ⟨hp, hz⟩ : p = 0 ∧ z = false := HF.out.elim (fun k => absurd ((k.1 t HT.out).resolve_left HI.out) (by rw [← HX.out, ← HO.out]; exact hxo)) (fun k => k.2)
          subst hp
          subst hz
          clear hxo HF
          go_wp2_with fail
          go_ret2
          exact ⟨by trivial, B0.out⟩
    · have q3 : ¬ (t : Int) < 12 := by omega
      obtain rfl : t = 12 := by omega
      obtain ⟨hp, hz⟩ : p = o ∧ z = true := HF.out.elim (fun k => ⟨k.2.1.trans HO.out.symm, k.2.2⟩) (fun k => absurd (fun j hj => by rw [← HO.out]; exact HA.out j hj) k.1)
      subst hp
      subst hz
      clear HF
      go_wp2_with fail
      go_ret2
      exact ⟨by trivial, B0.out⟩
set_option maxRecDepth 100000 in
set_option maxHeartbeats 4000000 in
theorem wolf_impl : WolfImpl := by
  intro xs y hf w b e v hl h
  have CO := Lib.hid (fun w (h : w.ownsRow b e 1 v xs.length (intCs xs)) => cirOk_impl w b e v xs hl h)
  have HH := Lib.hid h
  have HF := Lib.hid hf
  clear hf
  by_cases hc : CirOk xs
  · rw [show cirB xs = true from decide_eq_true hc] at CO
    obtain ⟨q, c, rfl, hq, _, _, hcl⟩ := cir_row h hc
    have HC := Lib.hid hc
    obtain ⟨W0, hW0⟩ : ∃ W0, W0 = w.alloc (.cells #[.slice (some ⟨q, 0, none⟩) 12 c] 26) := ⟨_, rfl⟩
    have B0 : Hid (Below w.heap.size w W0) := Lib.hid (by rw [hW0]; exact below_alloc1 w _)
    have X0 : One w.heap.size (.slice (some ⟨q, 0, none⟩) 12 c) W0 := by rw [hW0]; exact one_alloc
    have CX0 : Hid (CirBox xs w.heap.size q c W0) := Lib.hid ⟨⟨X0.1, Nat.lt_of_lt_of_le hq B0.out.size⟩, X0.2.1, fun j hj => (B0.out.cell (p := ⟨q, j, none⟩) hq).trans (hcl j hj)⟩
    have HH0 := Lib.hid (own_below HH.out B0.out)
    clear h hc hl hcl hq X0
    go_enter Try.func26, Try.ntmps26
    go_upto_region 1 with fail
    rw [← hW0]
    clear hW0
    obtain ⟨m, hm⟩ : ∃ m, m = w.heap.size := ⟨_, rfl⟩
    rw [← hm] at CX0 ⊢
    have HM := Lib.hid hm
    have c0 := cirBox_cell CX0.out
    clear hm
    go_wp2_with fail
    refine (CO.out _ HH0.out).mono ?_
    rintro e1 w1 ⟨rfl, b1⟩
    have B1 := Lib.hid (B0.out.trans (b1.mono B0.out.size))
    have CX1 := Lib.hid (cirBox_keep CX0.out b1)
    have c1 := cirBox_cell CX1.out
    clear c0 b1 CX0 B0 HH0
    go_wp2_with fail
    go_loopw [13] (fun x wr => ∃ k : Nat, k ≤ 12 ∧ x = .int .i64 (k : Int) ∧ Hid (∀ j, j < k → ¬ WolfIs xs j) ∧ Hid (Below w1.heap.size w1 wr)) (fun x _ => 12 - (intOf x).toNat)
    case atStart => exact ⟨0, Nat.zero_le _, by go_num, Lib.hid (fun j hj => by omega), Lib.hid (Below.refl _ _)⟩
    case round =>
      obtain ⟨k, hk, rfl, HN, HB⟩ := hrel
      have CB := Lib.hid (cirBox_keep CX1.out HB.out)
      clear c1
      by_cases hlt : k < 12
      · have q3 : (k : Int) < 12 := by omega
        obtain ⟨x, hx⟩ : ∃ x, x = xs.getD k 0 := ⟨_, rfl⟩
        have q4 : wr.cell? ⟨q, k, none⟩ = some (.int .i64 x) := (CB.out.2.2 _ hlt).trans (by rw [hx])
        have c2 := cirBox_cell CB.out
        obtain ⟨p, z, hpo⟩ := poAt_ex xs k
        have PO := Lib.hid (po_impl hpo hlt wr q c CB.out.1.2 CB.out.2.2)
        have HPO := Lib.hid hpo
        have HX := Lib.hid hx
        have HK := Lib.hid hlt
        clear hx hlt hpo
        go_wp2_with fail
        refine PO.out.mono ?_
        rintro e2 w2 ⟨rfl, b2⟩
        have B2 := Lib.hid (HB.out.trans (b2.mono HB.out.size))
        clear b2 c2 q4
        cases z
        · have HW : Hid (¬ WolfIs xs k) := Lib.hid (fun hw => HPO.out.elim (fun u => by cases u.2.2) (fun u => u.1 hw.2))
          go_wp2_with fail
          go_roundw
          case rel => exact ⟨k + 1, HK.out, by go_num, Lib.hid (fun j hj => (show j < k ∨ j = k from by omega).elim (HN.out j) (fun h => by rw [h]; exact HW.out)), B2⟩
          case measure => simp [intOf]; omega
        · have HP : Hid (PoIs xs k ∧ p = xs.getD ((k + 1) % 12) 0) := Lib.hid (HPO.out.elim (fun u => ⟨u.1, u.2.1⟩) (fun u => by cases u.2.2))
          by_cases hxp : x = p
          · have t2 : (x != p) = false := by simp [hxp]
            have HW : Hid (¬ WolfIs xs k) := Lib.hid (fun hw => hw.1 (by rw [← HX.out, ← HP.out.2]; exact hxp))
            clear hxp
            go_wp2_with fail
            go_roundw
            case rel => exact ⟨k + 1, HK.out, by go_num, Lib.hid (fun j hj => (show j < k ∨ j = k from by omega).elim (HN.out j) (fun h => by rw [h]; exact HW.out)), B2⟩
            case measure => simp [intOf]; omega
          · have t2 : (x != p) = true := by simp [hxp]
            have HW : Hid (WolfIs xs k) := Lib.hid ⟨by rw [← HX.out, ← HP.out.2]; exact hxp, HP.out.1⟩
            have HY := Lib.hid (wolf_at HF.out HC.out HK.out HW.out)
            have B3 := Lib.hid (B1.out.trans (B2.out.mono B1.out.size))
            clear hxp
            go_wp2_with fail
            go_ret
            exact ⟨ret_int HY.out.symm, B3.out⟩
      · have q3 : ¬ (k : Int) < 12 := by omega
        obtain rfl : k = 12 := by omega
        have HY := Lib.hid (wolf_no HF.out (fun _ => HN.out))
        have B3 := Lib.hid (B1.out.trans (HB.out.mono B1.out.size))
        go_wp2_with fail
        go_ret
        exact ⟨ret_int HY.out.symm, B3.out⟩
  · rw [show cirB xs = false from decide_eq_false hc] at CO
    obtain rfl := wolf_no HF.out (fun a => absurd a hc)
    obtain ⟨p0, c0, rfl⟩ := own_slice h
    have B0 := Lib.hid (below_alloc1 w (.cells #[.slice p0 xs.length c0] 26))
    have HH0 := Lib.hid (own_below HH.out B0.out)
    clear h hc hl
    generalize xs.length = n at CO B0 HH0 ⊢
    go_enter Try.func26, Try.ntmps26
    go_wp2_with fail
    refine (CO.out _ HH0.out).mono ?_
    rintro e1 w1 ⟨rfl, b1⟩
    have B1 := Lib.hid (B0.out.trans (b1.mono B0.out.size))
    clear b1
    go_wp2_with fail
    go_ret
    exact ⟨rfl, B1.out⟩
set_option maxRecDepth 100000 in
set_option maxHeartbeats 4000000 in
theorem regular_impl : RegularImpl := by
  intro xs y hf w b e v hl h
  have CO := Lib.hid (fun w (h : w.ownsRow b e 1 v xs.length (intCs xs)) => cirOk_impl w b e v xs hl h)
  have HH := Lib.hid h
  have HF := Lib.hid hf
  clear hf
  by_cases hc : CirOk xs
  · rw [show cirB xs = true from decide_eq_true hc] at CO
    obtain ⟨q, c, rfl, hq, _, _, hcl⟩ := cir_row h hc
    have HC := Lib.hid hc
    obtain ⟨W0, hW0⟩ : ∃ W0, W0 = w.alloc (.cells #[.slice (some ⟨q, 0, none⟩) 12 c] 26) := ⟨_, rfl⟩
    have B0 : Hid (Below w.heap.size w W0) := Lib.hid (by rw [hW0]; exact below_alloc1 w _)
    have X0 : One w.heap.size (.slice (some ⟨q, 0, none⟩) 12 c) W0 := by rw [hW0]; exact one_alloc
    have CX0 : Hid (CirBox xs w.heap.size q c W0) := Lib.hid ⟨⟨X0.1, Nat.lt_of_lt_of_le hq B0.out.size⟩, X0.2.1, fun j hj => (B0.out.cell (p := ⟨q, j, none⟩) hq).trans (hcl j hj)⟩
    have HH0 := Lib.hid (own_below HH.out B0.out)
    clear h hc hl hcl hq X0
    go_enter Try.func30, Try.ntmps30
    go_upto_region 1 with fail
    rw [← hW0]
    clear hW0
    obtain ⟨m, hm⟩ : ∃ m, m = w.heap.size := ⟨_, rfl⟩
    rw [← hm] at CX0 ⊢
    have HM := Lib.hid hm
    have c0 := cirBox_cell CX0.out
    clear hm
    go_wp2_with fail
    refine (CO.out _ HH0.out).mono ?_
    rintro e1 w1 ⟨rfl, b1⟩
    have B1 := Lib.hid (B0.out.trans (b1.mono B0.out.size))
    have CX1 := Lib.hid (cirBox_keep CX0.out b1)
    have c1 := cirBox_cell CX1.out
    clear c0 b1 CX0 B0 HH0
    go_wp2_with fail
    go_loopw [12] (fun x wr => ∃ k : Nat, k ≤ 12 ∧ x = .int .i64 (k : Int) ∧ Hid (∀ j, j < k → ¬ PoIs xs j) ∧ Hid (Below w1.heap.size w1 wr)) (fun x _ => 12 - (intOf x).toNat)
    case atStart => exact ⟨0, Nat.zero_le _, by go_num, Lib.hid (fun j hj => by omega), Lib.hid (Below.refl _ _)⟩
    case round =>
      obtain ⟨k, hk, rfl, HN, HB⟩ := hrel
      have CB := Lib.hid (cirBox_keep CX1.out HB.out)
      clear c1
      by_cases hlt : k < 12
      · have q3 : (k : Int) < 12 := by omega
        have c2 := cirBox_cell CB.out
        obtain ⟨p, z, hpo⟩ := poAt_ex xs k
        have PO := Lib.hid (po_impl hpo hlt wr q c CB.out.1.2 CB.out.2.2)
        have HPO := Lib.hid hpo
        have HK := Lib.hid hlt
        clear hlt hpo
        go_wp2_with fail
        refine PO.out.mono ?_
        rintro e2 w2 ⟨rfl, b2⟩
        have B2 := Lib.hid (HB.out.trans (b2.mono HB.out.size))
        clear b2 c2
        cases z
        · have HW : Hid (¬ PoIs xs k) := Lib.hid (HPO.out.elim (fun u => by cases u.2.2) (fun u => u.1))
          go_wp2_with fail
          go_roundw
          case rel => exact ⟨k + 1, HK.out, by go_num, Lib.hid (fun j hj => (show j < k ∨ j = k from by omega).elim (HN.out j) (fun h => by rw [h]; exact HW.out)), B2⟩
          case measure => simp [intOf]; omega
        · have HP : Hid (PoIs xs k) := Lib.hid (HPO.out.elim (fun u => u.1) (fun u => by cases u.2.2))
          have HY : Hid (y = true) := Lib.hid (HF.out.elim (fun u => u.2) (fun u => absurd ((po_reg HC.out).2 ⟨k, HK.out, HP.out⟩) u.1))
          have B3 := Lib.hid (B1.out.trans (B2.out.mono B1.out.size))
          go_wp2_with fail
          go_ret
          exact ⟨ret_bool HY.out.symm, B3.out⟩
      · have q3 : ¬ (k : Int) < 12 := by omega
        obtain rfl : k = 12 := by omega
        have HY : Hid (y = false) := Lib.hid (HF.out.elim (fun u => by obtain ⟨i, hi, hp⟩ := (po_reg HC.out).1 u.1; exact absurd hp (HN.out i hi)) (fun u => u.2))
        have B3 := Lib.hid (B1.out.trans (HB.out.mono B1.out.size))
        go_wp2_with fail
        go_ret
        exact ⟨ret_bool HY.out.symm, B3.out⟩
  · rw [show cirB xs = false from decide_eq_false hc] at CO
    obtain rfl := reg_no HF.out hc
    obtain ⟨p0, c0, rfl⟩ := own_slice h
    have B0 := Lib.hid (below_alloc1 w (.cells #[.slice p0 xs.length c0] 26))
    have HH0 := Lib.hid (own_below HH.out B0.out)
    clear h hc hl
    generalize xs.length = n at CO B0 HH0 ⊢
    go_enter Try.func30, Try.ntmps30
    go_wp2_with fail
    refine (CO.out _ HH0.out).mono ?_
    rintro e1 w1 ⟨rfl, b1⟩
    have B1 := Lib.hid (B0.out.trans (b1.mono B0.out.size))
    clear b1
    go_wp2_with fail
    go_ret
    exact ⟨rfl, B1.out⟩
/-- A third's parts behind a world that is named. -/
def PsSay (v : Value) (i p : Int) (W : World) : Prop := ∀ X, Below W.heap.size W X → Calls Try.prog 14 #[cirV v, .int .i64 i] X fun e w' => e = .returned (.int .i64 p) ∧ Below W.heap.size W w'
theorem ps_run {v : Value} {i p : Int} {W : World} (h : PsSay v i p W) (X : World) (hX : Below W.heap.size W X) : Calls Try.prog 14 #[cirV v, .int .i64 i] X fun e w' => e = .returned (.int .i64 p) ∧ Below W.heap.size W w' := h X hX
theorem gt_cyc {xs : List Int} {j : Nat} {p q r : Int} (hj : j < 4) (h : GtAt xs j p q r) : CycAt 4 xs j p ∧ CycAt 4 xs ((j : Int) + 4) q ∧ CycAt 4 xs ((j : Int) + 8) r := by
  rcases h with ⟨⟨hc, _⟩, rfl, rfl, rfl⟩ | ⟨hb, rfl, rfl, rfl⟩
  · refine ⟨.inl ⟨⟨hc, by omega, by omega⟩, rfl⟩, .inl ⟨⟨hc, by omega, by omega⟩, ?_⟩, .inl ⟨⟨hc, by omega, by omega⟩, ?_⟩⟩
    · rw [show ((j : Int) + 4).toNat = (j : Int).toNat + 4 from by omega]
    · rw [show ((j : Int) + 8).toNat = (j : Int).toNat + 8 from by omega]
  · have hc : cirB xs = false := by
      rw [decide_eq_true (show 0 ≤ (j : Int) ∧ (j : Int) ≤ 3 from by omega), Bool.and_true] at hb
      exact hb
    exact ⟨.inr ⟨by rw [hc, Bool.false_and], rfl⟩, .inr ⟨by rw [hc, Bool.false_and], rfl⟩, .inr ⟨by rw [hc, Bool.false_and], rfl⟩⟩
theorem one_p {w : World} {m : Nat} {v : Value} (h : One m v w) : w.cell? ⟨m, 0, none⟩ = some v := h.2.1
set_option maxRecDepth 100000 in
set_option maxHeartbeats 4000000 in
theorem groupThirds_impl : GroupThirdsImpl := by
  intro xs i p q r hf w b e v hl h
  have B0 := Lib.hid (below_alloc1 w (.cells #[v] 26))
  have C0 := Lib.hid (one_alloc (w := w) (v := v) (t := 26))
  have HV := own_slice h
  by_cases hi : 0 ≤ i ∧ i ≤ 3
  · obtain ⟨j, hj⟩ : ∃ j, j = i.toNat := ⟨_, rfl⟩
    have hi' : i = (j : Int) := by omega
    have hj4 : j < 4 := by omega
    subst hi'
    obtain ⟨h0, h4, h8⟩ := gt_cyc hj4 hf
    obtain ⟨W0, hW⟩ : ∃ W, W = w.alloc (.cells #[v] 26) := ⟨_, rfl⟩
    rw [← hW] at B0 C0
    have S0 : PsSay v (j : Int) p W0 := fun X hX => (parts_impl h0 X b e v hl (own_below h (B0.out.trans (hX.mono B0.out.size)))).mono fun _ _ ⟨he, hb⟩ => ⟨he, hX.trans (hb.mono hX.size)⟩
    have S4 : PsSay v ((j : Int) + 4) q W0 := fun X hX => (parts_impl h4 X b e v hl (own_below h (B0.out.trans (hX.mono B0.out.size)))).mono fun _ _ ⟨he, hb⟩ => ⟨he, hX.trans (hb.mono hX.size)⟩
    have S8 : PsSay v ((j : Int) + 8) r W0 := fun X hX => (parts_impl h8 X b e v hl (own_below h (B0.out.trans (hX.mono B0.out.size)))).mono fun _ _ ⟨he, hb⟩ => ⟨he, hX.trans (hb.mono hX.size)⟩
    have t4 : IntKind.i64.wrap ((j : Int) + 4) = (j : Int) + 4 := IntWalk.i64_in _ (by omega)
    have t8 : IntKind.i64.wrap ((j : Int) + 8) = (j : Int) + 8 := IntWalk.i64_in _ (by omega)
    obtain ⟨p0, c0, hv⟩ := HV
    generalize xs.length = n at hv
    subst hv
    have g0 : ¬ (j : Int) < 0 := by omega
    have g1 : ¬ (4 : Int) ≤ (j : Int) := by omega
    clear h hl hf h0 h4 h8 hj hi
    go_enter Try.func24, Try.ntmps24
    go_upto_region 1 with fail
    rw [← hW]
    obtain ⟨m, hm⟩ : ∃ m, m = w.heap.size := ⟨_, rfl⟩
    rw [← hm] at C0 ⊢
    clear hW hm
    have c1 := one_p C0.out
    go_upto_region 3 with fail
    go_region_held3 (fun w' => w'.cell? ⟨m, 0, none⟩ = some (.slice p0 n c0)) (with_reducible first | exact one_p (one_keep (Below.refl _ _).drew C0.out) | exact one_p (one_keep (by assumption) C0.out) | exact one_p C0.out)
      (first
        | (go_at_call 14; refine (ps_run (W := W0) (by with_reducible assumption) _ (by with_reducible first | assumption | exact (Below.refl _ _) | exact (Below.refl _ _).drew)).mono ?_; rintro e1 w3 ⟨rfl, hb⟩))
    all_goals
      have B3 := Lib.hid (B0.out.trans (hb.mono B0.out.size))
      go_wp2_with fail
      exact bodyPost_ret (v := .tuple #[.int .i64 p, .int .i64 q, .int .i64 r]) (by simp [results, Try.results24, go_sem]) rfl ⟨rfl, B3.out⟩
  · obtain ⟨hp, hq, hr⟩ : p = 0 ∧ q = 0 ∧ r = 0 := hf.elim (fun u => absurd u.1.2 hi) (fun u => u.2)
    subst hp
    subst hq
    subst hr
    obtain ⟨p0, c0, hv⟩ := HV
    generalize xs.length = n at hv
    subst hv
    clear h hl hf
    by_cases h0 : i < 0
    · clear hi
      go_enter Try.func24, Try.ntmps24
      go_wp2_with fail
      exact bodyPost_ret (v := .tuple #[.int .i64 0, .int .i64 0, .int .i64 0]) (by simp [results, Try.results24, go_sem]) rfl ⟨rfl, B0.out⟩
    · have h1 : 4 ≤ i := by omega
      clear hi
      go_enter Try.func24, Try.ntmps24
      go_wp2_with fail
      exact bodyPost_ret (v := .tuple #[.int .i64 0, .int .i64 0, .int .i64 0]) (by simp [results, Try.results24, go_sem]) rfl ⟨rfl, B0.out⟩
end Go.Proofs.Ytjfeeppbbckneab
