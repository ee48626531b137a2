/- The divisions that hide an interval; contracts of impl.DivisionsHiding and spec.DivisionsHiding. -/
import Derived.Test.YtfhefakacjkmiaaHidesLaw
import Derived.Test.YtfhefakacjkmiaaBestMap
import Derived.Test.YtfhefakacjkmiaaBigWalks
import Derived.Deep.AppendLies
namespace Go.Proofs.Ytfhefakacjkmiaa
open Go.RowKit Go.Joins
set_option linter.unusedVariables false
/-- Whether the division into n hides an interval. -/
def HideN (t h f d n : Int) (x : Bool) : Prop := ∃ a b c, BestAt n a b c ∧ HidesAt a b c t h f d x
theorem hideN_ex (t h f d n : Int) : ∃ x, HideN t h f d n x := by
  obtain ⟨a, b, c, hb⟩ := bestAt_ex n
  obtain ⟨x, hx⟩ := hidesAt_ex a b c t h f d
  exact ⟨x, a, b, c, hb, hx⟩
theorem hideN_pick (t h f d : Int) : ∃ p : Int → Bool, ∀ n, HideN t h f d n (p n) :=
  ⟨fun n => Classical.choose (hideN_ex t h f d n), fun n => Classical.choose_spec (hideN_ex t h f d n)⟩
/-- The numbers from 1 to k that p picks. -/
def divTo (p : Int → Bool) : Nat → List Int
  | 0 => []
  | k + 1 => if p ((k : Int) + 1) then divTo p k ++ [(k : Int) + 1] else divTo p k
theorem divTo_yes {p : Int → Bool} {k : Nat} (h : p ((k : Int) + 1) = true) : divTo p (k + 1) = divTo p k ++ [(k : Int) + 1] := by
  show (if p ((k : Int) + 1) then _ else _) = _
  rw [h]; rfl
theorem divTo_no {p : Int → Bool} {k : Nat} (h : p ((k : Int) + 1) = false) : divTo p (k + 1) = divTo p k := by
  show (if p ((k : Int) + 1) then _ else _) = _
  rw [h]; rfl
theorem divTo_len (p : Int → Bool) : ∀ k, (divTo p k).length ≤ k
  | 0 => Nat.le_refl _
  | k + 1 => by
    have := divTo_len p k
    unfold divTo
    split
    · rw [List.length_append]; simp; omega
    · omega
/-- What DivisionsHiding answers. -/
def DivAt (t h f d m : Int) (xs : List Int) : Prop :=
  (pure9 t h f d = true ∧ (0 ≤ m ∧ m ≤ 40) ∧ ∃ p, (∀ n, HideN t h f d n (p n)) ∧ xs = divTo p m.toNat) ∨ (pure9 t h f d = false ∧ xs = []) ∨ (pure9 t h f d = true ∧ ¬ (0 ≤ m ∧ m ≤ 40) ∧ xs = [])
theorem divAt_ex (t h f d m : Int) : ∃ xs, DivAt t h f d m xs := by
  obtain ⟨x, hx⟩ : ∃ x : Bool, pure9 t h f d = x := ⟨_, rfl⟩
  cases x
  · exact ⟨[], .inr (.inl ⟨hx, rfl⟩)⟩
  · by_cases hm : 0 ≤ m ∧ m ≤ 40
    · obtain ⟨p, hp⟩ := hideN_pick t h f d
      exact ⟨_, .inl ⟨hx, hm, p, hp, rfl⟩⟩
    · exact ⟨[], .inr (.inr ⟨hx, hm, rfl⟩)⟩
theorem divAt_len {t h f d m : Int} {xs : List Int} (H : DivAt t h f d m xs) : xs.length ≤ 40 := by
  rcases H with ⟨_, hm, p, _, rfl⟩ | ⟨_, rfl⟩ | ⟨_, _, rfl⟩
  · have := divTo_len p m.toNat
    omega
  · simp
  · simp
theorem ret_div {T : TypeId} {w w0 w' : World} {v : Value} {xs ys : List Int} (hx : ys = xs) (h : w'.ownsRow w0.heap.size T 1 v xs.length (intCs xs)) (h0 : Below w.heap.size w w0) (hb : Below w0.heap.size w0 w') : OwnPost T ys w (.returned v) w' := by
  subst hx; exact ⟨v, rfl, own_lower h h0.size, h0.trans (hb.mono h0.size)⟩
theorem ret_div0 {T : TypeId} {w w' : World} {ys : List Int} (hx : ys = []) (hb : Below w.heap.size w w') : OwnPost T ys w (.returned (.slice none 0 0)) w' := by
  subst hx; exact ⟨_, rfl, World.ownsRow_nil _ _ _ _, hb⟩
set_option maxRecDepth 100000 in
set_option maxHeartbeats 4000000 in
theorem div_impl {t h f d m : Int} {xs : List Int} (H : DivAt t h f d m xs) (w : World) :
    Calls Try.prog 10 #[ivV t h f d, .int .i64 m] w (OwnPost 3 xs w) := by
  rcases H with ⟨hi, hm, p, hp, hx⟩ | ⟨hi, hx⟩ | ⟨hi, hm, hx⟩
  · obtain ⟨M, rfl⟩ : ∃ M : Nat, m = (M : Int) := ⟨m.toNat, by omega⟩
    have hM : M ≤ 40 := by omega
    have HI := Lib.hid (fun w => pure9B hi w)
    have HP := Lib.hid hp
    have HX := Lib.hid (show xs = divTo p M from hx)
    have c1 : ¬ (M : Int) < 0 := by omega
    have c2 : ¬ 40 < (M : Int) := by omega
    obtain ⟨i0, hif, hz0, hz1, hz2⟩ := info_parts infoInt
    clear hi hm hp hx
    go_enter Try.func10, Try.ntmps10
    go_upto_region 1 with fail
    obtain ⟨W0, hW0⟩ : ∃ W0, W0 = w.alloc (.cells #[.int .i64 t, .int .i64 h, .int .i64 f, .int .i64 d] 29) := ⟨_, rfl⟩
    have F0 : Hid (Four w.heap.size t h f d W0) := Lib.hid (by rw [hW0]; exact four_alloc)
    have B0 : Hid (Below w.heap.size w W0) := Lib.hid (by rw [hW0]; exact below_alloc1 w _)
    rw [← hW0]
    clear hW0
    generalize hn : w.heap.size = n at F0 ⊢
    obtain ⟨_, z0, z1, z2, z3⟩ := F0.out
    go_wp2_with fail
    refine (HI.out _).mono ?_
    rintro e w1 ⟨rfl, h1⟩
    clear z0 z1 z2 z3
    have B1 := Lib.hid h1
    clear h1
    go_wp2_with fail
    go_loopw [5, 6] (fun v i wr => ∃ k : Nat, k ≤ M ∧ i = .int .i64 ((k : Int) + 1) ∧ Hid (wr.ownsRow W0.heap.size 3 1 v (divTo p k).length (intCs (divTo p k))) ∧ Hid (Below W0.heap.size W0 wr)) (fun _ i _ => (M + 1 - (intOf i).toNat))
    case atStart => exact ⟨0, Nat.zero_le _, by go_num, World.ownsRow_nil _ _ _ _, B1⟩
    case round =>
      obtain ⟨k, hk, rfl, HO, HB⟩ := hrel
      by_cases hlt : (k : Int) + 1 ≤ (M : Int)
      · obtain ⟨x, hx⟩ : ∃ x, p ((k : Int) + 1) = x := ⟨_, rfl⟩
        have hp := HP.out ((k : Int) + 1)
        rw [hx] at hp
        obtain ⟨a, b, c, hb, hh⟩ := hp
        have BM := Lib.hid (fun w => best_impl hb w)
        have HH := Lib.hid (fun w => hides_impl hh w)
        have F1 := Lib.hid (four_keep HB.out F0.out)
        clear hb hh B1
        cases x
        · have NX := Lib.hid (divTo_no hx)
          clear hx
          go_upto_region 7 with fail
          obtain ⟨_, z0, z1, z2, z3⟩ := F1.out
          go_region_held3 (fun w' => w'.cell? ⟨n, 0, none⟩ = some (.int .i64 t) ∧ w'.cell? ⟨n, 1, none⟩ = some (.int .i64 h) ∧ w'.cell? ⟨n, 2, none⟩ = some (.int .i64 f) ∧ w'.cell? ⟨n, 3, none⟩ = some (.int .i64 d)) (with_reducible first | exact four_cellsF (four_drewF F1.out) | exact four_cellsF (four_keep (by assumption) F1.out))
            (first
              | (go_at_call 20; refine (calls_fromF (W := wr) (by with_reducible first | assumption | exact (Below.refl _ _).drew) (BM.out _)).mono ?_; rintro e1 w2 ⟨rfl, hb⟩)
              | (go_at_call 8; refine (calls_fromF (W := wr) (by with_reducible first | assumption | exact (Below.refl _ _).drew) (HH.out _)).mono ?_; rintro e1 w2 ⟨rfl, hb⟩))
          all_goals
            have O2 := Lib.hid (own_below HO.out hb)
            have B2 := Lib.hid (HB.out.trans (hb.mono HB.out.size))
            clear hb HO HB F1
            go_wp2_with fail
            go_roundw
            case rel => exact ⟨k + 1, by omega, by go_num, Lib.hid (by rw [NX.out]; exact O2.out), B2⟩
            case measure => simp [intOf]; omega
        · have NX := Lib.hid (divTo_yes hx)
          have LB := divTo_len p k
          obtain ⟨L, hL⟩ : ∃ L, L = (divTo p k).length := ⟨_, rfl⟩
          rw [← hL] at LB
          have HL := Lib.hid hL
          have HOL : Hid (wr.ownsRow W0.heap.size 3 1 u5 L (intCs (divTo p k))) := Lib.hid (by rw [hL]; exact HO.out)
          clear hx hL HO
          go_upto_region 7 with fail
          obtain ⟨_, z0, z1, z2, z3⟩ := F1.out
          go_region_held3 (fun w' => w'.cell? ⟨n, 0, none⟩ = some (.int .i64 t) ∧ w'.cell? ⟨n, 1, none⟩ = some (.int .i64 h) ∧ w'.cell? ⟨n, 2, none⟩ = some (.int .i64 f) ∧ w'.cell? ⟨n, 3, none⟩ = some (.int .i64 d)) (with_reducible first | exact four_cellsF (four_drewF F1.out) | exact four_cellsF (four_keep (by assumption) F1.out))
            (first
              | (go_at_call 20; refine (calls_fromF (W := wr) (by with_reducible first | assumption | exact (Below.refl _ _).drew) (BM.out _)).mono ?_; rintro e1 w2 ⟨rfl, hb⟩)
              | (go_at_call 8; refine (calls_fromF (W := wr) (by with_reducible first | assumption | exact (Below.refl _ _).drew) (HH.out _)).mono ?_; rintro e1 w2 ⟨rfl, hb⟩))
          all_goals
            have O2 := Lib.hid (own_below HOL.out hb)
            have B2 := Lib.hid (HB.out.trans (hb.mono HB.out.size))
            clear z0 z1 z2 z3 hb HOL HB F1
            go_wp2_with (at_builtin; refine wpList_append_lies _ rfl (.tmp 27) (.tmp 29) 32 rfl W0.heap.size 3 i0 (.int .i64 0) 1 8 Try.underlying32 hif hz0 hz1 hz2 rfl (by decide) _ L _ rfl (O2.out.alloc _) ⟨_, 0, none⟩ 1 1 _ rfl rfl (World.news_of_block (heap_alloc_new _ _)) (by simp [Value.oneCell']) (by decide) (by unfold maxLen; omega) (by omega) (by have := B2.out.size; simp; omega) _ rfl ?_; intro g1 cap1 w5 hown' hgrow hat hgt)
            have R5 := Lib.hid ((B2.out.alloc B2.out.size _).grown hgrow (Nat.le_trans B2.out.size (by simp)) (fun j hj => (O2.out.lt j hj).1))
            have O5 := Lib.hid (isnoc HL.out hown')
            clear hown' hgrow hat hgt O2 B2
            go_wp2_with fail
            go_roundw
            case rel => exact ⟨k + 1, by omega, by go_num, Lib.hid (by rw [NX.out]; exact O5.out), R5⟩
            case measure => simp [intOf]; omega
      · obtain rfl : k = M := by omega
        clear B1
        go_wp2_with fail
        go_ret
        subst hn
        exact ret_div HX.out HO.out B0.out HB.out
  · have HI := Lib.hid (fun w => pure9B hi w)
    have HX := Lib.hid hx
    clear hi hx
    go_enter Try.func10, Try.ntmps10
    go_wp2_with fail
    refine (HI.out _).mono ?_
    rintro e w1 ⟨rfl, h1⟩
    have B1 := Lib.hid ((below_alloc1 w _).trans (h1.mono (by simp)))
    clear h1
    go_wp2_with fail
    go_ret
    exact ret_div0 HX.out B1.out
  · have HI := Lib.hid (fun w => pure9B hi w)
    have HX := Lib.hid hx
    clear hi hx
    by_cases c1 : m < 0
    · clear hm
      go_enter Try.func10, Try.ntmps10
      go_wp2_with fail
      refine (HI.out _).mono ?_
      rintro e w1 ⟨rfl, h1⟩
      have B1 := Lib.hid ((below_alloc1 w _).trans (h1.mono (by simp)))
      clear h1
      go_wp2_with fail
      go_ret
      exact ret_div0 HX.out B1.out
    · have c2 : 40 < m := by omega
      clear hm
      go_enter Try.func10, Try.ntmps10
      go_wp2_with fail
      refine (HI.out _).mono ?_
      rintro e w1 ⟨rfl, h1⟩
      have B1 := Lib.hid ((below_alloc1 w _).trans (h1.mono (by simp)))
      clear h1
      go_wp2_with fail
      go_ret
      exact ret_div0 HX.out B1.out
theorem pure9_parts {t h f d : Int} (H : pure9 t h f d = true) : okI t h f d = true ∧ d = 1 := by
  unfold pure9 at H
  simpa using H
theorem pure9_not {t h f d : Int} (H : pure9 t h f d = false) : okI t h f d = false ∨ (okI t h f d = true ∧ ¬ d = 1) := by
  unfold pure9 at H
  cases hk : okI t h f d
  · exact .inl rfl
  · rw [hk] at H
    exact .inr ⟨rfl, by simpa using H⟩
theorem ret_div1 {T : TypeId} {w w' : World} {v : Value} {ys : List Int} (hx : ys = []) (h : w'.ownsRow w.heap.size T 1 v ([] : List Int).length (intCs [])) (hb : Below w.heap.size w w') : OwnPost T ys w (.returned v) w' := by
  subst hx; exact ⟨v, rfl, h, hb⟩
set_option maxRecDepth 100000 in
set_option maxHeartbeats 4000000 in
theorem div_spec {t h f d m : Int} {xs : List Int} (H : DivAt t h f d m xs) (w : World) :
    Calls Try.prog 9 #[ivV t h f d, .int .i64 m] w (OwnPost 3 xs w) := by
  rcases H with ⟨hi, hm, p, hp, hx⟩ | ⟨hi, hx⟩ | ⟨hi, hm, hx⟩
  · obtain ⟨M, rfl⟩ : ∃ M : Nat, m = (M : Int) := ⟨m.toNat, by omega⟩
    have hM : M ≤ 40 := by omega
    obtain ⟨hi1, hi2⟩ := pure9_parts hi
    subst hi2
    have HI := Lib.hid (fun w => sokIB hi1 w)
    have D := Lib.hid (decide_eq_true hm)
    have HP := Lib.hid hp
    have HX := Lib.hid (show xs = divTo p M from hx)
    obtain ⟨i0, hif, hz0, hz1, hz2⟩ := info_parts infoInt
    clear hi hi1 hm hp hx
    go_enter Try.func9, Try.ntmps9
    go_upto_region 1 with fail
    obtain ⟨W0, hW0⟩ : ∃ W0, W0 = w.alloc (.cells #[.int .i64 t, .int .i64 h, .int .i64 f, .int .i64 1] 29) := ⟨_, rfl⟩
    have F0 : Hid (Four w.heap.size t h f 1 W0) := Lib.hid (by rw [hW0]; exact four_alloc)
    have B0 : Hid (Below w.heap.size w W0) := Lib.hid (by rw [hW0]; exact below_alloc1 w _)
    rw [← hW0]
    clear hW0
    generalize hn : w.heap.size = n at F0 ⊢
    go_upto_region 2 with fail
    obtain ⟨W1, hW1⟩ : ∃ W1, W1 = W0.alloc (.cells #[] 3) := ⟨_, rfl⟩
    obtain ⟨g0, hg0⟩ : ∃ g0, g0 = W0.heap.size := ⟨_, rfl⟩
    have O1 : Hid (W1.ownsRow g0 3 1 (.slice (some ⟨g0, 0, none⟩) 0 0) ([] : List Int).length (intCs [])) := Lib.hid (by rw [hW1, hg0]; exact own_zero_lit W0 _)
    have B1 : Hid (Below g0 W0 W1) := Lib.hid (by rw [hW1, hg0]; exact below_alloc1 W0 _)
    have F1 : Hid (Four n t h f 1 W1) := Lib.hid (by rw [hW1]; exact four_alF F0.out)
    rw [← hW1, ← hg0]
    clear hW1
    have HG := Lib.hid hg0
    clear hg0
    obtain ⟨_, z0, z1, z2, z3⟩ := F1.out
    go_wp2_with fail
    refine (HI.out _).mono ?_
    rintro e w2 ⟨rfl, h1⟩
    clear z0 z1 z2 z3
    have O2 := Lib.hid (own_below O1.out h1)
    have B2 : Hid (Below g0 W0 w2) := Lib.hid (B1.out.trans (h1.mono (by have := B1.out.size; have := HG.out; omega)))
    have F2 := Lib.hid (four_keep h1 F1.out)
    clear h1 O1 B1 F1
    obtain ⟨_, z0, z1, z2, z3⟩ := F2.out
    go_wp2_with fail
    refine (inT_any _ _ _ _).mono ?_
    rintro e w3 ⟨rfl, rfl⟩
    rw [D.out]
    clear z0 z1 z2 z3 F2
    have O3 := Lib.hid (own_lower (base' := W0.heap.size) O2.out (Nat.le_of_eq HG.out.symm))
    rw [HG.out] at B2
    clear O2
    go_wp2_with fail
    go_loopw [5, 6] (fun v i wr => ∃ k : Nat, k ≤ M ∧ i = .int .i64 ((k : Int) + 1) ∧ Hid (wr.ownsRow W0.heap.size 3 1 v (divTo p k).length (intCs (divTo p k))) ∧ Hid (Below W0.heap.size W0 wr)) (fun _ i _ => (M + 1 - (intOf i).toNat))
    case atStart => exact ⟨0, Nat.zero_le _, by go_num, O3, B2⟩
    case round =>
      obtain ⟨k, hk, rfl, HO, HB⟩ := hrel
      by_cases hlt : (k : Int) + 1 ≤ (M : Int)
      · obtain ⟨x, hx⟩ : ∃ x, p ((k : Int) + 1) = x := ⟨_, rfl⟩
        have hp := HP.out ((k : Int) + 1)
        rw [hx] at hp
        obtain ⟨a, b, c, hb, hh⟩ := hp
        have BM := Lib.hid (fun w => best_spec hb w)
        have HH := Lib.hid (fun w => hides_spec hh w)
        have F1 := Lib.hid (four_keep HB.out F0.out)
        clear hb hh O3 B2
        cases x
        · have NX := Lib.hid (divTo_no hx)
          clear hx
          go_upto_region 7 with fail
          obtain ⟨_, z0, z1, z2, z3⟩ := F1.out
          go_region_held3 (fun w' => w'.cell? ⟨n, 0, none⟩ = some (.int .i64 t) ∧ w'.cell? ⟨n, 1, none⟩ = some (.int .i64 h) ∧ w'.cell? ⟨n, 2, none⟩ = some (.int .i64 f) ∧ w'.cell? ⟨n, 3, none⟩ = some (.int .i64 1)) (with_reducible first | exact four_cellsF (four_drewF F1.out) | exact four_cellsF (four_keep (by assumption) F1.out))
            (first
              | (go_at_call 18; refine (calls_fromF (W := wr) (by with_reducible first | assumption | exact (Below.refl _ _).drew) (BM.out _)).mono ?_; rintro e1 w2 ⟨rfl, hb⟩)
              | (go_at_call 5; refine (calls_fromF (W := wr) (by with_reducible first | assumption | exact (Below.refl _ _).drew) (HH.out _)).mono ?_; rintro e1 w2 ⟨rfl, hb⟩))
          all_goals
            have O2 := Lib.hid (own_below HO.out hb)
            have B2 := Lib.hid (HB.out.trans (hb.mono HB.out.size))
            clear hb HO HB F1
            go_wp2_with fail
            go_roundw
            case rel => exact ⟨k + 1, by omega, by go_num, Lib.hid (by rw [NX.out]; exact O2.out), B2⟩
            case measure => simp [intOf]; omega
        · have NX := Lib.hid (divTo_yes hx)
          have LB := divTo_len p k
          obtain ⟨L, hL⟩ : ∃ L, L = (divTo p k).length := ⟨_, rfl⟩
          rw [← hL] at LB
          have HL := Lib.hid hL
          have HOL : Hid (wr.ownsRow W0.heap.size 3 1 u5 L (intCs (divTo p k))) := Lib.hid (by rw [hL]; exact HO.out)
          clear hx hL HO
          go_upto_region 7 with fail
          obtain ⟨_, z0, z1, z2, z3⟩ := F1.out
          go_region_held3 (fun w' => w'.cell? ⟨n, 0, none⟩ = some (.int .i64 t) ∧ w'.cell? ⟨n, 1, none⟩ = some (.int .i64 h) ∧ w'.cell? ⟨n, 2, none⟩ = some (.int .i64 f) ∧ w'.cell? ⟨n, 3, none⟩ = some (.int .i64 1)) (with_reducible first | exact four_cellsF (four_drewF F1.out) | exact four_cellsF (four_keep (by assumption) F1.out))
            (first
              | (go_at_call 18; refine (calls_fromF (W := wr) (by with_reducible first | assumption | exact (Below.refl _ _).drew) (BM.out _)).mono ?_; rintro e1 w2 ⟨rfl, hb⟩)
              | (go_at_call 5; refine (calls_fromF (W := wr) (by with_reducible first | assumption | exact (Below.refl _ _).drew) (HH.out _)).mono ?_; rintro e1 w2 ⟨rfl, hb⟩))
          all_goals
            have O2 := Lib.hid (own_below HOL.out hb)
            have B2 := Lib.hid (HB.out.trans (hb.mono HB.out.size))
            clear z0 z1 z2 z3 hb HOL HB F1
            go_wp2_with (at_builtin; refine wpList_append_lies _ rfl (.tmp 31) (.tmp 33) 32 rfl W0.heap.size 3 i0 (.int .i64 0) 1 8 Try.underlying32 hif hz0 hz1 hz2 rfl (by decide) _ L _ rfl (O2.out.alloc _) ⟨_, 0, none⟩ 1 1 _ rfl rfl (World.news_of_block (heap_alloc_new _ _)) (by simp [Value.oneCell']) (by decide) (by unfold maxLen; omega) (by omega) (by have := B2.out.size; simp; omega) _ rfl ?_; intro g1 cap1 w5 hown' hgrow hat hgt)
            have R5 := Lib.hid ((B2.out.alloc B2.out.size _).grown hgrow (Nat.le_trans B2.out.size (by simp)) (fun j hj => (O2.out.lt j hj).1))
            have O5 := Lib.hid (isnoc HL.out hown')
            clear hown' hgrow hat hgt O2 B2
            go_wp2_with fail
            go_roundw
            case rel => exact ⟨k + 1, by omega, by go_num, Lib.hid (by rw [NX.out]; exact O5.out), R5⟩
            case measure => simp [intOf]; omega
      · obtain rfl : k = M := by omega
        clear O3 B2
        go_wp2_with fail
        go_ret
        subst hn
        exact ret_div HX.out HO.out B0.out HB.out
  · have HI : Hid (okI t h f d = false ∨ (okI t h f d = true ∧ ¬ d = 1)) := Lib.hid (pure9_not hi)
    have HX := Lib.hid hx
    clear hi hx
    obtain ⟨u, hu⟩ : ∃ u, okI t h f d = u := ⟨_, rfl⟩
    have HU := Lib.hid (fun w => sokIB hu w)
    have HD : Hid (u = true → ¬ d = 1) := Lib.hid (fun e => HI.out.elim (fun q => by rw [← hu, q] at e; cases e) (fun q => q.2))
    clear hu HI
    go_enter Try.func9, Try.ntmps9
    go_upto_region 2 with fail
    obtain ⟨W1, hW1⟩ : ∃ W1, W1 = (w.alloc (.cells #[.int .i64 t, .int .i64 h, .int .i64 f, .int .i64 d] 29)).alloc (.cells #[] 3) := ⟨_, rfl⟩
    have O1 : Hid (W1.ownsRow w.heap.size 3 1 (.slice (some ⟨w.heap.size + 1, 0, none⟩) 0 0) ([] : List Int).length (intCs [])) := Lib.hid (by rw [hW1]; exact zero_lit2 w _ _)
    have B1 : Hid (Below w.heap.size w W1) := Lib.hid (by rw [hW1]; exact below_alloc2 _ _ _)
    have F1 : Hid (Four w.heap.size t h f d W1) := Lib.hid (by rw [hW1]; exact four_alF four_alloc)
    rw [← hW1]
    clear hW1
    generalize hn : w.heap.size = n at F1 ⊢
    obtain ⟨_, z0, z1, z2, z3⟩ := F1.out
    have HN := Lib.hid hn
    have zz : (w.alloc (.cells #[.int .i64 t, .int .i64 h, .int .i64 f, .int .i64 d] 29)).heap.size = n + 1 := by simp [hn]
    try rw [zz]
    go_wp2_with fail
    refine (HU.out _).mono ?_
    rintro e w2 ⟨rfl, h1⟩
    clear z0 z1 z2 z3
    have O2 := Lib.hid (own_below O1.out h1)
    have B2 := Lib.hid (B1.out.trans (h1.mono B1.out.size))
    have F2 := Lib.hid (four_keep h1 F1.out)
    clear h1 O1 B1 F1
    cases u
    · go_wp2_with fail
      go_ret
      rw [← HN.out]
      exact ret_div1 HX.out O2.out B2.out
    · have hd := HD.out rfl
      have td : (d != 1) = true := by simp [hd]
      obtain ⟨_, z0, z1, z2, z3⟩ := F2.out
      go_wp2_with fail
      go_ret
      rw [← HN.out]
      exact ret_div1 HX.out O2.out B2.out
  · obtain ⟨hi1, hi2⟩ := pure9_parts hi
    subst hi2
    have HI := Lib.hid (fun w => sokIB hi1 w)
    have D := Lib.hid (decide_eq_false hm)
    have HX := Lib.hid hx
    clear hi hi1 hx hm
    go_enter Try.func9, Try.ntmps9
    go_upto_region 2 with fail
    obtain ⟨W1, hW1⟩ : ∃ W1, W1 = (w.alloc (.cells #[.int .i64 t, .int .i64 h, .int .i64 f, .int .i64 1] 29)).alloc (.cells #[] 3) := ⟨_, rfl⟩
    have O1 : Hid (W1.ownsRow w.heap.size 3 1 (.slice (some ⟨w.heap.size + 1, 0, none⟩) 0 0) ([] : List Int).length (intCs [])) := Lib.hid (by rw [hW1]; exact zero_lit2 w _ _)
    have B1 : Hid (Below w.heap.size w W1) := Lib.hid (by rw [hW1]; exact below_alloc2 _ _ _)
    have F1 : Hid (Four w.heap.size t h f 1 W1) := Lib.hid (by rw [hW1]; exact four_alF four_alloc)
    rw [← hW1]
    clear hW1
    generalize hn : w.heap.size = n at F1 ⊢
    obtain ⟨_, z0, z1, z2, z3⟩ := F1.out
    have HN := Lib.hid hn
    go_wp2_with fail
    refine (HI.out _).mono ?_
    rintro e w2 ⟨rfl, h1⟩
    clear z0 z1 z2 z3
    have O2 := Lib.hid (own_below O1.out h1)
    have B2 := Lib.hid (B1.out.trans (h1.mono B1.out.size))
    have F2 := Lib.hid (four_keep h1 F1.out)
    clear h1 O1 B1 F1
    obtain ⟨_, z0, z1, z2, z3⟩ := F2.out
    go_wp2_with fail
    refine (inT_any _ _ _ _).mono ?_
    rintro e w3 ⟨rfl, rfl⟩
    rw [D.out]
    go_wp2_with fail
    go_ret
    rw [← HN.out]
    exact ret_div1 HX.out O2.out B2.out
end Go.Proofs.Ytfhefakacjkmiaa
