/- The divisions that hide an interval; contracts of impl.DivisionsHiding and spec.DivisionsHiding. -/
import Derived.Test.YtfhefakacjkmiaaDoorHidesLaw
import Derived.Test.YtfhefakacjkmiaaDoorBestMap
import Derived.Test.YtfhefakacjkmiaaDoorBigWalks
import Derived.Deep.AppendLies
namespace Go.Proofs.YtfhefakacjkmiaaDoor
open Go.RowKit Go.Joins
set_option linter.unusedVariables false
/-- Whether the division into n hides an interval. -/
def HideN (t h f d n : Int) (x : Bool) : Prop := ∃ a b c, BestAt n a b c ∧ HidesAt a b c t h f d x
theorem hideN_ex (t h f d n : Int) : ∃ x, HideN t h f d n x := by
  obtain ⟨a, b, c, hb⟩ := bestAt_ex n
  obtain ⟨x, hx⟩ := hidesAt_ex a b c t h f d
  exact ⟨x, a, b, c, hb, hx⟩
theorem hideN_pick (t h f d : Int) : ∃ p : Int → Bool, ∀ n, HideN t h f d n (p n) :=
  ⟨fun n => Classical.choose (hideN_ex t h f d n), fun n => Classical.choose_spec (hideN_ex t h f d n)⟩
/-- The numbers from 1 to k that p picks. -/
def divTo (p : Int → Bool) : Nat → List Int
  | 0 => []
  | k + 1 => if p ((k : Int) + 1) then divTo p k ++ [(k : Int) + 1] else divTo p k
theorem divTo_yes {p : Int → Bool} {k : Nat} (h : p ((k : Int) + 1) = true) : divTo p (k + 1) = divTo p k ++ [(k : Int) + 1] := by
  show (if p ((k : Int) + 1) then _ else _) = _
  rw [h]; rfl
theorem divTo_no {p : Int → Bool} {k : Nat} (h : p ((k : Int) + 1) = false) : divTo p (k + 1) = divTo p k := by
  show (if p ((k : Int) + 1) then _ else _) = _
  rw [h]; rfl
theorem divTo_len (p : Int → Bool) : ∀ k, (divTo p k).length ≤ k
  | 0 => Nat.le_refl _
  | k + 1 => by
    have := divTo_len p k
    unfold divTo
    split
    · rw [List.length_append]; simp; omega
    · omega
/-- What DivisionsHiding answers. -/
def DivAt (t h f d m : Int) (xs : List Int) : Prop :=
  (pure9 t h f d = true ∧ (0 ≤ m ∧ m ≤ 40) ∧ ∃ p, (∀ n, HideN t h f d n (p n)) ∧ xs = divTo p m.toNat) ∨ (pure9 t h f d = false ∧ xs = []) ∨ (pure9 t h f d = true ∧ ¬ (0 ≤ m ∧ m ≤ 40) ∧ xs = [])
theorem divAt_ex (t h f d m : Int) : ∃ xs, DivAt t h f d m xs := by
  obtain ⟨x, hx⟩ : ∃ x : Bool, pure9 t h f d = x := ⟨_, rfl⟩
  cases x
  · exact ⟨[], .inr (.inl ⟨hx, rfl⟩)⟩
  · by_cases hm : 0 ≤ m ∧ m ≤ 40
    · obtain ⟨p, hp⟩ := hideN_pick t h f d
      exact ⟨_, .inl ⟨hx, hm, p, hp, rfl⟩⟩
    · exact ⟨[], .inr (.inr ⟨hx, hm, rfl⟩)⟩
theorem divAt_len {t h f d m : Int} {xs : List Int} (H : DivAt t h f d m xs) : xs.length ≤ 40 := by
  rcases H with ⟨_, hm, p, _, rfl⟩ | ⟨_, rfl⟩ | ⟨_, _, rfl⟩
  · have := divTo_len p m.toNat
    omega
  · simp
  · simp
theorem ret_div {T : TypeId} {w w0 w' : World} {v : Value} {xs ys : List Int} (hx : ys = xs) (h : w'.ownsRow w0.heap.size T 1 v xs.length (intCs xs)) (h0 : Below w.heap.size w w0) (hb : Below w0.heap.size w0 w') : OwnPost T ys w (.returned v) w' := by
  subst hx; exact ⟨v, rfl, own_lower h h0.size, h0.trans (hb.mono h0.size)⟩
theorem ret_div0 {T : TypeId} {w w' : World} {ys : List Int} (hx : ys = []) (hb : Below w.heap.size w w') : OwnPost T ys w (.returned (.slice none 0 0)) w' := by
  subst hx; exact ⟨_, rfl, World.ownsRow_nil _ _ _ _, hb⟩
set_option maxRecDepth 100000 in
set_option maxHeartbeats 4000000 in
theorem div_impl {t h f d m : Int} {xs : List Int} (H : DivAt t h f d m xs) (w : World) :
    Calls Tryd.prog 17 #[ivV t h f d, .int .i64 m] w (OwnPost 3 xs w) := by
  rcases H with ⟨hi, hm, p, hp, hx⟩ | ⟨hi, hx⟩ | ⟨hi, hm, hx⟩
  · obtain ⟨M, rfl⟩ : ∃ M : Nat, m = (M : Int) := ⟨m.toNat, by omega⟩
    have hM : M ≤ 40 := by omega
    have HI := Lib.hid (fun w => pure9B hi w)
    have HP := Lib.hid hp
    have HX := Lib.hid (show xs = divTo p M from hx)
    have c1 : ¬ (M : Int) < 0 := by omega
    have c2 : ¬ 40 < (M : Int) := by omega
    obtain ⟨i0, hif, hz0, hz1, hz2⟩ := info_parts infoInt
    clear hi hm hp hx
    go_enter Tryd.func17, Tryd.ntmps17
    go_upto_region 1 with fail
    obtain ⟨W0, hW0⟩ : ∃ W0, W0 = w.alloc (.cells #[.int .i64 t, .int .i64 h, .int .i64 f, .int .i64 d] 29) := ⟨_, rfl⟩
    have F0 : Hid (Four w.heap.size t h f d W0) := Lib.hid (by rw [hW0]; exact four_alloc)
    have B0 : Hid (Below w.heap.size w W0) := Lib.hid (by rw [hW0]; exact below_alloc1 w _)
    rw [← hW0]
    clear hW0
    generalize hn : w.heap.size = n at F0 ⊢
    obtain ⟨_, z0, z1, z2, z3⟩ := F0.out
    go_wp2_with fail
    refine (HI.out _).mono ?_
    rintro e w1 ⟨rfl, h1⟩
    clear z0 z1 z2 z3
    have B1 := Lib.hid h1
    clear h1
    go_wp2_with fail
    go_loopw [5, 6] (fun v i wr => ∃ k : Nat, k ≤ M ∧ i = .int .i64 ((k : Int) + 1) ∧ Hid (wr.ownsRow W0.heap.size 3 1 v (divTo p k).length (intCs (divTo p k))) ∧ Hid (Below W0.heap.size W0 wr)) (fun _ i _ => (M + 1 - (intOf i).toNat))
    case atStart => exact ⟨0, Nat.zero_le _, by go_num, World.ownsRow_nil _ _ _ _, B1⟩
    case round =>
      obtain ⟨k, hk, rfl, HO, HB⟩ := hrel
      by_cases hlt : (k : Int) + 1 ≤ (M : Int)
      · obtain ⟨x, hx⟩ : ∃ x, p ((k : Int) + 1) = x := ⟨_, rfl⟩
        have hp := HP.out ((k : Int) + 1)
        rw [hx] at hp
        obtain ⟨a, b, c, hb, hh⟩ := hp
        have BM := Lib.hid (fun w => best_impl hb w)
        have HH := Lib.hid (fun w => hides_impl hh w)
        have F1 := Lib.hid (four_keep HB.out F0.out)
        clear hb hh B1
        cases x
        · have NX := Lib.hid (divTo_no hx)
          clear hx
          go_upto_region 7 with fail
          obtain ⟨_, z0, z1, z2, z3⟩ := F1.out
          go_region_held3 (fun w' => w'.cell? ⟨n, 0, none⟩ = some (.int .i64 t) ∧ w'.cell? ⟨n, 1, none⟩ = some (.int .i64 h) ∧ w'.cell? ⟨n, 2, none⟩ = some (.int .i64 f) ∧ w'.cell? ⟨n, 3, none⟩ = some (.int .i64 d)) (with_reducible first | exact four_cellsF (four_drewF F1.out) | exact four_cellsF (four_keep (by assumption) F1.out))
            (first
              | (go_at_call 15; refine (calls_fromF (W := wr) (by with_reducible first | assumption | exact (Below.refl _ _).drew) (BM.out _)).mono ?_; rintro e1 w2 ⟨rfl, hb⟩)
              | (go_at_call 13; refine (calls_fromF (W := wr) (by with_reducible first | assumption | exact (Below.refl _ _).drew) (HH.out _)).mono ?_; rintro e1 w2 ⟨rfl, hb⟩))
          all_goals
            have O2 := Lib.hid (own_below HO.out hb)
            have B2 := Lib.hid (HB.out.trans (hb.mono HB.out.size))
            clear hb HO HB F1
            go_wp2_with fail
            go_roundw
            case rel => exact ⟨k + 1, by omega, by go_num, Lib.hid (by rw [NX.out]; exact O2.out), B2⟩
            case measure => simp [intOf]; omega
        · have NX := Lib.hid (divTo_yes hx)
          have LB := divTo_len p k
          obtain ⟨L, hL⟩ : ∃ L, L = (divTo p k).length := ⟨_, rfl⟩
          rw [← hL] at LB
          have HL := Lib.hid hL
          have HOL : Hid (wr.ownsRow W0.heap.size 3 1 u5 L (intCs (divTo p k))) := Lib.hid (by rw [hL]; exact HO.out)
          clear hx hL HO
          go_upto_region 7 with fail
          obtain ⟨_, z0, z1, z2, z3⟩ := F1.out
          go_region_held3 (fun w' => w'.cell? ⟨n, 0, none⟩ = some (.int .i64 t) ∧ w'.cell? ⟨n, 1, none⟩ = some (.int .i64 h) ∧ w'.cell? ⟨n, 2, none⟩ = some (.int .i64 f) ∧ w'.cell? ⟨n, 3, none⟩ = some (.int .i64 d)) (with_reducible first | exact four_cellsF (four_drewF F1.out) | exact four_cellsF (four_keep (by assumption) F1.out))
            (first
              | (go_at_call 15; refine (calls_fromF (W := wr) (by with_reducible first | assumption | exact (Below.refl _ _).drew) (BM.out _)).mono ?_; rintro e1 w2 ⟨rfl, hb⟩)
              | (go_at_call 13; refine (calls_fromF (W := wr) (by with_reducible first | assumption | exact (Below.refl _ _).drew) (HH.out _)).mono ?_; rintro e1 w2 ⟨rfl, hb⟩))
          all_goals
            have O2 := Lib.hid (own_below HOL.out hb)
            have B2 := Lib.hid (HB.out.trans (hb.mono HB.out.size))
            clear z0 z1 z2 z3 hb HOL HB F1
            go_wp2_with (at_builtin; refine wpList_append_lies _ rfl (.tmp 27) (.tmp 29) 39 rfl W0.heap.size 3 i0 (.int .i64 0) 1 8 Tryd.underlying39 hif hz0 hz1 hz2 rfl (by decide) _ L _ rfl (O2.out.alloc _) ⟨_, 0, none⟩ 1 1 _ rfl rfl (World.news_of_block (heap_alloc_new _ _)) (by simp [Value.oneCell']) (by decide) (by unfold maxLen; omega) (by omega) (by have := B2.out.size; simp; omega) _ rfl ?_; intro g1 cap1 w5 hown' hgrow hat hgt)
            have R5 := Lib.hid ((B2.out.alloc B2.out.size _).grown hgrow (Nat.le_trans B2.out.size (by simp)) (fun j hj => (O2.out.lt j hj).1))
            have O5 := Lib.hid (isnoc HL.out hown')
            clear hown' hgrow hat hgt O2 B2
            go_wp2_with fail
            go_roundw
            case rel => exact ⟨k + 1, by omega, by go_num, Lib.hid (by rw [NX.out]; exact O5.out), R5⟩
            case measure => simp [intOf]; omega
      · obtain rfl : k = M := by omega
        clear B1
        go_wp2_with fail
        go_ret
        subst hn
        exact ret_div HX.out HO.out B0.out HB.out
  · have HI := Lib.hid (fun w => pure9B hi w)
    have HX := Lib.hid hx
    clear hi hx
    go_enter Tryd.func17, Tryd.ntmps17
    go_wp2_with fail
    refine (HI.out _).mono ?_
    rintro e w1 ⟨rfl, h1⟩
    have B1 := Lib.hid ((below_alloc1 w _).trans (h1.mono (by simp)))
    clear h1
    go_wp2_with fail
    go_ret
    exact ret_div0 HX.out B1.out
  · have HI := Lib.hid (fun w => pure9B hi w)
    have HX := Lib.hid hx
    clear hi hx
    by_cases c1 : m < 0
    · clear hm
      go_enter Tryd.func17, Tryd.ntmps17
      go_wp2_with fail
      refine (HI.out _).mono ?_
      rintro e w1 ⟨rfl, h1⟩
      have B1 := Lib.hid ((below_alloc1 w _).trans (h1.mono (by simp)))
      clear h1
      go_wp2_with fail
      go_ret
      exact ret_div0 HX.out B1.out
    · have c2 : 40 < m := by omega
      clear hm
      go_enter Tryd.func17, Tryd.ntmps17
      go_wp2_with fail
      refine (HI.out _).mono ?_
      rintro e w1 ⟨rfl, h1⟩
      have B1 := Lib.hid ((below_alloc1 w _).trans (h1.mono (by simp)))
      clear h1
      go_wp2_with fail
      go_ret
      exact ret_div0 HX.out B1.out
theorem pure9_parts {t h f d : Int} (H : pure9 t h f d = true) : okI t h f d = true ∧ d = 1 := by
  unfold pure9 at H
  simpa using H
theorem pure9_not {t h f d : Int} (H : pure9 t h f d = false) : okI t h f d = false ∨ (okI t h f d = true ∧ ¬ d = 1) := by
  unfold pure9 at H
  cases hk : okI t h f d
  · exact .inl rfl
  · rw [hk] at H
    exact .inr ⟨rfl, by simpa using H⟩
theorem ret_div1 {T : TypeId} {w w' : World} {v : Value} {ys : List Int} (hx : ys = []) (h : w'.ownsRow w.heap.size T 1 v ([] : List Int).length (intCs [])) (hb : Below w.heap.size w w') : OwnPost T ys w (.returned v) w' := by
  subst hx; exact ⟨v, rfl, h, hb⟩
end Go.Proofs.YtfhefakacjkmiaaDoor
