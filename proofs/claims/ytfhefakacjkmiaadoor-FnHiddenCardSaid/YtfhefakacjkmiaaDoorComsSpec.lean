/- Contract of spec.CommasWithin, and the walk of laws.FnExactCommasWithin. -/
import Derived.Test.YtfhefakacjkmiaaDoorComsImpl
import Derived.Test.YtfhefakacjkmiaaDoorSOctWalks
import Derived.Test.YtfhefakacjkmiaaDoorMarkIv
import Derived.Test.YtfhefakacjkmiaaDoorIvRows
namespace Go.Proofs.YtfhefakacjkmiaaDoor
open Go.RowKit Go.Joins
set_option linter.unusedVariables false
set_option maxRecDepth 100000 in
set_option maxHeartbeats 4000000 in
theorem commas_spec (l : Int) (w : World) :
    Calls Tryd.prog 50 #[.int .i64 l] w (ComsAt l w) := by
  have OL := Lib.hid (World.ownsRow_lit (base := w.heap.size) (e := 29) (size := 4) w #[] 0 (Nat.le_refl _) (by unfold maxLen; omega) rfl)
  by_cases hv : 0 ≤ l ∧ l ≤ 8
  · have D := Lib.hid (decide_eq_true hv)
    obtain ⟨L, rfl⟩ : ∃ L : Nat, l = (L : Int) := ⟨l.toNat, by omega⟩
    have hL : L ≤ 8 := by omega
    have EL := Lib.hid (comList_yes hL)
    have v1 : IntKind.i64.wrap (-(L : Int)) = -(L : Int) := IntWalk.i64_in _ (by omega)
    obtain ⟨i0, hi, hz0, hz1, hz2⟩ := info_parts4 infoIv
    clear hv
    go_enter Tryd.func50, Tryd.ntmps50
    go_wp2_with fail
    obtain ⟨Wa, hWa⟩ : ∃ y, y = w.alloc (.cells #[] 29) := ⟨_, rfl⟩
    have BA := Lib.hid (show Below w.heap.size w Wa from by rw [hWa]; exact (Below.refl _ w).alloc (Nat.le_refl _) _)
    have OA := Lib.hid (show OwnC w.heap.size (.slice (some ⟨w.heap.size, 0, none⟩) 0 0) (comTo L 0) Wa from by rw [hWa]; exact OL.out)
    rw [← hWa]
    obtain ⟨vL, hvL⟩ : ∃ v, v = (Value.slice (some ⟨w.heap.size, 0, none⟩) 0 0) := ⟨_, rfl⟩
    rw [← hvL] at OA
    rw [← hvL]
    clear hWa hvL OL
    refine (inT_any _ _ _ _).mono ?_
    rintro en wi ⟨rfl, rfl⟩
    rw [D.out]
    go_wp2_with fail
    go_loopw [3, 4] (fun v i wr => ∃ (s : Nat), s ≤ 2 * L + 1 ∧ i = .int .i64 ((s : Int) - (L : Int)) ∧ Hid (OwnC w.heap.size v (comTo L s) wr) ∧ Hid (Below w.heap.size w wr)) (fun _ i _ => ((L : Int) + 1 - intOf i).toNat)
    case atStart => exact ⟨0, Nat.zero_le _, by go_num, OA, BA⟩
    case round =>
      obtain ⟨s, hsl, rfl, HO, HB⟩ := hrel
      clear OA BA
      by_cases hlt : (s : Int) - (L : Int) ≤ (L : Int)
      · go_wp2_with fail
        go_loopw [3, 5] (fun v i wr => ∃ (j : Nat), j ≤ 2 * L + 1 ∧ i = .int .i64 ((j : Int) - (L : Int)) ∧ Hid (OwnC w.heap.size v (comTo L s ++ comRow L s j) wr) ∧ Hid (Below w.heap.size w wr)) (fun _ i _ => ((L : Int) + 1 - intOf i).toNat)
        case atStart => exact ⟨0, Nat.zero_le _, by go_num, Lib.hid (by rw [show comRow L s 0 = [] from rfl, List.append_nil]; exact HO.out), HB⟩
        case round =>
          obtain ⟨j, hjl, rfl, JO, JB⟩ := hrel
          clear HO HB
          by_cases hlt2 : (j : Int) - (L : Int) ≤ (L : Int)
          · obtain ⟨X, hX⟩ : ∃ X, X = withV ((s : Int) - L) ((j : Int) - L) := ⟨_, rfl⟩
            have WA : WithinAt 0 ((s : Int) - L) ((j : Int) - L) 1 X.two X.three X.five X.root true := by rw [hX]; exact com_within (by omega) (by omega)
            have OK := Lib.hid (okI_mk (a := 0) (b := (s : Int) - L) (c := (j : Int) - L) (d := 1) (by omega))
            have HX := Lib.hid hX
            clear hX
            go_wp2_with fail
            refine (pure_spec_yes 0 _ _ _ OK.out).mono ?_
            rintro en w1 ⟨rfl, hb1⟩
            have O1 := Lib.hid (ownC_below JO.out hb1)
            have B1 := Lib.hid (JB.out.trans (hb1.mono JB.out.size))
            clear hb1 JO JB
            go_wp2_with fail
            refine (within_spec WA _).mono ?_
            rintro en w2 ⟨rfl, hb2⟩
            have O2 := Lib.hid (ownC_below O1.out hb2)
            have B2 := Lib.hid (B1.out.trans (hb2.mono B1.out.size))
            clear hb2 O1 B1 WA
            go_upto_region 11 with fail
            obtain ⟨W3, hW3⟩ : ∃ y, y = w2.alloc (.cells #[.int .i64 X.two, .int .i64 X.three, .int .i64 X.five, .int .i64 X.root] 29) := ⟨_, rfl⟩
            have g3 : Four w2.heap.size X.two X.three X.five X.root W3 := by rw [hW3]; exact four_alloc
            have b3 : Below w2.heap.size w2 W3 := by rw [hW3]; exact below_alloc1 w2 _
            have O3 := Lib.hid (ownC_below O2.out b3)
            have B3 := Lib.hid (B2.out.trans (b3.mono B2.out.size))
            rw [← hW3]
            obtain ⟨m, hm⟩ : ∃ m, m = w2.heap.size := ⟨_, rfl⟩
            rw [← hm] at g3 ⊢
            have G3 := Lib.hid g3
            obtain ⟨_, x0, x1, x2, x3⟩ := g3
            clear hW3 b3 hm O2 B2
            go_wp2_with fail
            refine (isComma_spec _ _ _ _ _).mono ?_
            rintro en w4 ⟨rfl, hb4⟩
            have O4 := Lib.hid (ownC_below O3.out hb4)
            have B4 := Lib.hid (B3.out.trans (hb4.mono B3.out.size))
            have G4 := Lib.hid (four_keep hb4 G3.out)
            clear hb4 O3 B3 G3 x0 x1 x2 x3
            obtain ⟨z, hz⟩ : ∃ z : Bool, comB X.two X.three X.five X.root = z := ⟨_, rfl⟩
            rw [hz]
            have hz' : isComV (withV ((s : Int) - L) ((j : Int) - L)) = z := by rw [← HX.out]; exact hz
            cases z
            · have NX := Lib.hid (comRow_no hz')
              clear hz hz'
              go_wp2_with fail
              go_roundw
              case rel => exact ⟨j + 1, by omega, by go_num, Lib.hid (by rw [NX.out]; exact O4.out), B4⟩
              case measure => simp [intOf]; omega
            · have NX := Lib.hid (comRow_yes hz')
              have LB := com_len (L := L) (i := s) (j := j) hL (by omega) (by omega)
              obtain ⟨k, hk⟩ : ∃ k, k = (comTo L s ++ comRow L s j).length := ⟨_, rfl⟩
              have OK4 : Hid (w4.ownsRow w.heap.size 29 4 u3 k (ivCs (comTo L s ++ comRow L s j))) := Lib.hid (by rw [hk]; exact O4.out)
              rw [← hk] at LB
              have HK := Lib.hid hk
              obtain ⟨_, x0, x1, x2, x3⟩ := G4.out
              have hbs := B4.out.size
              clear hz hz' hk O4
              go_wp2_with (at_builtin; refine wpList_append_lies _ rfl (.tmp 36) (.tmp 38) 42 rfl w.heap.size 29 i0 (ivV 0 0 0 0) 4 32 Tryd.underlying42 hi hz0 hz1 hz2 rfl (by decide) _ k _ rfl (OK4.out.alloc _) ⟨w4.heap.size, 0, none⟩ 1 1 [.int .i64 X.two, .int .i64 X.three, .int .i64 X.five, .int .i64 X.root] rfl rfl (World.news_of_block (heap_alloc_new w4 _)) (by simp [Value.oneCell']) (by decide) (by unfold maxLen; omega) (by omega) (by simp; omega) _ rfl ?_; intro g1 cap1 w5 hown' hgrow hat hgt)
              have R5 := Lib.hid ((B4.out.alloc hbs _).grown hgrow (by simp; omega) (fun j hj => (OK4.out.lt j hj).1))
              have O5 := Lib.hid (ownC_snoc HK.out hown')
              clear hown' hgrow hat hgt OK4 B4 G4 x0 x1 x2 x3 hbs
              go_wp2_with fail
              go_roundw
              case rel => exact ⟨j + 1, by omega, by go_num, Lib.hid (by rw [NX.out, ← List.append_assoc, ← HX.out]; exact O5.out), R5⟩
              case measure => simp [intOf]; omega
          · obtain rfl : j = 2 * L + 1 := by omega
            go_wp2_with fail
            go_roundw
            case rel => exact ⟨s + 1, by omega, by go_num, JO, JB⟩
            case measure => simp [intOf]; omega
      · obtain rfl : s = 2 * L + 1 := by omega
        go_wp2_with fail
        go_ret
        exact ⟨⟨_, rfl, by rw [EL.out]; exact HO.out⟩, HB.out⟩
  · have NV := Lib.hid (comList_no hv)
    have D := Lib.hid (decide_eq_false hv)
    clear hv
    go_enter Tryd.func50, Tryd.ntmps50
    go_wp2_with fail
    refine (inT_any _ _ _ _).mono ?_
    rintro en wi ⟨rfl, rfl⟩
    rw [D.out]
    go_wp2_with fail
    go_ret
    exact ⟨⟨_, rfl, by rw [NV.out]; exact OL.out⟩, (Below.refl _ w).alloc (Nat.le_refl _) _⟩
/-- A row is kept where another block is written. -/
theorem ownC_apart {w w' : World} {base : Nat} {v : Value} {xs : List Iv} {r : Option Nat} (h : OwnC base v xs w) (hg : w.grownBy w' r) (hr : ∀ g, v.ownBlock = some g → r ≠ some g) : OwnC base v xs w' := by
  refine World.ownsRow.kept h hg ?_
  cases hv : v.ownBlock
  · exact .inl rfl
  · exact .inr (fun e => hr _ hv e.symm)
theorem rowL_ivAt (xs : List Iv) : rowL xs.length (ivAt xs) = xs := by
  apply List.ext_getElem (rowL_len _ _)
  intro i h1 h2
  simp [rowL, ivAt, h2]
theorem eqC (w : World) (b1 b2 : Nat) (v1 v2 : Value) (xs : List Iv) (hx : xs.length ≤ 2000000) (h1 : OwnC b1 v1 xs w) (h2 : OwnC b2 v2 xs w) :
    Calls Tryd.prog 24 #[v1, v2] w fun en w' => en = .returned (.bool true) ∧ Below w.heap.size w w' := eqIvs_same w b1 b2 _ _ v1 v2 xs hx h1 h2
theorem markC (w : World) (b : Nat) (v : Value) (xs : List Iv) (hx : xs.length ≤ 1000000) (h : OwnC b v xs w) :
    Calls Tryd.prog 25 #[v, .int .i64 1] w fun en w' => en = .returned (.int .i64 (1 + 4 * (xs.length : Int))) ∧ OwnC b v (rowL xs.length (markI 1)) w' ∧ w.grownBy w' v.ownBlock := by
  refine (markIv_own w b 29 v xs.length (ivAt xs) hx ?_).mono ?_
  · rw [rowL_ivAt]; exact h
  · rintro e w' ⟨h1, h2, h3⟩
    refine ⟨h1, ?_, h3⟩
    unfold OwnC
    rw [rowL_len]
    exact h2
theorem heldC (w : World) (b : Nat) (v : Value) (xs : List Iv) (hx : xs.length ≤ 1000000) (h : OwnC b v (rowL xs.length (markI 1)) w) :
    Calls Tryd.prog 26 #[v, .int .i64 1] w fun en w' => en = .returned (.int .i64 (1 + 4 * (xs.length : Int))) ∧ w = w' := by
  unfold OwnC at h
  rw [rowL_len] at h
  exact heldIv_own w b 29 v xs.length hx h
end Go.Proofs.YtfhefakacjkmiaaDoor
