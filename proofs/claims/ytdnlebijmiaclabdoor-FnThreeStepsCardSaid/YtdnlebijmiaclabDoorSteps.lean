/- Contract of impl.StepsOf over a chain. -/
import Derived.Test.YtdnlebijmiaclabDoorThreeMath
import Derived.Test.YtdnlebijmiaclabDoorChain
import Derived.Test.YtdnlebijmiaclabDoorSameImpl
import Derived.Deep.AppendLies
import Derived.BigRegion
import Derived.Deep.RegionWith
import Derived.Deep.DeepCutAuto
namespace Go.Proofs.YtdnlebijmiaclabDoor
open Go.RowKit Go.Joins
set_option linter.unusedVariables false
/-- An interval in a block that may be written. -/
def FourW (m : Nat) (x : Iv) (w : World) : Prop := Four m x.two x.three x.five x.root w ∧ ∀ o, w.frozen? ⟨m, o, none⟩ = false
theorem fourW_keep {W w : World} {m : Nat} {x : Iv} (hb : Below W.heap.size W w) (h : FourW m x W) : FourW m x w :=
  ⟨four_keep hb h.1, fun o => (hb.frozen (p := ⟨m, o, none⟩) h.1.1).trans (h.2 o)⟩
theorem fourW_alloc {w : World} {x : Iv} {t : TypeId} : FourW w.heap.size x (w.alloc (.cells #[.int .i64 x.two, .int .i64 x.three, .int .i64 x.five, .int .i64 x.root] t)) := ⟨four_alloc, fun o => by simp [go_sem]⟩
theorem fourW_drew {w : World} {m : Nat} {x : Iv} (h : FourW m x w) : FourW m x w.drew := h
/-- Four stores into such a block. -/
theorem fourW_set {w : World} {B m n : Nat} {x y z : Iv} (hm : B ≤ m) (h : FourW m x w) (hn : n ≠ m) (hz : FourW n z w) (hb : Below B w w) :
    ∃ X, X = ((((w.setCell ⟨m, 0, none⟩ (.int .i64 y.two)).setCell ⟨m, 1, none⟩ (.int .i64 y.three)).setCell ⟨m, 2, none⟩ (.int .i64 y.five)).setCell ⟨m, 3, none⟩ (.int .i64 y.root)) ∧ FourW m y X ∧ FourW n z X ∧ Below B w X :=
  ⟨_, rfl, ⟨four_set h.1, fun o => by rw [World.frozen?_setCell, World.frozen?_setCell, World.frozen?_setCell, World.frozen?_setCell]; exact h.2 o⟩,
    ⟨four_other hn hz.1, fun o => by rw [World.frozen?_setCell, World.frozen?_setCell, World.frozen?_setCell, World.frozen?_setCell]; exact hz.2 o⟩, below_set4w hm hb⟩
theorem four_cellsW {w : World} {m : Nat} {x : Iv} (h : FourW m x w) : w.cell? ⟨m, 0, none⟩ = some (.int .i64 x.two) ∧ w.cell? ⟨m, 1, none⟩ = some (.int .i64 x.three) ∧ w.cell? ⟨m, 2, none⟩ = some (.int .i64 x.five) ∧ w.cell? ⟨m, 3, none⟩ = some (.int .i64 x.root) := h.1.2
/-- A row is kept where blocks from m on are written. -/
theorem own4_under {w w' : World} {base m : Nat} {e : TypeId} {v : Value} {n : Nat} {xs : List Value} (hm : ∀ j, v.ownBlock = some j → j < m) (h : w.ownsRow base e 4 v n xs) (hb : Below m w w') : w'.ownsRow base e 4 v n xs := by
  refine ⟨h.1, ?_⟩
  rcases h.2 with h1 | ⟨g, cap, cur, h1, h2, h3, h4⟩
  · exact .inl h1
  · refine .inr ⟨g, cap, cur, h1, h2, ?_, h4⟩
    have := hm g (by rw [h1]; rfl)
    rw [hb.block g this]
    exact h3
/-- SignOf, told without a look inside. -/
def SignSays (A : Addr) (x : Iv) (C : Int) : Prop := ∀ w, SenAt A w → Calls Tryd.prog 20 #[ivV x.two x.three x.five x.root] w fun en w' => en = .returned (.int .i64 C) ∧ Below w.heap.size w w'
/-- The first element, in the chain's block. -/
def At0 (g : Nat) (x : Iv) (w : World) : Prop := g < w.heap.size ∧ w.cell? ⟨g, 0, none⟩ = some (.int .i64 x.two) ∧ w.cell? ⟨g, 1, none⟩ = some (.int .i64 x.three) ∧ w.cell? ⟨g, 2, none⟩ = some (.int .i64 x.five) ∧ w.cell? ⟨g, 3, none⟩ = some (.int .i64 x.root)
theorem at0_keep {W w : World} {g : Nat} {x : Iv} (hb : Below W.heap.size W w) (h : At0 g x W) : At0 g x w := four_keep hb h
theorem at0_drew {w : World} {g : Nat} {x : Iv} (h : At0 g x w) : At0 g x w.drew := h
theorem at0_cells {w : World} {g : Nat} {x : Iv} (h : At0 g x w) : w.cell? ⟨g, 0, none⟩ = some (.int .i64 x.two) ∧ w.cell? ⟨g, 1, none⟩ = some (.int .i64 x.three) ∧ w.cell? ⟨g, 2, none⟩ = some (.int .i64 x.five) ∧ w.cell? ⟨g, 3, none⟩ = some (.int .i64 x.root) := h.2
def SameSays (x : Iv) (b : Bool) : Prop := ∀ w, Calls Tryd.prog 23 #[ivV x.two x.three x.five x.root, ivV 0 0 0 1] w fun en w' => en = .returned (.bool b) ∧ Below w.heap.size w w'
theorem prime_one (w : World) : Calls Tryd.prog 34 #[.int .i64 0, .int .i64 0, .int .i64 0] w fun en w' => en = .returned (ivV 0 0 0 1) ∧ Below w.heap.size w w' := pure_impl_yes 0 0 0 w (by decide)
set_option maxRecDepth 100000 in
set_option maxHeartbeats 8000000 in
theorem steps_impl (A : Addr) {p q n : Nat} (hp : p < 13) (hq : q < 13) (hn : n = p + q + 1) (w : World) (hs : SenAt A w) (base : Nat) (v : Value) (h : w.ownsRow base 25 4 v n (ivCs (rowL n (chG p q)))) :
    Calls Tryd.prog 41 #[v] w fun e w' => (∃ v', e = .returned v' ∧ w'.ownsRow w.heap.size 25 4 v' n (ivCs (rowL n (stG p q)))) ∧ Below w.heap.size w w' := by
  obtain ⟨i0, hi, hz0, hz1, hz2⟩ := info_parts4 infoIv
  have h0 : 0 < n := by omega
  obtain ⟨g, cap, rfl, _, hgl⟩ := own4_pos h h0
  have EC := end_chk p hp q hq
  unfold endChk at EC
  simp only [Bool.and_eq_true, decide_eq_true_eq] at EC
  have SC := step_chk p hp q hq
  unfold stepChk at SC
  rw [← hn] at SC
  have ST := Lib.hid (fun i hi => allN_of SC i hi)
  have SM : SameSays (chG p q 0) true := fun w => by
    have := sameSize_impl (chG p q 0).two (chG p q 0).three (chG p q 0).five (chG p q 0).root 0 0 0 1 w
    rw [EC.1.1] at this
    exact this
  obtain ⟨X0, hX0⟩ : ∃ X, X = chG p q 0 := ⟨_, rfl⟩
  rw [← hX0] at SM
  have r0 := own_iv h (rowL_len n _).symm 0 h0
  rw [rowL_at _ h0, ← hX0] at r0
  have A0 := Lib.hid (show At0 g X0 w from ⟨hgl, by simpa using r0.1, by simpa using r0.2.1, by simpa using r0.2.2.1, by simpa using r0.2.2.2⟩)
  have HH := Lib.hid h
  have HG := Lib.hid hgl
  have HS := Lib.hid hs
  have HN := Lib.hid hn
  have hn61 : n ≤ 25 := by omega
  have k1 : ((n : Int) == 0) = false := by simp; omega
  have k2 : decide (61 < (n : Int)) = false := decide_eq_false (by omega)
  have k3 : (0 : Int) < n := by omega
  clear EC SC hX0 r0 h hgl hs hn
  go_enter Tryd.func41, Tryd.ntmps41
  go_upto_region 1 with fail
  go_region_held3 (fun w' => w'.cell? ⟨g, 0, none⟩ = some (.int .i64 X0.two) ∧ w'.cell? ⟨g, 1, none⟩ = some (.int .i64 X0.three) ∧ w'.cell? ⟨g, 2, none⟩ = some (.int .i64 X0.five) ∧ w'.cell? ⟨g, 3, none⟩ = some (.int .i64 X0.root)) (with_reducible first | exact at0_cells (at0_drew A0.out) | exact at0_cells (at0_keep (by assumption) A0.out) | exact at0_cells A0.out)
    (first
      | (go_at_call 34; refine (calls_fromF (W := w) (by with_reducible first | assumption | exact (Below.refl _ _).drew) (prime_one _)).mono ?_; rintro e1 w2 ⟨rfl, hb⟩)
      | (go_at_call 23; refine (calls_fromF (W := w) (by with_reducible first | assumption | exact (Below.refl _ _).drew) (SM _)).mono ?_; rintro e1 w2 ⟨rfl, hb⟩))
  have B0 := Lib.hid hb
  have HS2 := Lib.hid (senAt_below HS.out hb)
  have HH2 := Lib.hid (own4_below HH.out hb)
  clear hb SM A0 HS HH
  go_wp2_with fail
  go_loopw [3, 27] (fun u i wr => ∃ (k : Nat), k ≤ n ∧ i = .int .i64 (k : Int) ∧ Hid (wr.ownsRow w.heap.size 25 4 u k (ivCs (rowL k (stG p q)))) ∧ Hid (Below w.heap.size w wr) ∧ Hid (Below w2.heap.size w2 wr) ∧ Hid (∀ j, u.ownBlock = some j → w2.heap.size ≤ j)) (fun _ i _ => n - (intOf i).toNat)
  case atStart => exact ⟨0, Nat.zero_le _, rfl, World.ownsRow_nil _ _ _ _, B0, Lib.hid (Below.refl _ _), Lib.hid (fun j hj => by cases hj)⟩
  case round =>
    obtain ⟨k, hk, rfl, HO, HB, HW, HL⟩ := hrel
    by_cases hlt : k < n
    · have q3 : (k : Int) < n := by omega
      have S1 := ST.out k hlt
      simp only [Bool.and_eq_true, decide_eq_true_eq] at S1
      obtain ⟨⟨d1, d2⟩, _⟩ := S1
      obtain ⟨X, hX⟩ : ∃ X, X = chG p q k := ⟨_, rfl⟩
      obtain ⟨Y, hY⟩ : ∃ X, X = nxG p q k := ⟨_, rfl⟩
      obtain ⟨Z, hZ⟩ : ∃ X, X = stG p q k := ⟨_, rfl⟩
      have DS : DiffSays X.two X.three X.five X.root Y.two Y.three Y.five Y.root Z.two Z.three Z.five Z.root true := diff_says X Y Z true (by
        rw [hX, hY, hZ]
        exact Prod.ext rfl d1)
      obtain ⟨C, hC⟩ : ∃ C, C = cmpV Z ⟨0, 0, 0, 1⟩ := ⟨_, rfl⟩
      have SG : SignSays A Z C := fun w hs => by rw [hC]; exact sign_impl A _ _ _ _ w hs
      have hC0 : 0 < C := by rw [hC, hZ]; exact d2
      have hC1 : ¬ C ≤ 0 := by omega
      have hr := own4_below HH2.out HW.out
      have r1 := own_iv hr (rowL_len n _).symm k hlt
      rw [rowL_at _ hlt, ← hX] at r1
      obtain ⟨x0, x1, x2, x3⟩ := r1
      have HZ := Lib.hid hZ.symm
      have HY := Lib.hid hY
      clear hX hY hZ d1 d2 hC
      have hmo := own4_below HO.out (Below.refl _ _)
      go_upto_region 7 with fail
      obtain ⟨mX, hmX⟩ : ∃ m, m = wr.heap.size := ⟨_, rfl⟩
      obtain ⟨W2, hW2⟩ : ∃ y, y = wr.alloc (.cells #[.int .i64 X.two, .int .i64 X.three, .int .i64 X.five, .int .i64 X.root] 25) := ⟨_, rfl⟩
      have FX := Lib.hid (show FourW mX X W2 from by rw [hW2, hmX]; exact fourW_alloc)
      have kb : Below wr.heap.size wr W2 := by rw [hW2]; exact below_alloc1 wr _
      have B2 := Lib.hid (HB.out.trans (kb.mono HB.out.size))
      have V2 := Lib.hid (HW.out.trans (kb.mono HW.out.size))
      have O2 := Lib.hid (own4_below HO.out kb)
      have LX := Lib.hid (show w.heap.size ≤ mX from by rw [hmX]; exact HB.out.size)
      rw [← hW2, ← hmX]
      clear hW2 hmX kb x0 x1 x2 x3 hr hmo HO HB HW
      go_wp2_with fail
      refine (octave_one _).mono ?_
      rintro en w3 ⟨rfl, hb3⟩
      go_upto_region 8 with fail
      obtain ⟨mN, hmN⟩ : ∃ m, m = w3.heap.size := ⟨_, rfl⟩
      obtain ⟨W4, hW4⟩ : ∃ y, y = w3.alloc (.cells #[.int .i64 1, .int .i64 0, .int .i64 0, .int .i64 1] 25) := ⟨_, rfl⟩
      have FN := Lib.hid (show FourW mN ⟨1, 0, 0, 1⟩ W4 from by rw [hW4, hmN]; exact fourW_alloc (x := ⟨1, 0, 0, 1⟩))
      have kb := hb3.trans ((show Below w3.heap.size w3 W4 from by rw [hW4]; exact below_alloc1 w3 _).mono hb3.size)
      have FX4 := Lib.hid (fourW_keep kb FX.out)
      have B4 := Lib.hid (B2.out.trans (kb.mono B2.out.size))
      have V4 := Lib.hid (V2.out.trans (kb.mono V2.out.size))
      have O4 := Lib.hid (own4_below O2.out kb)
      have NE := Lib.hid (show mX ≠ mN from by rw [hmN]; have := FX.out.1.1; have := hb3.size; omega)
      have LN := Lib.hid (show w.heap.size ≤ mN from by rw [hmN]; exact Nat.le_trans B2.out.size hb3.size)
      have LO := Lib.hid (show ∀ j, u3.ownBlock = some j → j < mN from fun j hj => by rw [hmN]; exact Nat.lt_of_lt_of_le (O2.out.lt j hj).2 hb3.size)
      have LV := Lib.hid (show w2.heap.size ≤ mN from by rw [hmN]; exact Nat.le_trans V2.out.size hb3.size)
      rw [← hW4, ← hmN]
      clear hW4 hmN kb hb3 FX B2 V2 O2 LX
      go_upto_region 8 with fail
      have k4 : IntKind.i64.wrap ((k : Int) + 1) = (k : Int) + 1 := IntWalk.i64_in _ (by omega)
      go_upto_if 37 with fail
      go_cut [] from 37 to 42 (fun wx => Hid (Below w.heap.size w wx ∧ Below w2.heap.size w2 wx ∧ wx.ownsRow w.heap.size 25 4 u3 k (ivCs (rowL k (stG p q))) ∧ FourW mX X wx ∧ FourW mN Y wx))
      case first =>
        by_cases hl2 : k + 1 < n
        · have EY := Lib.hid (show Y = chG p q (k + 1) from by rw [HY.out]; unfold nxG; rw [if_pos (by have := HN.out; omega)])
          have q5 : (k : Int) + 1 < n := by omega
          have q6 : (0 : Int) ≤ (k : Int) + 1 := by omega
          have q7 : ((k : Int) + 1).toNat = k + 1 := by omega
          have r1 := own_iv (own4_below HH2.out V4.out) (rowL_len n _).symm (k + 1) hl2
          rw [rowL_at _ hl2, ← EY.out] at r1
          obtain ⟨y0, y1, y2, y3⟩ := r1
          have fz := FN.out.2
          obtain ⟨n0, n1, n2, n3⟩ := four_cellsW FN.out
          go_wp2_with fail
          obtain ⟨W5, hW5, f1, f2, b5⟩ := fourW_set (y := Y) (z := X) (Nat.le_refl mN) FN.out NE.out FX4.out (Below.refl _ _)
          rw [← hW5]
          have R5 := Lib.hid (show Below w.heap.size w W5 ∧ Below w2.heap.size w2 W5 ∧ W5.ownsRow w.heap.size 25 4 u3 k (ivCs (rowL k (stG p q))) ∧ FourW mX X W5 ∧ FourW mN Y W5 from by
            refine ⟨?_, ?_, ?_, f2, f1⟩
            · rw [hW5]; exact below_set4w LN.out B4.out
            · rw [hW5]; exact below_set4w LV.out V4.out
            · exact own4_under LO.out O4.out b5)
          clear hW5 f1 f2 b5 y0 y1 y2 y3 fz n0 n1 n2 n3
          go_meet
          case rel => exact R5
        · have EY := Lib.hid (show Y = ⟨1, 0, 0, 1⟩ from by rw [HY.out]; unfold nxG; rw [if_neg (by have := HN.out; omega)])
          have q5 : ¬ (k : Int) + 1 < n := by omega
          have R5 := Lib.hid (show Below w.heap.size w W4 ∧ Below w2.heap.size w2 W4 ∧ W4.ownsRow w.heap.size 25 4 u3 k (ivCs (rowL k (stG p q))) ∧ FourW mX X W4 ∧ FourW mN Y W4 from
            ⟨B4.out, V4.out, O4.out, FX4.out, by rw [EY.out]; exact FN.out⟩)
          go_wp2_with fail
          go_meet
          case rel => exact R5
      case rest =>
        obtain ⟨b5, v5, o5, fx, fn⟩ := hcut.out
        have B5 := Lib.hid b5
        have V5 := Lib.hid v5
        have O5 := Lib.hid o5
        obtain ⟨x0, x1, x2, x3⟩ := four_cellsW fx
        obtain ⟨n0, n1, n2, n3⟩ := four_cellsW fn
        clear b5 v5 o5 fx fn hcut FN FX4 B4 V4 O4 NE LN LV LO
        go_wp2_with fail
        refine (DS _).mono ?_
        rintro en w6 ⟨rfl, hb6⟩
        go_upto_region 11 with fail
        obtain ⟨mZ, hmZ⟩ : ∃ m, m = w6.heap.size := ⟨_, rfl⟩
        obtain ⟨W7, hW7⟩ : ∃ y, y = w6.alloc (.cells #[.int .i64 Z.two, .int .i64 Z.three, .int .i64 Z.five, .int .i64 Z.root] 25) := ⟨_, rfl⟩
        have FZ := Lib.hid (show FourW mZ Z W7 from by rw [hW7, hmZ]; exact fourW_alloc)
        have kb := hb6.trans ((show Below w6.heap.size w6 W7 from by rw [hW7]; exact below_alloc1 w6 _).mono hb6.size)
        have B7 := Lib.hid (B5.out.trans (kb.mono B5.out.size))
        have V7 := Lib.hid (V5.out.trans (kb.mono V5.out.size))
        have O7 := Lib.hid (own4_below O5.out kb)
        rw [← hW7, ← hmZ]
        obtain ⟨z0, z1, z2, z3⟩ := four_cellsW FZ.out
        have S7 := Lib.hid (senAt_below HS2.out V7.out)
        clear hW7 hmZ kb hb6 x0 x1 x2 x3 n0 n1 n2 n3 B5 V5 O5
        go_wp2_with fail
        refine (SG _ S7.out).mono ?_
        rintro en w8 ⟨rfl, hb8⟩
        obtain ⟨z0, z1, z2, z3⟩ := four_cellsW (fourW_keep hb8 FZ.out)
        have B8 := Lib.hid (B7.out.trans (hb8.mono B7.out.size))
        have V8 := Lib.hid (V7.out.trans (hb8.mono V7.out.size))
        have O8 := Lib.hid (own4_below O7.out hb8)
        have hbs := B8.out.size
        clear hb8 B7 V7 O7 FZ S7
        go_wp2_with (at_builtin; refine wpList_append_lies _ rfl (.tmp 56) (.tmp 58) 34 rfl w.heap.size 25 i0 (ivV 0 0 0 0) 4 32 Tryd.underlying34 hi hz0 hz1 hz2 rfl (by decide) _ k _ rfl (O8.out.alloc _) ⟨w8.heap.size, 0, none⟩ 1 1 [.int .i64 Z.two, .int .i64 Z.three, .int .i64 Z.five, .int .i64 Z.root] rfl rfl (World.news_of_block (heap_alloc_new w8 _)) (by simp [Value.oneCell']) (by decide) (by unfold maxLen; omega) (by omega) (by simp; omega) _ rfl ?_; intro g1 cap1 w9 hown' hgrow hat hgt)
        have R9 := Lib.hid ((B8.out.alloc hbs _).grown hgrow (by simp; omega) (fun j hj => (O8.out.lt j hj).1))
        have T9 := Lib.hid ((V8.out.alloc V8.out.size _).grown hgrow (by have := V8.out.size; simp; omega) HL.out)
        have L9 := Lib.hid (fun j (hj : (Value.slice (some ⟨g1, 0, none⟩) (k + 1) cap1).ownBlock = some j) => show w2.heap.size ≤ j from by
          cases hj
          show w2.heap.size ≤ g1
          rcases hat with h | h
          · exact HL.out _ h
          · have := V8.out.size
            simp at h
            omega)
        rw [← HZ.out] at hown'
        have O9 := Lib.hid (row_snoc (f := stG p q) hown')
        clear hown' hgrow hat hgt O8 B8 V8 z0 z1 z2 z3 hbs
        go_wp2_with fail
        go_roundw
        case rel => exact ⟨k + 1, by omega, by go_num, O9, R9, T9, L9⟩
        case measure => simp [intOf]; omega
    · obtain rfl : k = n := by omega
      have q3 : ¬ (k : Int) < k := by omega
      go_wp2_with fail
      go_ret
      exact ⟨⟨_, rfl, HO.out⟩, HB.out⟩
end Go.Proofs.YtdnlebijmiaclabDoor
