/- The walk of laws.FnSameSizes. -/
import Derived.Test.YtdnlebijmiaclabDoorDrawTone
import Derived.Test.YtdnlebijmiaclabDoorCompareTone
import Derived.Test.YtdnlebijmiaclabDoorSameImpl
import Derived.Test.YtdnlebijmiaclabDoorBigWalk
import Derived.Test.YtdnlebijmiaclabDoorTakeD
namespace Go.Proofs.YtdnlebijmiaclabDoor
open Go.RowKit Go.Joins
set_option linter.unusedVariables false
theorem iv_ext {x y : Iv} (h1 : x.two = y.two) (h2 : x.three = y.three) (h3 : x.five = y.five) (h4 : x.root = y.root) : x = y := by
  cases x; cases y; simp_all
theorem same8_sim {a b c d e f g h : Int} (hx : okI a b c d = true) (hy : okI e f g h = true) : same8 a b c d e f g h = true ↔ simV ⟨a, b, c, d⟩ = simV ⟨e, f, g, h⟩ := by
  unfold same8
  rw [hx, hy]
  simp only [Bool.true_and, Bool.and_eq_true, beq_iff_eq]
  constructor
  · rintro ⟨⟨⟨h1, h2⟩, h3⟩, h4⟩
    exact iv_ext h1 h2 h3 h4
  · intro h
    exact ⟨⟨⟨congrArg Iv.two h, congrArg Iv.three h⟩, congrArg Iv.five h⟩, congrArg Iv.root h⟩
/-- Two valid intervals have the same size just if neither is greater. -/
theorem same8_cmp {a b c d e f g h : Int} (hx : okI a b c d = true) (hy : okI e f g h = true) : (cmp8 a b c d e f g h == 0) = same8 a b c d e f g h := by
  have h1 := same8_sim hx hy
  have h2 := cmpV_zero (x := ⟨a, b, c, d⟩) (y := ⟨e, f, g, h⟩) hx hy
  have h3 : cmp8 a b c d e f g h = 0 ↔ same8 a b c d e f g h = true := h2.trans h1.symm
  cases hs : same8 a b c d e f g h
  · have : ¬ cmp8 a b c d e f g h = 0 := fun h => by have := h3.1 h; rw [hs] at this; cases this
    simpa using this
  · simpa using h3.2 hs
theorem same8_times {a b c d : Int} (hx : okI a b c d = true) (hy : okI (3 * a) (3 * b) (3 * c) (3 * d) = true) : same8 a b c d (3 * a) (3 * b) (3 * c) (3 * d) = true :=
  (same8_sim hx hy).2 (simV_times ⟨a, b, c, d⟩ 3 (by omega) (okV_root (x := ⟨a, b, c, d⟩) hx)).symm
theorem cmp8_times {a b c d : Int} (hx : okI a b c d = true) (hy : okI (3 * a) (3 * b) (3 * c) (3 * d) = true) : cmp8 (3 * a) (3 * b) (3 * c) (3 * d) a b c d = 0 :=
  (cmpV_zero (x := ⟨3 * a, 3 * b, 3 * c, 3 * d⟩) (y := ⟨a, b, c, d⟩) hy hx).2 (simV_times ⟨a, b, c, d⟩ 3 (by omega) (okV_root (x := ⟨a, b, c, d⟩) hx))
theorem ti_ok {a b c d : Int} (h : TI a b c d) : okI a b c d = true := by
  obtain ⟨h1, h2, h3, h4, h5, h6, h7, h8⟩ := h
  unfold okI
  exact decide_eq_true ⟨h1, h2, by omega, by omega, by omega, by omega, by omega, by omega⟩
/-- What the law's last statement calls, told without a look inside. -/
def SizesSay (A : Addr) (a b c d e f g h p q r s x : Int) (z o : Bool) : Prop :=
  (∀ w, Calls Tryd.prog 23 #[ivV a b c d, ivV e f g h] w fun en w' => en = .returned (.bool z) ∧ Below w.heap.size w w') ∧
  (∀ w, SenAt A w → Calls Tryd.prog 17 #[ivV a b c d, ivV e f g h] w fun en w' => en = .returned (.int .i64 x) ∧ Below w.heap.size w w') ∧
  (∀ w, Calls Tryd.prog 24 #[ivV p q r s] w fun en w' => en = .returned (.bool o) ∧ Below w.heap.size w w') ∧
  (o = true → (∀ w, Calls Tryd.prog 23 #[ivV a b c d, ivV p q r s] w fun en w' => en = .returned (.bool true) ∧ Below w.heap.size w w')) ∧
  (o = true → (∀ w, SenAt A w → Calls Tryd.prog 17 #[ivV p q r s, ivV a b c d] w fun en w' => en = .returned (.int .i64 0) ∧ Below w.heap.size w w')) ∧ (x == 0) = z
theorem sizes_say (A : Addr) {a b c d e f g h : Int} (hx : okI a b c d = true) (hy : okI e f g h = true) : ∃ x z o, SizesSay A a b c d e f g h (3 * a) (3 * b) (3 * c) (3 * d) x z o := by
  refine ⟨cmp8 a b c d e f g h, same8 a b c d e f g h, okI (3 * a) (3 * b) (3 * c) (3 * d), fun w => sameSize_impl _ _ _ _ _ _ _ _ w, fun w hs => compare_impl A _ _ _ _ _ _ _ _ w hs, fun w => intervalOk_any _ _ _ _ w, fun ho w => ?_, fun ho w hs => ?_, same8_cmp hx hy⟩
  · have := sameSize_impl a b c d (3 * a) (3 * b) (3 * c) (3 * d) w
    rw [same8_times hx ho] at this
    exact this
  · have := compare_impl A (3 * a) (3 * b) (3 * c) (3 * d) a b c d w hs
    rw [cmp8_times hx ho] at this
    exact this
/-- Three drawn intervals in three new blocks. -/
theorem boxesD (w : World) (a b c d e f g h i j k l : Int) (T : TypeId) : ∃ W, W = ((w.alloc (.cells #[.int .i64 a, .int .i64 b, .int .i64 c, .int .i64 d] T)).alloc (.cells #[.int .i64 e, .int .i64 f, .int .i64 g, .int .i64 h] T)).alloc (.cells #[.int .i64 i, .int .i64 j, .int .i64 k, .int .i64 l] T) ∧ Four w.heap.size a b c d W ∧ Four (w.heap.size + 1) e f g h W ∧ Four (w.heap.size + 2) i j k l W ∧ Below w.heap.size w W := by
  obtain ⟨W0, hW, E0, E1, EB⟩ := boxes2 w a b c d e f g h T T
  have hsz : W0.heap.size = w.heap.size + 2 := by rw [hW]; simp
  refine ⟨_, rfl, ?_, ?_, ?_, below_alloc3 w _ _ _⟩
  · rw [← hW]; exact four_alF E0
  · rw [← hW]; exact four_alF E1
  · rw [← hW, ← hsz]; exact four_alloc
/-- Three intervals in three blocks. -/
def Trip (n m l : Nat) (a b c d e f g h p q r s : Int) (w : World) : Prop := Four n a b c d w ∧ Four m e f g h w ∧ Four l p q r s w
theorem trip_keep {W w : World} {n m l : Nat} {a b c d e f g h p q r s : Int} (hb : Below W.heap.size W w) (hp : Trip n m l a b c d e f g h p q r s W) : Trip n m l a b c d e f g h p q r s w := ⟨four_keep hb hp.1, four_keep hb hp.2.1, four_keep hb hp.2.2⟩
theorem trip_cells {w : World} {n m l : Nat} {a b c d e f g h p q r s : Int} (hp : Trip n m l a b c d e f g h p q r s w) : w.cell? ⟨n, 0, none⟩ = some (.int .i64 a) ∧ w.cell? ⟨n, 1, none⟩ = some (.int .i64 b) ∧ w.cell? ⟨n, 2, none⟩ = some (.int .i64 c) ∧ w.cell? ⟨n, 3, none⟩ = some (.int .i64 d) ∧ w.cell? ⟨m, 0, none⟩ = some (.int .i64 e) ∧ w.cell? ⟨m, 1, none⟩ = some (.int .i64 f) ∧ w.cell? ⟨m, 2, none⟩ = some (.int .i64 g) ∧ w.cell? ⟨m, 3, none⟩ = some (.int .i64 h) ∧ w.cell? ⟨l, 0, none⟩ = some (.int .i64 p) ∧ w.cell? ⟨l, 1, none⟩ = some (.int .i64 q) ∧ w.cell? ⟨l, 2, none⟩ = some (.int .i64 r) ∧ w.cell? ⟨l, 3, none⟩ = some (.int .i64 s) := ⟨hp.1.2.1, hp.1.2.2.1, hp.1.2.2.2.1, hp.1.2.2.2.2, hp.2.1.2.1, hp.2.1.2.2.1, hp.2.1.2.2.2.1, hp.2.1.2.2.2.2, hp.2.2.2⟩
theorem trip_drew {w : World} {n m l : Nat} {a b c d e f g h p q r s : Int} (hp : Trip n m l a b c d e f g h p q r s w) : Trip n m l a b c d e f g h p q r s w.drew := hp
def SamePick (a b c d e f g h : Int) (z : Bool) : Prop := ∀ w, Calls Tryd.prog 23 #[ivV a b c d, ivV e f g h] w fun en w' => en = .returned (.bool z) ∧ Below w.heap.size w w'
def CmpPick (A : Addr) (a b c d e f g h x : Int) : Prop := ∀ w, SenAt A w → Calls Tryd.prog 17 #[ivV a b c d, ivV e f g h] w fun en w' => en = .returned (.int .i64 x) ∧ Below w.heap.size w w'
def OkPick (a b c d : Int) (z : Bool) : Prop := ∀ w, Calls Tryd.prog 24 #[ivV a b c d] w fun en w' => en = .returned (.bool z) ∧ Below w.heap.size w w'
theorem same_pick {a b c d e f g h : Int} {z : Bool} (hh : SamePick a b c d e f g h z) (w : World) : Calls Tryd.prog 23 #[ivV a b c d, ivV e f g h] w fun en w' => en = .returned (.bool z) ∧ Below w.heap.size w w' := hh w
theorem cmp_pick {A : Addr} {a b c d e f g h x : Int} (hh : CmpPick A a b c d e f g h x) (w : World) (hs : SenAt A w) : Calls Tryd.prog 17 #[ivV a b c d, ivV e f g h] w fun en w' => en = .returned (.int .i64 x) ∧ Below w.heap.size w w' := hh w hs
theorem ok_pick {a b c d : Int} {z : Bool} (hh : OkPick a b c d z) (w : World) : Calls Tryd.prog 24 #[ivV a b c d] w fun en w' => en = .returned (.bool z) ∧ Below w.heap.size w w' := hh w
theorem three_bd {a : Int} (h : -100 ≤ a) (h' : a ≤ 100) : -300 ≤ 3 * a ∧ 3 * a ≤ 300 := by omega
set_option maxRecDepth 100000 in
set_option maxHeartbeats 8000000 in
theorem walk_FnSameSizes (A : Addr) (a0 : Option Addr) (len0 cap0 : Nat) (z0 : List Int) (w : World) (hs : SenAt A w) (hr : IsRow .u8 w a0 len0 cap0 z0) :
    Calls Tryd.prog 4 #[.slice a0 len0 cap0] w fun e w' => e = .returned (.bool true) ∧ Below w.heap.size w w' := by
  have hlen := (row_len hr).2
  have HS := Lib.hid hs
  clear hs
  by_cases hbig : 1048576 < len0
  · have t0 : decide (1048576 < (len0 : Int)) = true := by simp; omega
    go_enter Tryd.func4, Tryd.ntmps4
    go_wp2_with fail
    refine (bigW_any _ _ _ _ hlen).mono ?_
    rintro e w' ⟨rfl, rfl⟩
    go_wp2_with fail
    go_ret
    exact ⟨rfl, Below.refl _ _⟩
  · have t0 : decide (1048576 < (len0 : Int)) = false := by simp; omega
    have HR := Lib.hid hr
    clear hr
    go_enter Tryd.func4, Tryd.ntmps4
    go_wp2_with fail
    refine (bigW_any _ _ _ _ hlen).mono ?_
    rintro e w' ⟨rfl, rfl⟩
    go_wp2_with fail
    refine (drawTones_any HR.out).mono ?_
    rintro en w1 ⟨a, b, c, d, e, f, g, h, i, j, k, l, hT1, hT2, _, rfl, hb1⟩
    obtain ⟨x, z, o, hsay⟩ := sizes_say A (ti_ok hT1) (ti_ok hT2)
    obtain ⟨p1, p2, p3, p4, p5, p6, p7, p8⟩ := hT1
    have r1 := three_bd (a := a) (by omega) (by omega)
    have r2 := three_bd (a := b) (by omega) (by omega)
    have r3 := three_bd (a := c) (by omega) (by omega)
    have r4 := three_bd (a := d) (by omega) (by omega)
    obtain ⟨p, hp⟩ : ∃ p, 3 * a = p := ⟨_, rfl⟩
    obtain ⟨q, hq⟩ : ∃ p, 3 * b = p := ⟨_, rfl⟩
    obtain ⟨r, hrr⟩ : ∃ p, 3 * c = p := ⟨_, rfl⟩
    obtain ⟨s, hss⟩ : ∃ p, 3 * d = p := ⟨_, rfl⟩
    rw [hp, hq, hrr, hss] at hsay
    rw [hp] at r1
    rw [hq] at r2
    rw [hrr] at r3
    rw [hss] at r4
    obtain ⟨r11, r12⟩ := r1
    obtain ⟨r21, r22⟩ := r2
    obtain ⟨r31, r32⟩ := r3
    obtain ⟨r41, r42⟩ := r4
    have SAY := Lib.hid hsay
    have HB := Lib.hid hb1
    have HP := Lib.hid (And.intro hp (And.intro hq (And.intro hrr hss)))
    clear hsay hT2 hb1 p1 p2 p3 p4 p5 p6 p7 p8 HR hlen hbig hp hq hrr hss
    obtain ⟨W0, hW, E0, E1, E2, EB⟩ := boxesD w1 a b c d e f g h i j k l 25
    have F0 := Lib.hid E0
    have F1 := Lib.hid E1
    have FB := Lib.hid (HB.out.trans (EB.mono HB.out.size))
    obtain ⟨x9, x0, x1, x2, x3⟩ := E0
    obtain ⟨hp, hq, hrr, hss⟩ := HP.out
    have HW := Lib.hid hW
    clear E1 E2 EB HB
    go_upto_region 4 with fail
    rw [← HW.out]
    clear hW
    have q1 : ¬ (0 : Int) < 0 := by omega
    go_upto_region 5 with fail
    clear x9 x0 x1 x2 x3 hp hq hrr hss r11 r12 r21 r22 r31 r32 r41 r42 HP
    obtain ⟨mP, hmP⟩ : ∃ n, n = W0.heap.size := ⟨_, rfl⟩
    obtain ⟨W1, hW1⟩ : ∃ y, y = W0.alloc (.cells #[.int .i64 p, .int .i64 q, .int .i64 r, .int .i64 s] 25) := ⟨_, rfl⟩
    have gP : Four mP p q r s W1 := by rw [hW1, hmP]; exact four_alloc
    have gA := four_alF (o := (.cells #[.int .i64 p, .int .i64 q, .int .i64 r, .int .i64 s] 25)) F0.out
    have gB := four_alF (o := (.cells #[.int .i64 p, .int .i64 q, .int .i64 r, .int .i64 s] 25)) F1.out
    have bb := FB.out.alloc FB.out.size (.cells #[.int .i64 p, .int .i64 q, .int .i64 r, .int .i64 s] 25)
    rw [← hW1] at gA gB bb
    rw [← hW1, ← hmP]
    clear hW1 hmP F0 F1 FB HW
    generalize w1.heap.size + 1 = mB at gB ⊢
    generalize w1.heap.size = mA at gA ⊢
    have TB : Hid (Trip mA mB mP a b c d e f g h p q r s W1) := Lib.hid ⟨gA, gB, gP⟩
    have BB := Lib.hid bb
    have HS1 := Lib.hid (senAt_below HS.out bb)
    clear gA gB gP bb
    obtain ⟨k1, k2, k3, k4, k5, k6⟩ := SAY.out
    have P1 : SamePick a b c d e f g h z := k1
    have P2 : CmpPick A a b c d e f g h x := k2
    have P3 : OkPick p q r s o := k3
    clear k1 k2 k3 SAY
    have t1 : (z == z) = true := by cases z <;> rfl
    cases o
    · clear k4 k5
      refine wp_region_held_drew (S := (fun w' => w'.cell? ⟨mA, 0, none⟩ = some (.int .i64 a) ∧ w'.cell? ⟨mA, 1, none⟩ = some (.int .i64 b) ∧ w'.cell? ⟨mA, 2, none⟩ = some (.int .i64 c) ∧ w'.cell? ⟨mA, 3, none⟩ = some (.int .i64 d) ∧ w'.cell? ⟨mB, 0, none⟩ = some (.int .i64 e) ∧ w'.cell? ⟨mB, 1, none⟩ = some (.int .i64 f) ∧ w'.cell? ⟨mB, 2, none⟩ = some (.int .i64 g) ∧ w'.cell? ⟨mB, 3, none⟩ = some (.int .i64 h) ∧ w'.cell? ⟨mP, 0, none⟩ = some (.int .i64 p) ∧ w'.cell? ⟨mP, 1, none⟩ = some (.int .i64 q) ∧ w'.cell? ⟨mP, 2, none⟩ = some (.int .i64 r) ∧ w'.cell? ⟨mP, 3, none⟩ = some (.int .i64 s))) (by kernel_rfl) ?_ (fun hHeld => ?_)
      · exact trip_cells (trip_drew TB.out)
      refine takeD (i := 0) (d := (some 28)) (v := (ivV a b c d)) rfl rfl (by kernel_rfl) (by kernel_rfl) (by kernel_rfl) (fun _ _ _ h => h) (Or.inl ⟨by kernel_rfl, ?_⟩) (by assumption) ?_
      · intro wS hSw
        (try dsimp only at hSw)
        go_simp
      (try simp only [Act.put]); (try simp only [List.setIfInBounds_toArray]); (try simp only [List.set_cons_succ]); (try simp only [List.set_cons_zero])
      refine takeD (i := 1) (d := (some 29)) (v := (ivV e f g h)) rfl rfl (by kernel_rfl) (by kernel_rfl) (by kernel_rfl) (fun _ _ _ h => h) (Or.inl ⟨by kernel_rfl, ?_⟩) (by assumption) ?_
      · intro wS hSw
        (try dsimp only at hSw)
        go_simp
      (try simp only [Act.put]); (try simp only [List.setIfInBounds_toArray]); (try simp only [List.set_cons_succ]); (try simp only [List.set_cons_zero])
      refine takeD (i := 3) (d := (some 31)) (v := (ivV a b c d)) rfl rfl (by kernel_rfl) (by kernel_rfl) (by kernel_rfl) (fun _ _ _ h => h) (Or.inl ⟨by kernel_rfl, ?_⟩) (by assumption) ?_
      · intro wS hSw
        (try dsimp only at hSw)
        go_simp
      (try simp only [Act.put]); (try simp only [List.setIfInBounds_toArray]); (try simp only [List.set_cons_succ]); (try simp only [List.set_cons_zero])
      refine takeD (i := 4) (d := (some 32)) (v := (ivV e f g h)) rfl rfl (by kernel_rfl) (by kernel_rfl) (by kernel_rfl) (fun _ _ _ h => h) (Or.inl ⟨by kernel_rfl, ?_⟩) (by assumption) ?_
      · intro wS hSw
        (try dsimp only at hSw)
        go_simp
      (try simp only [Act.put]); (try simp only [List.setIfInBounds_toArray]); (try simp only [List.set_cons_succ]); (try simp only [List.set_cons_zero])
      refine wpAnyH_ready (rs := [2]) (by kernel_rfl) (by simp) ?_
      refine AllReadyH.cons rfl (fun K hK => ?_) AllReadyH.nil
      go_simp
      refine (calls_fromS (W := W1) (by with_reducible first | assumption | exact (Below.refl _ _).drew) (same_pick P1 _)).mono ?_
      rintro e1 w1 ⟨rfl, hb⟩
      go_wp2_with fail
      refine hK.out _ _ ?_ (fun hHeld => ?_)
      · exact trip_cells (trip_keep hb TB.out)
      clear hK K
      (try simp only [Act.put]); (try simp only [List.setIfInBounds_toArray]); (try simp only [List.set_cons_succ]); (try simp only [List.set_cons_zero])
      refine wpAnyH_ready (rs := [5]) (by kernel_rfl) (by simp) ?_
      refine AllReadyH.cons rfl (fun K hK => ?_) AllReadyH.nil
      go_simp
      refine (calls_fromS (W := W1) (by with_reducible first | assumption | exact (Below.refl _ _).drew) (cmp_pick P2 _ (senAt_below HS1.out (by with_reducible first | assumption | exact (Below.refl _ _).drew)))).mono ?_
      rintro e1 w1 ⟨rfl, hb⟩
      go_wp2_with fail
      refine hK.out _ _ ?_ (fun hHeld => ?_)
      · exact trip_cells (trip_keep hb TB.out)
      clear hK K
      (try simp only [Act.put]); (try simp only [List.setIfInBounds_toArray]); (try simp only [List.set_cons_succ]); (try simp only [List.set_cons_zero])
      refine takeD (i := 6) (d := (some 34)) (v := .bool z) rfl rfl (by kernel_rfl) (by kernel_rfl) (by kernel_rfl) (fun _ _ _ h => h) (Or.inl ⟨by kernel_rfl, ?_⟩) (by assumption) ?_
      · intro wS hSw
        (try dsimp only at hSw)
        go_simp
      (try simp only [Act.put]); (try simp only [List.setIfInBounds_toArray]); (try simp only [List.set_cons_succ]); (try simp only [List.set_cons_zero])
      refine takeD (i := 7) (d := (some 35)) (v := .bool true) rfl rfl (by kernel_rfl) (by kernel_rfl) (by kernel_rfl) (fun _ _ _ h => h) (Or.inl ⟨by kernel_rfl, ?_⟩) (by assumption) ?_
      · intro wS hSw
        (try dsimp only at hSw)
        go_simp
      (try simp only [Act.put]); (try simp only [List.setIfInBounds_toArray]); (try simp only [List.set_cons_succ]); (try simp only [List.set_cons_zero])
      refine takeD (i := 8) (d := (some 36)) (v := .bool true) rfl rfl (by kernel_rfl) (by kernel_rfl) (by kernel_rfl) (fun _ _ _ h => h) (Or.inl ⟨by kernel_rfl, ?_⟩) (by assumption) ?_
      · intro wS hSw
        (try dsimp only at hSw)
        go_simp
      (try simp only [Act.put]); (try simp only [List.setIfInBounds_toArray]); (try simp only [List.set_cons_succ]); (try simp only [List.set_cons_zero])
      refine takeD (i := 9) (d := (some 37)) (v := (ivV p q r s)) rfl rfl (by kernel_rfl) (by kernel_rfl) (by kernel_rfl) (fun _ _ _ h => h) (Or.inl ⟨by kernel_rfl, ?_⟩) (by assumption) ?_
      · intro wS hSw
        (try dsimp only at hSw)
        go_simp
      (try simp only [Act.put]); (try simp only [List.setIfInBounds_toArray]); (try simp only [List.set_cons_succ]); (try simp only [List.set_cons_zero])
      refine wpAnyH_ready (rs := [10]) (by kernel_rfl) (by simp) ?_
      refine AllReadyH.cons rfl (fun K hK => ?_) AllReadyH.nil
      go_simp
      refine (calls_fromS (W := W1) (by with_reducible first | assumption | exact (Below.refl _ _).drew) (ok_pick P3 _)).mono ?_
      rintro e1 w1 ⟨rfl, hb⟩
      go_wp2_with fail
      refine hK.out _ _ ?_ (fun hHeld => ?_)
      · exact trip_cells (trip_keep hb TB.out)
      clear hK K
      (try simp only [Act.put]); (try simp only [List.setIfInBounds_toArray]); (try simp only [List.set_cons_succ]); (try simp only [List.set_cons_zero])
      refine takeD (i := 11) (d := (some 39)) (v := .bool true) rfl rfl (by kernel_rfl) (by kernel_rfl) (by kernel_rfl) (fun _ _ _ h => h) (Or.inl ⟨by kernel_rfl, ?_⟩) (by assumption) ?_
      · intro wS hSw
        (try dsimp only at hSw)
        go_simp
      (try simp only [Act.put]); (try simp only [List.setIfInBounds_toArray]); (try simp only [List.set_cons_succ]); (try simp only [List.set_cons_zero])
      refine takeD (i := 12) (d := (some 40)) (v := .bool true) rfl rfl (by kernel_rfl) (by kernel_rfl) (by kernel_rfl) (fun _ _ _ h => h) (Or.inl ⟨by kernel_rfl, ?_⟩) (by assumption) ?_
      · intro wS hSw
        (try dsimp only at hSw)
        go_simp
      (try simp only [Act.put]); (try simp only [List.setIfInBounds_toArray]); (try simp only [List.set_cons_succ]); (try simp only [List.set_cons_zero])
      refine takeD (i := 13) (d := (some 41)) (v := undef) rfl rfl (by kernel_rfl) (by kernel_rfl) (by kernel_rfl) (fun _ _ _ h => h) (Or.inr ⟨by kernel_rfl, rfl⟩) (by assumption) ?_
      (try simp only [Act.put]); (try simp only [List.setIfInBounds_toArray]); (try simp only [List.set_cons_succ]); (try simp only [List.set_cons_zero])
      refine takeD (i := 14) (d := (some 42)) (v := undef) rfl rfl (by kernel_rfl) (by kernel_rfl) (by kernel_rfl) (fun _ _ _ h => h) (Or.inr ⟨by kernel_rfl, rfl⟩) (by assumption) ?_
      (try simp only [Act.put]); (try simp only [List.setIfInBounds_toArray]); (try simp only [List.set_cons_succ]); (try simp only [List.set_cons_zero])
      refine takeD (i := 15) (d := (some 43)) (v := undef) rfl rfl (by kernel_rfl) (by kernel_rfl) (by kernel_rfl) (fun _ _ _ h => h) (Or.inr ⟨by kernel_rfl, rfl⟩) (by assumption) ?_
      (try simp only [Act.put]); (try simp only [List.setIfInBounds_toArray]); (try simp only [List.set_cons_succ]); (try simp only [List.set_cons_zero])
      refine takeD (i := 16) (d := (some 44)) (v := undef) rfl rfl (by kernel_rfl) (by kernel_rfl) (by kernel_rfl) (fun _ _ _ h => h) (Or.inr ⟨by kernel_rfl, rfl⟩) (by assumption) ?_
      (try simp only [Act.put]); (try simp only [List.setIfInBounds_toArray]); (try simp only [List.set_cons_succ]); (try simp only [List.set_cons_zero])
      refine takeD (i := 17) (d := (some 45)) (v := undef) rfl rfl (by kernel_rfl) (by kernel_rfl) (by kernel_rfl) (fun _ _ _ h => h) (Or.inr ⟨by kernel_rfl, rfl⟩) (by assumption) ?_
      (try simp only [Act.put]); (try simp only [List.setIfInBounds_toArray]); (try simp only [List.set_cons_succ]); (try simp only [List.set_cons_zero])
      refine takeD (i := 18) (d := (some 46)) (v := undef) rfl rfl (by kernel_rfl) (by kernel_rfl) (by kernel_rfl) (fun _ _ _ h => h) (Or.inr ⟨by kernel_rfl, rfl⟩) (by assumption) ?_
      (try simp only [Act.put]); (try simp only [List.setIfInBounds_toArray]); (try simp only [List.set_cons_succ]); (try simp only [List.set_cons_zero])
      refine takeD (i := 19) (d := (some 47)) (v := undef) rfl rfl (by kernel_rfl) (by kernel_rfl) (by kernel_rfl) (fun _ _ _ h => h) (Or.inr ⟨by kernel_rfl, rfl⟩) (by assumption) ?_
      (try simp only [Act.put]); (try simp only [List.setIfInBounds_toArray]); (try simp only [List.set_cons_succ]); (try simp only [List.set_cons_zero])
      refine takeD (i := 20) (d := (some 48)) (v := undef) rfl rfl (by kernel_rfl) (by kernel_rfl) (by kernel_rfl) (fun _ _ _ h => h) (Or.inr ⟨by kernel_rfl, rfl⟩) (by assumption) ?_
      (try simp only [Act.put]); (try simp only [List.setIfInBounds_toArray]); (try simp only [List.set_cons_succ]); (try simp only [List.set_cons_zero])
      refine takeD (i := 21) (d := (some 49)) (v := undef) rfl rfl (by kernel_rfl) (by kernel_rfl) (by kernel_rfl) (fun _ _ _ h => h) (Or.inr ⟨by kernel_rfl, rfl⟩) (by assumption) ?_
      (try simp only [Act.put]); (try simp only [List.setIfInBounds_toArray]); (try simp only [List.set_cons_succ]); (try simp only [List.set_cons_zero])
      refine takeD (i := 22) (d := (some 50)) (v := .bool true) rfl rfl (by kernel_rfl) (by kernel_rfl) (by kernel_rfl) (fun _ _ _ h => h) (Or.inl ⟨by kernel_rfl, ?_⟩) (by assumption) ?_
      · intro wS hSw
        (try dsimp only at hSw)
        go_simp
      (try simp only [Act.put]); (try simp only [List.setIfInBounds_toArray]); (try simp only [List.set_cons_succ]); (try simp only [List.set_cons_zero])
      refine takeD (i := 23) (d := (some 51)) (v := .bool true) rfl rfl (by kernel_rfl) (by kernel_rfl) (by kernel_rfl) (fun _ _ _ h => h) (Or.inl ⟨by kernel_rfl, ?_⟩) (by assumption) ?_
      · intro wS hSw
        (try dsimp only at hSw)
        go_simp
      (try simp only [Act.put]); (try simp only [List.setIfInBounds_toArray]); (try simp only [List.set_cons_succ]); (try simp only [List.set_cons_zero])
      refine takeD (i := 24) (d := (some 2)) (v := .bool true) rfl rfl (by kernel_rfl) (by kernel_rfl) (by kernel_rfl) (fun _ _ _ h => h) (Or.inl ⟨by kernel_rfl, ?_⟩) (by assumption) ?_
      · intro wS hSw
        (try dsimp only at hSw)
        go_simp
      (try simp only [Act.put]); (try simp only [List.setIfInBounds_toArray]); (try simp only [List.set_cons_succ]); (try simp only [List.set_cons_zero])
      refine wpAnyH_done (by kernel_rfl) ?_ _
      go_wp2_with fail
      go_ret
      exact ⟨rfl, BB.out.trans (hb.mono BB.out.size)⟩
    · have P4 : SamePick a b c d p q r s true := k4 rfl
      have P5 : CmpPick A p q r s a b c d 0 := k5 rfl
      clear k4 k5
      first
        | go_region_held3 (fun w' => w'.cell? ⟨mA, 0, none⟩ = some (.int .i64 a) ∧ w'.cell? ⟨mA, 1, none⟩ = some (.int .i64 b) ∧ w'.cell? ⟨mA, 2, none⟩ = some (.int .i64 c) ∧ w'.cell? ⟨mA, 3, none⟩ = some (.int .i64 d) ∧ w'.cell? ⟨mB, 0, none⟩ = some (.int .i64 e) ∧ w'.cell? ⟨mB, 1, none⟩ = some (.int .i64 f) ∧ w'.cell? ⟨mB, 2, none⟩ = some (.int .i64 g) ∧ w'.cell? ⟨mB, 3, none⟩ = some (.int .i64 h) ∧ w'.cell? ⟨mP, 0, none⟩ = some (.int .i64 p) ∧ w'.cell? ⟨mP, 1, none⟩ = some (.int .i64 q) ∧ w'.cell? ⟨mP, 2, none⟩ = some (.int .i64 r) ∧ w'.cell? ⟨mP, 3, none⟩ = some (.int .i64 s)) (with_reducible first | exact trip_cells (trip_drew TB.out) | exact trip_cells (trip_keep (by assumption) TB.out) | exact trip_cells TB.out)
            (first
          | (go_at_call 23; refine (calls_fromS (W := W1) (by with_reducible first | assumption | exact (Below.refl _ _).drew) (same_pick (by with_reducible assumption) _)).mono ?_; rintro e1 w1 ⟨rfl, hb⟩)
          | (go_at_call 17; refine (calls_fromS (W := W1) (by with_reducible first | assumption | exact (Below.refl _ _).drew) (cmp_pick (by with_reducible assumption) _ (senAt_below HS1.out (by with_reducible first | assumption | exact (Below.refl _ _).drew)))).mono ?_; rintro e1 w1 ⟨rfl, hb⟩)
          | (go_at_call 24; refine (calls_fromS (W := W1) (by with_reducible first | assumption | exact (Below.refl _ _).drew) (ok_pick (by with_reducible assumption) _)).mono ?_; rintro e1 w1 ⟨rfl, hb⟩))
        | fail
      all_goals
        go_wp2_with fail
        go_ret
        exact ⟨rfl, BB.out.trans (hb.mono BB.out.size)⟩
end Go.Proofs.YtdnlebijmiaclabDoor
