/- Contract of spec.GreatestOf over a row of intervals that the call owns. -/
import Derived.Test.YtdnlebijmiaclabDoorGreatest
import Derived.Test.YtdnlebijmiaclabDoorSCompareTone
import Derived.Test.YtdnlebijmiaclabDoorTakeD
import Derived.Test.YtdnlebijmiaclabDoorIvRows
namespace Go.Proofs.YtdnlebijmiaclabDoor
open Go.RowKit Go.Joins
set_option linter.unusedVariables false
theorem gList_inv {xs : List Iv} {k : Nat} (hk : k < xs.length) (h : okV (ivAt xs k) = false) : gList xs = -1 := by
  cases hg : gTo xs k with
  | none => exact gList_bad hg (by omega)
  | some g => exact gList_bad (gTo_bad hg (fun hh => by rw [h] at hh; exact absurd hh.1 (by simp))) hk
theorem gTo_first {xs : List Iv} (h : okV (ivAt xs 0) = true) : gTo xs 1 = some 0 := gTo_stay (k := 0) (g := 0) rfl ⟨h, h⟩ (by rw [(cmpV_zero h h).2 rfl]; omega)
def SCmpPick (a b c d e f g h x : Int) : Prop := ∀ w, Calls Tryd.prog 25 #[ivV a b c d, ivV e f g h] w fun en w' => en = .returned (.int .i64 x) ∧ Below w.heap.size w w'
theorem scmp_pick {a b c d e f g h x : Int} (hh : SCmpPick a b c d e f g h x) (w : World) : Calls Tryd.prog 25 #[ivV a b c d, ivV e f g h] w fun en w' => en = .returned (.int .i64 x) ∧ Below w.heap.size w w' := hh w
/-- Two elements of a row. -/
def El2 (g o p : Nat) (X Y : Iv) (w : World) : Prop := g < w.heap.size ∧ (w.cell? ⟨g, o, none⟩ = some (.int .i64 X.two) ∧ w.cell? ⟨g, o + 1, none⟩ = some (.int .i64 X.three) ∧ w.cell? ⟨g, o + 2, none⟩ = some (.int .i64 X.five) ∧ w.cell? ⟨g, o + 3, none⟩ = some (.int .i64 X.root)) ∧ (w.cell? ⟨g, p, none⟩ = some (.int .i64 Y.two) ∧ w.cell? ⟨g, p + 1, none⟩ = some (.int .i64 Y.three) ∧ w.cell? ⟨g, p + 2, none⟩ = some (.int .i64 Y.five) ∧ w.cell? ⟨g, p + 3, none⟩ = some (.int .i64 Y.root))
theorem el2_keep {W w : World} {g o p : Nat} {X Y : Iv} (hb : Below W.heap.size W w) (h : El2 g o p X Y W) : El2 g o p X Y w :=
  ⟨Nat.lt_of_lt_of_le h.1 hb.size, ⟨(hb.cell h.1).trans h.2.1.1, (hb.cell h.1).trans h.2.1.2.1, (hb.cell h.1).trans h.2.1.2.2.1, (hb.cell h.1).trans h.2.1.2.2.2⟩, ⟨(hb.cell h.1).trans h.2.2.1, (hb.cell h.1).trans h.2.2.2.1, (hb.cell h.1).trans h.2.2.2.2.1, (hb.cell h.1).trans h.2.2.2.2.2⟩⟩
theorem el2_drew {w : World} {g o p : Nat} {X Y : Iv} (h : El2 g o p X Y w) : El2 g o p X Y w.drew := h
theorem el2_cells {w : World} {g o p : Nat} {X Y : Iv} (h : El2 g o p X Y w) : w.cell? ⟨g, o, none⟩ = some (.int .i64 X.two) ∧ w.cell? ⟨g, o + 1, none⟩ = some (.int .i64 X.three) ∧ w.cell? ⟨g, o + 2, none⟩ = some (.int .i64 X.five) ∧ w.cell? ⟨g, o + 3, none⟩ = some (.int .i64 X.root) ∧ w.cell? ⟨g, p, none⟩ = some (.int .i64 Y.two) ∧ w.cell? ⟨g, p + 1, none⟩ = some (.int .i64 Y.three) ∧ w.cell? ⟨g, p + 2, none⟩ = some (.int .i64 Y.five) ∧ w.cell? ⟨g, p + 3, none⟩ = some (.int .i64 Y.root) := ⟨h.2.1.1, h.2.1.2.1, h.2.1.2.2.1, h.2.1.2.2.2, h.2.2⟩
set_option maxRecDepth 100000 in
set_option maxHeartbeats 4000000 in
theorem greatest_spec (w : World) (b : Nat) (e : TypeId) (v : Value) (xs : List Iv) (hx : xs.length ≤ 2000000) (h : w.ownsRow b e 4 v xs.length (ivCs xs)) :
    Calls Tryd.prog 28 #[v] w fun en w' => en = .returned (.int .i64 (gList xs)) ∧ Below w.heap.size w w' := by
  obtain ⟨n, hn⟩ : ∃ n, n = xs.length := ⟨_, rfl⟩
  rw [← hn] at h hx
  have HN := Lib.hid hn
  clear hn
  rcases Nat.eq_zero_or_pos n with h0 | h0
  · have Y := Lib.hid (show gList xs = -1 from by unfold gList; rw [if_pos (.inl (by have := HN.out; omega))])
    obtain ⟨p1, c1, rfl⟩ := own4_zero h h0
    clear h
    go_enter Tryd.func28, Tryd.ntmps28
    go_wp2
    refine wp_loop_rounds 1 ?_
    rw [rounds_succ]
    go_wp2
    refine wp_loop_rounds 1 ?_
    rw [rounds_succ]
    go_wp2
    go_ret
    exact ⟨ret_int Y.out.symm, Below.refl _ _⟩
  · obtain ⟨g0, cap, rfl, _, hgl⟩ := own4_pos h h0
    have HH := Lib.hid h
    have HG := Lib.hid hgl
    clear h hgl
    go_enter Tryd.func28, Tryd.ntmps28
    go_wp2
    go_loopw [4] (fun i wr => ∃ k : Nat, k ≤ n ∧ i = .int .i64 (k : Int) ∧ Hid (∀ j, j < k → okV (ivAt xs j) = true) ∧ (0 < k → n ≤ 20) ∧ Below w.heap.size w wr) (fun i _ => n - (intOf i).toNat)
    case atStart => exact ⟨0, Nat.zero_le _, rfl, Lib.hid (fun j hj => by omega), fun hh => by omega, Below.refl _ _⟩
    case round =>
      obtain ⟨k, hk, rfl, hall, h20, hb⟩ := hrel
      have HB := Lib.hid hb
      by_cases hlt : k < n
      · have q3 : (k : Int) < n := by omega
        obtain ⟨x0, x1, x2, x3⟩ := own_iv (own4_below HH.out hb) HN.out k hlt
        obtain ⟨X, hX⟩ : ∃ X, X = ivAt xs k := ⟨_, rfl⟩
        rw [← hX] at x0 x1 x2 x3
        have HX := Lib.hid hX
        clear hX hb h20
        by_cases hok : okV X = true
        · have OX : OkAt X.two X.three X.five X.root true := hok
          have HOK := Lib.hid hok
          by_cases h21 : n ≤ 20
          · have t1 : ¬ (20 : Int) < n := by omega
            clear hok
            go_wp2_with fail
            refine (okAt_spec OX _).mono ?_
            rintro en w2 ⟨rfl, hb2⟩
            have R2 := Lib.hid (HB.out.trans (hb2.mono HB.out.size))
            clear hb2 x0 x1 x2 x3
            go_wp2_with fail
            go_roundw
            case rel => exact ⟨k + 1, by omega, by go_num, Lib.hid (fun j hj => by rcases (show j < k ∨ j = k from by omega) with h | h; exact hall.out j h; rw [h, ← HX.out]; exact HOK.out), fun _ => h21, R2.out⟩
            case measure => simp [intOf]; omega
          · have t1 : (20 : Int) < n := by omega
            have Z := Lib.hid (show gList xs = -1 from by unfold gList; rw [if_pos (.inr (by have := HN.out; omega))])
            clear hok
            go_wp2_with fail
            refine (okAt_spec OX _).mono ?_
            rintro en w2 ⟨rfl, hb2⟩
            have R2 := Lib.hid (HB.out.trans (hb2.mono HB.out.size))
            clear hb2 x0 x1 x2 x3
            go_wp2_with fail
            go_ret
            exact ⟨ret_int Z.out.symm, R2.out⟩
        · have OX : OkAt X.two X.three X.five X.root false := Bool.eq_false_iff.2 hok
          have Z := Lib.hid (gList_inv (xs := xs) (k := k) (by have := HN.out; omega) (by rw [← HX.out]; exact Bool.eq_false_iff.2 hok))
          clear hok
          go_wp2_with fail
          refine (okAt_spec OX _).mono ?_
          rintro en w2 ⟨rfl, hb2⟩
          have R2 := Lib.hid (HB.out.trans (hb2.mono HB.out.size))
          clear hb2 x0 x1 x2 x3
          go_wp2_with fail
          go_ret
          exact ⟨ret_int Z.out.symm, R2.out⟩
      · have q3 : ¬ (k : Int) < n := by omega
        obtain rfl : k = n := by omega
        have N20 := Lib.hid (h20 h0)
        clear hb h20
        obtain ⟨wo, hwo⟩ : ∃ wo, wo = wr := ⟨_, rfl⟩
        rw [← hwo] at HB ⊢
        clear hwo
        go_wp2_with fail
        go_loopw [3, 5] (fun o i wr => ∃ m : Nat, m ≤ k ∧ i = .int .i64 (m : Int) ∧ ((m = 0 ∧ o = .int .i64 (-1)) ∨ (0 < m ∧ ∃ gg : Nat, o = .int .i64 (gg : Int) ∧ gg < k ∧ gTo xs m = some gg)) ∧ Below w.heap.size w wr) (fun _ i _ => k - (intOf i).toNat)
        case atStart => exact ⟨0, Nat.zero_le _, rfl, .inl ⟨rfl, rfl⟩, HB.out⟩
        case round =>
          clear HB
          obtain ⟨m, hm, rfl, ho, hb⟩ := hrel
          have HB := Lib.hid hb
          by_cases hlt : m < k
          · have q4 : (m : Int) < k := by omega
            rcases ho with ⟨rfl, rfl⟩ | ⟨hm0, gg, rfl, hgg, hto⟩
            · have NX := Lib.hid (gTo_first (hall.out 0 (by omega)))
              clear hb
              go_upto_region 10 with fail
              refine wp_region_held_drew (S := (fun _ => True)) (by kernel_rfl) ?_ (fun hHeld => ?_)
              · exact trivial
              refine takeD (i := 0) (d := (some 29)) (v := (.int .i64 (-1))) rfl rfl (by kernel_rfl) (by kernel_rfl) (by kernel_rfl) (fun _ _ _ h => h) (Or.inl ⟨by kernel_rfl, ?_⟩) (by assumption) ?_
              · intro wS hSw
                (try dsimp only at hSw)
                go_simp
              (try simp only [Act.put]); (try simp only [List.setIfInBounds_toArray]); (try simp only [List.set_cons_succ]); (try simp only [List.set_cons_zero])
              refine takeD (i := 1) (d := (some 30)) (v := (.bool true)) rfl rfl (by kernel_rfl) (by kernel_rfl) (by kernel_rfl) (fun _ _ _ h => h) (Or.inl ⟨by kernel_rfl, ?_⟩) (by assumption) ?_
              · intro wS hSw
                (try dsimp only at hSw)
                go_simp
              (try simp only [Act.put]); (try simp only [List.setIfInBounds_toArray]); (try simp only [List.set_cons_succ]); (try simp only [List.set_cons_zero])
              refine takeD (i := 2) (d := (some 31)) (v := (.bool true)) rfl rfl (by kernel_rfl) (by kernel_rfl) (by kernel_rfl) (fun _ _ _ h => h) (Or.inl ⟨by kernel_rfl, ?_⟩) (by assumption) ?_
              · intro wS hSw
                (try dsimp only at hSw)
                go_simp
              (try simp only [Act.put]); (try simp only [List.setIfInBounds_toArray]); (try simp only [List.set_cons_succ]); (try simp only [List.set_cons_zero])
              refine takeD (i := 3) (d := (some 32)) (v := undef) rfl rfl (by kernel_rfl) (by kernel_rfl) (by kernel_rfl) (fun _ _ _ h => h) (Or.inr ⟨by kernel_rfl, rfl⟩) (by assumption) ?_
              (try simp only [Act.put]); (try simp only [List.setIfInBounds_toArray]); (try simp only [List.set_cons_succ]); (try simp only [List.set_cons_zero])
              refine takeD (i := 4) (d := (some 33)) (v := undef) rfl rfl (by kernel_rfl) (by kernel_rfl) (by kernel_rfl) (fun _ _ _ h => h) (Or.inr ⟨by kernel_rfl, rfl⟩) (by assumption) ?_
              (try simp only [Act.put]); (try simp only [List.setIfInBounds_toArray]); (try simp only [List.set_cons_succ]); (try simp only [List.set_cons_zero])
              refine takeD (i := 5) (d := (some 34)) (v := undef) rfl rfl (by kernel_rfl) (by kernel_rfl) (by kernel_rfl) (fun _ _ _ h => h) (Or.inr ⟨by kernel_rfl, rfl⟩) (by assumption) ?_
              (try simp only [Act.put]); (try simp only [List.setIfInBounds_toArray]); (try simp only [List.set_cons_succ]); (try simp only [List.set_cons_zero])
              refine takeD (i := 6) (d := (some 35)) (v := undef) rfl rfl (by kernel_rfl) (by kernel_rfl) (by kernel_rfl) (fun _ _ _ h => h) (Or.inr ⟨by kernel_rfl, rfl⟩) (by assumption) ?_
              (try simp only [Act.put]); (try simp only [List.setIfInBounds_toArray]); (try simp only [List.set_cons_succ]); (try simp only [List.set_cons_zero])
              refine takeD (i := 7) (d := (some 36)) (v := undef) rfl rfl (by kernel_rfl) (by kernel_rfl) (by kernel_rfl) (fun _ _ _ h => h) (Or.inr ⟨by kernel_rfl, rfl⟩) (by assumption) ?_
              (try simp only [Act.put]); (try simp only [List.setIfInBounds_toArray]); (try simp only [List.set_cons_succ]); (try simp only [List.set_cons_zero])
              refine takeD (i := 8) (d := (some 37)) (v := undef) rfl rfl (by kernel_rfl) (by kernel_rfl) (by kernel_rfl) (fun _ _ _ h => h) (Or.inr ⟨by kernel_rfl, rfl⟩) (by assumption) ?_
              (try simp only [Act.put]); (try simp only [List.setIfInBounds_toArray]); (try simp only [List.set_cons_succ]); (try simp only [List.set_cons_zero])
              refine takeD (i := 9) (d := (some 38)) (v := undef) rfl rfl (by kernel_rfl) (by kernel_rfl) (by kernel_rfl) (fun _ _ _ h => h) (Or.inr ⟨by kernel_rfl, rfl⟩) (by assumption) ?_
              (try simp only [Act.put]); (try simp only [List.setIfInBounds_toArray]); (try simp only [List.set_cons_succ]); (try simp only [List.set_cons_zero])
              refine takeD (i := 10) (d := (some 39)) (v := undef) rfl rfl (by kernel_rfl) (by kernel_rfl) (by kernel_rfl) (fun _ _ _ h => h) (Or.inr ⟨by kernel_rfl, rfl⟩) (by assumption) ?_
              (try simp only [Act.put]); (try simp only [List.setIfInBounds_toArray]); (try simp only [List.set_cons_succ]); (try simp only [List.set_cons_zero])
              refine takeD (i := 11) (d := (some 40)) (v := undef) rfl rfl (by kernel_rfl) (by kernel_rfl) (by kernel_rfl) (fun _ _ _ h => h) (Or.inr ⟨by kernel_rfl, rfl⟩) (by assumption) ?_
              (try simp only [Act.put]); (try simp only [List.setIfInBounds_toArray]); (try simp only [List.set_cons_succ]); (try simp only [List.set_cons_zero])
              refine takeD (i := 12) (d := (some 41)) (v := undef) rfl rfl (by kernel_rfl) (by kernel_rfl) (by kernel_rfl) (fun _ _ _ h => h) (Or.inr ⟨by kernel_rfl, rfl⟩) (by assumption) ?_
              (try simp only [Act.put]); (try simp only [List.setIfInBounds_toArray]); (try simp only [List.set_cons_succ]); (try simp only [List.set_cons_zero])
              refine takeD (i := 13) (d := (some 42)) (v := (.bool true)) rfl rfl (by kernel_rfl) (by kernel_rfl) (by kernel_rfl) (fun _ _ _ h => h) (Or.inl ⟨by kernel_rfl, ?_⟩) (by assumption) ?_
              · intro wS hSw
                (try dsimp only at hSw)
                go_simp
              (try simp only [Act.put]); (try simp only [List.setIfInBounds_toArray]); (try simp only [List.set_cons_succ]); (try simp only [List.set_cons_zero])
              refine wpAnyH_done (by kernel_rfl) ?_ _
              go_wp2_with fail
              go_roundw
              case rel => exact ⟨1, by omega, by go_num, .inr ⟨by omega, 0, by go_num, by omega, NX.out⟩, HB.out.drew⟩
              case measure => simp [intOf]; omega
            · have q5 : (gg : Int) < k := by omega
              have q6 : ¬ (gg : Int) < 0 := by omega
              have r1 := own_iv (own4_below HH.out hb) HN.out m hlt
              have r2 := own_iv (own4_below HH.out hb) HN.out gg hgg
              obtain ⟨X, hX⟩ : ∃ X, X = ivAt xs m := ⟨_, rfl⟩
              obtain ⟨Y, hY⟩ : ∃ X, X = ivAt xs gg := ⟨_, rfl⟩
              have okx : okV X = true := by rw [hX]; exact hall.out m hlt
              have oky : okV Y = true := by rw [hY]; exact hall.out gg hgg
              rw [← hX] at r1
              rw [← hY] at r2
              have TB : Hid (El2 g0 (m * 4) (gg * 4) X Y wr) := Lib.hid ⟨Nat.lt_of_lt_of_le HG.out hb.size, r1, r2⟩
              obtain ⟨C, hC⟩ : ∃ C, C = cmpV X Y := ⟨_, rfl⟩
              have PK : SCmpPick X.two X.three X.five X.root Y.two Y.three Y.five Y.root C := by rw [hC]; exact fun w => scompareTone _ _ _ _ _ _ _ _ w
              clear r1 r2 hb
              obtain ⟨W1, hW1⟩ : ∃ y, y = wr := ⟨_, rfl⟩
              by_cases hc : 0 < C
              · have NX := Lib.hid (gTo_up hto (by rw [← hX, ← hY]; exact ⟨okx, oky⟩) (by rw [← hX, ← hY, ← hC]; exact hc))
                clear hX hY okx oky hC hto
                go_upto_region 10 with fail
                rw [← hW1] at TB HB ⊢
                clear hW1
                go_region_held3 (fun w' => w'.cell? ⟨g0, m * 4, none⟩ = some (.int .i64 X.two) ∧ w'.cell? ⟨g0, m * 4 + 1, none⟩ = some (.int .i64 X.three) ∧ w'.cell? ⟨g0, m * 4 + 2, none⟩ = some (.int .i64 X.five) ∧ w'.cell? ⟨g0, m * 4 + 3, none⟩ = some (.int .i64 X.root) ∧ w'.cell? ⟨g0, gg * 4, none⟩ = some (.int .i64 Y.two) ∧ w'.cell? ⟨g0, gg * 4 + 1, none⟩ = some (.int .i64 Y.three) ∧ w'.cell? ⟨g0, gg * 4 + 2, none⟩ = some (.int .i64 Y.five) ∧ w'.cell? ⟨g0, gg * 4 + 3, none⟩ = some (.int .i64 Y.root)) (with_reducible first | exact el2_cells (el2_drew TB.out) | exact el2_cells (el2_keep (by assumption) TB.out) | exact el2_cells TB.out)
                  (first
                    | (go_at_call 25; refine (calls_fromS (W := W1) (by with_reducible first | assumption | exact (Below.refl _ _).drew) (scmp_pick (by with_reducible assumption) _)).mono ?_; rintro e1 w1 ⟨rfl, hb⟩))
                have R2 := Lib.hid (HB.out.trans (hb.mono HB.out.size))
                clear hb TB HB
                go_wp2_with fail
                go_roundw
                case rel => exact ⟨m + 1, by omega, by go_num, .inr ⟨by omega, m, rfl, by omega, NX.out⟩, R2.out⟩
                case measure => simp [intOf]; omega
              · have NX := Lib.hid (gTo_stay hto (by rw [← hX, ← hY]; exact ⟨okx, oky⟩) (by rw [← hX, ← hY, ← hC]; exact hc))
                clear hX hY okx oky hC hto
                go_upto_region 10 with fail
                rw [← hW1] at TB HB ⊢
                clear hW1
                go_region_held3 (fun w' => w'.cell? ⟨g0, m * 4, none⟩ = some (.int .i64 X.two) ∧ w'.cell? ⟨g0, m * 4 + 1, none⟩ = some (.int .i64 X.three) ∧ w'.cell? ⟨g0, m * 4 + 2, none⟩ = some (.int .i64 X.five) ∧ w'.cell? ⟨g0, m * 4 + 3, none⟩ = some (.int .i64 X.root) ∧ w'.cell? ⟨g0, gg * 4, none⟩ = some (.int .i64 Y.two) ∧ w'.cell? ⟨g0, gg * 4 + 1, none⟩ = some (.int .i64 Y.three) ∧ w'.cell? ⟨g0, gg * 4 + 2, none⟩ = some (.int .i64 Y.five) ∧ w'.cell? ⟨g0, gg * 4 + 3, none⟩ = some (.int .i64 Y.root)) (with_reducible first | exact el2_cells (el2_drew TB.out) | exact el2_cells (el2_keep (by assumption) TB.out) | exact el2_cells TB.out)
                  (first
                    | (go_at_call 25; refine (calls_fromS (W := W1) (by with_reducible first | assumption | exact (Below.refl _ _).drew) (scmp_pick (by with_reducible assumption) _)).mono ?_; rintro e1 w1 ⟨rfl, hb⟩))
                have R2 := Lib.hid (HB.out.trans (hb.mono HB.out.size))
                clear hb TB HB
                go_wp2_with fail
                go_roundw
                case rel => exact ⟨m + 1, by omega, by go_num, .inr ⟨by omega, gg, rfl, by omega, NX.out⟩, R2.out⟩
                case measure => simp [intOf]; omega
          · have q4 : ¬ (m : Int) < k := by omega
            rcases ho with ⟨rfl, _⟩ | ⟨hm0, gg, rfl, hgg, hto⟩
            · omega
            · have Z := Lib.hid (gList_some (xs := xs) (g := gg) (by rw [← HN.out, ← (show m = k from by omega)]; exact hto) (by have := HN.out; omega) (by have := HN.out; have := N20.out; omega))
              clear hb hto
              go_wp2_with fail
              go_ret
              exact ⟨ret_int Z.out.symm, HB.out⟩
end Go.Proofs.YtdnlebijmiaclabDoor
