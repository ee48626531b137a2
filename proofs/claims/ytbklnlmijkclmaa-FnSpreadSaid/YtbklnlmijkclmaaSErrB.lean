/- Contract of spec.ErrorBound. -/
import Derived.Test.YtbklnlmijkclmaaSDepth
import Derived.Deep.RegionWith
namespace Go.Proofs.Ytbklnlmijkclmaa
open Go.RowKit Go.Joins
set_option linter.unusedVariables false
theorem errV_no {xs : List Iv} {key wr : Int} (h : ¬ (DepOk xs key ∧ 0 ≤ wr ∧ wr ≤ 5000)) : errV xs key wr = -1 := if_neg h
theorem depV_neg {xs : List Iv} {key : Int} : depV xs key = -1 ∨ (0 ≤ depV xs key ∧ DepOk xs key) := by
  unfold depV
  split
  · rename_i h; exact .inr ⟨h.2.1, h⟩
  · exact .inl rfl
theorem four02 {m : Nat} {x y z u : Int} {w w' : World} (hb : Below w.heap.size w w') (h : Four m x y z u w) : w'.cell? ⟨m, 0, none⟩ = some (.int .i64 x) ∧ w'.cell? ⟨m, 2, none⟩ = some (.int .i64 z) :=
  have k := four_keep hb h
  ⟨k.2.1, k.2.2.2.1⟩
set_option maxRecDepth 100000 in
set_option maxHeartbeats 4000000 in
theorem err_valid (b : Nat) (e : TypeId) (v : Value) (xs : List Iv) (hp : PlOk xs) (wr : Int) (hw : 0 ≤ wr ∧ wr ≤ 5000) : ∀ (K : Nat), K ≤ xs.length → ∀ (w : World), PlRow xs b e v w →
    Calls Try.prog 32 #[v, .int .i64 (K : Int), .int .i64 wr] w fun en w' => en = .returned (.int .i64 (errK xs wr K)) ∧ Below w.heap.size w w'
  | 0, hK, w, h => by
    have DP := Lib.hid (depth_valid b e v xs hp 0 hK w h)
    have HW := Lib.hid (decide_eq_true hw)
    clear h hp hw
    go_enter Try.func32, Try.ntmps32
    go_wp2_with fail
    refine DP.out.mono ?_
    rintro e1 w1 ⟨rfl, b1⟩
    go_wp2_with fail
    refine (in_at HW.out _).mono ?_
    rintro e1 w2 ⟨rfl, rfl⟩
    go_wp2_with fail
    go_ret
    exact ⟨rfl, b1⟩
  | K + 1, hK, w, h => by
    have hn11 : xs.length ≤ 11 := hp.1
    have DP := Lib.hid (depth_valid b e v xs hp (K + 1) hK w h)
    have HW := Lib.hid (decide_eq_true hw)
    have IH := Lib.hid (err_valid b e v xs hp wr hw K (by omega))
    obtain ⟨e1, e2⟩ := errK_small hp hw (k := K) (by omega)
    have HR := Lib.hid h
    obtain ⟨gx, cx, rfl, _, lgx⟩ := own4_pos h (by omega)
    obtain ⟨n, hn⟩ : ∃ n, n = xs.length := ⟨_, rfl⟩
    have r1 := own_iv h rfl K hK
    obtain ⟨kd, bt, hX, hkd, hbt⟩ := good_step hp hK
    rw [hX] at r1
    have SV := Lib.hid (fun (W : World) (q : PlRow xs b e (.slice (some ⟨gx, 0, none⟩) xs.length cx) W) => step20_spec ((K + 1 : Nat) : Int) W b e _ xs hp q)
    rw [show stepV xs.length ((K + 1 : Nat) : Int) = (K : Int) by unfold stepV; rw [if_pos ⟨by omega, by omega⟩]; omega] at SV
    obtain ⟨E, hE⟩ : ∃ E, E = errK xs wr K := ⟨_, rfl⟩
    obtain ⟨Z, hZ⟩ : ∃ Z, Z = errK xs wr (K + 1) := ⟨_, rfl⟩
    have hZ2 : Z = (3 * E + wr) / (2 * kd) + 1 := by rw [hZ, hE]; show _ / (2 * (ivAt xs K).five) + 1 = _; rw [hX]
    rw [← hZ]
    rw [← hE] at IH e1 e2
    rw [← hn] at DP IH HR SV hK hn11 ⊢
    obtain ⟨x0, x1, x2, x3⟩ := r1
    dsimp only at x0 x1 x2 x3
    have X4 := Lib.hid (And.intro (And.intro x0 x1) (And.intro x2 x3))
    have LG := Lib.hid lgx
    have ee0 : ((((K + 1 : Nat) : Int)) == 0) = false := by simp; omega
    have k0 : 0 ≤ (K : Int) := by omega
    have k1 : (K : Int) < (n : Int) := by omega
    obtain ⟨KK, hKK⟩ : ∃ z : Int, z = ((K + 1 : Nat) : Int) := ⟨_, rfl⟩
    rw [← hKK] at SV ee0 DP ⊢
    have kk0 : ¬ KK < 0 := by omega
    obtain ⟨w1', w2'⟩ := hw
    have HZ := Lib.hid hZ2
    clear h hp hn x0 x1 x2 x3 lgx hKK hK hX hE hZ hZ2 hbt
    go_enter Try.func32, Try.ntmps32
    go_wp2_with fail
    refine DP.out.mono ?_
    rintro e1 w1 ⟨rfl, b1⟩
    have R1 := Lib.hid (plRow_below HR.out b1)
    have c0 := (b1.cell (p := ⟨gx, K * 4, none⟩) LG.out).trans X4.out.1.1
    have c1 := (b1.cell (p := ⟨gx, K * 4 + 1, none⟩) LG.out).trans X4.out.1.2
    have c2 := (b1.cell (p := ⟨gx, K * 4 + 2, none⟩) LG.out).trans X4.out.2.1
    have c3 := (b1.cell (p := ⟨gx, K * 4 + 3, none⟩) LG.out).trans X4.out.2.2
    have B1 := Lib.hid b1
    clear b1 HR X4 DP
    go_wp2_with fail
    refine (in_at HW.out _).mono ?_
    rintro e1 w2 ⟨rfl, rfl⟩
    go_wp2_with fail
    refine (SV.out _ R1.out).mono ?_
    rintro e1 w2 ⟨rfl, rfl⟩
    go_upto_region 6 with fail
    obtain ⟨W1, hW1⟩ : ∃ W, W = w1.alloc (.cells #[.int .i64 (K : Int), .int .i64 ((K : Int) + 1), .int .i64 kd, .int .i64 bt] 32) := ⟨_, rfl⟩
    have BA : Below w1.heap.size w1 W1 := by rw [hW1]; exact below_alloc1 w1 _
    have F4 : Hid (Four w1.heap.size (K : Int) ((K : Int) + 1) kd bt W1) := Lib.hid (by rw [hW1]; exact four_alloc)
    rw [← hW1]
    have R2 := Lib.hid (plRow_below R1.out BA)
    have B2 := Lib.hid (B1.out.trans (BA.mono B1.out.size))
    clear hW1 c0 c1 c2 c3 BA R1 B1 SV
    generalize w1.heap.size = m at F4 ⊢
    rcases hkd with rfl | rfl
    · obtain ⟨D, hq⟩ : ∃ D, (3 * E + wr) / 2 = D := ⟨_, rfl⟩
      have D0 : 0 ≤ D := by omega
      have D1 : D ≤ 40000000 := by omega
      have s0 : 0 ≤ 3 * E + wr := by omega
      have HD := Lib.hid (show IntKind.i64.wrap (D + 1) = Z by rw [IntWalk.i64_in (D + 1) (by omega), HZ.out, show (2 : Int) * 1 = 2 from rfl, hq])
      obtain ⟨_, y0, _, y2, _⟩ := F4.out
      go_region_with (first
        | (go_at_call 32; refine (calls_fromF (W := W1) (by with_reducible first | assumption | exact (Below.refl _ _).drew) (IH.out _ (plRow_below R2.out (by with_reducible first | assumption | exact (Below.refl _ _).drew)))).mono ?_; rintro e9 w6 ⟨rfl, b6⟩; have d2 := (four02 b6 F4.out).2))
      all_goals
        go_wp2_with fail
        go_ret
        exact ⟨ret_intD HD.out, B2.out.trans (b6.mono B2.out.size)⟩
    · obtain ⟨D, hq⟩ : ∃ D, (3 * E + wr) / 4 = D := ⟨_, rfl⟩
      have D0 : 0 ≤ D := by omega
      have D1 : D ≤ 40000000 := by omega
      have s0 : 0 ≤ 3 * E + wr := by omega
      have HD := Lib.hid (show IntKind.i64.wrap (D + 1) = Z by rw [IntWalk.i64_in (D + 1) (by omega), HZ.out, show (2 : Int) * 2 = 4 from rfl, hq])
      obtain ⟨_, y0, _, y2, _⟩ := F4.out
      go_region_with (first
        | (go_at_call 32; refine (calls_fromF (W := W1) (by with_reducible first | assumption | exact (Below.refl _ _).drew) (IH.out _ (plRow_below R2.out (by with_reducible first | assumption | exact (Below.refl _ _).drew)))).mono ?_; rintro e9 w6 ⟨rfl, b6⟩; have d2 := (four02 b6 F4.out).2))
      all_goals
        go_wp2_with fail
        go_ret
        exact ⟨ret_intD HD.out, B2.out.trans (b6.mono B2.out.size)⟩
set_option maxRecDepth 100000 in
set_option maxHeartbeats 4000000 in
theorem err_spec (key wr : Int) (w : World) (b : Nat) (e : TypeId) (v : Value) (xs : List Iv) (hl : xs.length ≤ 2000000) (h : w.ownsRow b e 4 v xs.length (ivCs xs)) :
    Calls Try.prog 32 #[v, .int .i64 key, .int .i64 wr] w fun en w' => en = .returned (.int .i64 (errV xs key wr)) ∧ Below w.heap.size w w' := by
  by_cases hd : DepOk xs key
  · by_cases hw : 0 ≤ wr ∧ wr ≤ 5000
    · obtain ⟨K, rfl⟩ : ∃ K : Nat, key = K := ⟨key.toNat, by have := hd.2.1; omega⟩
      rw [show errV xs (K : Int) wr = errK xs wr K by unfold errV; rw [if_pos ⟨hd, hw⟩, Int.toNat_natCast]]
      exact err_valid b e v xs hd.1 wr hw K (by have := hd.2.2; omega) w h
    · have DP := Lib.hid (depth_spec key w b e v xs hl h)
      rw [show depV xs key = key from if_pos hd] at DP
      have HV := Lib.hid (errV_no (xs := xs) (key := key) (wr := wr) (fun q => hw q.2))
      have HW := Lib.hid (decide_eq_false hw)
      have k0 : ¬ key < 0 := by have := hd.2.1; omega
      clear h hd hw
      go_enter Try.func32, Try.ntmps32
      go_wp2_with fail
      refine DP.out.mono ?_
      rintro e1 w1 ⟨rfl, b1⟩
      go_wp2_with fail
      refine (in_at HW.out _).mono ?_
      rintro e1 w2 ⟨rfl, rfl⟩
      go_wp2_with fail
      go_ret
      exact ⟨ret_intD HV.out.symm, b1⟩
  · have DP := Lib.hid (depth_spec key w b e v xs hl h)
    rw [show depV xs key = -1 from if_neg hd] at DP
    have HV := Lib.hid (errV_no (xs := xs) (key := key) (wr := wr) (fun q => hd q.1))
    clear h hd
    go_enter Try.func32, Try.ntmps32
    go_wp2_with fail
    refine DP.out.mono ?_
    rintro e1 w1 ⟨rfl, b1⟩
    go_wp2_with fail
    go_ret
    exact ⟨ret_intD HV.out.symm, b1⟩
end Go.Proofs.Ytbklnlmijkclmaa
