/- Pitches and their partials behind an interface: impl.commonTime, impl.vibrationsIn; impl.ComparePitches and BeatOf. -/
import Derived.Test.YtgoaofkbegfinaaPitchImpl
namespace Go.Proofs.Ytgoaofkbegfinaa
open Go.RowKit Go.Joins
set_option linter.unusedVariables false
abbrev ifP (n d : Int) : Value := .iface 25 (pchV n d)
abbrev ptV (n d k : Int) : Value := .agg #[.int .i64 n, .int .i64 d, .int .i64 k]
abbrev ifQ (n d k : Int) : Value := .iface 48 (ptV n d k)
theorem sec_any (n d : Int) (w : World) : Calls Try.prog 49 #[pchV n d] w fun e w' => e = .returned (.int .i64 d) ∧ Below w.heap.size w w' := by
  go_enter Try.func49, Try.ntmps49
  go_wp2_with fail
  go_ret
  exact ⟨rfl, below_alloc1 _ _⟩
theorem vib_any (n d : Int) (w : World) : Calls Try.prog 50 #[pchV n d] w fun e w' => e = .returned (.int .i64 n) ∧ Below w.heap.size w w' := by
  go_enter Try.func50, Try.ntmps50
  go_wp2_with fail
  go_ret
  exact ⟨rfl, below_alloc1 _ _⟩
theorem secP (n d : Int) (w : World) : (method 157 25 (pchV n d) "loop.example/g00989/impl.seconds").run Try.prog w = .ok (49, pchV n d) w := by kernel_rfl
theorem vibP (n d : Int) (w : World) : (method 157 25 (pchV n d) "loop.example/g00989/impl.vibrations").run Try.prog w = .ok (50, pchV n d) w := by kernel_rfl
theorem secQ (n d k : Int) (w : World) : (method 157 48 (ptV n d k) "loop.example/g00989/impl.seconds").run Try.prog w = .ok (49, pchV n d) w := by kernel_rfl
theorem vibQ (n d k : Int) (w : World) : (method 157 48 (ptV n d k) "loop.example/g00989/impl.vibrations").run Try.prog w = .ok (51, ptV n d k) w := by kernel_rfl
def Trio (m : Nat) (a b c : Int) (w : World) : Prop := m < w.heap.size ∧ w.cell? ⟨m, 0, none⟩ = some (.int .i64 a) ∧ w.cell? ⟨m, 1, none⟩ = some (.int .i64 b) ∧ w.cell? ⟨m, 2, none⟩ = some (.int .i64 c)
theorem trio_alloc {w : World} {a b c : Int} {t : TypeId} : Trio w.heap.size a b c (w.alloc (.cells #[.int .i64 a, .int .i64 b, .int .i64 c] t)) := ⟨by simp, by simp [go_sem], by simp [go_sem], by simp [go_sem]⟩
theorem trio_keep {W w : World} {m : Nat} {a b c : Int} (hb : Below W.heap.size W w) (h : Trio m a b c W) : Trio m a b c w :=
  ⟨Nat.lt_of_lt_of_le h.1 hb.size, (hb.cell (p := ⟨m, 0, none⟩) h.1).trans h.2.1, (hb.cell (p := ⟨m, 1, none⟩) h.1).trans h.2.2.1, (hb.cell (p := ⟨m, 2, none⟩) h.1).trans h.2.2.2⟩
theorem trio_cells {m : Nat} {a b c : Int} {w : World} (h : Trio m a b c w) : w.cell? ⟨m, 0, none⟩ = some (.int .i64 a) ∧ w.cell? ⟨m, 1, none⟩ = some (.int .i64 b) ∧ w.cell? ⟨m, 2, none⟩ = some (.int .i64 c) := h.2
/-- A number, and what lay there lies there still. -/
def NumB (z : Int) (w : World) (e : Ending) (w' : World) : Prop := e = .returned (.int .i64 z) ∧ Below w.heap.size w w'
theorem vib_from {W w : World} {n d : Int} (h : Below W.heap.size W w) : Calls Try.prog 50 #[pchV n d] w fun e w' => e = .returned (.int .i64 n) ∧ Below W.heap.size W w' := ans_from (vib_any n d w) h
theorem sec_from {W w : World} {n d : Int} (h : Below W.heap.size W w) : Calls Try.prog 49 #[pchV n d] w fun e w' => e = .returned (.int .i64 d) ∧ Below W.heap.size W w' := ans_from (sec_any n d w) h
theorem gcdW_from {W w : World} {a b g : Int} (h : Below W.heap.size W w) (G : ∀ w, Calls Try.prog 28 #[.int .i64 a, .int .i64 b] w (QuietInt g w)) : Calls Try.prog 28 #[.int .i64 a, .int .i64 b] w fun e w' => e = .returned (.int .i64 g) ∧ Below W.heap.size W w' :=
  (G w).mono fun _ _ ⟨he, k, hk⟩ => ⟨he, by rw [hk]; exact below_drewN h k⟩
set_option maxHeartbeats 400000 in
theorem pvib_any (n d k : Int) (w : World) (h : -9223372036854775808 ≤ k * n ∧ k * n ≤ 9223372036854775807) : Calls Try.prog 51 #[ptV n d k] w fun e w' => e = .returned (.int .i64 (k * n)) ∧ Below w.heap.size w w' := by
  have hw : IntKind.i64.wrap (k * n) = k * n := IntWalk.i64_in _ h
  obtain ⟨W0, hW⟩ : ∃ W, W = w.alloc (.cells #[.int .i64 n, .int .i64 d, .int .i64 k] 48) := ⟨_, rfl⟩
  have T : Hid (Trio w.heap.size n d k W0) := Lib.hid (by rw [hW]; exact trio_alloc)
  have B : Hid (Below w.heap.size w W0) := Lib.hid (by rw [hW]; exact below_alloc1 w _)
  go_enter Try.func51, Try.ntmps51
  go_upto_region 1 with fail
  rw [← hW]
  obtain ⟨m, hm⟩ : ∃ m, m = w.heap.size := ⟨_, rfl⟩
  rw [← hm] at T ⊢
  clear hW hm h
  obtain ⟨c0, c1, c2⟩ := trio_cells T.out
  go_region_held3 (fun w' => w'.cell? ⟨m, 0, none⟩ = some (.int .i64 n) ∧ w'.cell? ⟨m, 1, none⟩ = some (.int .i64 d) ∧ w'.cell? ⟨m, 2, none⟩ = some (.int .i64 k)) (with_reducible first | exact trio_cells (trio_keep (Below.refl _ _).drew T.out) | exact trio_cells (trio_keep (by assumption) T.out) | exact trio_cells T.out)
    (with_reducible first
      | (go_at_call 50; refine (vib_from (W := W0) (by with_reducible first | assumption | exact (Below.refl _ _).drew | exact Below.refl _ _)).mono ?_; rintro e w' ⟨rfl, hb⟩))
  all_goals
    go_wp2_with fail
    go_ret
    exact ⟨rfl, B.out.trans ((by assumption : Below W0.heap.size W0 _).mono B.out.size)⟩
theorem pitch_part (x y z : Value) : (List.take (Try.prog.types[25]'(Nat.le_of_ble_eq_true (by kernel_rfl))).size [x, y, z]).toArray = #[x, y] := by kernel_rfl
set_option maxHeartbeats 400000 in
theorem ctP (an ad bn bd g q : Int) (GC : ∀ w, Calls Try.prog 28 #[.int .i64 ad, .int .i64 bd] w (QuietInt g w)) (w1 : IntKind.i64.wrap (ad.tdiv g) = q) (hg : ¬ g = 0) (w2 : IntKind.i64.wrap (q * bd) = q * bd) (w : World) : Calls Try.prog 25 #[ifP an ad, ifP bn bd] w fun e w' => e = .returned (.int .i64 (q * bd)) ∧ Below w.heap.size w w' := by
  go_enter Try.func25, Try.ntmps25
  go_upto_region 1 with fail
  go_region_with (with_reducible first
    | (go_at_call 49; refine (sec_from (W := w) (by with_reducible first | assumption | exact (Below.refl _ _).drew | exact Below.refl _ _)).mono ?_; rintro e w' ⟨rfl, hb⟩)
    | (go_at_call 28; refine (gcdW_from (W := w) (by with_reducible assumption) GC).mono ?_; rintro e w' ⟨rfl, hb⟩))
  all_goals
    go_wp2_with fail
    go_ret
    exact ⟨rfl, by assumption⟩
set_option maxHeartbeats 400000 in
theorem ctQ (an ad m bn bd n g q : Int) (GC : ∀ w, Calls Try.prog 28 #[.int .i64 ad, .int .i64 bd] w (QuietInt g w)) (w1 : IntKind.i64.wrap (ad.tdiv g) = q) (hg : ¬ g = 0) (w2 : IntKind.i64.wrap (q * bd) = q * bd) (w : World) : Calls Try.prog 25 #[ifQ an ad m, ifQ bn bd n] w fun e w' => e = .returned (.int .i64 (q * bd)) ∧ Below w.heap.size w w' := by
  have SZ := pitch_part
  go_enter Try.func25, Try.ntmps25
  go_upto_region 1 with fail
  go_region_with (with_reducible first
    | (go_at_call 49; refine (sec_from (W := w) (by with_reducible first | assumption | exact (Below.refl _ _).drew | exact Below.refl _ _)).mono ?_; rintro e w' ⟨rfl, hb⟩)
    | (go_at_call 28; refine (gcdW_from (W := w) (by with_reducible assumption) GC).mono ?_; rintro e w' ⟨rfl, hb⟩))
  all_goals
    go_wp2_with fail
    go_ret
    exact ⟨rfl, by assumption⟩
/-- So many vibrations, so many times: the product, if it is not too great. -/
def VinAt (v t x : Int) (z : Bool) : Prop := (v * t ≤ 1000000000000000000 ∧ x = v * t ∧ z = true) ∨ (1000000000000000000 < v * t ∧ x = 0 ∧ z = false)
theorem vin_ex (v t : Int) : ∃ x z, VinAt v t x z := by
  by_cases h : v * t ≤ 1000000000000000000
  · exact ⟨_, _, .inl ⟨h, rfl, rfl⟩⟩
  · exact ⟨_, _, .inr ⟨by omega, rfl, rfl⟩⟩
theorem vin_lim {v t l x : Int} {z : Bool} (ht : 1 ≤ t) (hv : 0 ≤ v) (hl : l = (1000000000000000000 : Int).tdiv t) (h : VinAt v t x z) : (l < v ∧ x = 0 ∧ z = false) ∨ (¬ l < v ∧ x = v * t ∧ z = true ∧ 0 ≤ v * t ∧ v * t ≤ 1000000000000000000) := by
  have e : l = 1000000000000000000 / t := by rw [hl]; exact Int.tdiv_eq_ediv_of_nonneg (by omega)
  have k : l < v ↔ 1000000000000000000 < v * t := by rw [e]; exact Int.ediv_lt_iff_lt_mul (by omega)
  rcases h with ⟨h1, h2, h3⟩ | ⟨h1, h2, h3⟩
  · exact .inr ⟨fun q => by have := k.1 q; omega, h2, h3, Int.mul_nonneg hv (by omega), h1⟩
  · exact .inl ⟨k.2 h1, h2, h3⟩
def PairN (x : Int) (z : Bool) (w : World) (e : Ending) (w' : World) : Prop := e = .returned (.tuple #[.int .i64 x, .bool z]) ∧ Below w.heap.size w w'
set_option maxHeartbeats 800000 in
theorem vinP (n d T t x : Int) (z : Bool) (hv : 0 ≤ n) (hd : ¬ d = 0) (ht : 1 ≤ t) (ht' : t ≤ 1000000000000000000) (w1 : IntKind.i64.wrap (T.tdiv d) = t) (hf : VinAt n t x z) (w : World) : Calls Try.prog 26 #[ifP n d, .int .i64 T] w (PairN x z w) := by
  have PV := Lib.hid (fun w => vib_any n d w)
  obtain ⟨v, hvv⟩ : ∃ v, v = n := ⟨_, rfl⟩
  rw [← hvv] at hv hf PV
  subst hvv
  obtain ⟨l, hl⟩ : ∃ l, l = (1000000000000000000 : Int).tdiv t := ⟨_, rfl⟩
  have HC := Lib.hid (vin_lim ht hv hl hf)
  have w2 : IntKind.i64.wrap ((1000000000000000000 : Int).tdiv t) = l := by rw [← hl]; exact IntWalk.i64_in _ (by rw [hl, Int.tdiv_eq_ediv_of_nonneg (by omega)]; have := Int.ediv_le_self (a := 1000000000000000000) t (by omega); have := Int.ediv_nonneg (a := 1000000000000000000) (b := t) (by omega) (by omega); omega)
  have ht0 : ¬ t = 0 := by omega
  clear hl hf hv ht ht'
  go_enter Try.func26, Try.ntmps26
  go_wp2_with fail
  refine (sec_any _ _ _).mono ?_
  rintro e w1' ⟨rfl, hb⟩
  go_upto_region 2 with fail
  rcases HC.out with ⟨hlt, rfl, rfl⟩ | ⟨hlt, rfl, rfl, hn1, hn2⟩
  all_goals
    go_region_with (with_reducible first
      | (go_at_call 50; refine (ans_from (W := w) (PV.out _) (by with_reducible first | assumption | exact Below.drew (by with_reducible assumption))).mono ?_; rintro e w' ⟨rfl, hb2⟩))
  · go_wp2_with fail
    go_ret2
    exact ⟨rfl, by assumption⟩
  · go_wp2_with fail
    refine (ans_from (W := w) (PV.out _) (by with_reducible assumption)).mono ?_
    rintro e w3 ⟨rfl, hb3⟩
    go_wp2_with fail
    go_ret2
    exact ⟨rfl, hb3⟩
set_option maxHeartbeats 800000 in
theorem vinQ (n d k T t x : Int) (z : Bool) (hv : 0 ≤ (k * n)) (hk : -9223372036854775808 ≤ k * n ∧ k * n ≤ 9223372036854775807) (hd : ¬ d = 0) (ht : 1 ≤ t) (ht' : t ≤ 1000000000000000000) (w1 : IntKind.i64.wrap (T.tdiv d) = t) (hf : VinAt (k * n) t x z) (w : World) : Calls Try.prog 26 #[ifQ n d k, .int .i64 T] w (PairN x z w) := by
  have HK := Lib.hid hk
  clear hk
  have PV := Lib.hid (fun w => pvib_any n d k w HK.out)
  obtain ⟨v, hvv⟩ : ∃ v, v = k * n := ⟨_, rfl⟩
  rw [← hvv] at hv hf PV
  clear hvv HK
  obtain ⟨l, hl⟩ : ∃ l, l = (1000000000000000000 : Int).tdiv t := ⟨_, rfl⟩
  have HC := Lib.hid (vin_lim ht hv hl hf)
  have w2 : IntKind.i64.wrap ((1000000000000000000 : Int).tdiv t) = l := by rw [← hl]; exact IntWalk.i64_in _ (by rw [hl, Int.tdiv_eq_ediv_of_nonneg (by omega)]; have := Int.ediv_le_self (a := 1000000000000000000) t (by omega); have := Int.ediv_nonneg (a := 1000000000000000000) (b := t) (by omega) (by omega); omega)
  have ht0 : ¬ t = 0 := by omega
  clear hl hf hv ht ht'
  have SZ := pitch_part
  go_enter Try.func26, Try.ntmps26
  go_wp2_with fail
  refine (sec_any _ _ _).mono ?_
  rintro e w1' ⟨rfl, hb⟩
  go_upto_region 2 with fail
  rcases HC.out with ⟨hlt, rfl, rfl⟩ | ⟨hlt, rfl, rfl, hn1, hn2⟩
  all_goals
    go_region_with (with_reducible first
      | (go_at_call 51; refine (ans_from (W := w) (PV.out _) (by with_reducible first | assumption | exact Below.drew (by with_reducible assumption))).mono ?_; rintro e w' ⟨rfl, hb2⟩))
  · go_wp2_with fail
    go_ret2
    exact ⟨rfl, by assumption⟩
  · go_wp2_with fail
    refine (ans_from (W := w) (PV.out _) (by with_reducible assumption)).mono ?_
    rintro e w3 ⟨rfl, hb3⟩
    go_wp2_with fail
    go_ret2
    exact ⟨rfl, hb3⟩
end Go.Proofs.Ytgoaofkbegfinaa
