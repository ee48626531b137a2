/- What a division hides, as a list: the closure of impl.HiddenCommas, and slices.IndexFunc and slices.DeleteFunc at intervals with it. -/
import Derived.Test.YtfhefakacjkmiaaDoorHidesLaw
import Derived.Test.YtfhefakacjkmiaaDoorComsImpl
import Derived.Test.YtfhefakacjkmiaaDoorSortBase
import Derived.Test.YtfhefakacjkmiaaDoorMapWalks
namespace Go.Proofs.YtfhefakacjkmiaaDoor
open Go.RowKit Go.Joins
set_option linter.unusedVariables false
/-- p tells which intervals the map hides. -/
def HidP (a b c : Int) (p : Iv → Bool) : Prop := ∀ x : Iv, HidesAt a b c x.two x.three x.five x.root (p x)
theorem hidP_ex (a b c : Int) : ∃ p, HidP a b c p :=
  ⟨fun x => Classical.choose (hidesAt_ex a b c x.two x.three x.five x.root), fun x => Classical.choose_spec (hidesAt_ex a b c x.two x.three x.five x.root)⟩
set_option maxHeartbeats 2000000 in
/-- The closure: an interval is heard. -/
theorem heard_impl {a b c t h f d : Int} {m : Nat} {y : Bool} (H : HidesAt a b c t h f d y) (w : World) (hT : Tri m a b c w) :
    Calls Tryd.prog 45 #[ivV t h f d, .pointer (some ⟨m, 0, none⟩)] w fun e w' => e = .returned (.bool (!y)) ∧ Below w.heap.size w w' := by
  have HH := Lib.hid (fun w => hides_impl H w)
  clear H
  go_enter Tryd.func45, Tryd.ntmps45
  go_upto_region 1 with fail
  obtain ⟨W0, hW0⟩ : ∃ W0, W0 = w.alloc (.cells #[.int .i64 t, .int .i64 h, .int .i64 f, .int .i64 d] 29) := ⟨_, rfl⟩
  have F0 : Hid (Four w.heap.size t h f d W0) := Lib.hid (by rw [hW0]; exact four_alloc)
  have T0 : Hid (Tri m a b c W0) := Lib.hid (by rw [hW0]; exact tri_al hT)
  have B0 : Hid (Below w.heap.size w W0) := Lib.hid (by rw [hW0]; exact below_alloc1 w _)
  rw [← hW0]
  clear hW0 hT
  generalize hn : w.heap.size = n at F0 ⊢
  have HN := Lib.hid hn
  clear hn
  obtain ⟨_, z0, z1, z2, z3⟩ := F0.out
  obtain ⟨_, y0, y1, y2⟩ := T0.out
  go_wp2_with fail
  refine (HH.out _).mono ?_
  rintro e w1 ⟨rfl, h1⟩
  have B1 := Lib.hid (B0.out.trans (h1.mono B0.out.size))
  clear h1 B0 F0 T0 z0 z1 z2 z3 y0 y1 y2
  go_wp2_with fail
  go_ret
  exact ⟨rfl, HN.out ▸ B1.out⟩
/-- The first element that p does not pick. -/
def missAt (p : Iv → Bool) (n : Nat) (f : Nat → Iv) (r : Int) : Prop := (r = -1 ∧ ∀ j, j < n → p (f j) = true) ∨ ∃ k : Nat, r = (k : Int) ∧ k < n ∧ p (f k) = false ∧ ∀ j, j < k → p (f j) = true
set_option maxRecDepth 100000 in
set_option maxHeartbeats 2000000 in
theorem index_run {a b c : Int} {p : Iv → Bool} (hp : HidP a b c p) {m B g cap n : Nat} {f : Nat → Iv} {w0 : World} (hn : n ≤ 400) (w : World) (hT : Tri m a b c w) (h : Srt w0 B g cap n f w) :
    Calls Tryd.prog 65 #[.slice (some ⟨g, 0, none⟩) n cap, .func (.func 45) #[] #[.pointer (some ⟨m, 0, none⟩)]] w
      fun e w' => (∃ r, e = .returned (.int .i64 r) ∧ missAt p n f r) ∧ Below w.heap.size w w' := by
  have HS := Lib.hid h
  have HT := Lib.hid hT
  have HP := Lib.hid hp
  clear h hT hp
  go_enter Tryd.func65, Tryd.ntmps65
  go_wp2_with fail
  go_loopw [8] (fun i wr => ∃ k : Nat, k ≤ n ∧ i = .int .i64 (k : Int) ∧ Hid (∀ j, j < k → p (f j) = true) ∧ Hid (Below w.heap.size w wr)) (fun i _ => n - (intOf i).toNat)
  case atStart => exact ⟨0, Nat.zero_le _, rfl, Lib.hid (fun j hj => by omega), Lib.hid (Below.refl _ _)⟩
  case round =>
    obtain ⟨k, hk, rfl, HA, HB⟩ := hrel
    by_cases hlt : k < n
    · have q1 : (k : Int) < n := by omega
      have S1 := Lib.hid (HS.out.below HB.out)
      have T1 := Lib.hid (tri_keep HB.out HT.out)
      obtain ⟨x, hx⟩ : ∃ x, x = f k := ⟨_, rfl⟩
      have HX := Lib.hid hx
      obtain ⟨y, hy⟩ : ∃ y, p x = y := ⟨_, rfl⟩
      have hh := HP.out x
      rw [hy] at hh
      have CL := Lib.hid (fun w hT => heard_impl (m := m) hh w hT)
      have HY := Lib.hid hy
      obtain ⟨x0, x1, x2, x3⟩ := S1.out.cells hlt
      rw [← hx] at x0 x1 x2 x3
      clear hx hy hh
      go_wp2_with fail
      refine (CL.out _ T1.out).mono ?_
      rintro e w1 ⟨rfl, h1⟩
      have B1 := Lib.hid (HB.out.trans (h1.mono HB.out.size))
      clear h1 HB S1 T1 x0 x1 x2 x3
      cases y
      · go_wp2_with fail
        go_ret
        exact ⟨⟨_, rfl, .inr ⟨k, rfl, hlt, by rw [← HX.out]; exact HY.out, HA.out⟩⟩, B1.out⟩
      · go_wp2_with fail
        go_roundw
        case rel => exact ⟨k + 1, by omega, by go_num, Lib.hid (fun j hj => (show j < k ∨ j = k from by omega).elim (fun h => HA.out j h) (fun h => by rw [h, ← HX.out]; exact HY.out)), B1⟩
        case measure => simp [intOf]; omega
    · have q1 : ¬ (k : Int) < n := by omega
      obtain rfl : k = n := by omega
      go_wp2_with fail
      go_ret
      exact ⟨⟨_, rfl, .inl ⟨rfl, HA.out⟩⟩, HB.out⟩
/-- The zero cells of n intervals. -/
theorem zero_cells4 (n : Nat) : (Builtin.zeroCells (#[.int .i64 0, .int .i64 0, .int .i64 0, .int .i64 0] : Array Value) n).toList = List.replicate (n * 4) (.int .i64 0) := by
  unfold Builtin.zeroCells
  apply List.ext_getElem
  · simp
  · intro i h1 h2
    have h3 : i % 4 < 4 := Nat.mod_lt _ (by omega)
    simp only [List.size_toArray, List.length_cons, List.length_nil, Array.toList_map, Array.toList_range, List.getElem_map, List.getElem_range, List.getElem_replicate]
    rcases (show i % 4 = 0 ∨ i % 4 = 1 ∨ i % 4 = 2 ∨ i % 4 = 3 by omega) with h | h | h | h <;> rw [show (0 + 1 + 1 + 1 + 1 : Nat) = 4 from rfl, h] <;> rfl
theorem clear_iv {P : Program} (w : World) (t e ty : TypeId) (ht : P.underlying t = some (.slice e)) (hv : ∀ w, (zeroValue e).run P w = .ok (ivV 0 0 0 0) w) (b o n c : Nat) (hn : 0 < n)
    (hc : ∀ j, j < n * 4 → (w.cell? ⟨b, o + j, none⟩).isSome = true) (hf : ∀ j, j < n * 4 → w.frozen? ⟨b, o + j, none⟩ = false) :
    (Builtin.clear_ #[t] ty #[.slice (some ⟨b, o, none⟩) n c]).run P w = .ok (.tuple #[]) (w.setCells b o (List.replicate (n * 4) (.int .i64 0))) := by
  have hz : (ivV 0 0 0 0).cells = #[.int .i64 0, .int .i64 0, .int .i64 0, .int .i64 0] := by simp [Value.cells]
  have hzc : (Builtin.zeroCells (ivV 0 0 0 0).cells n).toList = List.replicate (n * 4) (.int .i64 0) := by rw [hz]; exact zero_cells4 n
  have hst := run_storeCells_cells (P := P) b o (List.replicate (n * 4) (.int .i64 0)) 0 w (by simpa using hc) (by simpa using hf) (by intro v hv'; rw [List.eq_of_mem_replicate hv']; rfl)
  simp only [Nat.add_zero] at hst
  obtain ⟨m, rfl⟩ : ∃ m, n = m + 1 := ⟨n - 1, by omega⟩
  simp [Builtin.clear_, run_underlying ht, hv, hzc, hst]
/-- A row cut to its first elements. -/
theorem own_cut {w : World} {base g n cap i size : Nat} {e : TypeId} {xs : List Value} (h : w.ownsRow base e size (.slice (some ⟨g, 0, none⟩) n cap) n xs) (hi : i ≤ n) : w.ownsRow base e size (.slice (some ⟨g, 0, none⟩) i cap) i (xs.take (i * size)) := by
  have hm : i * size ≤ n * size := Nat.mul_le_mul_right _ hi
  refine ⟨by rw [List.length_take, h.1]; omega, ?_⟩
  rcases h.2 with ⟨h', _⟩ | ⟨g', cap', cur, h', hb, hg, hnc, hcm, hcs, htake⟩
  · simp at h'
  · simp only [Value.slice.injEq, Option.some.injEq, Addr.mk.injEq, and_true, true_and] at h'
    obtain ⟨rfl, rfl⟩ := h'
    exact .inr ⟨g, cap, cur, rfl, hb, hg, Nat.le_trans hi hnc, hcm, hcs, by rw [← htake, List.take_take, Nat.min_eq_left hm]⟩
/-- What lies behind the row may be written. -/
theorem own_behind {base g i cap size : Nat} {e : TypeId} {xs : List Value} (hg : base ≤ g) : ∀ (vs : List Value) (o : Nat) (w : World), w.ownsRow base e size (.slice (some ⟨g, 0, none⟩) i cap) i xs → i * size ≤ o →
    (w.setCells g o vs).ownsRow base e size (.slice (some ⟨g, 0, none⟩) i cap) i xs ∧ ∀ w0, Below base w0 w → Below base w0 (w.setCells g o vs)
  | [], o, w, h, _ => ⟨h, fun _ hb => hb⟩
  | v :: vs, o, w, h, ho => by
    have k := (h.stored o v).1
    rw [List.set_eq_of_length_le (by rw [h.1]; exact ho)] at k
    obtain ⟨k1, k2⟩ := own_behind hg vs (o + 1) (w.setCell ⟨g, o, none⟩ v) k (by omega)
    exact ⟨k1, fun w0 hb => k2 w0 (hb.setCell (p := ⟨g, o, none⟩) hg v)⟩
theorem rowL_succ (n : Nat) (f : Nat → Iv) : rowL (n + 1) f = rowL n f ++ [f n] := by simp [rowL, List.range_succ]
theorem ivCs_take : ∀ (i : Nat) (xs : List Iv), (ivCs xs).take (i * 4) = ivCs (xs.take i)
  | 0, xs => by simp [ivCs]
  | i + 1, [] => by simp [ivCs]
  | i + 1, x :: xs => by
    rw [show (i + 1) * 4 = i * 4 + 4 from by omega]
    simp only [ivCs, List.take_succ_cons, ivCs_take i xs]
theorem rowL_take {i n : Nat} (f : Nat → Iv) (h : i ≤ n) : (rowL n f).take i = rowL i f := by
  unfold rowL
  rw [← List.map_take, List.take_range, Nat.min_eq_left h]
/-- The elements below j are looked at, i of them are kept. -/
structure KeptI (p : Iv → Bool) (f ff : Nat → Iv) (n i j : Nat) : Prop where
  lt : i < j
  le : j ≤ n
  eq : rowL i ff = (rowL j f).filter p
  hi : ∀ t, j ≤ t → t < n → ff t = f t
theorem KeptI.start {p : Iv → Bool} {f : Nat → Iv} {n k : Nat} (hk : k < n) (hf : p (f k) = false) (ha : ∀ j, j < k → p (f j) = true) : KeptI p f f n k (k + 1) := by
  refine ⟨by omega, hk, ?_, fun _ _ _ => rfl⟩
  rw [rowL_succ, List.filter_append, List.filter_eq_self.2 (fun x hx => by
    simp only [rowL, List.mem_map, List.mem_range] at hx
    obtain ⟨t, ht, rfl⟩ := hx
    exact ha t ht)]
  simp [hf]
theorem KeptI.keep {p : Iv → Bool} {f ff : Nat → Iv} {n i j : Nat} (h : KeptI p f ff n i j) (hj : j < n) (hp : p (f j) = true) : KeptI p f (fun t => if t = i then f j else ff t) n (i + 1) (j + 1) := by
  refine ⟨by have := h.lt; omega, hj, ?_, fun t h1 h2 => ?_⟩
  · rw [rowL_succ, rowL_succ, List.filter_append, ← h.eq]
    have e1 : rowL i (fun t => if t = i then f j else ff t) = rowL i ff := rowL_congr (fun t ht => if_neg (by omega))
    rw [e1, if_pos rfl]
    simp [hp]
  · show (if t = i then f j else ff t) = f t
    rw [if_neg (by have := h.lt; omega)]
    exact h.hi t (by omega) h2
theorem KeptI.skip {p : Iv → Bool} {f ff : Nat → Iv} {n i j : Nat} (h : KeptI p f ff n i j) (hj : j < n) (hp : p (f j) = false) : KeptI p f ff n i (j + 1) := by
  refine ⟨by have := h.lt; omega, hj, ?_, fun t h1 h2 => h.hi t (by omega) h2⟩
  rw [rowL_succ, List.filter_append, ← h.eq]
  simp [hp]
theorem tri_keepB {w0 w : World} {B m : Nat} {a b c : Int} (hm : m < B) (hB : B ≤ w0.heap.size) (hb : Below B w0 w) (h : Tri m a b c w0) : Tri m a b c w :=
  ⟨Nat.lt_of_lt_of_le h.1 hb.size, (hb.cell hm).trans h.2.1, (hb.cell hm).trans h.2.2.1, (hb.cell hm).trans h.2.2.2⟩
/-- The row is cut to its first i elements, the rest are zeros. -/
theorem Srt.cut {w0 W : World} {B g cap n i : Nat} {ff : Nat → Iv} {vs : List Value} (h : Srt w0 B g cap n ff W) (hi : i ≤ n) : (W.setCells g (i * 4) vs).ownsRow B 29 4 (.slice (some ⟨g, 0, none⟩) i cap) (rowL i ff).length (ivCs (rowL i ff)) ∧ Below B w0 (W.setCells g (i * 4) vs) := by
  have k := own_cut h.1 hi
  rw [ivCs_take, rowL_take ff hi] at k
  obtain ⟨k1, k2⟩ := own_behind h.base.1 vs (i * 4) W k (Nat.le_refl _)
  rw [rowL_len]
  exact ⟨k1, k2 w0 h.2.1⟩
theorem Srt.cap {w0 W : World} {B g cap n : Nat} {ff : Nat → Iv} (h : Srt w0 B g cap n ff W) : n ≤ cap := by
  rcases h.1.2 with ⟨h', _⟩ | ⟨g', cap', cur, h', hb, hg, hnc, _⟩
  · simp at h'
  · simp only [Value.slice.injEq, Option.some.injEq, Addr.mk.injEq, and_true, true_and] at h'
    rw [h'.2]
    exact hnc
theorem Srt.some4 {w0 W : World} {B g cap n : Nat} {ff : Nat → Iv} (h : Srt w0 B g cap n ff W) {o : Nat} (ho : o < n * 4) : (W.cell? ⟨g, o, none⟩).isSome = true := by
  rw [h.1.cellAt o ho]
  rw [List.getElem?_eq_getElem (by rw [ivCs_len, rowL_len]; exact ho)]
  rfl
set_option maxRecDepth 100000 in
set_option maxHeartbeats 4000000 in
theorem delete_run {a b c : Int} {p : Iv → Bool} (hp : HidP a b c p) {m B g cap n : Nat} {f : Nat → Iv} {w0 : World} (hn : n ≤ 400) (hm : m < B) (hT : Tri m a b c w0) (w : World) (h : Srt w0 B g cap n f w) :
    Calls Tryd.prog 46 #[.slice (some ⟨g, 0, none⟩) n cap, .func (.func 45) #[] #[.pointer (some ⟨m, 0, none⟩)]] w
      fun e w' => (∃ v, e = .returned v ∧ OwnC B v ((rowL n f).filter p) w') ∧ Below B w0 w' := by
  have HS := Lib.hid h
  have HT := Lib.hid hT
  have HP := Lib.hid hp
  have TK := Lib.hid (fun W (hW : Below B w0 W) => tri_keepB hm h.2.2 hW hT)
  have IX := Lib.hid (index_run hp hn w (TK.out w h.2.1) h)
  have CLR := Lib.hid (fun W i ty (hi : i < n) (hs : (∀ j, j < (n - i) * 4 → (W.cell? ⟨g, i * 4 + j, none⟩).isSome = true) ∧ ∀ j, j < (n - i) * 4 → W.frozen? ⟨g, i * 4 + j, none⟩ = false) =>
    clear_iv (P := Tryd.prog) W 42 29 ty Tryd.underlying42 Tryd.zeroValue29 g (i * 4) (n - i) (cap - i) (by omega) hs.1 hs.2)
  clear h hT hp
  go_enter Tryd.func46, Tryd.ntmps46
  go_wp2_with fail
  refine IX.out.mono ?_
  rintro e w1 ⟨⟨r, rfl, hr⟩, h1⟩
  have S1 := Lib.hid (HS.out.below h1)
  clear h1 IX HS
  rcases hr with ⟨rfl, hall⟩ | ⟨k, rfl, hk, hf, ha⟩
  · have E : (rowL n f).filter p = rowL n f := List.filter_eq_self.2 (fun x hx => by
      simp only [rowL, List.mem_map, List.mem_range] at hx
      obtain ⟨t, ht, rfl⟩ := hx
      exact hall t ht)
    have HE := Lib.hid E
    clear E hall
    go_wp2_with fail
    go_ret
    exact ⟨⟨_, rfl, by rw [HE.out]; unfold OwnC; rw [rowL_len]; exact S1.out.1⟩, S1.out.2.1⟩
  · have I1 := Lib.hid (KeptI.start hk hf ha)
    have te : ((k : Int) == -1) = false := beq_eq_false_iff_ne.2 (by omega)
    clear hf ha
    go_wp2_with fail
    go_loopw [5, 6, 7] (fun i j _ wr => ∃ (x y : Nat) (ff : Nat → Iv), i = .int .i64 (x : Int) ∧ j = .int .i64 (y : Int) ∧ Hid (KeptI p f ff n x y) ∧ Hid (Srt w0 B g cap n ff wr)) (fun _ j _ _ => n - (intOf j).toNat)
    case atStart => exact ⟨k, k + 1, f, rfl, by go_num, I1, S1⟩
    case round =>
      obtain ⟨i, j, ff, rfl, rfl, HI, HW⟩ := hrel
      have hij := HI.out.lt
      have hjn := HI.out.le
      clear I1 S1 te
      by_cases hlt : j < n
      · have q1 : (j : Int) < n := by omega
        obtain ⟨x, hx⟩ : ∃ x, x = f j := ⟨_, rfl⟩
        have HX := Lib.hid hx
        obtain ⟨y, hy⟩ : ∃ y, p x = y := ⟨_, rfl⟩
        have hh := HP.out x
        rw [hy] at hh
        have CL := Lib.hid (fun w hT => heard_impl (m := m) hh w hT)
        have HY : Hid (p (f j) = y) := Lib.hid (by rw [← hx]; exact hy)
        obtain ⟨x0, x1, x2, x3⟩ := HW.out.cells hlt
        rw [HI.out.hi j (Nat.le_refl _) hlt, ← hx] at x0 x1 x2 x3
        clear hx hy hh
        go_upto_region 8 with fail
        clear x0 x1 x2 x3
        obtain ⟨W1, hW1⟩ : ∃ W1, W1 = wr.alloc (.cells #[.int .i64 x.two, .int .i64 x.three, .int .i64 x.five, .int .i64 x.root] 29) := ⟨_, rfl⟩
        have G1 : Hid (Four wr.heap.size x.two x.three x.five x.root W1) := Lib.hid (by rw [hW1]; exact four_alloc)
        have S2 : Hid (Srt w0 B g cap n ff W1) := Lib.hid (HW.out.below (by rw [hW1]; exact below_alloc1 wr _))
        rw [← hW1]
        clear hW1 HW
        generalize wr.heap.size = z at G1 ⊢
        obtain ⟨_, x0, x1, x2, x3⟩ := G1.out
        go_wp2_with fail
        refine (CL.out _ (TK.out _ S2.out.2.1)).mono ?_
        rintro e w2 ⟨rfl, h1⟩
        have S3 := Lib.hid (S2.out.below h1)
        have G2 := Lib.hid (four_keep h1 G1.out)
        clear x0 x1 x2 x3 h1 S2 G1 CL
        cases y
        · have NX := Lib.hid (HI.out.skip hlt HY.out)
          go_wp2_with fail
          go_roundw
          case rel => exact ⟨i, j + 1, ff, rfl, by go_num, NX, S3⟩
          case measure => simp [intOf]; omega
        · have NX := Lib.hid (HI.out.keep hlt HY.out)
          have q2 : (i : Int) < n := by omega
          have hi : i < n := by omega
          obtain ⟨_, x0, x1, x2, x3⟩ := G2.out
          obtain ⟨y0, y1, y2, y3⟩ := S3.out.cells hi
          have fz := S3.out.free
          obtain ⟨X, hX, hS⟩ : ∃ X, X = put4 w2 g (i * 4) x ∧ Srt w0 B g cap n (fun t => if t = i then x else ff t) X := ⟨_, rfl, S3.out.put hi x⟩
          rw [HX.out] at hS
          have SX := Lib.hid hS
          unfold put4 at hX
          clear hS S3 G2
          go_upto_region 10 with fail
          rw [← hX]
          clear hX x0 x1 x2 x3 y0 y1 y2 y3 fz
          go_wp2_with fail
          go_roundw
          case rel => exact ⟨i + 1, j + 1, _, by go_num, by go_num, NX, SX⟩
          case measure => simp [intOf]; omega
      · obtain rfl : j = n := by omega
        have q1 : ¬ (j : Int) < j := by omega
        have q2 : (i : Int) ≤ j := by omega
        have q3 : (0 : Int) ≤ (i : Int) := by omega
        have cp := HW.out.cap
        have cp1 : i ≤ cap := by omega
        have cp2 : ¬ cap = i := by omega
        have hcl := fun ty => CLR.out wr i ty hij ⟨fun t ht => HW.out.some4 (by omega), fun t _ => HW.out.free _⟩
        have CUT := Lib.hid (HW.out.cut (i := i) (vs := List.replicate ((j - i) * 4) (.int .i64 0)) (by omega))
        have EQ := Lib.hid HI.out.eq
        clear HI HW CLR TK
        go_wp2_with fail
        go_ret
        exact ⟨⟨_, rfl, by rw [← EQ.out]; exact CUT.out.1⟩, CUT.out.2⟩
end Go.Proofs.YtfhefakacjkmiaaDoor
