/- What a division hides, as a list: the closure of impl.HiddenCommas, and slices.IndexFunc and slices.DeleteFunc at intervals with it. -/
import Derived.Test.YtfhefakacjkmiaaDoorHidesLaw
import Derived.Test.YtfhefakacjkmiaaDoorComsImpl
import Derived.Test.YtfhefakacjkmiaaDoorSortBase
import Derived.Test.YtfhefakacjkmiaaDoorMapWalks
import Derived.Test.YtfhefakacjkmiaaDoorComsSpec
namespace Go.Proofs.YtfhefakacjkmiaaDoor
open Go.RowKit Go.Joins
set_option linter.unusedVariables false
/-- p tells which intervals the map hides. -/
def HidP (a b c : Int) (p : Iv → Bool) : Prop := ∀ x : Iv, HidesAt a b c x.two x.three x.five x.root (p x)
theorem hidP_ex (a b c : Int) : ∃ p, HidP a b c p :=
  ⟨fun x => Classical.choose (hidesAt_ex a b c x.two x.three x.five x.root), fun x => Classical.choose_spec (hidesAt_ex a b c x.two x.three x.five x.root)⟩
set_option maxHeartbeats 2000000 in
/-- The closure: an interval is heard. -/
theorem heard_impl {a b c t h f d : Int} {m : Nat} {y : Bool} (H : HidesAt a b c t h f d y) (w : World) (hT : Tri m a b c w) :
    Calls Tryd.prog 45 #[ivV t h f d, .pointer (some ⟨m, 0, none⟩)] w fun e w' => e = .returned (.bool (!y)) ∧ Below w.heap.size w w' := by
  have HH := Lib.hid (fun w => hides_impl H w)
  clear H
  go_enter Tryd.func45, Tryd.ntmps45
  go_upto_region 1 with fail
  obtain ⟨W0, hW0⟩ : ∃ W0, W0 = w.alloc (.cells #[.int .i64 t, .int .i64 h, .int .i64 f, .int .i64 d] 29) := ⟨_, rfl⟩
  have F0 : Hid (Four w.heap.size t h f d W0) := Lib.hid (by rw [hW0]; exact four_alloc)
  have T0 : Hid (Tri m a b c W0) := Lib.hid (by rw [hW0]; exact tri_al hT)
  have B0 : Hid (Below w.heap.size w W0) := Lib.hid (by rw [hW0]; exact below_alloc1 w _)
  rw [← hW0]
  clear hW0 hT
  generalize hn : w.heap.size = n at F0 ⊢
  have HN := Lib.hid hn
  clear hn
  obtain ⟨_, z0, z1, z2, z3⟩ := F0.out
  obtain ⟨_, y0, y1, y2⟩ := T0.out
  go_wp2_with fail
  refine (HH.out _).mono ?_
  rintro e w1 ⟨rfl, h1⟩
  have B1 := Lib.hid (B0.out.trans (h1.mono B0.out.size))
  clear h1 B0 F0 T0 z0 z1 z2 z3 y0 y1 y2
  go_wp2_with fail
  go_ret
  exact ⟨rfl, HN.out ▸ B1.out⟩
/-- The first element that p does not pick. -/
def missAt (p : Iv → Bool) (n : Nat) (f : Nat → Iv) (r : Int) : Prop := (r = -1 ∧ ∀ j, j < n → p (f j) = true) ∨ ∃ k : Nat, r = (k : Int) ∧ k < n ∧ p (f k) = false ∧ ∀ j, j < k → p (f j) = true
set_option maxRecDepth 100000 in
set_option maxHeartbeats 2000000 in
theorem index_run {a b c : Int} {p : Iv → Bool} (hp : HidP a b c p) {m B g cap n : Nat} {f : Nat → Iv} {w0 : World} (hn : n ≤ 400) (w : World) (hT : Tri m a b c w) (h : Srt w0 B g cap n f w) :
    Calls Tryd.prog 65 #[.slice (some ⟨g, 0, none⟩) n cap, .func (.func 45) #[] #[.pointer (some ⟨m, 0, none⟩)]] w
      fun e w' => (∃ r, e = .returned (.int .i64 r) ∧ missAt p n f r) ∧ Below w.heap.size w w' := by
  have HS := Lib.hid h
  have HT := Lib.hid hT
  have HP := Lib.hid hp
  clear h hT hp
  go_enter Tryd.func65, Tryd.ntmps65
  go_wp2_with fail
  go_loopw [8] (fun i wr => ∃ k : Nat, k ≤ n ∧ i = .int .i64 (k : Int) ∧ Hid (∀ j, j < k → p (f j) = true) ∧ Hid (Below w.heap.size w wr)) (fun i _ => n - (intOf i).toNat)
  case atStart => exact ⟨0, Nat.zero_le _, rfl, Lib.hid (fun j hj => by omega), Lib.hid (Below.refl _ _)⟩
  case round =>
    obtain ⟨k, hk, rfl, HA, HB⟩ := hrel
    by_cases hlt : k < n
    · have q1 : (k : Int) < n := by omega
      have S1 := Lib.hid (HS.out.below HB.out)
      have T1 := Lib.hid (tri_keep HB.out HT.out)
      obtain ⟨x, hx⟩ : ∃ x, x = f k := ⟨_, rfl⟩
      have HX := Lib.hid hx
      obtain ⟨y, hy⟩ : ∃ y, p x = y := ⟨_, rfl⟩
      have hh := HP.out x
      rw [hy] at hh
      have CL := Lib.hid (fun w hT => heard_impl (m := m) hh w hT)
      have HY := Lib.hid hy
      obtain ⟨x0, x1, x2, x3⟩ := S1.out.cells hlt
      rw [← hx] at x0 x1 x2 x3
      clear hx hy hh
      go_wp2_with fail
      refine (CL.out _ T1.out).mono ?_
      rintro e w1 ⟨rfl, h1⟩
      have B1 := Lib.hid (HB.out.trans (h1.mono HB.out.size))
      clear h1 HB S1 T1 x0 x1 x2 x3
      cases y
      · go_wp2_with fail
        go_ret
        exact ⟨⟨_, rfl, .inr ⟨k, rfl, hlt, by rw [← HX.out]; exact HY.out, HA.out⟩⟩, B1.out⟩
      · go_wp2_with fail
        go_roundw
        case rel => exact ⟨k + 1, by omega, by go_num, Lib.hid (fun j hj => (show j < k ∨ j = k from by omega).elim (fun h => HA.out j h) (fun h => by rw [h, ← HX.out]; exact HY.out)), B1⟩
        case measure => simp [intOf]; omega
    · have q1 : ¬ (k : Int) < n := by omega
      obtain rfl : k = n := by omega
      go_wp2_with fail
      go_ret
      exact ⟨⟨_, rfl, .inl ⟨rfl, HA.out⟩⟩, HB.out⟩
/-- The zero cells of n intervals. -/
theorem zero_cells4 (n : Nat) : (Builtin.zeroCells (#[.int .i64 0, .int .i64 0, .int .i64 0, .int .i64 0] : Array Value) n).toList = List.replicate (n * 4) (.int .i64 0) := by
  unfold Builtin.zeroCells
  apply List.ext_getElem
  · simp
  · intro i h1 h2
    have h3 : i % 4 < 4 := Nat.mod_lt _ (by omega)
    simp only [List.size_toArray, List.length_cons, List.length_nil, Array.toList_map, Array.toList_range, List.getElem_map, List.getElem_range, List.getElem_replicate]
    rcases (show i % 4 = 0 ∨ i % 4 = 1 ∨ i % 4 = 2 ∨ i % 4 = 3 by omega) with h | h | h | h <;> rw [show (0 + 1 + 1 + 1 + 1 : Nat) = 4 from rfl, h] <;> rfl
theorem clear_iv {P : Program} (w : World) (t e ty : TypeId) (ht : P.underlying t = some (.slice e)) (hv : ∀ w, (zeroValue e).run P w = .ok (ivV 0 0 0 0) w) (b o n c : Nat) (hn : 0 < n)
    (hc : ∀ j, j < n * 4 → (w.cell? ⟨b, o + j, none⟩).isSome = true) (hf : ∀ j, j < n * 4 → w.frozen? ⟨b, o + j, none⟩ = false) :
    (Builtin.clear_ #[t] ty #[.slice (some ⟨b, o, none⟩) n c]).run P w = .ok (.tuple #[]) (w.setCells b o (List.replicate (n * 4) (.int .i64 0))) := by
  have hz : (ivV 0 0 0 0).cells = #[.int .i64 0, .int .i64 0, .int .i64 0, .int .i64 0] := by simp [Value.cells]
  have hzc : (Builtin.zeroCells (ivV 0 0 0 0).cells n).toList = List.replicate (n * 4) (.int .i64 0) := by rw [hz]; exact zero_cells4 n
  have hst := run_storeCells_cells (P := P) b o (List.replicate (n * 4) (.int .i64 0)) 0 w (by simpa using hc) (by simpa using hf) (by intro v hv'; rw [List.eq_of_mem_replicate hv']; rfl)
  simp only [Nat.add_zero] at hst
  obtain ⟨m, rfl⟩ : ∃ m, n = m + 1 := ⟨n - 1, by omega⟩
  simp [Builtin.clear_, run_underlying ht, hv, hzc, hst]
/-- A row cut to its first elements. -/
theorem own_cut {w : World} {base g n cap i size : Nat} {e : TypeId} {xs : List Value} (h : w.ownsRow base e size (.slice (some ⟨g, 0, none⟩) n cap) n xs) (hi : i ≤ n) : w.ownsRow base e size (.slice (some ⟨g, 0, none⟩) i cap) i (xs.take (i * size)) := by
  have hm : i * size ≤ n * size := Nat.mul_le_mul_right _ hi
  refine ⟨by rw [List.length_take, h.1]; omega, ?_⟩
  rcases h.2 with ⟨h', _⟩ | ⟨g', cap', cur, h', hb, hg, hnc, hcm, hcs, htake⟩
  · simp at h'
  · simp only [Value.slice.injEq, Option.some.injEq, Addr.mk.injEq, and_true, true_and] at h'
    obtain ⟨rfl, rfl⟩ := h'
    exact .inr ⟨g, cap, cur, rfl, hb, hg, Nat.le_trans hi hnc, hcm, hcs, by rw [← htake, List.take_take, Nat.min_eq_left hm]⟩
/-- What lies behind the row may be written. -/
theorem own_behind {base g i cap size : Nat} {e : TypeId} {xs : List Value} (hg : base ≤ g) : ∀ (vs : List Value) (o : Nat) (w : World), w.ownsRow base e size (.slice (some ⟨g, 0, none⟩) i cap) i xs → i * size ≤ o →
    (w.setCells g o vs).ownsRow base e size (.slice (some ⟨g, 0, none⟩) i cap) i xs ∧ ∀ w0, Below base w0 w → Below base w0 (w.setCells g o vs)
  | [], o, w, h, _ => ⟨h, fun _ hb => hb⟩
  | v :: vs, o, w, h, ho => by
    have k := (h.stored o v).1
    rw [List.set_eq_of_length_le (by rw [h.1]; exact ho)] at k
    obtain ⟨k1, k2⟩ := own_behind hg vs (o + 1) (w.setCell ⟨g, o, none⟩ v) k (by omega)
    exact ⟨k1, fun w0 hb => k2 w0 (hb.setCell (p := ⟨g, o, none⟩) hg v)⟩
theorem rowL_succ (n : Nat) (f : Nat → Iv) : rowL (n + 1) f = rowL n f ++ [f n] := by simp [rowL, List.range_succ]
theorem ivCs_take : ∀ (i : Nat) (xs : List Iv), (ivCs xs).take (i * 4) = ivCs (xs.take i)
  | 0, xs => by simp [ivCs]
  | i + 1, [] => by simp [ivCs]
  | i + 1, x :: xs => by
    rw [show (i + 1) * 4 = i * 4 + 4 from by omega]
    simp only [ivCs, List.take_succ_cons, ivCs_take i xs]
theorem rowL_take {i n : Nat} (f : Nat → Iv) (h : i ≤ n) : (rowL n f).take i = rowL i f := by
  unfold rowL
  rw [← List.map_take, List.take_range, Nat.min_eq_left h]
/-- The elements below j are looked at, i of them are kept. -/
structure KeptI (p : Iv → Bool) (f ff : Nat → Iv) (n i j : Nat) : Prop where
  lt : i < j
  le : j ≤ n
  eq : rowL i ff = (rowL j f).filter p
  hi : ∀ t, j ≤ t → t < n → ff t = f t
theorem KeptI.start {p : Iv → Bool} {f : Nat → Iv} {n k : Nat} (hk : k < n) (hf : p (f k) = false) (ha : ∀ j, j < k → p (f j) = true) : KeptI p f f n k (k + 1) := by
  refine ⟨by omega, hk, ?_, fun _ _ _ => rfl⟩
  rw [rowL_succ, List.filter_append, List.filter_eq_self.2 (fun x hx => by
    simp only [rowL, List.mem_map, List.mem_range] at hx
    obtain ⟨t, ht, rfl⟩ := hx
    exact ha t ht)]
  simp [hf]
theorem KeptI.keep {p : Iv → Bool} {f ff : Nat → Iv} {n i j : Nat} (h : KeptI p f ff n i j) (hj : j < n) (hp : p (f j) = true) : KeptI p f (fun t => if t = i then f j else ff t) n (i + 1) (j + 1) := by
  refine ⟨by have := h.lt; omega, hj, ?_, fun t h1 h2 => ?_⟩
  · rw [rowL_succ, rowL_succ, List.filter_append, ← h.eq]
    have e1 : rowL i (fun t => if t = i then f j else ff t) = rowL i ff := rowL_congr (fun t ht => if_neg (by omega))
    rw [e1, if_pos rfl]
    simp [hp]
  · show (if t = i then f j else ff t) = f t
    rw [if_neg (by have := h.lt; omega)]
    exact h.hi t (by omega) h2
theorem KeptI.skip {p : Iv → Bool} {f ff : Nat → Iv} {n i j : Nat} (h : KeptI p f ff n i j) (hj : j < n) (hp : p (f j) = false) : KeptI p f ff n i (j + 1) := by
  refine ⟨by have := h.lt; omega, hj, ?_, fun t h1 h2 => h.hi t (by omega) h2⟩
  rw [rowL_succ, List.filter_append, ← h.eq]
  simp [hp]
theorem tri_keepB {w0 w : World} {B m : Nat} {a b c : Int} (hm : m < B) (hB : B ≤ w0.heap.size) (hb : Below B w0 w) (h : Tri m a b c w0) : Tri m a b c w :=
  ⟨Nat.lt_of_lt_of_le h.1 hb.size, (hb.cell hm).trans h.2.1, (hb.cell hm).trans h.2.2.1, (hb.cell hm).trans h.2.2.2⟩
/-- The row is cut to its first i elements, the rest are zeros. -/
theorem Srt.cut {w0 W : World} {B g cap n i : Nat} {ff : Nat → Iv} {vs : List Value} (h : Srt w0 B g cap n ff W) (hi : i ≤ n) : (W.setCells g (i * 4) vs).ownsRow B 29 4 (.slice (some ⟨g, 0, none⟩) i cap) (rowL i ff).length (ivCs (rowL i ff)) ∧ Below B w0 (W.setCells g (i * 4) vs) := by
  have k := own_cut h.1 hi
  rw [ivCs_take, rowL_take ff hi] at k
  obtain ⟨k1, k2⟩ := own_behind h.base.1 vs (i * 4) W k (Nat.le_refl _)
  rw [rowL_len]
  exact ⟨k1, k2 w0 h.2.1⟩
theorem Srt.cap {w0 W : World} {B g cap n : Nat} {ff : Nat → Iv} (h : Srt w0 B g cap n ff W) : n ≤ cap := by
  rcases h.1.2 with ⟨h', _⟩ | ⟨g', cap', cur, h', hb, hg, hnc, _⟩
  · simp at h'
  · simp only [Value.slice.injEq, Option.some.injEq, Addr.mk.injEq, and_true, true_and] at h'
    rw [h'.2]
    exact hnc
theorem Srt.some4 {w0 W : World} {B g cap n : Nat} {ff : Nat → Iv} (h : Srt w0 B g cap n ff W) {o : Nat} (ho : o < n * 4) : (W.cell? ⟨g, o, none⟩).isSome = true := by
  rw [h.1.cellAt o ho]
  rw [List.getElem?_eq_getElem (by rw [ivCs_len, rowL_len]; exact ho)]
  rfl
set_option maxRecDepth 100000 in
set_option maxHeartbeats 4000000 in
theorem delete_run {a b c : Int} {p : Iv → Bool} (hp : HidP a b c p) {m B g cap n : Nat} {f : Nat → Iv} {w0 : World} (hn : n ≤ 400) (hm : m < B) (hT : Tri m a b c w0) (w : World) (h : Srt w0 B g cap n f w) :
    Calls Tryd.prog 46 #[.slice (some ⟨g, 0, none⟩) n cap, .func (.func 45) #[] #[.pointer (some ⟨m, 0, none⟩)]] w
      fun e w' => (∃ v, e = .returned v ∧ OwnC B v ((rowL n f).filter p) w') ∧ Below B w0 w' := by
  have HS := Lib.hid h
  have HT := Lib.hid hT
  have HP := Lib.hid hp
  have TK := Lib.hid (fun W (hW : Below B w0 W) => tri_keepB hm h.2.2 hW hT)
  have IX := Lib.hid (index_run hp hn w (TK.out w h.2.1) h)
  have CLR := Lib.hid (fun W i ty (hi : i < n) (hs : (∀ j, j < (n - i) * 4 → (W.cell? ⟨g, i * 4 + j, none⟩).isSome = true) ∧ ∀ j, j < (n - i) * 4 → W.frozen? ⟨g, i * 4 + j, none⟩ = false) =>
    clear_iv (P := Tryd.prog) W 42 29 ty Tryd.underlying42 Tryd.zeroValue29 g (i * 4) (n - i) (cap - i) (by omega) hs.1 hs.2)
  clear h hT hp
  go_enter Tryd.func46, Tryd.ntmps46
  go_wp2_with fail
  refine IX.out.mono ?_
  rintro e w1 ⟨⟨r, rfl, hr⟩, h1⟩
  have S1 := Lib.hid (HS.out.below h1)
  clear h1 IX HS
  rcases hr with ⟨rfl, hall⟩ | ⟨k, rfl, hk, hf, ha⟩
  · have E : (rowL n f).filter p = rowL n f := List.filter_eq_self.2 (fun x hx => by
      simp only [rowL, List.mem_map, List.mem_range] at hx
      obtain ⟨t, ht, rfl⟩ := hx
      exact hall t ht)
    have HE := Lib.hid E
    clear E hall
    go_wp2_with fail
    go_ret
    exact ⟨⟨_, rfl, by rw [HE.out]; unfold OwnC; rw [rowL_len]; exact S1.out.1⟩, S1.out.2.1⟩
  · have I1 := Lib.hid (KeptI.start hk hf ha)
    have te : ((k : Int) == -1) = false := beq_eq_false_iff_ne.2 (by omega)
    clear hf ha
    go_wp2_with fail
    go_loopw [5, 6, 7] (fun i j _ wr => ∃ (x y : Nat) (ff : Nat → Iv), i = .int .i64 (x : Int) ∧ j = .int .i64 (y : Int) ∧ Hid (KeptI p f ff n x y) ∧ Hid (Srt w0 B g cap n ff wr)) (fun _ j _ _ => n - (intOf j).toNat)
    case atStart => exact ⟨k, k + 1, f, rfl, by go_num, I1, S1⟩
    case round =>
      obtain ⟨i, j, ff, rfl, rfl, HI, HW⟩ := hrel
      have hij := HI.out.lt
      have hjn := HI.out.le
      clear I1 S1 te
      by_cases hlt : j < n
      · have q1 : (j : Int) < n := by omega
        obtain ⟨x, hx⟩ : ∃ x, x = f j := ⟨_, rfl⟩
        have HX := Lib.hid hx
        obtain ⟨y, hy⟩ : ∃ y, p x = y := ⟨_, rfl⟩
        have hh := HP.out x
        rw [hy] at hh
        have CL := Lib.hid (fun w hT => heard_impl (m := m) hh w hT)
        have HY : Hid (p (f j) = y) := Lib.hid (by rw [← hx]; exact hy)
        obtain ⟨x0, x1, x2, x3⟩ := HW.out.cells hlt
        rw [HI.out.hi j (Nat.le_refl _) hlt, ← hx] at x0 x1 x2 x3
        clear hx hy hh
        go_upto_region 8 with fail
        clear x0 x1 x2 x3
        obtain ⟨W1, hW1⟩ : ∃ W1, W1 = wr.alloc (.cells #[.int .i64 x.two, .int .i64 x.three, .int .i64 x.five, .int .i64 x.root] 29) := ⟨_, rfl⟩
        have G1 : Hid (Four wr.heap.size x.two x.three x.five x.root W1) := Lib.hid (by rw [hW1]; exact four_alloc)
        have S2 : Hid (Srt w0 B g cap n ff W1) := Lib.hid (HW.out.below (by rw [hW1]; exact below_alloc1 wr _))
        rw [← hW1]
        clear hW1 HW
        generalize wr.heap.size = z at G1 ⊢
        obtain ⟨_, x0, x1, x2, x3⟩ := G1.out
        go_wp2_with fail
        refine (CL.out _ (TK.out _ S2.out.2.1)).mono ?_
        rintro e w2 ⟨rfl, h1⟩
        have S3 := Lib.hid (S2.out.below h1)
        have G2 := Lib.hid (four_keep h1 G1.out)
        clear x0 x1 x2 x3 h1 S2 G1 CL
        cases y
        · have NX := Lib.hid (HI.out.skip hlt HY.out)
          go_wp2_with fail
          go_roundw
          case rel => exact ⟨i, j + 1, ff, rfl, by go_num, NX, S3⟩
          case measure => simp [intOf]; omega
        · have NX := Lib.hid (HI.out.keep hlt HY.out)
          have q2 : (i : Int) < n := by omega
          have hi : i < n := by omega
          obtain ⟨_, x0, x1, x2, x3⟩ := G2.out
          obtain ⟨y0, y1, y2, y3⟩ := S3.out.cells hi
          have fz := S3.out.free
          obtain ⟨X, hX, hS⟩ : ∃ X, X = put4 w2 g (i * 4) x ∧ Srt w0 B g cap n (fun t => if t = i then x else ff t) X := ⟨_, rfl, S3.out.put hi x⟩
          rw [HX.out] at hS
          have SX := Lib.hid hS
          unfold put4 at hX
          clear hS S3 G2
          go_upto_region 10 with fail
          rw [← hX]
          clear hX x0 x1 x2 x3 y0 y1 y2 y3 fz
          go_wp2_with fail
          go_roundw
          case rel => exact ⟨i + 1, j + 1, _, by go_num, by go_num, NX, SX⟩
          case measure => simp [intOf]; omega
      · obtain rfl : j = n := by omega
        have q1 : ¬ (j : Int) < j := by omega
        have q2 : (i : Int) ≤ j := by omega
        have q3 : (0 : Int) ≤ (i : Int) := by omega
        have cp := HW.out.cap
        have cp1 : i ≤ cap := by omega
        have cp2 : ¬ cap = i := by omega
        have hcl := fun ty => CLR.out wr i ty hij ⟨fun t ht => HW.out.some4 (by omega), fun t _ => HW.out.free _⟩
        have CUT := Lib.hid (HW.out.cut (i := i) (vs := List.replicate ((j - i) * 4) (.int .i64 0)) (by omega))
        have EQ := Lib.hid HI.out.eq
        clear HI HW CLR TK
        go_wp2_with fail
        go_ret
        exact ⟨⟨_, rfl, by rw [← EQ.out]; exact CUT.out.1⟩, CUT.out.2⟩
end Go.Proofs.YtfhefakacjkmiaaDoor
/- Contracts of impl.HiddenCommas and spec.HiddenCommas. -/
namespace Go.Proofs.YtfhefakacjkmiaaDoor
open Go.RowKit Go.Joins
set_option linter.unusedVariables false
/-- What HiddenCommas answers. -/
def HidAt (l : Int) (p : Iv → Bool) (w : World) (e : Ending) (w' : World) : Prop := (∃ v, e = .returned v ∧ OwnC w.heap.size v ((comList l).filter p) w') ∧ Below w.heap.size w w'
theorem hidP_bad {a b c : Int} {p : Iv → Bool} (hp : HidP a b c p) (h : okM a b c = false) (xs : List Iv) : xs.filter p = [] := by
  refine List.filter_eq_nil_iff.2 (fun x _ hx => ?_)
  obtain ⟨z, y, hst, hy⟩ := hp x
  rcases hst with ⟨hm, _⟩ | ⟨_, _, rfl⟩ | ⟨hm, _⟩ | ⟨hm, _⟩
  · rw [h] at hm; cases hm
  · rw [hx] at hy; cases hy
  · rw [h] at hm; cases hm
  · rw [h] at hm; cases hm
theorem own4_lower {w : World} {base base' : Nat} {e : TypeId} {v : Value} {n : Nat} {xs : List Value} (h : w.ownsRow base e 4 v n xs) (hb : base' ≤ base) : w.ownsRow base' e 4 v n xs := by
  obtain ⟨h1, h2⟩ := h
  refine ⟨h1, ?_⟩
  rcases h2 with h2 | ⟨g, cap, cur, hv, hg, r⟩
  · exact .inl h2
  · exact .inr ⟨g, cap, cur, hv, Nat.le_trans hb hg, r⟩
/-- A row is kept where another block is written. -/
theorem own4_apart {w w' : World} {base : Nat} {e : TypeId} {v : Value} {n : Nat} {xs : List Value} {r : Option Nat} (h : w.ownsRow base e 4 v n xs) (hg : w.grownBy w' r) (hr : ∀ g, v.ownBlock = some g → r ≠ some g) : w'.ownsRow base e 4 v n xs := by
  refine h.kept hg ?_
  cases hv : v.ownBlock
  · exact .inl rfl
  · exact .inr (fun e => hr _ hv e.symm)
theorem ret_hid {l : Int} {p : Iv → Bool} {w w1 w' : World} {B : Nat} {v : Value} (h1 : Below w.heap.size w w1) (hB : B = w1.heap.size) (ho : OwnC B v ((comList l).filter p) w') (hb : Below B w1 w') : HidAt l p w (.returned v) w' := by
  subst hB
  exact ⟨⟨v, rfl, own4_lower ho h1.size⟩, h1.trans (hb.mono h1.size)⟩
theorem index_zero (p0 : Option Addr) (c0 : Nat) (fv : Value) (w : World) :
    Calls Tryd.prog 65 #[.slice p0 0 c0, fv] w fun e w' => e = .returned (.int .i64 (-1)) ∧ w = w' := by
  go_enter Tryd.func65, Tryd.ntmps65
  go_wp2_with fail
  refine wp_loop_rounds 1 ?_
  rw [rounds_succ]
  go_wp2_with fail
  go_ret
  exact ⟨rfl, rfl⟩
theorem delete_zero (p0 : Option Addr) (c0 : Nat) (fv : Value) (w : World) :
    Calls Tryd.prog 46 #[.slice p0 0 c0, fv] w fun e w' => e = .returned (.slice p0 0 c0) ∧ w = w' := by
  go_enter Tryd.func46, Tryd.ntmps46
  go_wp2_with fail
  refine (index_zero _ _ _ _).mono ?_
  rintro e w1 ⟨rfl, rfl⟩
  go_wp2_with fail
  go_ret
  exact ⟨rfl, rfl⟩
/-- The same at whatever row of the call's own. -/
theorem delete_own {a b c : Int} {p : Iv → Bool} (hp : HidP a b c p) {m B : Nat} {v : Value} {xs : List Iv} {w0 : World} (hn : xs.length ≤ 400) (hm : m < B) (hT : Tri m a b c w0) (w : World) (h : OwnC B v xs w) (hb : Below B w0 w) (hB : B ≤ w0.heap.size) :
    Calls Tryd.prog 46 #[v, .func (.func 45) #[] #[.pointer (some ⟨m, 0, none⟩)]] w
      fun e w' => (∃ v, e = .returned v ∧ OwnC B v (xs.filter p) w') ∧ Below B w0 w' := by
  rcases Nat.eq_zero_or_pos xs.length with h0 | h0
  · obtain ⟨p0, c0, rfl⟩ := own4_zero h h0
    have e : xs = [] := List.eq_nil_of_length_eq_zero h0
    subst e
    refine (delete_zero p0 c0 _ w).mono ?_
    rintro e w' ⟨rfl, rfl⟩
    exact ⟨⟨_, rfl, h⟩, hb⟩
  · obtain ⟨g, cap, rfl, _, _⟩ := own4_pos h h0
    have k := delete_run hp (f := ivAt xs) hn hm hT w ⟨by rw [rowL_ivAt]; exact h, hb, hB⟩
    rw [rowL_ivAt] at k
    exact k
set_option maxRecDepth 100000 in
set_option maxHeartbeats 4000000 in
theorem hidden_impl (A : Addr) {a b c : Int} {p : Iv → Bool} (hp : HidP a b c p) (l : Int) (w : World) (hs : SenAt A w) :
    Calls Tryd.prog 19 #[mapV a b c, .int .i64 l] w (HidAt l p w) := by
  have HS := Lib.hid hs
  have HP := Lib.hid hp
  have HL := Lib.hid (comList_len l)
  obtain ⟨x, hx⟩ : ∃ x, okM a b c = x := ⟨_, rfl⟩
  have HM := Lib.hid (fun w => mapOkB hx w)
  have HX := Lib.hid hx
  have hmf : ∀ (fn : Fn) (first cap : Array Value) (w : World), (Instr.makeFunc fn first cap).run Tryd.prog w = .ok (.func fn first cap) w := fun _ _ _ _ => rfl
  clear hs hp hx
  go_enter Tryd.func19, Tryd.ntmps19
  go_upto_region 1 with fail
  obtain ⟨W0, hW0⟩ : ∃ W0, W0 = w.alloc (.cells #[.int .i64 a, .int .i64 b, .int .i64 c] 25) := ⟨_, rfl⟩
  have T0 : Hid (Tri w.heap.size a b c W0) := Lib.hid (by rw [hW0]; exact tri_alloc)
  have B0 : Hid (Below w.heap.size w W0) := Lib.hid (by rw [hW0]; exact below_alloc1 w _)
  rw [← hW0]
  clear hW0
  generalize hn : w.heap.size = n at T0 ⊢
  have HN := Lib.hid hn
  clear hn
  obtain ⟨_, z0, z1, z2⟩ := T0.out
  go_wp2_with fail
  refine (HM.out _).mono ?_
  rintro e w1 ⟨rfl, h1⟩
  have T1 := Lib.hid (tri_keep h1 T0.out)
  have B1 := Lib.hid (B0.out.trans (h1.mono B0.out.size))
  clear z0 z1 z2 h1 T0 B0
  cases x
  · go_wp2_with fail
    go_ret
    exact ret_hid B1.out rfl (by rw [hidP_bad HP.out HX.out]; exact World.ownsRow_nil _ _ _ _) (Below.refl _ _)
  · go_wp2_with fail
    refine (commas_impl A l _ (senAt_below HS.out B1.out)).mono ?_
    rintro e w2 ⟨⟨v, rfl, o2⟩, b2⟩
    have DL := Lib.hid (delete_own HP.out HL.out T1.out.1 T1.out w2 o2 b2 (Nat.le_refl _))
    clear o2 b2
    go_wp2_with fail
    refine DL.out.mono ?_
    rintro e w3 ⟨⟨v3, rfl, o3⟩, b3⟩
    have O3 := Lib.hid o3
    have B3 := Lib.hid b3
    clear o3 b3 DL
    go_wp2_with fail
    go_ret
    exact ret_hid B1.out rfl O3.out B3.out
theorem fil_yes {p : Iv → Bool} {f : Nat → Iv} {k : Nat} (h : p (f k) = true) : (rowL (k + 1) f).filter p = (rowL k f).filter p ++ [f k] := by
  rw [rowL_succ, List.filter_append]; simp [h]
theorem fil_no {p : Iv → Bool} {f : Nat → Iv} {k : Nat} (h : p (f k) = false) : (rowL (k + 1) f).filter p = (rowL k f).filter p := by
  rw [rowL_succ, List.filter_append]; simp [h]
theorem fil_len (p : Iv → Bool) (f : Nat → Iv) (k : Nat) : ((rowL k f).filter p).length ≤ k := by
  have := List.length_filter_le p (rowL k f)
  rw [rowL_len] at this
  exact this
/-- A map and an element of a row, where they lie. -/
def MapEl (n g o : Nat) (a b c : Int) (x : Iv) (w : World) : Prop := Tri n a b c w ∧ g < w.heap.size ∧ Cell4 g o x w
theorem mapEl_keep {W w : World} {n g o : Nat} {a b c : Int} {x : Iv} (hb : Below W.heap.size W w) (h : MapEl n g o a b c x W) : MapEl n g o a b c x w := by
  obtain ⟨ht, hg, x0, x1, x2, x3⟩ := h
  exact ⟨tri_keep hb ht, Nat.lt_of_lt_of_le hg hb.size, (hb.cell hg).trans x0, (hb.cell hg).trans x1, (hb.cell hg).trans x2, (hb.cell hg).trans x3⟩
theorem mapEl_drew {w : World} {n g o : Nat} {a b c : Int} {x : Iv} (h : MapEl n g o a b c x w) : MapEl n g o a b c x w.drew := h
theorem mapEl_cells {w : World} {n g o : Nat} {a b c : Int} {x : Iv} (h : MapEl n g o a b c x w) : w.cell? ⟨n, 0, none⟩ = some (.int .i64 a) ∧ w.cell? ⟨n, 1, none⟩ = some (.int .i64 b) ∧ w.cell? ⟨n, 2, none⟩ = some (.int .i64 c) ∧ w.cell? ⟨g, o, none⟩ = some (.int .i64 x.two) ∧ w.cell? ⟨g, o + 1, none⟩ = some (.int .i64 x.three) ∧ w.cell? ⟨g, o + 2, none⟩ = some (.int .i64 x.five) ∧ w.cell? ⟨g, o + 3, none⟩ = some (.int .i64 x.root) :=
  ⟨h.1.2.1, h.1.2.2.1, h.1.2.2.2, h.2.2.1, h.2.2.2.1, h.2.2.2.2.1, h.2.2.2.2.2⟩
set_option maxRecDepth 100000 in
set_option maxHeartbeats 8000000 in
theorem hidden_spec {a b c : Int} {p : Iv → Bool} (hp : HidP a b c p) (l : Int) (w : World) :
    Calls Tryd.prog 22 #[mapV a b c, .int .i64 l] w (HidAt l p w) := by
  have HP := Lib.hid hp
  have HL := Lib.hid (comList_len l)
  obtain ⟨i0, hif, hz0, hz1, hz2⟩ := info_parts4 infoIv
  clear hp
  go_enter Tryd.func22, Tryd.ntmps22
  go_upto_region 1 with fail
  obtain ⟨W0, hW0⟩ : ∃ W0, W0 = w.alloc (.cells #[.int .i64 a, .int .i64 b, .int .i64 c] 25) := ⟨_, rfl⟩
  have T0 : Hid (Tri w.heap.size a b c W0) := Lib.hid (by rw [hW0]; exact tri_alloc)
  have B0 : Hid (Below w.heap.size w W0) := Lib.hid (by rw [hW0]; exact below_alloc1 w _)
  rw [← hW0]
  clear hW0
  generalize hn : w.heap.size = n at T0 ⊢
  have HN := Lib.hid hn
  clear hn
  go_upto_region 2 with fail
  obtain ⟨W1, hW1⟩ : ∃ W1, W1 = W0.alloc (.cells #[] 29) := ⟨_, rfl⟩
  obtain ⟨v0, hv0⟩ : ∃ v, v = (Value.slice (some ⟨W0.heap.size, 0, none⟩) 0 0) := ⟨_, rfl⟩
  have O1 : Hid (OwnC W0.heap.size v0 [] W1) := Lib.hid (by rw [hv0, hW1]; exact World.ownsRow_lit (size := 4) W0 #[] 0 (Nat.le_refl _) (by unfold maxLen; omega) rfl)
  have B1 : Hid (Below W0.heap.size W0 W1) := Lib.hid (by rw [hW1]; exact below_alloc1 W0 _)
  rw [← hv0, ← hW1]
  clear hW1 hv0
  go_wp2_with fail
  refine (commas_spec l _).mono ?_
  rintro e w2 ⟨⟨vl, rfl, o2⟩, b2⟩
  obtain ⟨xs, hxs⟩ : ∃ xs, xs = comList l := ⟨_, rfl⟩
  rw [← hxs] at o2 HL
  have HXS := Lib.hid hxs
  have hlen : xs.length ≤ 400 := HL.out
  have R2 := Lib.hid o2
  have O2 := Lib.hid (ownC_below O1.out b2)
  have B2 := Lib.hid (B1.out.trans (b2.mono B1.out.size))
  have A2 : Hid (∀ j, v0.ownBlock = some j → vl.ownBlock ≠ some j) := Lib.hid (fun j hj e => by have := (O1.out.lt j hj).2; have := (o2.lt j e).1; omega)
  clear o2 b2 O1 B1 hxs HL
  rcases Nat.eq_zero_or_pos xs.length with h0 | h0
  · obtain ⟨p0, c0, rfl⟩ := own4_zero R2.out h0
    have EX := Lib.hid (List.eq_nil_of_length_eq_zero h0)
    clear R2 hlen h0 A2
    go_wp2_with fail
    refine wp_loop_rounds 1 ?_
    rw [rounds_succ]
    go_wp2_with fail
    go_ret
    exact ret_hid B0.out rfl (by rw [← HXS.out, EX.out]; exact O2.out) B2.out
  · obtain ⟨g, cap, rfl, _, _⟩ := own4_pos R2.out h0
    obtain ⟨N, hN⟩ : ∃ N, N = xs.length := ⟨_, rfl⟩
    have HNX := Lib.hid hN
    obtain ⟨BL, hBL⟩ : ∃ B, B = W1.heap.size := ⟨_, rfl⟩
    rw [← hBL] at R2
    rw [← hN] at hlen h0 ⊢
    have R2' : Hid (w2.ownsRow BL 29 4 (.slice (some ⟨g, 0, none⟩) N cap) N (ivCs xs)) := Lib.hid (by rw [hN]; have := R2.out; unfold OwnC at this; rw [← hN] at this ⊢; exact this)
    clear hN hBL R2
    go_wp2_with fail
    go_loopw [5, 7] (fun v i wr => ∃ k : Nat, k ≤ N ∧ i = .int .i64 (k : Int) ∧ Hid (OwnC W0.heap.size v ((rowL k (ivAt xs)).filter p) wr) ∧ Hid (Below W0.heap.size W0 wr) ∧ Hid (wr.ownsRow BL 29 4 (.slice (some ⟨g, 0, none⟩) N cap) N (ivCs xs)) ∧ Hid (∀ j, v.ownBlock = some j → j ≠ g)) (fun _ i _ => N - (intOf i).toNat)
    case atStart => exact ⟨0, Nat.zero_le _, rfl, O2, B2, R2', Lib.hid (fun j hj e => A2.out j hj (by rw [e]; rfl))⟩
    case round =>
      obtain ⟨k, hk, rfl, HO, HB, HR, HA⟩ := hrel
      clear O2 B2 R2' A2
      by_cases hlt : k < N
      · have q1 : (k : Int) < N := by omega
        obtain ⟨x, hx⟩ : ∃ x, x = ivAt xs k := ⟨_, rfl⟩
        have HX := Lib.hid hx
        obtain ⟨y, hy⟩ : ∃ y, p x = y := ⟨_, rfl⟩
        have hh := HP.out x
        rw [hy] at hh
        have HH := Lib.hid (fun w => hides_spec hh w)
        have HY : Hid (p (ivAt xs k) = y) := Lib.hid (by rw [← hx]; exact hy)
        have cs := own_iv HR.out HNX.out k hlt
        have ME : Hid (MapEl n g (k * 4) a b c x wr) := Lib.hid ⟨tri_keep HB.out T0.out, (HR.out.lt g rfl).2, by unfold Cell4; rw [hx]; exact cs⟩
        clear hx hy hh cs
        go_upto_region 6 with fail
        obtain ⟨y0, y1, y2, x0, x1, x2, x3⟩ := mapEl_cells ME.out
        cases y
        · have NX := Lib.hid (fil_no HY.out)
          go_region_held3 (fun w' => w'.cell? ⟨n, 0, none⟩ = some (.int .i64 a) ∧ w'.cell? ⟨n, 1, none⟩ = some (.int .i64 b) ∧ w'.cell? ⟨n, 2, none⟩ = some (.int .i64 c) ∧ w'.cell? ⟨g, k * 4, none⟩ = some (.int .i64 x.two) ∧ w'.cell? ⟨g, k * 4 + 1, none⟩ = some (.int .i64 x.three) ∧ w'.cell? ⟨g, k * 4 + 2, none⟩ = some (.int .i64 x.five) ∧ w'.cell? ⟨g, k * 4 + 3, none⟩ = some (.int .i64 x.root)) (with_reducible first | exact mapEl_cells (mapEl_drew ME.out) | exact mapEl_cells (mapEl_keep (by assumption) ME.out))
            (first
              | (go_at_call 51; refine (calls_fromF (W := wr) (by with_reducible first | assumption | exact (Below.refl _ _).drew) (HH.out _)).mono ?_; rintro e1 w3 ⟨rfl, hb⟩))
          all_goals
            have O3 := Lib.hid (ownC_below HO.out hb)
            have B3 := Lib.hid (HB.out.trans (hb.mono HB.out.size))
            have R3 := Lib.hid (own4_below HR.out hb)
            clear y0 y1 y2 x0 x1 x2 x3 hb HO HB HR ME
            go_wp2_with fail
            go_roundw
            case rel => exact ⟨k + 1, by omega, by go_num, Lib.hid (by rw [NX.out]; exact O3.out), B3, R3, HA⟩
            case measure => simp [intOf]; omega
        · have NX := Lib.hid (fil_yes HY.out)
          have LB := fil_len p (ivAt xs) k
          obtain ⟨L, hL⟩ : ∃ L, L = ((rowL k (ivAt xs)).filter p).length := ⟨_, rfl⟩
          rw [← hL] at LB
          have HLL := Lib.hid hL
          have HOL : Hid (wr.ownsRow W0.heap.size 29 4 u5 L (ivCs ((rowL k (ivAt xs)).filter p))) := Lib.hid (by rw [hL]; exact HO.out)
          clear hL HO
          go_region_held3 (fun w' => w'.cell? ⟨n, 0, none⟩ = some (.int .i64 a) ∧ w'.cell? ⟨n, 1, none⟩ = some (.int .i64 b) ∧ w'.cell? ⟨n, 2, none⟩ = some (.int .i64 c) ∧ w'.cell? ⟨g, k * 4, none⟩ = some (.int .i64 x.two) ∧ w'.cell? ⟨g, k * 4 + 1, none⟩ = some (.int .i64 x.three) ∧ w'.cell? ⟨g, k * 4 + 2, none⟩ = some (.int .i64 x.five) ∧ w'.cell? ⟨g, k * 4 + 3, none⟩ = some (.int .i64 x.root)) (with_reducible first | exact mapEl_cells (mapEl_drew ME.out) | exact mapEl_cells (mapEl_keep (by assumption) ME.out))
            (first
              | (go_at_call 51; refine (calls_fromF (W := wr) (by with_reducible first | assumption | exact (Below.refl _ _).drew) (HH.out _)).mono ?_; rintro e1 w3 ⟨rfl, hb⟩))
          all_goals
            have O3 := Lib.hid (own4_below HOL.out hb)
            have B3 := Lib.hid (HB.out.trans (hb.mono HB.out.size))
            have R3 := Lib.hid (own4_below HR.out hb)
            have M3 := Lib.hid (mapEl_keep hb ME.out)
            clear y0 y1 y2 x0 x1 x2 x3 hb HOL HB HR ME
            obtain ⟨y0, y1, y2, x0, x1, x2, x3⟩ := mapEl_cells M3.out
            have hbs := B3.out.size
            have GLT := Lib.hid (show g < w3.heap.size from M3.out.2.1)
            go_wp2_with (at_builtin; refine wpList_append_lies _ rfl (.tmp 23) (.tmp 28) 42 rfl W0.heap.size 29 i0 (ivV 0 0 0 0) 4 32 Tryd.underlying42 hif hz0 hz1 hz2 rfl (by decide) _ L _ rfl (O3.out.alloc _) ⟨w3.heap.size, 0, none⟩ 1 1 [.int .i64 x.two, .int .i64 x.three, .int .i64 x.five, .int .i64 x.root] rfl rfl (World.news_of_block (heap_alloc_new w3 _)) (by simp [Value.oneCell']) (by decide) (by unfold maxLen; omega) (by omega) (by simp; omega) _ rfl ?_; intro g1 cap1 w5 hown' hgrow hat hgt)
            have B5 := Lib.hid ((B3.out.alloc hbs _).grown hgrow (by simp; omega) (fun j hj => (O3.out.lt j hj).1))
            have hgr : World.grownBy _ w5 u5.ownBlock := hgrow
            have R5 := Lib.hid (own4_apart (own4_below R3.out (below_alloc1 _ _)) hgr (fun j hj e => HA.out j e (by
              have e1 : g = j := by simpa [Value.ownBlock] using hj
              exact e1.symm)))
            have A5 : Hid (∀ j, (Value.slice (some ⟨g1, 0, none⟩) (L + 1) cap1).ownBlock = some j → j ≠ g) := Lib.hid (fun j hj e => by
              have e1 : g1 = j := by simpa [Value.ownBlock] using hj
              rcases hat with h | h
              · exact HA.out g1 h (e1.trans e)
              · have := GLT.out
                simp at h
                omega)
            have O5 := Lib.hid (ownC_snoc HLL.out hown')
            clear hown' hgr hgrow hat hgt O3 B3 R3 M3 y0 y1 y2 x0 x1 x2 x3 hbs
            go_wp2_with fail
            go_roundw
            case rel => exact ⟨k + 1, by omega, by go_num, Lib.hid (by rw [NX.out, ← HX.out]; exact O5.out), B5, R5, A5⟩
            case measure => simp [intOf]; omega
      · have q1 : ¬ (k : Int) < N := by omega
        obtain rfl : k = N := by omega
        have EQ : Hid (rowL k (ivAt xs) = comList l) := Lib.hid (by rw [HNX.out, rowL_ivAt]; exact HXS.out)
        go_wp2_with fail
        go_ret
        exact ret_hid B0.out rfl (by rw [← EQ.out]; exact HO.out) HB.out
end Go.Proofs.YtfhefakacjkmiaaDoor
