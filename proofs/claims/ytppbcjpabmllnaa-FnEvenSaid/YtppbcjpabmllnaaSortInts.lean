/- slices.Sort at a row of at most 12 ints and slices.Compact at an ascending row, in memory of the call's own. -/
import Derived.Test.YtppbcjpabmllnaaAscMath
import Derived.Test.YtppbcjpabmllnaaIntCut
import Derived.BigRegion
import Derived.Deep.RegionWith
import Derived.Deep.RegionHeld3
namespace Go.Proofs.Ytppbcjpabmllnaa
open Go.RowKit Go.Joins
set_option linter.unusedVariables false
theorem zeroI (w : World) : (zeroValue 3).run Try.prog w = .ok (.int .i64 0) w := by kernel_rfl
/-- A row of ints in memory of the call's own. -/
structure IntR (B g cap n : Nat) (w0 : World) (L : List Int) (w : World) : Prop where
  len : L.length = n
  row : w.ownsRow B 3 1 (.slice (some ⟨g, 0, none⟩) n cap) n (intCs L)
  bel : Below B w0 w
  base : B ≤ g ∧ B ≤ w0.heap.size
section
variable {B g cap n : Nat} {w0 W : World} {L : List Int}
theorem IntR.drew (h : IntR B g cap n w0 L W) : IntR B g cap n w0 L W.drew := ⟨h.len, own_below h.row (Below.refl _ _).drew, h.bel.drew, h.base⟩
theorem IntR.below {w' : World} (h : IntR B g cap n w0 L W) (hb : Below W.heap.size W w') : IntR B g cap n w0 L w' :=
  ⟨h.len, own_below h.row hb, h.bel.trans (hb.mono (Nat.le_trans h.base.2 h.bel.size)), h.base⟩
theorem IntR.cell (h : IntR B g cap n w0 L W) {i : Nat} (hi : i < n) : W.cell? ⟨g, i, none⟩ = some (.int .i64 (L.getD i 0)) := own_icell h.row i hi
theorem IntR.free (h : IntR B g cap n w0 L W) (o : Nat) : W.frozen? ⟨g, o, none⟩ = false := h.row.frozenAt o
theorem IntR.put (h : IntR B g cap n w0 L W) (i : Nat) (x : Int) : IntR B g cap n w0 (L.set i x) (W.setCell ⟨g, i, none⟩ (.int .i64 x)) := by
  have s := (h.row.stored i (.int .i64 x)).1
  rw [show (intCs L).set i (.int .i64 x) = intCs (L.set i x) from by simp [intCs]] at s
  exact ⟨by rw [List.length_set]; exact h.len, s, h.bel.setCell (p := ⟨g, i, none⟩) h.base.1 _, h.base⟩
theorem IntR.lt (h : IntR B g cap n w0 L W) (hn : 0 < n) : g < W.heap.size := by
  obtain ⟨g', cap', h1, h2, h3⟩ := own_pos h.row hn
  simp only [Value.slice.injEq, Option.some.injEq, Addr.mk.injEq, and_true] at h1
  obtain ⟨rfl, -⟩ := h1
  exact h3
theorem IntR.cap_le (h : IntR B g cap n w0 L W) : n ≤ cap := by
  rcases h.row.2 with ⟨h', _⟩ | ⟨g', cap', cur, h', hb, hg, hnc, _⟩
  · simp at h'
  · simp only [Value.slice.injEq, Option.some.injEq, Addr.mk.injEq, and_true, true_and] at h'
    rw [h'.2]
    exact hnc
/-- The exchange's two stores. -/
theorem IntR.swap {p : Nat} {x y : Int} (h : IntR B g cap n w0 L W) (hx : L.getD (p + 1) 0 = x) (hy : L.getD p 0 = y) :
    ∃ X, X = ((W.setCell ⟨g, p + 1, none⟩ (.int .i64 y)).setCell ⟨g, p, none⟩ (.int .i64 x)).drew ∧ IntR B g cap n w0 (swL L p) X := by
  refine ⟨_, rfl, ?_⟩
  have k := ((h.put (p + 1) y).put p x).drew
  rw [← hx, ← hy] at k ⊢
  exact k
end
/-- Two numbers of the row. -/
def PairI (g p : Nat) (x y : Int) (w : World) : Prop := g < w.heap.size ∧ w.cell? ⟨g, p + 1, none⟩ = some (.int .i64 x) ∧ w.cell? ⟨g, p, none⟩ = some (.int .i64 y)
theorem pairI_keep {g p : Nat} {x y : Int} {w w' : World} (hb : Below w.heap.size w w') (h : PairI g p x y w) : PairI g p x y w' :=
  ⟨Nat.lt_of_lt_of_le h.1 hb.size, (hb.cell (p := ⟨g, p + 1, none⟩) h.1).trans h.2.1, (hb.cell (p := ⟨g, p, none⟩) h.1).trans h.2.2⟩
theorem pairI_cells {g p : Nat} {x y : Int} {w : World} (h : PairI g p x y w) : w.cell? ⟨g, p + 1, none⟩ = some (.int .i64 x) ∧ w.cell? ⟨g, p, none⟩ = some (.int .i64 y) := h.2
theorem nanI (x : Int) (w : World) : Calls Try.prog 77 #[.int .i64 x] w fun e w' => e = .returned (.bool false) ∧ w = w' := by
  have t : (x == x) = true := by simp
  go_enter Try.func77, Try.ntmps77
  go_wp2
  go_ret
  exact ⟨by simp, rfl⟩
theorem less_at {x y : Int} {z : Bool} (hz : decide (x < y) = z) (w : World) : Calls Try.prog 67 #[.int .i64 x, .int .i64 y] w fun e w' => e = .returned (.bool z) ∧ Below w.heap.size w w' := by
  have NA := Lib.hid (fun X => nanI x X)
  have HZ := Lib.hid hz
  clear hz
  go_enter Try.func67, Try.ntmps67
  go_wp2_with fail
  refine (NA.out _).mono ?_
  rintro e1 w1 ⟨rfl, rfl⟩
  go_wp2_with fail
  go_ret
  exact ⟨ret_boolT HZ.out, Below.refl _ _⟩
set_option maxRecDepth 100000 in
set_option maxHeartbeats 8000000 in
theorem insInts_run {B g cap n : Nat} {w0 : World} {L : List Int} (hn : 1 ≤ n ∧ n ≤ 1000000) (W : World) (h : IntR B g cap n w0 L W) :
    Calls Try.prog 61 #[.slice (some ⟨g, 0, none⟩) n cap, .int .i64 0, .int .i64 n] W fun e w' => e = .returned (.tuple #[]) ∧ ∃ M, SameM M L ∧ AscI M n ∧ IntR B g cap n w0 M w' := by
  have HS := Lib.hid h
  have HLN := Lib.hid h.len
  clear h
  obtain ⟨hn1, hn2⟩ := hn
  go_enter Try.func61, Try.ntmps61
  go_wp2_with fail
  go_loopw [6] (fun x wr => ∃ (i : Nat) (M : List Int), x = .int .i64 (i : Int) ∧ 1 ≤ i ∧ i ≤ n ∧ Hid (SameM M L) ∧ Hid (AscI M i) ∧ Hid (IntR B g cap n w0 M wr)) (fun x _ => n + 1 - (intOf x).toNat)
  case atStart => exact ⟨1, L, by go_num, by omega, by omega, Lib.hid (sameM_refl L), Lib.hid (asc_one L), HS⟩
  case round =>
    clear HS
    obtain ⟨i, M0, rfl, hi1, hin, HM, HA, HR⟩ := hrel
    by_cases hlt : i < n
    · have k1 : (i : Int) < n := by omega
      have HD := Lib.hid (down_start HA.out)
      have HI := Lib.hid hi1
      clear HA
      go_wp2_with fail
      go_loopw [7] (fun y wr => ∃ (j : Nat) (M : List Int), y = .int .i64 (j : Int) ∧ j ≤ i ∧ Hid (SameM M L) ∧ Hid (DownI M j i) ∧ Hid (IntR B g cap n w0 M wr)) (fun y _ => (intOf y).toNat)
      case atStart => exact ⟨i, M0, rfl, Nat.le_refl _, HM, HD, HR⟩
      case round =>
        clear HM HD HR
        obtain ⟨j, M, rfl, hji, HM, HD, HJ⟩ := hrel
        by_cases hj0 : 0 < j
        · obtain ⟨p, rfl⟩ : ∃ p, j = p + 1 := ⟨j - 1, by omega⟩
          obtain ⟨x, hx⟩ : ∃ x, M.getD (p + 1) 0 = x := ⟨_, rfl⟩
          obtain ⟨y, hy⟩ : ∃ y, M.getD p 0 = y := ⟨_, rfl⟩
          have K2 : Hid (PairI g p x y wr) := Lib.hid ⟨HJ.out.lt (by omega), by rw [← hx]; exact HJ.out.cell (by omega), by rw [← hy]; exact HJ.out.cell (by omega)⟩
          obtain ⟨z, hz⟩ : ∃ z, decide (x < y) = z := ⟨_, rfl⟩
          have PO : Hid (∀ X, Below wr.heap.size wr X → Calls Try.prog 67 #[.int .i64 x, .int .i64 y] X fun e w' => e = .returned (.bool z) ∧ Below X.heap.size X w') := Lib.hid (fun X _ => less_at hz X)
          have HX := Lib.hid hx
          have HY := Lib.hid hy
          have HZ := Lib.hid hz
          have t1 : (0 : Int) < (p : Int) + 1 := by omega
          have t7 : (0 : Int) ≤ (p : Int) + 1 := by omega
          have t0 : ((p : Int) + 1).toNat = p + 1 := by omega
          have t4 : IntKind.i64.wrap (p : Int) = (p : Int) := IntWalk.i64_in _ (by omega)
          have t5 : (p : Int) + 1 < n := by omega
          have t6 : (p : Int) < n := by omega
          clear hx hy hz
          cases z
          · have A2 : Hid (AscI M (i + 1)) := Lib.hid (down_stop HD.out hji (by rw [HX.out, HY.out]; have := of_decide_eq_false HZ.out; omega))
            go_wp2_with fail
            go_region_held3 (fun w' => w'.cell? ⟨g, p + 1, none⟩ = some (.int .i64 x) ∧ w'.cell? ⟨g, p, none⟩ = some (.int .i64 y)) (with_reducible first | exact pairI_cells (pairI_keep (Below.refl _ _).drew K2.out) | exact pairI_cells (pairI_keep (by assumption) K2.out) | exact pairI_cells K2.out)
              (first
                | (go_at_call 67; refine (calls_fromF (W := wr) (by with_reducible first | assumption | exact (Below.refl _ _).drew) (PO.out _ (by with_reducible first | assumption | exact (Below.refl _ _).drew))).mono ?_; rintro e9 w1 ⟨rfl, hb1⟩))
            have S1 := Lib.hid (HJ.out.below hb1)
            clear hb1 K2 PO HJ
            go_wp2_with fail
            go_roundw
            case rel => exact ⟨i + 1, M, by go_num, by omega, hlt, HM, A2, S1⟩
            case measure => simp [intOf]; omega
          · have D2 : Hid (DownI (swL M p) p i) := Lib.hid (down_swap HD.out hji (by rw [HM.out.1, HLN.out]; exact hlt) (by rw [HX.out, HY.out]; exact of_decide_eq_true HZ.out))
            have M2 : Hid (SameM (swL M p) L) := Lib.hid (sameM_swap HM.out (by rw [HLN.out]; omega))
            go_wp2_with fail
            go_region_held3 (fun w' => w'.cell? ⟨g, p + 1, none⟩ = some (.int .i64 x) ∧ w'.cell? ⟨g, p, none⟩ = some (.int .i64 y)) (with_reducible first | exact pairI_cells (pairI_keep (Below.refl _ _).drew K2.out) | exact pairI_cells (pairI_keep (by assumption) K2.out) | exact pairI_cells K2.out)
              (first
                | (go_at_call 67; refine (calls_fromF (W := wr) (by with_reducible first | assumption | exact (Below.refl _ _).drew) (PO.out _ (by with_reducible first | assumption | exact (Below.refl _ _).drew))).mono ?_; rintro e9 w1 ⟨rfl, hb1⟩))
            have S1 := Lib.hid (HJ.out.below hb1)
            have K3 := Lib.hid (pairI_keep hb1 K2.out)
            clear hb1 K2 PO HJ
            obtain ⟨x4, y4⟩ := pairI_cells K3.out
            obtain ⟨x0, y0⟩ := pairI_cells (pairI_keep (Below.refl _ _).drew K3.out)
            have fz := S1.out.free
            go_wp2_with fail
            go_region
            obtain ⟨Z, hZ, hS⟩ := IntR.swap S1.out HX.out HY.out
            rw [← hZ]
            have HZ2 := Lib.hid hS
            clear hZ hS x0 x4 y0 y4 fz
            go_wp2_with fail
            go_roundw
            case rel => exact ⟨p, swL M p, by go_num, by omega, M2, D2, HZ2⟩
            case measure => simp [intOf]
        · obtain rfl : j = 0 := by omega
          have t5 : ¬ (0 : Int) < ((0 : Nat) : Int) := by omega
          have t6 : decide (((0 : Nat) : Int) > (0 : Int)) = false := decide_eq_false (by omega)
          have S1 := Lib.hid HJ.out.drew
          have A2 := Lib.hid (down_zero HD.out)
          go_wp2_with fail
          go_region
          go_wp2_with fail
          go_roundw
          case rel => exact ⟨i + 1, M, by go_num, by omega, hlt, HM, A2, S1⟩
          case measure => simp [intOf]; omega
    · obtain rfl : i = n := by omega
      have k1 : ¬ (i : Int) < (i : Int) := by omega
      go_wp2_with fail
      go_end0
      exact ⟨rfl, M0, HM.out, HA.out, HR.out⟩
set_option maxRecDepth 100000 in
/-- The number of bits of a small number: some number. -/
theorem len64_run {n : Nat} (hn : n ≤ 12) (w : World) : Calls Try.prog 71 #[.int .u64 n] w fun e w' => (∃ r : Int, e = .returned (.int .i64 r)) ∧ w = w' := by
  have q1 : ¬ (n : Int) ≥ 4294967296 := by omega
  have q2 : ¬ (n : Int) ≥ 65536 := by omega
  have q3 : ¬ (n : Int) ≥ 256 := by omega
  have q4 : (n : Int) < 256 := by omega
  have q5 : IntKind.u8.wrap (n : Int) = (n : Int) := by simp [IntKind.wrap, IntKind.bits, IntKind.signed]; omega
  have q6 : (0 : Int) ≤ (n : Int) := by omega
  go_enter Try.func71, Try.ntmps71
  go_wp2_with fail
  go_ret
  exact ⟨⟨_, rfl⟩, rfl⟩
theorem len_run {n : Nat} (hn : n ≤ 12) (w : World) : Calls Try.prog 58 #[.int .u64 n] w fun e w' => (∃ r : Int, e = .returned (.int .i64 r)) ∧ w = w' := by
  have L := Lib.hid (len64_run hn w)
  go_enter Try.func58, Try.ntmps58
  go_wp2_with fail
  refine L.out.mono ?_
  rintro e1 w1 ⟨⟨r, rfl⟩, rfl⟩
  go_wp2_with fail
  go_ret
  exact ⟨⟨_, rfl⟩, rfl⟩
set_option maxRecDepth 100000 in
theorem pdq_run {B g cap n : Nat} {w0 : World} {L : List Int} (hn : 1 ≤ n ∧ n ≤ 12) (r : Int) (W : World) (h : IntR B g cap n w0 L W) :
    Calls Try.prog 57 #[.slice (some ⟨g, 0, none⟩) n cap, .int .i64 0, .int .i64 n, .int .i64 r] W fun e w' => e = .returned (.tuple #[]) ∧ ∃ M, SameM M L ∧ AscI M n ∧ IntR B g cap n w0 M w' := by
  have IR := Lib.hid (insInts_run (by omega) W h)
  have q1 : IntKind.i64.wrap ((n : Int) - 0) = (n : Int) := by rw [Int.sub_zero]; exact IntWalk.i64_in _ (by omega)
  have q2 : (n : Int) ≤ 12 := by omega
  clear h
  go_enter Try.func57, Try.ntmps57
  go_wp2_with fail
  refine wp_loop_rounds 1 ?_
  rw [rounds_succ]
  go_wp2_with fail
  refine IR.out.mono ?_
  rintro e1 w1 ⟨rfl, hM⟩
  have HM := Lib.hid hM
  clear hM
  go_wp2_with fail
  exact bodyPost_ret (v := .tuple #[]) (by simp [results, Try.results57, go_sem]) rfl ⟨rfl, HM.out⟩
theorem sortInts_run {B g cap n : Nat} {w0 : World} {L : List Int} (hn : 1 ≤ n ∧ n ≤ 12) (W : World) (h : IntR B g cap n w0 L W) :
    Calls Try.prog 51 #[.slice (some ⟨g, 0, none⟩) n cap] W fun e w' => e = .returned (.tuple #[]) ∧ ∃ M, SameM M L ∧ AscI M n ∧ IntR B g cap n w0 M w' := by
  have PQ := Lib.hid (fun r => pdq_run hn r W h)
  have LR := Lib.hid (len_run hn.2 W)
  have q1 : IntKind.u64.wrap (n : Int) = (n : Int) := by simp [IntKind.wrap, IntKind.bits, IntKind.signed]; omega
  clear h
  go_enter Try.func51, Try.ntmps51
  go_wp2_with fail
  refine LR.out.mono ?_
  rintro e1 w1 ⟨⟨r, rfl⟩, rfl⟩
  go_wp2_with fail
  refine (PQ.out r).mono ?_
  rintro e1 w1 ⟨rfl, hM⟩
  have HM := Lib.hid hM
  clear hM
  go_wp2_with fail
  go_end0
  exact ⟨rfl, HM.out⟩
set_option maxRecDepth 100000 in
set_option maxHeartbeats 8000000 in
theorem compact_run {B g cap n : Nat} {w0 : World} {L : List Int} (hn : 1 ≤ n ∧ n ≤ 1000000) (ha : AscI L n) (W : World) (h : IntR B g cap n w0 L W) :
    Calls Try.prog 52 #[.slice (some ⟨g, 0, none⟩) n cap] W
      fun e w' => ∃ ys, (∃ v, e = .returned v ∧ w'.ownsRow B 3 1 v ys.length (intCs ys)) ∧ (AscL ys ∧ ys.length ≤ n ∧ ∀ a, a ∈ ys ↔ a ∈ L) ∧ Below B w0 w' := by
  have CLR := Lib.hid (fun X i ty (hi : i < n) (hs : (∀ j, j < n - i → (X.cell? ⟨g, i + j, none⟩).isSome = true) ∧ ∀ j, j < n - i → X.frozen? ⟨g, i + j, none⟩ = false) =>
    clear_int (P := Try.prog) X 24 3 ty Try.underlying24 zeroI g i (n - i) (cap - i) (by omega) hs.1 hs.2)
  have HL := Lib.hid h.len
  have HA : Hid (AscI L L.length) := Lib.hid (by rw [h.len]; exact ha)
  have HS := Lib.hid h
  have HC := Lib.hid h.cap_le
  have END : Hid (∀ (k : Nat) (M : List Int) (X : World), CompI L M k n → IntR B g cap n w0 M X → ∃ ys, ys.length = k ∧ X.ownsRow B 3 1 (.slice (some ⟨g, 0, none⟩) k cap) k (intCs ys) ∧ (AscL ys ∧ ys.length ≤ n ∧ ∀ a, a ∈ ys ↔ a ∈ L)) := Lib.hid (fun k M X hc hi => by
    have hk : k ≤ n := hc.1.2.2.1
    have hc2 : CompI L M k L.length := by rw [h.len]; exact hc
    obtain ⟨e1, e2, e3⟩ := comp_end hc2
    have r := own_cutI hi.row hk
    rw [show (intCs M).take k = intCs (M.take k) by unfold intCs; rw [List.map_take]] at r
    exact ⟨M.take k, e2, r, e1, by omega, e3⟩)
  obtain ⟨hn1, hn2⟩ := hn
  have C1 := Lib.hid (comp_one (L := L) (by rw [h.len]; exact hn1))
  clear h ha
  by_cases hsm : n < 2
  · obtain rfl : n = 1 := by omega
    have q1 : ((1 : Nat) : Int) < 2 := by omega
    obtain ⟨ys, e1, e2, e3⟩ := END.out 1 L W C1.out HS.out
    have E := Lib.hid (And.intro e1 (And.intro e2 e3))
    clear e1 e2 e3 hsm
    go_enter Try.func52, Try.ntmps52
    go_wp2_with fail
    go_ret
    exact ⟨ys, ⟨_, rfl, by rw [E.out.1]; exact E.out.2.1⟩, E.out.2.2, HS.out.bel⟩
  · have q1 : ¬ (n : Int) < 2 := by omega
    go_enter Try.func52, Try.ntmps52
    go_wp2_with fail
    go_loopw [3] (fun x wr => ∃ k : Nat, x = .int .i64 (k : Int) ∧ 1 ≤ k ∧ k ≤ n ∧ Hid (CompI L L k k) ∧ Hid (IntR B g cap n w0 L wr)) (fun x _ => n - (intOf x).toNat)
    case atStart => exact ⟨1, by go_num, Nat.le_refl _, hn1, C1, HS⟩
    case round =>
      clear C1 HS q1
      obtain ⟨k, rfl, hk1, hkn, HK, HR⟩ := hrel
      by_cases hlt : k < n
      · obtain ⟨p, rfl⟩ : ∃ p, k = p + 1 := ⟨k - 1, by omega⟩
        have q2 : (p : Int) + 1 < n := by omega
        have q3 : (p : Int) < n := by omega
        have q4 : IntKind.i64.wrap (p : Int) = (p : Int) := IntWalk.i64_in _ (by omega)
        have q5 : ((p : Int) + 1).toNat = p + 1 := by omega
        have q6 : (0 : Int) ≤ (p : Int) + 1 := by omega
        obtain ⟨x, hx⟩ : ∃ x, L.getD (p + 1) 0 = x := ⟨_, rfl⟩
        obtain ⟨y, hy⟩ : ∃ y, L.getD p 0 = y := ⟨_, rfl⟩
        have T : PairI g p x y wr := ⟨HR.out.lt (by omega), by rw [← hx]; exact HR.out.cell hlt, by rw [← hy]; exact HR.out.cell (by omega)⟩
        obtain ⟨c1, c2⟩ := pairI_cells T
        obtain ⟨d1, d2⟩ := pairI_cells (pairI_keep (Below.refl _ _).drew T)
        have HX := Lib.hid hx
        have HY := Lib.hid hy
        have R1 := Lib.hid HR.out.drew
        clear hx hy T HR
        by_cases hxy : x = y
        · have t1 : (x == y) = true := by simp [hxy]
          have HXY := Lib.hid hxy
          have q7 : ¬ cap = p + 1 := by have := HC.out; omega
          have q8 : p + 1 ≤ cap := by have := HC.out; omega
          have HLT := Lib.hid hlt
          have C2 : Hid (CompI L L (p + 1) (p + 2)) := Lib.hid (comp_skip HK.out (by rw [HL.out]; exact hlt) (by rw [Nat.add_sub_cancel, HX.out, HY.out]; exact hxy))
          clear hxy hlt HK
          go_wp2_with fail
          go_region
          go_wp2_with fail
          clear c1 c2 d1 d2 t1 q7 q8 HX HY HXY
          go_loopw [3, 5] (fun a b wx => ∃ (k u : Nat) (M : List Int), a = .int .i64 (k : Int) ∧ b = .int .i64 ((u + 1 : Nat) : Int) ∧ (1 ≤ k ∧ k ≤ p + 1 + u ∧ p + 2 + u ≤ n) ∧ Hid (CompI L M k (p + 2 + u)) ∧ Hid (IntR B g cap n w0 M wx)) (fun _ b _ => n - (intOf b).toNat)
          case atStart => exact ⟨p + 1, 0, L, by go_num, by go_num, by have := HLT.out; omega, C2, R1⟩
          case round =>
            clear C2 R1
            obtain ⟨k, u, M, rfl, rfl, ⟨hk1', hk2', hu⟩, HK, HM⟩ := hrel
            have hkn' : k < n := by have := HLT.out; omega
            by_cases hlt : u + 1 < n - (p + 1)
            · have s2 : ((u + 1 : Nat) : Int) < ((n - (p + 1) : Nat) : Int) := by omega
              have s3 : (u : Int) < ((n - (p + 1) : Nat) : Int) := by omega
              have s4 : IntKind.i64.wrap (u : Int) = (u : Int) := IntWalk.i64_in _ (by omega)
              have s5 : ((u : Int) + 1).toNat = u + 1 := by omega
              have s6 : (0 : Int) ≤ (u : Int) + 1 := by omega
              have s7 : (k : Int) < n := by omega
              obtain ⟨x, hx⟩ : ∃ x, L.getD (p + 2 + u) 0 = x := ⟨_, rfl⟩
              obtain ⟨y, hy⟩ : ∃ y, L.getD (p + 1 + u) 0 = y := ⟨_, rfl⟩
              have m1 : M.getD (p + 1 + (u + 1)) 0 = x := by rw [HK.out.2.1 _ (by omega), show p + 1 + (u + 1) = p + 2 + u by omega]; exact hx
              have m2 : M.getD (p + 1 + u) 0 = y := by rw [HK.out.2.1 _ (by omega)]; exact hy
              have T : PairI g (p + 1 + u) x y wr := ⟨HM.out.lt (by omega), by rw [← m1]; exact HM.out.cell (i := p + 1 + (u + 1)) (by omega), by rw [← m2]; exact HM.out.cell (by omega)⟩
              obtain ⟨c1, c2⟩ := pairI_cells T
              obtain ⟨d1, d2⟩ := pairI_cells (pairI_keep (Below.refl _ _).drew T)
              rw [show p + 1 + u + 1 = p + 1 + (u + 1) from rfl] at c1 d1
              have HX := Lib.hid hx
              have HY := Lib.hid hy
              have R1 := Lib.hid HM.out.drew
              have HLT2 := Lib.hid hlt
              clear hx hy m1 m2 T HM hlt
              by_cases hxy : x = y
              · have t1 : (x == y) = true := by simp [hxy]
                have t2 : (x != y) = false := by simp [hxy]
                have C3 : Hid (CompI L M k (p + 2 + (u + 1))) := Lib.hid (comp_skip (t := p + 2 + u) HK.out (by rw [HL.out]; have := HLT2.out; omega) (by rw [HX.out, show p + 2 + u - 1 = p + 1 + u by omega, HY.out]; exact hxy))
                clear hxy HK HX HY
                go_wp2_with fail
                go_region
                go_wp2_with fail
                go_roundw
                case rel => exact ⟨k, u + 1, M, rfl, by go_num, by have := HLT2.out; omega, C3, R1⟩
                case measure => have := HLT2.out; simp [intOf]; omega
              · have t1 : (x == y) = false := by simp [hxy]
                have t2 : (x != y) = true := by simp [hxy]
                have C3 : Hid (CompI L (M.set k x) (k + 1) (p + 2 + (u + 1))) := Lib.hid (by
                  have := comp_take (t := p + 2 + u) HK.out HA.out (by rw [HL.out]; have := HLT2.out; omega) (by rw [HX.out, show p + 2 + u - 1 = p + 1 + u by omega, HY.out]; exact hxy)
                  rw [HX.out] at this
                  exact this)
                have R2 := Lib.hid (R1.out.put k x)
                have fz := R1.out.free k
                have ck := R1.out.cell hkn'
                generalize M.getD k 0 = z at ck
                clear hxy HK HX HY
                go_wp2_with fail
                go_region
                go_wp2_with fail
                go_roundw
                case rel => exact ⟨k + 1, u + 1, M.set k x, by go_num, by go_num, by have := HLT2.out; omega, C3, R2⟩
                case measure => have := HLT2.out; simp [intOf]; omega
            · have s2 : ¬ ((u + 1 : Nat) : Int) < ((n - (p + 1) : Nat) : Int) := by have := HLT.out; omega
              have hun : p + 2 + u = n := by have := HLT.out; omega
              rw [hun] at HK
              obtain ⟨ys, e1, e2, e3⟩ := END.out k M wr HK.out HM.out
              have E := Lib.hid (And.intro e1 (And.intro e2 e3))
              have v2 : (k : Int) ≤ n := by omega
              have v3 : (0 : Int) ≤ (k : Int) := by omega
              have v4 : k ≤ cap := by have := HC.out; omega
              have v5 : ¬ cap = k := by have := HC.out; omega
              have hcl := fun ty => CLR.out wr k ty hkn' ⟨fun t ht => by rw [HM.out.cell (i := k + t) (by omega)]; rfl, fun t _ => HM.out.free _⟩
              have CUT := Lib.hid (own_behindI HM.out.base.1 (List.replicate (n - k) (.int .i64 0)) k wr e2 (Nat.le_refl _))
              have BL := Lib.hid HM.out.bel
              clear HM HK CLR e1 e2 e3 hun
              go_wp2_with fail
              go_ret
              exact ⟨ys, ⟨_, rfl, by rw [E.out.1]; exact CUT.out.1⟩, E.out.2.2, CUT.out.2 _ BL.out⟩
        · have t1 : (x == y) = false := by simp [hxy]
          have C2 : Hid (CompI L L (p + 2) (p + 2)) := Lib.hid (comp_step HK.out HA.out (by rw [HL.out]; exact hlt) (by rw [Nat.add_sub_cancel, HX.out, HY.out]; exact hxy))
          clear hxy
          go_wp2_with fail
          go_region
          go_wp2_with fail
          go_roundw
          case rel => exact ⟨p + 2, by go_num, by omega, by omega, C2, R1⟩
          case measure => simp [intOf]; omega
      · obtain rfl : k = n := by omega
        have q2 : ¬ (k : Int) < (k : Int) := by omega
        obtain ⟨ys, e1, e2, e3⟩ := END.out k L wr HK.out HR.out
        have E := Lib.hid (And.intro e1 (And.intro e2 e3))
        clear e1 e2 e3
        go_wp2_with fail
        go_ret
        exact ⟨ys, ⟨_, rfl, by rw [E.out.1]; exact E.out.2.1⟩, E.out.2.2, HR.out.bel⟩
end Go.Proofs.Ytppbcjpabmllnaa
