/- Contract of impl.sumOfIntervals: the sum of a row of intervals, step by step. -/
import Derived.Test.YtjfeeppbbckneabThirdAt
import Derived.Test.YtjfeeppbbckneabClosMath
import Derived.Test.YtjfeeppbbckneabIvCells
import Derived.Test.YtjfeeppbbckneabComWalks
namespace Go.Proofs.Ytjfeeppbbckneab
open Go.RowKit Go.Joins
set_option linter.unusedVariables false
/-- The sum of a row, from s on; the zero interval where a step fails. -/
def sumVs : Iv → List Iv → Iv × Bool
  | s, [] => (s, true)
  | s, x :: xs => if (addV s x).2 = true then sumVs (addV s x).1 xs else (⟨0, 0, 0, 0⟩, false)
theorem addV_zero (s : Iv) : addV s ⟨0, 0, 0, 0⟩ = (⟨0, 0, 0, 0⟩, false) := by
  unfold addV
  rw [if_neg]
  rintro ⟨_, h, _⟩
  exact absurd h (by decide)
theorem sumVs_zero : ∀ (L : List Iv) (s : Iv), (⟨0, 0, 0, 0⟩ : Iv) ∈ L → sumVs s L = (⟨0, 0, 0, 0⟩, false)
  | [], _, h => by simp at h
  | x :: xs, s, h => by
    unfold sumVs
    rcases List.mem_cons.1 h with e | e
    · rw [← e, addV_zero]; rfl
    · by_cases q : (addV s x).2 = true
      · rw [if_pos q]; exact sumVs_zero xs _ e
      · rw [if_neg q]
theorem sumVs_step {s x t : Iv} {L : List Iv} {k : Nat} (hk : k < L.length) (hx : x = ivAt L k) (h : addV s x = (t, true)) : sumVs s (L.drop k) = sumVs t (L.drop (k + 1)) := by
  have e : L.drop k = x :: L.drop (k + 1) := by
    rw [List.drop_eq_getElem_cons hk, hx]
    unfold ivAt
    simp [hk]
  rw [e]
  show (if (addV s x).2 = true then sumVs (addV s x).1 (L.drop (k + 1)) else _) = _
  rw [h, if_pos rfl]
theorem sumVs_fail {s x t : Iv} {L : List Iv} {k : Nat} (hk : k < L.length) (hx : x = ivAt L k) (h : addV s x = (t, false)) : sumVs s (L.drop k) = (⟨0, 0, 0, 0⟩, false) := by
  have e : L.drop k = x :: L.drop (k + 1) := by
    rw [List.drop_eq_getElem_cons hk, hx]
    unfold ivAt
    simp [hk]
  rw [e]
  show (if (addV s x).2 = true then sumVs (addV s x).1 (L.drop (k + 1)) else _) = _
  rw [h, if_neg (by simp)]
/-- An interval in a block that may be written. -/
def FourG (m : Nat) (x : Iv) (w : World) : Prop := Four m x.two x.three x.five x.root w ∧ ∀ o, w.frozen? ⟨m, o, none⟩ = false
theorem fourG_keep {W w : World} {m : Nat} {x : Iv} (hb : Below W.heap.size W w) (h : FourG m x W) : FourG m x w :=
  ⟨four_keep hb h.1, fun o => (hb.frozen (p := ⟨m, o, none⟩) h.1.1).trans (h.2 o)⟩
theorem fourG_alloc {w : World} {x : Iv} {t : TypeId} : FourG w.heap.size x (w.alloc (.cells #[.int .i64 x.two, .int .i64 x.three, .int .i64 x.five, .int .i64 x.root] t)) := ⟨four_alloc, fun o => by simp [go_sem]⟩
theorem fourG_cells {w : World} {m : Nat} {x : Iv} (h : FourG m x w) : w.cell? ⟨m, 0, none⟩ = some (.int .i64 x.two) ∧ w.cell? ⟨m, 1, none⟩ = some (.int .i64 x.three) ∧ w.cell? ⟨m, 2, none⟩ = some (.int .i64 x.five) ∧ w.cell? ⟨m, 3, none⟩ = some (.int .i64 x.root) := h.1.2
/-- Four stores into such a block, beside a block of zeros. -/
theorem fourG_set {w : World} {B m n : Nat} {x y : Iv} (hm : B ≤ m) (h : FourG m x w) (hn : n ≠ m) (hz : Zed4 n w) (hb : Below B w w) :
    ∃ X, X = ((((w.setCell ⟨m, 0, none⟩ (.int .i64 y.two)).setCell ⟨m, 1, none⟩ (.int .i64 y.three)).setCell ⟨m, 2, none⟩ (.int .i64 y.five)).setCell ⟨m, 3, none⟩ (.int .i64 y.root)) ∧ FourG m y X ∧ Zed4 n X ∧ Below B w X :=
  ⟨_, rfl, ⟨four_set h.1, fun o => by rw [World.frozen?_setCell, World.frozen?_setCell, World.frozen?_setCell, World.frozen?_setCell]; exact h.2 o⟩,
    ⟨four_other hn hz.1, fun o => by rw [World.frozen?_setCell, World.frozen?_setCell, World.frozen?_setCell, World.frozen?_setCell]; exact hz.2 o⟩, (((hb.setCell hm _).setCell hm _).setCell hm _).setCell hm _⟩
set_option maxRecDepth 100000 in
set_option maxHeartbeats 4000000 in
theorem sums_impl (L : List Iv) {s : Iv} {z : Bool} (hs : sumVs ⟨0, 0, 0, 1⟩ L = (s, z)) (w : World) (b : Nat) (e : TypeId) (g cap n : Nat) (hn : n = L.length) (hn2 : n ≤ 1000) (h : w.ownsRow b e 4 (.slice (some ⟨g, 0, none⟩) n cap) n (ivCs L)) :
    Calls Try.prog 53 #[.slice (some ⟨g, 0, none⟩) n cap] w fun en w' => en = .returned (.tuple #[ivV s.two s.three s.five s.root, .bool z]) ∧ Below w.heap.size w w' := by
  have HH := Lib.hid h
  have HS := Lib.hid hs
  have HN := Lib.hid hn
  obtain ⟨W0, hW⟩ : ∃ W, W = w.alloc (.cells #[.int .i64 0, .int .i64 0, .int .i64 0, .int .i64 0] 44) := ⟨_, rfl⟩
  have Z0 : Hid (Zed4 w.heap.size W0) := Lib.hid (by rw [hW]; exact zed4_alloc)
  have B0 : Hid (Below w.heap.size w W0) := Lib.hid (by rw [hW]; exact below_alloc1 w _)
  clear h hs hn
  go_enter Try.func53, Try.ntmps53
  go_upto_region 1 with fail
  rw [← hW]
  clear hW
  obtain ⟨m, hm⟩ : ∃ m, m = w.heap.size := ⟨_, rfl⟩
  rw [← hm] at Z0 ⊢
  have HM := Lib.hid hm
  clear hm
  go_wp2_with fail
  refine (pure_impl_yes 0 0 0 _ (by decide)).mono ?_
  rintro e1 w1 ⟨rfl, b1⟩
  go_upto_region 2 with fail
  obtain ⟨W1, hW⟩ : ∃ W, W = w1.alloc (.cells #[.int .i64 0, .int .i64 0, .int .i64 0, .int .i64 1] 44) := ⟨_, rfl⟩
  obtain ⟨ms, hms⟩ : ∃ m, m = w1.heap.size := ⟨_, rfl⟩
  have hmm : m < ms := by have := Z0.out.1.1; have := b1.size; omega
  have FS1 : Hid (FourG ms ⟨0, 0, 0, 1⟩ W1) := Lib.hid (by rw [hW, hms]; exact fourG_alloc (x := ⟨0, 0, 0, 1⟩))
  have A1 : Below w1.heap.size w1 W1 := by rw [hW]; exact below_alloc1 w1 _
  have Z1 := Lib.hid (zed4_keep A1 (zed4_keep b1 Z0.out))
  have B1 := Lib.hid (B0.out.trans ((b1.trans (A1.mono b1.size)).mono B0.out.size))
  rw [← hW, ← hms]
  clear hW hms A1 b1 Z0 B0
  go_wp2_with fail
  go_loopw [12] (fun x wr => ∃ (k : Nat) (S : Iv), k ≤ n ∧ x = .int .i64 (k : Int) ∧ Hid (sumVs ⟨0, 0, 0, 1⟩ L = sumVs S (L.drop k)) ∧ Hid (FourG ms S wr) ∧ Hid (Zed4 m wr) ∧ Hid (Below w.heap.size w wr)) (fun x _ => n - (intOf x).toNat)
  case atStart => exact ⟨0, ⟨0, 0, 0, 1⟩, Nat.zero_le _, by go_num, Lib.hid (by rw [List.drop_zero]), FS1, Z1, B1⟩
  case round =>
    clear FS1 Z1 B1
    obtain ⟨k, S, hk, rfl, HE, FSM, ZR, HB⟩ := hrel
    by_cases hlt : k < n
    · have q3 : (k : Int) < n := by omega
      have R := own4_below HH.out HB.out
      obtain ⟨x0, x1, x2, x3⟩ := own_iv R HN.out k hlt
      obtain ⟨X, hX⟩ : ∃ X, X = ivAt L k := ⟨_, rfl⟩
      rw [← hX] at x0 x1 x2 x3
      have HX := Lib.hid hX
      have HK := Lib.hid hlt
      clear R hX hlt
      go_upto_region 5 with fail
      obtain ⟨W2, hW⟩ : ∃ W, W = wr.alloc (.cells #[.int .i64 X.two, .int .i64 X.three, .int .i64 X.five, .int .i64 X.root] 44) := ⟨_, rfl⟩
      obtain ⟨mx, hmx⟩ : ∃ m, m = wr.heap.size := ⟨_, rfl⟩
      have FX : Hid (FourG mx X W2) := Lib.hid (by rw [hW, hmx]; exact fourG_alloc)
      have A2 : Below wr.heap.size wr W2 := by rw [hW]; exact below_alloc1 wr _
      have FS2 := Lib.hid (fourG_keep A2 FSM.out)
      have Z2 := Lib.hid (zed4_keep A2 ZR.out)
      have B2 := Lib.hid (HB.out.trans (A2.mono HB.out.size))
      rw [← hW, ← hmx]
      clear hW hmx A2 x0 x1 x2 x3 FSM ZR HB
      obtain ⟨x0, x1, x2, x3⟩ := fourG_cells FX.out
      obtain ⟨s0, s1, s2, s3⟩ := fourG_cells FS2.out
      obtain ⟨T, o, hT⟩ : ∃ T o, addV S X = (T, o) := ⟨_, _, rfl⟩
      have AD := add_total S X
      rw [hT] at AD
      have ADH := Lib.hid AD
      have HT := Lib.hid hT
      clear AD hT
      go_wp2_with fail
      refine (ADH.out _).mono ?_
      rintro e3 w3 ⟨rfl, b3⟩
      have FS3 := Lib.hid (fourG_keep b3 FS2.out)
      have Z3 := Lib.hid (zed4_keep b3 Z2.out)
      have B3 := Lib.hid (B2.out.trans (b3.mono B2.out.size))
      clear b3 x0 x1 x2 x3 s0 s1 s2 s3 FS2 Z2 B2 FX
      go_upto_region 6 with fail
      obtain ⟨W4, hW⟩ : ∃ W, W = w3.alloc (.cells #[.int .i64 T.two, .int .i64 T.three, .int .i64 T.five, .int .i64 T.root] 44) := ⟨_, rfl⟩
      obtain ⟨mt, hmt⟩ : ∃ m, m = w3.heap.size := ⟨_, rfl⟩
      have FT : Hid (FourG mt T W4) := Lib.hid (by rw [hW, hmt]; exact fourG_alloc)
      have A4 : Below w3.heap.size w3 W4 := by rw [hW]; exact below_alloc1 w3 _
      have FS4 := Lib.hid (fourG_keep A4 FS3.out)
      have Z4 := Lib.hid (zed4_keep A4 Z3.out)
      have B4 := Lib.hid (B3.out.trans (A4.mono B3.out.size))
      rw [← hW, ← hmt]
      clear hW hmt A4 FS3 Z3 B3
      cases o
      · have HR : Hid ((⟨0, 0, 0, 0⟩ : Iv) = s ∧ false = z) := Lib.hid (by
          have t := HS.out
          rw [HE.out, sumVs_fail (by have := HN.out; have := HK.out; omega) HX.out HT.out] at t
          exact ⟨congrArg Prod.fst t, congrArg Prod.snd t⟩)
        obtain ⟨rfl, rfl⟩ := HR.out
        obtain ⟨⟨zm, z0, z1, z2, z3⟩, zf⟩ := Z4.out
        clear HS HE HT HR FT FS4 Z4
        go_wp2_with fail
        refine bodyPost_ret (v := .tuple #[ivV 0 0 0 0, .bool false]) (by simp [results, Try.results53, go_sem, z0, z1, z2, z3]) rfl ⟨rfl, ?_⟩
        have hm1 : w.heap.size ≤ m := by have := HM.out; omega
        repeat' (first | exact B4.out | (refine Below.setCell ?_ (by simp only; exact hm1) _))
      · have HR := Lib.hid (HE.out.trans (sumVs_step (by have := HN.out; have := HK.out; omega) HX.out HT.out))
        obtain ⟨t0, t1, t2, t3⟩ := fourG_cells FT.out
        obtain ⟨⟨_, s0, s1, s2, s3⟩, sf⟩ := FS4.out
        go_wp2_with fail
        obtain ⟨W5, hW5, f1, f2, b5⟩ := fourG_set (y := T) (n := m) (Nat.le_refl ms) FS4.out (by omega) Z4.out (Below.refl _ _)
        rw [← hW5]
        have B5 := Lib.hid (B4.out.trans (b5.mono (by have := HM.out; omega)))
        have F1 := Lib.hid f1
        have F2 := Lib.hid f2
        clear hW5 f1 f2 b5 t0 t1 t2 t3 s0 s1 s2 s3 sf FS4 Z4 B4 FT HE HT
        go_wp2_with fail
        go_roundw
        case rel => exact ⟨k + 1, T, HK.out, by go_num, HR, F1, F2, B5⟩
        case measure => simp [intOf]; omega
    · have q3 : ¬ (k : Int) < n := by omega
      obtain rfl : k = n := by omega
      have HR : Hid (S = s ∧ true = z) := Lib.hid (by
        have t := HS.out
        rw [HE.out, HN.out, List.drop_length] at t
        exact ⟨congrArg Prod.fst t, congrArg Prod.snd t⟩)
      obtain ⟨rfl, rfl⟩ := HR.out
      obtain ⟨s0, s1, s2, s3⟩ := fourG_cells FSM.out
      obtain ⟨⟨zm, z0, z1, z2, z3⟩, zf⟩ := ZR.out
      clear HS HE HR FSM ZR
      go_wp2_with fail
      obtain ⟨Y, hY, ⟨gm, g0, g1, g2, g3⟩, gb⟩ := zed4_store (w := w) (p := S.two) (q := S.three) (r := S.five) (s := S.root) (show w.heap.size ≤ m from by have := HM.out; omega) HB.out ⟨zm, z0, z1, z2, z3⟩
      rw [← hY]
      have GB := Lib.hid gb
      clear hY gb z0 z1 z2 z3 zm zf HB
      refine bodyPost_ret (v := .tuple #[ivV S.two S.three S.five S.root, .bool true]) (by simp [results, Try.results53, go_sem, g0, g1, g2, g3]) rfl ⟨rfl, GB.out⟩
end Go.Proofs.Ytjfeeppbbckneab
