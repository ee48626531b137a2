/- Contracts of laws.szIntervalS, laws.toIntervalS and laws.eqIntervalS. -/
import Derived.Test.YtfhefakacjkmiaaDoorIvCells
import Derived.Test.YtfhefakacjkmiaaDoorToneWalks
import Derived.Test.YtfhefakacjkmiaaDoorIntRows
import Derived.BigRegion
import Derived.Deep.RegionWith
import Derived.Deep.DeepCutAuto
import Derived.Test.YtfhefakacjkmiaaDoorSameTone
namespace Go.Proofs.YtfhefakacjkmiaaDoor
open Go.RowKit Go.Joins
set_option linter.unusedVariables false
/-- A slice of intervals that came in, as it is read. -/
def IvRow (W : World) (a : Option Addr) (len : Nat) (xs : List Iv) : Prop := xs.length = len ∧ len ≤ 9223372036854775807 ∧ ∀ i, i < len → ∃ g off, a = some ⟨g, off, none⟩ ∧ g < W.heap.size ∧ W.cell? ⟨g, off + i * 4, none⟩ = some (.int .i64 (ivAt xs i).two) ∧ W.cell? ⟨g, off + i * 4 + 1, none⟩ = some (.int .i64 (ivAt xs i).three) ∧ W.cell? ⟨g, off + i * 4 + 2, none⟩ = some (.int .i64 (ivAt xs i).five) ∧ W.cell? ⟨g, off + i * 4 + 3, none⟩ = some (.int .i64 (ivAt xs i).root)
theorem ivRow_below {W w : World} {a : Option Addr} {len : Nat} {xs : List Iv} (h : IvRow W a len xs) (hb : Below W.heap.size W w) : IvRow w a len xs := by
  refine ⟨h.1, h.2.1, fun i hi => ?_⟩
  obtain ⟨g, off, ha, hg, h0, h1, h2, h3⟩ := h.2.2 i hi
  exact ⟨g, off, ha, Nat.lt_of_lt_of_le hg hb.size, (hb.cell hg).trans h0, (hb.cell hg).trans h1, (hb.cell hg).trans h2, (hb.cell hg).trans h3⟩
theorem infoIv : (Tryd.prog.info? 29).map (fun i => (i.zero, i.size, i.bytes)) = some (some (ivV 0 0 0 0), 4, 32) := by kernel_rfl
theorem info_parts4 {P : Program} {t : TypeId} {z : Value} {n b : Nat} (h : (P.info? t).map (fun i => (i.zero, i.size, i.bytes)) = some (some z, n, b)) : ∃ i, P.info? t = some i ∧ i.zero = some z ∧ i.size = n ∧ i.bytes = b := by
  obtain ⟨i, h1, h2⟩ := Option.map_eq_some_iff.1 h
  simp only [Prod.mk.injEq] at h2
  exact ⟨i, h1, h2.1, h2.2.1, h2.2.2⟩
theorem made4 (z : Value) (m : Nat) : (madeCells #[z, z, z, z] m).toList = List.replicate m z := by
  rw [List.eq_replicate_iff]
  refine ⟨by simp [madeCells], fun b hb => ?_⟩
  simp only [madeCells, Array.toList_map, List.mem_map] at hb
  obtain ⟨j, _, rfl⟩ := hb
  rcases (show j % 4 = 0 ∨ j % 4 = 1 ∨ j % 4 = 2 ∨ j % 4 = 3 from by omega) with h | h | h | h
  all_goals (show #[z, z, z, z][j % 4]! = z; rw [h]; rfl)
theorem ivCs_rep : ∀ n, ivCs (List.replicate n ⟨0, 0, 0, 0⟩) = List.replicate (n * 4) (.int .i64 0)
  | 0 => rfl
  | n + 1 => by
    rw [List.replicate_succ, show (n + 1) * 4 = n * 4 + 1 + 1 + 1 + 1 from by omega, List.replicate_succ, List.replicate_succ, List.replicate_succ, List.replicate_succ]
    unfold ivCs
    rw [ivCs_rep n]
theorem ivCs_set : ∀ (xs : List Iv) (k : Nat) (x : Iv), k < xs.length → ((((ivCs xs).set (k * 4) (.int .i64 x.two)).set (k * 4 + 1) (.int .i64 x.three)).set (k * 4 + 2) (.int .i64 x.five)).set (k * 4 + 3) (.int .i64 x.root) = ivCs (xs.set k x)
  | [], k, x, h => by simp at h
  | y :: xs, 0, x, _ => by simp [ivCs]
  | y :: xs, k + 1, x, h => by
    have ih := ivCs_set xs k x (by simpa using h)
    rw [List.set_cons_succ]
    unfold ivCs
    rw [← ih, show (k + 1) * 4 = k * 4 + 1 + 1 + 1 + 1 from by omega]
    simp only [List.set_cons_succ, show k * 4 + 1 + 1 + 1 + 1 + 1 = k * 4 + 1 + 1 + 1 + 1 + 1 from rfl, show k * 4 + 1 + 1 + 1 + 1 + 2 = k * 4 + 2 + 1 + 1 + 1 + 1 from by omega, show k * 4 + 1 + 1 + 1 + 1 + 3 = k * 4 + 3 + 1 + 1 + 1 + 1 from by omega]
def copiedIv (xs : List Iv) (k n : Nat) : List Iv := xs.take k ++ List.replicate (n - k) ⟨0, 0, 0, 0⟩
theorem copiedIv_len (xs : List Iv) (k n : Nat) (h : k ≤ n) (hx : xs.length = n) : (copiedIv xs k n).length = n := by simp [copiedIv]; omega
theorem copiedIv_set (xs : List Iv) (k n : Nat) (h : k < n) (hx : xs.length = n) : (copiedIv xs k n).set k (ivAt xs k) = copiedIv xs (k + 1) n := by
  unfold copiedIv
  have e : (xs.take k).length = k := by simp; omega
  have e4 : xs.take (k + 1) = xs.take k ++ [ivAt xs k] := by rw [List.take_succ_eq_append_getElem (by omega)]; congr 1; simp [ivAt, List.getElem?_eq_getElem (show k < xs.length by omega)]
  rw [List.set_append_right _ _ (by omega), e, Nat.sub_self, show n - k = (n - (k + 1)) + 1 from by omega, List.replicate_succ, List.set_cons_zero, e4, List.append_assoc]
  rfl
/-- What makes a row of intervals leaves. -/
def OwnIv (xs : List Iv) (w : World) (e : Ending) (w' : World) : Prop := ∃ v, e = .returned v ∧ w'.ownsRow w.heap.size 29 4 v xs.length (ivCs xs) ∧ Below w.heap.size w w'
theorem ownIv_eq {w : World} {base : Nat} {e : TypeId} {v : Value} {n : Nat} {xs ys : List Iv} (h : w.ownsRow base e 4 v n (ivCs xs)) (hx : xs = ys) (hn : n = ys.length) : w.ownsRow base e 4 v ys.length (ivCs ys) := by subst hx; subst hn; exact h
/-- One element of two rows. -/
def TwoAt (g m o : Nat) (X : Iv) (w : World) : Prop := g < w.heap.size ∧ m < w.heap.size ∧ (w.cell? ⟨g, o, none⟩ = some (.int .i64 X.two) ∧ w.cell? ⟨g, o + 1, none⟩ = some (.int .i64 X.three) ∧ w.cell? ⟨g, o + 2, none⟩ = some (.int .i64 X.five) ∧ w.cell? ⟨g, o + 3, none⟩ = some (.int .i64 X.root)) ∧ (w.cell? ⟨m, o, none⟩ = some (.int .i64 X.two) ∧ w.cell? ⟨m, o + 1, none⟩ = some (.int .i64 X.three) ∧ w.cell? ⟨m, o + 2, none⟩ = some (.int .i64 X.five) ∧ w.cell? ⟨m, o + 3, none⟩ = some (.int .i64 X.root))
theorem twoAt_keep {W w : World} {g m o : Nat} {X : Iv} (hb : Below W.heap.size W w) (h : TwoAt g m o X W) : TwoAt g m o X w :=
  ⟨Nat.lt_of_lt_of_le h.1 hb.size, Nat.lt_of_lt_of_le h.2.1 hb.size, ⟨(hb.cell h.1).trans h.2.2.1.1, (hb.cell h.1).trans h.2.2.1.2.1, (hb.cell h.1).trans h.2.2.1.2.2.1, (hb.cell h.1).trans h.2.2.1.2.2.2⟩, ⟨(hb.cell h.2.1).trans h.2.2.2.1, (hb.cell h.2.1).trans h.2.2.2.2.1, (hb.cell h.2.1).trans h.2.2.2.2.2.1, (hb.cell h.2.1).trans h.2.2.2.2.2.2⟩⟩
theorem twoAt_drew {w : World} {g m o : Nat} {X : Iv} (h : TwoAt g m o X w) : TwoAt g m o X w.drew := h
theorem twoAt_cells {w : World} {g m o : Nat} {X : Iv} (h : TwoAt g m o X w) : w.cell? ⟨g, o, none⟩ = some (.int .i64 X.two) ∧ w.cell? ⟨g, o + 1, none⟩ = some (.int .i64 X.three) ∧ w.cell? ⟨g, o + 2, none⟩ = some (.int .i64 X.five) ∧ w.cell? ⟨g, o + 3, none⟩ = some (.int .i64 X.root) ∧ w.cell? ⟨m, o, none⟩ = some (.int .i64 X.two) ∧ w.cell? ⟨m, o + 1, none⟩ = some (.int .i64 X.three) ∧ w.cell? ⟨m, o + 2, none⟩ = some (.int .i64 X.five) ∧ w.cell? ⟨m, o + 3, none⟩ = some (.int .i64 X.root) := ⟨h.2.2.1.1, h.2.2.1.2.1, h.2.2.1.2.2.1, h.2.2.1.2.2.2, h.2.2.2⟩
set_option maxRecDepth 100000 in
set_option maxHeartbeats 2000000 in
theorem eqIvs_same (w : World) (b1 b2 : Nat) (e1 e2 : TypeId) (v1 v2 : Value) (xs : List Iv) (hx : xs.length ≤ 2000000) (h1 : w.ownsRow b1 e1 4 v1 xs.length (ivCs xs)) (h2 : w.ownsRow b2 e2 4 v2 xs.length (ivCs xs)) :
    Calls Tryd.prog 24 #[v1, v2] w fun en w' => en = .returned (.bool true) ∧ Below w.heap.size w w' := by
  obtain ⟨n, hn⟩ : ∃ n, n = xs.length := ⟨_, rfl⟩
  rw [← hn] at h1 h2 hx
  have HN := Lib.hid hn
  clear hn
  have t0 : ((n : Int) != (n : Int)) = false := by simp
  rcases Nat.eq_zero_or_pos n with h0 | h0
  · obtain ⟨p1, c1, rfl⟩ := own4_zero h1 h0
    obtain ⟨p2, c2, rfl⟩ := own4_zero h2 h0
    clear h1 h2
    go_enter Tryd.func24, Tryd.ntmps24
    go_wp2
    refine wp_loop_rounds 1 ?_
    rw [rounds_succ]
    go_wp2
    go_ret
    exact ⟨rfl, Below.refl _ _⟩
  · obtain ⟨g1, c1, rfl, _, l1⟩ := own4_pos h1 h0
    obtain ⟨g2, c2, rfl, _, l2⟩ := own4_pos h2 h0
    have H1 := Lib.hid h1
    have H2 := Lib.hid h2
    have L := Lib.hid (And.intro l1 l2)
    clear h1 h2 l1 l2
    go_enter Tryd.func24, Tryd.ntmps24
    go_wp2
    go_loopw [5] (fun i wr => ∃ k : Nat, k ≤ n ∧ i = .int .i64 (k : Int) ∧ Below w.heap.size w wr) (fun i _ => n - (intOf i).toNat)
    case atStart => exact ⟨0, Nat.zero_le _, rfl, Below.refl _ _⟩
    case round =>
      obtain ⟨k, hk, rfl, hb⟩ := hrel
      have HB := Lib.hid hb
      by_cases hlt : k < n
      · have q3 : (k : Int) < n := by omega
        obtain ⟨X, hX⟩ : ∃ X, X = ivAt xs k := ⟨_, rfl⟩
        have r1 := own_iv (own4_below H1.out hb) HN.out k hlt
        have r2 := own_iv (own4_below H2.out hb) HN.out k hlt
        rw [← hX] at r1 r2
        have TB : Hid (TwoAt g1 g2 (k * 4) X wr) := Lib.hid ⟨Nat.lt_of_lt_of_le L.out.1 hb.size, Nat.lt_of_lt_of_le L.out.2 hb.size, r1, r2⟩
        clear hX r1 r2 hb
        go_upto_region 6 with fail
        obtain ⟨W1, hW1⟩ : ∃ y, y = wr := ⟨_, rfl⟩
        rw [← hW1] at TB HB ⊢
        clear hW1
        go_region_held3 (fun w' => w'.cell? ⟨g1, k * 4, none⟩ = some (.int .i64 X.two) ∧ w'.cell? ⟨g1, k * 4 + 1, none⟩ = some (.int .i64 X.three) ∧ w'.cell? ⟨g1, k * 4 + 2, none⟩ = some (.int .i64 X.five) ∧ w'.cell? ⟨g1, k * 4 + 3, none⟩ = some (.int .i64 X.root) ∧ w'.cell? ⟨g2, k * 4, none⟩ = some (.int .i64 X.two) ∧ w'.cell? ⟨g2, k * 4 + 1, none⟩ = some (.int .i64 X.three) ∧ w'.cell? ⟨g2, k * 4 + 2, none⟩ = some (.int .i64 X.five) ∧ w'.cell? ⟨g2, k * 4 + 3, none⟩ = some (.int .i64 X.root)) (with_reducible first | exact twoAt_cells (twoAt_drew TB.out) | exact twoAt_cells (twoAt_keep (by assumption) TB.out) | exact twoAt_cells TB.out)
          (first
            | (go_at_call 27; refine (calls_fromS (W := W1) (by with_reducible first | assumption | exact (Below.refl _ _).drew) (eqInterval_same _ _ _ _ _)).mono ?_; rintro e1 w1 ⟨rfl, hb⟩))
        have R2 := HB.out.trans (hb.mono HB.out.size)
        clear hb TB HB
        go_wp2_with fail
        go_roundw
        case rel => exact ⟨k + 1, by omega, by go_num, R2⟩
        case measure => simp [intOf]; omega
      · have q3 : ¬ (k : Int) < n := by omega
        clear hb
        go_wp2_with fail
        go_ret
        exact ⟨rfl, HB.out⟩
end Go.Proofs.YtfhefakacjkmiaaDoor
