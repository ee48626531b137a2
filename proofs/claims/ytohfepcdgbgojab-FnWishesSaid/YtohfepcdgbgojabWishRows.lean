/- Rows of wishes (two ints each): laws.szWishS, toWish, toWishS, eqWish, eqWishS; a parameter that is a slice of wishes, opened. -/
import Derived.Test.YtohfepcdgbgojabNumBase
import Derived.Test.YtohfepcdgbgojabIntRows
import Derived.BigRegion
import Derived.Deep.RegionWith
import Derived.Deep.RegionHeld3
import Derived.Deep.DeepCutAuto
import Derived.Deep.Slices
import Derived.OpenShut
import Derived.Lib.SmallJoins
namespace Go.Proofs.Ytohfepcdgbgojab
open Go.RowKit Go.Joins Go.Deep Go.ChangeShapes Go.WideShapes
set_option linter.unusedVariables false
/-- A wish: a key and its least number. -/
structure Wi where
  key : Int
  least : Int
deriving DecidableEq
abbrev wiV (a b : Int) : Value := .agg #[.int .i64 a, .int .i64 b]
/-- The cells of a row of wishes. -/
def wiCs : List Wi → List Value
  | [] => []
  | x :: xs => .int .i64 x.key :: .int .i64 x.least :: wiCs xs
theorem wiCs_len : ∀ xs, (wiCs xs).length = xs.length * 2
  | [] => rfl
  | x :: xs => by unfold wiCs; simp only [List.length_cons, wiCs_len xs]; omega
def wiAt (xs : List Wi) (j : Nat) : Wi := xs.getD j ⟨0, 0⟩
theorem wiCs_get : ∀ (xs : List Wi) (j : Nat), j < xs.length → (wiCs xs)[j * 2]? = some (.int .i64 (wiAt xs j).key) ∧ (wiCs xs)[j * 2 + 1]? = some (.int .i64 (wiAt xs j).least)
  | [], j, h => by simp at h
  | x :: xs, 0, _ => by simp [wiCs, wiAt]
  | x :: xs, j + 1, h => by
    have ih := wiCs_get xs j (by simpa using h)
    have e : (j + 1) * 2 = j * 2 + 2 := by omega
    have ea : wiAt (x :: xs) (j + 1) = wiAt xs j := by simp [wiAt]
    unfold wiCs
    rw [e, ea]
    simpa [show j * 2 + 2 + 1 = j * 2 + 1 + 2 from by omega] using ih
section
variable {w : World} {base : Nat} {e : TypeId} {g n cap : Nat} {v : Value}
/-- The two cells of an element. -/
theorem own_wi {xs : List Wi} (h : w.ownsRow base e 2 (.slice (some ⟨g, 0, none⟩) n cap) n (wiCs xs)) (hn : n = xs.length) (j : Nat) (hj : j < n) : w.cell? ⟨g, j * 2, none⟩ = some (.int .i64 (wiAt xs j).key) ∧ w.cell? ⟨g, j * 2 + 1, none⟩ = some (.int .i64 (wiAt xs j).least) := by
  have k := wiCs_get xs j (by omega)
  exact ⟨(h.cellAt (j * 2) (by omega)).trans k.1, (h.cellAt (j * 2 + 1) (by omega)).trans k.2⟩
theorem ownW_shape {xs : List Value} (h : w.ownsRow base e 2 v n xs) : (v = .slice none 0 0 ∧ n = 0) ∨ ∃ g cap, v = .slice (some ⟨g, 0, none⟩) n cap ∧ base ≤ g ∧ g < w.heap.size := by
  rcases h.2 with h1 | ⟨g, cap, cur, hv, hb, hg, _⟩
  · exact .inl h1
  · exact .inr ⟨g, cap, hv, hb, lt_of_block hg⟩
theorem ownW_zero {xs : List Value} (h : w.ownsRow base e 2 v n xs) (h0 : n = 0) : ∃ p c, v = .slice p 0 c := by
  rcases ownW_shape h with ⟨rfl, _⟩ | ⟨g, cap, rfl, _⟩
  · exact ⟨_, _, rfl⟩
  · exact ⟨_, _, by rw [h0]⟩
theorem ownW_pos {xs : List Value} (h : w.ownsRow base e 2 v n xs) (h0 : 0 < n) : ∃ g cap, v = .slice (some ⟨g, 0, none⟩) n cap ∧ base ≤ g ∧ g < w.heap.size := by
  rcases ownW_shape h with ⟨_, h'⟩ | h'
  · omega
  · exact h'
theorem ownW_slice {xs : List Value} (h : w.ownsRow base e 2 v n xs) : ∃ p c, v = .slice p n c := by
  rcases ownW_shape h with ⟨rfl, h0⟩ | ⟨g, cap, rfl, _⟩
  · exact ⟨_, _, by rw [h0]⟩
  · exact ⟨_, _, rfl⟩
theorem ownW_below {w' : World} {xs : List Value} (h : w.ownsRow base e 2 v n xs) (hb : Below w.heap.size w w') : w'.ownsRow base e 2 v n xs := by
  refine h.kept (grown_of_below hb) ?_
  cases v.ownBlock
  · exact .inl rfl
  · exact .inr (by simp)
end
/-- A slice of wishes that came in, as it is read. -/
def WiRow (W : World) (a : Option Addr) (len : Nat) (xs : List Wi) : Prop := xs.length = len ∧ len ≤ 9223372036854775807 ∧ ∀ i, i < len → ∃ g off, a = some ⟨g, off, none⟩ ∧ g < W.heap.size ∧ W.cell? ⟨g, off + i * 2, none⟩ = some (.int .i64 (wiAt xs i).key) ∧ W.cell? ⟨g, off + i * 2 + 1, none⟩ = some (.int .i64 (wiAt xs i).least)
theorem wiRow_below {W w : World} {a : Option Addr} {len : Nat} {xs : List Wi} (h : WiRow W a len xs) (hb : Below W.heap.size W w) : WiRow w a len xs := by
  refine ⟨h.1, h.2.1, fun i hi => ?_⟩
  obtain ⟨g, off, ha, hg, h0, h1⟩ := h.2.2 i hi
  exact ⟨g, off, ha, Nat.lt_of_lt_of_le hg hb.size, (hb.cell hg).trans h0, (hb.cell hg).trans h1⟩
theorem add_noneW (g off i : Nat) : (⟨g, off, none⟩ : Addr).add i = ⟨g, off + i, none⟩ := by unfold Addr.add; split <;> simp_all
theorem open_wishes {H : Type} {enc : TypeId × Value → H} {P : Program} {W : World} {base : Nat} {spare : Nat → Bool} {held : Bool} {t e : TypeId} {f0 f1 : Field} {a : Option Addr} {len cap : Nat} {d : DataW H} {p : List MemPlace}
    (ht : P.underlying t = some (.slice e)) (he : P.underlying e = some (.struct #[f0, f1])) (hone : oneCellFields P #[f0, f1] = true) (hC : P.cellsOf e = 2)
    (i0 : P.underlying f0.type = some (.int .i64)) (i1 : P.underlying f1.type = some (.int .i64))
    (h : DataW.Trod enc P W base spare held t (.slice a len cap) d p) : ∃ xs, WiRow W a len xs := by
  obtain ⟨fuel, hf⟩ := h
  rcases open_slice ht hf with ⟨hcs, _⟩ | ⟨x, l, c, m, n, D, Pl, hcs, hb, hl, hm, hmm, _, hx⟩
  · simp [Value.cells] at hcs
    obtain ⟨rfl, rfl, rfl⟩ := hcs
    exact ⟨[], rfl, by omega, fun i hi => by omega⟩
  · simp [Value.cells] at hcs
    obtain ⟨rfl, rfl, rfl⟩ := hcs
    have hlm : len ≤ m := by rw [hmm]; split <;> omega
    have each : ∀ i, i < len → ∃ X : Wi, ∃ g off, x = ⟨g, off, none⟩ ∧ g < W.heap.size ∧ W.cell? ⟨g, off + i * 2, none⟩ = some (.int .i64 X.key) ∧ W.cell? ⟨g, off + i * 2 + 1, none⟩ = some (.int .i64 X.least) := by
      intro i hi
      obtain ⟨cs', h1, h2⟩ := hx i (by omega)
      rw [hC] at h1
      obtain ⟨_, hlen, hcell⟩ := World.cells?_some h1
      obtain ⟨y0, y1, k, _, _, g0, g1⟩ := trod_struct2 he h2
      obtain ⟨o0, k0⟩ := hone_of hone 0 f0 rfl
      obtain ⟨o1, k1⟩ := hone_of hone 1 f1 rfl
      match cs', hlen with
      | [v0, v1], _ =>
        simp [o0, k0] at g0
        simp [o1, k1] at g1
        obtain ⟨z0, e0, _, _⟩ := DataW.trod_int i0 g0
        obtain ⟨z1, e1, _, _⟩ := DataW.trod_int i1 g1
        simp only [List.cons.injEq, and_true] at e0 e1
        subst e0 e1
        have c0 := hcell 0 (by omega)
        have c1 := hcell 1 (by omega)
        obtain ⟨g, off, sp⟩ := x
        have hsp : sp = none := by
          obtain ⟨cs2, k1', _⟩ := hx 0 (by omega)
          rw [hC] at k1'
          obtain ⟨_, hlen2, hcell2⟩ := World.cells?_some k1'
          have c9 := hcell2 0 (by omega)
          match cs2, hlen2 with
          | [u0, u1], _ => simpa [Addr.add] using World.cell?_spot (c9.trans rfl)
        subst hsp
        rw [add_noneW, add_noneW] at c0 c1
        have hlt : g < W.heap.size := by
          rcases Nat.lt_or_ge g W.heap.size with h' | h'
          · exact h'
          · simp [World.cell?, Array.getElem?_eq_none h'] at c0
        exact ⟨⟨z0, z1⟩, g, off, rfl, hlt, by simpa using c0, by simpa using c1⟩
    have : Inhabited Wi := ⟨⟨0, 0⟩⟩
    obtain ⟨f, hfx⟩ := choose_lt each
    refine ⟨(List.range len).map f, by simp, by unfold maxLen at hm; omega, fun i hi => ?_⟩
    obtain ⟨g, off, ha, hg, q0, q1⟩ := hfx i hi
    have hfi : wiAt ((List.range len).map f) i = f i := by simp [wiAt, hi]
    rw [hfi]
    exact ⟨g, off, by rw [ha], hg, q0, q1⟩
theorem infoWi : (Try.prog.info? 76).map (fun i => (i.zero, i.size, i.bytes)) = some (some (wiV 0 0), 2, 16) := by kernel_rfl
theorem info_partsW {P : Program} {t : TypeId} {z : Value} {n b : Nat} (h : (P.info? t).map (fun i => (i.zero, i.size, i.bytes)) = some (some z, n, b)) : ∃ i, P.info? t = some i ∧ i.zero = some z ∧ i.size = n ∧ i.bytes = b := by
  obtain ⟨i, h1, h2⟩ := Option.map_eq_some_iff.1 h
  simp only [Prod.mk.injEq] at h2
  exact ⟨i, h1, h2.1, h2.2.1, h2.2.2⟩
theorem made2 (z : Value) (m : Nat) : (madeCells #[z, z] m).toList = List.replicate m z := by
  rw [List.eq_replicate_iff]
  refine ⟨by simp [madeCells], fun b hb => ?_⟩
  simp only [madeCells, Array.toList_map, List.mem_map] at hb
  obtain ⟨j, _, rfl⟩ := hb
  rcases (show j % 2 = 0 ∨ j % 2 = 1 from by omega) with h | h
  all_goals (show #[z, z][j % 2]! = z; rw [h]; rfl)
theorem wiCs_rep : ∀ n, wiCs (List.replicate n ⟨0, 0⟩) = List.replicate (n * 2) (.int .i64 0)
  | 0 => rfl
  | n + 1 => by
    rw [List.replicate_succ, show (n + 1) * 2 = n * 2 + 1 + 1 from by omega, List.replicate_succ, List.replicate_succ]
    unfold wiCs
    rw [wiCs_rep n]
theorem wiCs_set : ∀ (xs : List Wi) (k : Nat) (x : Wi), k < xs.length → ((wiCs xs).set (k * 2) (.int .i64 x.key)).set (k * 2 + 1) (.int .i64 x.least) = wiCs (xs.set k x)
  | [], k, x, h => by simp at h
  | y :: xs, 0, x, _ => by simp [wiCs]
  | y :: xs, k + 1, x, h => by
    have ih := wiCs_set xs k x (by simpa using h)
    rw [List.set_cons_succ]
    unfold wiCs
    rw [← ih, show (k + 1) * 2 = k * 2 + 1 + 1 from by omega]
    simp only [List.set_cons_succ]
def copiedWi (xs : List Wi) (k n : Nat) : List Wi := xs.take k ++ List.replicate (n - k) ⟨0, 0⟩
theorem copiedWi_len (xs : List Wi) (k n : Nat) (h : k ≤ n) (hx : xs.length = n) : (copiedWi xs k n).length = n := by simp [copiedWi]; omega
theorem copiedWi_set (xs : List Wi) (k n : Nat) (h : k < n) (hx : xs.length = n) : (copiedWi xs k n).set k (wiAt xs k) = copiedWi xs (k + 1) n := by
  unfold copiedWi
  have e : (xs.take k).length = k := by simp; omega
  have e4 : xs.take (k + 1) = xs.take k ++ [wiAt xs k] := by rw [List.take_succ_eq_append_getElem (by omega)]; congr 1; simp [wiAt, List.getElem?_eq_getElem (show k < xs.length by omega)]
  rw [List.set_append_right _ _ (by omega), e, Nat.sub_self, show n - k = (n - (k + 1)) + 1 from by omega, List.replicate_succ, List.set_cons_zero, e4, List.append_assoc]
  rfl
/-- What makes a row of wishes leaves. -/
def OwnWi (xs : List Wi) (w : World) (e : Ending) (w' : World) : Prop := ∃ v, e = .returned v ∧ w'.ownsRow w.heap.size 76 2 v xs.length (wiCs xs) ∧ Below w.heap.size w w'
theorem ownWi_eq {w : World} {base : Nat} {e : TypeId} {v : Value} {n : Nat} {xs ys : List Wi} (h : w.ownsRow base e 2 v n (wiCs xs)) (hx : xs = ys) (hn : n = ys.length) : w.ownsRow base e 2 v ys.length (wiCs ys) := by subst hx; subst hn; exact h
theorem szWi_any (a : Option Addr) (len cap : Nat) (z : Int) (hz : 0 ≤ z ∧ z ≤ 1048576) (w : World) (hl : len ≤ 9223372036854775807) :
    Calls Try.prog 25 #[.slice a len cap, .int .i64 z] w fun e w' => e = .returned (.int .i64 (if z < len then -1 else z - (len : Int))) ∧ w = w' := by
  by_cases h : z < (len : Int)
  · rw [if_pos h]
    have t0 : z - (len : Int) < 0 := by omega
    have Y := Lib.hid h
    clear h
    go_enter Try.func25, Try.ntmps25
    go_wp2
    go_ret
    exact ⟨rfl, rfl⟩
  · rw [if_neg h]
    have t0 : ¬ z - (len : Int) < 0 := by omega
    have Y := Lib.hid h
    have hl2 : len ≤ 1048576 := by omega
    clear h
    go_enter Try.func25, Try.ntmps25
    go_wp2
    go_ret
    exact ⟨rfl, rfl⟩
theorem toWish_any (a b : Int) (w : World) :
    Calls Try.prog 67 #[wiV a b] w fun e w' => e = .returned (wiV a b) ∧ Below w.heap.size w w' := by
  go_enter Try.func67, Try.ntmps67
  go_wp2
  refine bodyPost_ret (v := wiV a b) (by simp [results, Try.results67, go_sem]) rfl ⟨rfl, ?_⟩
  exact below_alloc3 _ _ _ _
theorem eqWish_same (a b : Int) (w : World) :
    Calls Try.prog 68 #[wiV a b, wiV a b] w fun e w' => e = .returned (.bool true) ∧ Below w.heap.size w w' := by
  go_enter Try.func68, Try.ntmps68
  go_wp2
  go_ret
  exact ⟨rfl, below_alloc2 _ _ _⟩
set_option maxRecDepth 100000 in
set_option maxHeartbeats 2000000 in
theorem toWis_any (w : World) (a : Option Addr) (len cap : Nat) (xs : List Wi) (hr : WiRow w a len xs) (hl : len ≤ 1048576) :
    Calls Try.prog 28 #[.slice a len cap] w (OwnWi xs w) := by
  obtain ⟨i0, hi, hz0, hz1, hz2⟩ := info_partsW infoWi
  have HL := Lib.hid hr.1
  have HR := Lib.hid hr
  clear hr
  go_enter Try.func28, Try.ntmps28
  go_wp2_with (at_make; refine wpList_make_full _ rfl _ _ 32 rfl w.heap.size 76 i0 (wiV 0 0) 2 Try.underlying32 hi hz0 hz1 _ _ _ _ len rfl rfl rfl rfl (by rw [hz2]; omega) (by unfold maxLen; omega) (Nat.le_refl _) ?_; intro w1 hown1 hgrow1)
  go_loopw [4] (fun i wr => ∃ k : Nat, k ≤ len ∧ i = .int .i64 k ∧ wr.ownsRow w.heap.size 76 2 (.slice (some ⟨w.heap.size, 0, none⟩) len len) len (wiCs (copiedWi xs k len)) ∧ Below w.heap.size w wr) (fun i _ => len - (intOf i).toNat)
  case atStart =>
    refine ⟨0, Nat.zero_le _, rfl, ?_, (Below.refl _ _).grown hgrow1 (Nat.le_refl _) (by simp)⟩
    rw [show copiedWi xs 0 len = List.replicate len ⟨0, 0⟩ from by simp [copiedWi], wiCs_rep, ← made2]
    exact hown1
  case round =>
    obtain ⟨k, hk, rfl, hown, hb⟩ := hrel
    clear hown1 hgrow1
    by_cases hlt : k < len
    · have q3 : (k : Int) < len := by omega
      obtain ⟨g, off, rfl, hg, h0, h1⟩ := HR.out.2.2 k hlt
      obtain ⟨X, hX⟩ : ∃ X, X = wiAt xs k := ⟨_, rfl⟩
      rw [← hX] at h0 h1
      have q0 := (hb.cell (p := ⟨g, off + k * 2, none⟩) hg).trans h0
      have q1 := (hb.cell (p := ⟨g, off + k * 2 + 1, none⟩) hg).trans h1
      have HXX := Lib.hid hX
      have HO := Lib.hid hown
      have HB := Lib.hid hb
      clear h0 h1 hX hown hb
      go_wp2_with fail
      refine (toWish_any _ _ _).mono ?_
      rintro en w2 ⟨rfl, hb2⟩
      have hown := ownW_below HO.out hb2
      have bb := HB.out.trans (hb2.mono HB.out.size)
      have hcl : (copiedWi xs k len).length = len := copiedWi_len xs k len (by omega) HL.out
      obtain ⟨c0, c1⟩ := own_wi hown hcl.symm k hlt
      have f0 := hown.frozenAt (k * 2)
      have f1 := hown.frozenAt (k * 2 + 1)
      have R1 := ((hown.stored (k * 2) (.int .i64 X.key)).1.stored (k * 2 + 1) (.int .i64 X.least)).1
      rw [wiCs_set _ k X (by omega)] at R1
      have R3 : Hid ((copiedWi xs k len).set k X = copiedWi xs (k + 1) len) := Lib.hid (by rw [HXX.out]; exact copiedWi_set xs k len hlt HL.out)
      rw [R3.out] at R1
      have R2 := (bb.setCell (p := ⟨w.heap.size, k * 2, none⟩) (Nat.le_refl _) (.int .i64 X.key)).setCell (p := ⟨w.heap.size, k * 2 + 1, none⟩) (Nat.le_refl _) (.int .i64 X.least)
      generalize wiAt (copiedWi xs k len) k = Y at c0 c1
      clear hown bb hb2 q0 q1 hcl R3 HO HB
      go_wp2
      go_roundw
      case rel => exact ⟨k + 1, by omega, by go_num, R1, R2⟩
      case measure => simp [intOf]; omega
    · obtain rfl : k = len := by omega
      have q3 : ¬ (k : Int) < k := by omega
      have R1 := ownWi_eq (ys := xs) hown (by simp [copiedWi, ← HL.out]) HL.out.symm
      clear hown
      go_wp2
      go_ret
      exact ⟨_, rfl, R1, hb⟩
/-- One element of two rows. -/
def TwoWi (g m o : Nat) (X : Wi) (w : World) : Prop := g < w.heap.size ∧ m < w.heap.size ∧ (w.cell? ⟨g, o, none⟩ = some (.int .i64 X.key) ∧ w.cell? ⟨g, o + 1, none⟩ = some (.int .i64 X.least)) ∧ (w.cell? ⟨m, o, none⟩ = some (.int .i64 X.key) ∧ w.cell? ⟨m, o + 1, none⟩ = some (.int .i64 X.least))
theorem twoWi_keep {W w : World} {g m o : Nat} {X : Wi} (hb : Below W.heap.size W w) (h : TwoWi g m o X W) : TwoWi g m o X w :=
  ⟨Nat.lt_of_lt_of_le h.1 hb.size, Nat.lt_of_lt_of_le h.2.1 hb.size, ⟨(hb.cell h.1).trans h.2.2.1.1, (hb.cell h.1).trans h.2.2.1.2⟩, ⟨(hb.cell h.2.1).trans h.2.2.2.1, (hb.cell h.2.1).trans h.2.2.2.2⟩⟩
theorem twoWi_cells {w : World} {g m o : Nat} {X : Wi} (h : TwoWi g m o X w) : w.cell? ⟨g, o, none⟩ = some (.int .i64 X.key) ∧ w.cell? ⟨g, o + 1, none⟩ = some (.int .i64 X.least) ∧ w.cell? ⟨m, o, none⟩ = some (.int .i64 X.key) ∧ w.cell? ⟨m, o + 1, none⟩ = some (.int .i64 X.least) := ⟨h.2.2.1.1, h.2.2.1.2, h.2.2.2⟩
theorem calls_fromW {P : Program} {k : FuncId} {args : Array Value} {W w : World} {v : Value} (h : Below W.heap.size W w) (hk : Calls P k args w fun e w' => e = .returned v ∧ Below w.heap.size w w') :
    Calls P k args w fun e w' => e = .returned v ∧ Below W.heap.size W w' :=
  hk.mono fun _ _ ⟨he, hb⟩ => ⟨he, h.trans (hb.mono h.size)⟩
set_option maxRecDepth 100000 in
set_option maxHeartbeats 2000000 in
theorem eqWis_same (w : World) (b1 b2 : Nat) (e1 e2 : TypeId) (v1 v2 : Value) (xs : List Wi) (hx : xs.length ≤ 2000000) (h1 : w.ownsRow b1 e1 2 v1 xs.length (wiCs xs)) (h2 : w.ownsRow b2 e2 2 v2 xs.length (wiCs xs)) :
    Calls Try.prog 30 #[v1, v2] w fun en w' => en = .returned (.bool true) ∧ Below w.heap.size w w' := by
  obtain ⟨n, hn⟩ : ∃ n, n = xs.length := ⟨_, rfl⟩
  rw [← hn] at h1 h2 hx
  have HN := Lib.hid hn
  clear hn
  have t0 : ((n : Int) != (n : Int)) = false := by simp
  rcases Nat.eq_zero_or_pos n with h0 | h0
  · obtain ⟨p1, c1, rfl⟩ := ownW_zero h1 h0
    obtain ⟨p2, c2, rfl⟩ := ownW_zero h2 h0
    clear h1 h2
    go_enter Try.func30, Try.ntmps30
    go_wp2
    refine wp_loop_rounds 1 ?_
    rw [rounds_succ]
    go_wp2
    go_ret
    exact ⟨rfl, Below.refl _ _⟩
  · obtain ⟨g1, c1, rfl, _, l1⟩ := ownW_pos h1 h0
    obtain ⟨g2, c2, rfl, _, l2⟩ := ownW_pos h2 h0
    have H1 := Lib.hid h1
    have H2 := Lib.hid h2
    have L := Lib.hid (And.intro l1 l2)
    clear h1 h2 l1 l2
    go_enter Try.func30, Try.ntmps30
    go_wp2
    go_loopw [5] (fun i wr => ∃ k : Nat, k ≤ n ∧ i = .int .i64 (k : Int) ∧ Below w.heap.size w wr) (fun i _ => n - (intOf i).toNat)
    case atStart => exact ⟨0, Nat.zero_le _, rfl, Below.refl _ _⟩
    case round =>
      obtain ⟨k, hk, rfl, hb⟩ := hrel
      have HB := Lib.hid hb
      by_cases hlt : k < n
      · have q3 : (k : Int) < n := by omega
        obtain ⟨X, hX⟩ : ∃ X, X = wiAt xs k := ⟨_, rfl⟩
        have r1 := own_wi (ownW_below H1.out hb) HN.out k hlt
        have r2 := own_wi (ownW_below H2.out hb) HN.out k hlt
        rw [← hX] at r1 r2
        have TB : Hid (TwoWi g1 g2 (k * 2) X wr) := Lib.hid ⟨Nat.lt_of_lt_of_le L.out.1 hb.size, Nat.lt_of_lt_of_le L.out.2 hb.size, r1, r2⟩
        clear hX r1 r2 hb
        go_upto_region 6 with fail
        obtain ⟨W1, hW1⟩ : ∃ y, y = wr := ⟨_, rfl⟩
        rw [← hW1] at TB HB ⊢
        clear hW1
        go_region_held3 (fun w' => w'.cell? ⟨g1, k * 2, none⟩ = some (.int .i64 X.key) ∧ w'.cell? ⟨g1, k * 2 + 1, none⟩ = some (.int .i64 X.least) ∧ w'.cell? ⟨g2, k * 2, none⟩ = some (.int .i64 X.key) ∧ w'.cell? ⟨g2, k * 2 + 1, none⟩ = some (.int .i64 X.least)) (with_reducible first | exact twoWi_cells (twoWi_keep (Below.refl _ _).drew TB.out) | exact twoWi_cells (twoWi_keep (by assumption) TB.out) | exact twoWi_cells TB.out)
          (first
            | (go_at_call 68; refine (calls_fromW (W := W1) (by with_reducible first | assumption | exact (Below.refl _ _).drew) (eqWish_same _ _ _)).mono ?_; rintro e1 w1 ⟨rfl, hb⟩))
        have R2 := HB.out.trans (hb.mono HB.out.size)
        clear hb TB HB
        go_wp2_with fail
        go_roundw
        case rel => exact ⟨k + 1, by omega, by go_num, R2⟩
        case measure => simp [intOf]; omega
      · have q3 : ¬ (k : Int) < n := by omega
        clear hb
        go_wp2_with fail
        go_ret
        exact ⟨rfl, HB.out⟩
end Go.Proofs.Ytohfepcdgbgojab
