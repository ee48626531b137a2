/- Contracts of slices.Clone and sortedBy at intervals, and of impl.ChainOf. -/
import Derived.Test.YtdnlebijmiaclabDoorStable
import Derived.Test.YtdnlebijmiaclabDoorFifMath
import Derived.Deep.AppendLies
import Derived.Test.YtdnlebijmiaclabDoorIvOpen
namespace Go.Proofs.YtdnlebijmiaclabDoor
open Go.RowKit Go.Joins
set_option linter.unusedVariables false
/-- A row of intervals that lies somewhere, read cell by cell. -/
def RowAt (g n cap : Nat) (xs : List Iv) (w : World) : Prop := xs.length = n ∧ g < w.heap.size ∧ ∀ j u, (ivCs xs)[j]? = some u → w.cell? ⟨g, j, none⟩ = some u
theorem ivCs_one : ∀ xs, ∀ u ∈ ivCs xs, u.oneCell' = true
  | [], u, h => by simp [ivCs] at h
  | x :: xs, u, h => by
    unfold ivCs at h
    rcases List.mem_cons.1 h with rfl | h; · rfl
    rcases List.mem_cons.1 h with rfl | h; · rfl
    rcases List.mem_cons.1 h with rfl | h; · rfl
    rcases List.mem_cons.1 h with rfl | h; · rfl
    exact ivCs_one xs u h
theorem ivCs_app : ∀ xs ys, ivCs (xs ++ ys) = ivCs xs ++ ivCs ys
  | [], ys => rfl
  | x :: xs, ys => by simp only [List.cons_append, ivCs, ivCs_app xs ys]
theorem own_rowAt {w : World} {B : Nat} {e : TypeId} {g n cap : Nat} {xs : List Iv} (hx : xs.length = n) (h : w.ownsRow B e 4 (.slice (some ⟨g, 0, none⟩) n cap) n (ivCs xs)) (hg : g < w.heap.size) : RowAt g n cap xs w := by
  refine ⟨hx, hg, fun j u hu => ?_⟩
  have := h.cells rfl j u hu
  rw [add_none, Nat.zero_add] at this
  exact this
set_option maxRecDepth 100000 in
set_option maxHeartbeats 2000000 in
theorem clone_run {g n cap : Nat} {xs : List Iv} (hn0 : 0 < n) (hn : n ≤ 1000000) (w : World) (h : RowAt g n cap xs w) :
    Calls Tryd.prog 88 #[.slice (some ⟨g, 0, none⟩) n cap] w fun e w' => (∃ g' cap', e = .returned (.slice (some ⟨g', 0, none⟩) n cap') ∧ w'.ownsRow w.heap.size 25 4 (.slice (some ⟨g', 0, none⟩) n cap') n (ivCs xs)) ∧ Below w.heap.size w w' := by
  obtain ⟨i0, hi, hz0, hz1, hz2⟩ := info_parts4 infoIv
  obtain ⟨hx, hg, hc⟩ := h
  have HC := Lib.hid hc
  have HG := Lib.hid hg
  have HX := Lib.hid hx
  clear hc hg hx
  go_enter Tryd.func88, Tryd.ntmps88
  have hne : ∀ W : World, (binOp .eql 34 (.slice (some ⟨g, 0, none⟩) n cap) (.slice none 0 0)).run Tryd.prog W = .ok (.bool false) W := fun W => by kernel_rfl
  have OL := Lib.hid (World.ownsRow_lit (base := w.heap.size) (e := 25) (size := 4) w #[] 0 (Nat.le_refl _) (by unfold maxLen; omega) rfl)
  have HC2 := Lib.hid (fun j u (hj : (ivCs xs)[j]? = some u) => ((Below.refl _ w).alloc (Nat.le_refl _) (.cells #[] 25)).cell (p := ⟨g, j, none⟩) HG.out |>.trans (HC.out j u hj))
  go_wp2_with (at_builtin; refine wpList_append_lies _ rfl (.tmp 5) (.tmp 6) 34 rfl w.heap.size 25 i0 (ivV 0 0 0 0) 4 32 Tryd.underlying34 hi hz0 hz1 hz2 rfl (by decide) _ 0 _ rfl OL.out ⟨g, 0, none⟩ n cap (ivCs xs) rfl (by rw [ivCs_len, HX.out]) (fun j u hu => by rw [add_none, Nat.zero_add]; exact HC2.out j u hu) (ivCs_one xs) hn0 (by unfold maxLen; omega) (by omega) (by simp) _ rfl ?_; intro g1 cap1 w1 hown' hgrow hat hgt)
  go_ret
  refine ⟨⟨g1, cap1, rfl, ?_⟩, ((Below.refl _ w).alloc (Nat.le_refl _) _).grown hgrow (by simp) (fun j hj => by cases hj; exact Nat.le_refl _)⟩
  have := hown'
  rw [Nat.zero_add] at this
  exact this
theorem own_rebase {w : World} {b b' : Nat} {e : TypeId} {size : Nat} {v : Value} {n : Nat} {xs : List Value} (h : w.ownsRow b' e size v n xs) (hb : b ≤ b') : w.ownsRow b e size v n xs := by
  refine ⟨h.1, ?_⟩
  rcases h.2 with h1 | ⟨g, cap, cur, h1, h2, h3⟩
  · exact .inl h1
  · exact .inr ⟨g, cap, cur, h1, Nat.le_trans hb h2, h3⟩
theorem senAt_lt {A : Addr} {w : World} (h : SenAt A w) : 0 < w.heap.size := by
  rcases Nat.lt_or_ge 0 w.heap.size with q | q
  · exact q
  · unfold SenAt World.cell? at h
    rw [Array.getElem?_eq_none q] at h
    simp at h
/-- A sorted copy. -/
def SortedCopy (key : Iv → Int) (n : Nat) (f : Nat → Iv) (w : World) (e : Ending) (w' : World) : Prop :=
  ∃ g' cap' f', e = .returned (.slice (some ⟨g', 0, none⟩) n cap') ∧ w'.ownsRow w.heap.size 25 4 (.slice (some ⟨g', 0, none⟩) n cap') n (ivCs (rowL n f')) ∧ MV 0 n f f' ∧ AscF key 0 n f' ∧ Below w.heap.size w w'
theorem clone_at {key : Iv → Int} {g n cap : Nat} {f : Nat → Iv} (hn0 : 0 < n) (hn : n ≤ 1000000) (w : World) (h : RowAt g n cap (rowL n f) w) :
    Calls Tryd.prog 88 #[.slice (some ⟨g, 0, none⟩) n cap] w fun e w' => ∃ g' cap', e = .returned (.slice (some ⟨g', 0, none⟩) n cap') ∧ Srt w w.heap.size g' cap' n f w' :=
  (clone_run hn0 hn w h).mono fun e w' ⟨⟨g', cap', he, ho⟩, hb⟩ => ⟨g', cap', he, ho, hb, Nat.le_refl _⟩
set_option maxRecDepth 100000 in
theorem sortedBy_run {A : Addr} {key : Iv → Int} {g n cap : Nat} {f : Nat → Iv} (hn0 : 0 < n) (hn : n < 80) (hk : Keyd key n f) (w : World) (hs : SenAt A w) (h : RowAt g n cap (rowL n f) w) :
    Calls Tryd.prog 66 #[.slice (some ⟨g, 0, none⟩) n cap, .func (.func 17) #[] #[]] w (SortedCopy key n f w) := by
  have C := Lib.hid (clone_at (key := key) hn0 (by omega) w h)
  have HS := Lib.hid hs
  have HL := Lib.hid (senAt_lt hs)
  have HK := Lib.hid hk
  clear hs h hk
  go_enter Tryd.func66, Tryd.ntmps66
  go_wp2_with fail
  refine C.out.mono ?_
  rintro en w2 ⟨g', cap', rfl, h2⟩
  have H2 := Lib.hid h2
  clear h2
  go_wp2_with fail
  refine (sortStable_run HS.out HL.out hn HK.out _ H2.out).mono ?_
  rintro en w3 ⟨rfl, f', v, a, h3⟩
  have H3 := Lib.hid h3
  have V := Lib.hid v
  have AS := Lib.hid a
  clear h3 v a
  go_wp2_with fail
  go_ret
  exact ⟨g', cap', f', rfl, H3.out.1, V.out, AS.out, H3.out.2.1⟩
theorem rowL_snoc (k : Nat) (f : Nat → Iv) : rowL (k + 1) f = rowL k f ++ [f k] := by
  unfold rowL
  rw [List.range_succ, List.map_append]
  rfl
theorem row_snoc {w : World} {B g cap k : Nat} {e : TypeId} {f : Nat → Iv} (h : w.ownsRow B e 4 (.slice (some ⟨g, 0, none⟩) (k + 1) cap) (k + 1) (ivCs (rowL k f) ++ [.int .i64 (f k).two, .int .i64 (f k).three, .int .i64 (f k).five, .int .i64 (f k).root])) : w.ownsRow B e 4 (.slice (some ⟨g, 0, none⟩) (k + 1) cap) (k + 1) (ivCs (rowL (k + 1) f)) := by
  rw [rowL_snoc, ivCs_app]
  exact h
/-- What ChainOf answers: nothing, or the chain in ascending order, in memory of its own. -/
def ChainAt (low high : Int) (w : World) (e : Ending) (w' : World) : Prop :=
  (∃ v, e = .returned v ∧ ((¬ (-30 ≤ low ∧ low ≤ high ∧ high ≤ 30) ∧ w'.ownsRow w.heap.size 25 4 v 0 []) ∨
    ((-30 ≤ low ∧ low ≤ high ∧ high ≤ 30) ∧ ∃ (n : Nat) (f : Nat → Iv), (n : Int) = high - low + 1 ∧ MV 0 n (chainF low) f ∧ AscF keyV 0 n f ∧ w'.ownsRow w.heap.size 25 4 v n (ivCs (rowL n f))))) ∧ Below w.heap.size w w'
set_option maxRecDepth 100000 in
set_option maxHeartbeats 4000000 in
theorem chain_impl (A : Addr) (low high : Int) (w : World) (hs : SenAt A w) :
    Calls Tryd.prog 40 #[.int .i64 low, .int .i64 high] w (ChainAt low high w) := by
  by_cases hv : -30 ≤ low ∧ low ≤ high ∧ high ≤ 30
  · have HV := Lib.hid hv
    obtain ⟨v1, v2, v3⟩ := hv
    obtain ⟨n, hn⟩ : ∃ n : Nat, (n : Int) = high - low + 1 := ⟨(high - low + 1).toNat, by omega⟩
    have c1 : ¬ high < low := by omega
    have c2 : ¬ low < -30 := by omega
    have c3 : ¬ 30 < high := by omega
    have HN := Lib.hid hn
    have HS := Lib.hid hs
    obtain ⟨i0, hi, hz0, hz1, hz2⟩ := info_parts4 infoIv
    clear hn hs
    go_enter Tryd.func40, Tryd.ntmps40
    go_wp2_with fail
    go_loopw [5, 6] (fun v i wr => ∃ (k : Nat), k ≤ n ∧ i = .int .i64 (low + (k : Int)) ∧ Hid (wr.ownsRow w.heap.size 25 4 v k (ivCs (rowL k (chainF low)))) ∧ Hid (Below w.heap.size w wr)) (fun _ i _ => (high + 1 - intOf i).toNat)
    case atStart => exact ⟨0, Nat.zero_le _, by go_num, World.ownsRow_nil _ _ _ _, Below.refl _ _⟩
    case round =>
      obtain ⟨k, hk, rfl, HO, HB⟩ := hrel
      by_cases hlt : low + (k : Int) ≤ high
      · have hkn : k < n := by have := HN.out; omega
        obtain ⟨X, hX⟩ : ∃ X, X = fifV (low + (k : Int)) := ⟨_, rfl⟩
        have FA : FifAt (low + (k : Int)) X.two X.three X.five X.root true := by rw [hX]; exact fif_at (by omega)
        have HX := Lib.hid hX
        clear hX
        go_wp2_with fail
        refine (fifths_impl FA _).mono ?_
        rintro en w2 ⟨rfl, hb2⟩
        have B2 := Lib.hid (HB.out.trans (hb2.mono HB.out.size))
        have O2 := Lib.hid (own4_below HO.out hb2)
        clear hb2 HO HB FA
        go_upto_region 8 with fail
        obtain ⟨W3, hW3⟩ : ∃ y, y = w2.alloc (.cells #[.int .i64 X.two, .int .i64 X.three, .int .i64 X.five, .int .i64 X.root] 25) := ⟨_, rfl⟩
        have g3 : Four w2.heap.size X.two X.three X.five X.root W3 := by rw [hW3]; exact four_alloc
        have b3 : Below w2.heap.size w2 W3 := by rw [hW3]; exact below_alloc1 w2 _
        have O3 := Lib.hid (own4_below O2.out b3)
        have B3 := Lib.hid (B2.out.trans (b3.mono B2.out.size))
        rw [← hW3]
        obtain ⟨m, hm⟩ : ∃ m, m = w2.heap.size := ⟨_, rfl⟩
        rw [← hm] at g3 ⊢
        obtain ⟨_, x0, x1, x2, x3⟩ := g3
        have hbs := B3.out.size
        clear hW3 b3 hm O2 B2
        go_wp2_with (at_builtin; refine wpList_append_lies _ rfl (.tmp 31) (.tmp 33) 34 rfl w.heap.size 25 i0 (ivV 0 0 0 0) 4 32 Tryd.underlying34 hi hz0 hz1 hz2 rfl (by decide) _ k _ rfl (O3.out.alloc _) ⟨W3.heap.size, 0, none⟩ 1 1 [.int .i64 X.two, .int .i64 X.three, .int .i64 X.five, .int .i64 X.root] rfl rfl (World.news_of_block (heap_alloc_new W3 _)) (by simp [Value.oneCell']) (by decide) (by unfold maxLen; omega) (by omega) (by simp; omega) _ rfl ?_; intro g1 cap1 w4 hown' hgrow hat hgt)
        have R4 := Lib.hid ((B3.out.alloc hbs _).grown hgrow (by simp; omega) (fun j hj => (O3.out.lt j hj).1))
        rw [HX.out] at hown'
        have O4 := Lib.hid (row_snoc (f := chainF low) hown')
        clear hown' hgrow hat hgt O3 B3 x0 x1 x2 x3 hbs
        go_wp2_with fail
        go_roundw
        case rel => exact ⟨k + 1, by omega, by go_num, O4, R4⟩
        case measure => simp [intOf]; omega
      · have hkn : k = n := by have := HN.out; omega
        subst hkn
        have h0 : 0 < k := by have := HN.out; omega
        obtain ⟨g1, cap1, rfl, _, hgl⟩ := own4_pos HO.out h0
        have SS := Lib.hid (senAt_below HS.out HB.out)
        have RA := Lib.hid (own_rowAt (rowL_len k (chainF low)) HO.out hgl)
        have KD := Lib.hid (chain_keyd (low := low) (n := k) v1 (by have := HN.out; omega))
        clear hgl
        go_wp2_with fail
        refine (sortedBy_run (key := keyV) h0 (by have := HN.out; omega) KD.out _ SS.out RA.out).mono ?_
        rintro en w5 ⟨g2, cap2, f2, rfl, o2, m2, a2, b2⟩
        have R5 := Lib.hid (HB.out.trans (b2.mono HB.out.size))
        have O5 := Lib.hid (own_rebase o2 HB.out.size)
        have M5 := Lib.hid m2
        have A5 := Lib.hid a2
        clear o2 m2 a2 b2
        go_wp2_with fail
        go_ret
        exact ⟨⟨_, rfl, Or.inr ⟨HV.out, k, f2, HN.out, M5.out, A5.out, O5.out⟩⟩, R5.out⟩
  · have NV := Lib.hid hv
    by_cases d1 : high < low
    · clear hv
      go_enter Tryd.func40, Tryd.ntmps40
      go_wp2_with fail
      go_ret
      exact ⟨⟨_, rfl, Or.inl ⟨NV.out, World.ownsRow_nil _ _ _ _⟩⟩, Below.refl _ _⟩
    · by_cases d2 : low < -30
      · clear hv
        go_enter Tryd.func40, Tryd.ntmps40
        go_wp2_with fail
        go_ret
        exact ⟨⟨_, rfl, Or.inl ⟨NV.out, World.ownsRow_nil _ _ _ _⟩⟩, Below.refl _ _⟩
      · have d3 : 30 < high := by omega
        clear hv
        go_enter Tryd.func40, Tryd.ntmps40
        go_wp2_with fail
        go_ret
        exact ⟨⟨_, rfl, Or.inl ⟨NV.out, World.ownsRow_nil _ _ _ _⟩⟩, Below.refl _ _⟩
end Go.Proofs.YtdnlebijmiaclabDoor
