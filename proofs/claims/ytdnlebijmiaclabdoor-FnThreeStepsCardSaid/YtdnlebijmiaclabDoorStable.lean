/- Contracts of slices.stableCmpFunc, slices.SortStableFunc at intervals: rows of fewer than 80 elements. -/
import Derived.Test.YtdnlebijmiaclabDoorSymMain
namespace Go.Proofs.YtdnlebijmiaclabDoor
open Go.RowKit Go.Joins
set_option linter.unusedVariables false
/-- Each block of bs places is in ascending order, as far as n. -/
def Blk (key : Iv → Int) (bs n : Nat) (f : Nat → Iv) : Prop := ∀ s t, s < t → t < n → s / bs = t / bs → key (f s) ≤ key (f t)
/-- And so from a on. -/
def BlkFrom (key : Iv → Int) (bs a n : Nat) (f : Nat → Iv) : Prop := ∀ s t, a ≤ s → s < t → t < n → s / bs = t / bs → key (f s) ≤ key (f t)
theorem blk_ins {key : Iv → Int} {a n : Nat} {f f' : Nat → Iv} (ha : a % 20 = 0) (hn : a ≤ n) (hn' : n ≤ a + 20) (hb : Blk key 20 a f) (v : MV a n f f') (h : AscF key a n f') : Blk key 20 n f' := fun s t h1 h2 h3 => by
  rcases Nat.lt_or_ge t a with q | q
  · rw [v.out (Or.inl (by omega)), v.out (Or.inl q)]
    exact hb s t h1 q h3
  · exact h s t (by omega) h1 h2
theorem blk_start (key : Iv → Int) (bs : Nat) (f : Nat → Iv) : Blk key bs 0 f := fun s t h1 h2 h3 => by omega
theorem blk_from {key : Iv → Int} {bs n : Nat} {f : Nat → Iv} (h : Blk key bs n f) : BlkFrom key bs 0 n f := fun s t _ h1 h2 h3 => h s t h1 h2 h3
theorem from_asc1 {key : Iv → Int} {a n : Nat} {f : Nat → Iv} (ha : a % 40 = 0) (h : BlkFrom key 20 a n f) {b : Nat} (hb : b ≤ n) (hb' : b ≤ a + 20) : AscF key a b f := fun s t h1 h2 h3 => h s t h1 h2 (by omega) (by omega)
theorem from_asc2 {key : Iv → Int} {a n : Nat} {f : Nat → Iv} (ha : a % 40 = 0) (h : BlkFrom key 20 a n f) {b : Nat} (hb : b ≤ n) (hb' : b ≤ a + 40) : AscF key (a + 20) b f := fun s t h1 h2 h3 => h s t (by omega) h2 (by omega) (by omega)
theorem blk_merge {key : Iv → Int} {a b : Nat} {f f' : Nat → Iv} (ha : a % 40 = 0) (hn : a ≤ b) (hn' : b ≤ a + 40) (hb : Blk key 40 a f) (v : MV a b f f') (h : AscF key a b f') : Blk key 40 b f' := fun s t h1 h2 h3 => by
  rcases Nat.lt_or_ge t a with q | q
  · rw [v.out (Or.inl (by omega)), v.out (Or.inl q)]
    exact hb s t h1 q h3
  · exact h s t (by omega) h1 h2
theorem from_merge {key : Iv → Int} {a n : Nat} {f f' : Nat → Iv} (h : BlkFrom key 20 a n f) (v : MV a (a + 40) f f') : BlkFrom key 20 (a + 40) n f' := fun s t h1 h2 h3 h4 => by
  rw [v.out (Or.inr h1), v.out (Or.inr (by omega))]
  exact h s t (by omega) h2 h3 h4
theorem blk_all {key : Iv → Int} {bs n : Nat} {f : Nat → Iv} (h : Blk key bs n f) (hn : n ≤ bs) : AscF key 0 n f := fun s t _ h2 h3 => h s t h2 h3 (by rw [Nat.div_eq_of_lt (by omega), Nat.div_eq_of_lt (by omega)])
theorem all_blk {key : Iv → Int} {bs n : Nat} {f : Nat → Iv} (h : AscF key 0 n f) : Blk key bs n f := fun s t h1 h2 _ => h s t (Nat.zero_le _) h1 h2
theorem insertion_at {A : Addr} {key : Iv → Int} {w0 : World} {B g cap n : Nat} {f : Nat → Iv} (hs : SenAt A w0) (hB : 0 < B) (a b : Nat) {x y : Int} (hx : x = (a : Int)) (hy : y = (b : Int)) (hab : a ≤ b) (hb : b ≤ n) (hn : n ≤ 1000000) (hk : Keyd key n f) (W : World) (h : Srt w0 B g cap n f W) :
    Calls Tryd.prog 98 #[.slice (some ⟨g, 0, none⟩) n cap, .int .i64 x, .int .i64 y, .func (.func 17) #[] #[]] W fun e w' => e = .returned (.tuple #[]) ∧ ∃ f', MV a b f f' ∧ AscF key a b f' ∧ Srt w0 B g cap n f' w' := by
  subst hx hy
  exact insertion_run hs hB a b hab hb hn hk W h
set_option maxRecDepth 100000 in
set_option maxHeartbeats 8000000 in
theorem stable_run {A : Addr} {key : Iv → Int} {w0 : World} {B g cap n : Nat} {f : Nat → Iv} (hs : SenAt A w0) (hB : 0 < B) (hn : n < 80) (hk : Keyd key n f) (W : World) (h : Srt w0 B g cap n f W) :
    Calls Tryd.prog 95 #[.slice (some ⟨g, 0, none⟩) n cap, .int .i64 n, .func (.func 17) #[] #[]] W (Merged key w0 B g cap n 0 n f) := by
  have HS := Lib.hid h
  have SE := Lib.hid hs
  have HK := Lib.hid hk
  have HB := Lib.hid hB
  have hn6 : n ≤ 1000000 := by omega
  have SY := Lib.hid (symMerge_run (A := A) (key := key) (g := g) (cap := cap) hs hB hn6 n)
  clear h hs hk hB
  go_enter Tryd.func95, Tryd.ntmps95
  go_wp2_with fail
  go_loopw [7, 8] (fun x y wr => ∃ (a : Nat) (f1 : Nat → Iv), x = .int .i64 (a : Int) ∧ y = .int .i64 ((a : Int) + 20) ∧ a % 20 = 0 ∧ a ≤ n ∧ Hid (MV 0 n f f1) ∧ Hid (Blk key 20 a f1) ∧ Hid (Srt w0 B g cap n f1 wr)) (fun x _ _ => n - (intOf x).toNat)
  case atStart => exact ⟨0, f, rfl, rfl, rfl, Nat.zero_le _, MV.refl _ _ _, blk_start _ _ _, HS.out⟩
  case round =>
    obtain ⟨a, f1, rfl, rfl, ha, han, V1, B1, H1⟩ := hrel
    clear HS
    have K1 := Lib.hid (HK.out.mv V1.out (Nat.le_refl _))
    by_cases hlt : a + 20 ≤ n
    · have k1 : (a : Int) + 20 ≤ n := by omega
      have k2 : IntKind.i64.wrap ((a : Int) + 20 + 20) = (a : Int) + 20 + 20 := IntWalk.i64_in _ (by omega)
      go_wp2_with fail
      refine (insertion_at SE.out HB.out a (a + 20) rfl (by omega) (by omega) hlt hn6 K1.out _ H1.out).mono ?_
      rintro en w2 ⟨rfl, f2, v2, s2, h2⟩
      have H2 := Lib.hid h2
      have V2 := Lib.hid (V1.out.trans (v2.mono (Nat.zero_le _) hlt))
      have B2 := Lib.hid (blk_ins ha (by omega) (Nat.le_refl _) B1.out v2 s2)
      clear h2 v2 s2
      go_wp2_with fail
      go_roundw
      case rel => exact ⟨a + 20, f2, by go_num, by go_num, by omega, hlt, V2, B2, H2⟩
      case measure => simp [intOf]; omega
    · have k1 : ¬ (a : Int) + 20 ≤ n := by omega
      go_wp2_with fail
      refine (insertion_at SE.out HB.out a n rfl rfl han (Nat.le_refl _) hn6 K1.out _ H1.out).mono ?_
      rintro en w2 ⟨rfl, f2, v2, s2, h2⟩
      have H2 := Lib.hid h2
      have V2 := Lib.hid (V1.out.trans (v2.mono (Nat.zero_le _) (Nat.le_refl _)))
      have B2 := Lib.hid (blk_ins ha han (by omega) B1.out v2 s2)
      clear h2 v2 s2 H1 K1 V1 B1
      go_wp2_with fail
      obtain ⟨wo, hwo⟩ : ∃ wo, wo = w2 := ⟨_, rfl⟩
      rw [← hwo] at H2 ⊢
      clear hwo
      go_loopw [6] (fun z wr => ∃ (bs : Nat) (bi : Int) (f3 : Nat → Iv), z = .int .i64 bi ∧ ((bs = 20 ∧ bi = 20) ∨ (bs = 40 ∧ bi = 40) ∨ (bs = 80 ∧ bi = 80)) ∧ Hid (MV 0 n f f3) ∧ Hid (Blk key bs n f3) ∧ Hid (Srt w0 B g cap n f3 wr)) (fun z _ => 80 - (intOf z).toNat)
      case atStart => exact ⟨20, 20, f2, rfl, .inl ⟨rfl, rfl⟩, V2, B2, H2⟩
      case round =>
        clear H2 V2 B2
        obtain ⟨bs, bi, f3, rfl, hbs, V3, B3, H3⟩ := hrel
        have K3 := Lib.hid (HK.out.mv V3.out (Nat.le_refl _))
        by_cases hlt2 : bs < n
        · rcases hbs with ⟨rfl, rfl⟩ | ⟨rfl, rfl⟩ | ⟨rfl, rfl⟩
          · have k2 : (20 : Int) < n := by omega
            go_wp2_with fail
            obtain ⟨wo, hwo⟩ : ∃ wo, wo = wr := ⟨_, rfl⟩
            rw [← hwo] at H3 ⊢
            clear hwo
            have F3 := Lib.hid (blk_from B3.out)
            go_loopw [7, 8] (fun x y wr => ∃ (a : Nat) (f4 : Nat → Iv), x = .int .i64 (a : Int) ∧ y = .int .i64 ((a : Int) + 40) ∧ a % 40 = 0 ∧ a ≤ n ∧ Hid (MV 0 n f f4) ∧ Hid (Blk key 40 a f4) ∧ Hid (BlkFrom key 20 a n f4) ∧ Hid (Srt w0 B g cap n f4 wr)) (fun x _ _ => n - (intOf x).toNat)
            case atStart => exact ⟨0, f3, rfl, rfl, rfl, Nat.zero_le _, V3, blk_start _ _ _, F3, H3⟩
            case round =>
              obtain ⟨c, f4, rfl, rfl, hc, hcn, V4, B4, F4, H4⟩ := hrel
              clear H3 B3 F3 V3 K3
              have K4 := Lib.hid (HK.out.mv V4.out (Nat.le_refl _))
              by_cases hlt3 : c + 40 ≤ n
              · have k3 : (c : Int) + 40 ≤ n := by omega
                have k4 : IntKind.i64.wrap ((c : Int) + 40 + 40) = (c : Int) + 40 + 40 := IntWalk.i64_in _ (by omega)
                go_wp2_with fail
                refine (sym_at SY.out c (c + 20) (c + 40) f4 rfl (by omega) (by omega) (by omega) (by omega) (by omega) hlt3 K4.out (from_asc1 hc F4.out (by omega) (Nat.le_refl _)) (from_asc2 hc F4.out hlt3 (Nat.le_refl _)) _ H4.out).mono ?_
                rintro en w3 ⟨rfl, f5, v5, s5, h5⟩
                have H5 := Lib.hid h5
                have V5 := Lib.hid (V4.out.trans (v5.mono (Nat.zero_le _) hlt3))
                have B5 := Lib.hid (blk_merge hc (by omega) (Nat.le_refl _) B4.out v5 s5)
                have F5 := Lib.hid (from_merge F4.out v5)
                clear h5 v5 s5
                go_wp2_with fail
                go_roundw
                case rel => exact ⟨c + 40, f5, by go_num, by go_num, by omega, hlt3, V5, B5, F5, H5⟩
                case measure => simp [intOf]; omega
              · have k3 : ¬ (c : Int) + 40 ≤ n := by omega
                by_cases hm : c + 20 < n
                · have k4 : (c : Int) + 20 < n := by omega
                  go_wp2_with fail
                  refine (sym_at SY.out c (c + 20) n f4 rfl (by omega) rfl (by omega) (by omega) hm (Nat.le_refl _) K4.out (from_asc1 hc F4.out (by omega) (Nat.le_refl _)) (from_asc2 hc F4.out (Nat.le_refl _) (by omega)) _ H4.out).mono ?_
                  rintro en w3 ⟨rfl, f5, v5, s5, h5⟩
                  have H5 := Lib.hid h5
                  have V5 := Lib.hid (V4.out.trans (v5.mono (Nat.zero_le _) (Nat.le_refl _)))
                  have B5 := Lib.hid (blk_merge hc hcn (by omega) B4.out v5 s5)
                  clear h5 v5 s5
                  go_wp2_with fail
                  go_roundw
                  case rel => exact ⟨40, 40, f5, by go_num, .inr (.inl ⟨rfl, rfl⟩), V5, B5, H5⟩
                  case measure => simp [intOf]
                · have k4 : ¬ (c : Int) + 20 < n := by omega
                  have B5 := Lib.hid (blk_merge hc hcn (by omega) B4.out (MV.refl c n f4) (from_asc1 hc F4.out (Nat.le_refl _) (by omega)))
                  go_wp2_with fail
                  go_roundw
                  case rel => exact ⟨40, 40, f4, by go_num, .inr (.inl ⟨rfl, rfl⟩), V4, B5, H4⟩
                  case measure => simp [intOf]
          · have k2 : (40 : Int) < n := by omega
            have k3 : ¬ (80 : Int) ≤ n := by omega
            have a1 : AscF key 0 40 f3 := fun s t h1 h2 h3 => B3.out s t h2 (by omega) (by omega)
            have a2 : AscF key 40 n f3 := fun s t h1 h2 h3 => B3.out s t h2 h3 (by omega)
            have A1 := Lib.hid a1
            have A2 := Lib.hid a2
            clear a1 a2
            go_wp2_with fail
            refine wp_loop_rounds 1 ?_
            rw [rounds_succ]
            go_wp2_with fail
            refine (sym_at SY.out 0 40 n f3 rfl rfl rfl (by omega) (by omega) hlt2 (Nat.le_refl _) K3.out A1.out A2.out _ H3.out).mono ?_
            rintro en w3 ⟨rfl, f5, v5, s5, h5⟩
            have H5 := Lib.hid h5
            have V5 := Lib.hid (V3.out.trans v5)
            have B5 := Lib.hid (all_blk (bs := 80) s5)
            clear h5 v5 s5
            go_wp2_with fail
            go_roundw
            case rel => exact ⟨80, 80, f5, by go_num, .inr (.inr ⟨rfl, rfl⟩), V5, B5, H5⟩
            case measure => simp [intOf]
          · omega
        · have k2 : ¬ bi < n := by omega
          have S := Lib.hid (blk_all B3.out (by omega))
          go_wp2_with fail
          go_end0
          exact ⟨rfl, f3, V3.out, S.out, H3.out⟩
set_option maxRecDepth 100000 in
theorem sortStable_run {A : Addr} {key : Iv → Int} {w0 : World} {B g cap n : Nat} {f : Nat → Iv} (hs : SenAt A w0) (hB : 0 < B) (hn : n < 80) (hk : Keyd key n f) (W : World) (h : Srt w0 B g cap n f W) :
    Calls Tryd.prog 89 #[.slice (some ⟨g, 0, none⟩) n cap, .func (.func 17) #[] #[]] W (Merged key w0 B g cap n 0 n f) := by
  have C := Lib.hid (stable_run hs hB hn hk W h)
  clear hs hB hn hk h
  go_enter Tryd.func89, Tryd.ntmps89
  go_wp2_with fail
  refine C.out.mono ?_
  rintro en w2 ⟨rfl, h2⟩
  have H2 := Lib.hid h2
  clear h2
  go_wp2_with fail
  go_end0
  exact ⟨rfl, H2.out⟩
end Go.Proofs.YtdnlebijmiaclabDoor
