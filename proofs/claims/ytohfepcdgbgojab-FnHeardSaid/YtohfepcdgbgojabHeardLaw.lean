/- The walk of laws.FnExactCirclesHeard over the program's contract. -/
import Derived.Test.YtohfepcdgbgojabSHeard
import Derived.Test.YtohfepcdgbgojabNearLaw
import Derived.Test.YtohfepcdgbgojabCirMark
namespace Go.Proofs.Ytohfepcdgbgojab
open Go.RowKit Go.Joins
set_option linter.unusedVariables false
/-- The program's CirclesHeard answers as the model's. -/
def HeardImpl : Prop := ∀ (p : Int) (w : World) (b' : Nat) (e' : TypeId) (v' : Value) (ts : List Int), ts.length ≤ 2000000 → (∀ i, -9223372036854775808 ≤ ts.getD i 0 ∧ ts.getD i 0 ≤ 9223372036854775807) → w.ownsRow b' e' 1 v' ts.length (intCs ts) →
    Calls Try.prog 37 #[.int .i64 p, v'] w (HeardPost (heardOf p ts) w)
set_option maxRecDepth 100000 in
set_option maxHeartbeats 8000000 in
theorem walk_HeardBy (HI : HeardImpl) (p : Int) (wp : (Lit.int .i64 p).wf = true) (a : Option Addr) (len cap : Nat) (zs : List Int) (w : World) (hr : IsRow .i64 w a len cap zs) :
    Calls Try.prog 10 #[.int .i64 p, .slice a len cap] w fun e w' => e = .returned (.bool true) ∧ Below w.heap.size w w' := by
  have HL := Lib.hid (row_len hr)
  have HR := Lib.hid hr
  have hl' := HL.out.2
  clear hr wp
  by_cases h2 : (1048576 : Int) < (len : Int)
  · go_enter Try.func10, Try.ntmps10
    go_wp2_with fail
    go_ret
    exact ⟨rfl, Below.refl _ _⟩
  · obtain ⟨ts, hts⟩ : ∃ ts, ts = zs.take len := ⟨_, rfl⟩
    have HX := Lib.hid hts
    have hl3 : len ≤ 1048576 := by omega
    have HTS := Lib.hid (show ts.length ≤ 2000000 from by have := HL.out.1; rw [hts, List.length_take]; omega)
    have HBD : Hid (∀ i, -9223372036854775808 ≤ ts.getD i 0 ∧ ts.getD i 0 ≤ 9223372036854775807) := Lib.hid (fun i => by
      rw [List.getD_eq_getElem?_getD]
      rcases Nat.lt_or_ge i ts.length with q | q
      · rw [List.getElem?_eq_getElem q]
        exact row_bd HR.out _ (by rw [← hts]; exact List.getElem_mem q)
      · rw [List.getElem?_eq_none q]; simp)
    have LN := heardOf_len p ts
    have LE := Lib.hid (heardOf_each p ts)
    have CS := Lib.hid (fun w b' e' v' h => heard_spec p w b' e' v' ts HTS.out h)
    have CP := Lib.hid (fun w b' e' v' h => HI p w b' e' v' ts HTS.out HBD.out h)
    clear hts
    generalize heardOf p ts = L at LN LE CS CP
    obtain ⟨n, hn⟩ : ∃ n, n = L.length := ⟨_, rfl⟩
    rw [← hn] at LN
    have HN := Lib.hid hn
    have HL2 := Lib.hid (show L.length ≤ 2000000 from by omega)
    have HE2 := Lib.hid (show ∀ i, i < L.length → (lAt L i).length ≤ 2000000 from fun i hi => by rw [LE.out i hi]; omega)
    obtain ⟨nw, hnw⟩ : ∃ n, n = ts.length := ⟨_, rfl⟩
    have HNW := Lib.hid hnw
    have hnw2 : nw ≤ 2000000 := by have := HTS.out; omega
    clear hn hnw h2
    go_enter Try.func10, Try.ntmps10
    go_wp2_with fail
    refine (calls_toInts (Below.refl _ _) HR.out hl3 HX).mono ?_
    rintro e w4 ⟨v4, rfl, o4, b4⟩
    have B4 := Lib.hid b4
    have O4 := Lib.hid o4
    clear o4 b4
    go_wp2_with fail
    refine (CS.out w4 _ _ v4 O4.out).mono ?_
    rintro e1 w1 ⟨v1, us1, rfl, k1, b1⟩
    have K1 := Lib.hid k1
    have B1 := Lib.hid (B4.out.trans (b1.mono B4.out.size))
    have SW := Lib.hid (Nat.le_trans B4.out.size b1.size)
    clear k1 b1 O4 B4
    go_wp2_with fail
    refine (calls_toInts (Below.refl _ _) (HR.out.below B1.out) hl3 HX).mono ?_
    rintro e w6 ⟨v6, rfl, o6, b6⟩
    have V6 := Lib.hid o6
    have LV := Lib.hid (fun g hg => o6.lt g hg)
    have LT1 := Lib.hid (fun g (e : v1.ownBlock = some g) => (K1.out.row.lt g e).2)
    have LE1 := Lib.hid (fun i (hi : i < L.length) g (e : (uAt us1 i).ownBlock = some g) => ((K1.out.els i hi).lt g e).2)
    have K16 := Lib.hid (K1.out.below b6)
    have B6 := Lib.hid (B1.out.trans (b6.mono B1.out.size))
    have S16 := Lib.hid b6.size
    clear o6 b6 K1 B1
    go_wp2_with fail
    refine (CP.out w6 _ _ v6 V6.out).mono ?_
    rintro e2 w2 ⟨v2, us2, rfl, k2, b2⟩
    have K2 := Lib.hid k2
    have K12 := Lib.hid (K16.out.below b2)
    have V2 := Lib.hid (own_below V6.out b2)
    have B2 := Lib.hid (B6.out.trans (b2.mono B6.out.size))
    have S62 := Lib.hid b2.size
    have LG2 := Lib.hid (fun g (e : v2.ownBlock = some g) => (k2.row.lt g e).1)
    have LH2 := Lib.hid (fun i (hi : i < L.length) g (e : (uAt us2 i).ownBlock = some g) => ((k2.els i hi).lt g e).1)
    clear k2 b2 K16 B6 V6
    go_wp2_with fail
    refine (eqCirs_same w2 _ _ v2 v1 us2 us1 L HL2.out HE2.out K2.out K12.out).mono ?_
    rintro e3 w3 ⟨rfl, b3⟩
    have K3 := Lib.hid (K2.out.below b3)
    have K13 := Lib.hid (K12.out.below b3)
    have V3 := Lib.hid (own_below V2.out b3)
    have B3 := Lib.hid (B2.out.trans (b3.mono B2.out.size))
    have SZ3 := Lib.hid (Nat.le_trans S62.out b3.size)
    clear b3 K2 K12 B2 V2
    go_wp2_with fail
    refine (calls_toInts (Below.refl _ _) (HR.out.below B3.out) hl3 HX).mono ?_
    rintro e w9 ⟨v9, rfl, o9, b9⟩
    have O9 := Lib.hid o9
    have K9 := Lib.hid (K3.out.below b9)
    have K19 := Lib.hid (K13.out.below b9)
    have V9 := Lib.hid (own_below V3.out b9)
    have B9 := Lib.hid (B3.out.trans (b9.mono B3.out.size))
    have SZ9 := Lib.hid (Nat.le_trans SZ3.out b9.size)
    clear o9 b9 K3 K13 V3 B3
    go_wp2_with fail
    refine (eqInts_any w9 _ _ _ _ v6 v9 ts ts HTS.out HTS.out V9.out O9.out).mono ?_
    rintro e w10 ⟨rfl, b10⟩
    rw [decide_eq_true (rfl : ts = ts)]
    have K10 := Lib.hid (K9.out.below b10)
    have K110 := Lib.hid (K19.out.below b10)
    have V10 := Lib.hid (own_below V9.out b10)
    have B10 := Lib.hid (B9.out.trans (b10.mono B9.out.size))
    have SZ10 := Lib.hid (Nat.le_trans SZ9.out b10.size)
    clear b10 K9 K19 V9 B9 O9
    rw [← HNW.out] at V10
    go_wp2_with fail
    refine (markInts_own w10 _ 1 _ v6 nw _ hnw2 (by omega) V10.out).mono ?_
    rintro e w11 ⟨rfl, _, g11⟩
    have K11 := Lib.hid (K10.out.grown g11 (fun g hg e => by have := LG2.out g hg; have := (LV.out g e).2; omega) (fun i hi g hg e => by have := LH2.out i hi g hg; have := (LV.out g e).2; omega))
    have K111 := Lib.hid (K110.out.grown g11 (fun g hg e => by have := LT1.out g hg; have := (LV.out g e).1; omega) (fun i hi g hg e => by have := LE1.out i hi g hg; have := (LV.out g e).1; omega))
    have B11 := Lib.hid (B10.out.grown g11 B10.out.size (fun k hk => by have := (LV.out k hk).1; have := SW.out; omega))
    have t0 : ¬ ((1 : Int) + nw) < 0 := by omega
    have SZ11 := Lib.hid (Nat.le_trans SZ10.out g11.size)
    clear g11 K10 K110 V10 B10
    go_wp2_with fail
    refine (eqCirs_same w11 _ _ v2 v1 us2 us1 L HL2.out HE2.out K11.out K111.out).mono ?_
    rintro e3 w12 ⟨rfl, b12⟩
    have K12 := Lib.hid (K11.out.below b12)
    have K112 := Lib.hid (K111.out.below b12)
    have B12 := Lib.hid (B11.out.trans (b12.mono B11.out.size))
    have SZ12 := Lib.hid (Nat.le_trans SZ11.out b12.size)
    clear b12 K11 K111 B11
    go_wp2_with fail
    have KM := K12.out
    rw [← rowC_self L, ← HN.out] at KM
    refine (markCirs_own w12 _ n v2 us2 (lAt L) (by omega) SZ12.out (fun t ht => LE.out t (by rw [← HN.out]; exact ht)) KM).mono ?_
    rintro e4 w13 ⟨rfl, k13, b13⟩
    have K13 := Lib.hid k13
    have K113 := Lib.hid (K112.out.under b13 (fun g e => by have := LT1.out g e; have := S16.out; omega) (fun i hi g e => by have := LE1.out i hi g e; have := S16.out; omega))
    have B13 := Lib.hid (B12.out.trans (b13.mono (by have := SW.out; have := S16.out; omega)))
    have t1 : ¬ ((1 : Int) + 12 * n) < 0 := by omega
    have t2 : (((1 : Int) + 12 * n) != ((1 : Int) + 12 * n)) = false := by simp
    clear k13 b13 KM K12 K112 B12
    go_wp2_with fail
    refine (heldCirs_own w13 _ n v2 us2 (by omega) K13.out).mono ?_
    rintro e5 w14 ⟨rfl, b14⟩
    have K14 := Lib.hid (K13.out.below b14)
    have K114 := Lib.hid (K113.out.below b14)
    have B14 := Lib.hid (B13.out.trans (b14.mono B13.out.size))
    clear b14 K13 K113 B13
    go_wp2_with fail
    refine (calls_toInts (Below.refl _ _) (HR.out.below B14.out) hl3 HX).mono ?_
    rintro e w15 ⟨v15, rfl, o15, b15⟩
    have O15 := Lib.hid o15
    have K15 := Lib.hid (K14.out.below b15)
    have K115 := Lib.hid (K114.out.below b15)
    have B15 := Lib.hid (B14.out.trans (b15.mono B14.out.size))
    clear o15 b15 K14 K114 B14
    go_wp2_with fail
    refine (CP.out w15 _ _ v15 O15.out).mono ?_
    rintro e6 w16 ⟨v16, us16, rfl, k16, b16⟩
    have K16 := Lib.hid k16
    have K216 := Lib.hid (K15.out.below b16)
    have K116 := Lib.hid (K115.out.below b16)
    have B16 := Lib.hid (B15.out.trans (b16.mono B15.out.size))
    clear k16 b16 K15 K115 B15 O15
    go_wp2_with fail
    refine (eqCirs_same w16 _ _ v16 v1 us16 us1 L HL2.out HE2.out K16.out K116.out).mono ?_
    rintro e7 w17 ⟨rfl, b17⟩
    have K17 := Lib.hid (K216.out.below b17)
    have B17 := Lib.hid (B16.out.trans (b17.mono B16.out.size))
    clear b17 K16 K216 K116 B16
    go_wp2_with fail
    refine (heldCirs_own w17 _ n v2 us2 (by omega) K17.out).mono ?_
    rintro e8 w18 ⟨rfl, b18⟩
    have B18 := Lib.hid (B17.out.trans (b18.mono B17.out.size))
    clear b18 K17 B17
    go_wp2_with fail
    go_ret
    exact ⟨rfl, B18.out⟩
end Go.Proofs.Ytohfepcdgbgojab
