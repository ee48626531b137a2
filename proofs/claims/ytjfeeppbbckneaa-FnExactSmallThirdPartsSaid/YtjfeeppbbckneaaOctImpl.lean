/- Contracts of impl.lessOctaves and impl.OctavesIn. -/
import Derived.Test.YtjfeeppbbckneaaTonesMath
import Derived.Test.YtjfeeppbbckneaaSignImpl
import Derived.Test.YtjfeeppbbckneaaNumBase
import Derived.Test.YtjfeeppbbckneaaIfOkWalks
import Derived.ScopeJumps
import Derived.WalkMore
namespace Go.Proofs.Ytjfeeppbbckneaa
open Go.RowKit Go.Joins
set_option linter.unusedVariables false
/-- Two less by n octaves: m of its root's parts. -/
def LessAt (a d n m q : Int) : Prop := n * d = m ∧ q = a - m ∧ -100000 ≤ m ∧ m ≤ 100000 ∧ -100000 ≤ a ∧ a ≤ 100000
set_option maxHeartbeats 400000 in
theorem less_any {a b c d n m q : Int} (h : LessAt a d n m q) (w : World) :
    Calls Try.prog 73 #[ivV a b c d, .int .i64 n] w fun e w' => e = .returned (ivV q b c d) ∧ Below w.heap.size w w' := by
  obtain ⟨h1, h2, h3, h4, h5, h6⟩ := h
  subst h2
  go_enter Try.func73, Try.ntmps73
  go_wp2_with fail
  refine bodyPost_ret (v := ivV (a - m) b c d) (by simp [results, Try.results73, go_sem]) rfl ⟨rfl, ?_⟩
  repeat' (first | exact below_alloc2 _ _ _ | (refine Below.setCell ?_ (by simp) _))
/-- The middle of the search, and what is less by it. -/
def MidAt (a d H n x y m p q : Int) : Prop := m = (x + y).tdiv 2 ∧ m * d = p ∧ q = a - p ∧ (x < m ∧ m < y) ∧ (-2012 ≤ p ∧ p ≤ 2012)
def intOf' : Value → Int | .int _ q => q | _ => 0
theorem mid_ex {a b c d H n x y : Int} (h : OctAt a b c d n) (hH : H = (2000 : Int).tdiv d + 1) (hx : -H ≤ x) (hy : y ≤ H) (hxy : x + 2 ≤ y) : ∃ m p q, MidAt a d H n x y m p q := by
  obtain ⟨d1, d2, a1, a2, b1, b2, c1, c2⟩ := okI_nums h.1
  obtain ⟨k1, k2, k3, k4⟩ := high_bd d1 hH
  have hm := mid_bd hxy rfl
  exact ⟨_, _, _, rfl, rfl, rfl, hm, mid_mul d1 d2 k2 (by omega) (by omega)⟩
theorem oct_sgn {a b c d n k p q : Int} (h : OctAt a b c d n) (hp : k * d = p) (hq : q = a - p) : (sgnP q b c < 0 → n < k) ∧ (¬ sgnP q b c < 0 → k ≤ n) := by
  have e := h.2 k
  rw [hp, ← hq] at e
  constructor
  · intro hs
    rcases (show n < k ∨ k ≤ n from by omega) with r | r
    · exact r
    · have := e.2 r; omega
  · intro hs
    exact e.1 (by omega)
/-- What holds at the label, behind the first round. -/
def OctJ (w0 : World) (a b c d H n x y : Int) (wr : World) : Prop := (-H ≤ x ∧ y ≤ H ∧ x + 2 ≤ y ∧ x ≤ n ∧ n < y) ∧ Four w0.heap.size a b c d wr ∧ Below w0.heap.size w0 wr
set_option maxRecDepth 100000 in
set_option maxHeartbeats 4000000 in
theorem octaves_impl_yes {a b c d n : Int} (h : OctAt a b c d n) (w : World) :
    Calls Try.prog 74 #[ivV a b c d] w fun e w' => e = .returned (.int .i64 n) ∧ Below w.heap.size w w' := by
  obtain ⟨d1, d2, a1, a2, b1, b2, c1, c2⟩ := okI_nums h.1
  obtain ⟨H, hH⟩ : ∃ H, H = (2000 : Int).tdiv d + 1 := ⟨_, rfl⟩
  obtain ⟨G, hG⟩ : ∃ G, (2000 : Int).tdiv d = G := ⟨_, rfl⟩
  obtain ⟨k1, k2, k3, k4⟩ := high_bd d1 hH
  obtain ⟨s1, s2⟩ := oct_start h hH
  have HO := Lib.hid h
  have HH := Lib.hid hH
  have dz : ¬ d = 0 := by omega
  have g1 : 0 ≤ G := by omega
  have g2 : G ≤ 2000 := by omega
  have HG : Hid (H = G + 1) := Lib.hid (by omega)
  clear h hH
  go_enter Try.func74, Try.ntmps74
  go_wp2_with fail
  refine wp_scope_jumps 0 (fun a' w' => ∃ (x y : Int) (u5 u6 u7 u8 u9 u10 u11 u12 u13 u14 u15 u16 u17 u18 u19 u20 u21 u22 u23 u24 u25 u26 u27 u28 u29 u30 u31 u32 u33 u34 u35 u36 u37 : Value), a' = { tmps := #[ivV a b c d, .pointer (some ⟨w.heap.size, 0, none⟩), .int .i64 0, .int .i64 y, .int .i64 x, u5, u6, u7, u8, u9, u10, u11, u12, u13, u14, u15, u16, u17, u18, u19, u20, u21, u22, u23, u24, u25, u26, u27, u28, u29, u30, u31, u32, u33, u34, u35, u36, u37], defers := [] } ∧ OctJ w a b c d H n x y w') (fun a' _ => (intOf' (a'.tmps.getD 3 undef) - intOf' (a'.tmps.getD 4 undef)).toNat) rfl ?_ ?_
  · go_wp2_with fail
    refine (intervalOk_any _ _ _ _ _).mono ?_
    rintro e w1 ⟨rfl, hb⟩
    rw [HO.out.1]
    have F1 := Lib.hid (four_keep hb (four_alloc (w := w) (p := a) (q := b) (r := c) (s := d) (t := 29)))
    have B1 := Lib.hid ((below_alloc1 w _).trans (hb.mono (by simp)))
    obtain ⟨z0, z1, z2, z3, z4⟩ := F1.out
    clear hb
    go_wp2_with fail
    go_step3
    have J1 : -H ≤ -H := Int.le_refl _
    have J2 : H ≤ H := Int.le_refl _
    have J3 : -H + 2 ≤ H := by omega
    rw [show G + 1 = H from HG.out.symm]
    obtain ⟨m, p, q, hM⟩ := mid_ex HO.out HH.out J1 J2 J3
    obtain ⟨hm, hp, hq, ⟨m1, m2⟩, ⟨p1, p2⟩⟩ := hM
    have HM := Lib.hid hm
    have hm' : (-H + H).tdiv 2 = m := hm.symm
    have HP := Lib.hid hp
    have HQ := Lib.hid hq
    have LS := Lib.hid (show LessAt a d m p q from ⟨hp, hq, by omega, by omega, by omega, by omega⟩)
    have SG := Lib.hid (oct_sgn HO.out hp hq)
    have q1 : -10000 ≤ q := by omega
    have q2 : q ≤ 10000 := by omega
    have nx : -3000 ≤ -H := by omega
    have ny : H ≤ 3000 := by omega
    clear hm hp hq
    go_wp2_with fail
    refine (less_any LS.out _).mono ?_
    rintro e w2 ⟨rfl, hb2⟩
    have F2 := Lib.hid (four_keep hb2 F1.out)
    have B2 := Lib.hid (B1.out.trans (hb2.mono B1.out.size))
    clear hb2 F1 B1 z0 z1 z2 z3 z4 hm'
    go_wp2_with fail
    refine (signPowers_any _ q b c q1 q2 (by omega) (by omega) (by omega) (by omega)).mono ?_
    rintro e w3 ⟨rfl, hb3⟩
    have F3 := Lib.hid (four_keep hb3 (four_alF F2.out))
    have B3 := Lib.hid ((B2.out.alloc B2.out.size _).trans (hb3.mono (by have := B2.out.size; simp; omega)))
    clear hb3 F2 B2
    by_cases hs : sgnP q b c < 0
    · have hn := SG.out.1 hs
      by_cases hg : -H + 2 ≤ m
      · have hg' : 1 < m - -H := by omega
        go_wp2_with fail
        go_step3
        exact ⟨rfl, -H, m, _, _, _, _, _, _, _, _, _, _, _, _, _, _, _, _, _, _, _, _, _, _, _, _, _, _, _, _, _, _, _, _, _, rfl, ⟨by omega, by omega, by omega, by omega, by omega⟩, F3.out, B3.out⟩
      · go_wp2_with fail
        simp only [Exit.jump]
        go_ret
        exact ⟨by rw [show n = -H from by omega]; rfl, B3.out⟩
    · have hn := SG.out.2 (by omega)
      by_cases hg : m + 2 ≤ H
      · have hg' : 1 < H - m := by omega
        go_wp2_with fail
        go_step3
        exact ⟨rfl, m, H, _, _, _, _, _, _, _, _, _, _, _, _, _, _, _, _, _, _, _, _, _, _, _, _, _, _, _, _, _, _, _, _, _, rfl, ⟨by omega, by omega, by omega, by omega, by omega⟩, F3.out, B3.out⟩
      · go_wp2_with fail
        simp only [Exit.jump]
        go_ret
        exact ⟨by rw [show n = m from by omega]; rfl, B3.out⟩
  · rintro a' w' ⟨x, y, u5, u6, u7, u8, u9, u10, u11, u12, u13, u14, u15, u16, u17, u18, u19, u20, u21, u22, u23, u24, u25, u26, u27, u28, u29, u30, u31, u32, u33, u34, u35, u36, u37, rfl, ⟨J1, J2, J3, J4, J5⟩, hF, hB⟩
    have F1 := Lib.hid hF
    have B1 := Lib.hid hB
    obtain ⟨z0, z1, z2, z3, z4⟩ := hF
    clear hB
    obtain ⟨m, p, q, hM⟩ := mid_ex HO.out HH.out J1 J2 J3
    obtain ⟨hm, hp, hq, ⟨m1, m2⟩, ⟨p1, p2⟩⟩ := hM
    have HM := Lib.hid hm
    have hm' : (x + y).tdiv 2 = m := hm.symm
    have HP := Lib.hid hp
    have HQ := Lib.hid hq
    have LS := Lib.hid (show LessAt a d m p q from ⟨hp, hq, by omega, by omega, by omega, by omega⟩)
    have SG := Lib.hid (oct_sgn HO.out hp hq)
    have q1 : -10000 ≤ q := by omega
    have q2 : q ≤ 10000 := by omega
    have nx : -3000 ≤ x := by omega
    have ny : y ≤ 3000 := by omega
    clear hm hp hq
    go_wp2_with fail
    refine (less_any LS.out _).mono ?_
    rintro e w2 ⟨rfl, hb2⟩
    have F2 := Lib.hid (four_keep hb2 F1.out)
    have B2 := Lib.hid (B1.out.trans (hb2.mono B1.out.size))
    clear hb2 F1 B1 z0 z1 z2 z3 z4 hm'
    go_wp2_with fail
    refine (signPowers_any _ q b c q1 q2 (by omega) (by omega) (by omega) (by omega)).mono ?_
    rintro e w3 ⟨rfl, hb3⟩
    have F3 := Lib.hid (four_keep hb3 (four_alF F2.out))
    have B3 := Lib.hid ((B2.out.alloc B2.out.size _).trans (hb3.mono (by have := B2.out.size; simp; omega)))
    clear hb3 F2 B2
    by_cases hs : sgnP q b c < 0
    · have hn := SG.out.1 hs
      by_cases hg : x + 2 ≤ m
      · have hg' : 1 < m - x := by omega
        go_wp2_with fail
        go_step3
        refine ⟨rfl, ⟨x, m, _, _, _, _, _, _, _, _, _, _, _, _, _, _, _, _, _, _, _, _, _, _, _, _, _, _, _, _, _, _, _, _, _, rfl, ⟨by omega, by omega, by omega, by omega, by omega⟩, F3.out, B3.out⟩, ?_⟩
        simp [intOf']
        omega
      · go_wp2_with fail
        simp only [Exit.jump]
        go_ret
        exact ⟨by rw [show n = x from by omega]; rfl, B3.out⟩
    · have hn := SG.out.2 (by omega)
      by_cases hg : m + 2 ≤ y
      · have hg' : 1 < y - m := by omega
        go_wp2_with fail
        go_step3
        refine ⟨rfl, ⟨m, y, _, _, _, _, _, _, _, _, _, _, _, _, _, _, _, _, _, _, _, _, _, _, _, _, _, _, _, _, _, _, _, _, _, rfl, ⟨by omega, by omega, by omega, by omega, by omega⟩, F3.out, B3.out⟩, ?_⟩
        simp [intOf']
        omega
      · go_wp2_with fail
        simp only [Exit.jump]
        go_ret
        exact ⟨by rw [show n = m from by omega]; rfl, B3.out⟩
set_option maxHeartbeats 400000 in
theorem octaves_impl_no {a b c d : Int} (h : okI a b c d = false) (w : World) :
    Calls Try.prog 74 #[ivV a b c d] w fun e w' => e = .returned (.int .i64 0) ∧ Below w.heap.size w w' := by
  have HX := Lib.hid h
  clear h
  go_enter Try.func74, Try.ntmps74
  go_wp2_with fail
  refine wp_scope_jumps 0 (fun _ _ => False) (fun _ _ => 0) rfl ?_ (fun _ _ h => h.elim)
  go_wp2_with fail
  refine (intervalOk_any _ _ _ _ _).mono ?_
  rintro e w1 ⟨rfl, hb⟩
  rw [HX.out]
  have B1 := Lib.hid ((below_alloc1 w _).trans (hb.mono (by simp)))
  clear hb
  go_wp2_with fail
  simp only [Exit.jump]
  go_ret
  exact ⟨rfl, B1.out⟩
/-- What OctavesIn answers: the octaves of a valid interval, 0 for others. -/
def OctOr (a b c d n : Int) : Prop := OctAt a b c d n ∨ (okI a b c d = false ∧ n = 0)
theorem octOr_ex (a b c d : Int) : ∃ n, OctOr a b c d n := by
  obtain ⟨x, hx⟩ : ∃ x : Bool, okI a b c d = x := ⟨_, rfl⟩
  cases x
  · exact ⟨0, Or.inr ⟨hx, rfl⟩⟩
  · obtain ⟨n, hn⟩ := octAt_ex hx
    exact ⟨n, Or.inl hn⟩
theorem octOr_impl {a b c d n : Int} (h : OctOr a b c d n) (w : World) : Calls Try.prog 74 #[ivV a b c d] w fun e w' => e = .returned (.int .i64 n) ∧ Below w.heap.size w w' := by
  rcases h with h | ⟨h, rfl⟩
  · exact octaves_impl_yes h w
  · exact octaves_impl_no h w
end Go.Proofs.Ytjfeeppbbckneaa
