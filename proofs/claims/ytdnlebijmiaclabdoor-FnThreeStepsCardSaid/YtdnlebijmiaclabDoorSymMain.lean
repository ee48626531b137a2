/- Contract of slices.symMergeCmpFunc at intervals, whole. -/
import Derived.Test.YtdnlebijmiaclabDoorSymMerge
namespace Go.Proofs.YtdnlebijmiaclabDoor
open Go.RowKit Go.Joins
set_option linter.unusedVariables false
theorem merged_at {key : Iv → Int} {w0 : World} {B g cap n a b : Nat} {f : Nat → Iv} {P : Program} {k : FuncId} {args args' : Array Value} {w : World} (e : args = args') (h : Calls P k args' w (Merged key w0 B g cap n a b f)) : Calls P k args w (Merged key w0 B g cap n a b f) := by rw [e]; exact h
theorem rotate_at {w0 : World} {B g cap n : Nat} {f : Nat → Iv} (fv : Value) (a m b : Nat) {x y z : Int} (hx : x = (a : Int)) (hy : y = (m : Int)) (hz : z = (b : Int)) (ham : a < m) (hmb : m < b) (hb : b ≤ n) (hn : n ≤ 1000000) (W : World) (h : Srt w0 B g cap n f W) :
    Calls Tryd.prog 100 #[.slice (some ⟨g, 0, none⟩) n cap, .int .i64 x, .int .i64 y, .int .i64 z, fv] W fun e w' => e = .returned (.tuple #[]) ∧ Srt w0 B g cap n (rotF a m b f) w' := by
  subst hx hy hz
  exact rotate_run fv a m b ham hmb hb hn W h
/-- Two halves, each sorted or of one part alone. -/
theorem asc_half {key : Iv → Int} {a m b : Nat} {f : Nat → Iv} (h1 : AscF key a m f) (h2 : AscF key m b f) (h : ¬ (a < m ∧ m < b)) (ham : a ≤ m) (hmb : m ≤ b) : AscF key a b f := by
  rcases (show a = m ∨ m = b from by omega) with e | e
  · rw [e]; exact h2
  · rw [← e]; exact h1
/-- What the function is asked. -/
def SymOk (A : Addr) (key : Iv → Int) (w0 : World) (B g cap n k : Nat) : Prop :=
  ∀ (a m b : Nat) (f : Nat → Iv), b - a ≤ k → a < m → m < b → b ≤ n → Keyd key n f → AscF key a m f → AscF key m b f → ∀ W, Srt w0 B g cap n f W →
    Calls Tryd.prog 99 #[.slice (some ⟨g, 0, none⟩) n cap, .int .i64 (a : Int), .int .i64 (m : Int), .int .i64 (b : Int), .func (.func 17) #[] #[]] W (Merged key w0 B g cap n a b f)
theorem sym_at {A : Addr} {key : Iv → Int} {w0 : World} {B g cap n k : Nat} (S : SymOk A key w0 B g cap n k) (a m b : Nat) (f : Nat → Iv) {x y z : Int} (hx : x = (a : Int)) (hy : y = (m : Int)) (hz : z = (b : Int)) (hk : b - a ≤ k) (ham : a < m) (hmb : m < b) (hb : b ≤ n) (hK : Keyd key n f) (h1 : AscF key a m f) (h2 : AscF key m b f) (W : World) (h : Srt w0 B g cap n f W) :
    Calls Tryd.prog 99 #[.slice (some ⟨g, 0, none⟩) n cap, .int .i64 x, .int .i64 y, .int .i64 z, .func (.func 17) #[] #[]] W (Merged key w0 B g cap n a b f) := by
  subst hx hy hz
  exact S a m b f hk ham hmb hb hK h1 h2 W h
theorem sym_bd {a m b mid s0 r0 : Nat} (ham : a < m) (hmb : m < b) (hmid : mid = (a + b) / 2) (hs0 : s0 = if mid < m then mid + m - b else a) (hr0 : r0 = if mid < m then mid else m) : a ≤ s0 ∧ s0 ≤ r0 ∧ r0 ≤ m ∧ r0 ≤ mid ∧ mid + m ≤ s0 + b := by
  split at hs0 <;> split at hr0 <;> omega
set_option maxRecDepth 100000 in
set_option maxHeartbeats 8000000 in
theorem symMerge_step {A : Addr} {key : Iv → Int} {w0 : World} {B g cap n : Nat} (hs : SenAt A w0) (hB : 0 < B) (hn : n ≤ 1000000) (k : Nat) (ih : SymOk A key w0 B g cap n k) (a m b : Nat) (f : Nat → Iv) (hk : b - a ≤ k + 1) (ham : a + 1 < m) (hmb : m + 1 < b) (hb : b ≤ n) (hK : Keyd key n f) (h1 : AscF key a m f) (h2 : AscF key m b f) (W : World) (h : Srt w0 B g cap n f W) :
    Calls Tryd.prog 99 #[.slice (some ⟨g, 0, none⟩) n cap, .int .i64 (a : Int), .int .i64 (m : Int), .int .i64 (b : Int), .func (.func 17) #[] #[]] W (Merged key w0 B g cap n a b f) := by
  have HS := Lib.hid h
  have SE := Lib.hid hs
  have HK := Lib.hid hK
  have HB := Lib.hid hB
  have H1 := Lib.hid h1
  have H2 := Lib.hid h2
  have IH := Lib.hid ih
  obtain ⟨mid, hmid⟩ : ∃ mid, mid = (a + b) / 2 := ⟨_, rfl⟩
  obtain ⟨s0, hs0⟩ : ∃ s0, s0 = if mid < m then mid + m - b else a := ⟨_, rfl⟩
  obtain ⟨r0, hr0⟩ : ∃ r0, r0 = if mid < m then mid else m := ⟨_, rfl⟩
  obtain ⟨b1, b2, b3, b4, b5⟩ := sym_bd (by omega) (by omega) hmid hs0 hr0
  have MID := Lib.hid hmid
  have S0 := Lib.hid hs0
  have R0 := Lib.hid hr0
  have em : ((a : Int) + (b : Int)) / 2 = (mid : Int) := by omega
  have bm1 : a < mid := by omega
  have bm2 : mid < b := by omega
  obtain ⟨N, hN⟩ : ∃ N, N = mid + m := ⟨_, rfl⟩
  obtain ⟨p, hp⟩ : ∃ p, p = mid + m - 1 := ⟨_, rfl⟩
  have c0 : ((m : Int) - a == 1) = false := by simp; omega
  have c1 : ((b : Int) - m == 1) = false := by simp; omega
  have c2 : IntKind.i64.wrap ((m : Int) - a) = (m : Int) - a := IntWalk.i64_in _ (by omega)
  have c3 : IntKind.i64.wrap ((b : Int) - m) = (b : Int) - m := IntWalk.i64_in _ (by omega)
  have c4 : IntKind.i64.wrap ((mid : Int) + m) = (N : Int) := by rw [IntWalk.i64_in _ (by omega)]; omega
  have c5 : IntKind.i64.wrap ((N : Int) - 1) = (p : Int) := by rw [IntWalk.i64_in _ (by omega)]; omega
  have HN := Lib.hid hN
  have HP := Lib.hid hp
  clear h hs hK hB h1 h2 ih hmid hs0 hr0 hN hp
  go_enter Tryd.func99, Tryd.ntmps99
  go_upto_if 140 with fail
  go_cut [20, 21] from 138 to 146 (fun x y wx => x = .int .i64 (s0 : Int) ∧ y = .int .i64 (r0 : Int) ∧ Hid (Srt w0 B g cap n f wx))
  case first =>
    by_cases hm : mid < m
    · have d1 : (mid : Int) < m := by omega
      have e1 : s0 = mid + m - b := by rw [S0.out, if_pos hm]
      have e2 : (r0 : Int) = (mid : Int) := by rw [R0.out, if_pos hm]
      have c6 : IntKind.i64.wrap ((N : Int) - b) = (s0 : Int) := by have := HN.out; rw [IntWalk.i64_in _ (by omega)]; omega
      go_wp2_with fail
      go_meet
      case rel => exact ⟨by rw [e1], by rw [e2], HS⟩
    · have d1 : ¬ (mid : Int) < m := by omega
      have e1 : (s0 : Int) = (a : Int) := by rw [S0.out, if_neg hm]
      have e2 : (r0 : Int) = (m : Int) := by rw [R0.out, if_neg hm]
      go_wp2_with fail
      go_meet
      case rel => exact ⟨by rw [e1], by rw [e2], HS⟩
  case rest =>
    obtain ⟨rfl, rfl, HS1⟩ := hcut
    clear HS
    go_wp2_with fail
    clear c0 c1 c2 c3 c4 c5
    go_loopg [20, 21] (r0 - s0) (fun gk x y wr => ∃ (i j : Nat), x = .int .i64 (i : Int) ∧ y = .int .i64 (j : Int) ∧ j - i ≤ gk ∧ s0 ≤ i ∧ i ≤ j ∧ j ≤ r0 ∧ Hid (i = s0 ∨ key (f (i - 1)) ≤ key (f (mid + m - i))) ∧ Hid (j = r0 ∨ key (f (mid + m - 1 - j)) ≤ key (f j)) ∧ Hid (Srt w0 B g cap n f wr))
    case atStart => exact ⟨s0, r0, rfl, rfl, Nat.le_refl _, Nat.le_refl _, b2, Nat.le_refl _, Or.inl rfl, Or.inl rfl, HS1⟩
    case round =>
      obtain ⟨i, j, rfl, rfl, hgk, hai, hij, hjb, C1, C2, HR⟩ := hrel
      clear HS1
      by_cases hlt : i < j
      · have k1 : (i : Int) < j := by omega
        obtain ⟨h, hh⟩ : ∃ h, h = (i + j) / 2 := ⟨_, rfl⟩
        have eh : ((i : Int) + (j : Int)) / 2 = (h : Int) := by omega
        have hh1 : i ≤ h := by omega
        have hh2 : h < j := by omega
        clear hh
        obtain ⟨q, hq⟩ : ∃ q, q = p - h := ⟨_, rfl⟩
        have hp := HP.out
        have hN := HN.out
        have t1 : (h : Int) < n := by omega
        have t2 : (q : Int) < n := by omega
        have c9 : IntKind.i64.wrap (q : Int) = (q : Int) := IntWalk.i64_in _ (by omega)
        have c8 : (p : Int) - h = (q : Int) := by omega
        have r2 := HR.out.two (i := q) (j := h) (by omega) (by omega)
        have KY := Lib.hid (HK.out q h (by omega) (by omega))
        obtain ⟨X, hX⟩ : ∃ X, X = f q := ⟨_, rfl⟩
        obtain ⟨Y, hY⟩ : ∃ X, X = f h := ⟨_, rfl⟩
        obtain ⟨C, hC⟩ : ∃ C, C = cmpV X Y := ⟨_, rfl⟩
        have PK : CmpP A X.two X.three X.five X.root Y.two Y.three Y.five Y.root C := by rw [hC]; exact cmpP A X Y
        rw [← hX, ← hY, ← hC] at KY
        rw [← hX, ← hY] at r2
        have R2 := Lib.hid r2
        have SJ := Lib.hid (HR.out.sen SE.out HB.out)
        have HX := Lib.hid hX
        have HY := Lib.hid hY
        have HQ := Lib.hid hq
        clear r2 hC hX hY hq hp hN
        by_cases hc : C < 0
        · have hc2 : decide (C < 0) = true := decide_eq_true hc
          go_wp2_with fail
          go_region_held3 (fun w' => w'.cell? ⟨g, q * 4, none⟩ = some (.int .i64 X.two) ∧ w'.cell? ⟨g, q * 4 + 1, none⟩ = some (.int .i64 X.three) ∧ w'.cell? ⟨g, q * 4 + 2, none⟩ = some (.int .i64 X.five) ∧ w'.cell? ⟨g, q * 4 + 3, none⟩ = some (.int .i64 X.root) ∧ w'.cell? ⟨g, h * 4, none⟩ = some (.int .i64 Y.two) ∧ w'.cell? ⟨g, h * 4 + 1, none⟩ = some (.int .i64 Y.three) ∧ w'.cell? ⟨g, h * 4 + 2, none⟩ = some (.int .i64 Y.five) ∧ w'.cell? ⟨g, h * 4 + 3, none⟩ = some (.int .i64 Y.root)) (with_reducible first | exact row2_cells (row2_drew R2.out) | exact row2_cells (row2_keep (by assumption) R2.out) | exact row2_cells R2.out)
            (first
              | (go_at_call 17; refine (calls_fromS (W := wr) (by with_reducible first | assumption | exact (Below.refl _ _).drew) (cmpP_run (by with_reducible assumption) _ (senAt_below SJ.out (by with_reducible first | assumption | exact (Below.refl _ _).drew)))).mono ?_; rintro e9 w1 ⟨rfl, hb1⟩))
          have S1 := Lib.hid (HR.out.below hb1)
          clear hb1
          go_wp2_with fail
          go_roundg (h - i)
          case measure => omega
          case rel => exact ⟨i, h, rfl, rfl, Nat.le_refl _, hai, by omega, by omega, C1, Or.inr (by rw [← HY.out, show mid + m - 1 - h = q by have := HQ.out; have := HP.out; omega, ← HX.out]; exact Int.le_of_lt (KY.out.1 hc)), S1⟩
        · have hc2 : decide (C < 0) = false := decide_eq_false (by omega)
          go_wp2_with fail
          go_region_held3 (fun w' => w'.cell? ⟨g, q * 4, none⟩ = some (.int .i64 X.two) ∧ w'.cell? ⟨g, q * 4 + 1, none⟩ = some (.int .i64 X.three) ∧ w'.cell? ⟨g, q * 4 + 2, none⟩ = some (.int .i64 X.five) ∧ w'.cell? ⟨g, q * 4 + 3, none⟩ = some (.int .i64 X.root) ∧ w'.cell? ⟨g, h * 4, none⟩ = some (.int .i64 Y.two) ∧ w'.cell? ⟨g, h * 4 + 1, none⟩ = some (.int .i64 Y.three) ∧ w'.cell? ⟨g, h * 4 + 2, none⟩ = some (.int .i64 Y.five) ∧ w'.cell? ⟨g, h * 4 + 3, none⟩ = some (.int .i64 Y.root)) (with_reducible first | exact row2_cells (row2_drew R2.out) | exact row2_cells (row2_keep (by assumption) R2.out) | exact row2_cells R2.out)
            (first
              | (go_at_call 17; refine (calls_fromS (W := wr) (by with_reducible first | assumption | exact (Below.refl _ _).drew) (cmpP_run (by with_reducible assumption) _ (senAt_below SJ.out (by with_reducible first | assumption | exact (Below.refl _ _).drew)))).mono ?_; rintro e9 w1 ⟨rfl, hb1⟩))
          have S1 := Lib.hid (HR.out.below hb1)
          clear hb1
          go_wp2_with fail
          go_roundg (j - (h + 1))
          case measure => omega
          case rel => exact ⟨h + 1, j, by go_num, rfl, Nat.le_refl _, by omega, by omega, hjb, Or.inr (by rw [Nat.add_sub_cancel, show mid + m - (h + 1) = q by have := HQ.out; have := HP.out; omega, ← HY.out, ← HX.out]; have := KY.out; omega), C2, S1⟩
      · have k1 : ¬ (i : Int) < j := by omega
        have e : j = i := by omega
        subst e
        have MP := merge_parts H1.out H2.out (by omega) (by omega) MID.out S0.out R0.out hai hjb C1.out C2.out
        obtain ⟨e, he⟩ : ∃ e, e = mid + m - j := ⟨_, rfl⟩
        rw [← he] at MP
        obtain ⟨m1, m2, m3, m4, m5, m6, a1, a2, a3, a4, mx⟩ := MP
        obtain ⟨f1, hf1⟩ : ∃ f1, f1 = rotF j m e f := ⟨_, rfl⟩
        have V1 := Lib.hid ((mv_rot f m2 m3).mono m1 m4)
        rw [← hf1] at a1 a2 a3 a4 mx V1
        have A1 := Lib.hid a1
        have A2 := Lib.hid a2
        have A3 := Lib.hid a3
        have A4 := Lib.hid a4
        have MX := Lib.hid mx
        have HF := Lib.hid hf1
        have c7 : IntKind.i64.wrap ((N : Int) - j) = (e : Int) := by have := HN.out; rw [IntWalk.i64_in _ (by omega)]; omega
        clear a1 a2 a3 a4 mx hf1 he hgk C1 C2
        obtain ⟨z1, hz1⟩ : ∃ z, z = decide (j < m ∧ m < e) := ⟨_, rfl⟩
        have Z1 := Lib.hid hz1
        obtain ⟨z2, hz2⟩ : ∃ z, z = decide (a < j ∧ j < mid) := ⟨_, rfl⟩
        have Z2 := Lib.hid hz2
        obtain ⟨z3, hz3⟩ : ∃ z, z = decide (mid < e ∧ e < b) := ⟨_, rfl⟩
        have Z3 := Lib.hid hz3
        clear hz1 hz2 hz3
        go_upto_region 39 with fail
        obtain ⟨W1, hW1⟩ : ∃ y, y = wr := ⟨_, rfl⟩
        rw [← hW1] at HR ⊢
        clear hW1
        go_cut [185] from 178 to 185 (fun s wx => s = .bool z1 ∧ wx = W1)
        case first =>
          by_cases g1 : j < m
          · by_cases g2 : m < e
            · have g3 : (j : Int) < m := by omega
              have g4 : (m : Int) < e := by omega
              go_wp2_with fail
              go_meet
              case rel => exact ⟨by rw [Z1.out, decide_eq_true ⟨g1, g2⟩], rfl⟩
            · have g3 : (j : Int) < m := by omega
              have g4 : ¬ (m : Int) < e := by omega
              go_wp2_with fail
              go_meet
              case rel => exact ⟨by rw [Z1.out, decide_eq_false (fun hh => g2 hh.2)], rfl⟩
          · have g3 : ¬ (j : Int) < m := by omega
            go_wp2_with fail
            go_meet
            case rel => exact ⟨by rw [Z1.out, decide_eq_false (fun hh => g1 hh.1)], rfl⟩
        case rest =>
        obtain ⟨rfl, rfl⟩ := hcut
        go_upto_if 185 with fail
        go_cut [] from 185 to 191 (fun wx => Hid (Srt w0 B g cap n f1 wx))
        case first =>
          cases z1
          · have E := Z1.out
            have g1 : ¬ (j < m ∧ m < e) := of_decide_eq_false E.symm
            have g2 : f1 = f := by
              rw [HF.out]
              rcases (show j = m ∨ m = e from by omega) with q | q
              · rw [q, rot_left]
              · rw [← q, rot_right]
            clear E
            go_wp2_with fail
            go_meet
            case rel => exact Lib.hid (by rw [g2]; exact HR.out)
          · have g1 : j < m ∧ m < e := of_decide_eq_true Z1.out.symm
            obtain ⟨g1, g2⟩ := g1
            go_wp2_with fail
            refine (rotate_at _ j m e rfl rfl rfl g1 g2 (by omega) hn _ HR.out).mono ?_
            rintro en w2 ⟨rfl, h2⟩
            have H2' := Lib.hid h2
            clear h2
            go_wp2_with fail
            go_meet
            case rel => exact Lib.hid (by rw [HF.out]; exact H2'.out)
        case rest =>
        have HR2 := Lib.hid hcut.out
        clear hcut HR
        go_upto_region 41 with fail
        obtain ⟨W2, hW2⟩ : ∃ y, y = wc := ⟨_, rfl⟩
        rw [← hW2] at HR2 ⊢
        clear hW2
        go_cut [199] from 192 to 199 (fun s wx => s = .bool z2 ∧ wx = W2)
        case first =>
          by_cases g1 : a < j
          · by_cases g2 : j < mid
            · have g3 : (a : Int) < j := by omega
              have g4 : (j : Int) < mid := by omega
              go_wp2_with fail
              go_meet
              case rel => exact ⟨by rw [Z2.out, decide_eq_true ⟨g1, g2⟩], rfl⟩
            · have g3 : (a : Int) < j := by omega
              have g4 : ¬ (j : Int) < mid := by omega
              go_wp2_with fail
              go_meet
              case rel => exact ⟨by rw [Z2.out, decide_eq_false (fun hh => g2 hh.2)], rfl⟩
          · have g3 : ¬ (a : Int) < j := by omega
            go_wp2_with fail
            go_meet
            case rel => exact ⟨by rw [Z2.out, decide_eq_false (fun hh => g1 hh.1)], rfl⟩
        case rest =>
        obtain ⟨rfl, rfl⟩ := hcut
        have K1 := Lib.hid (HK.out.mv V1.out hb)
        go_upto_if 199 with fail
        go_cut [] from 199 to 205 (fun wx => Hid (∃ f2, MV a mid f1 f2 ∧ AscF key a mid f2 ∧ Srt w0 B g cap n f2 wx))
        case first =>
          cases z2
          · have g1 : ¬ (a < j ∧ j < mid) := of_decide_eq_false Z2.out.symm
            go_wp2_with fail
            go_meet
            case rel => exact Lib.hid ⟨f1, MV.refl _ _ _, asc_half A1.out A2.out g1 m1 m5, HR2.out⟩
          · have g1 : a < j ∧ j < mid := of_decide_eq_true Z2.out.symm
            obtain ⟨g1, g2⟩ := g1
            go_wp2_with fail
            refine (sym_at IH.out a j mid f1 rfl rfl rfl (by omega) g1 g2 (by omega) K1.out A1.out A2.out _ HR2.out).mono ?_
            rintro en w2 ⟨rfl, h2⟩
            have H2' := Lib.hid h2
            clear h2
            go_wp2_with fail
            go_meet
            case rel => exact H2'
        case rest =>
        obtain ⟨f2, v2, s2, hr2⟩ := hcut.out
        have V2 := Lib.hid v2
        have S2 := Lib.hid s2
        have HR3 := Lib.hid hr2
        clear v2 s2 hr2 hcut HR2
        have K2 := Lib.hid (K1.out.mv V2.out (by omega))
        have A3' := Lib.hid (A3.out.congr fun t t1 t2 => V2.out.out (Or.inr t1))
        have A4' := Lib.hid (A4.out.congr fun t t1 t2 => V2.out.out (Or.inr (by omega)))
        have FIN : Hid (∀ f3, MV mid b f2 f3 → AscF key mid b f3 → MV a b f f3 ∧ AscF key a b f3) := Lib.hid fun f3 v3 s3 =>
          ⟨(V1.out.trans (V2.out.mono (Nat.le_refl _) (by omega))).trans (v3.mono (by omega) (Nat.le_refl _)), merge_done MX.out V2.out S2.out v3 s3⟩
        go_upto_region 43 with fail
        obtain ⟨W3, hW3⟩ : ∃ y, y = wc := ⟨_, rfl⟩
        rw [← hW3] at HR3 ⊢
        clear hW3
        go_cut [213] from 206 to 213 (fun s wx => s = .bool z3 ∧ wx = W3)
        case first =>
          by_cases g1 : mid < e
          · by_cases g2 : e < b
            · have g3 : (mid : Int) < e := by omega
              have g4 : (e : Int) < b := by omega
              go_wp2_with fail
              go_meet
              case rel => exact ⟨by rw [Z3.out, decide_eq_true ⟨g1, g2⟩], rfl⟩
            · have g3 : (mid : Int) < e := by omega
              have g4 : ¬ (e : Int) < b := by omega
              go_wp2_with fail
              go_meet
              case rel => exact ⟨by rw [Z3.out, decide_eq_false (fun hh => g2 hh.2)], rfl⟩
          · have g3 : ¬ (mid : Int) < e := by omega
            go_wp2_with fail
            go_meet
            case rel => exact ⟨by rw [Z3.out, decide_eq_false (fun hh => g1 hh.1)], rfl⟩
        case rest =>
        obtain ⟨rfl, rfl⟩ := hcut
        cases z3
        · have g1 : ¬ (mid < e ∧ e < b) := of_decide_eq_false Z3.out.symm
          have F3 := Lib.hid (FIN.out f2 (MV.refl _ _ _) (asc_half A3'.out A4'.out g1 m6 m4))
          go_wp2_with fail
          go_end0
          exact ⟨rfl, f2, F3.out.1, F3.out.2, HR3.out⟩
        · have g1 : mid < e ∧ e < b := of_decide_eq_true Z3.out.symm
          obtain ⟨g1, g2⟩ := g1
          go_wp2_with fail
          refine (sym_at IH.out mid e b f2 rfl rfl rfl (by omega) g1 g2 hb K2.out A3'.out A4'.out _ HR3.out).mono ?_
          rintro en w2 ⟨rfl, f3, v3, s3, h3⟩
          have F3 := Lib.hid (FIN.out f3 v3 s3)
          have H3' := Lib.hid h3
          clear v3 s3 h3
          go_wp2_with fail
          go_end0
          exact ⟨rfl, f3, F3.out.1, F3.out.2, H3'.out⟩
theorem symMerge_run {A : Addr} {key : Iv → Int} {w0 : World} {B g cap n : Nat} (hs : SenAt A w0) (hB : 0 < B) (hn : n ≤ 1000000) : ∀ k, SymOk A key w0 B g cap n k
  | 0 => fun a m b f hk ham hmb hb hK h1 h2 W h => by omega
  | k + 1 => fun a m b f hk ham hmb hb hK h1 h2 W h => by
    by_cases e1 : m = a + 1
    · subst e1
      exact symMerge_one hs hB a b hmb hb hn hK h2 W h
    · by_cases e2 : b = m + 1
      · subst e2
        exact symMerge_last hs hB a m (by omega) hb hn hK h1 W h
      · exact symMerge_step hs hB hn k (symMerge_run hs hB hn k) a m b f hk (by omega) (by omega) hb hK h1 h2 W h
end Go.Proofs.YtdnlebijmiaclabDoor
