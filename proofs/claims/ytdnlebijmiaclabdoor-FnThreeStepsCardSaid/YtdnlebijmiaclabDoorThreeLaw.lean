/- The walk of laws.FnThreeSteps. -/
import Derived.Test.YtdnlebijmiaclabDoorSteps
import Derived.Test.YtdnlebijmiaclabDoorCntImpl
import Derived.Test.YtdnlebijmiaclabDoorAtWalks
import Derived.Test.YtdnlebijmiaclabDoorGreatest
namespace Go.Proofs.YtdnlebijmiaclabDoor
open Go.RowKit Go.Joins
set_option linter.unusedVariables false
/-- AddIntervals, told without a look inside. -/
def AddSays (x y z : Iv) : Prop := ∀ w, Calls Tryd.prog 19 #[ivV x.two x.three x.five x.root, ivV y.two y.three y.five y.root] w fun en w' => en = .returned (.tuple #[ivV z.two z.three z.five z.root, .bool true]) ∧ Below w.heap.size w w'
theorem add_says {x y z : Iv} (h : addV x y = (z, true)) : AddSays x y z := fun w => by
  have t := add_total x y w
  rw [h] at t
  exact t
def CmpSays (A : Addr) (x y : Iv) (C : Int) : Prop := ∀ w, SenAt A w → Calls Tryd.prog 17 #[ivV x.two x.three x.five x.root, ivV y.two y.three y.five y.root] w fun en w' => en = .returned (.int .i64 C) ∧ Below w.heap.size w w'
/-- A new block of zeros, behind B. -/
def ZeroT (B m : Nat) (w : World) : Prop := B ≤ m ∧ Zero4 m w
theorem zeroT_alloc {W X : World} {t : TypeId} (h : Below W.heap.size W X) : ZeroT W.heap.size X.heap.size (X.alloc (.cells #[.int .i64 0, .int .i64 0, .int .i64 0, .int .i64 0] t)) := ⟨h.size, zero4_alloc⟩
theorem zeroT_drew {B m : Nat} {X : World} (h : ZeroT B m X) : ZeroT B m X.drew := h
theorem belowT_al {W X : World} {o : Obj} (h : Below W.heap.size W X) : Below W.heap.size W (X.alloc o) := h.alloc h.size o
theorem calls_zeroT {P : Program} {k : FuncId} {args : Array Value} {W w : World} {v : Value} {B m : Nat} (h : Below W.heap.size W w) (hz : ZeroT B m w) (hk : Calls P k args w fun e w' => e = .returned v ∧ Below w.heap.size w w') :
    Calls P k args w fun e w' => e = .returned v ∧ Below W.heap.size W w' ∧ ZeroT B m w' :=
  hk.mono fun _ _ ⟨he, hb⟩ => ⟨he, h.trans (hb.mono h.size), hz.1, zero4_keep hb hz.2⟩
/-- One interval in a block, one in a row. -/
def Duo (m g i : Nat) (x y : Iv) (w : World) : Prop := Both m g (i * 4) x.two x.three x.five x.root y.two y.three y.five y.root w
theorem duo_keep {W w : World} {m g i : Nat} {x y : Iv} (hb : Below W.heap.size W w) (h : Duo m g i x y W) : Duo m g i x y w := both_keep hb h
theorem duo_drew {w : World} {m g i : Nat} {x y : Iv} (h : Duo m g i x y w) : Duo m g i x y w.drew := h
theorem duo_al {w : World} {m g i : Nat} {x y : Iv} {o : Obj} (h : Duo m g i x y w) : Duo m g i x y (w.alloc o) := duo_keep ((Below.refl _ _).alloc (Nat.le_refl _) o) h
theorem duo_cells {w : World} {m g i : Nat} {x y : Iv} (h : Duo m g i x y w) : w.cell? ⟨m, 0, none⟩ = some (.int .i64 x.two) ∧ w.cell? ⟨m, 1, none⟩ = some (.int .i64 x.three) ∧ w.cell? ⟨m, 2, none⟩ = some (.int .i64 x.five) ∧ w.cell? ⟨m, 3, none⟩ = some (.int .i64 x.root) ∧ w.cell? ⟨g, i * 4, none⟩ = some (.int .i64 y.two) ∧ w.cell? ⟨g, i * 4 + 1, none⟩ = some (.int .i64 y.three) ∧ w.cell? ⟨g, i * 4 + 2, none⟩ = some (.int .i64 y.five) ∧ w.cell? ⟨g, i * 4 + 3, none⟩ = some (.int .i64 y.root) := both_cells h
/-- The three variables and the row. -/
structure Hold (T : Nat) (g n cap : Nat) (p q : Nat) (mS mB mL : Nat) (s b l : Iv) (w0 w : World) : Prop where
  row : w.ownsRow T 25 4 (.slice (some ⟨g, 0, none⟩) n cap) n (ivCs (rowL n (stG p q)))
  fs : FourW mS s w
  fb : FourW mB b w
  fl : FourW mL l w
  gs : g < mS
  sb : mS < mB
  bl : mB < mL
  lo : w0.heap.size ≤ mS
  bel : Below w0.heap.size w0 w
theorem Hold.keep {T g n cap p q mS mB mL : Nat} {s b l : Iv} {w0 W w : World} (h : Hold T g n cap p q mS mB mL s b l w0 W) (hb : Below W.heap.size W w) : Hold T g n cap p q mS mB mL s b l w0 w :=
  ⟨own4_below h.row hb, fourW_keep hb h.fs, fourW_keep hb h.fb, fourW_keep hb h.fl, h.gs, h.sb, h.bl, h.lo, h.bel.trans (hb.mono h.bel.size)⟩
theorem setT {w : World} {m n : Nat} {y z : Iv} (hn : n ≠ m) (hz : FourW n z w) :
    FourW n z ((((w.setCell ⟨m, 0, none⟩ (.int .i64 y.two)).setCell ⟨m, 1, none⟩ (.int .i64 y.three)).setCell ⟨m, 2, none⟩ (.int .i64 y.five)).setCell ⟨m, 3, none⟩ (.int .i64 y.root)) :=
  ⟨four_other hn hz.1, fun o => by rw [World.frozen?_setCell, World.frozen?_setCell, World.frozen?_setCell, World.frozen?_setCell]; exact hz.2 o⟩
theorem setSelf {w : World} {m : Nat} {x y : Iv} (h : FourW m x w) :
    FourW m y ((((w.setCell ⟨m, 0, none⟩ (.int .i64 y.two)).setCell ⟨m, 1, none⟩ (.int .i64 y.three)).setCell ⟨m, 2, none⟩ (.int .i64 y.five)).setCell ⟨m, 3, none⟩ (.int .i64 y.root)) :=
  ⟨four_set h.1, fun o => by rw [World.frozen?_setCell, World.frozen?_setCell, World.frozen?_setCell, World.frozen?_setCell]; exact h.2 o⟩
theorem Hold.setS {T g n cap p q mS mB mL : Nat} {s b l y : Iv} {w0 w : World} (h : Hold T g n cap p q mS mB mL s b l w0 w) :
    ∃ X, X = ((((w.setCell ⟨mS, 0, none⟩ (.int .i64 y.two)).setCell ⟨mS, 1, none⟩ (.int .i64 y.three)).setCell ⟨mS, 2, none⟩ (.int .i64 y.five)).setCell ⟨mS, 3, none⟩ (.int .i64 y.root)) ∧ Hold T g n cap p q mS mB mL y b l w0 X :=
  ⟨_, rfl, own4_under (m := mS) (fun j hj => by cases hj; exact h.gs) h.row (below_set4w (Nat.le_refl _) (Below.refl _ _)), setSelf h.fs, setT (Nat.ne_of_gt h.sb) h.fb, setT (Nat.ne_of_gt (Nat.lt_trans h.sb h.bl)) h.fl, h.gs, h.sb, h.bl, h.lo, below_set4w h.lo h.bel⟩
theorem Hold.setB {T g n cap p q mS mB mL : Nat} {s b l y : Iv} {w0 w : World} (h : Hold T g n cap p q mS mB mL s b l w0 w) :
    ∃ X, X = ((((w.setCell ⟨mB, 0, none⟩ (.int .i64 y.two)).setCell ⟨mB, 1, none⟩ (.int .i64 y.three)).setCell ⟨mB, 2, none⟩ (.int .i64 y.five)).setCell ⟨mB, 3, none⟩ (.int .i64 y.root)) ∧ Hold T g n cap p q mS mB mL s y l w0 X :=
  ⟨_, rfl, own4_under (m := mB) (fun j hj => by cases hj; exact Nat.lt_trans h.gs h.sb) h.row (below_set4w (Nat.le_refl _) (Below.refl _ _)), setT (Nat.ne_of_lt h.sb) h.fs, setSelf h.fb, setT (Nat.ne_of_gt h.bl) h.fl, h.gs, h.sb, h.bl, h.lo, below_set4w (Nat.le_trans h.lo (Nat.le_of_lt h.sb)) h.bel⟩
theorem Hold.setL {T g n cap p q mS mB mL : Nat} {s b l y : Iv} {w0 w : World} (h : Hold T g n cap p q mS mB mL s b l w0 w) :
    ∃ X, X = ((((w.setCell ⟨mL, 0, none⟩ (.int .i64 y.two)).setCell ⟨mL, 1, none⟩ (.int .i64 y.three)).setCell ⟨mL, 2, none⟩ (.int .i64 y.five)).setCell ⟨mL, 3, none⟩ (.int .i64 y.root)) ∧ Hold T g n cap p q mS mB mL s b y w0 X :=
  ⟨_, rfl, own4_under (m := mL) (fun j hj => by cases hj; exact Nat.lt_trans h.gs (Nat.lt_trans h.sb h.bl)) h.row (below_set4w (Nat.le_refl _) (Below.refl _ _)), setT (Nat.ne_of_lt (Nat.lt_trans h.sb h.bl)) h.fs, setT (Nat.ne_of_lt h.bl) h.fb, setSelf h.fl, h.gs, h.sb, h.bl, h.lo, below_set4w (Nat.le_trans h.lo (Nat.le_of_lt (Nat.lt_trans h.sb h.bl))) h.bel⟩
theorem Hold.at {T g n cap p q mS mB mL : Nat} {s b l : Iv} {w0 w : World} (h : Hold T g n cap p q mS mB mL s b l w0 w) {k : Nat} (hk : k < n) : g < w.heap.size ∧ w.cell? ⟨g, k * 4, none⟩ = some (.int .i64 (stG p q k).two) ∧ w.cell? ⟨g, k * 4 + 1, none⟩ = some (.int .i64 (stG p q k).three) ∧ w.cell? ⟨g, k * 4 + 2, none⟩ = some (.int .i64 (stG p q k).five) ∧ w.cell? ⟨g, k * 4 + 3, none⟩ = some (.int .i64 (stG p q k).root) := by
  have r := own_iv h.row (rowL_len n _).symm k hk
  rw [rowL_at _ hk] at r
  exact ⟨Nat.lt_trans h.gs h.fs.1.1, r⟩
theorem Hold.duoS {T g n cap p q mS mB mL : Nat} {s b l : Iv} {w0 w : World} (h : Hold T g n cap p q mS mB mL s b l w0 w) {k : Nat} (hk : k < n) : Duo mS g k s (stG p q k) w := ⟨h.fs.1, h.at hk⟩
theorem Hold.duoB {T g n cap p q mS mB mL : Nat} {s b l : Iv} {w0 w : World} (h : Hold T g n cap p q mS mB mL s b l w0 w) {k : Nat} (hk : k < n) : Duo mB g k b (stG p q k) w := ⟨h.fb.1, h.at hk⟩
theorem Hold.duoL {T g n cap p q mS mB mL : Nat} {s b l : Iv} {w0 w : World} (h : Hold T g n cap p q mS mB mL s b l w0 w) {k : Nat} (hk : k < n) : Duo mL g k l (stG p q k) w := ⟨h.fl.1, h.at hk⟩
theorem neq4 {P Q : Iv} (h : P ≠ Q) : (P.two == Q.two) = false ∨ ((P.two == Q.two) = true ∧ (P.three == Q.three) = false) ∨ ((P.two == Q.two) = true ∧ (P.three == Q.three) = true ∧ (P.five == Q.five) = false) ∨ ((P.two == Q.two) = true ∧ (P.three == Q.three) = true ∧ (P.five == Q.five) = true ∧ (P.root == Q.root) = false) := by
  rcases neq_cases P Q with k | k | k | k | ⟨k1, k2, k3, k4⟩
  · exact .inl k
  · exact .inr (.inl k)
  · exact .inr (.inr (.inl k))
  · exact .inr (.inr (.inr k))
  · exact absurd (eqV_iff.1 (by unfold eqV; rw [k1, k2, k3, k4]; rfl)) h
theorem big_step {p q k : Nat} {C : Int} (hC : C = cmpV (stG p q k) (bigG p q k)) : bigG p q (k + 1) = if 0 < C then stG p q k else bigG p q k := by rw [hC]; rfl
theorem least_step {p q k : Nat} {C : Int} (hC : C = cmpV (stG p q k) (leastG p q k)) : leastG p q (k + 1) = if C < 0 then stG p q k else leastG p q k := by rw [hC]; rfl

set_option maxRecDepth 100000 in
set_option maxHeartbeats 32000000 in
theorem walk_FnThreeSteps (P : Addr) (a0 : Option Addr) (len0 cap0 : Nat) (z0 : List Int) (w : World) (hs : SenAt P w) (hr : IsRow .u8 w a0 len0 cap0 z0) :
    Calls Tryd.prog 10 #[.slice a0 len0 cap0] w fun e w' => e = .returned (.bool true) ∧ Below w.heap.size w w' := by
  have hlen := (row_len hr).2
  have HS := Lib.hid hs
  clear hs
  by_cases hbig : 1048576 < len0
  · have t0 : decide (1048576 < (len0 : Int)) = true := by simp; omega
    go_enter Tryd.func10, Tryd.ntmps10
    go_wp2_with fail
    refine (bigA_any _ _ _ _ hlen).mono ?_
    rintro e w' ⟨rfl, rfl⟩
    go_wp2_with fail
    go_ret
    exact ⟨rfl, Below.refl _ _⟩
  · have t0 : decide (1048576 < (len0 : Int)) = false := by simp; omega
    have AT0 := Lib.hid (at_any hr (by omega) 0 (by omega))
    have AT1 := Lib.hid (at_any hr (by omega) 1 (by omega))
    clear hr
    go_enter Tryd.func10, Tryd.ntmps10
    go_wp2_with fail
    refine (bigA_any _ _ _ _ hlen).mono ?_
    rintro e w' ⟨rfl, rfl⟩
    rw [t0]
    go_wp2_with fail
    refine AT0.out.mono ?_
    rintro e w0 ⟨u, hu, rfl, rfl⟩
    obtain ⟨p, hr1, hp⟩ : ∃ r : Nat, (u : Int) % 13 = (r : Int) ∧ r < 13 := ⟨u % 13, by omega, by omega⟩
    have hm : (u : Int).tmod 13 = (p : Int) := by rw [Int.tmod_eq_emod_of_nonneg (by omega)]; exact hr1
    obtain ⟨low, hlow⟩ : ∃ a : Int, a = -(p : Int) := ⟨_, rfl⟩
    have wa : IntKind.i64.wrap (-(p : Int)) = low := by rw [IntWalk.i64_in _ (by omega)]; exact hlow.symm
    have HLW := Lib.hid hlow
    clear hr1 hu hlow
    go_wp2_with fail
    clear hm wa
    refine AT1.out.mono ?_
    rintro e w0 ⟨u1, hu1, rfl, rfl⟩
    obtain ⟨q, hr1, hq⟩ : ∃ r : Nat, (u1 : Int) % 13 = (r : Int) ∧ r < 13 := ⟨u1 % 13, by omega, by omega⟩
    have hm : (u1 : Int).tmod 13 = (q : Int) := by rw [Int.tmod_eq_emod_of_nonneg (by omega)]; exact hr1
    clear hr1 hu1 t0 hbig hlen
    go_wp2_with fail
    clear hm
    refine (chain_impl P low (q : Int) _ HS.out).mono ?_
    rintro en w1 ⟨⟨v1, rfl, h1⟩, hb1⟩
    obtain ⟨n, hn⟩ : ∃ n, n = p + q + 1 := ⟨_, rfl⟩
    have O1 : Hid (w1.ownsRow w.heap.size 25 4 v1 n (ivCs (rowL n (chG p q)))) := Lib.hid (by
      have := HLW.out
      rcases h1 with ⟨hno, _⟩ | ⟨_, n1, f1, e1, mv1, as1, o1⟩
      · exact absurd ⟨by omega, by omega, by omega⟩ hno
      · obtain rfl : n1 = n := by omega
        obtain ⟨mv2, as2⟩ := chain_is p q hp hq
        rw [this, hn] at mv1
        rw [hn] at as1
        have u := asc_unique (chain_inj (low := -(p : Int)) (n := p + q + 1) (by omega) (by omega)) mv2 mv1 as2 as1
        rw [hn, rowL_congr u, ← hn]
        exact o1)
    have B1 := Lib.hid hb1
    have HS1 := Lib.hid (senAt_below HS.out hb1)
    have h0 : 0 < n := by omega
    have hn25 : n ≤ 25 := by omega
    clear h1 hb1
    go_wp2_with fail
    refine (steps_impl P hp hq hn _ HS1.out _ _ O1.out).mono ?_
    rintro en w2 ⟨⟨v2, rfl, o2⟩, hb2⟩
    obtain ⟨g, cap, rfl, hg2, hgl⟩ := own4_pos o2 h0
    obtain ⟨g1, cap1, rfl, _, _⟩ := own4_pos O1.out h0
    have O2 := Lib.hid (own_rebase o2 B1.out.size)
    have B2 := Lib.hid (B1.out.trans (hb2.mono B1.out.size))
    have HS2 := Lib.hid (senAt_below HS1.out hb2)
    have EC := end_chk p hp q hq
    unfold endChk at EC
    simp only [Bool.and_eq_true, decide_eq_true_eq] at EC
    rw [← hn] at EC
    have CC := count_impl w2 _ _ _ (rowL n (stG p q)) (by rw [rowL_len]; omega) (by rw [rowL_len]; exact o2)
    obtain ⟨c, hc⟩ : ∃ c, c = cntV (rowL n (stG p q)) := ⟨_, rfl⟩
    rw [← hc] at CC EC
    obtain ⟨⟨_, es⟩, ec1, ec2⟩ := EC
    have ES := Lib.hid (eqV_iff.1 es)
    have e1 : decide (3 < c) = false := decide_eq_false (by omega)
    have e2 : decide (c < 1) = false := decide_eq_false (by omega)
    have e3 : ¬ 3 < c := by omega
    have e4 : ¬ c < 1 := by omega
    have CC2 : Hid (∀ X, Below w2.heap.size w2 X → Calls Tryd.prog 42 #[.slice (some ⟨g, 0, none⟩) n cap] X fun en w' => en = .returned (.int .i64 c) ∧ Below X.heap.size X w') := Lib.hid fun X hX => by
      rw [hc]
      exact count_impl X _ _ _ (rowL n (stG p q)) (by rw [rowL_len]; omega) (by rw [rowL_len]; exact own4_below o2 hX)
    have k1 : IntKind.i64.wrap ((q : Int) - low) = (n : Int) - 1 := by have := HLW.out; rw [IntWalk.i64_in _ (by omega)]; omega
    have k2 : IntKind.i64.wrap ((n : Int) - 1 + 1) = (n : Int) := by rw [IntWalk.i64_in _ (by omega)]; omega
    have k3 : ((n : Int) != (n : Int)) = false := by simp
    have GL := Lib.hid hgl
    have HN := Lib.hid hn
    clear o2 hb2 O1 B1 hg2 hgl es ec1 ec2 CC hc hn HS1
    go_wp2_with fail
    refine (CC2.out _ (Below.refl _ _)).mono ?_
    rintro en w3 ⟨rfl, hb3⟩
    go_wp2_with fail
    refine (CC2.out _ hb3).mono ?_
    rintro en w4 ⟨rfl, hb4⟩
    have b4 := hb3.trans (hb4.mono hb3.size)
    have O4 := Lib.hid (own4_below O2.out b4)
    have B4 := Lib.hid (B2.out.trans (b4.mono B2.out.size))
    have HS4 := Lib.hid (senAt_below HS2.out b4)
    have GL4 := Lib.hid (Nat.lt_of_lt_of_le GL.out b4.size)
    clear hb3 hb4 b4 CC2 O2 B2 HS2 GL k1 k2 k3
    go_wp2_with fail
    clear e1 e2 e3 e4
    refine (prime_one _).mono ?_
    rintro en w5 ⟨rfl, hb5⟩
    go_upto_region 10 with fail
    obtain ⟨mS, hmS⟩ : ∃ m, m = w5.heap.size := ⟨_, rfl⟩
    obtain ⟨W6, hW6⟩ : ∃ y, y = w5.alloc (.cells #[.int .i64 0, .int .i64 0, .int .i64 0, .int .i64 1] 25) := ⟨_, rfl⟩
    have FQ := Lib.hid (show FourW mS ⟨0, 0, 0, 1⟩ W6 from by rw [hW6, hmS]; exact fourW_alloc (x := ⟨0, 0, 0, 1⟩))
    have kb := hb5.trans ((show Below w5.heap.size w5 W6 from by rw [hW6]; exact below_alloc1 w5 _).mono hb5.size)
    have O6 := Lib.hid (own4_below O4.out kb)
    have B6 := Lib.hid (B4.out.trans (kb.mono B4.out.size))
    have GS := Lib.hid (show g < mS from by rw [hmS]; exact Nat.lt_of_lt_of_le GL4.out hb5.size)
    have LS := Lib.hid (show w.heap.size ≤ mS from by rw [hmS]; exact Nat.le_trans B4.out.size hb5.size)
    rw [← hW6, ← hmS]
    obtain ⟨X0, hX0⟩ : ∃ X, X = stG p q 0 := ⟨_, rfl⟩
    have r0 := own_iv O6.out (rowL_len n _).symm 0 h0
    rw [rowL_at _ h0, ← hX0] at r0
    obtain ⟨x0, x1, x2, x3⟩ := (show W6.cell? ⟨g, 0, none⟩ = some (.int .i64 X0.two) ∧ W6.cell? ⟨g, 1, none⟩ = some (.int .i64 X0.three) ∧ W6.cell? ⟨g, 2, none⟩ = some (.int .i64 X0.five) ∧ W6.cell? ⟨g, 3, none⟩ = some (.int .i64 X0.root) from ⟨by simpa using r0.1, by simpa using r0.2.1, by simpa using r0.2.2.1, by simpa using r0.2.2.2⟩)
    have q0 : (0 : Int) < n := by omega
    have HX0 := Lib.hid hX0
    clear hW6 hmS kb hb5 r0 hX0 O4 B4 HS4 GL4
    go_upto_region 11 with fail
    obtain ⟨mB, hmB⟩ : ∃ m, m = W6.heap.size := ⟨_, rfl⟩
    obtain ⟨W7, hW7⟩ : ∃ y, y = W6.alloc (.cells #[.int .i64 X0.two, .int .i64 X0.three, .int .i64 X0.five, .int .i64 X0.root] 25) := ⟨_, rfl⟩
    have FB := Lib.hid (show FourW mB X0 W7 from by rw [hW7, hmB]; exact fourW_alloc)
    have kb : Below W6.heap.size W6 W7 := by rw [hW7]; exact below_alloc1 W6 _
    have O7 := Lib.hid (own4_below O6.out kb)
    have B7 := Lib.hid (B6.out.trans (kb.mono B6.out.size))
    have FS7 := Lib.hid (fourW_keep kb FQ.out)
    have SB := Lib.hid (show mS < mB from by rw [hmB]; exact FQ.out.1.1)
    have r0 := own_iv O7.out (rowL_len n _).symm 0 h0
    rw [rowL_at _ h0, ← HX0.out] at r0
    rw [← hW7, ← hmB]
    clear x0 x1 x2 x3
    obtain ⟨x0, x1, x2, x3⟩ := (show W7.cell? ⟨g, 0, none⟩ = some (.int .i64 X0.two) ∧ W7.cell? ⟨g, 1, none⟩ = some (.int .i64 X0.three) ∧ W7.cell? ⟨g, 2, none⟩ = some (.int .i64 X0.five) ∧ W7.cell? ⟨g, 3, none⟩ = some (.int .i64 X0.root) from ⟨by simpa using r0.1, by simpa using r0.2.1, by simpa using r0.2.2.1, by simpa using r0.2.2.2⟩)
    clear hW7 hmB kb r0 O6 B6 FQ
    go_upto_region 12 with fail
    obtain ⟨mL, hmL⟩ : ∃ m, m = W7.heap.size := ⟨_, rfl⟩
    obtain ⟨W8, hW8⟩ : ∃ y, y = W7.alloc (.cells #[.int .i64 X0.two, .int .i64 X0.three, .int .i64 X0.five, .int .i64 X0.root] 25) := ⟨_, rfl⟩
    have HL0 := Lib.hid (show Hold w.heap.size g n cap p q mS mB mL (sumG p q 0) (bigG p q 0) (leastG p q 0) w W8 from by
      have kb : Below W7.heap.size W7 W8 := by rw [hW8]; exact below_alloc1 W7 _
      have e : X0 = stG p q 0 := HX0.out
      exact ⟨own4_below O7.out kb, fourW_keep kb FS7.out, by show FourW mB (stG p q 0) W8; rw [← e]; exact fourW_keep kb FB.out, by show FourW mL (stG p q 0) W8; rw [← e, hW8, hmL]; exact fourW_alloc, GS.out, SB.out, by rw [hmL]; exact FB.out.1.1, LS.out, B7.out.trans (kb.mono B7.out.size)⟩)
    rw [← hW8, ← hmL]
    clear hW8 hmL x0 x1 x2 x3 O7 B7 FS7 FB GS LS SB HX0 q0
    go_wp2_with fail
    go_loopw [10] (fun i wr => ∃ (k : Nat), k ≤ n ∧ i = .int .i64 (k : Int) ∧ Hid (Hold w.heap.size g n cap p q mS mB mL (sumG p q k) (bigG p q k) (leastG p q k) w wr)) (fun i _ => n - (intOf i).toNat)
    case atStart => exact ⟨0, Nat.zero_le _, rfl, HL0⟩
    case round =>
      obtain ⟨k, hk, rfl, H⟩ := hrel
      clear HL0
      by_cases hlt : k < n
      · have q3 : (k : Int) < n := by omega
        have SC := step_chk p hp q hq
        unfold stepChk at SC
        rw [← HN.out] at SC
        have S1 := allN_of SC k hlt
        simp only [Bool.and_eq_true, decide_eq_true_eq] at S1
        obtain ⟨⟨_, d2⟩, d3⟩ := S1
        obtain ⟨D, hD⟩ : ∃ X, X = stG p q k := ⟨_, rfl⟩
        obtain ⟨S, hS⟩ : ∃ X, X = sumG p q k := ⟨_, rfl⟩
        obtain ⟨B, hB⟩ : ∃ X, X = bigG p q k := ⟨_, rfl⟩
        obtain ⟨L, hL⟩ : ∃ X, X = leastG p q k := ⟨_, rfl⟩
        obtain ⟨N, hN⟩ : ∃ X, X = sumG p q (k + 1) := ⟨_, rfl⟩
        obtain ⟨C, hC⟩ : ∃ C, C = cmpV D ⟨0, 0, 0, 1⟩ := ⟨_, rfl⟩
        obtain ⟨CB, hCB⟩ : ∃ C, C = cmpV D B := ⟨_, rfl⟩
        obtain ⟨CL, hCL⟩ : ∃ C, C = cmpV D L := ⟨_, rfl⟩
        have AS : AddSays S D N := add_says (by rw [hS, hD, hN]; exact Prod.ext rfl d3)
        have SG : SignSays P D C := fun w hs => by rw [hC]; exact sign_impl P _ _ _ _ w hs
        have PB : CmpSays P D B CB := fun w hs => by rw [hCB]; exact compare_impl P _ _ _ _ _ _ _ _ w hs
        have PL : CmpSays P D L CL := fun w hs => by rw [hCL]; exact compare_impl P _ _ _ _ _ _ _ _ w hs
        have hC1 : ¬ C ≤ 0 := by rw [hC, hD]; omega
        have EB := Lib.hid (big_step (p := p) (q := q) (k := k) (C := CB) (by rw [hCB, hD, hB]))
        have EL := Lib.hid (least_step (p := p) (q := q) (k := k) (C := CL) (by rw [hCL, hD, hL]))
        rw [← hD, ← hB] at EB
        rw [← hD, ← hL] at EL
        rw [← hS, ← hB, ← hL] at H
        have HD := Lib.hid hD
        have HNN := Lib.hid hN
        have DU := Lib.hid (H.out.duoS hlt)
        rw [← hD] at DU
        clear SC d2 d3 hD hS hB hL hN hC hCB hCL
        go_upto_region 15 with fail
        go_cut [11, 12] (fun s11 s12 wx => ∃ m : Nat, s11 = .pointer (some ⟨m, 0, none⟩) ∧ s12 = .bool true ∧ Below wr.heap.size wr wx ∧ Four m N.two N.three N.five N.root wx)
        case first =>
          go_region_held3 (fun w' => w'.cell? ⟨mS, 0, none⟩ = some (.int .i64 S.two) ∧ w'.cell? ⟨mS, 1, none⟩ = some (.int .i64 S.three) ∧ w'.cell? ⟨mS, 2, none⟩ = some (.int .i64 S.five) ∧ w'.cell? ⟨mS, 3, none⟩ = some (.int .i64 S.root) ∧ w'.cell? ⟨g, k * 4, none⟩ = some (.int .i64 D.two) ∧ w'.cell? ⟨g, k * 4 + 1, none⟩ = some (.int .i64 D.three) ∧ w'.cell? ⟨g, k * 4 + 2, none⟩ = some (.int .i64 D.five) ∧ w'.cell? ⟨g, k * 4 + 3, none⟩ = some (.int .i64 D.root)) (with_reducible first | exact duo_cells (duo_drew DU.out) | exact duo_cells (duo_keep (by assumption) DU.out) | exact duo_cells DU.out | exact duo_cells (duo_al (duo_drew DU.out)) | exact duo_cells (duo_drew (duo_al DU.out)) | exact duo_cells (duo_al (duo_keep (by assumption) DU.out)) | exact duo_cells (duo_keep (below_set4w (by assumption) (by assumption)) DU.out))
            (first
              | (go_at_call 19; refine (calls_zeroT (W := wr) (B := wr.heap.size) (by with_reducible first | assumption | exact belowT_al (by assumption) | exact (Below.refl _ _).drew | exact (belowT_al (Below.refl _ _)).drew) (by with_reducible first | assumption | exact zeroT_alloc (by assumption) | exact zeroT_drew (zeroT_alloc (Below.refl _ _))) (AS _)).mono ?_; rintro e1 wy ⟨rfl, hb, hzb⟩; obtain ⟨zb, ⟨⟨zm, z0, z1, z2, z3⟩, zf⟩⟩ := id hzb)
              | (go_at_call 19; refine (calls_fromF (W := wr) (by with_reducible first | assumption | exact (Below.refl _ _).drew) (AS _)).mono ?_; rintro e1 wy ⟨rfl, hb⟩)
            )
          all_goals
            go_wp2_with fail
            go_meet
            first
              | exact ⟨_, rfl, rfl, belowT_al hb, four_alloc⟩
              | exact ⟨_, rfl, rfl, below_set4w hzb.1 hb, four_set ⟨zm, z0, z1, z2, z3⟩⟩
        case rest =>
        obtain ⟨mA, rfl, rfl, hbA, hA⟩ := hcut
        have H2 := Lib.hid (H.out.keep hbA)
        have FA := Lib.hid hA
        have HS2 := Lib.hid (senAt_below HS.out H2.out.bel)
        obtain ⟨_, x0, x1, x2, x3⟩ := H2.out.at hlt
        rw [← HD.out] at x0 x1 x2 x3
        obtain ⟨W1, hW1⟩ : ∃ y, y = wc := ⟨_, rfl⟩
        rw [← hW1] at H2 FA HS2 x0 x1 x2 x3 ⊢
        clear hbA hA DU H hW1
        go_wp2_with fail
        refine (SG _ HS2.out).mono ?_
        rintro en w6 ⟨rfl, hb6⟩
        have H3 := Lib.hid (H2.out.keep hb6)
        obtain ⟨_, y0, y1, y2, y3⟩ := four_keep hb6 FA.out
        have fz := H3.out.fs.2
        obtain ⟨s0, s1, s2, s3⟩ := four_cellsW H3.out.fs
        clear hb6 H2 FA HS2 x0 x1 x2 x3
        go_upto_region 19 with fail
        obtain ⟨W2, hW2, h4⟩ := H3.out.setS (y := N)
        rw [← hW2]
        have H4 := Lib.hid h4
        have HS4 := Lib.hid (senAt_below HS.out h4.bel)
        have DU := Lib.hid (h4.duoB hlt)
        rw [← HD.out] at DU
        clear hW2 h4 y0 y1 y2 y3 fz s0 s1 s2 s3 H3
        obtain ⟨zB, hzB⟩ : ∃ z, z = decide (0 < CB) := ⟨_, rfl⟩
        have ZB := Lib.hid hzB
        clear hzB
        go_cut [93] from 87 to 93 (fun s wx => s = .bool zB ∧ Below W2.heap.size W2 wx)
        case first =>
          go_region_held3 (fun w' => w'.cell? ⟨mB, 0, none⟩ = some (.int .i64 B.two) ∧ w'.cell? ⟨mB, 1, none⟩ = some (.int .i64 B.three) ∧ w'.cell? ⟨mB, 2, none⟩ = some (.int .i64 B.five) ∧ w'.cell? ⟨mB, 3, none⟩ = some (.int .i64 B.root) ∧ w'.cell? ⟨g, k * 4, none⟩ = some (.int .i64 D.two) ∧ w'.cell? ⟨g, k * 4 + 1, none⟩ = some (.int .i64 D.three) ∧ w'.cell? ⟨g, k * 4 + 2, none⟩ = some (.int .i64 D.five) ∧ w'.cell? ⟨g, k * 4 + 3, none⟩ = some (.int .i64 D.root)) (with_reducible first | exact duo_cells (duo_drew DU.out) | exact duo_cells (duo_keep (by assumption) DU.out) | exact duo_cells DU.out | exact duo_cells (duo_al (duo_drew DU.out)) | exact duo_cells (duo_drew (duo_al DU.out)) | exact duo_cells (duo_al (duo_keep (by assumption) DU.out)) | exact duo_cells (duo_keep (below_set4w (by assumption) (by assumption)) DU.out))
            (first
              | (go_at_call 17; refine (calls_fromF (W := W2) (by with_reducible first | assumption | exact (Below.refl _ _).drew) (PB _ (senAt_below HS4.out (by with_reducible first | assumption | exact (Below.refl _ _).drew)))).mono ?_; rintro e1 wy ⟨rfl, hb⟩)
            )
          all_goals
            go_wp2_with fail
            go_meet
            exact ⟨by rw [ZB.out], hb⟩
        case rest =>
        obtain ⟨rfl, hbq⟩ := hcut
        have H5 := Lib.hid (H4.out.keep hbq)
        obtain ⟨W1, hW1⟩ : ∃ y, y = wc := ⟨_, rfl⟩
        rw [← hW1] at H5 ⊢
        clear hbq H4 HS4 DU hW1
        go_upto_if 93 with fail
        go_cut [] from 93 to 97 (fun wx => Hid (Hold w.heap.size g n cap p q mS mB mL N (bigG p q (k + 1)) L w wx))
        case first =>
          cases zB
          · have e := Lib.hid (show bigG p q (k + 1) = B from by rw [EB.out, if_neg (of_decide_eq_false ZB.out.symm)])
            go_wp2_with fail
            go_meet
            case rel => exact Lib.hid (by rw [e.out]; exact H5.out)
          · have e := Lib.hid (show bigG p q (k + 1) = D from by rw [EB.out, if_pos (of_decide_eq_true ZB.out.symm)])
            obtain ⟨_, x0, x1, x2, x3⟩ := H5.out.at hlt
            rw [← HD.out] at x0 x1 x2 x3
            have fz := H5.out.fb.2
            obtain ⟨s0, s1, s2, s3⟩ := four_cellsW H5.out.fb
            go_wp2_with fail
            obtain ⟨W3, hW3, h6⟩ := H5.out.setB (y := D)
            rw [← hW3]
            have H6 := Lib.hid h6
            clear hW3 h6 x0 x1 x2 x3 fz s0 s1 s2 s3
            go_meet
            case rel => exact Lib.hid (by rw [e.out]; exact H6.out)
        case rest =>
        have H6 := Lib.hid hcut.out
        obtain ⟨W1, hW1⟩ : ∃ y, y = wc := ⟨_, rfl⟩
        rw [← hW1] at H6 ⊢
        have HS4 := Lib.hid (senAt_below HS.out H6.out.bel)
        have DU := Lib.hid (H6.out.duoL hlt)
        rw [← HD.out] at DU
        clear hcut hW1 H5
        go_upto_region 21 with fail
        obtain ⟨zL, hzL⟩ : ∃ z, z = decide (CL < 0) := ⟨_, rfl⟩
        have ZL := Lib.hid hzL
        clear hzL
        go_cut [104] from 98 to 104 (fun s wx => s = .bool zL ∧ Below W1.heap.size W1 wx)
        case first =>
          go_region_held3 (fun w' => w'.cell? ⟨mL, 0, none⟩ = some (.int .i64 L.two) ∧ w'.cell? ⟨mL, 1, none⟩ = some (.int .i64 L.three) ∧ w'.cell? ⟨mL, 2, none⟩ = some (.int .i64 L.five) ∧ w'.cell? ⟨mL, 3, none⟩ = some (.int .i64 L.root) ∧ w'.cell? ⟨g, k * 4, none⟩ = some (.int .i64 D.two) ∧ w'.cell? ⟨g, k * 4 + 1, none⟩ = some (.int .i64 D.three) ∧ w'.cell? ⟨g, k * 4 + 2, none⟩ = some (.int .i64 D.five) ∧ w'.cell? ⟨g, k * 4 + 3, none⟩ = some (.int .i64 D.root)) (with_reducible first | exact duo_cells (duo_drew DU.out) | exact duo_cells (duo_keep (by assumption) DU.out) | exact duo_cells DU.out | exact duo_cells (duo_al (duo_drew DU.out)) | exact duo_cells (duo_drew (duo_al DU.out)) | exact duo_cells (duo_al (duo_keep (by assumption) DU.out)) | exact duo_cells (duo_keep (below_set4w (by assumption) (by assumption)) DU.out))
            (first
              | (go_at_call 17; refine (calls_fromF (W := W1) (by with_reducible first | assumption | exact (Below.refl _ _).drew) (PL _ (senAt_below HS4.out (by with_reducible first | assumption | exact (Below.refl _ _).drew)))).mono ?_; rintro e1 wy ⟨rfl, hb⟩)
            )
          all_goals
            go_wp2_with fail
            go_meet
            exact ⟨by rw [ZL.out], hb⟩
        case rest =>
        obtain ⟨rfl, hbq⟩ := hcut
        have H7 := Lib.hid (H6.out.keep hbq)
        obtain ⟨W5, hW5⟩ : ∃ y, y = wc := ⟨_, rfl⟩
        rw [← hW5] at H7 ⊢
        clear hbq H6 HS4 DU hW5
        cases zL
        · have e := Lib.hid (show leastG p q (k + 1) = L from by rw [EL.out, if_neg (of_decide_eq_false ZL.out.symm)])
          go_wp2_with fail
          go_roundw
          case rel => exact ⟨k + 1, by omega, by go_num, Lib.hid (by rw [e.out, ← HNN.out]; exact H7.out)⟩
          case measure => simp [intOf]; omega
        · have e := Lib.hid (show leastG p q (k + 1) = D from by rw [EL.out, if_pos (of_decide_eq_true ZL.out.symm)])
          obtain ⟨_, x0, x1, x2, x3⟩ := H7.out.at hlt
          rw [← HD.out] at x0 x1 x2 x3
          have fz := H7.out.fl.2
          obtain ⟨s0, s1, s2, s3⟩ := four_cellsW H7.out.fl
          go_upto_region 14 with fail
          obtain ⟨W3, hW3, h6⟩ := H7.out.setL (y := D)
          rw [← hW3]
          have H8 := Lib.hid h6
          clear hW3 h6 x0 x1 x2 x3 fz s0 s1 s2 s3
          go_wp2_with fail
          go_roundw
          case rel => exact ⟨k + 1, by omega, by go_num, Lib.hid (by rw [e.out, ← HNN.out]; exact H8.out)⟩
          case measure => simp [intOf]; omega
      · have q3 : ¬ (k : Int) < n := by omega
        obtain rfl : k = n := by omega
        obtain ⟨S, hS⟩ : ∃ X, X = sumG p q k := ⟨_, rfl⟩
        obtain ⟨B, hB⟩ : ∃ X, X = bigG p q k := ⟨_, rfl⟩
        obtain ⟨L, hL⟩ : ∃ X, X = leastG p q k := ⟨_, rfl⟩
        rw [← hS, ← hB, ← hL] at H
        have HSS := Lib.hid hS
        have HBB := Lib.hid hB
        have HLL := Lib.hid hL
        clear hS hB hL
        obtain ⟨W0, hW0⟩ : ∃ y, y = wr := ⟨_, rfl⟩
        rw [← hW0] at H ⊢
        clear hW0
        go_wp2_with fail
        go_loopw [13] (fun i wr => ∃ (j : Nat), j ≤ k ∧ i = .int .i64 (j : Int) ∧ Hid (Hold w.heap.size g k cap p q mS mB mL S B L w wr)) (fun i _ => k - (intOf i).toNat)
        case atStart => exact ⟨0, Nat.zero_le _, rfl, H⟩
        case round =>
          obtain ⟨j, hj, rfl, H1⟩ := hrel
          clear H
          by_cases hjt : j < k
          · have q4 : (j : Int) < k := by omega
            have LC := last_chk p hp q hq
            unfold lastChk at LC
            rw [← HN.out, ← HBB.out, ← HLL.out] at LC
            have S1 := allN_of LC j hjt
            obtain ⟨D, hD⟩ : ∃ X, X = stG p q j := ⟨_, rfl⟩
            rw [← hD] at S1
            have HD := Lib.hid hD
            obtain ⟨zz, hzz⟩ : ∃ z, z = (!(eqV D B) && !(eqV D L)) := ⟨_, rfl⟩
            have AS : zz = true → AddSays D L B := fun hz => by
              rw [hzz] at hz
              simp only [Bool.and_eq_true, Bool.not_eq_true'] at hz
              rw [hz.1, hz.2] at S1
              simp only [Bool.false_or, Bool.and_eq_true] at S1
              exact add_says (Prod.ext (eqV_iff.1 S1.1) S1.2)
            have HAS := Lib.hid AS
            have ZZ := Lib.hid hzz
            obtain ⟨_, x0, x1, x2, x3⟩ := H1.out.at hjt
            rw [← HD.out] at x0 x1 x2 x3
            obtain ⟨y0, y1, y2, y3⟩ := four_cellsW H1.out.fb
            obtain ⟨z0, z1, z2, z3⟩ := four_cellsW H1.out.fl
            clear LC S1 hD hzz AS
            go_upto_region 26 with fail
            obtain ⟨W1, hW1⟩ : ∃ y, y = wr := ⟨_, rfl⟩
            rw [← hW1] at H1 x0 x1 x2 x3 y0 y1 y2 y3 z0 z1 z2 z3 ⊢
            clear hW1
            go_cut [128] from 115 to 128 (fun s wx => s = .bool zz ∧ Below W1.heap.size W1 wx)
            case first =>
              by_cases e1 : D = B
              · have E := Lib.hid (show zz = false from by rw [ZZ.out, eqV_iff.2 e1]; rfl)
                subst e1
                go_region
                go_wp2_with fail
                go_meet
                exact ⟨by rw [E.out], (Below.refl _ _).drew⟩
              · have n1 : eqV D B = false := Bool.eq_false_iff.2 (fun h => e1 (eqV_iff.1 h))
                by_cases e2 : D = L
                · have E := Lib.hid (show zz = false from by rw [ZZ.out, eqV_iff.2 e2, n1]; rfl)
                  clear n1 e1
                  subst e2
                  rcases neq_cases D B with h1 | ⟨h1, h2⟩ | ⟨h1, h2, h3⟩ | ⟨h1, h2, h3, h4⟩ | ⟨h1, h2, h3, h4⟩
                  all_goals
                    go_region
                    go_wp2_with fail
                    go_meet
                    exact ⟨by rw [E.out], (Below.refl _ _).drew⟩
                · have n2 : eqV D L = false := Bool.eq_false_iff.2 (fun h => e2 (eqV_iff.1 h))
                  have E := Lib.hid (show zz = true from by rw [ZZ.out, n1, n2]; rfl)
                  have N1 := neq4 e1
                  have N2 := neq4 e2
                  clear n1 n2 e1 e2
                  rcases N1 with h1 | ⟨h1, h2⟩ | ⟨h1, h2, h3⟩ | ⟨h1, h2, h3, h4⟩
                  all_goals rcases N2 with g1 | ⟨g1, g2⟩ | ⟨g1, g2, g3⟩ | ⟨g1, g2, g3, g4⟩
                  all_goals
                    go_region
                    go_wp2_with fail
                    go_meet
                    exact ⟨by rw [E.out], (Below.refl _ _).drew⟩
            case rest =>
            obtain ⟨rfl, hbq⟩ := hcut
            have H2 := Lib.hid (H1.out.keep hbq)
            obtain ⟨W2, hW2⟩ : ∃ y, y = wc := ⟨_, rfl⟩
            rw [← hW2] at H2 ⊢
            clear hbq H1 hW2 x0 x1 x2 x3 y0 y1 y2 y3 z0 z1 z2 z3
            cases zz
            · go_wp2_with fail
              go_roundw
              case rel => exact ⟨j + 1, by omega, by go_num, H2⟩
              case measure => simp [intOf]; omega
            · have AS := HAS.out rfl
              have DU := Lib.hid (H2.out.duoL hjt)
              rw [← HD.out] at DU
              clear HAS
              go_upto_region 27 with fail
              go_cut [14, 15] from 129 to 137 (fun s14 s15 wx => ∃ m : Nat, s14 = .pointer (some ⟨m, 0, none⟩) ∧ s15 = .bool true ∧ Below W2.heap.size W2 wx ∧ Four m B.two B.three B.five B.root wx)
              case first =>
                go_region_held3 (fun w' => w'.cell? ⟨mL, 0, none⟩ = some (.int .i64 L.two) ∧ w'.cell? ⟨mL, 1, none⟩ = some (.int .i64 L.three) ∧ w'.cell? ⟨mL, 2, none⟩ = some (.int .i64 L.five) ∧ w'.cell? ⟨mL, 3, none⟩ = some (.int .i64 L.root) ∧ w'.cell? ⟨g, j * 4, none⟩ = some (.int .i64 D.two) ∧ w'.cell? ⟨g, j * 4 + 1, none⟩ = some (.int .i64 D.three) ∧ w'.cell? ⟨g, j * 4 + 2, none⟩ = some (.int .i64 D.five) ∧ w'.cell? ⟨g, j * 4 + 3, none⟩ = some (.int .i64 D.root)) (with_reducible first | exact duo_cells (duo_drew DU.out) | exact duo_cells (duo_keep (by assumption) DU.out) | exact duo_cells DU.out | exact duo_cells (duo_al (duo_drew DU.out)) | exact duo_cells (duo_drew (duo_al DU.out)) | exact duo_cells (duo_al (duo_keep (by assumption) DU.out)) | exact duo_cells (duo_keep (below_set4w (by assumption) (by assumption)) DU.out))
                  (first
                    | (go_at_call 19; refine (calls_zeroT (W := W2) (B := W2.heap.size) (by with_reducible first | assumption | exact belowT_al (by assumption) | exact (Below.refl _ _).drew | exact (belowT_al (Below.refl _ _)).drew) (by with_reducible first | assumption | exact zeroT_alloc (by assumption) | exact zeroT_drew (zeroT_alloc (Below.refl _ _))) (AS _)).mono ?_; rintro e1 wy ⟨rfl, hb, hzb⟩; obtain ⟨zb, ⟨⟨zm, z0, z1, z2, z3⟩, zf⟩⟩ := id hzb)
                    | (go_at_call 19; refine (calls_fromF (W := W2) (by with_reducible first | assumption | exact (Below.refl _ _).drew) (AS _)).mono ?_; rintro e1 wy ⟨rfl, hb⟩)
                  )
                all_goals
                  go_wp2_with fail
                  go_meet
                  first
                    | exact ⟨_, rfl, rfl, belowT_al hb, four_alloc⟩
                    | exact ⟨_, rfl, rfl, below_set4w hzb.1 hb, four_set ⟨zm, z0, z1, z2, z3⟩⟩
              case rest =>
              obtain ⟨mA, rfl, rfl, hbA, hA⟩ := hcut
              have H3 := Lib.hid (H2.out.keep hbA)
              obtain ⟨W3, hW3⟩ : ∃ y, y = wc := ⟨_, rfl⟩
              rw [← hW3] at H3 hA ⊢
              obtain ⟨_, a0, a1, a2, a3⟩ := hA
              obtain ⟨y0, y1, y2, y3⟩ := four_cellsW H3.out.fb
              clear hbA H2 DU hW3
              go_wp2_with fail
              clear a0 a1 a2 a3 y0 y1 y2 y3
              go_roundw
              case rel => exact ⟨j + 1, by omega, by go_num, H3⟩
              case measure => simp [intOf]; omega
          · have q4 : ¬ (j : Int) < k := by omega
            have F1 := H1.out.fs
            rw [HSS.out, ES.out] at F1
            have FF := Lib.hid F1.1
            have BB := Lib.hid H1.out.bel
            clear F1 H1
            go_upto_region 30 with fail
            obtain ⟨W1, hW1⟩ : ∃ y, y = wr := ⟨_, rfl⟩
            rw [← hW1] at FF BB ⊢
            clear hW1
            go_region_held3 (fun w' => w'.cell? ⟨mS, 0, none⟩ = some (.int .i64 1) ∧ w'.cell? ⟨mS, 1, none⟩ = some (.int .i64 0) ∧ w'.cell? ⟨mS, 2, none⟩ = some (.int .i64 0) ∧ w'.cell? ⟨mS, 3, none⟩ = some (.int .i64 1)) (with_reducible first | exact four_cellsF (four_drewF FF.out) | exact four_cellsF (four_keep (by assumption) FF.out) | exact four_cellsF FF.out)
              (first
                | (go_at_call 34; refine (calls_fromF (W := W1) (by with_reducible first | assumption | exact (Below.refl _ _).drew) (octave_one _)).mono ?_; rintro e1 wy ⟨rfl, hb⟩))
            all_goals
              go_wp2_with fail
              go_ret
              exact ⟨rfl, BB.out.trans (hb.mono BB.out.size)⟩
end Go.Proofs.YtdnlebijmiaclabDoor
