/- Contracts of spec.l09Nearest and spec.BestMap. -/
import Derived.Test.YtfhefakacjkmiaaDoorMapWalks
import Derived.Test.YtfhefakacjkmiaaDoorSSign04
namespace Go.Proofs.YtfhefakacjkmiaaDoor
open Go.RowKit Go.Joins
set_option linter.unusedVariables false
def intOfN : Value → Int | .int _ q => q | _ => 0
set_option maxHeartbeats 2000000 in
theorem nearest_spec {n a b h f K : Int} (hh : 2 * n * a = h) (hf : 2 * n * b = f) (hK : NearAt h f K) (K0 : 0 ≤ K) (K1 : K ≤ 200) (n0 : 1 ≤ n) (n1 : n ≤ 60) (a0 : 0 ≤ a) (a1 : a ≤ 1) (b0 : 0 ≤ b) (b1 : b ≤ 1) (h0 : -120 ≤ h) (h1 : h ≤ 120) (f0 : -120 ≤ f) (f1 : f ≤ 120) (w : World) :
    Calls Tryd.prog 72 #[.int .i64 n, .int .i64 a, .int .i64 b] w fun e w' => e = .returned (.int .i64 K) ∧ Below w.heap.size w w' := by
  have HK := Lib.hid hK
  clear hK
  go_enter Tryd.func72, Tryd.ntmps72
  go_wp2_with fail
  go_loopw [7] (fun x wr => ∃ k : Int, x = .int .i64 k ∧ (0 ≤ k ∧ k ≤ K) ∧ Below w.heap.size w wr) (fun x _ => (K - intOfN x).toNat)
  case atStart => exact ⟨0, rfl, ⟨by omega, K0⟩, Below.refl _ _⟩
  case round =>
    obtain ⟨k, rfl, ⟨hk0, hk1⟩, hB⟩ := hrel
    have B1 := Lib.hid hB
    have sg := near_up HK.out k
    clear hB
    go_wp2_with fail
    refine (sign04_walk _ (-(2 * k + 1)) h f (by omega) (by omega) (by omega) (by omega) (by omega) (by omega)).mono ?_
    rintro e1 w2 ⟨rfl, h2⟩
    have B2 := Lib.hid (B1.out.trans (h2.mono B1.out.size))
    clear B1 h2
    by_cases hs : 0 < sgnP (-(2 * k + 1)) h f
    · have hk2 := sg.1 hs
      go_wp2_with fail
      go_roundw
      case rel => exact ⟨k + 1, rfl, ⟨by omega, hk2⟩, B2.out⟩
      case measure => simp [intOfN]; omega
    · have hk2 := sg.2 (by omega)
      have hkk : k = K := by omega
      subst hkk
      have sd := near_dn HK.out k
      have hd : ¬ sgnP (-(2 * k - 1)) h f < 0 := fun hs => by have := sd.1 hs; omega
      clear sg sd
      go_wp2_with fail
      clear hs
      go_loopw [7] (fun x wr => x = .int .i64 k ∧ Below w.heap.size w wr) (fun x _ => 0)
      case atStart => exact ⟨rfl, B2.out⟩
      case round =>
        obtain ⟨rfl, hB⟩ := hrel
        clear B2
        have B2 := Lib.hid hB
        clear hB
        go_wp2_with fail
        refine (sign04_walk _ (-(2 * k - 1)) h f (by omega) (by omega) (by omega) (by omega) (by omega) (by omega)).mono ?_
        rintro e1 w3 ⟨rfl, h3⟩
        have B3 := Lib.hid (B2.out.trans (h3.mono B2.out.size))
        clear B2 h3
        go_wp2_with fail
        go_ret
        exact ⟨rfl, B3.out⟩
end Go.Proofs.YtfhefakacjkmiaaDoor
