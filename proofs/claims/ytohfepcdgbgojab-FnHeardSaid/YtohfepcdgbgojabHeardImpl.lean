/- Contract of impl.CirclesHeard: a look-up in the map of the family's circles by their thirds. -/
import Derived.Test.YtohfepcdgbgojabByThirds
namespace Go.Proofs.Ytohfepcdgbgojab
open Go.RowKit Go.Joins Go.Maps
set_option linter.unusedVariables false
set_option maxRecDepth 100000 in
set_option maxHeartbeats 4000000 in
theorem heard_impl : HeardImpl := by
  intro p w b' e' v' ts hl hbd h
  obtain ⟨n, hn⟩ : ∃ n, n = ts.length := ⟨_, rfl⟩
  obtain ⟨pw, cw, hs1⟩ := own_slice h
  rw [← hn] at h hs1
  have HN := Lib.hid hn
  have HO := Lib.hid h
  subst hs1
  clear hn h
  by_cases h12 : n = 12
  · subst h12
    have HK : Hid (Key12 ts) := Lib.hid ⟨HN.out.symm, hbd⟩
    have BT := Lib.hid (byThirds_impl p w)
    obtain ⟨C, hC⟩ : ∃ C, C = (intCs ts).toArray := ⟨_, rfl⟩
    have KI := Lib.hid (fun X (hX : Below w.heap.size w X) => key_impl X b' e' _ ts HN.out.symm (own_below HO.out hX))
    rw [← hC] at KI
    have HC := Lib.hid hC
    have HL : Hid (heardOf p ts = heardL (famOf p) ts (famOf p).length) := Lib.hid (by unfold heardOf; rw [if_pos HN.out.symm])
    clear hC hbd hl
    go_enter Try.func37, Try.ntmps37
    go_wp2_with fail
    refine BT.out.mono ?_
    rintro e w1 ⟨b, D, val, us, rfl, hg, hb⟩
    have HG := Lib.hid hg
    have HB := Lib.hid hb
    clear hg hb
    go_wp2_with fail
    refine (KI.out _ HB.out).mono ?_
    rintro e w2 ⟨rfl, hb2⟩
    have hG2 := HG.out.below hb2
    obtain ⟨v, ps, hrun, hv⟩ := hG2.own.lookup (Keyed.of_law klawArr) Try.underlying87 ((zero_of_info infoRow).1 _) (zd := .held (.slice none 0 0)) (zp := []) rfl (klA_key HK.out)
    rw [hG2.el ts HK.out] at hv
    injection hv with hv
    injection hv with hv _
    injection hv with hv
    subst hv
    rw [← HC.out] at hrun
    have RES := Lib.hid (hG2.rows ts HK.out)
    have HB2 := Lib.hid (HB.out.trans (hb2.mono HB.out.size))
    clear hG2 hb2
    go_wp2_with fail
    go_ret
    exact ⟨_, _, rfl, by rw [HL.out]; exact RES.out, HB2.out⟩
  · have t0 : ((n : Int) != 12) = true := by simp; omega
    have HL : Hid (heardOf p ts = []) := Lib.hid (by unfold heardOf; rw [if_neg (by rw [← HN.out]; exact h12)])
    clear h12 hbd hl
    go_enter Try.func37, Try.ntmps37
    go_wp2_with fail
    go_ret
    exact ⟨_, [], rfl, by rw [HL.out]; exact csRaw_none _ _, Below.refl _ _⟩
theorem walk_FnExactCirclesHeard (p : Int) (a : Option Addr) (len cap : Nat) (zs : List Int) (w : World) (wp : (Lit.int .i64 p).wf = true) (hr : IsRow .i64 w a len cap zs) :
    Calls Try.prog 10 #[.int .i64 p, .slice a len cap] w fun e w' => e = .returned (.bool true) ∧ Below w.heap.size w w' :=
  walk_HeardBy heard_impl p wp a len cap zs w hr
end Go.Proofs.Ytohfepcdgbgojab
