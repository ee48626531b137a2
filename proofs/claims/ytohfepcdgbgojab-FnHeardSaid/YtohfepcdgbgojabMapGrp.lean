/- A map from arrays of twelve thirds to rows of circles, as the call itself makes it: m[k] = append(m[k], c). -/
import Derived.DeepKeys5
import Derived.WideKeyEntry
import Derived.Test.YtohfepcdgbgojabKeyImpl
namespace Go.Proofs.Ytohfepcdgbgojab
open Go.RowKit Go.Joins Go.Maps
open Go.ChangeMaps Go.MapKept
open Go.WideElems (Fit rd rg pl rd_val elemAt entry_then_store)
open Go.WideMaps (KeyLaw)
set_option linter.unusedVariables false
/-- How an element of the map reads: as itself. -/
def heldR (v : Value) : Option (DataW Value × List MemPlace) := some (.held v, [])
theorem nodup_key : ∀ {l : List MapEntry}, (l.map (·.key)).Nodup → ∀ {a b : MapEntry}, a ∈ l → b ∈ l → a.key = b.key → a = b
  | [], _, a, b, ha, _, _ => by simp at ha
  | x :: r, h, a, b, ha, hb, e => by
    rw [List.map_cons, List.nodup_cons] at h
    rcases List.mem_cons.1 ha with rfl | ha'
    · rcases List.mem_cons.1 hb with rfl | hb'
      · rfl
      · exact absurd (List.mem_map.2 ⟨b, hb', e.symm⟩) h.1
    · rcases List.mem_cons.1 hb with rfl | hb'
      · exact absurd (List.mem_map.2 ⟨a, ha', e⟩) h.1
      · exact nodup_key h.2 ha' hb' e
/-- m[k] = append(m[k], ..): the entry, and the store behind whatever leaves the map's block alone. -/
theorem entry_own {P : Program} {t k e : TypeId} {w : World} {b n : Nat} {D : DataW Value} {z key : Value} {kl : Lit} (h : w.ownsMap P k heldR b n D) (K : KeyLaw P k) (ht : P.underlying t = some (.map k e)) (hz : ∀ u : World, (zeroValue e).run P u = .ok z u) (hn : n < maxLen) (hkey : keyOf P k key = some kl) :
    ∃ v0 st w1, (Instr.mapEntry t (.map (some b)) key).run P w = .ok (.tuple #[v0, .int .i64 st]) w1 ∧ D.atKey kl (.held z) = .held v0 ∧ w.grownBy w1 (some b) ∧ w1.heap.size = w.heap.size ∧ (∃ o : Obj, w1.heap[b]? = some o ∧ o.isCells = false) ∧
      ∀ (w2 : World) (val : Value), w2.heap[b]? = w1.heap[b]? → ∃ w3, (Instr.entryStore t (.map (some b)) (.int .i64 st) val).run P w2 = .ok () w3 ∧ w3.ownsMap P k heldR b (n + 1) (D.put kl (.held val)) ∧ w2.grownBy w3 (some b) ∧ w3.heap.size = w2.heap.size := by
  obtain ⟨es, clock, hb, F, hs, rfl⟩ := h
  obtain ⟨v0, st, es1, clock1, hrun, hv0, hst⟩ := entry_then_store K ht hz hb F hkey
  have hat : (DataW.map ((es.toList.map (rg P k heldR)).foldr DataW.insert [])).atKey kl (.held z) = .held v0 := by
    rcases fit_look false (Keyed.of_law K) ht (hz w) hb F hkey with ⟨_, hno, hat⟩ | ⟨e0, y, hm0, h3, _, hR, hat, _⟩
    · rcases hv0 with ⟨e1, hm1, hk1, _⟩ | ⟨_, rfl⟩
      · exact absurd hk1 (hno e1 hm1)
      · exact hat _
    · rcases hv0 with ⟨e1, hm1, hk1, rfl⟩ | ⟨hno, _⟩
      · obtain rfl := nodup_key F.stamped.2.2 hm0 hm1 (h3.trans hk1.symm)
        rw [hat]
        unfold heldR at hR
        cases hR
        rfl
      · exact absurd h3 (hno e0 hm0)
  refine ⟨v0, (st : Int), _, hrun, hat, ⟨rfl, rfl, rfl, by simp [setBlock], fun i _ hi => heap_setBlock_other hb _ (fun e => hi (by rw [e]))⟩, by simp [setBlock], ⟨_, heap_setBlock_same hb _, rfl⟩, fun w2 val hw2 => ?_⟩
  rw [heap_setBlock_same hb] at hw2
  obtain ⟨es', clock', h1, h2⟩ := hst w2 val hw2
  obtain ⟨es2, clock2, h4, F', hput, _⟩ := fit_store (R' := heldR) (Keyed.of_law K) ht hb F (Nat.lt_of_le_of_lt hs hn) (fun _ _ _ _ q => q) hkey (val := val) (yv := (.held val, [])) rfl
  have e2 : setBlock w b (.map es' clock') = setBlock w b (.map es2 clock2) := by
    have := h2.symm.trans h4
    injection this
  have e3 : (Obj.map es' clock') = Obj.map es2 clock2 := by
    have h5 := heap_setBlock_same hb (.map es' clock')
    rw [e2, heap_setBlock_same hb] at h5
    injection h5 with h5
    exact h5.symm
  injection e3 with e4 e5
  subst e4
  subst e5
  refine ⟨_, h1, ⟨es', clock', heap_setBlock_same hw2 _, F', ?_, ?_⟩, ⟨rfl, rfl, rfl, by simp [setBlock], fun i _ hi => heap_setBlock_other hw2 _ (fun e => hi (by rw [e]))⟩, by simp [setBlock]⟩
  · have e1 : es'.size = ((es'.toList.map (rg P k heldR)).foldr DataW.insert []).length := by rw [length_sorted]; simp
    rw [e1, hput]
    unfold putKey
    rw [length_insert]
    have e2 := List.length_filter_le (notKey kl) ((es.toList.map (rg P k heldR)).foldr DataW.insert [])
    rw [length_sorted] at e2
    simp at e2
    omega
  · rw [DataW.put_eq, hput]
theorem ktArr : Try.prog.keyType 89 = true := by kernel_rfl
theorem tszArr : ∃ n, Try.prog.types.size = n + 1 := ⟨(Try.prog.types.size - 1), by kernel_rfl⟩
theorem cellsArr : Try.prog.cellsOf 89 = 12 := by kernel_rfl
theorem cellsIntA : Try.prog.cellsOf 3 = 1 := by kernel_rfl
theorem klawArr : KeyLaw Try.prog 89 := deep_law_gate (by kernel_rfl) (by decide +kernel) (by decide +kernel) ktArr (by kernel_rfl)
/-- Twelve ints. -/
def Key12 (ts : List Int) : Prop := ts.length = 12 ∧ ∀ i, -9223372036854775808 ≤ ts.getD i 0 ∧ ts.getD i 0 ≤ 9223372036854775807
theorem twelve_of {ts : List Int} (h : ts.length = 12) : ∃ t0 t1 t2 t3 t4 t5 t6 t7 t8 t9 t10 t11, ts = [t0, t1, t2, t3, t4, t5, t6, t7, t8, t9, t10, t11] := by
  rcases ts with _ | ⟨t0, _ | ⟨t1, _ | ⟨t2, _ | ⟨t3, _ | ⟨t4, _ | ⟨t5, _ | ⟨t6, _ | ⟨t7, _ | ⟨t8, _ | ⟨t9, _ | ⟨t10, _ | ⟨t11, _ | ⟨t12, r⟩⟩⟩⟩⟩⟩⟩⟩⟩⟩⟩⟩⟩ <;> simp at h
  exact ⟨t0, t1, t2, t3, t4, t5, t6, t7, t8, t9, t10, t11, rfl⟩
/-- What twelve ints read as, as a key. -/
def klA (ts : List Int) : Lit := .string (keyBytes (ts.map fun x => Lit.int .i64 x))
theorem klA_key {ts : List Int} (h : Key12 ts) : keyOf Try.prog 89 (.agg (intCs ts).toArray) = some (klA ts) := by
  obtain ⟨hl, hr⟩ := h
  obtain ⟨t0, t1, t2, t3, t4, t5, t6, t7, t8, t9, t10, t11, rfl⟩ := twelve_of hl
  obtain ⟨n, hn⟩ := tszArr
  have w0 : (Lit.int .i64 t0).wf = true := WalkArith.wf_i64 (hr 0)
  have w1 : (Lit.int .i64 t1).wf = true := WalkArith.wf_i64 (hr 1)
  have w2 : (Lit.int .i64 t2).wf = true := WalkArith.wf_i64 (hr 2)
  have w3 : (Lit.int .i64 t3).wf = true := WalkArith.wf_i64 (hr 3)
  have w4 : (Lit.int .i64 t4).wf = true := WalkArith.wf_i64 (hr 4)
  have w5 : (Lit.int .i64 t5).wf = true := WalkArith.wf_i64 (hr 5)
  have w6 : (Lit.int .i64 t6).wf = true := WalkArith.wf_i64 (hr 6)
  have w7 : (Lit.int .i64 t7).wf = true := WalkArith.wf_i64 (hr 7)
  have w8 : (Lit.int .i64 t8).wf = true := WalkArith.wf_i64 (hr 8)
  have w9 : (Lit.int .i64 t9).wf = true := WalkArith.wf_i64 (hr 9)
  have w10 : (Lit.int .i64 t10).wf = true := WalkArith.wf_i64 (hr 10)
  have w11 : (Lit.int .i64 t11).wf = true := WalkArith.wf_i64 (hr 11)
  unfold keyOf
  rw [Try.underlying89]
  simp only [ktArr, Value.formed, Try.underlying89, cellsArr, hn]
  simp [Program.keyLits, Try.underlying89, Try.underlying3, cellsArr, cellsIntA, Value.cells, intCs, w0, w1, w2, w3, w4, w5, w6, w7, w8, w9, w10, w11, List.range, List.range.loop, klA]
theorem intCs_inj {a b : List Int} (h : intCs a = intCs b) : a = b := (List.map_inj_right (fun x y hxy => by cases hxy; rfl)).1 h
theorem klA_inj {a b : List Int} (ha : Key12 a) (hb : Key12 b) (h : klA a = klA b) : a = b := by
  have := klawArr.inj (klA_key ha) (by rw [h]; exact klA_key hb)
  injection this with this
  exact intCs_inj (by simpa using congrArg Array.toList this)
/-- The blocks of the row at a key. -/
def Blk (v : Value) (us : List Value) (n g : Nat) : Prop := v.ownBlock = some g ∨ ∃ i, i < n ∧ (uAt us i).ownBlock = some g
theorem blk_lt {w : World} {B : Nat} {v : Value} {us : List Value} {L : List (List Int)} (h : CsRaw w B v us L) {g : Nat} (hb : Blk v us L.length g) : B ≤ g ∧ g < w.heap.size := by
  rcases hb with e | ⟨i, hi, e⟩
  · exact h.row.lt g e
  · exact (h.els i hi).lt g e
/-- The map after k circles. -/
structure GMap (L : List (List Int)) (k B b n : Nat) (D : DataW Value) (val : List Int → Value) (us : List Int → List Value) (w : World) : Prop where
  own : w.ownsMap Try.prog 89 heldR b n D
  el : ∀ ts, Key12 ts → D.atKey (klA ts) (.held (.slice none 0 0)) = .held (val ts)
  rows : ∀ ts, Key12 ts → CsRaw w B (val ts) (us ts) (heardL L ts k)
  ap : ∀ ts ts' g, Key12 ts → Key12 ts' → ts ≠ ts' → Blk (val ts) (us ts) (heardL L ts k).length g → ¬ Blk (val ts') (us ts') (heardL L ts' k).length g
section
variable {L : List (List Int)} {k B b n : Nat} {D : DataW Value} {val : List Int → Value} {us : List Int → List Value} {w w1 w2 w3 w' : World}
theorem gmap_obj (h : GMap L k B b n D val us w) : ∃ o : Obj, w.heap[b]? = some o ∧ o.isCells = false := by
  obtain ⟨es, clock, hb, _⟩ := h.own
  exact ⟨_, hb, rfl⟩
theorem GMap.grown {row : Option Nat} (h : GMap L k B b n D val us w) (hg : w.grownBy w' row) (hr : ∀ r, row = some r → r ≠ b ∧ ∃ o : Obj, w.heap[r]? = some o ∧ o.isCells = false) : GMap L k B b n D val us w' :=
  ⟨h.own.kept hg (fun e => (hr b e.symm).1 rfl), h.el, fun ts ht => csraw_own (h.rows ts ht) hg (fun r e => (hr r e).2), h.ap⟩
theorem GMap.below (h : GMap L k B b n D val us w) (hb : Below w.heap.size w w') : GMap L k B b n D val us w' := h.grown (grown_of_below hb) (fun r e => by cases e)
theorem gmap_made (L : List (List Int)) (w : World) (B : Nat) : GMap L 0 B w.heap.size 0 (.map []) (fun _ => .slice none 0 0) (fun _ => []) (w.alloc (.map #[] 0)) :=
  ⟨World.ownsMap_made w _ _ _, fun ts _ => rfl, fun ts _ => csRaw_none _ _, fun ts ts' g _ _ _ h => by
    rcases h with e | ⟨i, hi, _⟩
    · simp [Value.ownBlock] at e
    · simp [heardL] at hi⟩
/-- One circle more. -/
theorem gmap_step {v' u : Value} {x : List Int} (h : GMap L k B b n D val us w) (hx : x = lAt L k) (ht : Key12 (thirdsL x)) (hpos : 0 < x.length)
    (hu : w.ownsRow B 3 1 u x.length (intCs x)) (hnew : ∀ ts, Key12 ts → ∀ g, Blk (val ts) (us ts) (heardL L ts k).length g → u.ownBlock ≠ some g)
    (hg1 : w.grownBy w1 (some b)) (hm1 : ∃ o : Obj, w1.heap[b]? = some o ∧ o.isCells = false)
    (hrow : w2.ownsRow B 29 1 v' ((heardL L (thirdsL x) k).length + 1) (us (thirdsL x) ++ [u])) (hg2 : w1.grownBy w2 (val (thirdsL x)).ownBlock) (hor : v'.ownBlock = (val (thirdsL x)).ownBlock ∨ v'.ownBlock = some w1.heap.size)
    (hm2 : ∃ o : Obj, w2.heap[b]? = some o ∧ o.isCells = false) (hown : w3.ownsMap Try.prog 89 heldR b (n + 1) (D.put (klA (thirdsL x)) (.held v'))) (hg3 : w2.grownBy w3 (some b)) :
    GMap L (k + 1) B b (n + 1) (D.put (klA (thirdsL x)) (.held v')) (fun ts => if ts = thirdsL x then v' else val ts) (fun ts => if ts = thirdsL x then us (thirdsL x) ++ [u] else us ts) w3 := by
  obtain ⟨t, htt⟩ : ∃ t, t = thirdsL x := ⟨_, rfl⟩
  rw [← htt] at ht hrow hg2 hor hown ⊢
  have hb0 := gmap_obj h
  obtain ⟨gu, cu, hgu, _, hlu⟩ := own_pos hu hpos
  have hub : u.ownBlock = some gu := by rw [hgu]; rfl
  have R1 : ∀ ts, Key12 ts → CsRaw w1 B (val ts) (us ts) (heardL L ts k) := fun ts hk => csraw_own (h.rows ts hk) hg1 (fun r e => by cases e; exact hb0)
  have rowne : ∀ {e : TypeId} {v : Value} {m : Nat} {cs : List Value}, w.ownsRow B e 1 v m cs → v.ownBlock ≠ some b := fun {e v m cs} o q => by
    obtain ⟨o1, h1, c1⟩ := row_cells o b q
    obtain ⟨o2, h2, c2⟩ := hb0
    rw [h1] at h2; cases h2; rw [c1] at c2; cases c2
  have hu1 : w1.ownsRow B 3 1 u x.length (intCs x) := own_grownC hu hg1 (fun g e q => rowne hu (by rw [e, q]))
  have hl : heardL L t (k + 1) = heardL L t k ++ [x] := by
    show (if thirdsL (lAt L k) = t then _ else _) = _
    rw [← hx, ← htt, if_pos rfl]
  have hlo : ∀ ts, ts ≠ t → heardL L ts (k + 1) = heardL L ts k := fun ts hne => by
    show (if thirdsL (lAt L k) = ts then _ else _) = _
    rw [← hx, ← htt, if_neg (fun e => hne e.symm)]
  have lt := fun {ts : List Int} (hk : Key12 ts) {g : Nat} (hb : Blk (val ts) (us ts) (heardL L ts k).length g) => blk_lt (h.rows ts hk) hb
  have RT : CsRaw w2 B v' (us t ++ [u]) (heardL L t (k + 1)) := by
    rw [hl]
    exact csRaw_snoc (R1 t ht) hu1 hpos (fun e => hnew t ht gu (.inl (e.trans hub)) hub) (fun i hi e => hnew t ht gu (.inr ⟨i, hi, e.trans hub⟩) hub) hrow hg2 hor
  -- the blocks of the new row
  have nb : ∀ g, Blk v' (us t ++ [u]) (heardL L t (k + 1)).length g → Blk (val t) (us t) (heardL L t k).length g ∨ g = w1.heap.size ∨ u.ownBlock = some g := fun g hb => by
    rw [hl, List.length_append, List.length_singleton] at hb
    have hlen := (h.rows t ht).len
    rcases hb with e | ⟨i, hi, e⟩
    · rcases hor with q | q
      · exact .inl (.inl (q ▸ e))
      · rw [q] at e; injection e with e; exact .inr (.inl e.symm)
    · rcases Nat.lt_or_ge i (heardL L t k).length with q | q
      · rw [uAt_left (by rw [hlen]; exact q)] at e
        exact .inl (.inr ⟨i, q, e⟩)
      · rw [uAt_right (by rw [hlen]; exact q), hlen, show i - (heardL L t k).length = 0 by omega] at e
        exact .inr (.inr e)
  have apart : ∀ ts g, Key12 ts → ts ≠ t → Blk v' (us t ++ [u]) (heardL L t (k + 1)).length g → ¬ Blk (val ts) (us ts) (heardL L ts k).length g := fun ts g hk hne hb hc => by
    rcases nb g hb with q | q | q
    · exact h.ap t ts g ht hk (fun e => hne e.symm) q hc
    · have := (lt hk hc).2
      have := hg1.size
      omega
    · exact hnew ts hk g hc q
  refine ⟨hown, fun ts hk => ?_, fun ts hk => ?_, fun ts ts' g hk hk' hne hb hc => ?_⟩
  · by_cases e : ts = t
    · subst e
      rw [atKey_put_same h.own.isMap ((Keyed.of_law klawArr).key (klA_key hk)), if_pos rfl]
    · rw [atKey_put_other (fun q => e (klA_inj hk ht q)), h.el ts hk, if_neg e]
  · by_cases e : ts = t
    · subst e
      simp only [if_pos]
      exact csraw_own RT hg3 (fun r e => by cases e; exact hm2)
    · simp only [if_neg e]
      rw [hlo ts e]
      refine csraw_own ((R1 ts hk).grown hg2 (fun g q1 q2 => ?_) (fun i hi g q1 q2 => ?_)) hg3 (fun r e => by cases e; exact hm2)
      · exact h.ap t ts g ht hk (fun q => e q.symm) (.inl q2) (.inl q1)
      · exact h.ap t ts g ht hk (fun q => e q.symm) (.inl q2) (.inr ⟨i, hi, q1⟩)
  · by_cases e : ts = t
    · subst e
      have e' : ts' ≠ ts := fun q => hne q.symm
      simp only [if_neg e', if_pos] at hb hc
      rw [hlo ts' e'] at hc
      exact apart ts' g hk' e' hb hc
    · by_cases e' : ts' = t
      · subst e'
        simp only [if_neg e, if_pos] at hb hc
        rw [hlo ts e] at hb
        exact apart ts g hk e hc hb
      · simp only [if_neg e, if_neg e'] at hb hc
        rw [hlo ts e] at hb
        rw [hlo ts' e'] at hc
        exact h.ap ts ts' g hk hk' hne hb hc
end
end Go.Proofs.Ytohfepcdgbgojab
