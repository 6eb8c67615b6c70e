/- Several texts as one. -/
import Derived.Test.YtoddemcmmijoaaaNB
import Derived.Deep.Slices

/- Record: a list of transactions, cloned as it stands; a row's part set anew. -/
namespace Go.Proofs.Ytoddemcmmijoaaa
open Go.RowKit Go.Deep
set_option maxRecDepth 100000

theorem own_set {w : World} {base e size n cap g : Nat} {xs : List Value} (h : w.ownsRow base e size (.slice (some ⟨g, 0, none⟩) n cap) n xs) (j : Nat) (u : Value) : (w.setCell ⟨g, j, none⟩ u).ownsRow base e size (.slice (some ⟨g, 0, none⟩) n cap) n (xs.set j u) := by
  obtain ⟨h1, h2⟩ := h
  refine ⟨by simpa using h1, ?_⟩
  rcases h2 with ⟨e, _⟩ | ⟨g', cap', cur, hv, hb, hh, hnc, hcm, hsz, ht⟩
  · cases e
  · cases hv
    refine .inr ⟨g, cap, cur.setIfInBounds j u, rfl, hb, setCell_heap hh, hnc, hcm, by simpa using hsz, ?_⟩
    rw [Array.toList_setIfInBounds, List.take_set, ht]
abbrev TX4 := TxnD × Value × Value × Value × Value
instance : Inhabited TX4 := ⟨(dT, .slice none 0 0, .slice none 0 0, .slice none 0 0, .slice none 0 0)⟩
theorem txnCells_len (p : TX4) : (txnCells p).length = 6 := rfl
theorem flat_len : ∀ vs : List TX4, (vs.flatMap txnCells).length = vs.length * 6
  | [] => rfl
  | p :: r => by rw [List.flatMap_cons, List.length_append, flat_len r, txnCells_len, List.length_cons]; omega
theorem set_behind {a b : List Value} (k : Nat) (u : Value) : (a ++ b).set (a.length + k) u = a ++ b.set k u := by
  rw [List.set_append_right _ _ (by omega)]
  simp
theorem flat_set : ∀ (vs : List TX4) (t : Nat) (q : TX4), t < vs.length →
    ((((((vs.flatMap txnCells).set (t * 6) (.int .i64 q.1.ses)).set (t * 6 + 1) (.int .i64 q.1.req)).set (t * 6 + 2) q.2.1).set (t * 6 + 3) q.2.2.1).set (t * 6 + 4) q.2.2.2.1).set (t * 6 + 5) q.2.2.2.2 = (vs.set t q).flatMap txnCells
  | [], t, q, h => absurd h (by simp)
  | p :: r, 0, q, _ => by simp [List.flatMap_cons, txnCells]
  | p :: r, t + 1, q, h => by
    have ih := flat_set r t q (by simpa using h)
    have e0 : (t + 1) * 6 = (txnCells p).length + (t * 6) := by rw [txnCells_len]; omega
    rw [List.flatMap_cons, e0]
    simp only [Nat.add_assoc]
    rw [set_behind, set_behind, set_behind, set_behind, set_behind, set_behind, ih, List.set_cons_succ, List.flatMap_cons]

/-- What a slice of transactions shows, with the values of its cells. -/
theorem SeesTs.rows {w : World} {v : Value} {l : List TxnD} (h : SeesTs w v l) : ∃ (ao : Option Addr) (cap gb ob : Nat) (vs : List TX4), v = .slice ao l.length cap ∧ l.length ≤ cap ∧ vs.map (·.1) = l ∧ (0 < l.length → ao = some ⟨gb, ob, none⟩) ∧
    (∀ j u, (vs.flatMap txnCells)[j]? = some u → w.cell? ⟨gb, ob + j, none⟩ = some u) ∧ ∀ p ∈ vs, SeesT w #[.int .i64 p.1.ses, .int .i64 p.1.req, p.2.1, p.2.2.1, p.2.2.2.1, p.2.2.2.2] p.1 := by
  obtain ⟨ao, cap, gb, ob, h1, h2, _, h4, h5⟩ := h
  have ea : ∀ i, i < l.length → ∃ p : TX4, p.1 = l.getD i dT ∧ (∀ k, k < 6 → w.cell? ⟨gb, ob + i * 6 + k, none⟩ = (txnCells p)[k]?) ∧ SeesT w #[.int .i64 p.1.ses, .int .i64 p.1.req, p.2.1, p.2.2.1, p.2.2.2.1, p.2.2.2.2] p.1 := fun i hi => by
    obtain ⟨cv, av, rv, wv, c0, c1, c2, c3, c4, c5, hs⟩ := h5 i hi
    refine ⟨(l.getD i dT, cv, av, rv, wv), rfl, fun k hk => ?_, hs⟩
    match k, hk with
    | 0, _ => exact c0
    | 1, _ => exact c1
    | 2, _ => exact c2
    | 3, _ => exact c3
    | 4, _ => exact c4
    | 5, _ => exact c5
  obtain ⟨q, hq⟩ := choose_lt ea
  have hll : ((List.range l.length).map q).length = l.length := by simp
  have hgq : ∀ t, t < l.length → ((List.range l.length).map q)[t]? = some (q t) := fun t ht => by simp [ht]
  refine ⟨ao, cap, gb, ob, (List.range l.length).map q, h1, h2, ?_, h4, fun j u hu => ?_, fun p hp => ?_⟩
  · apply List.ext_getElem
    · simp
    · intro i hi1 hi2
      have hi : i < l.length := hi2
      simp only [List.map_map, List.getElem_map, List.getElem_range, Function.comp]
      rw [(hq i hi).1]
      simp [List.getD, hi]
  · have hj : j < l.length * 6 := by have := (List.getElem?_eq_some_iff.1 hu).1; rw [flat_len, hll] at this; exact this
    have ht : j / 6 < l.length := by omega
    have := txnCells_at _ (j / 6) (q (j / 6)) (hgq _ ht) (j % 6) (by omega)
    rw [show j / 6 * 6 + j % 6 = j by omega] at this
    rw [this] at hu
    have hc := (hq _ ht).2.1 (j % 6) (by omega)
    rw [show ob + j / 6 * 6 + j % 6 = ob + j by omega] at hc
    rw [hc, hu]
  · obtain ⟨i, hi, rfl⟩ := List.mem_map.1 hp
    exact (hq i (by simpa using hi)).2.2

theorem flat_one {w : World} : ∀ vs : List TX4, (∀ p ∈ vs, SeesT w #[.int .i64 p.1.ses, .int .i64 p.1.req, p.2.1, p.2.2.1, p.2.2.2.1, p.2.2.2.2] p.1) → ∀ u ∈ vs.flatMap txnCells, u.oneCell' = true
  | [], _, u, hu => by cases hu
  | p :: r, h, u, hu => by
    rw [List.flatMap_cons, List.mem_append] at hu
    rcases hu with hu | hu
    · obtain ⟨_, _, _, _, _, _, _, _, e1, e2, e3, e4⟩ := (h p (List.mem_cons_self ..)).shape
      simp only [txnCells, List.mem_cons, List.not_mem_nil, or_false] at hu
      rcases hu with rfl | rfl | rfl | rfl | rfl | rfl
      · rfl
      · rfl
      · rw [e1]; rfl
      · rw [e2]; rfl
      · rw [e3]; rfl
      · rw [e4]; rfl
    · exact flat_one r (fun p hp => h p (List.mem_cons_of_mem _ hp)) u hu

set_option maxHeartbeats 400000 in
theorem cloneTs_any (v : Value) (l : List TxnD) (w : World) (hs : SeesTs w v l) (hm : l.length ≤ 1256584717421) :
    Calls Try.prog 55 #[v] w fun e w' => ∃ x, e = .returned x ∧ (∃ vs : List TX4, vs.map (·.1) = l ∧ w'.ownsRow w.heap.size 81 6 x l.length (vs.flatMap txnCells) ∧ ∀ p ∈ vs, SeesT w #[.int .i64 p.1.ses, .int .i64 p.1.req, p.2.1, p.2.2.1, p.2.2.2.1, p.2.2.2.2] p.1) ∧ Below w.heap.size w w' := by
  obtain ⟨i0, hi, hz0, hz1, hz2⟩ := info_parts Try.info81
  have hE := fun (w : World) a n c => Lib.run_eql_slice_nil (P := Try.prog) w 31 81 a n c 0 0 Try.underlying31
  obtain ⟨ao, cap, gb, ob, vs, rfl, hlc, hvs, hao, hc, hse⟩ := hs.rows
  have HC := hide hc
  have HV := hide hvs
  have HSE := hide hse
  have hfl := flat_len vs
  rw [show vs.length = l.length by rw [← hvs]; simp] at hfl
  have HFL := hide hfl
  clear hc hs hvs hse hfl
  cases ao with
  | none =>
    obtain rfl : l = [] := by
      cases l with
      | nil => rfl
      | cons x r => have := hao (by simp); cases this
    go_enter Try.func55, Try.ntmps55
    go_wp2
    go_ret
    exact ⟨_, rfl, ⟨[], rfl, World.ownsRow_nil _ _ _ _, fun p hp => by cases hp⟩, Below.refl _ _⟩
  | some a =>
    have HN : Hid (∀ j u, (vs.flatMap txnCells)[j]? = some u → (w.alloc (.cells #[] 81)).cell? (a.add j) = some u) := fun j u hu => by
      have hpos : 0 < l.length := by
        have := (List.getElem?_eq_some_iff.1 hu).1; rw [unhide HFL] at this; omega
      obtain rfl := Option.some.inj (hao hpos)
      have := unhide HC j u hu
      have hadd : (⟨gb, ob, none⟩ : Addr).add j = ⟨gb, ob + j, none⟩ := by unfold Addr.add; split <;> simp_all
      rw [hadd]
      exact (World.cell?_alloc_lt _ _ _ (World.block_lt_of_cell? w _ this)).trans this
    clear hao HC
    go_enter Try.func55, Try.ntmps55
    go_wp2_with (at_builtin; refine wpList_append_own _ rfl _ _ 31 rfl w.heap.size 81 i0 (.agg #[.int .i64 0, .int .i64 0, .slice none 0 0, .slice none 0 0, .slice none 0 0, .slice none 0 0]) 6 112 Try.underlying31 hi hz0 hz1 hz2 rfl (by decide) _ 0 [] rfl (own_empty0 w 81 6) a l.length cap (vs.flatMap txnCells) rfl (unhide HFL) (unhide HN) (flat_one vs (unhide HSE)) ?d2 ?d3 ?d4 ?_)
    case d2 => unfold maxLen; omega
    case d3 => omega
    case d4 => simp
    intro x w1 ho hg _
    have hb1 : Below w.heap.size w w1 := ((Below.refl _ _).alloc (Nat.le_refl _) _).grown hg (by simp) (by
      intro k hk
      simp [Value.ownBlock] at hk
      omega)
    have HF : Hid ((∃ vs : List TX4, vs.map (·.1) = l ∧ w1.ownsRow w.heap.size 81 6 x l.length (vs.flatMap txnCells) ∧ ∀ p ∈ vs, SeesT w #[.int .i64 p.1.ses, .int .i64 p.1.req, p.2.1, p.2.2.1, p.2.2.2.1, p.2.2.2.2] p.1) ∧ Below w.heap.size w w1) := ⟨⟨vs, unhide HV, by simpa using ho, unhide HSE⟩, hb1⟩
    clear ho hg hb1
    go_wp2
    go_ret
    exact ⟨x, rfl, unhide HF⟩
end Go.Proofs.Ytoddemcmmijoaaa

/- Record: a list of transactions, cloned part by part. -/
namespace Go.Proofs.Ytoddemcmmijoaaa
open Go.RowKit Go.Deep
set_option maxRecDepth 100000

theorem List.set_getElem?_self' {α : Type} {l : List α} {i : Nat} {a : α} (h : l[i]? = some a) : l.set i a = l := by
  obtain ⟨hi, rfl⟩ := List.getElem?_eq_some_iff.1 h
  simp
theorem cell_of_heap' {w : World} {b o : Nat} {cs : Array Value} {T : TypeId} (h : w.heap[b]? = some (.cells cs T)) : w.cell? ⟨b, o, none⟩ = cs[o]? := by
  simp [World.cell?, h]
theorem own_setO {w : World} {base e size n g T : Nat} {v : Value} {xs : List Value} {cur : Array Value} (h : w.ownsRow base e size v n xs) (hg : w.heap[g]? = some (.cells cur T)) (hne : e ≠ T) (j : Nat) (u : Value) : (w.setCell ⟨g, j, none⟩ u).ownsRow base e size v n xs := by
  refine ⟨h.1, ?_⟩
  rcases h.2 with hn | ⟨g', cap, cur', hv, hg', hh, r⟩
  · exact .inl hn
  · refine .inr ⟨g', cap, cur', hv, hg', (Below.heap_setCell _ _ _ _ (fun e' => ?_)).trans hh, r⟩
    simp only at e'
    subst e'
    rw [hg] at hh
    cases hh
    exact hne rfl
theorem OwnT.setO {base g : Nat} {w : World} {cs : Array Value} {t : TxnD} {cur : Array Value} (h : OwnT base w cs t) (hg : w.heap[g]? = some (.cells cur 81)) (j : Nat) (u : Value) : OwnT base (w.setCell ⟨g, j, none⟩ u) cs t := by
  obtain ⟨cv, av, rv, wv, h0, h1, h2, h3, h4⟩ := h
  exact ⟨cv, av, rv, wv, h0, own_setO h1 hg (by decide) _ _, own_setO h2 hg (by decide) _ _, own_setO h3 hg (by decide) _ _, own_setO h4 hg (by decide) _ _⟩
theorem row_cell {w : World} {base e size n cap g : Nat} {xs : List Value} (h : w.ownsRow base e size (.slice (some ⟨g, 0, none⟩) n cap) n xs) (j : Nat) (u : Value) (hu : xs[j]? = some u) : w.cell? ⟨g, j, none⟩ = some u := by
  rcases h.2 with ⟨e, _⟩ | ⟨g', cap', cur, hv, _, hh, _, _, _, ht⟩
  · cases e
  · cases hv
    rw [← ht] at hu
    have h1 : cur.toList[j]? = some u := by
      rw [List.getElem?_take] at hu
      split at hu
      · exact hu
      · cases hu
    rw [cell_of_heap' hh]
    simpa using h1
theorem row_heap {w : World} {base e size n cap g : Nat} {xs : List Value} (h : w.ownsRow base e size (.slice (some ⟨g, 0, none⟩) n cap) n xs) : base ≤ g ∧ ∃ cur, w.heap[g]? = some (.cells cur e) := by
  rcases h.2 with ⟨e, _⟩ | ⟨g', cap', cur, hv, hb, hh, _⟩
  · cases e
  · cases hv
    exact ⟨hb, cur, hh⟩
/-- Where the loop of clones stands: the first i are one's own. -/
structure CL (w : World) (wr : World) (g n cap i : Nat) (vs : List TX4) (l : List TxnD) : Prop where
  map : vs.map (·.1) = l
  len : l.length = n
  row : wr.ownsRow w.heap.size 81 6 (.slice (some ⟨g, 0, none⟩) n cap) n (vs.flatMap txnCells)
  done : ∀ j p, j < i → vs[j]? = some p → OwnT w.heap.size wr #[.int .i64 p.1.ses, .int .i64 p.1.req, p.2.1, p.2.2.1, p.2.2.2.1, p.2.2.2.2] p.1
  rest : ∀ j p, i ≤ j → vs[j]? = some p → SeesT w #[.int .i64 p.1.ses, .int .i64 p.1.req, p.2.1, p.2.2.1, p.2.2.2.1, p.2.2.2.2] p.1
  below : Below w.heap.size w wr
theorem CL.below' {w wr y : World} {g n cap i : Nat} {vs : List TX4} {l : List TxnD} (h : CL w wr g n cap i vs l) (hb : Below wr.heap.size wr y) : CL w y g n cap i vs l :=
  ⟨h.map, h.len, own_below h.row hb, fun j p hj hp => (h.done j p hj hp).below hb, h.rest, h.below.trans (hb.mono h.below.size)⟩
/-- One cell of the row is set. -/
theorem own_row6 {w : World} {base n cap g : Nat} {xs : List Value} (h : w.ownsRow base 81 6 (.slice (some ⟨g, 0, none⟩) n cap) n xs) (o : Nat) (q : TX4) :
    ((((((w.setCell ⟨g, o, none⟩ (.int .i64 q.1.ses)).setCell ⟨g, o + 1, none⟩ (.int .i64 q.1.req)).setCell ⟨g, o + 2, none⟩ q.2.1).setCell ⟨g, o + 3, none⟩ q.2.2.1).setCell ⟨g, o + 4, none⟩ q.2.2.2.1).setCell ⟨g, o + 5, none⟩ q.2.2.2.2).ownsRow base 81 6 (.slice (some ⟨g, 0, none⟩) n cap) n
      ((((((xs.set o (.int .i64 q.1.ses)).set (o + 1) (.int .i64 q.1.req)).set (o + 2) q.2.1).set (o + 3) q.2.2.1).set (o + 4) q.2.2.2.1).set (o + 5) q.2.2.2.2) :=
  own_set (own_set (own_set (own_set (own_set (own_set h _ _) _ _) _ _) _ _) _ _) _ _
theorem OwnT.set6 {base n cap g b2 : Nat} {w : World} {cs : Array Value} {t : TxnD} {xs : List Value} (h : OwnT base w cs t) (hr : w.ownsRow b2 81 6 (.slice (some ⟨g, 0, none⟩) n cap) n xs) (o : Nat) (q : TX4) :
    OwnT base ((((((w.setCell ⟨g, o, none⟩ (.int .i64 q.1.ses)).setCell ⟨g, o + 1, none⟩ (.int .i64 q.1.req)).setCell ⟨g, o + 2, none⟩ q.2.1).setCell ⟨g, o + 3, none⟩ q.2.2.1).setCell ⟨g, o + 4, none⟩ q.2.2.2.1).setCell ⟨g, o + 5, none⟩ q.2.2.2.2) cs t := by
  have r1 := own_set hr o (.int .i64 q.1.ses)
  have r2 := own_set r1 (o + 1) (.int .i64 q.1.req)
  have r3 := own_set r2 (o + 2) q.2.1
  have r4 := own_set r3 (o + 3) q.2.2.1
  have r5 := own_set r4 (o + 4) q.2.2.2.1
  obtain ⟨_, _, e0⟩ := row_heap hr
  obtain ⟨_, _, e1⟩ := row_heap r1
  obtain ⟨_, _, e2⟩ := row_heap r2
  obtain ⟨_, _, e3⟩ := row_heap r3
  obtain ⟨_, _, e4⟩ := row_heap r4
  obtain ⟨_, _, e5⟩ := row_heap r5
  exact (((((h.setO e0 _ _).setO e1 _ _).setO e2 _ _).setO e3 _ _).setO e4 _ _).setO e5 _ _
/-- One part is cloned and set. -/
theorem CL.step {w wr : World} {g n cap i : Nat} {vs : List TX4} {l : List TxnD} (h : CL w wr g n cap i vs l) (hi : i < n) (p q : TX4) (hp : vs[i]? = some p) (hq : q.1 = p.1) (ho : OwnT w.heap.size wr #[.int .i64 q.1.ses, .int .i64 q.1.req, q.2.1, q.2.2.1, q.2.2.2.1, q.2.2.2.2] q.1) :
    CL w ((((((wr.setCell ⟨g, i * 6, none⟩ (.int .i64 q.1.ses)).setCell ⟨g, i * 6 + 1, none⟩ (.int .i64 q.1.req)).setCell ⟨g, i * 6 + 2, none⟩ q.2.1).setCell ⟨g, i * 6 + 3, none⟩ q.2.2.1).setCell ⟨g, i * 6 + 4, none⟩ q.2.2.2.1).setCell ⟨g, i * 6 + 5, none⟩ q.2.2.2.2) g n cap (i + 1) (vs.set i q) l := by
  have hvl : i < vs.length := (List.getElem?_eq_some_iff.1 hp).1
  have hrow := own_row6 h.row (i * 6) q
  rw [flat_set vs i q hvl] at hrow
  have hgb := (row_heap h.row).1
  refine ⟨?_, h.len, hrow, fun j r hj hr => ?_, fun j r hj hr => ?_, ?_⟩
  · rw [← h.map, List.map_set, hq]
    have : (vs.map (·.1))[i]? = some p.1 := by simp [hp]
    exact List.set_getElem?_self' this
  · by_cases e : j = i
    · subst e
      rw [List.getElem?_set_self hvl] at hr
      cases hr
      exact ho.set6 h.row _ q
    · rw [List.getElem?_set_ne (fun e' => e e'.symm)] at hr
      exact (h.done j r (by omega) hr).set6 h.row _ q
  · rw [List.getElem?_set_ne (by omega)] at hr
    exact h.rest j r (by omega) hr
  · exact (((((h.below.setCell (p := ⟨g, _, none⟩) hgb _).setCell (p := ⟨g, _, none⟩) hgb _).setCell (p := ⟨g, _, none⟩) hgb _).setCell (p := ⟨g, _, none⟩) hgb _).setCell (p := ⟨g, _, none⟩) hgb _).setCell (p := ⟨g, _, none⟩) hgb _
theorem CL.end {w wr : World} {g n cap : Nat} {vs : List TX4} {l : List TxnD} (h : CL w wr g n cap n vs l) : OwnTs w.heap.size wr (.slice (some ⟨g, 0, none⟩) n cap) l := by
  refine ⟨vs, h.map, by rw [h.len]; exact h.row, fun p hp => ?_⟩
  obtain ⟨j, hj, rfl⟩ := List.getElem_of_mem hp
  have hl : vs.length = n := by rw [← h.len, ← h.map]; simp
  exact h.done j _ (by omega) (by simp [hj])
end Go.Proofs.Ytoddemcmmijoaaa
