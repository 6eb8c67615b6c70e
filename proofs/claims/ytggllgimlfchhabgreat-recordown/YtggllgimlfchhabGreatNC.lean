/- Record: a list of transactions, cloned as it stands; a row's part set anew. -/
import Derived.Test.YtggllgimlfchhabGreatNB
import Derived.Deep.Slices
namespace Go.Proofs.YtggllgimlfchhabGreat
open Go.RowKit Go.Deep
set_option maxRecDepth 100000

theorem own_set {w : World} {base e size n cap g : Nat} {xs : List Value} (h : w.ownsRow base e size (.slice (some ⟨g, 0, none⟩) n cap) n xs) (j : Nat) (u : Value) : (w.setCell ⟨g, j, none⟩ u).ownsRow base e size (.slice (some ⟨g, 0, none⟩) n cap) n (xs.set j u) := by
  obtain ⟨h1, h2⟩ := h
  refine ⟨by simpa using h1, ?_⟩
  rcases h2 with ⟨e, _⟩ | ⟨g', cap', cur, hv, hb, hh, hnc, hcm, hsz, ht⟩
  · cases e
  · cases hv
    refine .inr ⟨g, cap, cur.setIfInBounds j u, rfl, hb, setCell_heap hh, hnc, hcm, by simpa using hsz, ?_⟩
    rw [Array.toList_setIfInBounds, List.take_set, ht]
abbrev TX4 := TxnD × Value × Value × Value × Value
instance : Inhabited TX4 := ⟨(dT, .slice none 0 0, .slice none 0 0, .slice none 0 0, .slice none 0 0)⟩
theorem txnCells_len (p : TX4) : (txnCells p).length = 6 := rfl
theorem flat_len : ∀ vs : List TX4, (vs.flatMap txnCells).length = vs.length * 6
  | [] => rfl
  | p :: r => by rw [List.flatMap_cons, List.length_append, flat_len r, txnCells_len, List.length_cons]; omega
theorem set_behind {a b : List Value} (k : Nat) (u : Value) : (a ++ b).set (a.length + k) u = a ++ b.set k u := by
  rw [List.set_append_right _ _ (by omega)]
  simp
theorem flat_set : ∀ (vs : List TX4) (t : Nat) (q : TX4), t < vs.length →
    ((((((vs.flatMap txnCells).set (t * 6) (.int .i64 q.1.ses)).set (t * 6 + 1) (.int .i64 q.1.req)).set (t * 6 + 2) q.2.1).set (t * 6 + 3) q.2.2.1).set (t * 6 + 4) q.2.2.2.1).set (t * 6 + 5) q.2.2.2.2 = (vs.set t q).flatMap txnCells
  | [], t, q, h => absurd h (by simp)
  | p :: r, 0, q, _ => by simp [List.flatMap_cons, txnCells]
  | p :: r, t + 1, q, h => by
    have ih := flat_set r t q (by simpa using h)
    have e0 : (t + 1) * 6 = (txnCells p).length + (t * 6) := by rw [txnCells_len]; omega
    rw [List.flatMap_cons, e0]
    simp only [Nat.add_assoc]
    rw [set_behind, set_behind, set_behind, set_behind, set_behind, set_behind, ih, List.set_cons_succ, List.flatMap_cons]

/-- What a slice of transactions shows, with the values of its cells. -/
theorem SeesTs.rows {w : World} {v : Value} {l : List TxnD} (h : SeesTs w v l) : ∃ (ao : Option Addr) (cap gb ob : Nat) (vs : List TX4), v = .slice ao l.length cap ∧ l.length ≤ cap ∧ vs.map (·.1) = l ∧ (0 < l.length → ao = some ⟨gb, ob, none⟩) ∧
    (∀ j u, (vs.flatMap txnCells)[j]? = some u → w.cell? ⟨gb, ob + j, none⟩ = some u) ∧ ∀ p ∈ vs, SeesT w #[.int .i64 p.1.ses, .int .i64 p.1.req, p.2.1, p.2.2.1, p.2.2.2.1, p.2.2.2.2] p.1 := by
  obtain ⟨ao, cap, gb, ob, h1, h2, _, h4, h5⟩ := h
  have ea : ∀ i, i < l.length → ∃ p : TX4, p.1 = l.getD i dT ∧ (∀ k, k < 6 → w.cell? ⟨gb, ob + i * 6 + k, none⟩ = (txnCells p)[k]?) ∧ SeesT w #[.int .i64 p.1.ses, .int .i64 p.1.req, p.2.1, p.2.2.1, p.2.2.2.1, p.2.2.2.2] p.1 := fun i hi => by
    obtain ⟨cv, av, rv, wv, c0, c1, c2, c3, c4, c5, hs⟩ := h5 i hi
    refine ⟨(l.getD i dT, cv, av, rv, wv), rfl, fun k hk => ?_, hs⟩
    match k, hk with
    | 0, _ => exact c0
    | 1, _ => exact c1
    | 2, _ => exact c2
    | 3, _ => exact c3
    | 4, _ => exact c4
    | 5, _ => exact c5
  obtain ⟨q, hq⟩ := choose_lt ea
  have hll : ((List.range l.length).map q).length = l.length := by simp
  have hgq : ∀ t, t < l.length → ((List.range l.length).map q)[t]? = some (q t) := fun t ht => by simp [ht]
  refine ⟨ao, cap, gb, ob, (List.range l.length).map q, h1, h2, ?_, h4, fun j u hu => ?_, fun p hp => ?_⟩
  · apply List.ext_getElem
    · simp
    · intro i hi1 hi2
      have hi : i < l.length := hi2
      simp only [List.map_map, List.getElem_map, List.getElem_range, Function.comp]
      rw [(hq i hi).1]
      simp [List.getD, hi]
  · have hj : j < l.length * 6 := by have := (List.getElem?_eq_some_iff.1 hu).1; rw [flat_len, hll] at this; exact this
    have ht : j / 6 < l.length := by omega
    have := txnCells_at _ (j / 6) (q (j / 6)) (hgq _ ht) (j % 6) (by omega)
    rw [show j / 6 * 6 + j % 6 = j by omega] at this
    rw [this] at hu
    have hc := (hq _ ht).2.1 (j % 6) (by omega)
    rw [show ob + j / 6 * 6 + j % 6 = ob + j by omega] at hc
    rw [hc, hu]
  · obtain ⟨i, hi, rfl⟩ := List.mem_map.1 hp
    exact (hq i (by simpa using hi)).2.2

theorem flat_one {w : World} : ∀ vs : List TX4, (∀ p ∈ vs, SeesT w #[.int .i64 p.1.ses, .int .i64 p.1.req, p.2.1, p.2.2.1, p.2.2.2.1, p.2.2.2.2] p.1) → ∀ u ∈ vs.flatMap txnCells, u.oneCell' = true
  | [], _, u, hu => by cases hu
  | p :: r, h, u, hu => by
    rw [List.flatMap_cons, List.mem_append] at hu
    rcases hu with hu | hu
    · obtain ⟨_, _, _, _, _, _, _, _, e1, e2, e3, e4⟩ := (h p (List.mem_cons_self ..)).shape
      simp only [txnCells, List.mem_cons, List.not_mem_nil, or_false] at hu
      rcases hu with rfl | rfl | rfl | rfl | rfl | rfl
      · rfl
      · rfl
      · rw [e1]; rfl
      · rw [e2]; rfl
      · rw [e3]; rfl
      · rw [e4]; rfl
    · exact flat_one r (fun p hp => h p (List.mem_cons_of_mem _ hp)) u hu

set_option maxHeartbeats 400000 in
theorem cloneTs_any (v : Value) (l : List TxnD) (w : World) (hs : SeesTs w v l) (hm : l.length ≤ 1256584717421) :
    Calls Tryz.prog 78 #[v] w fun e w' => ∃ x, e = .returned x ∧ (∃ vs : List TX4, vs.map (·.1) = l ∧ w'.ownsRow w.heap.size 70 6 x l.length (vs.flatMap txnCells) ∧ ∀ p ∈ vs, SeesT w #[.int .i64 p.1.ses, .int .i64 p.1.req, p.2.1, p.2.2.1, p.2.2.2.1, p.2.2.2.2] p.1) ∧ Below w.heap.size w w' := by
  obtain ⟨i0, hi, hz0, hz1, hz2⟩ := info_parts Tryz.info70
  have hE := fun (w : World) a n c => Lib.run_eql_slice_nil (P := Tryz.prog) w 22 70 a n c 0 0 Tryz.underlying22
  obtain ⟨ao, cap, gb, ob, vs, rfl, hlc, hvs, hao, hc, hse⟩ := hs.rows
  have HC := hide hc
  have HV := hide hvs
  have HSE := hide hse
  have hfl := flat_len vs
  rw [show vs.length = l.length by rw [← hvs]; simp] at hfl
  have HFL := hide hfl
  clear hc hs hvs hse hfl
  cases ao with
  | none =>
    obtain rfl : l = [] := by
      cases l with
      | nil => rfl
      | cons x r => have := hao (by simp); cases this
    go_enter Tryz.func78, Tryz.ntmps78
    go_wp2
    go_ret
    exact ⟨_, rfl, ⟨[], rfl, World.ownsRow_nil _ _ _ _, fun p hp => by cases hp⟩, Below.refl _ _⟩
  | some a =>
    have HN : Hid (∀ j u, (vs.flatMap txnCells)[j]? = some u → (w.alloc (.cells #[] 70)).cell? (a.add j) = some u) := fun j u hu => by
      have hpos : 0 < l.length := by
        have := (List.getElem?_eq_some_iff.1 hu).1; rw [unhide HFL] at this; omega
      obtain rfl := Option.some.inj (hao hpos)
      have := unhide HC j u hu
      have hadd : (⟨gb, ob, none⟩ : Addr).add j = ⟨gb, ob + j, none⟩ := by unfold Addr.add; split <;> simp_all
      rw [hadd]
      exact (World.cell?_alloc_lt _ _ _ (World.block_lt_of_cell? w _ this)).trans this
    clear hao HC
    go_enter Tryz.func78, Tryz.ntmps78
    go_wp2_with (at_builtin; refine wpList_append_own _ rfl _ _ 22 rfl w.heap.size 70 i0 (.agg #[.int .i64 0, .int .i64 0, .slice none 0 0, .slice none 0 0, .slice none 0 0, .slice none 0 0]) 6 112 Tryz.underlying22 hi hz0 hz1 hz2 rfl (by decide) _ 0 [] rfl (own_empty0 w 70 6) a l.length cap (vs.flatMap txnCells) rfl (unhide HFL) (unhide HN) (flat_one vs (unhide HSE)) ?d2 ?d3 ?d4 ?_)
    case d2 => unfold maxLen; omega
    case d3 => omega
    case d4 => simp
    intro x w1 ho hg _
    have hb1 : Below w.heap.size w w1 := ((Below.refl _ _).alloc (Nat.le_refl _) _).grown hg (by simp) (by
      intro k hk
      simp [Value.ownBlock] at hk
      omega)
    have HF : Hid ((∃ vs : List TX4, vs.map (·.1) = l ∧ w1.ownsRow w.heap.size 70 6 x l.length (vs.flatMap txnCells) ∧ ∀ p ∈ vs, SeesT w #[.int .i64 p.1.ses, .int .i64 p.1.req, p.2.1, p.2.2.1, p.2.2.2.1, p.2.2.2.2] p.1) ∧ Below w.heap.size w w1) := ⟨⟨vs, unhide HV, by simpa using ho, unhide HSE⟩, hb1⟩
    clear ho hg hb1
    go_wp2
    go_ret
    exact ⟨x, rfl, unhide HF⟩
end Go.Proofs.YtggllgimlfchhabGreat
