/- Record: a list of termed entries, cloned as it stands; where the loop of clones stands. -/
import Derived.Test.YtoddemcmmijoaaaKO
namespace Go.Proofs.Ytoddemcmmijoaaa
open Go.RowKit Go.Deep
set_option maxRecDepth 100000

theorem Try.info71 : (Try.prog.info? 71).map (fun i => (i.zero, i.size, i.bytes)) = some (some (.agg #[.int .i64 0, .int .i64 0, .int .i64 0, .int .i64 0, .slice none 0 0]), 5, 56) := by kernel_rfl
abbrev TM2 := TmD × Value
instance : Inhabited TM2 := ⟨(dM, .slice none 0 0)⟩
def tmCells (p : TM2) : List Value := [.int .i64 p.1.term, .int .i64 p.1.ent.kind, .int .i64 p.1.ent.frm, .int .i64 p.1.ent.num, p.2]
theorem tmCells_len (p : TM2) : (tmCells p).length = 5 := rfl
theorem flatM_len : ∀ vs : List TM2, (vs.flatMap tmCells).length = vs.length * 5
  | [] => rfl
  | p :: r => by rw [List.flatMap_cons, List.length_append, flatM_len r, tmCells_len, List.length_cons]; omega
theorem flatM_set : ∀ (vs : List TM2) (t : Nat) (q : TM2), t < vs.length →
    (((((vs.flatMap tmCells).set (t * 5) (.int .i64 q.1.term)).set (t * 5 + 1) (.int .i64 q.1.ent.kind)).set (t * 5 + 2) (.int .i64 q.1.ent.frm)).set (t * 5 + 3) (.int .i64 q.1.ent.num)).set (t * 5 + 4) q.2 = (vs.set t q).flatMap tmCells
  | [], t, q, h => absurd h (by simp)
  | p :: r, 0, q, _ => by simp [List.flatMap_cons, tmCells]
  | p :: r, t + 1, q, h => by
    have ih := flatM_set r t q (by simpa using h)
    have e0 : (t + 1) * 5 = (tmCells p).length + (t * 5) := by rw [tmCells_len]; omega
    rw [List.flatMap_cons, e0]
    simp only [Nat.add_assoc]
    rw [set_behind, set_behind, set_behind, set_behind, set_behind, ih, List.set_cons_succ, List.flatMap_cons]
theorem tmCells_at : ∀ (vs : List TM2) t p, vs[t]? = some p → ∀ k, k < 5 → (vs.flatMap tmCells)[t * 5 + k]? = (tmCells p)[k]?
  | [], t, p, h => by simp at h
  | q :: vs, 0, p, h => fun k hk => by
    simp only [List.getElem?_cons_zero, Option.some.injEq] at h
    subst h
    rw [List.flatMap_cons, Nat.zero_mul, Nat.zero_add, List.getElem?_append_left (by rw [tmCells_len]; exact hk)]
  | q :: vs, t + 1, p, h => fun k hk => by
    rw [List.getElem?_cons_succ] at h
    rw [List.flatMap_cons, List.getElem?_append_right (by rw [tmCells_len]; omega), tmCells_len, show (t + 1) * 5 + k - 5 = t * 5 + k by omega]
    exact tmCells_at vs t p h k hk
theorem SeesTms.rows {w : World} {v : Value} {l : List TmD} (h : SeesTms w v l) : ∃ (ao : Option Addr) (cap gb ob : Nat) (vs : List TM2), v = .slice ao l.length cap ∧ l.length ≤ cap ∧ vs.map (·.1) = l ∧ (0 < l.length → ao = some ⟨gb, ob, none⟩) ∧
    (∀ j u, (vs.flatMap tmCells)[j]? = some u → w.cell? ⟨gb, ob + j, none⟩ = some u) ∧ ∀ p ∈ vs, SeesTs w p.2 p.1.ent.txns := by
  obtain ⟨ao, cap, gb, ob, h1, h2, _, h4, h5⟩ := h
  have ea : ∀ i, i < l.length → ∃ p : TM2, p.1 = l.getD i dM ∧ (∀ k, k < 5 → w.cell? ⟨gb, ob + i * 5 + k, none⟩ = (tmCells p)[k]?) ∧ SeesTs w p.2 p.1.ent.txns := fun i hi => by
    obtain ⟨tv, c0, c1, c2, c3, c4, hs⟩ := h5 i hi
    refine ⟨(l.getD i dM, tv), rfl, fun k hk => ?_, hs⟩
    match k, hk with
    | 0, _ => exact c0
    | 1, _ => exact c1
    | 2, _ => exact c2
    | 3, _ => exact c3
    | 4, _ => exact c4
  obtain ⟨q, hq⟩ := choose_lt ea
  have hll : ((List.range l.length).map q).length = l.length := by simp
  have hgq : ∀ t, t < l.length → ((List.range l.length).map q)[t]? = some (q t) := fun t ht => by simp [ht]
  refine ⟨ao, cap, gb, ob, (List.range l.length).map q, h1, h2, ?_, h4, fun j u hu => ?_, fun p hp => ?_⟩
  · apply List.ext_getElem
    · simp
    · intro i hi1 hi2
      have hi : i < l.length := hi2
      simp only [List.map_map, List.getElem_map, List.getElem_range, Function.comp]
      rw [(hq i hi).1]
      simp [List.getD, hi]
  · have hj : j < l.length * 5 := by have := (List.getElem?_eq_some_iff.1 hu).1; rw [flatM_len, hll] at this; exact this
    have ht : j / 5 < l.length := by omega
    have := tmCells_at _ (j / 5) (q (j / 5)) (hgq _ ht) (j % 5) (by omega)
    rw [show j / 5 * 5 + j % 5 = j by omega] at this
    rw [this] at hu
    have hc := (hq _ ht).2.1 (j % 5) (by omega)
    rw [show ob + j / 5 * 5 + j % 5 = ob + j by omega] at hc
    rw [hc, hu]
  · obtain ⟨i, hi, rfl⟩ := List.mem_map.1 hp
    exact (hq i (by simpa using hi)).2.2
theorem flatM_one {w : World} : ∀ vs : List TM2, (∀ p ∈ vs, SeesTs w p.2 p.1.ent.txns) → ∀ u ∈ vs.flatMap tmCells, u.oneCell' = true
  | [], _, u, hu => by cases hu
  | p :: r, h, u, hu => by
    rw [List.flatMap_cons, List.mem_append] at hu
    rcases hu with hu | hu
    · obtain ⟨_, _, _, _, e1, _⟩ := h p (List.mem_cons_self ..)
      simp only [tmCells, List.mem_cons, List.not_mem_nil, or_false] at hu
      rcases hu with rfl | rfl | rfl | rfl | rfl
      · rfl
      · rfl
      · rfl
      · rfl
      · rw [e1]; rfl
    · exact flatM_one r (fun p hp => h p (List.mem_cons_of_mem _ hp)) u hu

set_option maxHeartbeats 400000 in
theorem cloneTms_any (v : Value) (l : List TmD) (w : World) (hs : SeesTms w v l) (hm : l.length ≤ 2513169434843) :
    Calls Try.prog 41 #[v] w fun e w' => ∃ x, e = .returned x ∧ (∃ vs : List TM2, vs.map (·.1) = l ∧ w'.ownsRow w.heap.size 71 5 x l.length (vs.flatMap tmCells) ∧ ∀ p ∈ vs, SeesTs w p.2 p.1.ent.txns) ∧ Below w.heap.size w w' := by
  obtain ⟨i0, hi, hz0, hz1, hz2⟩ := info_parts Try.info71
  have hE := fun (w : World) a n c => Lib.run_eql_slice_nil (P := Try.prog) w 30 71 a n c 0 0 Try.underlying30
  obtain ⟨ao, cap, gb, ob, vs, rfl, hlc, hvs, hao, hc, hse⟩ := hs.rows
  have HC := hide hc
  have HV := hide hvs
  have HSE := hide hse
  have hfl := flatM_len vs
  rw [show vs.length = l.length by rw [← hvs]; simp] at hfl
  have HFL := hide hfl
  clear hc hs hvs hse hfl
  cases ao with
  | none =>
    obtain rfl : l = [] := by
      cases l with
      | nil => rfl
      | cons x r => have := hao (by simp); cases this
    go_enter Try.func41, Try.ntmps41
    go_wp2
    go_ret
    exact ⟨_, rfl, ⟨[], rfl, World.ownsRow_nil _ _ _ _, fun p hp => by cases hp⟩, Below.refl _ _⟩
  | some a =>
    have HN : Hid (∀ j u, (vs.flatMap tmCells)[j]? = some u → (w.alloc (.cells #[] 71)).cell? (a.add j) = some u) := fun j u hu => by
      have hpos : 0 < l.length := by
        have := (List.getElem?_eq_some_iff.1 hu).1; rw [unhide HFL] at this; omega
      obtain rfl := Option.some.inj (hao hpos)
      have := unhide HC j u hu
      have hadd : (⟨gb, ob, none⟩ : Addr).add j = ⟨gb, ob + j, none⟩ := by unfold Addr.add; split <;> simp_all
      rw [hadd]
      exact (World.cell?_alloc_lt _ _ _ (World.block_lt_of_cell? w _ this)).trans this
    clear hao HC
    go_enter Try.func41, Try.ntmps41
    go_wp2_with (at_builtin; refine wpList_append_own _ rfl _ _ 30 rfl w.heap.size 71 i0 (.agg #[.int .i64 0, .int .i64 0, .int .i64 0, .int .i64 0, .slice none 0 0]) 5 56 Try.underlying30 hi hz0 hz1 hz2 rfl (by decide) _ 0 [] rfl (own_empty0 w 71 5) a l.length cap (vs.flatMap tmCells) rfl (unhide HFL) (unhide HN) (flatM_one vs (unhide HSE)) ?d2 ?d3 ?d4 ?_)
    case d2 => unfold maxLen; omega
    case d3 => omega
    case d4 => simp
    intro x w1 ho hg _
    have hb1 : Below w.heap.size w w1 := ((Below.refl _ _).alloc (Nat.le_refl _) _).grown hg (by simp) (by
      intro k hk
      simp [Value.ownBlock] at hk
      omega)
    have HF : Hid ((∃ vs : List TM2, vs.map (·.1) = l ∧ w1.ownsRow w.heap.size 71 5 x l.length (vs.flatMap tmCells) ∧ ∀ p ∈ vs, SeesTs w p.2 p.1.ent.txns) ∧ Below w.heap.size w w1) := ⟨⟨vs, unhide HV, by simpa using ho, unhide HSE⟩, hb1⟩
    clear ho hg hb1
    go_wp2
    go_ret
    exact ⟨x, rfl, unhide HF⟩

theorem OwnTs.setO {base g T : Nat} {w : World} {x : Value} {l : List TxnD} {cur : Array Value} (h : OwnTs base w x l) (hg : w.heap[g]? = some (.cells cur T)) (h1 : (81 : Nat) ≠ T) (h2 : (5 : Nat) ≠ T) (h3 : (2 : Nat) ≠ T) (h4 : (103 : Nat) ≠ T) (j : Nat) (u : Value) : OwnTs base (w.setCell ⟨g, j, none⟩ u) x l := by
  obtain ⟨vs, e, hr, ha⟩ := h
  refine ⟨vs, e, own_setO hr hg h1 _ _, fun p hp => ?_⟩
  obtain ⟨cv, av, rv, wv, q0, q1, q2, q3, q4⟩ := ha p hp
  exact ⟨cv, av, rv, wv, q0, own_setO q1 hg h2 _ _, own_setO q2 hg h3 _ _, own_setO q3 hg h4 _ _, own_setO q4 hg h4 _ _⟩
/-- A list of termed entries in rows of one's own. -/
def OwnTms (base : Nat) (w : World) (x : Value) (l : List TmD) : Prop :=
  ∃ vs : List TM2, vs.map (·.1) = l ∧ w.ownsRow base 71 5 x l.length (vs.flatMap tmCells) ∧ ∀ p ∈ vs, OwnTs base w p.2 p.1.ent.txns
theorem OwnTms.nil (base : Nat) (w : World) : OwnTms base w (.slice none 0 0) [] := ⟨[], rfl, World.ownsRow_nil _ _ _ _, fun p hp => by cases hp⟩
structure CM (w : World) (wr : World) (g n cap i : Nat) (vs : List TM2) (l : List TmD) : Prop where
  map : vs.map (·.1) = l
  len : l.length = n
  row : wr.ownsRow w.heap.size 71 5 (.slice (some ⟨g, 0, none⟩) n cap) n (vs.flatMap tmCells)
  done : ∀ j p, j < i → vs[j]? = some p → OwnTs w.heap.size wr p.2 p.1.ent.txns
  rest : ∀ j p, i ≤ j → vs[j]? = some p → SeesTs w p.2 p.1.ent.txns
  below : Below w.heap.size w wr
theorem CM.below' {w wr y : World} {g n cap i : Nat} {vs : List TM2} {l : List TmD} (h : CM w wr g n cap i vs l) (hb : Below wr.heap.size wr y) : CM w y g n cap i vs l :=
  ⟨h.map, h.len, own_below h.row hb, fun j p hj hp => (h.done j p hj hp).below hb, h.rest, h.below.trans (hb.mono h.below.size)⟩
theorem OwnTs.set5 {base n cap g b2 : Nat} {w : World} {x : Value} {l : List TxnD} {xs : List Value} (h : OwnTs base w x l) (hr : w.ownsRow b2 71 5 (.slice (some ⟨g, 0, none⟩) n cap) n xs) (o : Nat) (q : TM2) :
    OwnTs base (((((w.setCell ⟨g, o, none⟩ (.int .i64 q.1.term)).setCell ⟨g, o + 1, none⟩ (.int .i64 q.1.ent.kind)).setCell ⟨g, o + 2, none⟩ (.int .i64 q.1.ent.frm)).setCell ⟨g, o + 3, none⟩ (.int .i64 q.1.ent.num)).setCell ⟨g, o + 4, none⟩ q.2) x l := by
  have r1 := own_set hr o (.int .i64 q.1.term)
  have r2 := own_set r1 (o + 1) (.int .i64 q.1.ent.kind)
  have r3 := own_set r2 (o + 2) (.int .i64 q.1.ent.frm)
  have r4 := own_set r3 (o + 3) (.int .i64 q.1.ent.num)
  obtain ⟨_, _, e0⟩ := row_heap hr
  obtain ⟨_, _, e1⟩ := row_heap r1
  obtain ⟨_, _, e2⟩ := row_heap r2
  obtain ⟨_, _, e3⟩ := row_heap r3
  obtain ⟨_, _, e4⟩ := row_heap r4
  exact ((((h.setO e0 (by decide) (by decide) (by decide) (by decide) _ _).setO e1 (by decide) (by decide) (by decide) (by decide) _ _).setO e2 (by decide) (by decide) (by decide) (by decide) _ _).setO e3 (by decide) (by decide) (by decide) (by decide) _ _).setO e4 (by decide) (by decide) (by decide) (by decide) _ _
theorem CM.step {w wr : World} {g n cap i : Nat} {vs : List TM2} {l : List TmD} (h : CM w wr g n cap i vs l) (p q : TM2) (hp : vs[i]? = some p) (hq : q.1 = p.1) (ho : OwnTs w.heap.size wr q.2 q.1.ent.txns) :
    CM w (((((wr.setCell ⟨g, i * 5, none⟩ (.int .i64 q.1.term)).setCell ⟨g, i * 5 + 1, none⟩ (.int .i64 q.1.ent.kind)).setCell ⟨g, i * 5 + 2, none⟩ (.int .i64 q.1.ent.frm)).setCell ⟨g, i * 5 + 3, none⟩ (.int .i64 q.1.ent.num)).setCell ⟨g, i * 5 + 4, none⟩ q.2) g n cap (i + 1) (vs.set i q) l := by
  have hvl : i < vs.length := (List.getElem?_eq_some_iff.1 hp).1
  have hrow := own_set (own_set (own_set (own_set (own_set h.row (i * 5) (.int .i64 q.1.term)) (i * 5 + 1) (.int .i64 q.1.ent.kind)) (i * 5 + 2) (.int .i64 q.1.ent.frm)) (i * 5 + 3) (.int .i64 q.1.ent.num)) (i * 5 + 4) q.2
  rw [flatM_set vs i q hvl] at hrow
  have hgb := (row_heap h.row).1
  refine ⟨?_, h.len, hrow, fun j r hj hr => ?_, fun j r hj hr => ?_, ?_⟩
  · rw [← h.map, List.map_set, hq]
    have : (vs.map (·.1))[i]? = some p.1 := by simp [hp]
    exact List.set_getElem?_self' this
  · by_cases e : j = i
    · subst e
      rw [List.getElem?_set_self hvl] at hr
      cases hr
      exact ho.set5 h.row _ q
    · rw [List.getElem?_set_ne (fun e' => e e'.symm)] at hr
      exact (h.done j r (by omega) hr).set5 h.row _ q
  · rw [List.getElem?_set_ne (by omega)] at hr
    exact h.rest j r (by omega) hr
  · exact ((((h.below.setCell (p := ⟨g, _, none⟩) hgb _).setCell (p := ⟨g, _, none⟩) hgb _).setCell (p := ⟨g, _, none⟩) hgb _).setCell (p := ⟨g, _, none⟩) hgb _).setCell (p := ⟨g, _, none⟩) hgb _
theorem CM.end {w wr : World} {g n cap : Nat} {vs : List TM2} {l : List TmD} (h : CM w wr g n cap n vs l) : OwnTms w.heap.size wr (.slice (some ⟨g, 0, none⟩) n cap) l := by
  refine ⟨vs, h.map, by rw [h.len]; exact h.row, fun p hp => ?_⟩
  obtain ⟨j, hj, rfl⟩ := List.getElem_of_mem hp
  have hl : vs.length = n := by rw [← h.len, ← h.map]; simp
  exact h.done j _ (by omega) (by simp [hj])
end Go.Proofs.Ytoddemcmmijoaaa
