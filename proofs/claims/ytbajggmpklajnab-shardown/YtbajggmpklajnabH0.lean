/- Merge. -/
import Derived.Test.YtbajggmpklajnabP1
import Derived.Test.YtbajggmpklajnabC2
import Derived.Test.YtbajggmpklajnabG0
namespace Go.Proofs.Ytbajggmpklajnab
open Go.RowKit
set_option maxRecDepth 100000

theorem Try.under54 : Try.prog.underlying 54 = some (.map 27 3) := by kernel_rfl
/-- Keys by their places. -/
def ents (D : List Ky) : List (Ky × Value) := D.mapIdx fun i k => (k, .int .i64 (i : Int))
theorem ents_keys (D : List Ky) : (ents D).map (·.1) = D := by
  refine List.ext_getElem? fun i => ?_
  simp only [ents, List.getElem?_map, List.getElem?_mapIdx]
  cases D[i]? <;> rfl
theorem ents_snoc (D : List Ky) (k : Ky) : ents (D ++ [k]) = ents D ++ [(k, .int .i64 (D.length : Int))] := by simp [ents]
theorem ents_mem {D : List Ky} {k : Ky} (h : k ∈ D) : (k, Value.int .i64 ((D.idxOf k : Nat) : Int)) ∈ ents D := by
  have hi := List.idxOf_lt_length_of_mem h
  refine List.mem_of_getElem? (i := D.idxOf k) ?_
  simp only [ents, List.getElem?_mapIdx]
  rw [List.getElem?_eq_getElem hi, List.getElem_idxOf hi]
  rfl
theorem ents_ok {D : List Ky} (hD : ∀ k ∈ D, OkK k) : ∀ q ∈ ents D, OkK q.1 := fun q hq => hD _ (by rw [← ents_keys D]; exact List.mem_map.2 ⟨q, hq, rfl⟩)
theorem ents_no {D : List Ky} {k : Ky} (h : k ∉ D) : ∀ q ∈ ents D, q.1 ≠ k := fun q hq e => h (by rw [← ents_keys D, ← e]; exact List.mem_map.2 ⟨q, hq, rfl⟩)
/-- Where Merge stands. -/
structure PI (w : World) (mb : Nat) (wr : World) (v : Value) (D : List Pr) : Prop where
  own : wr.ownsRow w.heap.size 29 3 v D.length (D.flatMap pC)
  map : MapAt wr mb (ents (keysOf D))
  bel : Below w.heap.size w wr
  low : w.heap.size ≤ mb
theorem PI.start (w : World) : PI w w.heap.size (w.alloc (.map #[] 0)) (.slice none 0 0) [] :=
  ⟨own_nil _ _ _ _, ⟨#[], 0, heap_alloc_new w _, rfl⟩, (Below.refl _ _).alloc (Nat.le_refl _) _, Nat.le_refl _⟩
theorem PI.grow {w wr y : World} {mb : Nat} {v : Value} {D : List Pr} (h : PI w mb wr v D) (hb : Below wr.heap.size wr y) : PI w mb y v D :=
  ⟨own_below h.own hb, h.map.below hb, h.bel.trans (hb.mono h.bel.size), h.low⟩
theorem PI.hit {w wr y : World} {mb : Nat} {v : Value} {D : List Pr} (h : PI w mb wr v D) (hb : Below wr.heap.size wr y) (hD : ∀ k ∈ keysOf D, OkK k) (hn : (keysOf D).Nodup) {a b : Int} (hin : (a, b) ∈ keysOf D) :
    (Instr.lookup 54 (.map (some mb)) (.agg #[.int .i32 a, .int .i64 b]) true).run Try.prog y = .ok (.tuple #[.int .i64 (((keysOf D).idxOf (a, b) : Nat) : Int), .bool true]) y :=
  look_has Try.under54 (k := (a, b)) (h.map.below hb) (ents_ok hD) (by rw [ents_keys]; exact hn) (ents_mem hin)
theorem PI.miss {w wr y : World} {mb : Nat} {v : Value} {D : List Pr} (h : PI w mb wr v D) (hb : Below wr.heap.size wr y) (hD : ∀ k ∈ keysOf D, OkK k) {a b : Int} (hk : OkK (a, b)) (hin : (a, b) ∉ keysOf D) :
    (Instr.lookup 54 (.map (some mb)) (.agg #[.int .i32 a, .int .i64 b]) true).run Try.prog y = .ok (.tuple #[.int .i64 0, .bool false]) y :=
  look_no Try.under54 (z := .int .i64 0) Try.zeroValue3 (k := (a, b)) (h.map.below hb) (ents_ok hD) hk (ents_no hin)
/-- A pair stored at its place. -/
theorem own_store {w : World} {base n cap g : Nat} {D : List Pr} (h : w.ownsRow base 29 3 (.slice (some ⟨g, 0, none⟩) n cap) n (D.flatMap pC)) {i : Nat} (hi : i < D.length) (p : Pr) :
    (∀ j, j < 3 → ∃ u, w.cell? ⟨g, i * 3 + j, none⟩ = some u) ∧ (∀ o, w.frozen? ⟨g, o, none⟩ = false) ∧ (((w.setCell ⟨g, i * 3, none⟩ (.int .i32 p.1.1)).setCell ⟨g, i * 3 + 1, none⟩ (.int .i64 p.1.2)).setCell ⟨g, i * 3 + 2, none⟩ (.int .i64 p.2)).ownsRow base 29 3 (.slice (some ⟨g, 0, none⟩) n cap) n ((D.set i p).flatMap pC) := by
  rcases h.2 with ⟨e, _⟩ | ⟨g', cap', cur, hv, hb, hh, hnc, hcm, hsz, ht⟩
  · cases e
  cases hv
  have hn : n = D.length := (own_sees pC_len (by decide) h).1
  have h3 : i * 3 + 3 ≤ n * 3 := by omega
  have hcs : n * 3 ≤ cur.size := by rw [hsz]; exact Nat.mul_le_mul_right 3 hnc
  have s1 := heap_setCell_same w g (i * 3) cur 29 (.int .i32 p.1.1) hh
  have s2 := heap_setCell_same _ g (i * 3 + 1) _ 29 (.int .i64 p.1.2) s1
  have s3 := heap_setCell_same _ g (i * 3 + 2) _ 29 (.int .i64 p.2) s2
  refine ⟨fun j hj => ⟨_, (cell_at hh).trans (Array.getElem?_eq_getElem (by omega))⟩, fun o => frozen_of_heap hh, ?_, .inr ⟨g, cap, _, rfl, hb, s3, hnc, hcm, by simpa using hsz, ?_⟩⟩
  · rw [flat_len pC_len, List.length_set, ← hn]
  · refine List.ext_getElem? fun t => ?_
    by_cases htn : t < n * 3
    · rw [List.getElem?_take_of_lt htn]
      have hq : t / 3 < D.length := by omega
      have hjk : t / 3 * 3 + t % 3 = t := by omega
      have hmod : t % 3 < 3 := Nat.mod_lt _ (by decide)
      have e1 : (D.set i p)[t / 3]? = some (if i = t / 3 then p else D[t / 3]) := by
        rw [List.getElem?_eq_getElem (by simpa using hq), List.getElem_set]
      have e2 := flat_at pC_len (D.set i p) (t / 3) _ e1 (t % 3) hmod
      rw [hjk] at e2
      rw [e2]
      have e3 := flat_at pC_len D (t / 3) _ (List.getElem?_eq_getElem hq) (t % 3) hmod
      rw [hjk, ← ht, List.getElem?_take_of_lt htn] at e3
      simp only [Array.toList_setIfInBounds, List.getElem?_set, Array.length_toList, List.length_set]
      by_cases hit : i = t / 3
      · rw [if_pos hit]
        subst hit
        rcases (by omega : t % 3 = 0 ∨ t % 3 = 1 ∨ t % 3 = 2) with hm | hm | hm
        · have : t / 3 * 3 = t := by omega
          rw [hm, if_neg (by omega), if_neg (by omega), if_pos (by omega), if_pos (by omega)]
          rfl
        · rw [hm, if_neg (by omega), if_pos (by omega), if_pos (by omega)]
          rfl
        · rw [hm, if_pos (by omega), if_pos (by omega)]
          rfl
      · rw [if_neg hit, if_neg (by omega), if_neg (by omega), if_neg (by omega)]
        exact e3
    · rw [List.getElem?_eq_none (by rw [List.length_take]; omega), List.getElem?_eq_none (by rw [flat_len pC_len, List.length_set]; omega)]
theorem PI.store {w wr : World} {mb : Nat} {n cap g : Nat} {D : List Pr} (h : PI w mb wr (.slice (some ⟨g, 0, none⟩) n cap) D) {i : Nat} (hi : i < D.length) {p : Pr} (hk : ∀ (hi : i < D.length), D[i].1 = p.1) :
    (∀ j, j < 3 → ∃ u, wr.cell? ⟨g, i * 3 + j, none⟩ = some u) ∧ (∀ o, wr.frozen? ⟨g, o, none⟩ = false) ∧ PI w mb (((wr.setCell ⟨g, i * 3, none⟩ (.int .i32 p.1.1)).setCell ⟨g, i * 3 + 1, none⟩ (.int .i64 p.1.2)).setCell ⟨g, i * 3 + 2, none⟩ (.int .i64 p.2)) (.slice (some ⟨g, 0, none⟩) n cap) (D.set i p) := by
  have hn : D.length = n := by
    obtain ⟨ao, c', e⟩ := own_shape h.own
    simp only [Value.slice.injEq] at e
    exact e.2.1.symm
  have ho := h.own
  rw [hn] at ho
  obtain ⟨q1, q2, q3⟩ := own_store ho hi p
  have hgm : g ≠ mb := by
    rcases h.own.2 with ⟨e, _⟩ | ⟨g', c', cur, e, _, hh, _⟩
    · cases e
    · cases e
      exact h.map.apart hh
  have hgl : w.heap.size ≤ g := own_block_le h.own g rfl
  have hoth : ∀ j, j ≠ g → (((wr.setCell ⟨g, i * 3, none⟩ (.int .i32 p.1.1)).setCell ⟨g, i * 3 + 1, none⟩ (.int .i64 p.1.2)).setCell ⟨g, i * 3 + 2, none⟩ (.int .i64 p.2)).heap[j]? = wr.heap[j]? := fun j hj => by
    rw [heap_setCell_other _ _ _ _ hj, heap_setCell_other _ _ _ _ hj, heap_setCell_other _ _ _ _ hj]
  have hks : keysOf (D.set i p) = keysOf D := by
    unfold keysOf
    rw [List.map_set]
    refine List.ext_getElem? fun j => ?_
    by_cases hj : i = j
    · subst hj
      rw [List.getElem?_set_self (by simpa using hi), List.getElem?_eq_getElem (by simpa using hi), List.getElem_map, hk hi]
    · rw [List.getElem?_set_ne hj]
  refine ⟨q1, q2, ⟨by rw [List.length_set, hn]; exact q3, by rw [hks]; exact h.map.keep (hoth mb (Ne.symm hgm)), h.bel.trans ⟨rfl, rfl, rfl, by simp [World.setCell], fun j hj => hoth j (by omega)⟩, h.low⟩⟩
/-- A pair more. -/
theorem PI.more {w wr y : World} {mb : Nat} {v : Value} {D : List Pr} (h : PI w mb wr v D) (hb : Below wr.heap.size wr y) (hD : ∀ k ∈ keysOf D, OkK k) {a b c : Int} (hk : OkK (a, b)) (hin : (a, b) ∉ keysOf D) (hl : D.length < 5864062014805) :
    ∃ y3 y5 g' cap', (Instr.mapUpdate 54 (.map (some mb)) (.agg #[.int .i32 a, .int .i64 b]) (.int .i64 (D.length : Int))).run Try.prog y = .ok () y3 ∧ (∀ j, j ≠ mb → y3.heap[j]? = y.heap[j]?) ∧
      (Builtin.append_ #[23, 23] 23 #[v, .slice (some ⟨y3.heap.size, 0, none⟩) 1 1]).run Try.prog (y3.alloc (.cells #[.int .i32 a, .int .i64 b, .int .i64 c] 29)) = .ok (.slice (some ⟨g', 0, none⟩) (D.length + 1) cap') y5 ∧ PI w mb y5 (.slice (some ⟨g', 0, none⟩) (D.length + 1) cap') (D ++ [((a, b), c)]) ∧ D.length + 1 ≤ cap' ∧ ∀ j, j < wr.heap.size ∨ v.ownBlock ≠ some j → j < y3.heap.size → j ≠ mb → v.ownBlock ≠ some j → y5.heap[j]? = y3.heap[j]? := by
  have hmy := h.map.below hb
  have hoy := own_below h.own hb
  obtain ⟨y3, r1, m3, o3, z3, q1, q2, q3⟩ := put_new (k := (a, b)) Try.under54 hmy (ents_ok hD) hk (ents_no hin) (.int .i64 (D.length : Int))
  have hby : Below w.heap.size w y := h.bel.trans (hb.mono h.bel.size)
  have hb3 : Below w.heap.size w y3 := hby.trans (below_put h.low o3 z3 q1 q2 q3)
  have ho3 := own_put hmy o3 hoy
  have hal : Below y3.heap.size y3 (y3.alloc (.cells #[.int .i32 a, .int .i64 b, .int .i64 c] 29)) := below_box _
  have ho4 := own_below ho3 hal
  have hm4 := m3.below hal
  have hb4 : Below w.heap.size w (y3.alloc (.cells #[.int .i32 a, .int .i64 b, .int .i64 c] 29)) := hb3.trans (hal.mono hb3.size)
  obtain ⟨v', y5, r2, ho5, hg5⟩ := append_pairs 23 ho4 (sees_oneP y3 ((a, b), c)) (by simp only [List.length_cons, List.length_nil]; omega) hb4.size
  have hlen : D.length + [((a, b), c)].length = D.length + 1 := rfl
  rw [hlen] at ho5
  rcases ho5.2 with ⟨_, e0⟩ | ⟨g', cap', cur, hv', _, _, hnc, _⟩
  · cases e0
  subst hv'
  refine ⟨y3, y5, g', cap', r1, o3, r2, ⟨by simpa using ho5, ?_, hb4.trans ((Below.refl _ _).grown hg5 hb4.size (own_block_le ho4)), h.low⟩, hnc, fun j _ hj _ hjv => ?_⟩
  · have := map_grown hm4 ho4 hg5
    have e : keysOf (D ++ [((a, b), c)]) = keysOf D ++ [(a, b)] := by simp [keysOf]
    rw [e, ents_snoc]
    have e2 : (keysOf D).length = D.length := by simp [keysOf]
    rw [e2]
    exact this
  · rw [hg5.block j (by simp; omega) (Ne.symm hjv), Below.heap_alloc _ _ _ hj]
end Go.Proofs.Ytbajggmpklajnab
