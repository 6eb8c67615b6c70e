/- Several texts as one. -/
import Derived.Test.YtldapckooohigaaDoorJSP
import Derived.Test.YtldapckooohigaaDoorJSC

/- Keys. -/
namespace Go.Proofs.YtldapckooohigaaDoor
open Go.RowKit
set_option maxRecDepth 100000

theorem Tryd.under72 : Tryd.prog.underlying 72 = some (.map 38 73) := by kernel_rfl
/-- Where Keys stands: what came already. -/
structure KI (w : World) (mb : Nat) (wr : World) (v : Value) (D : List Ky) : Prop where
  own : wr.ownsRow w.heap.size 38 2 v D.length (D.flatMap kC)
  map : MapAt wr mb (D.map fun k => (k, .agg #[]))
  bel : Below w.heap.size w wr
  low : w.heap.size ≤ mb
theorem below_put {B : Nat} {w y : World} {mb : Nat} (hm : B ≤ mb) (h1 : ∀ j, j ≠ mb → y.heap[j]? = w.heap[j]?) (h2 : y.heap.size = w.heap.size) (h3 : y.os = w.os) (h4 : y.tape = w.tape) (h5 : y.output = w.output) : Below B w y :=
  ⟨h3, h4, h5, by omega, fun k hk => h1 k (by omega)⟩
theorem own_put {w y : World} {mb : Nat} {l : List (Ky × Value)} (hm : MapAt w mb l) (h1 : ∀ j, j ≠ mb → y.heap[j]? = w.heap[j]?) {base e size n : Nat} {v : Value} {xs : List Value} (h : w.ownsRow base e size v n xs) : y.ownsRow base e size v n xs := by
  refine ⟨h.1, ?_⟩
  rcases h.2 with hn | ⟨g, cap, cur, hv, hg, hh, r⟩
  · exact .inl hn
  · exact .inr ⟨g, cap, cur, hv, hg, (h1 g (hm.apart hh)).trans hh, r⟩
theorem map_grown {w w' : World} {mb : Nat} {l : List (Ky × Value)} (hm : MapAt w mb l) {base e size n : Nat} {v : Value} {xs : List Value} (ho : w.ownsRow base e size v n xs) (hg : w.grownBy w' v.ownBlock) : MapAt w' mb l := by
  refine hm.keep (hg.block mb hm.lt fun hk => ?_)
  rcases ho.2 with ⟨rfl, _⟩ | ⟨g, cap, cur, rfl, _, hh, _⟩
  · simp [Value.ownBlock] at hk
  · simp only [Value.ownBlock, Option.some.injEq] at hk
    exact hm.apart hh hk.symm
theorem KI.start (w : World) : KI w w.heap.size (w.alloc (.map #[] 0)) (.slice none 0 0) [] :=
  ⟨own_nil _ _ _ _, ⟨#[], 0, heap_alloc_new w _, rfl, stp_nil⟩, (Below.refl _ _).alloc (Nat.le_refl _) _, Nat.le_refl _⟩
theorem KI.okm {D : List Ky} (hD : ∀ k ∈ D, OkK k) : ∀ q ∈ D.map fun k => (k, Value.agg #[]), OkK q.1 := fun q hq => by
  obtain ⟨k, hk, rfl⟩ := List.mem_map.1 hq
  exact hD k hk
theorem KI.hit {w wr y : World} {mb : Nat} {v : Value} {D : List Ky} (h : KI w mb wr v D) (hb : Below wr.heap.size wr y) (hD : ∀ k ∈ D, OkK k) (hn : D.Nodup) {a b : Int} (hin : (a, b) ∈ D) :
    (Instr.lookup 72 (.map (some mb)) (.agg #[.int .i32 a, .int .i64 b]) true).run Tryd.prog y = .ok (.tuple #[.agg #[], .bool true]) y :=
  look_has Tryd.under72 (k := (a, b)) (h.map.below hb) (KI.okm hD) (by rw [List.map_map]; have e : ((fun x : Ky × Value => x.1) ∘ fun k : Ky => (k, Value.agg #[])) = id := rfl; rw [e, List.map_id]; exact hn) (List.mem_map.2 ⟨_, hin, rfl⟩)
theorem KI.miss {w wr y : World} {mb : Nat} {v : Value} {D : List Ky} (h : KI w mb wr v D) (hb : Below wr.heap.size wr y) (hD : ∀ k ∈ D, OkK k) {a b : Int} (hk : OkK (a, b)) (hin : (a, b) ∉ D) :
    (Instr.lookup 72 (.map (some mb)) (.agg #[.int .i32 a, .int .i64 b]) true).run Tryd.prog y = .ok (.tuple #[.agg #[], .bool false]) y :=
  look_no Tryd.under72 (z := .agg #[]) Tryd.zeroValue73 (k := (a, b)) (h.map.below hb) (KI.okm hD) hk fun q hq => by
    obtain ⟨k, hk, rfl⟩ := List.mem_map.1 hq
    exact fun e => hin (e ▸ hk)
theorem KI.grow {w wr y : World} {mb : Nat} {v : Value} {D : List Ky} (h : KI w mb wr v D) (hb : Below wr.heap.size wr y) : KI w mb y v D :=
  ⟨own_below h.own hb, h.map.below hb, h.bel.trans (hb.mono h.bel.size), h.low⟩
/-- A key more. -/
theorem KI.more {w wr y : World} {mb : Nat} {v : Value} {D : List Ky} (h : KI w mb wr v D) (hb : Below wr.heap.size wr y) (hD : ∀ k ∈ D, OkK k) {a b : Int} (hk : OkK (a, b)) (hin : (a, b) ∉ D) (hl : D.length < 8796093022208) (ty : TypeId) :
    ∃ y3 ao n cap y5 ao' cap', v = .slice ao n cap ∧ (Instr.mapUpdate 72 (.map (some mb)) (.agg #[.int .i32 a, .int .i64 b]) (.agg #[])).run Tryd.prog y = .ok () y3 ∧ (∀ j, j ≠ mb → y3.heap[j]? = y.heap[j]?) ∧
      (Builtin.append_ #[33, 33] ty #[v, .slice (some ⟨y3.heap.size, 0, none⟩) 1 1]).run Tryd.prog (y3.alloc (.cells #[.int .i32 a, .int .i64 b] 38)) = .ok (.slice ao' (D.length + 1) cap') y5 ∧ KI w mb y5 (.slice ao' (D.length + 1) cap') (D ++ [(a, b)]) := by
  have hmy := h.map.below hb
  have hoy := own_below h.own hb
  obtain ⟨y3, r1, m3, o3, z3, q1, q2, q3⟩ := put_new (k := (a, b)) Tryd.under72 hmy (KI.okm hD) hk (fun q hq => by
    obtain ⟨k, hk, rfl⟩ := List.mem_map.1 hq
    exact fun e => hin (e ▸ hk)) (.agg #[])
  have hby : Below w.heap.size w y := h.bel.trans (hb.mono h.bel.size)
  have hb3 : Below w.heap.size w y3 := hby.trans (below_put h.low o3 z3 q1 q2 q3)
  have ho3 := own_put hmy o3 hoy
  have hal : Below y3.heap.size y3 (y3.alloc (.cells #[.int .i32 a, .int .i64 b] 38)) := below_box _
  have ho4 := own_below ho3 hal
  have hm4 := m3.below hal
  have hb4 : Below w.heap.size w (y3.alloc (.cells #[.int .i32 a, .int .i64 b] 38)) := hb3.trans (hal.mono hb3.size)
  obtain ⟨v', y5, r2, ho5, hg5⟩ := append_keys ty ho4 (sees_oneK y3 (a, b)) (by simp only [List.length_cons, List.length_nil]; omega) hb4.size
  obtain ⟨ao, cap, hv⟩ := own_shape h.own
  obtain ⟨ao', cap', hv'⟩ := own_shape ho5
  have hv'' : v' = .slice ao' (D.length + 1) cap' := hv'
  refine ⟨y3, ao, _, cap, y5, ao', cap', hv, r1, o3, by rw [← hv'']; exact r2, ?_⟩
  rw [← hv'']
  refine ⟨by simpa using ho5, ?_, hb4.trans ((Below.refl _ _).grown hg5 hb4.size (own_block_le ho4)), h.low⟩
  have := map_grown hm4 ho4 hg5
  rw [List.map_append]
  exact this

end Go.Proofs.YtldapckooohigaaDoor

/- Merge. -/

namespace Go.Proofs.YtldapckooohigaaDoor
open Go.RowKit
set_option maxRecDepth 100000

theorem Tryd.under105 : Tryd.prog.underlying 105 = some (.map 38 3) := by kernel_rfl
/-- Keys by their places. -/
def ents (D : List Ky) : List (Ky × Value) := D.mapIdx fun i k => (k, .int .i64 (i : Int))
theorem ents_keys (D : List Ky) : (ents D).map (·.1) = D := by
  refine List.ext_getElem? fun i => ?_
  simp only [ents, List.getElem?_map, List.getElem?_mapIdx]
  cases D[i]? <;> rfl
theorem ents_snoc (D : List Ky) (k : Ky) : ents (D ++ [k]) = ents D ++ [(k, .int .i64 (D.length : Int))] := by simp [ents]
theorem ents_mem {D : List Ky} {k : Ky} (h : k ∈ D) : (k, Value.int .i64 ((D.idxOf k : Nat) : Int)) ∈ ents D := by
  have hi := List.idxOf_lt_length_of_mem h
  refine List.mem_of_getElem? (i := D.idxOf k) ?_
  simp only [ents, List.getElem?_mapIdx]
  rw [List.getElem?_eq_getElem hi, List.getElem_idxOf hi]
  rfl
theorem ents_ok {D : List Ky} (hD : ∀ k ∈ D, OkK k) : ∀ q ∈ ents D, OkK q.1 := fun q hq => hD _ (by rw [← ents_keys D]; exact List.mem_map.2 ⟨q, hq, rfl⟩)
theorem ents_no {D : List Ky} {k : Ky} (h : k ∉ D) : ∀ q ∈ ents D, q.1 ≠ k := fun q hq e => h (by rw [← ents_keys D, ← e]; exact List.mem_map.2 ⟨q, hq, rfl⟩)
/-- Where Merge stands. -/
structure PI (w : World) (mb : Nat) (wr : World) (v : Value) (D : List Pr) : Prop where
  own : wr.ownsRow w.heap.size 45 3 v D.length (D.flatMap pC)
  map : MapAt wr mb (ents (keysOf D))
  bel : Below w.heap.size w wr
  low : w.heap.size ≤ mb
theorem PI.start (w : World) : PI w w.heap.size (w.alloc (.map #[] 0)) (.slice none 0 0) [] :=
  ⟨own_nil _ _ _ _, ⟨#[], 0, heap_alloc_new w _, rfl, stp_nil⟩, (Below.refl _ _).alloc (Nat.le_refl _) _, Nat.le_refl _⟩
theorem PI.grow {w wr y : World} {mb : Nat} {v : Value} {D : List Pr} (h : PI w mb wr v D) (hb : Below wr.heap.size wr y) : PI w mb y v D :=
  ⟨own_below h.own hb, h.map.below hb, h.bel.trans (hb.mono h.bel.size), h.low⟩
theorem PI.hit {w wr y : World} {mb : Nat} {v : Value} {D : List Pr} (h : PI w mb wr v D) (hb : Below wr.heap.size wr y) (hD : ∀ k ∈ keysOf D, OkK k) (hn : (keysOf D).Nodup) {a b : Int} (hin : (a, b) ∈ keysOf D) :
    (Instr.lookup 105 (.map (some mb)) (.agg #[.int .i32 a, .int .i64 b]) true).run Tryd.prog y = .ok (.tuple #[.int .i64 (((keysOf D).idxOf (a, b) : Nat) : Int), .bool true]) y :=
  look_has Tryd.under105 (k := (a, b)) (h.map.below hb) (ents_ok hD) (by rw [ents_keys]; exact hn) (ents_mem hin)
theorem PI.miss {w wr y : World} {mb : Nat} {v : Value} {D : List Pr} (h : PI w mb wr v D) (hb : Below wr.heap.size wr y) (hD : ∀ k ∈ keysOf D, OkK k) {a b : Int} (hk : OkK (a, b)) (hin : (a, b) ∉ keysOf D) :
    (Instr.lookup 105 (.map (some mb)) (.agg #[.int .i32 a, .int .i64 b]) true).run Tryd.prog y = .ok (.tuple #[.int .i64 0, .bool false]) y :=
  look_no Tryd.under105 (z := .int .i64 0) Tryd.zeroValue3 (k := (a, b)) (h.map.below hb) (ents_ok hD) hk (ents_no hin)
/-- A pair stored at its place. -/
theorem own_store {w : World} {base n cap g : Nat} {D : List Pr} (h : w.ownsRow base 45 3 (.slice (some ⟨g, 0, none⟩) n cap) n (D.flatMap pC)) {i : Nat} (hi : i < D.length) (p : Pr) :
    (∀ j, j < 3 → ∃ u, w.cell? ⟨g, i * 3 + j, none⟩ = some u) ∧ (∀ o, w.frozen? ⟨g, o, none⟩ = false) ∧ (((w.setCell ⟨g, i * 3, none⟩ (.int .i32 p.1.1)).setCell ⟨g, i * 3 + 1, none⟩ (.int .i64 p.1.2)).setCell ⟨g, i * 3 + 2, none⟩ (.int .i64 p.2)).ownsRow base 45 3 (.slice (some ⟨g, 0, none⟩) n cap) n ((D.set i p).flatMap pC) := by
  rcases h.2 with ⟨e, _⟩ | ⟨g', cap', cur, hv, hb, hh, hnc, hcm, hsz, ht⟩
  · cases e
  cases hv
  have hn : n = D.length := (own_sees pC_len (by decide) h).1
  have h3 : i * 3 + 3 ≤ n * 3 := by omega
  have hcs : n * 3 ≤ cur.size := by rw [hsz]; exact Nat.mul_le_mul_right 3 hnc
  have s1 := heap_setCell_same w g (i * 3) cur 45 (.int .i32 p.1.1) hh
  have s2 := heap_setCell_same _ g (i * 3 + 1) _ 45 (.int .i64 p.1.2) s1
  have s3 := heap_setCell_same _ g (i * 3 + 2) _ 45 (.int .i64 p.2) s2
  refine ⟨fun j hj => ⟨_, (cell_at hh).trans (Array.getElem?_eq_getElem (by omega))⟩, fun o => frozen_of_heap hh, ?_, .inr ⟨g, cap, _, rfl, hb, s3, hnc, hcm, by simpa using hsz, ?_⟩⟩
  · rw [flat_len pC_len, List.length_set, ← hn]
  · refine List.ext_getElem? fun t => ?_
    by_cases htn : t < n * 3
    · rw [List.getElem?_take_of_lt htn]
      have hq : t / 3 < D.length := by omega
      have hjk : t / 3 * 3 + t % 3 = t := by omega
      have hmod : t % 3 < 3 := Nat.mod_lt _ (by decide)
      have e1 : (D.set i p)[t / 3]? = some (if i = t / 3 then p else D[t / 3]) := by
        rw [List.getElem?_eq_getElem (by simpa using hq), List.getElem_set]
      have e2 := flat_at pC_len (D.set i p) (t / 3) _ e1 (t % 3) hmod
      rw [hjk] at e2
      rw [e2]
      have e3 := flat_at pC_len D (t / 3) _ (List.getElem?_eq_getElem hq) (t % 3) hmod
      rw [hjk, ← ht, List.getElem?_take_of_lt htn] at e3
      simp only [Array.toList_setIfInBounds, List.getElem?_set, Array.length_toList, List.length_set]
      by_cases hit : i = t / 3
      · rw [if_pos hit]
        subst hit
        rcases (by omega : t % 3 = 0 ∨ t % 3 = 1 ∨ t % 3 = 2) with hm | hm | hm
        · have : t / 3 * 3 = t := by omega
          rw [hm, if_neg (by omega), if_neg (by omega), if_pos (by omega), if_pos (by omega)]
          rfl
        · rw [hm, if_neg (by omega), if_pos (by omega), if_pos (by omega)]
          rfl
        · rw [hm, if_pos (by omega), if_pos (by omega)]
          rfl
      · rw [if_neg hit, if_neg (by omega), if_neg (by omega), if_neg (by omega)]
        exact e3
    · rw [List.getElem?_eq_none (by rw [List.length_take]; omega), List.getElem?_eq_none (by rw [flat_len pC_len, List.length_set]; omega)]
theorem PI.store {w wr : World} {mb : Nat} {n cap g : Nat} {D : List Pr} (h : PI w mb wr (.slice (some ⟨g, 0, none⟩) n cap) D) {i : Nat} (hi : i < D.length) {p : Pr} (hk : ∀ (hi : i < D.length), D[i].1 = p.1) :
    (∀ j, j < 3 → ∃ u, wr.cell? ⟨g, i * 3 + j, none⟩ = some u) ∧ (∀ o, wr.frozen? ⟨g, o, none⟩ = false) ∧ PI w mb (((wr.setCell ⟨g, i * 3, none⟩ (.int .i32 p.1.1)).setCell ⟨g, i * 3 + 1, none⟩ (.int .i64 p.1.2)).setCell ⟨g, i * 3 + 2, none⟩ (.int .i64 p.2)) (.slice (some ⟨g, 0, none⟩) n cap) (D.set i p) := by
  have hn : D.length = n := by
    obtain ⟨ao, c', e⟩ := own_shape h.own
    simp only [Value.slice.injEq] at e
    exact e.2.1.symm
  have ho := h.own
  rw [hn] at ho
  obtain ⟨q1, q2, q3⟩ := own_store ho hi p
  have hgm : g ≠ mb := by
    rcases h.own.2 with ⟨e, _⟩ | ⟨g', c', cur, e, _, hh, _⟩
    · cases e
    · cases e
      exact h.map.apart hh
  have hgl : w.heap.size ≤ g := own_block_le h.own g rfl
  have hoth : ∀ j, j ≠ g → (((wr.setCell ⟨g, i * 3, none⟩ (.int .i32 p.1.1)).setCell ⟨g, i * 3 + 1, none⟩ (.int .i64 p.1.2)).setCell ⟨g, i * 3 + 2, none⟩ (.int .i64 p.2)).heap[j]? = wr.heap[j]? := fun j hj => by
    rw [heap_setCell_other _ _ _ _ hj, heap_setCell_other _ _ _ _ hj, heap_setCell_other _ _ _ _ hj]
  have hks : keysOf (D.set i p) = keysOf D := by
    unfold keysOf
    rw [List.map_set]
    refine List.ext_getElem? fun j => ?_
    by_cases hj : i = j
    · subst hj
      rw [List.getElem?_set_self (by simpa using hi), List.getElem?_eq_getElem (by simpa using hi), List.getElem_map, hk hi]
    · rw [List.getElem?_set_ne hj]
  refine ⟨q1, q2, ⟨by rw [List.length_set, hn]; exact q3, by rw [hks]; exact h.map.keep (hoth mb (Ne.symm hgm)), h.bel.trans ⟨rfl, rfl, rfl, by simp [World.setCell], fun j hj => hoth j (by omega)⟩, h.low⟩⟩
/-- A pair more. -/
theorem PI.more {w wr y : World} {mb : Nat} {v : Value} {D : List Pr} (h : PI w mb wr v D) (hb : Below wr.heap.size wr y) (hD : ∀ k ∈ keysOf D, OkK k) {a b c : Int} (hk : OkK (a, b)) (hin : (a, b) ∉ keysOf D) (hl : D.length < 5864062014805) :
    ∃ y3 y5 g' cap', (Instr.mapUpdate 105 (.map (some mb)) (.agg #[.int .i32 a, .int .i64 b]) (.int .i64 (D.length : Int))).run Tryd.prog y = .ok () y3 ∧ (∀ j, j ≠ mb → y3.heap[j]? = y.heap[j]?) ∧
      (Builtin.append_ #[29, 29] 29 #[v, .slice (some ⟨y3.heap.size, 0, none⟩) 1 1]).run Tryd.prog (y3.alloc (.cells #[.int .i32 a, .int .i64 b, .int .i64 c] 45)) = .ok (.slice (some ⟨g', 0, none⟩) (D.length + 1) cap') y5 ∧ PI w mb y5 (.slice (some ⟨g', 0, none⟩) (D.length + 1) cap') (D ++ [((a, b), c)]) ∧ D.length + 1 ≤ cap' ∧ ∀ j, j < wr.heap.size ∨ v.ownBlock ≠ some j → j < y3.heap.size → j ≠ mb → v.ownBlock ≠ some j → y5.heap[j]? = y3.heap[j]? := by
  have hmy := h.map.below hb
  have hoy := own_below h.own hb
  obtain ⟨y3, r1, m3, o3, z3, q1, q2, q3⟩ := put_new (k := (a, b)) Tryd.under105 hmy (ents_ok hD) hk (ents_no hin) (.int .i64 (D.length : Int))
  have hby : Below w.heap.size w y := h.bel.trans (hb.mono h.bel.size)
  have hb3 : Below w.heap.size w y3 := hby.trans (below_put h.low o3 z3 q1 q2 q3)
  have ho3 := own_put hmy o3 hoy
  have hal : Below y3.heap.size y3 (y3.alloc (.cells #[.int .i32 a, .int .i64 b, .int .i64 c] 45)) := below_box _
  have ho4 := own_below ho3 hal
  have hm4 := m3.below hal
  have hb4 : Below w.heap.size w (y3.alloc (.cells #[.int .i32 a, .int .i64 b, .int .i64 c] 45)) := hb3.trans (hal.mono hb3.size)
  obtain ⟨v', y5, r2, ho5, hg5⟩ := append_pairs 29 ho4 (sees_oneP y3 ((a, b), c)) (by simp only [List.length_cons, List.length_nil]; omega) hb4.size
  have hlen : D.length + [((a, b), c)].length = D.length + 1 := rfl
  rw [hlen] at ho5
  rcases ho5.2 with ⟨_, e0⟩ | ⟨g', cap', cur, hv', _, _, hnc, _⟩
  · cases e0
  subst hv'
  refine ⟨y3, y5, g', cap', r1, o3, r2, ⟨by simpa using ho5, ?_, hb4.trans ((Below.refl _ _).grown hg5 hb4.size (own_block_le ho4)), h.low⟩, hnc, fun j _ hj _ hjv => ?_⟩
  · have := map_grown hm4 ho4 hg5
    have e : keysOf (D ++ [((a, b), c)]) = keysOf D ++ [(a, b)] := by simp [keysOf]
    rw [e, ents_snoc]
    have e2 : (keysOf D).length = D.length := by simp [keysOf]
    rw [e2]
    exact this
  · rw [hg5.block j (by simp; omega) (Ne.symm hjv), Below.heap_alloc _ _ _ hj]
end Go.Proofs.YtldapckooohigaaDoor

/- Merge, Pairs. -/
namespace Go.Proofs.YtldapckooohigaaDoor
open Go.RowKit
set_option maxRecDepth 100000

abbrev Ls := Value × List Pr
def lC (q : Ls) : List Value := [q.1]
theorem lC_len (q : Ls) : (lC q).length = 1 := rfl
/-- Lists of pairs, seen. -/
def SeesLs (w : World) (v : Value) (qs : List Ls) : Prop := SeesL lC 1 w v qs ∧ ∀ q ∈ qs, SeesL pC 3 w q.1 q.2
theorem SeesLs.below {w w' : World} {v : Value} {qs : List Ls} (h : SeesLs w v qs) (hb : Below w.heap.size w w') : SeesLs w' v qs := ⟨h.1.below lC_len hb, fun q hq => (h.2 q hq).below pC_len hb⟩
def allP (qs : List Ls) : List Pr := qs.flatMap (·.2)
theorem pair_cells {y : World} {v : Value} {l : List Pr} (hs : SeesL pC 3 y v l) {ao : Option Addr} {n cap : Nat} (hv : v = .slice ao n cap) {t : Nat} (ht : t < l.length) : ∃ gb ob, ao = some ⟨gb, ob, none⟩ ∧ n = l.length ∧ ∀ x, Below y.heap.size y x → x.cell? ⟨gb, ob + t * 3, none⟩ = some (.int .i32 (l.getD t default).1.1) ∧ x.cell? ⟨gb, ob + t * 3 + 1, none⟩ = some (.int .i64 (l.getD t default).1.2) ∧ x.cell? ⟨gb, ob + t * 3 + 2, none⟩ = some (.int .i64 (l.getD t default).2) := by
  obtain ⟨ao', cap', gb, ob, hv', _, _, hao, hcl⟩ := SeesL.pair hs
  rw [hv] at hv'
  simp only [Value.slice.injEq] at hv'
  obtain ⟨rfl, rfl, rfl⟩ := hv'
  refine ⟨gb, ob, hao (by omega), rfl, fun x hx => ?_⟩
  obtain ⟨c1, c2, c3⟩ := hcl t ht
  exact ⟨(hx.cell (p := ⟨gb, ob + t * 3, none⟩) (World.block_lt_of_cell? y _ c1)).trans c1, (hx.cell (p := ⟨gb, ob + t * 3 + 1, none⟩) (World.block_lt_of_cell? y _ c2)).trans c2, (hx.cell (p := ⟨gb, ob + t * 3 + 2, none⟩) (World.block_lt_of_cell? y _ c3)).trans c3⟩
theorem keysOf_ddP_ok {l : List Pr} (h : ∀ p ∈ l, OkK p.1) : ∀ k ∈ keysOf (ddP l), OkK k := fun k hk => by
  obtain ⟨⟨k', u⟩, hp, rfl⟩ := List.mem_map.1 hk
  have hv := ((ddP_spec l).2.1 k' u).1 hp
  have : ∀ (l : List Pr), valOf l k' = some u → ∃ p ∈ l, p.1 = k' := by
    intro l
    refine snocInd (P := fun l => valOf l k' = some u → ∃ p ∈ l, p.1 = k') (fun h => by simp [valOf] at h) (fun l p ih h => ?_) l
    rw [valOf_snoc] at h
    by_cases e : p.1 = k'
    · exact ⟨p, by simp, e⟩
    · rw [if_neg e] at h
      obtain ⟨q, hq, e'⟩ := ih h
      exact ⟨q, by simp [hq], e'⟩
  obtain ⟨p, hp', e⟩ := this l hv
  exact e ▸ h p hp'

set_option maxHeartbeats 6400000 in
theorem merge_any {v : Value} {qs : List Ls} {w : World} (hs : SeesLs w v qs) (hok : ∀ p ∈ allP qs, OkK p.1) (hll : (allP qs).length ≤ 5864062014805) :
    Calls Tryd.prog 48 #[v] w fun e w' => ∃ r, e = .returned r ∧ w'.ownsRow w.heap.size 45 3 r (srtP (allP qs)).length ((srtP (allP qs)).flatMap pC) ∧ Below w.heap.size w w' := by
  have HS : Hid (∀ w', Below w.heap.size w w' → SeesLs w' v qs) := fun w' hb => hs.below hb
  have HOK : Hid (∀ l, (∀ p ∈ l, p ∈ allP qs) → ∀ k ∈ keysOf (ddP l), OkK k) := fun l h => keysOf_ddP_ok fun p hp => hok p (h p hp)
  have HO1 := hide hok
  obtain ⟨ao, cap, hv⟩ := hs.1.shape
  have hmax : qs.length ≤ 9223372036854775807 := by obtain ⟨_, _, _, _, _, _, h3, _⟩ := hs.1; exact h3
  have HV := hide hv
  obtain ⟨n, hn⟩ : ∃ n, qs.length = n := ⟨_, rfl⟩
  rw [hn] at HV hmax
  rw [hv, hn]
  have HN := hide hn
  have HLL := hide hll
  have HK0 := hide (PI.start w)
  obtain ⟨y, hy⟩ : ∃ y, w.alloc (.map #[] 0) = y := ⟨_, rfl⟩
  rw [hy] at HK0
  have hmk : (Instr.makeMap 105 none).run Tryd.prog w = .ok (.map (some w.heap.size)) y := by rw [← hy]; rfl
  clear hs hv hn hok hll
  go_enter Tryd.func48, Tryd.ntmps48
  go_wp2_with (rw [hy])
  go_loopw [3, 14] (fun o c wr => ∃ t : Nat, t ≤ n ∧ c = .int .i64 t ∧ PI w w.heap.size wr o (ddP (allP (qs.take t)))) (fun _ c _ => n - (intOf c).toNat)
  case atStart => exact ⟨0, by omega, rfl, unhide HK0⟩
  case round =>
    obtain ⟨t, ht, rfl, hpi⟩ := hrel
    obtain ⟨wo, rfl⟩ : ∃ x, x = wr := ⟨_, rfl⟩
    have HPI := hide hpi
    by_cases hlt : t < n
    · have hnl := unhide HN
      have htl : t < qs.length := by omega
      have hsl := unhide HS wo hpi.bel
      obtain ⟨lv, hlv⟩ : ∃ q, qs[t] = q := ⟨_, rfl⟩
      have hqs := hsl.2 lv (hlv ▸ List.getElem_mem htl)
      have hcell : ∃ gb ob, ao = some ⟨gb, ob, none⟩ ∧ wo.cell? ⟨gb, ob + t, none⟩ = some lv.1 := by
        obtain ⟨ao', cap', gb, ob, e, _, _, _, h5, h6⟩ := hsl.1
        rw [unhide HV] at e
        simp only [Value.slice.injEq] at e
        obtain ⟨rfl, _, rfl⟩ := e
        refine ⟨gb, ob, h5 (by omega), ?_⟩
        have := h6 t lv (by rw [List.getElem?_eq_getElem htl, hlv]) 0 (by omega)
        rw [Nat.mul_one, Nat.add_zero] at this
        exact this
      obtain ⟨gb, ob, hao, hc1⟩ := hcell
      subst hao
      obtain ⟨V, L⟩ := lv
      simp only at hqs hc1
      obtain ⟨al, cl, hshape⟩ := hqs.shape
      subst hshape
      have htk : allP (qs.take (t + 1)) = allP (qs.take t) ++ L := by
        rw [List.take_succ_eq_append_getElem htl, hlv]
        simp [allP]
      have hsub : ∀ s, ∀ p ∈ allP (qs.take t) ++ L.take s, p ∈ allP qs := fun s p hp => by
        have h1 : p ∈ allP (qs.take (t + 1)) := by
          rw [htk]
          rcases List.mem_append.1 hp with c | c
          · exact List.mem_append_left _ c
          · exact List.mem_append_right _ (List.mem_of_mem_take c)
        obtain ⟨q, hq, hpq⟩ := List.mem_flatMap.1 h1
        exact List.mem_flatMap.2 ⟨q, List.mem_of_mem_take hq, hpq⟩
      have hlenall : (allP (qs.take t) ++ L).length ≤ (allP qs).length := by
        rw [← htk]
        have e : allP qs = allP (qs.take (t + 1)) ++ allP (qs.drop (t + 1)) := by
          unfold allP
          rw [← List.flatMap_append, List.take_append_drop]
        rw [e]
        simp
      have HLA : Hid ((allP (qs.take t) ++ L).length ≤ 5864062014805) := Nat.le_trans hlenall (unhide HLL)
      have HSUB := hide hsub
      have HTK := hide htk
      have HSL : Hid (∀ x, Below w.heap.size w x → SeesL pC 3 x (.slice al L.length cl) L) := fun x hx => by
        have h := (unhide HS x hx).2 ((.slice al L.length cl, L) : Ls) (hlv ▸ List.getElem_mem htl)
        exact h
      obtain ⟨hcl, hlmax⟩ : L.length ≤ cl ∧ L.length ≤ 9223372036854775807 := by
        obtain ⟨_, _, _, _, e, h2, h3, _⟩ := hqs
        simp only [Value.slice.injEq] at e
        obtain ⟨_, _, rfl⟩ := e
        exact ⟨h2, h3⟩
      obtain ⟨ln, hln⟩ : ∃ k, L.length = k := ⟨_, rfl⟩
      have HLN := hide hln
      rw [hln] at HSL hc1 hcl hlmax
      obtain ⟨ov, oc, hov⟩ := own_shape hpi.own
      have hpi0 : PI w w.heap.size wo (.slice ov (ddP (allP (qs.take t))).length oc) (ddP (allP (qs.take t) ++ L.take 0)) := by rw [List.take_zero, List.append_nil, ← hov]; exact hpi
      have HP0 := hide hpi0
      subst hov
      clear hnl htl hsl hlv hqs htk hsub hlenall hln hpi hpi0
      go_wp2_with fail
      go_loopw [3, 20] (fun o c wi => ∃ s : Nat, s ≤ ln ∧ c = .int .i64 s ∧ PI w w.heap.size wi o (ddP (allP (qs.take t) ++ L.take s))) (fun _ c _ => ln - (intOf c).toNat)
      case atStart => exact ⟨0, by omega, rfl, unhide HP0⟩
      case round =>
        obtain ⟨s, hsn, rfl, hpi⟩ := hrel
        by_cases hsl : s < ln
        · have hll := unhide HLN
          have hsL : s < L.length := by omega
          obtain ⟨gl, ol, hal, -, hcc⟩ := pair_cells (unhide HSL wr hpi.bel) rfl hsL
          subst hal
          obtain ⟨⟨⟨a, b⟩, c⟩, hx⟩ : ∃ k, L.getD s default = k := ⟨_, rfl⟩
          have hx' : L[s] = ((a, b), c) := by rw [← hx]; simp [List.getD, hsL]
          rw [hx] at hcc
          obtain ⟨g1, g2, g3⟩ := hcc wr (Below.refl _ _)
          have hdd : ddP (allP (qs.take t) ++ L.take (s + 1)) = addP (ddP (allP (qs.take t) ++ L.take s)) ((a, b), c) := by
            rw [List.take_succ_eq_append_getElem hsL, ← List.append_assoc, ddP_snoc, hx']
          have hokx : OkK (a, b) := unhide HO1 ((a, b), c) (unhide HSUB (s + 1) _ (List.mem_append_right _ (by rw [List.take_succ_eq_append_getElem hsL, hx']; simp)))
          have hokD := unhide HOK _ (unhide HSUB s)
          obtain ⟨D, hD⟩ : ∃ D, ddP (allP (qs.take t) ++ L.take s) = D := ⟨_, rfl⟩
          have hDl : D.length < 5864062014805 := by
            have h1 := (ddP_spec (allP (qs.take t) ++ L.take s)).2.2
            have h2 := unhide HLA
            rw [hD] at h1
            simp only [List.length_append, List.length_take] at h1 h2
            omega
          have hDn : (keysOf D).Nodup := hD ▸ (ddP_spec _).1
          rw [hD] at hpi hdd hokD
          have HDD := hide hdd
          obtain ⟨y1, hy1⟩ : ∃ y, wr.alloc (.cells #[.int .i32 a, .int .i64 b, .int .i64 c] 45) = y := ⟨_, rfl⟩
          have b1 : Below wr.heap.size wr y1 := hy1 ▸ below_box _
          have x1 : y1.heap[wr.heap.size]? = some (.cells #[.int .i32 a, .int .i64 b, .int .i64 c] 45) := by rw [← hy1]; exact heap_alloc_new wr _
          have c1 : y1.cell? ⟨wr.heap.size, 0, none⟩ = some (.int .i32 a) := cell_at x1
          have c2 : y1.cell? ⟨wr.heap.size, 1, none⟩ = some (.int .i64 b) := cell_at x1
          have c3 : y1.cell? ⟨wr.heap.size, 2, none⟩ = some (.int .i64 c) := cell_at x1
          by_cases hin : (a, b) ∈ keysOf D
          · have hL := hpi.hit b1 hokD hDn hin
            obtain ⟨i, hi⟩ : ∃ i, (keysOf D).idxOf (a, b) = i := ⟨_, rfl⟩
            have hil := List.idxOf_lt_length_of_mem hin
            have hik := List.getElem_idxOf hil
            rw [hi] at hL
            have hiD : i < D.length := by rw [← hi]; simpa [keysOf] using hil
            have hkk : ∀ (h : i < D.length), D[i].1 = (a, b) := fun h => by
              subst hi
              simp only [keysOf, List.getElem_map] at hik
              exact hik
            have hp1 := hpi.grow b1
            rcases hp1.own.2 with ⟨_, e0⟩ | ⟨g', cap', cur, hv', hbg, hh', hnc, _⟩
            · omega
            obtain ⟨m, hm⟩ : ∃ m, D.length = m := ⟨_, rfl⟩
            rw [hv'] at hp1
            obtain ⟨q1, q2, q3⟩ := hp1.store (p := ((a, b), c)) hiD hkk
            obtain ⟨u0, k0⟩ := q1 0 (by omega)
            obtain ⟨u1, k1⟩ := q1 1 (by omega)
            obtain ⟨u2, k2⟩ := q1 2 (by omega)
            rw [Nat.add_zero] at k0
            have f0 := q2 (i * 3)
            have f1 := q2 (i * 3 + 1)
            have f2 := q2 (i * 3 + 2)
            have HR : Hid (PI w w.heap.size (((y1.setCell ⟨g', i * 3, none⟩ (.int .i32 a)).setCell ⟨g', i * 3 + 1, none⟩ (.int .i64 b)).setCell ⟨g', i * 3 + 2, none⟩ (.int .i64 c)) (.slice (some ⟨g', 0, none⟩) m cap') (ddP (allP (qs.take t) ++ L.take (s + 1)))) := by
              rw [hdd, addP, if_pos hin, hi, ← hm]
              exact q3
            rw [hm] at hv' hiD
            subst hv'
            clear hll hsL hx hx' hcc hdd hokx hokD hD hDl hDn b1 x1 hin hil hik hkk hp1 hpi q1 q2 q3 hi hm hbg hh' hnc
            go_wp2_with (rw [hy1])
            go_roundw
            case rel => exact ⟨s + 1, by omega, by go_num, unhide HR⟩
            case measure => simp [intOf]; omega
          · have hL := hpi.miss b1 hokD hokx hin
            obtain ⟨y3, y5, g', cap', r1, o3, r2, hp5, hcap', hfr⟩ := hpi.more (c := c) b1 hokD hokx hin hDl
            have hmb : wr.heap.size ≠ w.heap.size := hpi.map.below b1 |>.apart x1
            have x3 : y3.heap[wr.heap.size]? = some (.cells #[.int .i32 a, .int .i64 b, .int .i64 c] 45) := (o3 _ hmb).trans x1
            have hvo : ∀ u : Value, u.ownBlock = some wr.heap.size → wr.ownsRow w.heap.size 45 3 u D.length (D.flatMap pC) → False := fun u hu ho => by
              have := (ho.lt _ hu).2
              omega
            have x5 : y5.heap[wr.heap.size]? = some (.cells #[.int .i32 a, .int .i64 b, .int .i64 c] 45) := (hfr _ (.inr fun e => hvo _ e hpi.own) (Array.getElem?_eq_some_iff.1 x3).1 hmb (fun e => hvo _ e hpi.own)).trans x3
            have c4 : y3.cell? ⟨wr.heap.size, 0, none⟩ = some (.int .i32 a) := cell_at x3
            have c5 : y3.cell? ⟨wr.heap.size, 1, none⟩ = some (.int .i64 b) := cell_at x3
            have c6 : y3.cell? ⟨wr.heap.size, 2, none⟩ = some (.int .i64 c) := cell_at x3
            have c7 : y5.cell? ⟨wr.heap.size, 0, none⟩ = some (.int .i32 a) := cell_at x5
            have c8 : y5.cell? ⟨wr.heap.size, 1, none⟩ = some (.int .i64 b) := cell_at x5
            have c9 : y5.cell? ⟨wr.heap.size, 2, none⟩ = some (.int .i64 c) := cell_at x5
            obtain ⟨q1, q2, q3⟩ := hp5.store (i := D.length) (p := ((a, b), c)) (by simp) (fun h => by simp)
            obtain ⟨m, hm⟩ : ∃ m, D.length = m := ⟨_, rfl⟩
            obtain ⟨u0, k0⟩ := q1 0 (by omega)
            obtain ⟨u1, k1⟩ := q1 1 (by omega)
            obtain ⟨u2, k2⟩ := q1 2 (by omega)
            rw [Nat.add_zero] at k0
            have f0 := q2 (D.length * 3)
            have f1 := q2 (D.length * 3 + 1)
            have f2 := q2 (D.length * 3 + 2)
            have hset : (D ++ [((a, b), c)]).set D.length ((a, b), c) = D ++ [((a, b), c)] := by
              rw [List.set_append_right _ _ (Nat.le_refl _)]
              simp
            rw [hset] at q3
            have HR : Hid (PI w w.heap.size (((y5.setCell ⟨g', m * 3, none⟩ (.int .i32 a)).setCell ⟨g', m * 3 + 1, none⟩ (.int .i64 b)).setCell ⟨g', m * 3 + 2, none⟩ (.int .i64 c)) (.slice (some ⟨g', 0, none⟩) (m + 1) cap') (ddP (allP (qs.take t) ++ L.take (s + 1)))) := by
              rw [hdd, addP, if_neg hin, ← hm]
              exact q3
            obtain ⟨ov2, oc2, hov2⟩ := own_shape hpi.own
            rw [hov2] at r2
            rw [hm] at r1 r2 k0 k1 k2 f0 f1 f2 hov2 hcap' hDl
            have hm1 : m < m + 1 := by omega
            subst hov2
            clear hll hsL hx hx' hcc hdd hokx hokD hD hDn b1 x1 x3 x5 hin hpi q1 q2 q3 hm o3 hp5 hfr hmb hvo hset
            go_wp2_with (first | rw [hy1] | (refine wpList_append_wanted (by rfl) _ _ 29 rfl rfl rfl r2 ?_))
            go_roundw
            case rel => exact ⟨s + 1, by omega, by go_num, unhide HR⟩
            case measure => simp [intOf]; omega
        · obtain rfl : s = ln := by omega
          have hll := unhide HLN
          have etk : L.take s = L := List.take_of_length_le (by omega)
          rw [etk, ← unhide HTK] at hpi
          clear etk
          have HR := hide hpi
          obtain ⟨ov2, oc2, hov2⟩ := own_shape hpi.own
          subst hov2
          clear hpi hll
          go_wp2
          go_roundw
          case rel => exact ⟨t + 1, by omega, by go_num, unhide HR⟩
          case measure => simp [intOf]; omega
    · obtain rfl : t = n := by omega
      have hnl := unhide HN
      rw [List.take_of_length_le (by omega)] at hpi
      obtain ⟨d1, d2, d3⟩ := ddP_spec (allP qs)
      have hll := unhide HLL
      have HC := hide (sortP_any hpi.own d1 (by omega) hpi.bel.size)
      have HB := hide hpi.bel
      obtain ⟨ov, oc, hov⟩ := own_shape hpi.own
      subst hov
      obtain ⟨m, hm⟩ : ∃ m, (ddP (allP qs)).length = m := ⟨_, rfl⟩
      have HM := hide hm
      rw [hm] at HC
      rw [hm]
      clear hpi hnl hm d1 d2 d3 hll
      go_wp2_with (go_at_call 60; refine (unhide HC).mono ?_; rintro e w1 ⟨rfl, D', ho, hr, hp, hb1⟩; have HF := hide (And.intro ho (And.intro hr (And.intro hp hb1))); clear ho hr hp hb1)
      go_ret
      obtain ⟨ho, hr, hp, hb1⟩ := unhide HF
      have e := ddP_sorted hp hr
      subst e
      have hl2 : (srtP (allP qs)).length = m := hp.length_eq.trans (unhide HM)
      exact ⟨_, rfl, by rw [hl2]; exact ho, (unhide HB).trans hb1⟩

theorem pairs_any {v : Value} {l : List Pr} {w : World} (hs : SeesL pC 3 w v l) (hok : ∀ p ∈ l, OkK p.1) (hll : l.length ≤ 5864062014805) :
    Calls Tryd.prog 34 #[v] w fun e w' => ∃ r, e = .returned r ∧ w'.ownsRow w.heap.size 45 3 r (srtP l).length ((srtP l).flatMap pC) ∧ Below w.heap.size w w' := by
  obtain ⟨y, hy⟩ : ∃ y, w.alloc (.cells #[v] 29) = y := ⟨_, rfl⟩
  have hby : Below w.heap.size w y := hy ▸ below_box _
  have hsy : SeesLs y (.slice (some ⟨w.heap.size, 0, none⟩) 1 1) [((v, l) : Ls)] := by
    refine ⟨⟨_, 1, w.heap.size, 0, rfl, by simp, by simp, (fun h => by cases h), fun _ => rfl, fun t x hx j hj => ?_⟩, fun q hq => ?_⟩
    · obtain ⟨ht, rfl⟩ := List.getElem?_eq_some_iff.1 hx
      obtain rfl : t = 0 := by simpa using ht
      obtain rfl : j = 0 := by omega
      rw [← hy, cell_at (heap_alloc_new w _)]
      rfl
    · obtain rfl := List.mem_singleton.1 hq
      exact hs.below pC_len hby
  have hall : allP [((v, l) : Ls)] = l := by simp [allP]
  have HC := hide (merge_any hsy (by rw [hall]; exact hok) (by rw [hall]; exact hll))
  rw [hall] at HC
  have HB := hide hby
  obtain ⟨ao, cap, hv⟩ := hs.shape
  subst hv
  clear hs hby hsy hall
  go_enter Tryd.func34, Tryd.ntmps34
  go_wp2_with (first | rw [hy] | (go_at_call 48; refine (unhide HC).mono ?_; rintro e w1 ⟨r, rfl, ho, hb⟩; have HF := hide (And.intro ho hb); clear ho hb))
  go_ret
  obtain ⟨ho, hb⟩ := unhide HF
  exact ⟨_, rfl, own_mono ho (unhide HB).size, (unhide HB).trans (hb.mono (unhide HB).size)⟩
end Go.Proofs.YtldapckooohigaaDoor
