/- Lists by partitions, in memory. -/
import Derived.Test.YtibjhjkeflbghaaF0
import Derived.Laws.MakeOwn
namespace Go.Proofs.Ytibjhjkeflbghaa
open Go.RowKit
set_option maxRecDepth 100000

theorem add_at (g j : Nat) : (⟨g, 0, none⟩ : Addr).add j = ⟨g, j, none⟩ := by unfold Addr.add; split <;> simp_all
/-- A row that is appended to is the old one's block or a new one. -/
theorem append_keyF {w : World} {base : Nat} {v : Value} {n : Nat} {l : List Ky} {k : Ky} {g : Nat} (hown : w.ownsRow base 37 2 v n (l.flatMap kC)) (hs : SeesL kC 2 w (.slice (some ⟨g, 0, none⟩) 1 1) [k]) (hl : n + 1 ≤ 8796093022208) (hbase : base ≤ w.heap.size) (ty : TypeId) :
    ∃ ao cap w', (Builtin.append_ #[24, 24] ty #[v, .slice (some ⟨g, 0, none⟩) 1 1]).run Try.prog w = .ok (.slice ao (n + 1) cap) w' ∧ w'.ownsRow base 37 2 (.slice ao (n + 1) cap) (n + 1) ((l ++ [k]).flatMap kC) ∧ w.grownBy w' v.ownBlock ∧ ∀ b, (Value.slice ao (n + 1) cap).ownBlock = some b → v.ownBlock = some b ∨ w.heap.size ≤ b := by
  obtain ⟨v', w', hr, h2, h3⟩ := append_keys ty hown hs (by simpa using hl) hbase
  have hlen : n + [k].length = n + 1 := rfl
  rw [hlen] at h2
  obtain ⟨ao, cap, hv⟩ := own_shape h2
  subst hv
  refine ⟨ao, cap, w', hr, h2, h3, fun b hb => ?_⟩
  obtain ⟨i, hi, hz, hs1, hby⟩ := info_parts Try.info37
  have hnews : ∀ j u, (kC k)[j]? = some u → w.cell? ((⟨g, 0, none⟩ : Addr).add j) = some u := fun j u hu => by
    obtain ⟨ao', cap', gb, ob, e, _, _, _, h5, h6⟩ := hs
    obtain ⟨hj, _⟩ := List.getElem?_eq_some_iff.1 hu
    simp only [Value.slice.injEq] at e
    obtain ⟨e1, _, _⟩ := e
    have e2 := h5 (by simp)
    rw [← e1] at e2
    simp only [Option.some.injEq, Addr.mk.injEq] at e2
    obtain ⟨rfl, rfl, _⟩ := e2
    have := h6 0 k rfl j (by rw [kC_len] at hj; exact hj)
    have ea : (⟨g, 0, none⟩ : Addr).add j = ⟨g, 0 + 0 * 2 + j, none⟩ := by rw [add_at]; congr 1; omega
    rw [ea, ← hu, ← this]
  rcases hown.2 with ⟨rfl, rfl⟩ | ⟨g', cap', cur, rfl, hbg, hg, hnc, hcm, hcs, htake⟩
  · have hr2 := run_append_nil (P := Try.prog) w 24 ty 37 i _ Try.underlying24 hi hz ⟨g, 0, none⟩ 1 1 (kC k) (by rw [hs1]; rfl) hnews (by omega) (by omega) (by rw [hby]; omega)
    rw [hr2] at hr
    simp only [Result.ok.injEq] at hr
    rw [← hr.1] at hb
    simp only [Value.ownBlock, Option.some.injEq] at hb
    exact .inr (by omega)
  · by_cases hroom : n + 1 ≤ cap'
    · have hr2 := run_append_room (P := Try.prog) w 24 ty 37 i Try.underlying24 hi g' n cap' cur hg ⟨g, 0, none⟩ 1 1 (kC k) (by rw [hs1]; rfl) hnews (kC_one k) hroom (by rw [hs1, hcs, kC_len, ← Nat.succ_mul]; exact Nat.mul_le_mul_right _ hroom)
      rw [hr2] at hr
      simp only [Result.ok.injEq] at hr
      rw [← hr.1] at hb
      exact .inl hb
    · have hr2 := run_append_grow (P := Try.prog) w 24 ty 37 i _ Try.underlying24 hi hz ⟨g', 0, none⟩ n cap' (l.flatMap kC) (by rw [hs1]; exact hown.1) (hown.cells (g := g') rfl) ⟨g, 0, none⟩ 1 1 (kC k) (by rw [hs1]; rfl) hnews (by omega) (by omega) (growslice_fits (by omega) (by rw [hby]; omega))
      rw [hr2] at hr
      simp only [Result.ok.injEq] at hr
      rw [← hr.1] at hb
      simp only [Value.ownBlock, Option.some.injEq] at hb
      exact .inr (by omega)
/-- The lists of all partitions: their slices lie in the block g; each is a row of its own. -/
structure SI (w0 : World) (g : Nat) (wr : World) (rows : List Value) (f : Nat → List Ky) : Prop where
  low : g < w0.heap.size
  os : wr.os = w0.os
  tape : wr.tape = w0.tape
  output : wr.output = w0.output
  size : w0.heap.size ≤ wr.heap.size
  frame : ∀ k, k < w0.heap.size → k ≠ g → wr.heap[k]? = w0.heap[k]?
  box : wr.heap[g]? = some (.cells rows.toArray 24)
  own : ∀ (p : Nat) (v : Value), rows[p]? = some v → wr.ownsRow w0.heap.size 37 2 v (f p).length ((f p).flatMap kC)
  apart : ∀ (p q : Nat) (v u : Value) (b : Nat), rows[p]? = some v → rows[q]? = some u → p ≠ q → v.ownBlock = some b → u.ownBlock ≠ some b
theorem SI.grow {w0 : World} {g : Nat} {wr y : World} {rows : List Value} {f : Nat → List Ky} (h : SI w0 g wr rows f) (hb : Below wr.heap.size wr y) : SI w0 g y rows f :=
  ⟨h.low, hb.os.trans h.os, hb.tape.trans h.tape, hb.output.trans h.output, Nat.le_trans h.size hb.size, fun k hk hg => (hb.block k (Nat.lt_of_lt_of_le hk h.size)).trans (h.frame k hk hg), (hb.block g (Nat.lt_of_lt_of_le h.low h.size)).trans h.box, fun p v hv => own_below (h.own p v hv) hb, h.apart⟩
theorem SI.cell {w0 : World} {g : Nat} {wr : World} {rows : List Value} {f : Nat → List Ky} (h : SI w0 g wr rows f) (i : Nat) : wr.cell? ⟨g, i, none⟩ = rows[i]? := by
  rw [cell_at h.box]
  simp
theorem SI.below {w0 : World} {g : Nat} {wr : World} {rows : List Value} {f : Nat → List Ky} (h : SI w0 g wr rows f) {B : Nat} (hB : B ≤ g) : Below B w0 wr := ⟨h.os, h.tape, h.output, h.size, fun k hk => h.frame k (by have := h.low; omega) (by omega)⟩
/-- A key more in one of them. -/
theorem SI.put {w0 : World} {g : Nat} {wr : World} {rows : List Value} {f : Nat → List Ky} (h : SI w0 g wr rows f) {i : Nat} {v : Value} (hv : rows[i]? = some v) {gx : Nat} {k : Ky} (hx : SeesL kC 2 wr (.slice (some ⟨gx, 0, none⟩) 1 1) [k]) (hl : (f i).length + 1 ≤ 8796093022208) :
    ∃ ao cap y, (Builtin.append_ #[24, 24] 24 #[v, .slice (some ⟨gx, 0, none⟩) 1 1]).run Try.prog wr = .ok (.slice ao ((f i).length + 1) cap) y ∧ y.heap[g]? = some (.cells rows.toArray 24) ∧ wr.heap.size ≤ y.heap.size ∧
      SI w0 g (y.setCell ⟨g, i, none⟩ (.slice ao ((f i).length + 1) cap)) (rows.set i (.slice ao ((f i).length + 1) cap)) (fun p => if p = i then f i ++ [k] else f p) := by
  have ho := h.own i v hv
  obtain ⟨ao, cap, y, hr, h2, h3, h4⟩ := append_keyF ho hx hl h.size 24
  have hil : i < rows.length := (List.getElem?_eq_some_iff.1 hv).1
  have hbl : ∀ b, v.ownBlock = some b → w0.heap.size ≤ b := own_block_le ho
  have hgy : y.heap[g]? = some (.cells rows.toArray 24) := (h3.block g (Nat.lt_of_lt_of_le h.low h.size) (fun e => by have := hbl g e.symm; have := h.low; omega)).trans h.box
  have hset : (y.setCell ⟨g, i, none⟩ (.slice ao ((f i).length + 1) cap)).heap[g]? = some (.cells (rows.set i (.slice ao ((f i).length + 1) cap)).toArray 24) := by
    have := heap_setCell_same y g i _ 24 (.slice ao ((f i).length + 1) cap) hgy
    rw [this]
    simp
  have hoth : ∀ j, j ≠ g → (y.setCell ⟨g, i, none⟩ (.slice ao ((f i).length + 1) cap)).heap[j]? = y.heap[j]? := fun j hj => heap_setCell_other y _ j _ hj
  have hup : ∀ {base n : Nat} {u : Value} {xs : List Value}, y.ownsRow base 37 2 u n xs → (y.setCell ⟨g, i, none⟩ (.slice ao ((f i).length + 1) cap)).ownsRow base 37 2 u n xs := fun {base n u xs} hu => by
    refine ⟨hu.1, ?_⟩
    rcases hu.2 with hn | ⟨g', cap', cur, e, hb, hh, r⟩
    · exact .inl hn
    · refine .inr ⟨g', cap', cur, e, hb, (hoth g' (fun c => ?_)).trans hh, r⟩
      rw [c, hgy] at hh
      simp at hh
  refine ⟨ao, cap, y, hr, hgy, h3.size, h.low, h3.os.trans h.os, h3.tape.trans h.tape, h3.output.trans h.output, ?_, ?_, hset, ?_, ?_⟩
  · simp only [World.setCell, Array.size_modify]
    exact Nat.le_trans h.size h3.size
  · intro j hj hne
    rw [hoth j hne, h3.block j (Nat.lt_of_lt_of_le hj h.size) (fun e => by have := hbl j e.symm; omega)]
    exact h.frame j hj hne
  · intro p u hu
    by_cases hp : p = i
    · subst hp
      rw [List.getElem?_set_self hil] at hu
      obtain rfl := Option.some.inj hu
      simp only [if_true, List.length_append, List.length_cons, List.length_nil]
      exact hup h2
    · rw [List.getElem?_set_ne (Ne.symm hp)] at hu
      simp only [hp, if_false]
      refine hup ?_
      have hou := h.own p u hu
      refine ⟨hou.1, ?_⟩
      rcases hou.2 with hn | ⟨g', cap', cur, e, hb, hh, r⟩
      · exact .inl hn
      · refine .inr ⟨g', cap', cur, e, hb, (h3.block g' (Array.getElem?_eq_some_iff.1 hh).1 (fun c => ?_)).trans hh, r⟩
        exact h.apart i p v u g' hv hu (Ne.symm hp) c.symm (by rw [e]; rfl)
  · intro p q u x b hp hq hpq hb
    by_cases h1 : p = i
    · subst h1
      rw [List.getElem?_set_self hil] at hp
      obtain rfl := Option.some.inj hp
      rw [List.getElem?_set_ne hpq] at hq
      rcases h4 b hb with c | c
      · exact h.apart p q v x b hv hq hpq c
      · intro hxb
        have hlt := ((h.own q x hq).lt b hxb).2
        omega
    · rw [List.getElem?_set_ne (Ne.symm h1)] at hp
      by_cases h2' : q = i
      · subst h2'
        rw [List.getElem?_set_self hil] at hq
        obtain rfl := Option.some.inj hq
        intro hxb
        rcases h4 b hxb with c | c
        · exact h.apart p q u v b hp hv hpq hb c
        · have hlt := ((h.own p u hp).lt b hb).2
          omega
      · rw [List.getElem?_set_ne (Ne.symm h2')] at hq
        exact h.apart p q u x b hp hq hpq hb
end Go.Proofs.Ytibjhjkeflbghaa
