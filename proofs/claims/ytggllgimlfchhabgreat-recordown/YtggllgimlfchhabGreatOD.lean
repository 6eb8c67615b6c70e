/- Memory whose numbers may turn, of the same kinds. -/
import Derived.Test.YtggllgimlfchhabGreatOC
import Derived.Test.YtggllgimlfchhabGreatND
namespace Go.Proofs.YtggllgimlfchhabGreat
open Go.RowKit
set_option maxRecDepth 100000

/-- The same, or numbers of one kind. -/
def Alike (a b : Option Value) : Prop := b = a ∨ ∃ k x y, a = some (.int k x) ∧ b = some (.int k y)
theorem Alike.trans {a b c : Option Value} (h : Alike a b) (k : Alike b c) : Alike a c := by
  rcases h with rfl | ⟨k1, x, y, rfl, rfl⟩
  · exact k
  · rcases k with rfl | ⟨k2, u, v, e, rfl⟩
    · exact .inr ⟨_, _, _, rfl, rfl⟩
    · simp only [Option.some.injEq, Value.int.injEq] at e
      obtain ⟨rfl, rfl⟩ := e
      exact .inr ⟨_, _, _, rfl, rfl⟩
/-- Only in the blocks of P numbers turn, into others of their kinds. -/
structure Mild (P : Nat → Prop) (w w' : World) : Prop where
  os : w'.os = w.os
  tape : w'.tape = w.tape
  output : w'.output = w.output
  size : w.heap.size ≤ w'.heap.size
  same : ∀ g : Nat, g < w.heap.size → ¬ P g → w'.heap[g]? = w.heap[g]?
  alike : ∀ (g : Nat) (cur : Array Value) (T : TypeId), w.heap[g]? = some (.cells cur T) → ∃ cur' : Array Value, w'.heap[g]? = some (.cells cur' T) ∧ ∀ j : Nat, Alike cur[j]? cur'[j]?
theorem Mild.refl (P : Nat → Prop) (w : World) : Mild P w w := ⟨rfl, rfl, rfl, Nat.le_refl _, fun _ _ _ => rfl, fun _ cur _ h => ⟨cur, h, fun _ => .inl rfl⟩⟩
theorem Mild.trans {P : Nat → Prop} {a b c : World} (h : Mild P a b) (k : Mild P b c) : Mild P a c :=
  ⟨k.os.trans h.os, k.tape.trans h.tape, k.output.trans h.output, Nat.le_trans h.size k.size, fun g hg hP => (k.same g (Nat.lt_of_lt_of_le hg h.size) hP).trans (h.same g hg hP), fun g cur T e => by
    obtain ⟨c1, e1, a1⟩ := h.alike g cur T e
    obtain ⟨c2, e2, a2⟩ := k.alike g c1 T e1
    exact ⟨c2, e2, fun j => (a1 j).trans (a2 j)⟩⟩
theorem Mild.of {P : Nat → Prop} {w w' : World} (h : Below w.heap.size w w') : Mild P w w' :=
  ⟨h.os, h.tape, h.output, h.size, fun g hg _ => h.block g hg, fun g cur _ e => ⟨cur, (h.block g (Array.getElem?_eq_some_iff.1 e).1).trans e, fun _ => .inl rfl⟩⟩
theorem Mild.set {P : Nat → Prop} {w : World} {g o : Nat} {k : IntKind} {x : Int} (hP : P g) (hc : w.cell? ⟨g, o, none⟩ = some (.int k x)) (y : Int) : Mild P w (w.setCell ⟨g, o, none⟩ (.int k y)) :=
  ⟨rfl, rfl, rfl, by simp [World.setCell], fun j _ hn => Below.heap_setCell _ _ _ _ (fun e => hn (by simp only at e; rw [e]; exact hP)), fun j cur T e => by
    by_cases hj : j = g
    · subst hj
      refine ⟨cur.setIfInBounds o (.int k y), setCell_heap e, fun i => ?_⟩
      rw [cell_of_heap e] at hc
      by_cases hi : i = o
      · subst hi
        right
        refine ⟨k, x, y, hc, ?_⟩
        have hl := (Array.getElem?_eq_some_iff.1 hc).1
        simp [hl]
      · left
        simp [Ne.symm hi]
    · exact ⟨cur, (Below.heap_setCell _ _ _ _ (fun e' => hj (by simp only at e'; exact e'))).trans e, fun _ => .inl rfl⟩⟩
theorem Mild.below {P : Nat → Prop} {w w' : World} {base : Nat} (h : Mild P w w') (hP : ∀ g, P g → base ≤ g) (hb : base ≤ w.heap.size) : Below base w w' := ⟨h.os, h.tape, h.output, h.size, fun g hg => h.same g (by omega) (fun p => by have := hP g p; omega)⟩
theorem Mild.mono {P Q : Nat → Prop} {w w' : World} (h : Mild P w w') (hPQ : ∀ g, P g → Q g) : Mild Q w w' := ⟨h.os, h.tape, h.output, h.size, fun g hg hn => h.same g hg (fun p => hn (hPQ g p)), h.alike⟩
theorem Mild.cell {P : Nat → Prop} {w w' : World} (h : Mild P w w') {g o : Nat} {cur : Array Value} {T : TypeId} (hg : w.heap[g]? = some (.cells cur T)) : Alike (w.cell? ⟨g, o, none⟩) (w'.cell? ⟨g, o, none⟩) := by
  obtain ⟨c, e, a⟩ := h.alike g cur T hg
  rw [cell_of_heap hg, cell_of_heap e]
  exact a o
theorem Mild.slice {P : Nat → Prop} {w w' : World} (h : Mild P w w') {g o : Nat} {cur : Array Value} {T : TypeId} (hg : w.heap[g]? = some (.cells cur T)) {a : Option Addr} {n c : Nat} (hc : w.cell? ⟨g, o, none⟩ = some (.slice a n c)) : w'.cell? ⟨g, o, none⟩ = some (.slice a n c) := by
  rcases h.cell (o := o) hg with e | ⟨k, x, y, e, _⟩
  · rw [e]; exact hc
  · rw [hc] at e; cases e
theorem Mild.int {P : Nat → Prop} {w w' : World} (h : Mild P w w') {g o : Nat} {cur : Array Value} {T : TypeId} (hg : w.heap[g]? = some (.cells cur T)) {k : IntKind} (hc : ∃ x, w.cell? ⟨g, o, none⟩ = some (.int k x)) : ∃ x, w'.cell? ⟨g, o, none⟩ = some (.int k x) := by
  obtain ⟨x, hc⟩ := hc
  rcases h.cell (o := o) hg with e | ⟨k', x', y, e, e'⟩
  · exact ⟨x, by rw [e]; exact hc⟩
  · rw [hc] at e
    simp only [Option.some.injEq, Value.int.injEq] at e
    obtain ⟨rfl, rfl⟩ := e
    exact ⟨y, e'⟩
theorem Mild.frozen {P : Nat → Prop} {w w' : World} (h : Mild P w w') {g : Nat} {cur : Array Value} {T : TypeId} (hg : w.heap[g]? = some (.cells cur T)) (o : Nat) : w'.frozen? ⟨g, o, none⟩ = false := by
  obtain ⟨c, e, _⟩ := h.alike g cur T hg
  exact frozen_of_heap e
/-- A slice of n parts of s cells each, in a block of P, that has at k in each part a number of that kind. -/
def SoftI (P : Nat → Prop) (w : World) (s k : Nat) (ik : IntKind) (v : Value) (n : Nat) : Prop :=
  ∃ ao cap, v = .slice ao n cap ∧ n ≤ cap ∧ n ≤ 9223372036854775807 ∧ (0 < n → ∃ g cur T, ao = some ⟨g, 0, none⟩ ∧ P g ∧ w.heap[g]? = some (.cells cur T) ∧ ∀ t, t < n → ∃ x, w.cell? ⟨g, t * s + k, none⟩ = some (.int ik x))
theorem SoftI.on {P Q : Nat → Prop} {w w' : World} {s k n : Nat} {ik : IntKind} {v : Value} (h : SoftI P w s k ik v n) (m : Mild Q w w') : SoftI P w' s k ik v n := by
  obtain ⟨ao, cap, rfl, h1, h2, h3⟩ := h
  refine ⟨ao, cap, rfl, h1, h2, fun hn => ?_⟩
  obtain ⟨g, cur, T, e, hP, hg, hc⟩ := h3 hn
  obtain ⟨cur', e', _⟩ := m.alike g cur T hg
  exact ⟨g, cur', T, e, hP, e', fun t ht => m.int hg (hc t ht)⟩
theorem SoftI.ofBytes {w : World} {base n : Nat} {v : Value} {zs : List Int} (h : w.ownsRow base 5 1 v n (ints .u8 zs)) (hn : n ≤ 9223372036854775807) : SoftI (base ≤ ·) w 1 0 .u8 v n := by
  have hl : zs.length = n := by have := (sees_of_own h).1; omega
  rcases id h.2 with ⟨rfl, rfl⟩ | ⟨g, cap, cur, rfl, hg, hh, hc, _⟩
  · exact ⟨none, 0, rfl, by omega, by omega, fun h0 => absurd h0 (by omega)⟩
  · refine ⟨_, cap, rfl, hc, hn, fun _ => ⟨g, cur, _, rfl, hg, hh, fun t ht => ⟨zs.getD t 0, ?_⟩⟩⟩
    have := h.cells (g := g) rfl t (.int .u8 (zs.getD t 0)) (by simp [ints, List.getD, hl, ht])
    have e1 : t * 1 + 0 = t := by omega
    rw [e1]
    rwa [Addr.add_mid, Nat.zero_add] at this
theorem SoftI.ofInts {w : World} {base n : Nat} {v : Value} {zs : List Int} (h : w.ownsRow base 2 1 v n (i64C zs)) (hn : n ≤ 9223372036854775807) : SoftI (base ≤ ·) w 1 0 .i64 v n := by
  have hl : zs.length = n := by have := (sees_of_own (k := .i64) h).1; omega
  rcases id h.2 with ⟨rfl, rfl⟩ | ⟨g, cap, cur, rfl, hg, hh, hc, _⟩
  · exact ⟨none, 0, rfl, by omega, by omega, fun h0 => absurd h0 (by omega)⟩
  · refine ⟨_, cap, rfl, hc, hn, fun _ => ⟨g, cur, _, rfl, hg, hh, fun t ht => ⟨zs.getD t 0, ?_⟩⟩⟩
    have := h.cells (g := g) rfl t (.int .i64 (zs.getD t 0)) (by simp [i64C, ints, List.getD, hl, ht])
    have e1 : t * 1 + 0 = t := by omega
    rw [e1]
    rwa [Addr.add_mid, Nat.zero_add] at this
theorem SoftI.ofKeys {w : World} {base n : Nat} {v : Value} {l : List (Int × Int)} (h : w.ownsRow base 91 2 v n (keyCs l)) (hn : n ≤ 9223372036854775807) : SoftI (base ≤ ·) w 2 1 .i64 v n := by
  have hl : l.length = n := by have := h.1; rw [keyCs_length] at this; omega
  rcases id h.2 with ⟨rfl, rfl⟩ | ⟨g, cap, cur, rfl, hg, hh, hc, _⟩
  · exact ⟨none, 0, rfl, by omega, by omega, fun h0 => absurd h0 (by omega)⟩
  · refine ⟨_, cap, rfl, hc, hn, fun _ => ⟨g, cur, _, rfl, hg, hh, fun t ht => ⟨(l.getD t (0, 0)).2, ?_⟩⟩⟩
    have := h.cells (g := g) rfl (t * 2 + 1) (.int .i64 (l.getD t (0, 0)).2) (keyCs_at l t (by omega)).2
    rwa [Addr.add_mid, Nat.zero_add] at this
/-- A transaction's cells, of the kinds that they have. -/
def SoftT (P : Nat → Prop) (w : World) (g o : Nat) : Prop :=
  ∃ cv av rv wv n1 n2 n3 n4, (∃ x, w.cell? ⟨g, o, none⟩ = some (.int .i64 x)) ∧ (∃ x, w.cell? ⟨g, o + 1, none⟩ = some (.int .i64 x)) ∧ w.cell? ⟨g, o + 2, none⟩ = some cv ∧ w.cell? ⟨g, o + 3, none⟩ = some av ∧ w.cell? ⟨g, o + 4, none⟩ = some rv ∧ w.cell? ⟨g, o + 5, none⟩ = some wv ∧
    SoftI P w 1 0 .u8 cv n1 ∧ SoftI P w 1 0 .i64 av n2 ∧ SoftI P w 2 1 .i64 rv n3 ∧ SoftI P w 2 1 .i64 wv n4
theorem SoftT.on {P Q : Nat → Prop} {w w' : World} {g o : Nat} {cur : Array Value} {T : TypeId} (hg : w.heap[g]? = some (.cells cur T)) (h : SoftT P w g o) (m : Mild Q w w') : SoftT P w' g o := by
  obtain ⟨cv, av, rv, wv, n1, n2, n3, n4, h0, h1, h2, h3, h4, h5, s1, s2, s3, s4⟩ := h
  have t1 := s1.on m
  have t2 := s2.on m
  have t3 := s3.on m
  have t4 := s4.on m
  obtain ⟨_, _, rfl, _⟩ := s1
  obtain ⟨_, _, rfl, _⟩ := s2
  obtain ⟨_, _, rfl, _⟩ := s3
  obtain ⟨_, _, rfl, _⟩ := s4
  exact ⟨_, _, _, _, n1, n2, n3, n4, m.int hg h0, m.int hg h1, m.slice hg h2, m.slice hg h3, m.slice hg h4, m.slice hg h5, t1, t2, t3, t4⟩
/-- A slice of transactions, of the kinds that their cells have. -/
def SoftTs (P : Nat → Prop) (w : World) (v : Value) (n : Nat) : Prop :=
  ∃ ao cap, v = .slice ao n cap ∧ n ≤ cap ∧ n ≤ 9223372036854775807 ∧ (0 < n → ∃ (g : Nat) (cur : Array Value) (T : TypeId), ao = some ⟨g, 0, none⟩ ∧ P g ∧ w.heap[g]? = some (.cells cur T) ∧ ∀ t, t < n → SoftT P w g (t * 6))
theorem SoftTs.on {P Q : Nat → Prop} {w w' : World} {n : Nat} {v : Value} (h : SoftTs P w v n) (m : Mild Q w w') : SoftTs P w' v n := by
  obtain ⟨ao, cap, rfl, h1, h2, h3⟩ := h
  refine ⟨ao, cap, rfl, h1, h2, fun hn => ?_⟩
  obtain ⟨g, cur, T, e, hP, hg, hc⟩ := h3 hn
  obtain ⟨cur', e', _⟩ := m.alike g cur T hg
  exact ⟨g, cur', T, e, hP, e', fun t ht => (hc t ht).on hg m⟩
theorem SoftTs.of {w : World} {base : Nat} {v : Value} {l : List TxnD} (h : OwnTs base w v l) (hn : l.length ≤ 1256584717421) (hs : ∀ t ∈ l, SmT t) : SoftTs (base ≤ ·) w v l.length := by
  obtain ⟨vs, rfl, hrow, hall⟩ := h
  rcases id hrow.2 with ⟨rfl, h0⟩ | ⟨g, cap, cur, rfl, hg, hh, hc, _⟩
  · exact ⟨none, 0, by rw [h0], by omega, by omega, fun h0' => absurd h0' (by omega)⟩
  · refine ⟨_, cap, rfl, hc, by omega, fun _ => ⟨g, cur, _, rfl, hg, hh, fun t ht => ?_⟩⟩
    have htv : t < vs.length := by simpa using ht
    have hp : vs[t]? = some vs[t] := List.getElem?_eq_getElem htv
    have hat : ∀ k u, k < 6 → (txnCells vs[t])[k]? = some u → w.cell? ⟨g, t * 6 + k, none⟩ = some u := fun k u hk hu => by
      have := hrow.cells (g := g) rfl (t * 6 + k) u ((txnCells_at vs t _ hp k hk).trans hu)
      rwa [Addr.add_mid, Nat.zero_add] at this
    obtain ⟨cv, av, rv, wv, e, q1, q2, q3, q4⟩ := hall _ (List.getElem_mem htv)
    simp only [Array.mk.injEq, List.cons.injEq, and_true, true_and] at e
    obtain ⟨e1, e2, e3, e4⟩ := e
    have hs := hs _ (List.mem_map.2 ⟨_, List.getElem_mem htv, rfl⟩)
    refine ⟨_, _, _, _, vs[t].1.code.length, vs[t].1.args.length, vs[t].1.reads.length, vs[t].1.writes.length, ⟨_, hat 0 _ (by omega) rfl⟩, ⟨_, hat 1 _ (by omega) rfl⟩, hat 2 _ (by omega) rfl, hat 3 _ (by omega) rfl, hat 4 _ (by omega) rfl, hat 5 _ (by omega) rfl, ?_, ?_, ?_, ?_⟩
    · rw [e1]; exact SoftI.ofBytes q1 (by have := hs.code; omega)
    · rw [e2]; exact SoftI.ofInts q2 (by have := hs.args; omega)
    · rw [e3]; exact SoftI.ofKeys q3 (by have := hs.reads; omega)
    · rw [e4]; exact SoftI.ofKeys q4 (by have := hs.writes; omega)
end Go.Proofs.YtggllgimlfchhabGreat
