/- Several texts as one. -/
import Derived.Test.YtggllgimlfchhabGreatOC
import Derived.Test.YtggllgimlfchhabGreatND

/- Memory whose numbers may turn, of the same kinds. -/
namespace Go.Proofs.YtggllgimlfchhabGreat
open Go.RowKit
set_option maxRecDepth 100000

/-- The same, or numbers of one kind. -/
def Alike (a b : Option Value) : Prop := b = a ∨ ∃ k x y, a = some (.int k x) ∧ b = some (.int k y)
theorem Alike.trans {a b c : Option Value} (h : Alike a b) (k : Alike b c) : Alike a c := by
  rcases h with rfl | ⟨k1, x, y, rfl, rfl⟩
  · exact k
  · rcases k with rfl | ⟨k2, u, v, e, rfl⟩
    · exact .inr ⟨_, _, _, rfl, rfl⟩
    · simp only [Option.some.injEq, Value.int.injEq] at e
      obtain ⟨rfl, rfl⟩ := e
      exact .inr ⟨_, _, _, rfl, rfl⟩
/-- Only in the blocks of P numbers turn, into others of their kinds. -/
structure Mild (P : Nat → Prop) (w w' : World) : Prop where
  os : w'.os = w.os
  tape : w'.tape = w.tape
  output : w'.output = w.output
  size : w.heap.size ≤ w'.heap.size
  same : ∀ g : Nat, g < w.heap.size → ¬ P g → w'.heap[g]? = w.heap[g]?
  alike : ∀ (g : Nat) (cur : Array Value) (T : TypeId), w.heap[g]? = some (.cells cur T) → ∃ cur' : Array Value, w'.heap[g]? = some (.cells cur' T) ∧ ∀ j : Nat, Alike cur[j]? cur'[j]?
theorem Mild.refl (P : Nat → Prop) (w : World) : Mild P w w := ⟨rfl, rfl, rfl, Nat.le_refl _, fun _ _ _ => rfl, fun _ cur _ h => ⟨cur, h, fun _ => .inl rfl⟩⟩
theorem Mild.trans {P : Nat → Prop} {a b c : World} (h : Mild P a b) (k : Mild P b c) : Mild P a c :=
  ⟨k.os.trans h.os, k.tape.trans h.tape, k.output.trans h.output, Nat.le_trans h.size k.size, fun g hg hP => (k.same g (Nat.lt_of_lt_of_le hg h.size) hP).trans (h.same g hg hP), fun g cur T e => by
    obtain ⟨c1, e1, a1⟩ := h.alike g cur T e
    obtain ⟨c2, e2, a2⟩ := k.alike g c1 T e1
    exact ⟨c2, e2, fun j => (a1 j).trans (a2 j)⟩⟩
theorem Mild.of {P : Nat → Prop} {w w' : World} (h : Below w.heap.size w w') : Mild P w w' :=
  ⟨h.os, h.tape, h.output, h.size, fun g hg _ => h.block g hg, fun g cur _ e => ⟨cur, (h.block g (Array.getElem?_eq_some_iff.1 e).1).trans e, fun _ => .inl rfl⟩⟩
theorem Mild.set {P : Nat → Prop} {w : World} {g o : Nat} {k : IntKind} {x : Int} (hP : P g) (hc : w.cell? ⟨g, o, none⟩ = some (.int k x)) (y : Int) : Mild P w (w.setCell ⟨g, o, none⟩ (.int k y)) :=
  ⟨rfl, rfl, rfl, by simp [World.setCell], fun j _ hn => Below.heap_setCell _ _ _ _ (fun e => hn (by simp only at e; rw [e]; exact hP)), fun j cur T e => by
    by_cases hj : j = g
    · subst hj
      refine ⟨cur.setIfInBounds o (.int k y), setCell_heap e, fun i => ?_⟩
      rw [cell_of_heap e] at hc
      by_cases hi : i = o
      · subst hi
        right
        refine ⟨k, x, y, hc, ?_⟩
        have hl := (Array.getElem?_eq_some_iff.1 hc).1
        simp [hl]
      · left
        simp [Ne.symm hi]
    · exact ⟨cur, (Below.heap_setCell _ _ _ _ (fun e' => hj (by simp only at e'; exact e'))).trans e, fun _ => .inl rfl⟩⟩
theorem Mild.below {P : Nat → Prop} {w w' : World} {base : Nat} (h : Mild P w w') (hP : ∀ g, P g → base ≤ g) (hb : base ≤ w.heap.size) : Below base w w' := ⟨h.os, h.tape, h.output, h.size, fun g hg => h.same g (by omega) (fun p => by have := hP g p; omega)⟩
theorem Mild.mono {P Q : Nat → Prop} {w w' : World} (h : Mild P w w') (hPQ : ∀ g, P g → Q g) : Mild Q w w' := ⟨h.os, h.tape, h.output, h.size, fun g hg hn => h.same g hg (fun p => hn (hPQ g p)), h.alike⟩
theorem Mild.cell {P : Nat → Prop} {w w' : World} (h : Mild P w w') {g o : Nat} {cur : Array Value} {T : TypeId} (hg : w.heap[g]? = some (.cells cur T)) : Alike (w.cell? ⟨g, o, none⟩) (w'.cell? ⟨g, o, none⟩) := by
  obtain ⟨c, e, a⟩ := h.alike g cur T hg
  rw [cell_of_heap hg, cell_of_heap e]
  exact a o
theorem Mild.slice {P : Nat → Prop} {w w' : World} (h : Mild P w w') {g o : Nat} {cur : Array Value} {T : TypeId} (hg : w.heap[g]? = some (.cells cur T)) {a : Option Addr} {n c : Nat} (hc : w.cell? ⟨g, o, none⟩ = some (.slice a n c)) : w'.cell? ⟨g, o, none⟩ = some (.slice a n c) := by
  rcases h.cell (o := o) hg with e | ⟨k, x, y, e, _⟩
  · rw [e]; exact hc
  · rw [hc] at e; cases e
theorem Mild.int {P : Nat → Prop} {w w' : World} (h : Mild P w w') {g o : Nat} {cur : Array Value} {T : TypeId} (hg : w.heap[g]? = some (.cells cur T)) {k : IntKind} (hc : ∃ x, w.cell? ⟨g, o, none⟩ = some (.int k x)) : ∃ x, w'.cell? ⟨g, o, none⟩ = some (.int k x) := by
  obtain ⟨x, hc⟩ := hc
  rcases h.cell (o := o) hg with e | ⟨k', x', y, e, e'⟩
  · exact ⟨x, by rw [e]; exact hc⟩
  · rw [hc] at e
    simp only [Option.some.injEq, Value.int.injEq] at e
    obtain ⟨rfl, rfl⟩ := e
    exact ⟨y, e'⟩
theorem Mild.frozen {P : Nat → Prop} {w w' : World} (h : Mild P w w') {g : Nat} {cur : Array Value} {T : TypeId} (hg : w.heap[g]? = some (.cells cur T)) (o : Nat) : w'.frozen? ⟨g, o, none⟩ = false := by
  obtain ⟨c, e, _⟩ := h.alike g cur T hg
  exact frozen_of_heap e
/-- A slice of n parts of s cells each, in a block of P, that has at k in each part a number of that kind. -/
def SoftI (P : Nat → Prop) (w : World) (s k : Nat) (ik : IntKind) (v : Value) (n : Nat) : Prop :=
  ∃ ao cap, v = .slice ao n cap ∧ n ≤ cap ∧ n ≤ 9223372036854775807 ∧ (0 < n → ∃ g cur T, ao = some ⟨g, 0, none⟩ ∧ P g ∧ w.heap[g]? = some (.cells cur T) ∧ ∀ t, t < n → ∃ x, w.cell? ⟨g, t * s + k, none⟩ = some (.int ik x))
theorem SoftI.on {P Q : Nat → Prop} {w w' : World} {s k n : Nat} {ik : IntKind} {v : Value} (h : SoftI P w s k ik v n) (m : Mild Q w w') : SoftI P w' s k ik v n := by
  obtain ⟨ao, cap, rfl, h1, h2, h3⟩ := h
  refine ⟨ao, cap, rfl, h1, h2, fun hn => ?_⟩
  obtain ⟨g, cur, T, e, hP, hg, hc⟩ := h3 hn
  obtain ⟨cur', e', _⟩ := m.alike g cur T hg
  exact ⟨g, cur', T, e, hP, e', fun t ht => m.int hg (hc t ht)⟩
theorem SoftI.ofBytes {w : World} {base n : Nat} {v : Value} {zs : List Int} (h : w.ownsRow base 5 1 v n (ints .u8 zs)) (hn : n ≤ 9223372036854775807) : SoftI (base ≤ ·) w 1 0 .u8 v n := by
  have hl : zs.length = n := by have := (sees_of_own h).1; omega
  rcases id h.2 with ⟨rfl, rfl⟩ | ⟨g, cap, cur, rfl, hg, hh, hc, _⟩
  · exact ⟨none, 0, rfl, by omega, by omega, fun h0 => absurd h0 (by omega)⟩
  · refine ⟨_, cap, rfl, hc, hn, fun _ => ⟨g, cur, _, rfl, hg, hh, fun t ht => ⟨zs.getD t 0, ?_⟩⟩⟩
    have := h.cells (g := g) rfl t (.int .u8 (zs.getD t 0)) (by simp [ints, List.getD, hl, ht])
    have e1 : t * 1 + 0 = t := by omega
    rw [e1]
    rwa [Addr.add_mid, Nat.zero_add] at this
theorem SoftI.ofInts {w : World} {base n : Nat} {v : Value} {zs : List Int} (h : w.ownsRow base 2 1 v n (i64C zs)) (hn : n ≤ 9223372036854775807) : SoftI (base ≤ ·) w 1 0 .i64 v n := by
  have hl : zs.length = n := by have := (sees_of_own (k := .i64) h).1; omega
  rcases id h.2 with ⟨rfl, rfl⟩ | ⟨g, cap, cur, rfl, hg, hh, hc, _⟩
  · exact ⟨none, 0, rfl, by omega, by omega, fun h0 => absurd h0 (by omega)⟩
  · refine ⟨_, cap, rfl, hc, hn, fun _ => ⟨g, cur, _, rfl, hg, hh, fun t ht => ⟨zs.getD t 0, ?_⟩⟩⟩
    have := h.cells (g := g) rfl t (.int .i64 (zs.getD t 0)) (by simp [i64C, ints, List.getD, hl, ht])
    have e1 : t * 1 + 0 = t := by omega
    rw [e1]
    rwa [Addr.add_mid, Nat.zero_add] at this
theorem SoftI.ofKeys {w : World} {base n : Nat} {v : Value} {l : List (Int × Int)} (h : w.ownsRow base 91 2 v n (keyCs l)) (hn : n ≤ 9223372036854775807) : SoftI (base ≤ ·) w 2 1 .i64 v n := by
  have hl : l.length = n := by have := h.1; rw [keyCs_length] at this; omega
  rcases id h.2 with ⟨rfl, rfl⟩ | ⟨g, cap, cur, rfl, hg, hh, hc, _⟩
  · exact ⟨none, 0, rfl, by omega, by omega, fun h0 => absurd h0 (by omega)⟩
  · refine ⟨_, cap, rfl, hc, hn, fun _ => ⟨g, cur, _, rfl, hg, hh, fun t ht => ⟨(l.getD t (0, 0)).2, ?_⟩⟩⟩
    have := h.cells (g := g) rfl (t * 2 + 1) (.int .i64 (l.getD t (0, 0)).2) (keyCs_at l t (by omega)).2
    rwa [Addr.add_mid, Nat.zero_add] at this
/-- A transaction's cells, of the kinds that they have. -/
def SoftT (P : Nat → Prop) (w : World) (g o : Nat) : Prop :=
  ∃ cv av rv wv n1 n2 n3 n4, (∃ x, w.cell? ⟨g, o, none⟩ = some (.int .i64 x)) ∧ (∃ x, w.cell? ⟨g, o + 1, none⟩ = some (.int .i64 x)) ∧ w.cell? ⟨g, o + 2, none⟩ = some cv ∧ w.cell? ⟨g, o + 3, none⟩ = some av ∧ w.cell? ⟨g, o + 4, none⟩ = some rv ∧ w.cell? ⟨g, o + 5, none⟩ = some wv ∧
    SoftI P w 1 0 .u8 cv n1 ∧ SoftI P w 1 0 .i64 av n2 ∧ SoftI P w 2 1 .i64 rv n3 ∧ SoftI P w 2 1 .i64 wv n4
theorem SoftT.on {P Q : Nat → Prop} {w w' : World} {g o : Nat} {cur : Array Value} {T : TypeId} (hg : w.heap[g]? = some (.cells cur T)) (h : SoftT P w g o) (m : Mild Q w w') : SoftT P w' g o := by
  obtain ⟨cv, av, rv, wv, n1, n2, n3, n4, h0, h1, h2, h3, h4, h5, s1, s2, s3, s4⟩ := h
  have t1 := s1.on m
  have t2 := s2.on m
  have t3 := s3.on m
  have t4 := s4.on m
  obtain ⟨_, _, rfl, _⟩ := s1
  obtain ⟨_, _, rfl, _⟩ := s2
  obtain ⟨_, _, rfl, _⟩ := s3
  obtain ⟨_, _, rfl, _⟩ := s4
  exact ⟨_, _, _, _, n1, n2, n3, n4, m.int hg h0, m.int hg h1, m.slice hg h2, m.slice hg h3, m.slice hg h4, m.slice hg h5, t1, t2, t3, t4⟩
/-- A slice of transactions, of the kinds that their cells have. -/
def SoftTs (P : Nat → Prop) (w : World) (v : Value) (n : Nat) : Prop :=
  ∃ ao cap, v = .slice ao n cap ∧ n ≤ cap ∧ n ≤ 9223372036854775807 ∧ (0 < n → ∃ (g : Nat) (cur : Array Value) (T : TypeId), ao = some ⟨g, 0, none⟩ ∧ P g ∧ w.heap[g]? = some (.cells cur T) ∧ ∀ t, t < n → SoftT P w g (t * 6))
theorem SoftTs.on {P Q : Nat → Prop} {w w' : World} {n : Nat} {v : Value} (h : SoftTs P w v n) (m : Mild Q w w') : SoftTs P w' v n := by
  obtain ⟨ao, cap, rfl, h1, h2, h3⟩ := h
  refine ⟨ao, cap, rfl, h1, h2, fun hn => ?_⟩
  obtain ⟨g, cur, T, e, hP, hg, hc⟩ := h3 hn
  obtain ⟨cur', e', _⟩ := m.alike g cur T hg
  exact ⟨g, cur', T, e, hP, e', fun t ht => (hc t ht).on hg m⟩
theorem SoftTs.of {w : World} {base : Nat} {v : Value} {l : List TxnD} (h : OwnTs base w v l) (hn : l.length ≤ 1099511627776) (hs : ∀ t ∈ l, SmT t) : SoftTs (base ≤ ·) w v l.length := by
  obtain ⟨vs, rfl, hrow, hall⟩ := h
  rcases id hrow.2 with ⟨rfl, h0⟩ | ⟨g, cap, cur, rfl, hg, hh, hc, _⟩
  · exact ⟨none, 0, by rw [h0], by omega, by omega, fun h0' => absurd h0' (by omega)⟩
  · refine ⟨_, cap, rfl, hc, by omega, fun _ => ⟨g, cur, _, rfl, hg, hh, fun t ht => ?_⟩⟩
    have htv : t < vs.length := by simpa using ht
    have hp : vs[t]? = some vs[t] := List.getElem?_eq_getElem htv
    have hat : ∀ k u, k < 6 → (txnCells vs[t])[k]? = some u → w.cell? ⟨g, t * 6 + k, none⟩ = some u := fun k u hk hu => by
      have := hrow.cells (g := g) rfl (t * 6 + k) u ((txnCells_at vs t _ hp k hk).trans hu)
      rwa [Addr.add_mid, Nat.zero_add] at this
    obtain ⟨cv, av, rv, wv, e, q1, q2, q3, q4⟩ := hall _ (List.getElem_mem htv)
    simp only [Array.mk.injEq, List.cons.injEq, and_true, true_and] at e
    obtain ⟨e1, e2, e3, e4⟩ := e
    have hs := hs _ (List.mem_map.2 ⟨_, List.getElem_mem htv, rfl⟩)
    refine ⟨_, _, _, _, vs[t].1.code.length, vs[t].1.args.length, vs[t].1.reads.length, vs[t].1.writes.length, ⟨_, hat 0 _ (by omega) rfl⟩, ⟨_, hat 1 _ (by omega) rfl⟩, hat 2 _ (by omega) rfl, hat 3 _ (by omega) rfl, hat 4 _ (by omega) rfl, hat 5 _ (by omega) rfl, ?_, ?_, ?_, ?_⟩
    · rw [e1]; exact SoftI.ofBytes q1 (by have := hs.code; omega)
    · rw [e2]; exact SoftI.ofInts q2 (by have := hs.args; omega)
    · rw [e3]; exact SoftI.ofKeys q3 (by have := hs.reads; omega)
    · rw [e4]; exact SoftI.ofKeys q4 (by have := hs.writes; omega)
end Go.Proofs.YtggllgimlfchhabGreat

/- RecordOwn: spoil. -/
namespace Go.Proofs.YtggllgimlfchhabGreat
open Go.RowKit
set_option maxRecDepth 100000

set_option maxHeartbeats 3200000 in
theorem spoil_any {P : Nat → Prop} (ek ef en : Int) (ta : Option Addr) (n tc : Nat) (w : World) (hs : SoftTs P w (.slice ta n tc) n) :
    Calls Tryz.prog 19 #[.agg #[.int .i64 ek, .int .i64 ef, .int .i64 en, .slice ta n tc]] w fun e w' => e = .returned (.tuple #[]) ∧ Mild P w w' := by
  have hal : Below w.heap.size w (w.alloc (.cells #[.int .i64 ek, .int .i64 ef, .int .i64 en, .slice ta n tc] 24)) := (Below.refl _ _).alloc (Nat.le_refl _) _
  have hx0 : (w.alloc (.cells #[.int .i64 ek, .int .i64 ef, .int .i64 en, .slice ta n tc] 24)).heap[w.heap.size]? = some (.cells #[.int .i64 ek, .int .i64 ef, .int .i64 en, .slice ta n tc] 24) := heap_alloc_new w _
  obtain ⟨y0, hy0⟩ : ∃ y, w.alloc (.cells #[.int .i64 ek, .int .i64 ef, .int .i64 en, .slice ta n tc] 24) = y := ⟨_, rfl⟩
  rw [hy0] at hal hx0
  have HM0 : Hid (Mild P w y0) := Mild.of hal
  have HS := hide (hs.on (unhide HM0))
  have hn : n ≤ 9223372036854775807 := by obtain ⟨_, _, _, _, h, _⟩ := hs; exact h
  have HX := hide hx0
  have HX3 : Hid (∀ x, Mild P y0 x → x.cell? ⟨w.heap.size, 3, none⟩ = some (.slice ta n tc)) := fun x m => m.slice hx0 (cell_of_heap hx0)
  have k0 : y0.cell? ⟨w.heap.size, 3, none⟩ = some (.slice ta n tc) := cell_of_heap hx0
  clear hal hx0 hs
  go_enter Tryz.func19, Tryz.ntmps19
  go_wp2_with (rw [hy0])
  go_loopw [11] (fun c wr => ∃ t : Nat, t ≤ n ∧ c = .int .i64 t ∧ Mild P y0 wr) (fun c _ => n - (intOf c).toNat)
  case atStart => exact ⟨0, by omega, rfl, Mild.refl _ _⟩
  case round =>
    obtain ⟨t, ht, rfl, m0⟩ := hrel
    by_cases hlt : t < n
    case neg =>
      have HF := hide ((unhide HM0).trans m0)
      have hnl : ¬ (t : Int) < (n : Int) := by omega
      clear m0
      go_wp2
      go_end0
      exact ⟨rfl, unhide HF⟩
    have k3 := unhide HX3 wr m0
    obtain ⟨ao, cap, hv, _, _, hsf⟩ := (unhide HS).on m0
    simp only [Value.slice.injEq, true_and] at hv
    obtain ⟨rfl, rfl⟩ := hv
    obtain ⟨g, cur, T, rfl, hP, hg, hst⟩ := hsf (by omega)
    obtain ⟨cv, av, rv, wv, n1, n2, n3, n4, ⟨x0, q0⟩, ⟨x1, q1⟩, q2, q3, q4, q5, s1, s2, s3, s4⟩ := hst t hlt
    have S1 := hide s1
    have S2 := hide s2
    have S3 := hide s3
    have S4 := hide s4
    obtain ⟨a1, c1, rfl, _, hn1, _⟩ := s1
    obtain ⟨a2, c2, rfl, _, hn2, _⟩ := s2
    obtain ⟨a3, c3, rfl, _, hn3, _⟩ := s3
    obtain ⟨a4, c4, rfl, _, hn4, _⟩ := s4
    have z0 : wr.cell? ⟨g, 0 + t * 6, none⟩ = some (.int .i64 x0) := by rw [Nat.zero_add]; exact q0
    have z1 : wr.cell? ⟨g, 0 + t * 6 + 1, none⟩ = some (.int .i64 x1) := by rw [Nat.zero_add]; exact q1
    have z2 : wr.cell? ⟨g, 0 + t * 6 + 2, none⟩ = some (.slice a1 n1 c1) := by rw [Nat.zero_add]; exact q2
    have z3 : wr.cell? ⟨g, 0 + t * 6 + 3, none⟩ = some (.slice a2 n2 c2) := by rw [Nat.zero_add]; exact q3
    have z4 : wr.cell? ⟨g, 0 + t * 6 + 4, none⟩ = some (.slice a3 n3 c3) := by rw [Nat.zero_add]; exact q4
    have z5 : wr.cell? ⟨g, 0 + t * 6 + 5, none⟩ = some (.slice a4 n4 c4) := by rw [Nat.zero_add]; exact q5
    have hal : Below wr.heap.size wr (wr.alloc (.cells #[.int .i64 0, .int .i64 0, .slice none 0 0, .slice none 0 0, .slice none 0 0, .slice none 0 0] 70)) := (Below.refl _ _).alloc (Nat.le_refl _) _
    have hxa : (wr.alloc (.cells #[.int .i64 0, .int .i64 0, .slice none 0 0, .slice none 0 0, .slice none 0 0, .slice none 0 0] 70)).heap[wr.heap.size]? = some (.cells #[.int .i64 0, .int .i64 0, .slice none 0 0, .slice none 0 0, .slice none 0 0, .slice none 0 0] 70) := heap_alloc_new wr _
    obtain ⟨za, hza⟩ : ∃ y, wr.alloc (.cells #[.int .i64 0, .int .i64 0, .slice none 0 0, .slice none 0 0, .slice none 0 0, .slice none 0 0] 70) = y := ⟨_, rfl⟩
    rw [hza] at hal hxa
    have hbb := below_setRow hal (cs := #[.int .i64 x0, .int .i64 x1, .slice a1 n1 c1, .slice a2 n2 c2, .slice a3 n3 c3, .slice a4 n4 c4]) (g := wr.heap.size) (Nat.le_refl _)
    have hxb := setRow_heap za wr.heap.size _ #[.int .i64 x0, .int .i64 x1, .slice a1 n1 c1, .slice a2 n2 c2, .slice a3 n3 c3, .slice a4 n4 c4] 70 (0, 0) hxa
    obtain ⟨Y, hY⟩ : ∃ n, wr.heap.size = n := ⟨_, rfl⟩
    rw [hY] at hxa hxb
    have m1 : Mild P wr (za.setRow wr.heap.size #[.int .i64 x0, .int .i64 x1, .slice a1 n1 c1, .slice a2 n2 c2, .slice a3 n3 c3, .slice a4 n4 c4]) := Mild.of hbb
    rw [hY] at m1
    obtain ⟨wb, hwb⟩ : ∃ y, za.setRow Y #[.int .i64 x0, .int .i64 x1, .slice a1 n1 c1, .slice a2 n2 c2, .slice a3 n3 c3, .slice a4 n4 c4] = y := ⟨_, rfl⟩
    rw [hwb] at hxb m1
    have HXA := hide hxa
    have HYB := hide hxb
    have HMB := hide (m0.trans m1)
    have HMR := hide m1
    have HG := hide hg
    have HY2 : Hid (∀ x, Mild P wb x → x.cell? ⟨Y, 2, none⟩ = some (.slice a1 n1 c1) ∧ x.cell? ⟨Y, 3, none⟩ = some (.slice a2 n2 c2) ∧ x.cell? ⟨Y, 4, none⟩ = some (.slice a3 n3 c3) ∧ x.cell? ⟨Y, 5, none⟩ = some (.slice a4 n4 c4)) := fun x m => ⟨m.slice hxb (cell_of_heap hxb), m.slice hxb (cell_of_heap hxb), m.slice hxb (cell_of_heap hxb), m.slice hxb (cell_of_heap hxb)⟩
    have HW1 : Hid (∀ x j, Mild P wb x → j < n1 → ∃ g1 a, a1 = some ⟨g1, 0, none⟩ ∧ x.cell? ⟨g1, j, none⟩ = some (.int .u8 a) ∧ x.frozen? ⟨g1, j, none⟩ = false ∧ ∀ y, Mild P wb (x.setCell ⟨g1, j, none⟩ (.int .u8 y))) := fun x j m hj => by
      obtain ⟨ao, cp, e, _, _, h⟩ := ((unhide S1).on (unhide HMR)).on m
      simp only [Value.slice.injEq, true_and] at e
      obtain ⟨rfl, rfl⟩ := e
      obtain ⟨g1, cu, T1, rfl, hP1, hg1, hc1⟩ := h (by omega)
      obtain ⟨a, ha⟩ := hc1 j hj
      rw [show j * 1 + 0 = j by omega] at ha
      exact ⟨g1, a, rfl, ha, frozen_of_heap hg1, fun y => m.trans (Mild.set hP1 ha y)⟩
    have HW2 : Hid (∀ x j, Mild P wb x → j < n2 → ∃ g1 a, a2 = some ⟨g1, 0, none⟩ ∧ x.cell? ⟨g1, j, none⟩ = some (.int .i64 a) ∧ x.frozen? ⟨g1, j, none⟩ = false ∧ ∀ y, Mild P wb (x.setCell ⟨g1, j, none⟩ (.int .i64 y))) := fun x j m hj => by
      obtain ⟨ao, cp, e, _, _, h⟩ := ((unhide S2).on (unhide HMR)).on m
      simp only [Value.slice.injEq, true_and] at e
      obtain ⟨rfl, rfl⟩ := e
      obtain ⟨g1, cu, T1, rfl, hP1, hg1, hc1⟩ := h (by omega)
      obtain ⟨a, ha⟩ := hc1 j hj
      rw [show j * 1 + 0 = j by omega] at ha
      exact ⟨g1, a, rfl, ha, frozen_of_heap hg1, fun y => m.trans (Mild.set hP1 ha y)⟩
    have HW3 : Hid (∀ x j, Mild P wb x → j < n3 → ∃ g1 a, a3 = some ⟨g1, 0, none⟩ ∧ x.cell? ⟨g1, j * 2 + 1, none⟩ = some (.int .i64 a) ∧ x.frozen? ⟨g1, j * 2 + 1, none⟩ = false ∧ ∀ y, Mild P wb (x.setCell ⟨g1, j * 2 + 1, none⟩ (.int .i64 y))) := fun x j m hj => by
      obtain ⟨ao, cp, e, _, _, h⟩ := ((unhide S3).on (unhide HMR)).on m
      simp only [Value.slice.injEq, true_and] at e
      obtain ⟨rfl, rfl⟩ := e
      obtain ⟨g1, cu, T1, rfl, hP1, hg1, hc1⟩ := h (by omega)
      obtain ⟨a, ha⟩ := hc1 j hj
      exact ⟨g1, a, rfl, ha, frozen_of_heap hg1, fun y => m.trans (Mild.set hP1 ha y)⟩
    have HW4 : Hid (∀ x j, Mild P wb x → j < n4 → ∃ g1 a, a4 = some ⟨g1, 0, none⟩ ∧ x.cell? ⟨g1, j * 2 + 1, none⟩ = some (.int .i64 a) ∧ x.frozen? ⟨g1, j * 2 + 1, none⟩ = false ∧ ∀ y, Mild P wb (x.setCell ⟨g1, j * 2 + 1, none⟩ (.int .i64 y))) := fun x j m hj => by
      obtain ⟨ao, cp, e, _, _, h⟩ := ((unhide S4).on (unhide HMR)).on m
      simp only [Value.slice.injEq, true_and] at e
      obtain ⟨rfl, rfl⟩ := e
      obtain ⟨g1, cu, T1, rfl, hP1, hg1, hc1⟩ := h (by omega)
      obtain ⟨a, ha⟩ := hc1 j hj
      exact ⟨g1, a, rfl, ha, frozen_of_heap hg1, fun y => m.trans (Mild.set hP1 ha y)⟩
    have HEND : Hid (∀ x, Mild P wb x → x.cell? ⟨w.heap.size, 3, none⟩ = some (.slice (some ⟨g, 0, none⟩) n tc) ∧ (∃ a, x.cell? ⟨g, t * 6, none⟩ = some (.int .i64 a)) ∧ x.frozen? ⟨g, t * 6, none⟩ = false ∧ ∀ y, Mild P y0 (x.setCell ⟨g, t * 6, none⟩ (.int .i64 y))) := fun x m => by
      have mm := (unhide HMR).trans m
      obtain ⟨a, ha⟩ := mm.int (unhide HG) ⟨x0, q0⟩
      exact ⟨unhide HX3 x ((unhide HMB).trans m), ⟨a, ha⟩, mm.frozen (unhide HG) _, fun y => ((unhide HMB).trans m).trans (Mild.set hP ha y)⟩
    have kb := (unhide HY2 wb (Mild.refl _ _)).1
    clear hst hsf hal hxa hbb hxb m1 m0 hg HS
    go_wp2_with (first | rw [hza] | rw [hwb] | rw [hY] | refine wpList_store_row rfl 70 _ _ rfl Y _ _ rfl rfl 70 (unhide HXA) (by kernel_rfl) rfl (by first | kernel_rfl | simp [Value.oneCell']) ?_)
    go_loopw [22] (fun c wr => ∃ j : Nat, j ≤ n1 ∧ c = .int .i64 j ∧ Mild P wb wr) (fun c _ => n1 - (intOf c).toNat)
    case atStart => exact ⟨0, by omega, rfl, Mild.refl _ _⟩
    case round =>
      obtain ⟨j, hj, rfl, m1⟩ := hrel
      have kc := (unhide HY2 _ m1).1
      by_cases hjl : j < n1
      case pos =>
        obtain ⟨g1, a, e1, hc1, hf1, hm1⟩ := unhide HW1 _ j m1 hjl
        subst e1
        have hc2 : wr.cell? ⟨g1, 0 + j, none⟩ = some (.int .u8 a) := by simpa using hc1
        have hf2 : wr.frozen? ⟨g1, 0 + j, none⟩ = false := by simpa using hf1
        have HM := hide hm1
        clear hm1 m1
        go_wp2
        go_roundw
        case rel => exact ⟨j + 1, by omega, by go_num, by simpa using unhide HM _⟩
        case measure => simp [intOf]; omega
      have hjn : ¬ (j : Int) < (n1 : Int) := by omega
      have kn := (unhide HY2 _ m1).2.1
      go_wp2
      go_loopw [36] (fun c wr => ∃ j : Nat, j ≤ n2 ∧ c = .int .i64 j ∧ Mild P wb wr) (fun c _ => n2 - (intOf c).toNat)
      case atStart => exact ⟨0, by omega, rfl, m1⟩
      case round =>
        obtain ⟨j, hj, rfl, m2⟩ := hrel
        have kc := (unhide HY2 _ m2).2.1
        by_cases hjl : j < n2
        case pos =>
          obtain ⟨g1, a, e1, hc1, hf1, hm1⟩ := unhide HW2 _ j m2 hjl
          subst e1
          have hc2 : wr.cell? ⟨g1, 0 + j, none⟩ = some (.int .i64 a) := by simpa using hc1
          have hf2 : wr.frozen? ⟨g1, 0 + j, none⟩ = false := by simpa using hf1
          have HM := hide hm1
          clear hm1 m2
          go_wp2
          go_roundw
          case rel => exact ⟨j + 1, by omega, by go_num, by simpa using unhide HM _⟩
          case measure => simp [intOf]; omega
        have hjn : ¬ (j : Int) < (n2 : Int) := by omega
        have kn := (unhide HY2 _ m2).2.2.1
        go_wp2
        go_loopw [47] (fun c wr => ∃ j : Nat, j ≤ n3 ∧ c = .int .i64 j ∧ Mild P wb wr) (fun c _ => n3 - (intOf c).toNat)
        case atStart => exact ⟨0, by omega, rfl, m2⟩
        case round =>
          obtain ⟨j, hj, rfl, m3⟩ := hrel
          have kc := (unhide HY2 _ m3).2.2.1
          by_cases hjl : j < n3
          case pos =>
            obtain ⟨g1, a, e1, hc1, hf1, hm1⟩ := unhide HW3 _ j m3 hjl
            subst e1
            have hc2 : wr.cell? ⟨g1, 0 + j * 2 + 1, none⟩ = some (.int .i64 a) := by simpa using hc1
            have hf2 : wr.frozen? ⟨g1, 0 + j * 2 + 1, none⟩ = false := by simpa using hf1
            have HM := hide hm1
            clear hm1 m3
            go_wp2
            go_roundw
            case rel => exact ⟨j + 1, by omega, by go_num, by simpa using unhide HM _⟩
            case measure => simp [intOf]; omega
          have hjn : ¬ (j : Int) < (n3 : Int) := by omega
          have kn := (unhide HY2 _ m3).2.2.2
          go_wp2
          go_loopw [59] (fun c wr => ∃ j : Nat, j ≤ n4 ∧ c = .int .i64 j ∧ Mild P wb wr) (fun c _ => n4 - (intOf c).toNat)
          case atStart => exact ⟨0, by omega, rfl, m3⟩
          case round =>
            obtain ⟨j, hj, rfl, m4⟩ := hrel
            have kc := (unhide HY2 _ m4).2.2.2
            by_cases hjl : j < n4
            case pos =>
              obtain ⟨g1, a, e1, hc1, hf1, hm1⟩ := unhide HW4 _ j m4 hjl
              subst e1
              have hc2 : wr.cell? ⟨g1, 0 + j * 2 + 1, none⟩ = some (.int .i64 a) := by simpa using hc1
              have hf2 : wr.frozen? ⟨g1, 0 + j * 2 + 1, none⟩ = false := by simpa using hf1
              have HM := hide hm1
              clear hm1 m4
              go_wp2
              go_roundw
              case rel => exact ⟨j + 1, by omega, by go_num, by simpa using unhide HM _⟩
              case measure => simp [intOf]; omega
            have hjn : ¬ (j : Int) < (n4 : Int) := by omega
            obtain ⟨ke, ⟨a, hc1⟩, hf1, hm1⟩ := unhide HEND _ m4
            have hc2 : wr.cell? ⟨g, 0 + t * 6, none⟩ = some (.int .i64 a) := by simpa using hc1
            have hf2 : wr.frozen? ⟨g, 0 + t * 6, none⟩ = false := by simpa using hf1
            have HM := hide hm1
            clear hm1 m4
            go_wp2
            go_roundw
            case rel => exact ⟨t + 1, by omega, by go_num, by simpa using unhide HM _⟩
            case measure => simp [intOf]; omega
end Go.Proofs.YtggllgimlfchhabGreat
