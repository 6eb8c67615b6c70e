/- Several texts as one. -/
import Derived.Test.YtoddemcmmijoaaaKB
import Derived.Test.YtoddemcmmijoaaaKZ28
import Derived.Laws.Tables

/- Record: a message without a field. -/
namespace Go.Proofs.Ytoddemcmmijoaaa
open Go.RowKit
set_option maxRecDepth 100000

/-- A whole variable stored. -/
theorem wpList_store_row {P : Program} {ops : Array Oper} {rest : List Oper} {op : Oper} {a : Act} {w : World} {Q : Exit → Act → World → Prop} (hgd : op.guard = none) (ty : TypeId) (x y : Operand) (ho : op.op = .store ty x y)
    (g : Nat) (old cells : Array Value) (hx : a.eval x = .pointer (some ⟨g, 0, none⟩)) (hy : a.eval y = .agg cells) (t : TypeId) (hg : w.heap[g]? = some (.cells old t (0, 0)))
    (hi : (P.info? ty).map (·.size) = some cells.size) (hs : old.size = cells.size) (h1 : cells.all (·.oneCell') = true)
    (h : wpList P ops Q rest (a.put op.dst undef) (w.setRow g cells)) : wpList P ops Q (op :: rest) a w :=
  wpList_plain hgd fun _ hK => by
    unfold Oper.wp execOp
    simp only [ho, hx, hy, Instr.storeAt, Instr.sureAddr, Sem.run_bind, Sem.run_pure, Result.andThen_ok, run_storeVar_row w g t ty old cells hg hi hs h1]
    exact hK _ _ h
theorem below_setRow {b g : Nat} {w w' : World} {cs : Array Value} (h : Below b w w') (hg : b ≤ g) : Below b w (w'.setRow g cs) :=
  ⟨h.os, h.tape, h.output, by rw [setRow_size]; exact h.size, fun k hk => (setRow_other _ _ _ _ (by omega)).trans (h.block k hk)⟩
/-- A message with a field zero. -/
def wout (f : Int) (m : MsgD) : MsgD :=
  if f = 0 then { m with term := 0 } else if f = 1 then { m with slot := 0 } else if f = 2 then { m with last := 0 } else if f = 3 then { m with commit := 0 } else if f = 4 then { m with yes := false } else if f = 5 then { m with list := [] } else if f = 6 then { m with ent := dE } else if f = 7 then { m with part := dP } else m

set_option maxHeartbeats 800000 in
theorem without0_any (cs : Array Value) (m : MsgD) (w : World) (hM : SeesM w cs m) :
    Calls Try.prog 39 #[.agg cs, .int .i64 0] w fun e w' => ∃ cs', e = .returned (.agg cs') ∧ (∀ w0, SeesM w0 cs m → SeesM w0 cs' { m with term := 0 }) ∧ Below w.heap.size w w' := by
  obtain ⟨aK, aF, aO, aT, aS, aL, aC, aY, ml, ⟨ek, ef, en, mt⟩, ⟨ps, pi, pm, md⟩⟩ := m
  obtain ⟨_, _, _, rfl, k1, k2, k3⟩ := hM
  simp only at k1 k2 k3 ⊢
  obtain ⟨la, lc, _, _, rfl, _⟩ := k1
  obtain ⟨ta, tc, _, _, rfl, _⟩ := k2
  obtain ⟨da, dc, rfl, _⟩ := k3
  obtain ⟨ll, hll⟩ : ∃ n, ml.length = n := ⟨_, rfl⟩
  obtain ⟨tl, htl⟩ : ∃ n, mt.length = n := ⟨_, rfl⟩
  obtain ⟨dl, hdl⟩ : ∃ n, md.length = n := ⟨_, rfl⟩
  rw [hll, htl, hdl]
  clear hll htl hdl
  have hal : Below w.heap.size w ((w.alloc (.cells #[.int .i64 aK, .int .i64 aF, .int .i64 aO, .int .i64 aT, .int .i64 aS, .int .i64 aL, .int .i64 aC, .bool aY, .slice la ll lc, .int .i64 ek, .int .i64 ef, .int .i64 en, .slice ta tl tc, .int .i64 ps, .int .i64 pi, .int .i64 pm, .slice da dl dc] 38)).alloc (.cells #[.int .i64 0, .int .i64 0, .int .i64 0, .int .i64 0, .int .i64 0, .int .i64 0, .int .i64 0, .bool false, .slice none 0 0, .int .i64 0, .int .i64 0, .int .i64 0, .slice none 0 0, .int .i64 0, .int .i64 0, .int .i64 0, .slice none 0 0] 38)) := ((Below.refl _ _).alloc (Nat.le_refl _) _).alloc (by simp) _
  have e0 : (w.alloc (.cells #[.int .i64 aK, .int .i64 aF, .int .i64 aO, .int .i64 aT, .int .i64 aS, .int .i64 aL, .int .i64 aC, .bool aY, .slice la ll lc, .int .i64 ek, .int .i64 ef, .int .i64 en, .slice ta tl tc, .int .i64 ps, .int .i64 pi, .int .i64 pm, .slice da dl dc] 38)).heap.size = w.heap.size + 1 := by simp
  have hx0 : ((w.alloc (.cells #[.int .i64 aK, .int .i64 aF, .int .i64 aO, .int .i64 aT, .int .i64 aS, .int .i64 aL, .int .i64 aC, .bool aY, .slice la ll lc, .int .i64 ek, .int .i64 ef, .int .i64 en, .slice ta tl tc, .int .i64 ps, .int .i64 pi, .int .i64 pm, .slice da dl dc] 38)).alloc (.cells #[.int .i64 0, .int .i64 0, .int .i64 0, .int .i64 0, .int .i64 0, .int .i64 0, .int .i64 0, .bool false, .slice none 0 0, .int .i64 0, .int .i64 0, .int .i64 0, .slice none 0 0, .int .i64 0, .int .i64 0, .int .i64 0, .slice none 0 0] 38)).heap[w.heap.size]? = some (.cells #[.int .i64 aK, .int .i64 aF, .int .i64 aO, .int .i64 aT, .int .i64 aS, .int .i64 aL, .int .i64 aC, .bool aY, .slice la ll lc, .int .i64 ek, .int .i64 ef, .int .i64 en, .slice ta tl tc, .int .i64 ps, .int .i64 pi, .int .i64 pm, .slice da dl dc] 38) := (Below.heap_alloc _ _ _ (by simp)).trans (heap_alloc_new w _)
  have hz0 : ((w.alloc (.cells #[.int .i64 aK, .int .i64 aF, .int .i64 aO, .int .i64 aT, .int .i64 aS, .int .i64 aL, .int .i64 aC, .bool aY, .slice la ll lc, .int .i64 ek, .int .i64 ef, .int .i64 en, .slice ta tl tc, .int .i64 ps, .int .i64 pi, .int .i64 pm, .slice da dl dc] 38)).alloc (.cells #[.int .i64 0, .int .i64 0, .int .i64 0, .int .i64 0, .int .i64 0, .int .i64 0, .int .i64 0, .bool false, .slice none 0 0, .int .i64 0, .int .i64 0, .int .i64 0, .slice none 0 0, .int .i64 0, .int .i64 0, .int .i64 0, .slice none 0 0] 38)).heap[w.heap.size + 1]? = some (.cells #[.int .i64 0, .int .i64 0, .int .i64 0, .int .i64 0, .int .i64 0, .int .i64 0, .int .i64 0, .bool false, .slice none 0 0, .int .i64 0, .int .i64 0, .int .i64 0, .slice none 0 0, .int .i64 0, .int .i64 0, .int .i64 0, .slice none 0 0] 38) := by have := heap_alloc_new (w.alloc (.cells #[.int .i64 aK, .int .i64 aF, .int .i64 aO, .int .i64 aT, .int .i64 aS, .int .i64 aL, .int .i64 aC, .bool aY, .slice la ll lc, .int .i64 ek, .int .i64 ef, .int .i64 en, .slice ta tl tc, .int .i64 ps, .int .i64 pi, .int .i64 pm, .slice da dl dc] 38)) (.cells #[.int .i64 0, .int .i64 0, .int .i64 0, .int .i64 0, .int .i64 0, .int .i64 0, .int .i64 0, .bool false, .slice none 0 0, .int .i64 0, .int .i64 0, .int .i64 0, .slice none 0 0, .int .i64 0, .int .i64 0, .int .i64 0, .slice none 0 0] 38); rw [e0] at this; exact this
  obtain ⟨y0, hy0⟩ : ∃ y, ((w.alloc (.cells #[.int .i64 aK, .int .i64 aF, .int .i64 aO, .int .i64 aT, .int .i64 aS, .int .i64 aL, .int .i64 aC, .bool aY, .slice la ll lc, .int .i64 ek, .int .i64 ef, .int .i64 en, .slice ta tl tc, .int .i64 ps, .int .i64 pi, .int .i64 pm, .slice da dl dc] 38)).alloc (.cells #[.int .i64 0, .int .i64 0, .int .i64 0, .int .i64 0, .int .i64 0, .int .i64 0, .int .i64 0, .bool false, .slice none 0 0, .int .i64 0, .int .i64 0, .int .i64 0, .slice none 0 0, .int .i64 0, .int .i64 0, .int .i64 0, .slice none 0 0] 38)) = y := ⟨_, rfl⟩
  rw [hy0] at hal hx0 hz0
  have k0x3 : y0.cell? ⟨w.heap.size, 3, none⟩ = some (.int .i64 aT) := cell_of_heap hx0
  have f0 : ∀ o, y0.frozen? ⟨w.heap.size, o, none⟩ = false := fun o => frozen_of_heap hx0
  have HB1 : Hid (Below w.heap.size w (y0.setCell ⟨w.heap.size, 3, none⟩ (.int .i64 0))) := (hal.setCell (p := ⟨w.heap.size, 3, none⟩) (Nat.le_refl _) _)
  have HX1 : Hid ((y0.setCell ⟨w.heap.size, 3, none⟩ (.int .i64 0)).heap[w.heap.size]? = some (.cells #[.int .i64 aK, .int .i64 aF, .int .i64 aO, .int .i64 0, .int .i64 aS, .int .i64 aL, .int .i64 aC, .bool aY, .slice la ll lc, .int .i64 ek, .int .i64 ef, .int .i64 en, .slice ta tl tc, .int .i64 ps, .int .i64 pi, .int .i64 pm, .slice da dl dc] 38)) := (setCell_heap hx0)
  have HZ1 : Hid ((y0.setCell ⟨w.heap.size, 3, none⟩ (.int .i64 0)).heap[w.heap.size + 1]? = some (.cells #[.int .i64 0, .int .i64 0, .int .i64 0, .int .i64 0, .int .i64 0, .int .i64 0, .int .i64 0, .bool false, .slice none 0 0, .int .i64 0, .int .i64 0, .int .i64 0, .slice none 0 0, .int .i64 0, .int .i64 0, .int .i64 0, .slice none 0 0] 38)) := ((Below.heap_setCell _ _ _ _ (fun e => by simp only at e; omega)).trans hz0)
  clear hal e0 hx0 hz0
  obtain ⟨y1, hy1⟩ : ∃ y, (y0.setCell ⟨w.heap.size, 3, none⟩ (.int .i64 0)) = y := ⟨_, rfl⟩
  rw [hy1] at HX1 HZ1 HB1
  have HB9 : Hid (Below w.heap.size w (y1.setRow (w.heap.size + 1) #[.int .i64 aK, .int .i64 aF, .int .i64 aO, .int .i64 0, .int .i64 aS, .int .i64 aL, .int .i64 aC, .bool aY, .slice la ll lc, .int .i64 ek, .int .i64 ef, .int .i64 en, .slice ta tl tc, .int .i64 ps, .int .i64 pi, .int .i64 pm, .slice da dl dc])) := below_setRow (unhide HB1) (by omega)
  have HZ9 : Hid ((y1.setRow (w.heap.size + 1) #[.int .i64 aK, .int .i64 aF, .int .i64 aO, .int .i64 0, .int .i64 aS, .int .i64 aL, .int .i64 aC, .bool aY, .slice la ll lc, .int .i64 ek, .int .i64 ef, .int .i64 en, .slice ta tl tc, .int .i64 ps, .int .i64 pi, .int .i64 pm, .slice da dl dc]).heap[w.heap.size + 1]? = some (.cells #[.int .i64 aK, .int .i64 aF, .int .i64 aO, .int .i64 0, .int .i64 aS, .int .i64 aL, .int .i64 aC, .bool aY, .slice la ll lc, .int .i64 ek, .int .i64 ef, .int .i64 en, .slice ta tl tc, .int .i64 ps, .int .i64 pi, .int .i64 pm, .slice da dl dc] 38)) := setRow_heap _ _ _ _ _ _ (unhide HZ1)
  obtain ⟨y9, hy9⟩ : ∃ y, (y1.setRow (w.heap.size + 1) #[.int .i64 aK, .int .i64 aF, .int .i64 aO, .int .i64 0, .int .i64 aS, .int .i64 aL, .int .i64 aC, .bool aY, .slice la ll lc, .int .i64 ek, .int .i64 ef, .int .i64 en, .slice ta tl tc, .int .i64 ps, .int .i64 pi, .int .i64 pm, .slice da dl dc]) = y := ⟨_, rfl⟩
  rw [hy9] at HB9 HZ9
  go_enter Try.func39, Try.ntmps39
  go_wp2_with (first | rw [hy1] | rw [hy9] | rw [hy0] | refine wpList_load_row rfl 38 _ rfl w.heap.size rfl 38 _ (0, 0) _ (unhide HX1) Try.underlying38 rfl (by kernel_rfl) ?_ | refine wpList_store_row rfl 38 _ _ rfl (w.heap.size + 1) _ _ rfl rfl 38 (unhide HZ1) (by kernel_rfl) rfl (by first | kernel_rfl | simp [Value.oneCell']) ?_)
  refine bodyPost_ret (results_cell_row rfl _ _ (w.heap.size + 1) 38 #[.int .i64 aK, .int .i64 aF, .int .i64 aO, .int .i64 0, .int .i64 aS, .int .i64 aL, .int .i64 aC, .bool aY, .slice la ll lc, .int .i64 ek, .int .i64 ef, .int .i64 en, .slice ta tl tc, .int .i64 ps, .int .i64 pi, .int .i64 pm, .slice da dl dc] (0, 0) _ rfl (unhide HZ9) Try.underlying38 rfl (by kernel_rfl)) rfl ?_
  refine ⟨_, rfl, fun w0 h => ?_, unhide HB9⟩
  obtain ⟨_, _, _, e, a, b, c⟩ := h
  simp only [Array.mk.injEq, List.cons.injEq, true_and, and_true] at e
  obtain ⟨rfl, rfl, rfl⟩ := e
  exact ⟨_, _, _, rfl, a, b, c⟩
set_option maxHeartbeats 800000 in
theorem without1_any (cs : Array Value) (m : MsgD) (w : World) (hM : SeesM w cs m) :
    Calls Try.prog 39 #[.agg cs, .int .i64 1] w fun e w' => ∃ cs', e = .returned (.agg cs') ∧ (∀ w0, SeesM w0 cs m → SeesM w0 cs' { m with slot := 0 }) ∧ Below w.heap.size w w' := by
  obtain ⟨aK, aF, aO, aT, aS, aL, aC, aY, ml, ⟨ek, ef, en, mt⟩, ⟨ps, pi, pm, md⟩⟩ := m
  obtain ⟨_, _, _, rfl, k1, k2, k3⟩ := hM
  simp only at k1 k2 k3 ⊢
  obtain ⟨la, lc, _, _, rfl, _⟩ := k1
  obtain ⟨ta, tc, _, _, rfl, _⟩ := k2
  obtain ⟨da, dc, rfl, _⟩ := k3
  obtain ⟨ll, hll⟩ : ∃ n, ml.length = n := ⟨_, rfl⟩
  obtain ⟨tl, htl⟩ : ∃ n, mt.length = n := ⟨_, rfl⟩
  obtain ⟨dl, hdl⟩ : ∃ n, md.length = n := ⟨_, rfl⟩
  rw [hll, htl, hdl]
  clear hll htl hdl
  have hal : Below w.heap.size w ((w.alloc (.cells #[.int .i64 aK, .int .i64 aF, .int .i64 aO, .int .i64 aT, .int .i64 aS, .int .i64 aL, .int .i64 aC, .bool aY, .slice la ll lc, .int .i64 ek, .int .i64 ef, .int .i64 en, .slice ta tl tc, .int .i64 ps, .int .i64 pi, .int .i64 pm, .slice da dl dc] 38)).alloc (.cells #[.int .i64 0, .int .i64 0, .int .i64 0, .int .i64 0, .int .i64 0, .int .i64 0, .int .i64 0, .bool false, .slice none 0 0, .int .i64 0, .int .i64 0, .int .i64 0, .slice none 0 0, .int .i64 0, .int .i64 0, .int .i64 0, .slice none 0 0] 38)) := ((Below.refl _ _).alloc (Nat.le_refl _) _).alloc (by simp) _
  have e0 : (w.alloc (.cells #[.int .i64 aK, .int .i64 aF, .int .i64 aO, .int .i64 aT, .int .i64 aS, .int .i64 aL, .int .i64 aC, .bool aY, .slice la ll lc, .int .i64 ek, .int .i64 ef, .int .i64 en, .slice ta tl tc, .int .i64 ps, .int .i64 pi, .int .i64 pm, .slice da dl dc] 38)).heap.size = w.heap.size + 1 := by simp
  have hx0 : ((w.alloc (.cells #[.int .i64 aK, .int .i64 aF, .int .i64 aO, .int .i64 aT, .int .i64 aS, .int .i64 aL, .int .i64 aC, .bool aY, .slice la ll lc, .int .i64 ek, .int .i64 ef, .int .i64 en, .slice ta tl tc, .int .i64 ps, .int .i64 pi, .int .i64 pm, .slice da dl dc] 38)).alloc (.cells #[.int .i64 0, .int .i64 0, .int .i64 0, .int .i64 0, .int .i64 0, .int .i64 0, .int .i64 0, .bool false, .slice none 0 0, .int .i64 0, .int .i64 0, .int .i64 0, .slice none 0 0, .int .i64 0, .int .i64 0, .int .i64 0, .slice none 0 0] 38)).heap[w.heap.size]? = some (.cells #[.int .i64 aK, .int .i64 aF, .int .i64 aO, .int .i64 aT, .int .i64 aS, .int .i64 aL, .int .i64 aC, .bool aY, .slice la ll lc, .int .i64 ek, .int .i64 ef, .int .i64 en, .slice ta tl tc, .int .i64 ps, .int .i64 pi, .int .i64 pm, .slice da dl dc] 38) := (Below.heap_alloc _ _ _ (by simp)).trans (heap_alloc_new w _)
  have hz0 : ((w.alloc (.cells #[.int .i64 aK, .int .i64 aF, .int .i64 aO, .int .i64 aT, .int .i64 aS, .int .i64 aL, .int .i64 aC, .bool aY, .slice la ll lc, .int .i64 ek, .int .i64 ef, .int .i64 en, .slice ta tl tc, .int .i64 ps, .int .i64 pi, .int .i64 pm, .slice da dl dc] 38)).alloc (.cells #[.int .i64 0, .int .i64 0, .int .i64 0, .int .i64 0, .int .i64 0, .int .i64 0, .int .i64 0, .bool false, .slice none 0 0, .int .i64 0, .int .i64 0, .int .i64 0, .slice none 0 0, .int .i64 0, .int .i64 0, .int .i64 0, .slice none 0 0] 38)).heap[w.heap.size + 1]? = some (.cells #[.int .i64 0, .int .i64 0, .int .i64 0, .int .i64 0, .int .i64 0, .int .i64 0, .int .i64 0, .bool false, .slice none 0 0, .int .i64 0, .int .i64 0, .int .i64 0, .slice none 0 0, .int .i64 0, .int .i64 0, .int .i64 0, .slice none 0 0] 38) := by have := heap_alloc_new (w.alloc (.cells #[.int .i64 aK, .int .i64 aF, .int .i64 aO, .int .i64 aT, .int .i64 aS, .int .i64 aL, .int .i64 aC, .bool aY, .slice la ll lc, .int .i64 ek, .int .i64 ef, .int .i64 en, .slice ta tl tc, .int .i64 ps, .int .i64 pi, .int .i64 pm, .slice da dl dc] 38)) (.cells #[.int .i64 0, .int .i64 0, .int .i64 0, .int .i64 0, .int .i64 0, .int .i64 0, .int .i64 0, .bool false, .slice none 0 0, .int .i64 0, .int .i64 0, .int .i64 0, .slice none 0 0, .int .i64 0, .int .i64 0, .int .i64 0, .slice none 0 0] 38); rw [e0] at this; exact this
  obtain ⟨y0, hy0⟩ : ∃ y, ((w.alloc (.cells #[.int .i64 aK, .int .i64 aF, .int .i64 aO, .int .i64 aT, .int .i64 aS, .int .i64 aL, .int .i64 aC, .bool aY, .slice la ll lc, .int .i64 ek, .int .i64 ef, .int .i64 en, .slice ta tl tc, .int .i64 ps, .int .i64 pi, .int .i64 pm, .slice da dl dc] 38)).alloc (.cells #[.int .i64 0, .int .i64 0, .int .i64 0, .int .i64 0, .int .i64 0, .int .i64 0, .int .i64 0, .bool false, .slice none 0 0, .int .i64 0, .int .i64 0, .int .i64 0, .slice none 0 0, .int .i64 0, .int .i64 0, .int .i64 0, .slice none 0 0] 38)) = y := ⟨_, rfl⟩
  rw [hy0] at hal hx0 hz0
  have k0x4 : y0.cell? ⟨w.heap.size, 4, none⟩ = some (.int .i64 aS) := cell_of_heap hx0
  have f0 : ∀ o, y0.frozen? ⟨w.heap.size, o, none⟩ = false := fun o => frozen_of_heap hx0
  have HB1 : Hid (Below w.heap.size w (y0.setCell ⟨w.heap.size, 4, none⟩ (.int .i64 0))) := (hal.setCell (p := ⟨w.heap.size, 4, none⟩) (Nat.le_refl _) _)
  have HX1 : Hid ((y0.setCell ⟨w.heap.size, 4, none⟩ (.int .i64 0)).heap[w.heap.size]? = some (.cells #[.int .i64 aK, .int .i64 aF, .int .i64 aO, .int .i64 aT, .int .i64 0, .int .i64 aL, .int .i64 aC, .bool aY, .slice la ll lc, .int .i64 ek, .int .i64 ef, .int .i64 en, .slice ta tl tc, .int .i64 ps, .int .i64 pi, .int .i64 pm, .slice da dl dc] 38)) := (setCell_heap hx0)
  have HZ1 : Hid ((y0.setCell ⟨w.heap.size, 4, none⟩ (.int .i64 0)).heap[w.heap.size + 1]? = some (.cells #[.int .i64 0, .int .i64 0, .int .i64 0, .int .i64 0, .int .i64 0, .int .i64 0, .int .i64 0, .bool false, .slice none 0 0, .int .i64 0, .int .i64 0, .int .i64 0, .slice none 0 0, .int .i64 0, .int .i64 0, .int .i64 0, .slice none 0 0] 38)) := ((Below.heap_setCell _ _ _ _ (fun e => by simp only at e; omega)).trans hz0)
  clear hal e0 hx0 hz0
  obtain ⟨y1, hy1⟩ : ∃ y, (y0.setCell ⟨w.heap.size, 4, none⟩ (.int .i64 0)) = y := ⟨_, rfl⟩
  rw [hy1] at HX1 HZ1 HB1
  have HB9 : Hid (Below w.heap.size w (y1.setRow (w.heap.size + 1) #[.int .i64 aK, .int .i64 aF, .int .i64 aO, .int .i64 aT, .int .i64 0, .int .i64 aL, .int .i64 aC, .bool aY, .slice la ll lc, .int .i64 ek, .int .i64 ef, .int .i64 en, .slice ta tl tc, .int .i64 ps, .int .i64 pi, .int .i64 pm, .slice da dl dc])) := below_setRow (unhide HB1) (by omega)
  have HZ9 : Hid ((y1.setRow (w.heap.size + 1) #[.int .i64 aK, .int .i64 aF, .int .i64 aO, .int .i64 aT, .int .i64 0, .int .i64 aL, .int .i64 aC, .bool aY, .slice la ll lc, .int .i64 ek, .int .i64 ef, .int .i64 en, .slice ta tl tc, .int .i64 ps, .int .i64 pi, .int .i64 pm, .slice da dl dc]).heap[w.heap.size + 1]? = some (.cells #[.int .i64 aK, .int .i64 aF, .int .i64 aO, .int .i64 aT, .int .i64 0, .int .i64 aL, .int .i64 aC, .bool aY, .slice la ll lc, .int .i64 ek, .int .i64 ef, .int .i64 en, .slice ta tl tc, .int .i64 ps, .int .i64 pi, .int .i64 pm, .slice da dl dc] 38)) := setRow_heap _ _ _ _ _ _ (unhide HZ1)
  obtain ⟨y9, hy9⟩ : ∃ y, (y1.setRow (w.heap.size + 1) #[.int .i64 aK, .int .i64 aF, .int .i64 aO, .int .i64 aT, .int .i64 0, .int .i64 aL, .int .i64 aC, .bool aY, .slice la ll lc, .int .i64 ek, .int .i64 ef, .int .i64 en, .slice ta tl tc, .int .i64 ps, .int .i64 pi, .int .i64 pm, .slice da dl dc]) = y := ⟨_, rfl⟩
  rw [hy9] at HB9 HZ9
  go_enter Try.func39, Try.ntmps39
  go_wp2_with (first | rw [hy1] | rw [hy9] | rw [hy0] | refine wpList_load_row rfl 38 _ rfl w.heap.size rfl 38 _ (0, 0) _ (unhide HX1) Try.underlying38 rfl (by kernel_rfl) ?_ | refine wpList_store_row rfl 38 _ _ rfl (w.heap.size + 1) _ _ rfl rfl 38 (unhide HZ1) (by kernel_rfl) rfl (by first | kernel_rfl | simp [Value.oneCell']) ?_)
  refine bodyPost_ret (results_cell_row rfl _ _ (w.heap.size + 1) 38 #[.int .i64 aK, .int .i64 aF, .int .i64 aO, .int .i64 aT, .int .i64 0, .int .i64 aL, .int .i64 aC, .bool aY, .slice la ll lc, .int .i64 ek, .int .i64 ef, .int .i64 en, .slice ta tl tc, .int .i64 ps, .int .i64 pi, .int .i64 pm, .slice da dl dc] (0, 0) _ rfl (unhide HZ9) Try.underlying38 rfl (by kernel_rfl)) rfl ?_
  refine ⟨_, rfl, fun w0 h => ?_, unhide HB9⟩
  obtain ⟨_, _, _, e, a, b, c⟩ := h
  simp only [Array.mk.injEq, List.cons.injEq, true_and, and_true] at e
  obtain ⟨rfl, rfl, rfl⟩ := e
  exact ⟨_, _, _, rfl, a, b, c⟩
set_option maxHeartbeats 800000 in
theorem without2_any (cs : Array Value) (m : MsgD) (w : World) (hM : SeesM w cs m) :
    Calls Try.prog 39 #[.agg cs, .int .i64 2] w fun e w' => ∃ cs', e = .returned (.agg cs') ∧ (∀ w0, SeesM w0 cs m → SeesM w0 cs' { m with last := 0 }) ∧ Below w.heap.size w w' := by
  obtain ⟨aK, aF, aO, aT, aS, aL, aC, aY, ml, ⟨ek, ef, en, mt⟩, ⟨ps, pi, pm, md⟩⟩ := m
  obtain ⟨_, _, _, rfl, k1, k2, k3⟩ := hM
  simp only at k1 k2 k3 ⊢
  obtain ⟨la, lc, _, _, rfl, _⟩ := k1
  obtain ⟨ta, tc, _, _, rfl, _⟩ := k2
  obtain ⟨da, dc, rfl, _⟩ := k3
  obtain ⟨ll, hll⟩ : ∃ n, ml.length = n := ⟨_, rfl⟩
  obtain ⟨tl, htl⟩ : ∃ n, mt.length = n := ⟨_, rfl⟩
  obtain ⟨dl, hdl⟩ : ∃ n, md.length = n := ⟨_, rfl⟩
  rw [hll, htl, hdl]
  clear hll htl hdl
  have hal : Below w.heap.size w ((w.alloc (.cells #[.int .i64 aK, .int .i64 aF, .int .i64 aO, .int .i64 aT, .int .i64 aS, .int .i64 aL, .int .i64 aC, .bool aY, .slice la ll lc, .int .i64 ek, .int .i64 ef, .int .i64 en, .slice ta tl tc, .int .i64 ps, .int .i64 pi, .int .i64 pm, .slice da dl dc] 38)).alloc (.cells #[.int .i64 0, .int .i64 0, .int .i64 0, .int .i64 0, .int .i64 0, .int .i64 0, .int .i64 0, .bool false, .slice none 0 0, .int .i64 0, .int .i64 0, .int .i64 0, .slice none 0 0, .int .i64 0, .int .i64 0, .int .i64 0, .slice none 0 0] 38)) := ((Below.refl _ _).alloc (Nat.le_refl _) _).alloc (by simp) _
  have e0 : (w.alloc (.cells #[.int .i64 aK, .int .i64 aF, .int .i64 aO, .int .i64 aT, .int .i64 aS, .int .i64 aL, .int .i64 aC, .bool aY, .slice la ll lc, .int .i64 ek, .int .i64 ef, .int .i64 en, .slice ta tl tc, .int .i64 ps, .int .i64 pi, .int .i64 pm, .slice da dl dc] 38)).heap.size = w.heap.size + 1 := by simp
  have hx0 : ((w.alloc (.cells #[.int .i64 aK, .int .i64 aF, .int .i64 aO, .int .i64 aT, .int .i64 aS, .int .i64 aL, .int .i64 aC, .bool aY, .slice la ll lc, .int .i64 ek, .int .i64 ef, .int .i64 en, .slice ta tl tc, .int .i64 ps, .int .i64 pi, .int .i64 pm, .slice da dl dc] 38)).alloc (.cells #[.int .i64 0, .int .i64 0, .int .i64 0, .int .i64 0, .int .i64 0, .int .i64 0, .int .i64 0, .bool false, .slice none 0 0, .int .i64 0, .int .i64 0, .int .i64 0, .slice none 0 0, .int .i64 0, .int .i64 0, .int .i64 0, .slice none 0 0] 38)).heap[w.heap.size]? = some (.cells #[.int .i64 aK, .int .i64 aF, .int .i64 aO, .int .i64 aT, .int .i64 aS, .int .i64 aL, .int .i64 aC, .bool aY, .slice la ll lc, .int .i64 ek, .int .i64 ef, .int .i64 en, .slice ta tl tc, .int .i64 ps, .int .i64 pi, .int .i64 pm, .slice da dl dc] 38) := (Below.heap_alloc _ _ _ (by simp)).trans (heap_alloc_new w _)
  have hz0 : ((w.alloc (.cells #[.int .i64 aK, .int .i64 aF, .int .i64 aO, .int .i64 aT, .int .i64 aS, .int .i64 aL, .int .i64 aC, .bool aY, .slice la ll lc, .int .i64 ek, .int .i64 ef, .int .i64 en, .slice ta tl tc, .int .i64 ps, .int .i64 pi, .int .i64 pm, .slice da dl dc] 38)).alloc (.cells #[.int .i64 0, .int .i64 0, .int .i64 0, .int .i64 0, .int .i64 0, .int .i64 0, .int .i64 0, .bool false, .slice none 0 0, .int .i64 0, .int .i64 0, .int .i64 0, .slice none 0 0, .int .i64 0, .int .i64 0, .int .i64 0, .slice none 0 0] 38)).heap[w.heap.size + 1]? = some (.cells #[.int .i64 0, .int .i64 0, .int .i64 0, .int .i64 0, .int .i64 0, .int .i64 0, .int .i64 0, .bool false, .slice none 0 0, .int .i64 0, .int .i64 0, .int .i64 0, .slice none 0 0, .int .i64 0, .int .i64 0, .int .i64 0, .slice none 0 0] 38) := by have := heap_alloc_new (w.alloc (.cells #[.int .i64 aK, .int .i64 aF, .int .i64 aO, .int .i64 aT, .int .i64 aS, .int .i64 aL, .int .i64 aC, .bool aY, .slice la ll lc, .int .i64 ek, .int .i64 ef, .int .i64 en, .slice ta tl tc, .int .i64 ps, .int .i64 pi, .int .i64 pm, .slice da dl dc] 38)) (.cells #[.int .i64 0, .int .i64 0, .int .i64 0, .int .i64 0, .int .i64 0, .int .i64 0, .int .i64 0, .bool false, .slice none 0 0, .int .i64 0, .int .i64 0, .int .i64 0, .slice none 0 0, .int .i64 0, .int .i64 0, .int .i64 0, .slice none 0 0] 38); rw [e0] at this; exact this
  obtain ⟨y0, hy0⟩ : ∃ y, ((w.alloc (.cells #[.int .i64 aK, .int .i64 aF, .int .i64 aO, .int .i64 aT, .int .i64 aS, .int .i64 aL, .int .i64 aC, .bool aY, .slice la ll lc, .int .i64 ek, .int .i64 ef, .int .i64 en, .slice ta tl tc, .int .i64 ps, .int .i64 pi, .int .i64 pm, .slice da dl dc] 38)).alloc (.cells #[.int .i64 0, .int .i64 0, .int .i64 0, .int .i64 0, .int .i64 0, .int .i64 0, .int .i64 0, .bool false, .slice none 0 0, .int .i64 0, .int .i64 0, .int .i64 0, .slice none 0 0, .int .i64 0, .int .i64 0, .int .i64 0, .slice none 0 0] 38)) = y := ⟨_, rfl⟩
  rw [hy0] at hal hx0 hz0
  have k0x5 : y0.cell? ⟨w.heap.size, 5, none⟩ = some (.int .i64 aL) := cell_of_heap hx0
  have f0 : ∀ o, y0.frozen? ⟨w.heap.size, o, none⟩ = false := fun o => frozen_of_heap hx0
  have HB1 : Hid (Below w.heap.size w (y0.setCell ⟨w.heap.size, 5, none⟩ (.int .i64 0))) := (hal.setCell (p := ⟨w.heap.size, 5, none⟩) (Nat.le_refl _) _)
  have HX1 : Hid ((y0.setCell ⟨w.heap.size, 5, none⟩ (.int .i64 0)).heap[w.heap.size]? = some (.cells #[.int .i64 aK, .int .i64 aF, .int .i64 aO, .int .i64 aT, .int .i64 aS, .int .i64 0, .int .i64 aC, .bool aY, .slice la ll lc, .int .i64 ek, .int .i64 ef, .int .i64 en, .slice ta tl tc, .int .i64 ps, .int .i64 pi, .int .i64 pm, .slice da dl dc] 38)) := (setCell_heap hx0)
  have HZ1 : Hid ((y0.setCell ⟨w.heap.size, 5, none⟩ (.int .i64 0)).heap[w.heap.size + 1]? = some (.cells #[.int .i64 0, .int .i64 0, .int .i64 0, .int .i64 0, .int .i64 0, .int .i64 0, .int .i64 0, .bool false, .slice none 0 0, .int .i64 0, .int .i64 0, .int .i64 0, .slice none 0 0, .int .i64 0, .int .i64 0, .int .i64 0, .slice none 0 0] 38)) := ((Below.heap_setCell _ _ _ _ (fun e => by simp only at e; omega)).trans hz0)
  clear hal e0 hx0 hz0
  obtain ⟨y1, hy1⟩ : ∃ y, (y0.setCell ⟨w.heap.size, 5, none⟩ (.int .i64 0)) = y := ⟨_, rfl⟩
  rw [hy1] at HX1 HZ1 HB1
  have HB9 : Hid (Below w.heap.size w (y1.setRow (w.heap.size + 1) #[.int .i64 aK, .int .i64 aF, .int .i64 aO, .int .i64 aT, .int .i64 aS, .int .i64 0, .int .i64 aC, .bool aY, .slice la ll lc, .int .i64 ek, .int .i64 ef, .int .i64 en, .slice ta tl tc, .int .i64 ps, .int .i64 pi, .int .i64 pm, .slice da dl dc])) := below_setRow (unhide HB1) (by omega)
  have HZ9 : Hid ((y1.setRow (w.heap.size + 1) #[.int .i64 aK, .int .i64 aF, .int .i64 aO, .int .i64 aT, .int .i64 aS, .int .i64 0, .int .i64 aC, .bool aY, .slice la ll lc, .int .i64 ek, .int .i64 ef, .int .i64 en, .slice ta tl tc, .int .i64 ps, .int .i64 pi, .int .i64 pm, .slice da dl dc]).heap[w.heap.size + 1]? = some (.cells #[.int .i64 aK, .int .i64 aF, .int .i64 aO, .int .i64 aT, .int .i64 aS, .int .i64 0, .int .i64 aC, .bool aY, .slice la ll lc, .int .i64 ek, .int .i64 ef, .int .i64 en, .slice ta tl tc, .int .i64 ps, .int .i64 pi, .int .i64 pm, .slice da dl dc] 38)) := setRow_heap _ _ _ _ _ _ (unhide HZ1)
  obtain ⟨y9, hy9⟩ : ∃ y, (y1.setRow (w.heap.size + 1) #[.int .i64 aK, .int .i64 aF, .int .i64 aO, .int .i64 aT, .int .i64 aS, .int .i64 0, .int .i64 aC, .bool aY, .slice la ll lc, .int .i64 ek, .int .i64 ef, .int .i64 en, .slice ta tl tc, .int .i64 ps, .int .i64 pi, .int .i64 pm, .slice da dl dc]) = y := ⟨_, rfl⟩
  rw [hy9] at HB9 HZ9
  go_enter Try.func39, Try.ntmps39
  go_wp2_with (first | rw [hy1] | rw [hy9] | rw [hy0] | refine wpList_load_row rfl 38 _ rfl w.heap.size rfl 38 _ (0, 0) _ (unhide HX1) Try.underlying38 rfl (by kernel_rfl) ?_ | refine wpList_store_row rfl 38 _ _ rfl (w.heap.size + 1) _ _ rfl rfl 38 (unhide HZ1) (by kernel_rfl) rfl (by first | kernel_rfl | simp [Value.oneCell']) ?_)
  refine bodyPost_ret (results_cell_row rfl _ _ (w.heap.size + 1) 38 #[.int .i64 aK, .int .i64 aF, .int .i64 aO, .int .i64 aT, .int .i64 aS, .int .i64 0, .int .i64 aC, .bool aY, .slice la ll lc, .int .i64 ek, .int .i64 ef, .int .i64 en, .slice ta tl tc, .int .i64 ps, .int .i64 pi, .int .i64 pm, .slice da dl dc] (0, 0) _ rfl (unhide HZ9) Try.underlying38 rfl (by kernel_rfl)) rfl ?_
  refine ⟨_, rfl, fun w0 h => ?_, unhide HB9⟩
  obtain ⟨_, _, _, e, a, b, c⟩ := h
  simp only [Array.mk.injEq, List.cons.injEq, true_and, and_true] at e
  obtain ⟨rfl, rfl, rfl⟩ := e
  exact ⟨_, _, _, rfl, a, b, c⟩
set_option maxHeartbeats 800000 in
theorem without3_any (cs : Array Value) (m : MsgD) (w : World) (hM : SeesM w cs m) :
    Calls Try.prog 39 #[.agg cs, .int .i64 3] w fun e w' => ∃ cs', e = .returned (.agg cs') ∧ (∀ w0, SeesM w0 cs m → SeesM w0 cs' { m with commit := 0 }) ∧ Below w.heap.size w w' := by
  obtain ⟨aK, aF, aO, aT, aS, aL, aC, aY, ml, ⟨ek, ef, en, mt⟩, ⟨ps, pi, pm, md⟩⟩ := m
  obtain ⟨_, _, _, rfl, k1, k2, k3⟩ := hM
  simp only at k1 k2 k3 ⊢
  obtain ⟨la, lc, _, _, rfl, _⟩ := k1
  obtain ⟨ta, tc, _, _, rfl, _⟩ := k2
  obtain ⟨da, dc, rfl, _⟩ := k3
  obtain ⟨ll, hll⟩ : ∃ n, ml.length = n := ⟨_, rfl⟩
  obtain ⟨tl, htl⟩ : ∃ n, mt.length = n := ⟨_, rfl⟩
  obtain ⟨dl, hdl⟩ : ∃ n, md.length = n := ⟨_, rfl⟩
  rw [hll, htl, hdl]
  clear hll htl hdl
  have hal : Below w.heap.size w ((w.alloc (.cells #[.int .i64 aK, .int .i64 aF, .int .i64 aO, .int .i64 aT, .int .i64 aS, .int .i64 aL, .int .i64 aC, .bool aY, .slice la ll lc, .int .i64 ek, .int .i64 ef, .int .i64 en, .slice ta tl tc, .int .i64 ps, .int .i64 pi, .int .i64 pm, .slice da dl dc] 38)).alloc (.cells #[.int .i64 0, .int .i64 0, .int .i64 0, .int .i64 0, .int .i64 0, .int .i64 0, .int .i64 0, .bool false, .slice none 0 0, .int .i64 0, .int .i64 0, .int .i64 0, .slice none 0 0, .int .i64 0, .int .i64 0, .int .i64 0, .slice none 0 0] 38)) := ((Below.refl _ _).alloc (Nat.le_refl _) _).alloc (by simp) _
  have e0 : (w.alloc (.cells #[.int .i64 aK, .int .i64 aF, .int .i64 aO, .int .i64 aT, .int .i64 aS, .int .i64 aL, .int .i64 aC, .bool aY, .slice la ll lc, .int .i64 ek, .int .i64 ef, .int .i64 en, .slice ta tl tc, .int .i64 ps, .int .i64 pi, .int .i64 pm, .slice da dl dc] 38)).heap.size = w.heap.size + 1 := by simp
  have hx0 : ((w.alloc (.cells #[.int .i64 aK, .int .i64 aF, .int .i64 aO, .int .i64 aT, .int .i64 aS, .int .i64 aL, .int .i64 aC, .bool aY, .slice la ll lc, .int .i64 ek, .int .i64 ef, .int .i64 en, .slice ta tl tc, .int .i64 ps, .int .i64 pi, .int .i64 pm, .slice da dl dc] 38)).alloc (.cells #[.int .i64 0, .int .i64 0, .int .i64 0, .int .i64 0, .int .i64 0, .int .i64 0, .int .i64 0, .bool false, .slice none 0 0, .int .i64 0, .int .i64 0, .int .i64 0, .slice none 0 0, .int .i64 0, .int .i64 0, .int .i64 0, .slice none 0 0] 38)).heap[w.heap.size]? = some (.cells #[.int .i64 aK, .int .i64 aF, .int .i64 aO, .int .i64 aT, .int .i64 aS, .int .i64 aL, .int .i64 aC, .bool aY, .slice la ll lc, .int .i64 ek, .int .i64 ef, .int .i64 en, .slice ta tl tc, .int .i64 ps, .int .i64 pi, .int .i64 pm, .slice da dl dc] 38) := (Below.heap_alloc _ _ _ (by simp)).trans (heap_alloc_new w _)
  have hz0 : ((w.alloc (.cells #[.int .i64 aK, .int .i64 aF, .int .i64 aO, .int .i64 aT, .int .i64 aS, .int .i64 aL, .int .i64 aC, .bool aY, .slice la ll lc, .int .i64 ek, .int .i64 ef, .int .i64 en, .slice ta tl tc, .int .i64 ps, .int .i64 pi, .int .i64 pm, .slice da dl dc] 38)).alloc (.cells #[.int .i64 0, .int .i64 0, .int .i64 0, .int .i64 0, .int .i64 0, .int .i64 0, .int .i64 0, .bool false, .slice none 0 0, .int .i64 0, .int .i64 0, .int .i64 0, .slice none 0 0, .int .i64 0, .int .i64 0, .int .i64 0, .slice none 0 0] 38)).heap[w.heap.size + 1]? = some (.cells #[.int .i64 0, .int .i64 0, .int .i64 0, .int .i64 0, .int .i64 0, .int .i64 0, .int .i64 0, .bool false, .slice none 0 0, .int .i64 0, .int .i64 0, .int .i64 0, .slice none 0 0, .int .i64 0, .int .i64 0, .int .i64 0, .slice none 0 0] 38) := by have := heap_alloc_new (w.alloc (.cells #[.int .i64 aK, .int .i64 aF, .int .i64 aO, .int .i64 aT, .int .i64 aS, .int .i64 aL, .int .i64 aC, .bool aY, .slice la ll lc, .int .i64 ek, .int .i64 ef, .int .i64 en, .slice ta tl tc, .int .i64 ps, .int .i64 pi, .int .i64 pm, .slice da dl dc] 38)) (.cells #[.int .i64 0, .int .i64 0, .int .i64 0, .int .i64 0, .int .i64 0, .int .i64 0, .int .i64 0, .bool false, .slice none 0 0, .int .i64 0, .int .i64 0, .int .i64 0, .slice none 0 0, .int .i64 0, .int .i64 0, .int .i64 0, .slice none 0 0] 38); rw [e0] at this; exact this
  obtain ⟨y0, hy0⟩ : ∃ y, ((w.alloc (.cells #[.int .i64 aK, .int .i64 aF, .int .i64 aO, .int .i64 aT, .int .i64 aS, .int .i64 aL, .int .i64 aC, .bool aY, .slice la ll lc, .int .i64 ek, .int .i64 ef, .int .i64 en, .slice ta tl tc, .int .i64 ps, .int .i64 pi, .int .i64 pm, .slice da dl dc] 38)).alloc (.cells #[.int .i64 0, .int .i64 0, .int .i64 0, .int .i64 0, .int .i64 0, .int .i64 0, .int .i64 0, .bool false, .slice none 0 0, .int .i64 0, .int .i64 0, .int .i64 0, .slice none 0 0, .int .i64 0, .int .i64 0, .int .i64 0, .slice none 0 0] 38)) = y := ⟨_, rfl⟩
  rw [hy0] at hal hx0 hz0
  have k0x6 : y0.cell? ⟨w.heap.size, 6, none⟩ = some (.int .i64 aC) := cell_of_heap hx0
  have f0 : ∀ o, y0.frozen? ⟨w.heap.size, o, none⟩ = false := fun o => frozen_of_heap hx0
  have HB1 : Hid (Below w.heap.size w (y0.setCell ⟨w.heap.size, 6, none⟩ (.int .i64 0))) := (hal.setCell (p := ⟨w.heap.size, 6, none⟩) (Nat.le_refl _) _)
  have HX1 : Hid ((y0.setCell ⟨w.heap.size, 6, none⟩ (.int .i64 0)).heap[w.heap.size]? = some (.cells #[.int .i64 aK, .int .i64 aF, .int .i64 aO, .int .i64 aT, .int .i64 aS, .int .i64 aL, .int .i64 0, .bool aY, .slice la ll lc, .int .i64 ek, .int .i64 ef, .int .i64 en, .slice ta tl tc, .int .i64 ps, .int .i64 pi, .int .i64 pm, .slice da dl dc] 38)) := (setCell_heap hx0)
  have HZ1 : Hid ((y0.setCell ⟨w.heap.size, 6, none⟩ (.int .i64 0)).heap[w.heap.size + 1]? = some (.cells #[.int .i64 0, .int .i64 0, .int .i64 0, .int .i64 0, .int .i64 0, .int .i64 0, .int .i64 0, .bool false, .slice none 0 0, .int .i64 0, .int .i64 0, .int .i64 0, .slice none 0 0, .int .i64 0, .int .i64 0, .int .i64 0, .slice none 0 0] 38)) := ((Below.heap_setCell _ _ _ _ (fun e => by simp only at e; omega)).trans hz0)
  clear hal e0 hx0 hz0
  obtain ⟨y1, hy1⟩ : ∃ y, (y0.setCell ⟨w.heap.size, 6, none⟩ (.int .i64 0)) = y := ⟨_, rfl⟩
  rw [hy1] at HX1 HZ1 HB1
  have HB9 : Hid (Below w.heap.size w (y1.setRow (w.heap.size + 1) #[.int .i64 aK, .int .i64 aF, .int .i64 aO, .int .i64 aT, .int .i64 aS, .int .i64 aL, .int .i64 0, .bool aY, .slice la ll lc, .int .i64 ek, .int .i64 ef, .int .i64 en, .slice ta tl tc, .int .i64 ps, .int .i64 pi, .int .i64 pm, .slice da dl dc])) := below_setRow (unhide HB1) (by omega)
  have HZ9 : Hid ((y1.setRow (w.heap.size + 1) #[.int .i64 aK, .int .i64 aF, .int .i64 aO, .int .i64 aT, .int .i64 aS, .int .i64 aL, .int .i64 0, .bool aY, .slice la ll lc, .int .i64 ek, .int .i64 ef, .int .i64 en, .slice ta tl tc, .int .i64 ps, .int .i64 pi, .int .i64 pm, .slice da dl dc]).heap[w.heap.size + 1]? = some (.cells #[.int .i64 aK, .int .i64 aF, .int .i64 aO, .int .i64 aT, .int .i64 aS, .int .i64 aL, .int .i64 0, .bool aY, .slice la ll lc, .int .i64 ek, .int .i64 ef, .int .i64 en, .slice ta tl tc, .int .i64 ps, .int .i64 pi, .int .i64 pm, .slice da dl dc] 38)) := setRow_heap _ _ _ _ _ _ (unhide HZ1)
  obtain ⟨y9, hy9⟩ : ∃ y, (y1.setRow (w.heap.size + 1) #[.int .i64 aK, .int .i64 aF, .int .i64 aO, .int .i64 aT, .int .i64 aS, .int .i64 aL, .int .i64 0, .bool aY, .slice la ll lc, .int .i64 ek, .int .i64 ef, .int .i64 en, .slice ta tl tc, .int .i64 ps, .int .i64 pi, .int .i64 pm, .slice da dl dc]) = y := ⟨_, rfl⟩
  rw [hy9] at HB9 HZ9
  go_enter Try.func39, Try.ntmps39
  go_wp2_with (first | rw [hy1] | rw [hy9] | rw [hy0] | refine wpList_load_row rfl 38 _ rfl w.heap.size rfl 38 _ (0, 0) _ (unhide HX1) Try.underlying38 rfl (by kernel_rfl) ?_ | refine wpList_store_row rfl 38 _ _ rfl (w.heap.size + 1) _ _ rfl rfl 38 (unhide HZ1) (by kernel_rfl) rfl (by first | kernel_rfl | simp [Value.oneCell']) ?_)
  refine bodyPost_ret (results_cell_row rfl _ _ (w.heap.size + 1) 38 #[.int .i64 aK, .int .i64 aF, .int .i64 aO, .int .i64 aT, .int .i64 aS, .int .i64 aL, .int .i64 0, .bool aY, .slice la ll lc, .int .i64 ek, .int .i64 ef, .int .i64 en, .slice ta tl tc, .int .i64 ps, .int .i64 pi, .int .i64 pm, .slice da dl dc] (0, 0) _ rfl (unhide HZ9) Try.underlying38 rfl (by kernel_rfl)) rfl ?_
  refine ⟨_, rfl, fun w0 h => ?_, unhide HB9⟩
  obtain ⟨_, _, _, e, a, b, c⟩ := h
  simp only [Array.mk.injEq, List.cons.injEq, true_and, and_true] at e
  obtain ⟨rfl, rfl, rfl⟩ := e
  exact ⟨_, _, _, rfl, a, b, c⟩
set_option maxHeartbeats 800000 in
theorem without4_any (cs : Array Value) (m : MsgD) (w : World) (hM : SeesM w cs m) :
    Calls Try.prog 39 #[.agg cs, .int .i64 4] w fun e w' => ∃ cs', e = .returned (.agg cs') ∧ (∀ w0, SeesM w0 cs m → SeesM w0 cs' { m with yes := false }) ∧ Below w.heap.size w w' := by
  obtain ⟨aK, aF, aO, aT, aS, aL, aC, aY, ml, ⟨ek, ef, en, mt⟩, ⟨ps, pi, pm, md⟩⟩ := m
  obtain ⟨_, _, _, rfl, k1, k2, k3⟩ := hM
  simp only at k1 k2 k3 ⊢
  obtain ⟨la, lc, _, _, rfl, _⟩ := k1
  obtain ⟨ta, tc, _, _, rfl, _⟩ := k2
  obtain ⟨da, dc, rfl, _⟩ := k3
  obtain ⟨ll, hll⟩ : ∃ n, ml.length = n := ⟨_, rfl⟩
  obtain ⟨tl, htl⟩ : ∃ n, mt.length = n := ⟨_, rfl⟩
  obtain ⟨dl, hdl⟩ : ∃ n, md.length = n := ⟨_, rfl⟩
  rw [hll, htl, hdl]
  clear hll htl hdl
  have hal : Below w.heap.size w ((w.alloc (.cells #[.int .i64 aK, .int .i64 aF, .int .i64 aO, .int .i64 aT, .int .i64 aS, .int .i64 aL, .int .i64 aC, .bool aY, .slice la ll lc, .int .i64 ek, .int .i64 ef, .int .i64 en, .slice ta tl tc, .int .i64 ps, .int .i64 pi, .int .i64 pm, .slice da dl dc] 38)).alloc (.cells #[.int .i64 0, .int .i64 0, .int .i64 0, .int .i64 0, .int .i64 0, .int .i64 0, .int .i64 0, .bool false, .slice none 0 0, .int .i64 0, .int .i64 0, .int .i64 0, .slice none 0 0, .int .i64 0, .int .i64 0, .int .i64 0, .slice none 0 0] 38)) := ((Below.refl _ _).alloc (Nat.le_refl _) _).alloc (by simp) _
  have e0 : (w.alloc (.cells #[.int .i64 aK, .int .i64 aF, .int .i64 aO, .int .i64 aT, .int .i64 aS, .int .i64 aL, .int .i64 aC, .bool aY, .slice la ll lc, .int .i64 ek, .int .i64 ef, .int .i64 en, .slice ta tl tc, .int .i64 ps, .int .i64 pi, .int .i64 pm, .slice da dl dc] 38)).heap.size = w.heap.size + 1 := by simp
  have hx0 : ((w.alloc (.cells #[.int .i64 aK, .int .i64 aF, .int .i64 aO, .int .i64 aT, .int .i64 aS, .int .i64 aL, .int .i64 aC, .bool aY, .slice la ll lc, .int .i64 ek, .int .i64 ef, .int .i64 en, .slice ta tl tc, .int .i64 ps, .int .i64 pi, .int .i64 pm, .slice da dl dc] 38)).alloc (.cells #[.int .i64 0, .int .i64 0, .int .i64 0, .int .i64 0, .int .i64 0, .int .i64 0, .int .i64 0, .bool false, .slice none 0 0, .int .i64 0, .int .i64 0, .int .i64 0, .slice none 0 0, .int .i64 0, .int .i64 0, .int .i64 0, .slice none 0 0] 38)).heap[w.heap.size]? = some (.cells #[.int .i64 aK, .int .i64 aF, .int .i64 aO, .int .i64 aT, .int .i64 aS, .int .i64 aL, .int .i64 aC, .bool aY, .slice la ll lc, .int .i64 ek, .int .i64 ef, .int .i64 en, .slice ta tl tc, .int .i64 ps, .int .i64 pi, .int .i64 pm, .slice da dl dc] 38) := (Below.heap_alloc _ _ _ (by simp)).trans (heap_alloc_new w _)
  have hz0 : ((w.alloc (.cells #[.int .i64 aK, .int .i64 aF, .int .i64 aO, .int .i64 aT, .int .i64 aS, .int .i64 aL, .int .i64 aC, .bool aY, .slice la ll lc, .int .i64 ek, .int .i64 ef, .int .i64 en, .slice ta tl tc, .int .i64 ps, .int .i64 pi, .int .i64 pm, .slice da dl dc] 38)).alloc (.cells #[.int .i64 0, .int .i64 0, .int .i64 0, .int .i64 0, .int .i64 0, .int .i64 0, .int .i64 0, .bool false, .slice none 0 0, .int .i64 0, .int .i64 0, .int .i64 0, .slice none 0 0, .int .i64 0, .int .i64 0, .int .i64 0, .slice none 0 0] 38)).heap[w.heap.size + 1]? = some (.cells #[.int .i64 0, .int .i64 0, .int .i64 0, .int .i64 0, .int .i64 0, .int .i64 0, .int .i64 0, .bool false, .slice none 0 0, .int .i64 0, .int .i64 0, .int .i64 0, .slice none 0 0, .int .i64 0, .int .i64 0, .int .i64 0, .slice none 0 0] 38) := by have := heap_alloc_new (w.alloc (.cells #[.int .i64 aK, .int .i64 aF, .int .i64 aO, .int .i64 aT, .int .i64 aS, .int .i64 aL, .int .i64 aC, .bool aY, .slice la ll lc, .int .i64 ek, .int .i64 ef, .int .i64 en, .slice ta tl tc, .int .i64 ps, .int .i64 pi, .int .i64 pm, .slice da dl dc] 38)) (.cells #[.int .i64 0, .int .i64 0, .int .i64 0, .int .i64 0, .int .i64 0, .int .i64 0, .int .i64 0, .bool false, .slice none 0 0, .int .i64 0, .int .i64 0, .int .i64 0, .slice none 0 0, .int .i64 0, .int .i64 0, .int .i64 0, .slice none 0 0] 38); rw [e0] at this; exact this
  obtain ⟨y0, hy0⟩ : ∃ y, ((w.alloc (.cells #[.int .i64 aK, .int .i64 aF, .int .i64 aO, .int .i64 aT, .int .i64 aS, .int .i64 aL, .int .i64 aC, .bool aY, .slice la ll lc, .int .i64 ek, .int .i64 ef, .int .i64 en, .slice ta tl tc, .int .i64 ps, .int .i64 pi, .int .i64 pm, .slice da dl dc] 38)).alloc (.cells #[.int .i64 0, .int .i64 0, .int .i64 0, .int .i64 0, .int .i64 0, .int .i64 0, .int .i64 0, .bool false, .slice none 0 0, .int .i64 0, .int .i64 0, .int .i64 0, .slice none 0 0, .int .i64 0, .int .i64 0, .int .i64 0, .slice none 0 0] 38)) = y := ⟨_, rfl⟩
  rw [hy0] at hal hx0 hz0
  have k0x7 : y0.cell? ⟨w.heap.size, 7, none⟩ = some (.bool aY) := cell_of_heap hx0
  have f0 : ∀ o, y0.frozen? ⟨w.heap.size, o, none⟩ = false := fun o => frozen_of_heap hx0
  have HB1 : Hid (Below w.heap.size w (y0.setCell ⟨w.heap.size, 7, none⟩ (.bool false))) := (hal.setCell (p := ⟨w.heap.size, 7, none⟩) (Nat.le_refl _) _)
  have HX1 : Hid ((y0.setCell ⟨w.heap.size, 7, none⟩ (.bool false)).heap[w.heap.size]? = some (.cells #[.int .i64 aK, .int .i64 aF, .int .i64 aO, .int .i64 aT, .int .i64 aS, .int .i64 aL, .int .i64 aC, .bool false, .slice la ll lc, .int .i64 ek, .int .i64 ef, .int .i64 en, .slice ta tl tc, .int .i64 ps, .int .i64 pi, .int .i64 pm, .slice da dl dc] 38)) := (setCell_heap hx0)
  have HZ1 : Hid ((y0.setCell ⟨w.heap.size, 7, none⟩ (.bool false)).heap[w.heap.size + 1]? = some (.cells #[.int .i64 0, .int .i64 0, .int .i64 0, .int .i64 0, .int .i64 0, .int .i64 0, .int .i64 0, .bool false, .slice none 0 0, .int .i64 0, .int .i64 0, .int .i64 0, .slice none 0 0, .int .i64 0, .int .i64 0, .int .i64 0, .slice none 0 0] 38)) := ((Below.heap_setCell _ _ _ _ (fun e => by simp only at e; omega)).trans hz0)
  clear hal e0 hx0 hz0
  obtain ⟨y1, hy1⟩ : ∃ y, (y0.setCell ⟨w.heap.size, 7, none⟩ (.bool false)) = y := ⟨_, rfl⟩
  rw [hy1] at HX1 HZ1 HB1
  have HB9 : Hid (Below w.heap.size w (y1.setRow (w.heap.size + 1) #[.int .i64 aK, .int .i64 aF, .int .i64 aO, .int .i64 aT, .int .i64 aS, .int .i64 aL, .int .i64 aC, .bool false, .slice la ll lc, .int .i64 ek, .int .i64 ef, .int .i64 en, .slice ta tl tc, .int .i64 ps, .int .i64 pi, .int .i64 pm, .slice da dl dc])) := below_setRow (unhide HB1) (by omega)
  have HZ9 : Hid ((y1.setRow (w.heap.size + 1) #[.int .i64 aK, .int .i64 aF, .int .i64 aO, .int .i64 aT, .int .i64 aS, .int .i64 aL, .int .i64 aC, .bool false, .slice la ll lc, .int .i64 ek, .int .i64 ef, .int .i64 en, .slice ta tl tc, .int .i64 ps, .int .i64 pi, .int .i64 pm, .slice da dl dc]).heap[w.heap.size + 1]? = some (.cells #[.int .i64 aK, .int .i64 aF, .int .i64 aO, .int .i64 aT, .int .i64 aS, .int .i64 aL, .int .i64 aC, .bool false, .slice la ll lc, .int .i64 ek, .int .i64 ef, .int .i64 en, .slice ta tl tc, .int .i64 ps, .int .i64 pi, .int .i64 pm, .slice da dl dc] 38)) := setRow_heap _ _ _ _ _ _ (unhide HZ1)
  obtain ⟨y9, hy9⟩ : ∃ y, (y1.setRow (w.heap.size + 1) #[.int .i64 aK, .int .i64 aF, .int .i64 aO, .int .i64 aT, .int .i64 aS, .int .i64 aL, .int .i64 aC, .bool false, .slice la ll lc, .int .i64 ek, .int .i64 ef, .int .i64 en, .slice ta tl tc, .int .i64 ps, .int .i64 pi, .int .i64 pm, .slice da dl dc]) = y := ⟨_, rfl⟩
  rw [hy9] at HB9 HZ9
  go_enter Try.func39, Try.ntmps39
  go_wp2_with (first | rw [hy1] | rw [hy9] | rw [hy0] | refine wpList_load_row rfl 38 _ rfl w.heap.size rfl 38 _ (0, 0) _ (unhide HX1) Try.underlying38 rfl (by kernel_rfl) ?_ | refine wpList_store_row rfl 38 _ _ rfl (w.heap.size + 1) _ _ rfl rfl 38 (unhide HZ1) (by kernel_rfl) rfl (by first | kernel_rfl | simp [Value.oneCell']) ?_)
  refine bodyPost_ret (results_cell_row rfl _ _ (w.heap.size + 1) 38 #[.int .i64 aK, .int .i64 aF, .int .i64 aO, .int .i64 aT, .int .i64 aS, .int .i64 aL, .int .i64 aC, .bool false, .slice la ll lc, .int .i64 ek, .int .i64 ef, .int .i64 en, .slice ta tl tc, .int .i64 ps, .int .i64 pi, .int .i64 pm, .slice da dl dc] (0, 0) _ rfl (unhide HZ9) Try.underlying38 rfl (by kernel_rfl)) rfl ?_
  refine ⟨_, rfl, fun w0 h => ?_, unhide HB9⟩
  obtain ⟨_, _, _, e, a, b, c⟩ := h
  simp only [Array.mk.injEq, List.cons.injEq, true_and, and_true] at e
  obtain ⟨rfl, rfl, rfl⟩ := e
  exact ⟨_, _, _, rfl, a, b, c⟩
set_option maxHeartbeats 800000 in
theorem without5_any (cs : Array Value) (m : MsgD) (w : World) (hM : SeesM w cs m) :
    Calls Try.prog 39 #[.agg cs, .int .i64 5] w fun e w' => ∃ cs', e = .returned (.agg cs') ∧ (∀ w0, SeesM w0 cs m → SeesM w0 cs' { m with list := [] }) ∧ Below w.heap.size w w' := by
  obtain ⟨aK, aF, aO, aT, aS, aL, aC, aY, ml, ⟨ek, ef, en, mt⟩, ⟨ps, pi, pm, md⟩⟩ := m
  obtain ⟨_, _, _, rfl, k1, k2, k3⟩ := hM
  simp only at k1 k2 k3 ⊢
  obtain ⟨la, lc, _, _, rfl, _⟩ := k1
  obtain ⟨ta, tc, _, _, rfl, _⟩ := k2
  obtain ⟨da, dc, rfl, _⟩ := k3
  obtain ⟨ll, hll⟩ : ∃ n, ml.length = n := ⟨_, rfl⟩
  obtain ⟨tl, htl⟩ : ∃ n, mt.length = n := ⟨_, rfl⟩
  obtain ⟨dl, hdl⟩ : ∃ n, md.length = n := ⟨_, rfl⟩
  rw [hll, htl, hdl]
  clear hll htl hdl
  have hal : Below w.heap.size w ((w.alloc (.cells #[.int .i64 aK, .int .i64 aF, .int .i64 aO, .int .i64 aT, .int .i64 aS, .int .i64 aL, .int .i64 aC, .bool aY, .slice la ll lc, .int .i64 ek, .int .i64 ef, .int .i64 en, .slice ta tl tc, .int .i64 ps, .int .i64 pi, .int .i64 pm, .slice da dl dc] 38)).alloc (.cells #[.int .i64 0, .int .i64 0, .int .i64 0, .int .i64 0, .int .i64 0, .int .i64 0, .int .i64 0, .bool false, .slice none 0 0, .int .i64 0, .int .i64 0, .int .i64 0, .slice none 0 0, .int .i64 0, .int .i64 0, .int .i64 0, .slice none 0 0] 38)) := ((Below.refl _ _).alloc (Nat.le_refl _) _).alloc (by simp) _
  have e0 : (w.alloc (.cells #[.int .i64 aK, .int .i64 aF, .int .i64 aO, .int .i64 aT, .int .i64 aS, .int .i64 aL, .int .i64 aC, .bool aY, .slice la ll lc, .int .i64 ek, .int .i64 ef, .int .i64 en, .slice ta tl tc, .int .i64 ps, .int .i64 pi, .int .i64 pm, .slice da dl dc] 38)).heap.size = w.heap.size + 1 := by simp
  have hx0 : ((w.alloc (.cells #[.int .i64 aK, .int .i64 aF, .int .i64 aO, .int .i64 aT, .int .i64 aS, .int .i64 aL, .int .i64 aC, .bool aY, .slice la ll lc, .int .i64 ek, .int .i64 ef, .int .i64 en, .slice ta tl tc, .int .i64 ps, .int .i64 pi, .int .i64 pm, .slice da dl dc] 38)).alloc (.cells #[.int .i64 0, .int .i64 0, .int .i64 0, .int .i64 0, .int .i64 0, .int .i64 0, .int .i64 0, .bool false, .slice none 0 0, .int .i64 0, .int .i64 0, .int .i64 0, .slice none 0 0, .int .i64 0, .int .i64 0, .int .i64 0, .slice none 0 0] 38)).heap[w.heap.size]? = some (.cells #[.int .i64 aK, .int .i64 aF, .int .i64 aO, .int .i64 aT, .int .i64 aS, .int .i64 aL, .int .i64 aC, .bool aY, .slice la ll lc, .int .i64 ek, .int .i64 ef, .int .i64 en, .slice ta tl tc, .int .i64 ps, .int .i64 pi, .int .i64 pm, .slice da dl dc] 38) := (Below.heap_alloc _ _ _ (by simp)).trans (heap_alloc_new w _)
  have hz0 : ((w.alloc (.cells #[.int .i64 aK, .int .i64 aF, .int .i64 aO, .int .i64 aT, .int .i64 aS, .int .i64 aL, .int .i64 aC, .bool aY, .slice la ll lc, .int .i64 ek, .int .i64 ef, .int .i64 en, .slice ta tl tc, .int .i64 ps, .int .i64 pi, .int .i64 pm, .slice da dl dc] 38)).alloc (.cells #[.int .i64 0, .int .i64 0, .int .i64 0, .int .i64 0, .int .i64 0, .int .i64 0, .int .i64 0, .bool false, .slice none 0 0, .int .i64 0, .int .i64 0, .int .i64 0, .slice none 0 0, .int .i64 0, .int .i64 0, .int .i64 0, .slice none 0 0] 38)).heap[w.heap.size + 1]? = some (.cells #[.int .i64 0, .int .i64 0, .int .i64 0, .int .i64 0, .int .i64 0, .int .i64 0, .int .i64 0, .bool false, .slice none 0 0, .int .i64 0, .int .i64 0, .int .i64 0, .slice none 0 0, .int .i64 0, .int .i64 0, .int .i64 0, .slice none 0 0] 38) := by have := heap_alloc_new (w.alloc (.cells #[.int .i64 aK, .int .i64 aF, .int .i64 aO, .int .i64 aT, .int .i64 aS, .int .i64 aL, .int .i64 aC, .bool aY, .slice la ll lc, .int .i64 ek, .int .i64 ef, .int .i64 en, .slice ta tl tc, .int .i64 ps, .int .i64 pi, .int .i64 pm, .slice da dl dc] 38)) (.cells #[.int .i64 0, .int .i64 0, .int .i64 0, .int .i64 0, .int .i64 0, .int .i64 0, .int .i64 0, .bool false, .slice none 0 0, .int .i64 0, .int .i64 0, .int .i64 0, .slice none 0 0, .int .i64 0, .int .i64 0, .int .i64 0, .slice none 0 0] 38); rw [e0] at this; exact this
  obtain ⟨y0, hy0⟩ : ∃ y, ((w.alloc (.cells #[.int .i64 aK, .int .i64 aF, .int .i64 aO, .int .i64 aT, .int .i64 aS, .int .i64 aL, .int .i64 aC, .bool aY, .slice la ll lc, .int .i64 ek, .int .i64 ef, .int .i64 en, .slice ta tl tc, .int .i64 ps, .int .i64 pi, .int .i64 pm, .slice da dl dc] 38)).alloc (.cells #[.int .i64 0, .int .i64 0, .int .i64 0, .int .i64 0, .int .i64 0, .int .i64 0, .int .i64 0, .bool false, .slice none 0 0, .int .i64 0, .int .i64 0, .int .i64 0, .slice none 0 0, .int .i64 0, .int .i64 0, .int .i64 0, .slice none 0 0] 38)) = y := ⟨_, rfl⟩
  rw [hy0] at hal hx0 hz0
  have k0x8 : y0.cell? ⟨w.heap.size, 8, none⟩ = some (.slice la ll lc) := cell_of_heap hx0
  have f0 : ∀ o, y0.frozen? ⟨w.heap.size, o, none⟩ = false := fun o => frozen_of_heap hx0
  have HB1 : Hid (Below w.heap.size w (y0.setCell ⟨w.heap.size, 8, none⟩ (.slice none 0 0))) := (hal.setCell (p := ⟨w.heap.size, 8, none⟩) (Nat.le_refl _) _)
  have HX1 : Hid ((y0.setCell ⟨w.heap.size, 8, none⟩ (.slice none 0 0)).heap[w.heap.size]? = some (.cells #[.int .i64 aK, .int .i64 aF, .int .i64 aO, .int .i64 aT, .int .i64 aS, .int .i64 aL, .int .i64 aC, .bool aY, .slice none 0 0, .int .i64 ek, .int .i64 ef, .int .i64 en, .slice ta tl tc, .int .i64 ps, .int .i64 pi, .int .i64 pm, .slice da dl dc] 38)) := (setCell_heap hx0)
  have HZ1 : Hid ((y0.setCell ⟨w.heap.size, 8, none⟩ (.slice none 0 0)).heap[w.heap.size + 1]? = some (.cells #[.int .i64 0, .int .i64 0, .int .i64 0, .int .i64 0, .int .i64 0, .int .i64 0, .int .i64 0, .bool false, .slice none 0 0, .int .i64 0, .int .i64 0, .int .i64 0, .slice none 0 0, .int .i64 0, .int .i64 0, .int .i64 0, .slice none 0 0] 38)) := ((Below.heap_setCell _ _ _ _ (fun e => by simp only at e; omega)).trans hz0)
  clear hal e0 hx0 hz0
  obtain ⟨y1, hy1⟩ : ∃ y, (y0.setCell ⟨w.heap.size, 8, none⟩ (.slice none 0 0)) = y := ⟨_, rfl⟩
  rw [hy1] at HX1 HZ1 HB1
  have HB9 : Hid (Below w.heap.size w (y1.setRow (w.heap.size + 1) #[.int .i64 aK, .int .i64 aF, .int .i64 aO, .int .i64 aT, .int .i64 aS, .int .i64 aL, .int .i64 aC, .bool aY, .slice none 0 0, .int .i64 ek, .int .i64 ef, .int .i64 en, .slice ta tl tc, .int .i64 ps, .int .i64 pi, .int .i64 pm, .slice da dl dc])) := below_setRow (unhide HB1) (by omega)
  have HZ9 : Hid ((y1.setRow (w.heap.size + 1) #[.int .i64 aK, .int .i64 aF, .int .i64 aO, .int .i64 aT, .int .i64 aS, .int .i64 aL, .int .i64 aC, .bool aY, .slice none 0 0, .int .i64 ek, .int .i64 ef, .int .i64 en, .slice ta tl tc, .int .i64 ps, .int .i64 pi, .int .i64 pm, .slice da dl dc]).heap[w.heap.size + 1]? = some (.cells #[.int .i64 aK, .int .i64 aF, .int .i64 aO, .int .i64 aT, .int .i64 aS, .int .i64 aL, .int .i64 aC, .bool aY, .slice none 0 0, .int .i64 ek, .int .i64 ef, .int .i64 en, .slice ta tl tc, .int .i64 ps, .int .i64 pi, .int .i64 pm, .slice da dl dc] 38)) := setRow_heap _ _ _ _ _ _ (unhide HZ1)
  obtain ⟨y9, hy9⟩ : ∃ y, (y1.setRow (w.heap.size + 1) #[.int .i64 aK, .int .i64 aF, .int .i64 aO, .int .i64 aT, .int .i64 aS, .int .i64 aL, .int .i64 aC, .bool aY, .slice none 0 0, .int .i64 ek, .int .i64 ef, .int .i64 en, .slice ta tl tc, .int .i64 ps, .int .i64 pi, .int .i64 pm, .slice da dl dc]) = y := ⟨_, rfl⟩
  rw [hy9] at HB9 HZ9
  go_enter Try.func39, Try.ntmps39
  go_wp2_with (first | rw [hy1] | rw [hy9] | rw [hy0] | refine wpList_load_row rfl 38 _ rfl w.heap.size rfl 38 _ (0, 0) _ (unhide HX1) Try.underlying38 rfl (by kernel_rfl) ?_ | refine wpList_store_row rfl 38 _ _ rfl (w.heap.size + 1) _ _ rfl rfl 38 (unhide HZ1) (by kernel_rfl) rfl (by first | kernel_rfl | simp [Value.oneCell']) ?_)
  refine bodyPost_ret (results_cell_row rfl _ _ (w.heap.size + 1) 38 #[.int .i64 aK, .int .i64 aF, .int .i64 aO, .int .i64 aT, .int .i64 aS, .int .i64 aL, .int .i64 aC, .bool aY, .slice none 0 0, .int .i64 ek, .int .i64 ef, .int .i64 en, .slice ta tl tc, .int .i64 ps, .int .i64 pi, .int .i64 pm, .slice da dl dc] (0, 0) _ rfl (unhide HZ9) Try.underlying38 rfl (by kernel_rfl)) rfl ?_
  refine ⟨_, rfl, fun w0 h => ?_, unhide HB9⟩
  obtain ⟨_, _, _, e, a, b, c⟩ := h
  simp only [Array.mk.injEq, List.cons.injEq, true_and, and_true] at e
  obtain ⟨rfl, rfl, rfl⟩ := e
  exact ⟨_, _, _, rfl, SeesTms.nil _, b, c⟩
set_option maxHeartbeats 800000 in
theorem without6_any (cs : Array Value) (m : MsgD) (w : World) (hM : SeesM w cs m) :
    Calls Try.prog 39 #[.agg cs, .int .i64 6] w fun e w' => ∃ cs', e = .returned (.agg cs') ∧ (∀ w0, SeesM w0 cs m → SeesM w0 cs' { m with ent := dE }) ∧ Below w.heap.size w w' := by
  obtain ⟨aK, aF, aO, aT, aS, aL, aC, aY, ml, ⟨ek, ef, en, mt⟩, ⟨ps, pi, pm, md⟩⟩ := m
  obtain ⟨_, _, _, rfl, k1, k2, k3⟩ := hM
  simp only at k1 k2 k3 ⊢
  obtain ⟨la, lc, _, _, rfl, _⟩ := k1
  obtain ⟨ta, tc, _, _, rfl, _⟩ := k2
  obtain ⟨da, dc, rfl, _⟩ := k3
  obtain ⟨ll, hll⟩ : ∃ n, ml.length = n := ⟨_, rfl⟩
  obtain ⟨tl, htl⟩ : ∃ n, mt.length = n := ⟨_, rfl⟩
  obtain ⟨dl, hdl⟩ : ∃ n, md.length = n := ⟨_, rfl⟩
  rw [hll, htl, hdl]
  clear hll htl hdl
  have hal : Below w.heap.size w ((w.alloc (.cells #[.int .i64 aK, .int .i64 aF, .int .i64 aO, .int .i64 aT, .int .i64 aS, .int .i64 aL, .int .i64 aC, .bool aY, .slice la ll lc, .int .i64 ek, .int .i64 ef, .int .i64 en, .slice ta tl tc, .int .i64 ps, .int .i64 pi, .int .i64 pm, .slice da dl dc] 38)).alloc (.cells #[.int .i64 0, .int .i64 0, .int .i64 0, .int .i64 0, .int .i64 0, .int .i64 0, .int .i64 0, .bool false, .slice none 0 0, .int .i64 0, .int .i64 0, .int .i64 0, .slice none 0 0, .int .i64 0, .int .i64 0, .int .i64 0, .slice none 0 0] 38)) := ((Below.refl _ _).alloc (Nat.le_refl _) _).alloc (by simp) _
  have e0 : (w.alloc (.cells #[.int .i64 aK, .int .i64 aF, .int .i64 aO, .int .i64 aT, .int .i64 aS, .int .i64 aL, .int .i64 aC, .bool aY, .slice la ll lc, .int .i64 ek, .int .i64 ef, .int .i64 en, .slice ta tl tc, .int .i64 ps, .int .i64 pi, .int .i64 pm, .slice da dl dc] 38)).heap.size = w.heap.size + 1 := by simp
  have hx0 : ((w.alloc (.cells #[.int .i64 aK, .int .i64 aF, .int .i64 aO, .int .i64 aT, .int .i64 aS, .int .i64 aL, .int .i64 aC, .bool aY, .slice la ll lc, .int .i64 ek, .int .i64 ef, .int .i64 en, .slice ta tl tc, .int .i64 ps, .int .i64 pi, .int .i64 pm, .slice da dl dc] 38)).alloc (.cells #[.int .i64 0, .int .i64 0, .int .i64 0, .int .i64 0, .int .i64 0, .int .i64 0, .int .i64 0, .bool false, .slice none 0 0, .int .i64 0, .int .i64 0, .int .i64 0, .slice none 0 0, .int .i64 0, .int .i64 0, .int .i64 0, .slice none 0 0] 38)).heap[w.heap.size]? = some (.cells #[.int .i64 aK, .int .i64 aF, .int .i64 aO, .int .i64 aT, .int .i64 aS, .int .i64 aL, .int .i64 aC, .bool aY, .slice la ll lc, .int .i64 ek, .int .i64 ef, .int .i64 en, .slice ta tl tc, .int .i64 ps, .int .i64 pi, .int .i64 pm, .slice da dl dc] 38) := (Below.heap_alloc _ _ _ (by simp)).trans (heap_alloc_new w _)
  have hz0 : ((w.alloc (.cells #[.int .i64 aK, .int .i64 aF, .int .i64 aO, .int .i64 aT, .int .i64 aS, .int .i64 aL, .int .i64 aC, .bool aY, .slice la ll lc, .int .i64 ek, .int .i64 ef, .int .i64 en, .slice ta tl tc, .int .i64 ps, .int .i64 pi, .int .i64 pm, .slice da dl dc] 38)).alloc (.cells #[.int .i64 0, .int .i64 0, .int .i64 0, .int .i64 0, .int .i64 0, .int .i64 0, .int .i64 0, .bool false, .slice none 0 0, .int .i64 0, .int .i64 0, .int .i64 0, .slice none 0 0, .int .i64 0, .int .i64 0, .int .i64 0, .slice none 0 0] 38)).heap[w.heap.size + 1]? = some (.cells #[.int .i64 0, .int .i64 0, .int .i64 0, .int .i64 0, .int .i64 0, .int .i64 0, .int .i64 0, .bool false, .slice none 0 0, .int .i64 0, .int .i64 0, .int .i64 0, .slice none 0 0, .int .i64 0, .int .i64 0, .int .i64 0, .slice none 0 0] 38) := by have := heap_alloc_new (w.alloc (.cells #[.int .i64 aK, .int .i64 aF, .int .i64 aO, .int .i64 aT, .int .i64 aS, .int .i64 aL, .int .i64 aC, .bool aY, .slice la ll lc, .int .i64 ek, .int .i64 ef, .int .i64 en, .slice ta tl tc, .int .i64 ps, .int .i64 pi, .int .i64 pm, .slice da dl dc] 38)) (.cells #[.int .i64 0, .int .i64 0, .int .i64 0, .int .i64 0, .int .i64 0, .int .i64 0, .int .i64 0, .bool false, .slice none 0 0, .int .i64 0, .int .i64 0, .int .i64 0, .slice none 0 0, .int .i64 0, .int .i64 0, .int .i64 0, .slice none 0 0] 38); rw [e0] at this; exact this
  obtain ⟨y0, hy0⟩ : ∃ y, ((w.alloc (.cells #[.int .i64 aK, .int .i64 aF, .int .i64 aO, .int .i64 aT, .int .i64 aS, .int .i64 aL, .int .i64 aC, .bool aY, .slice la ll lc, .int .i64 ek, .int .i64 ef, .int .i64 en, .slice ta tl tc, .int .i64 ps, .int .i64 pi, .int .i64 pm, .slice da dl dc] 38)).alloc (.cells #[.int .i64 0, .int .i64 0, .int .i64 0, .int .i64 0, .int .i64 0, .int .i64 0, .int .i64 0, .bool false, .slice none 0 0, .int .i64 0, .int .i64 0, .int .i64 0, .slice none 0 0, .int .i64 0, .int .i64 0, .int .i64 0, .slice none 0 0] 38)) = y := ⟨_, rfl⟩
  rw [hy0] at hal hx0 hz0
  have k0x9 : y0.cell? ⟨w.heap.size, 9, none⟩ = some (.int .i64 ek) := cell_of_heap hx0
  have k0x10 : y0.cell? ⟨w.heap.size, 10, none⟩ = some (.int .i64 ef) := cell_of_heap hx0
  have k0x11 : y0.cell? ⟨w.heap.size, 11, none⟩ = some (.int .i64 en) := cell_of_heap hx0
  have k0x12 : y0.cell? ⟨w.heap.size, 12, none⟩ = some (.slice ta tl tc) := cell_of_heap hx0
  have f0 : ∀ o, y0.frozen? ⟨w.heap.size, o, none⟩ = false := fun o => frozen_of_heap hx0
  have HB1 : Hid (Below w.heap.size w ((((y0.setCell ⟨w.heap.size, 9, none⟩ (.int .i64 0)).setCell ⟨w.heap.size, 10, none⟩ (.int .i64 0)).setCell ⟨w.heap.size, 11, none⟩ (.int .i64 0)).setCell ⟨w.heap.size, 12, none⟩ (.slice none 0 0))) := ((((hal.setCell (p := ⟨w.heap.size, 9, none⟩) (Nat.le_refl _) _).setCell (p := ⟨w.heap.size, 10, none⟩) (Nat.le_refl _) _).setCell (p := ⟨w.heap.size, 11, none⟩) (Nat.le_refl _) _).setCell (p := ⟨w.heap.size, 12, none⟩) (Nat.le_refl _) _)
  have HX1 : Hid (((((y0.setCell ⟨w.heap.size, 9, none⟩ (.int .i64 0)).setCell ⟨w.heap.size, 10, none⟩ (.int .i64 0)).setCell ⟨w.heap.size, 11, none⟩ (.int .i64 0)).setCell ⟨w.heap.size, 12, none⟩ (.slice none 0 0)).heap[w.heap.size]? = some (.cells #[.int .i64 aK, .int .i64 aF, .int .i64 aO, .int .i64 aT, .int .i64 aS, .int .i64 aL, .int .i64 aC, .bool aY, .slice la ll lc, .int .i64 0, .int .i64 0, .int .i64 0, .slice none 0 0, .int .i64 ps, .int .i64 pi, .int .i64 pm, .slice da dl dc] 38)) := (setCell_heap (setCell_heap (setCell_heap (setCell_heap hx0))))
  have HZ1 : Hid (((((y0.setCell ⟨w.heap.size, 9, none⟩ (.int .i64 0)).setCell ⟨w.heap.size, 10, none⟩ (.int .i64 0)).setCell ⟨w.heap.size, 11, none⟩ (.int .i64 0)).setCell ⟨w.heap.size, 12, none⟩ (.slice none 0 0)).heap[w.heap.size + 1]? = some (.cells #[.int .i64 0, .int .i64 0, .int .i64 0, .int .i64 0, .int .i64 0, .int .i64 0, .int .i64 0, .bool false, .slice none 0 0, .int .i64 0, .int .i64 0, .int .i64 0, .slice none 0 0, .int .i64 0, .int .i64 0, .int .i64 0, .slice none 0 0] 38)) := ((Below.heap_setCell _ _ _ _ (fun e => by simp only at e; omega)).trans ((Below.heap_setCell _ _ _ _ (fun e => by simp only at e; omega)).trans ((Below.heap_setCell _ _ _ _ (fun e => by simp only at e; omega)).trans ((Below.heap_setCell _ _ _ _ (fun e => by simp only at e; omega)).trans hz0))))
  clear hal e0 hx0 hz0
  obtain ⟨y1, hy1⟩ : ∃ y, ((((y0.setCell ⟨w.heap.size, 9, none⟩ (.int .i64 0)).setCell ⟨w.heap.size, 10, none⟩ (.int .i64 0)).setCell ⟨w.heap.size, 11, none⟩ (.int .i64 0)).setCell ⟨w.heap.size, 12, none⟩ (.slice none 0 0)) = y := ⟨_, rfl⟩
  rw [hy1] at HX1 HZ1 HB1
  have HB9 : Hid (Below w.heap.size w (y1.setRow (w.heap.size + 1) #[.int .i64 aK, .int .i64 aF, .int .i64 aO, .int .i64 aT, .int .i64 aS, .int .i64 aL, .int .i64 aC, .bool aY, .slice la ll lc, .int .i64 0, .int .i64 0, .int .i64 0, .slice none 0 0, .int .i64 ps, .int .i64 pi, .int .i64 pm, .slice da dl dc])) := below_setRow (unhide HB1) (by omega)
  have HZ9 : Hid ((y1.setRow (w.heap.size + 1) #[.int .i64 aK, .int .i64 aF, .int .i64 aO, .int .i64 aT, .int .i64 aS, .int .i64 aL, .int .i64 aC, .bool aY, .slice la ll lc, .int .i64 0, .int .i64 0, .int .i64 0, .slice none 0 0, .int .i64 ps, .int .i64 pi, .int .i64 pm, .slice da dl dc]).heap[w.heap.size + 1]? = some (.cells #[.int .i64 aK, .int .i64 aF, .int .i64 aO, .int .i64 aT, .int .i64 aS, .int .i64 aL, .int .i64 aC, .bool aY, .slice la ll lc, .int .i64 0, .int .i64 0, .int .i64 0, .slice none 0 0, .int .i64 ps, .int .i64 pi, .int .i64 pm, .slice da dl dc] 38)) := setRow_heap _ _ _ _ _ _ (unhide HZ1)
  obtain ⟨y9, hy9⟩ : ∃ y, (y1.setRow (w.heap.size + 1) #[.int .i64 aK, .int .i64 aF, .int .i64 aO, .int .i64 aT, .int .i64 aS, .int .i64 aL, .int .i64 aC, .bool aY, .slice la ll lc, .int .i64 0, .int .i64 0, .int .i64 0, .slice none 0 0, .int .i64 ps, .int .i64 pi, .int .i64 pm, .slice da dl dc]) = y := ⟨_, rfl⟩
  rw [hy9] at HB9 HZ9
  go_enter Try.func39, Try.ntmps39
  go_wp2_with (first | rw [hy1] | rw [hy9] | rw [hy0] | refine wpList_load_row rfl 38 _ rfl w.heap.size rfl 38 _ (0, 0) _ (unhide HX1) Try.underlying38 rfl (by kernel_rfl) ?_ | refine wpList_store_row rfl 38 _ _ rfl (w.heap.size + 1) _ _ rfl rfl 38 (unhide HZ1) (by kernel_rfl) rfl (by first | kernel_rfl | simp [Value.oneCell']) ?_)
  refine bodyPost_ret (results_cell_row rfl _ _ (w.heap.size + 1) 38 #[.int .i64 aK, .int .i64 aF, .int .i64 aO, .int .i64 aT, .int .i64 aS, .int .i64 aL, .int .i64 aC, .bool aY, .slice la ll lc, .int .i64 0, .int .i64 0, .int .i64 0, .slice none 0 0, .int .i64 ps, .int .i64 pi, .int .i64 pm, .slice da dl dc] (0, 0) _ rfl (unhide HZ9) Try.underlying38 rfl (by kernel_rfl)) rfl ?_
  refine ⟨_, rfl, fun w0 h => ?_, unhide HB9⟩
  obtain ⟨_, _, _, e, a, b, c⟩ := h
  simp only [Array.mk.injEq, List.cons.injEq, true_and, and_true] at e
  obtain ⟨rfl, rfl, rfl⟩ := e
  exact ⟨_, _, _, rfl, a, SeesTs.nil _, c⟩
set_option maxHeartbeats 800000 in
theorem without7_any (cs : Array Value) (m : MsgD) (w : World) (hM : SeesM w cs m) :
    Calls Try.prog 39 #[.agg cs, .int .i64 7] w fun e w' => ∃ cs', e = .returned (.agg cs') ∧ (∀ w0, SeesM w0 cs m → SeesM w0 cs' { m with part := dP }) ∧ Below w.heap.size w w' := by
  obtain ⟨aK, aF, aO, aT, aS, aL, aC, aY, ml, ⟨ek, ef, en, mt⟩, ⟨ps, pi, pm, md⟩⟩ := m
  obtain ⟨_, _, _, rfl, k1, k2, k3⟩ := hM
  simp only at k1 k2 k3 ⊢
  obtain ⟨la, lc, _, _, rfl, _⟩ := k1
  obtain ⟨ta, tc, _, _, rfl, _⟩ := k2
  obtain ⟨da, dc, rfl, _⟩ := k3
  obtain ⟨ll, hll⟩ : ∃ n, ml.length = n := ⟨_, rfl⟩
  obtain ⟨tl, htl⟩ : ∃ n, mt.length = n := ⟨_, rfl⟩
  obtain ⟨dl, hdl⟩ : ∃ n, md.length = n := ⟨_, rfl⟩
  rw [hll, htl, hdl]
  clear hll htl hdl
  have hal : Below w.heap.size w ((w.alloc (.cells #[.int .i64 aK, .int .i64 aF, .int .i64 aO, .int .i64 aT, .int .i64 aS, .int .i64 aL, .int .i64 aC, .bool aY, .slice la ll lc, .int .i64 ek, .int .i64 ef, .int .i64 en, .slice ta tl tc, .int .i64 ps, .int .i64 pi, .int .i64 pm, .slice da dl dc] 38)).alloc (.cells #[.int .i64 0, .int .i64 0, .int .i64 0, .int .i64 0, .int .i64 0, .int .i64 0, .int .i64 0, .bool false, .slice none 0 0, .int .i64 0, .int .i64 0, .int .i64 0, .slice none 0 0, .int .i64 0, .int .i64 0, .int .i64 0, .slice none 0 0] 38)) := ((Below.refl _ _).alloc (Nat.le_refl _) _).alloc (by simp) _
  have e0 : (w.alloc (.cells #[.int .i64 aK, .int .i64 aF, .int .i64 aO, .int .i64 aT, .int .i64 aS, .int .i64 aL, .int .i64 aC, .bool aY, .slice la ll lc, .int .i64 ek, .int .i64 ef, .int .i64 en, .slice ta tl tc, .int .i64 ps, .int .i64 pi, .int .i64 pm, .slice da dl dc] 38)).heap.size = w.heap.size + 1 := by simp
  have hx0 : ((w.alloc (.cells #[.int .i64 aK, .int .i64 aF, .int .i64 aO, .int .i64 aT, .int .i64 aS, .int .i64 aL, .int .i64 aC, .bool aY, .slice la ll lc, .int .i64 ek, .int .i64 ef, .int .i64 en, .slice ta tl tc, .int .i64 ps, .int .i64 pi, .int .i64 pm, .slice da dl dc] 38)).alloc (.cells #[.int .i64 0, .int .i64 0, .int .i64 0, .int .i64 0, .int .i64 0, .int .i64 0, .int .i64 0, .bool false, .slice none 0 0, .int .i64 0, .int .i64 0, .int .i64 0, .slice none 0 0, .int .i64 0, .int .i64 0, .int .i64 0, .slice none 0 0] 38)).heap[w.heap.size]? = some (.cells #[.int .i64 aK, .int .i64 aF, .int .i64 aO, .int .i64 aT, .int .i64 aS, .int .i64 aL, .int .i64 aC, .bool aY, .slice la ll lc, .int .i64 ek, .int .i64 ef, .int .i64 en, .slice ta tl tc, .int .i64 ps, .int .i64 pi, .int .i64 pm, .slice da dl dc] 38) := (Below.heap_alloc _ _ _ (by simp)).trans (heap_alloc_new w _)
  have hz0 : ((w.alloc (.cells #[.int .i64 aK, .int .i64 aF, .int .i64 aO, .int .i64 aT, .int .i64 aS, .int .i64 aL, .int .i64 aC, .bool aY, .slice la ll lc, .int .i64 ek, .int .i64 ef, .int .i64 en, .slice ta tl tc, .int .i64 ps, .int .i64 pi, .int .i64 pm, .slice da dl dc] 38)).alloc (.cells #[.int .i64 0, .int .i64 0, .int .i64 0, .int .i64 0, .int .i64 0, .int .i64 0, .int .i64 0, .bool false, .slice none 0 0, .int .i64 0, .int .i64 0, .int .i64 0, .slice none 0 0, .int .i64 0, .int .i64 0, .int .i64 0, .slice none 0 0] 38)).heap[w.heap.size + 1]? = some (.cells #[.int .i64 0, .int .i64 0, .int .i64 0, .int .i64 0, .int .i64 0, .int .i64 0, .int .i64 0, .bool false, .slice none 0 0, .int .i64 0, .int .i64 0, .int .i64 0, .slice none 0 0, .int .i64 0, .int .i64 0, .int .i64 0, .slice none 0 0] 38) := by have := heap_alloc_new (w.alloc (.cells #[.int .i64 aK, .int .i64 aF, .int .i64 aO, .int .i64 aT, .int .i64 aS, .int .i64 aL, .int .i64 aC, .bool aY, .slice la ll lc, .int .i64 ek, .int .i64 ef, .int .i64 en, .slice ta tl tc, .int .i64 ps, .int .i64 pi, .int .i64 pm, .slice da dl dc] 38)) (.cells #[.int .i64 0, .int .i64 0, .int .i64 0, .int .i64 0, .int .i64 0, .int .i64 0, .int .i64 0, .bool false, .slice none 0 0, .int .i64 0, .int .i64 0, .int .i64 0, .slice none 0 0, .int .i64 0, .int .i64 0, .int .i64 0, .slice none 0 0] 38); rw [e0] at this; exact this
  obtain ⟨y0, hy0⟩ : ∃ y, ((w.alloc (.cells #[.int .i64 aK, .int .i64 aF, .int .i64 aO, .int .i64 aT, .int .i64 aS, .int .i64 aL, .int .i64 aC, .bool aY, .slice la ll lc, .int .i64 ek, .int .i64 ef, .int .i64 en, .slice ta tl tc, .int .i64 ps, .int .i64 pi, .int .i64 pm, .slice da dl dc] 38)).alloc (.cells #[.int .i64 0, .int .i64 0, .int .i64 0, .int .i64 0, .int .i64 0, .int .i64 0, .int .i64 0, .bool false, .slice none 0 0, .int .i64 0, .int .i64 0, .int .i64 0, .slice none 0 0, .int .i64 0, .int .i64 0, .int .i64 0, .slice none 0 0] 38)) = y := ⟨_, rfl⟩
  rw [hy0] at hal hx0 hz0
  have k0x13 : y0.cell? ⟨w.heap.size, 13, none⟩ = some (.int .i64 ps) := cell_of_heap hx0
  have k0x14 : y0.cell? ⟨w.heap.size, 14, none⟩ = some (.int .i64 pi) := cell_of_heap hx0
  have k0x15 : y0.cell? ⟨w.heap.size, 15, none⟩ = some (.int .i64 pm) := cell_of_heap hx0
  have k0x16 : y0.cell? ⟨w.heap.size, 16, none⟩ = some (.slice da dl dc) := cell_of_heap hx0
  have f0 : ∀ o, y0.frozen? ⟨w.heap.size, o, none⟩ = false := fun o => frozen_of_heap hx0
  have HB1 : Hid (Below w.heap.size w ((((y0.setCell ⟨w.heap.size, 13, none⟩ (.int .i64 0)).setCell ⟨w.heap.size, 14, none⟩ (.int .i64 0)).setCell ⟨w.heap.size, 15, none⟩ (.int .i64 0)).setCell ⟨w.heap.size, 16, none⟩ (.slice none 0 0))) := ((((hal.setCell (p := ⟨w.heap.size, 13, none⟩) (Nat.le_refl _) _).setCell (p := ⟨w.heap.size, 14, none⟩) (Nat.le_refl _) _).setCell (p := ⟨w.heap.size, 15, none⟩) (Nat.le_refl _) _).setCell (p := ⟨w.heap.size, 16, none⟩) (Nat.le_refl _) _)
  have HX1 : Hid (((((y0.setCell ⟨w.heap.size, 13, none⟩ (.int .i64 0)).setCell ⟨w.heap.size, 14, none⟩ (.int .i64 0)).setCell ⟨w.heap.size, 15, none⟩ (.int .i64 0)).setCell ⟨w.heap.size, 16, none⟩ (.slice none 0 0)).heap[w.heap.size]? = some (.cells #[.int .i64 aK, .int .i64 aF, .int .i64 aO, .int .i64 aT, .int .i64 aS, .int .i64 aL, .int .i64 aC, .bool aY, .slice la ll lc, .int .i64 ek, .int .i64 ef, .int .i64 en, .slice ta tl tc, .int .i64 0, .int .i64 0, .int .i64 0, .slice none 0 0] 38)) := (setCell_heap (setCell_heap (setCell_heap (setCell_heap hx0))))
  have HZ1 : Hid (((((y0.setCell ⟨w.heap.size, 13, none⟩ (.int .i64 0)).setCell ⟨w.heap.size, 14, none⟩ (.int .i64 0)).setCell ⟨w.heap.size, 15, none⟩ (.int .i64 0)).setCell ⟨w.heap.size, 16, none⟩ (.slice none 0 0)).heap[w.heap.size + 1]? = some (.cells #[.int .i64 0, .int .i64 0, .int .i64 0, .int .i64 0, .int .i64 0, .int .i64 0, .int .i64 0, .bool false, .slice none 0 0, .int .i64 0, .int .i64 0, .int .i64 0, .slice none 0 0, .int .i64 0, .int .i64 0, .int .i64 0, .slice none 0 0] 38)) := ((Below.heap_setCell _ _ _ _ (fun e => by simp only at e; omega)).trans ((Below.heap_setCell _ _ _ _ (fun e => by simp only at e; omega)).trans ((Below.heap_setCell _ _ _ _ (fun e => by simp only at e; omega)).trans ((Below.heap_setCell _ _ _ _ (fun e => by simp only at e; omega)).trans hz0))))
  clear hal e0 hx0 hz0
  obtain ⟨y1, hy1⟩ : ∃ y, ((((y0.setCell ⟨w.heap.size, 13, none⟩ (.int .i64 0)).setCell ⟨w.heap.size, 14, none⟩ (.int .i64 0)).setCell ⟨w.heap.size, 15, none⟩ (.int .i64 0)).setCell ⟨w.heap.size, 16, none⟩ (.slice none 0 0)) = y := ⟨_, rfl⟩
  rw [hy1] at HX1 HZ1 HB1
  have HB9 : Hid (Below w.heap.size w (y1.setRow (w.heap.size + 1) #[.int .i64 aK, .int .i64 aF, .int .i64 aO, .int .i64 aT, .int .i64 aS, .int .i64 aL, .int .i64 aC, .bool aY, .slice la ll lc, .int .i64 ek, .int .i64 ef, .int .i64 en, .slice ta tl tc, .int .i64 0, .int .i64 0, .int .i64 0, .slice none 0 0])) := below_setRow (unhide HB1) (by omega)
  have HZ9 : Hid ((y1.setRow (w.heap.size + 1) #[.int .i64 aK, .int .i64 aF, .int .i64 aO, .int .i64 aT, .int .i64 aS, .int .i64 aL, .int .i64 aC, .bool aY, .slice la ll lc, .int .i64 ek, .int .i64 ef, .int .i64 en, .slice ta tl tc, .int .i64 0, .int .i64 0, .int .i64 0, .slice none 0 0]).heap[w.heap.size + 1]? = some (.cells #[.int .i64 aK, .int .i64 aF, .int .i64 aO, .int .i64 aT, .int .i64 aS, .int .i64 aL, .int .i64 aC, .bool aY, .slice la ll lc, .int .i64 ek, .int .i64 ef, .int .i64 en, .slice ta tl tc, .int .i64 0, .int .i64 0, .int .i64 0, .slice none 0 0] 38)) := setRow_heap _ _ _ _ _ _ (unhide HZ1)
  obtain ⟨y9, hy9⟩ : ∃ y, (y1.setRow (w.heap.size + 1) #[.int .i64 aK, .int .i64 aF, .int .i64 aO, .int .i64 aT, .int .i64 aS, .int .i64 aL, .int .i64 aC, .bool aY, .slice la ll lc, .int .i64 ek, .int .i64 ef, .int .i64 en, .slice ta tl tc, .int .i64 0, .int .i64 0, .int .i64 0, .slice none 0 0]) = y := ⟨_, rfl⟩
  rw [hy9] at HB9 HZ9
  go_enter Try.func39, Try.ntmps39
  go_wp2_with (first | rw [hy1] | rw [hy9] | rw [hy0] | refine wpList_load_row rfl 38 _ rfl w.heap.size rfl 38 _ (0, 0) _ (unhide HX1) Try.underlying38 rfl (by kernel_rfl) ?_ | refine wpList_store_row rfl 38 _ _ rfl (w.heap.size + 1) _ _ rfl rfl 38 (unhide HZ1) (by kernel_rfl) rfl (by first | kernel_rfl | simp [Value.oneCell']) ?_)
  refine bodyPost_ret (results_cell_row rfl _ _ (w.heap.size + 1) 38 #[.int .i64 aK, .int .i64 aF, .int .i64 aO, .int .i64 aT, .int .i64 aS, .int .i64 aL, .int .i64 aC, .bool aY, .slice la ll lc, .int .i64 ek, .int .i64 ef, .int .i64 en, .slice ta tl tc, .int .i64 0, .int .i64 0, .int .i64 0, .slice none 0 0] (0, 0) _ rfl (unhide HZ9) Try.underlying38 rfl (by kernel_rfl)) rfl ?_
  refine ⟨_, rfl, fun w0 h => ?_, unhide HB9⟩
  obtain ⟨_, _, _, e, a, b, c⟩ := h
  simp only [Array.mk.injEq, List.cons.injEq, true_and, and_true] at e
  obtain ⟨rfl, rfl, rfl⟩ := e
  exact ⟨_, _, _, rfl, a, b, Sees.nil _ _⟩
theorem without_any (cs : Array Value) (m : MsgD) (f : Int) (w : World) (hM : SeesM w cs m) (hf0 : 0 ≤ f) (hf7 : f ≤ 7) :
    Calls Try.prog 39 #[.agg cs, .int .i64 f] w fun e w' => ∃ cs', e = .returned (.agg cs') ∧ (∀ w0, SeesM w0 cs m → SeesM w0 cs' (wout f m)) ∧ Below w.heap.size w w' := by
  by_cases h0 : f = 0
  case pos =>
    subst h0
    exact without0_any cs m w hM
  by_cases h1 : f = 1
  case pos =>
    subst h1
    exact without1_any cs m w hM
  by_cases h2 : f = 2
  case pos =>
    subst h2
    exact without2_any cs m w hM
  by_cases h3 : f = 3
  case pos =>
    subst h3
    exact without3_any cs m w hM
  by_cases h4 : f = 4
  case pos =>
    subst h4
    exact without4_any cs m w hM
  by_cases h5 : f = 5
  case pos =>
    subst h5
    exact without5_any cs m w hM
  by_cases h6 : f = 6
  case pos =>
    subst h6
    exact without6_any cs m w hM
  by_cases h7 : f = 7
  case pos =>
    subst h7
    exact without7_any cs m w hM
  omega
end Go.Proofs.Ytoddemcmmijoaaa

/- Record: messageMayBe. -/
namespace Go.Proofs.Ytoddemcmmijoaaa
open Go.RowKit
set_option maxRecDepth 100000

/-- A message in memory, its cells. -/
theorem SeesM.shape {w : World} {cs : Array Value} {m : MsgD} (h : SeesM w cs m) : ∃ (aK aF aO aT aS aL aC : Int) (aY : Bool) (la : Option Addr) (ll lc : Nat) (ek ef en : Int) (ta : Option Addr) (tl tc : Nat) (ps pi pm : Int) (da : Option Addr) (dl dc : Nat),
    cs = #[.int .i64 aK, .int .i64 aF, .int .i64 aO, .int .i64 aT, .int .i64 aS, .int .i64 aL, .int .i64 aC, .bool aY, .slice la ll lc, .int .i64 ek, .int .i64 ef, .int .i64 en, .slice ta tl tc, .int .i64 ps, .int .i64 pi, .int .i64 pm, .slice da dl dc] ∧ m.kind = aK ∧ m.frm = aF ∧ m.to = aO := by
  obtain ⟨_, _, _, rfl, k1, k2, k3⟩ := h
  obtain ⟨la, lc, _, _, rfl, _⟩ := k1
  obtain ⟨ta, tc, _, _, rfl, _⟩ := k2
  obtain ⟨da, dc, rfl, _⟩ := k3
  exact ⟨_, _, _, _, _, _, _, _, _, _, _, _, _, _, _, _, _, _, _, _, _, _, _, rfl, rfl, rfl, rfl⟩
/-- The fields taken out one by one: what is left is to be zero. -/
def runF : List Int → MsgD → Bool
  | [], m => decide (m = ⟨m.kind, m.frm, m.to, 0, 0, 0, 0, false, [], dE, dP⟩)
  | f :: r, m => fMay f m && runF r (wout f m)
def mayMsg (m : MsgD) : Bool := !(fieldsL m.kind).isEmpty && isRep m.frm && isRep m.to && runF (fieldsL m.kind) m
theorem fieldsL_le (k : Int) : ∀ f ∈ fieldsL k, 0 ≤ f ∧ f ≤ 7 := by
  intro f hf
  unfold fieldsL at hf
  split at hf
  · simp at hf; omega
  split at hf
  · simp at hf; omega
  split at hf
  · simp at hf; omega
  split at hf
  · simp at hf; omega
  split at hf
  · simp at hf; omega
  split at hf
  · simp at hf; omega
  · cases hf
theorem fieldsL_len (k : Int) : (fieldsL k).length ≤ 5 := by
  unfold fieldsL
  repeat' split
  all_goals simp
theorem OkM.wout {m : MsgD} (h : OkM m) (f : Int) : OkM (wout f m) := by
  obtain ⟨h1, h2, h3⟩ := h
  unfold Proofs.Ytoddemcmmijoaaa.wout
  repeat' split
  all_goals first | exact ⟨h1, h2, h3⟩ | exact ⟨(fun x hx => by cases hx), h2, h3⟩ | exact ⟨h1, okTs_nil, h3⟩ | exact ⟨h1, h2, fun x hx => by cases hx⟩
def StF (w v : World) (cs : Array Value) (g : Nat) (ob : Obj) : Prop := v.heap[w.heap.size]? = some (.cells cs 38) ∧ v.heap[g]? = some ob ∧ Below w.heap.size w v
theorem rowF {w v : World} {cs cs' : Array Value} {g : Nat} {ob : Obj} (hg : w.heap.size < g) (h : StF w v cs g ob) : StF w (v.setRow w.heap.size cs') cs' g ob :=
  ⟨setRow_heap _ _ _ _ _ _ h.1, (setRow_other _ _ _ _ (by omega)).trans h.2.1, below_setRow h.2.2 (Nat.le_refl _)⟩
set_option maxHeartbeats 800000 in
theorem fieldsOf_at (k : Int) (w : World) : Calls Try.prog 36 #[.int .i64 k] w fun e w' => ∃ v, e = .returned v ∧ ((fieldsL k = [] ∧ v = .slice none 0 0) ∨ ∃ g, v = .slice (some ⟨g, 0, none⟩) (fieldsL k).length (fieldsL k).length ∧ w.heap.size ≤ g ∧ w'.heap[g]? = some (.cells ((fieldsL k).map (Value.int .i64)).toArray 85)) ∧ Below w.heap.size w w' := by
  by_cases h1 : k = 1
  case pos =>
    subst h1
    go_enter Try.func36, Try.ntmps36
    go_wp2
    go_ret
    exact ⟨_, rfl, .inr ⟨_, rfl, Nat.le_refl _, heap_alloc_new w (.cells (([0, 1, 2] : List Int).map (Value.int .i64)).toArray 85)⟩, (Below.refl _ _).alloc (Nat.le_refl _) _⟩
  by_cases h2 : k = 2
  case pos =>
    subst h2
    go_enter Try.func36, Try.ntmps36
    go_wp2
    go_ret
    exact ⟨_, rfl, .inr ⟨_, rfl, Nat.le_refl _, heap_alloc_new w (.cells (([0, 4] : List Int).map (Value.int .i64)).toArray 85)⟩, (Below.refl _ _).alloc (Nat.le_refl _) _⟩
  by_cases h3 : k = 3
  case pos =>
    subst h3
    go_enter Try.func36, Try.ntmps36
    go_wp2
    go_ret
    exact ⟨_, rfl, .inr ⟨_, rfl, Nat.le_refl _, heap_alloc_new w (.cells (([0, 1, 2, 3, 5] : List Int).map (Value.int .i64)).toArray 85)⟩, (Below.refl _ _).alloc (Nat.le_refl _) _⟩
  by_cases h4 : k = 4
  case pos =>
    subst h4
    go_enter Try.func36, Try.ntmps36
    go_wp2
    go_ret
    exact ⟨_, rfl, .inr ⟨_, rfl, Nat.le_refl _, heap_alloc_new w (.cells (([0, 4, 1] : List Int).map (Value.int .i64)).toArray 85)⟩, (Below.refl _ _).alloc (Nat.le_refl _) _⟩
  by_cases h5 : k = 5
  case pos =>
    subst h5
    go_enter Try.func36, Try.ntmps36
    go_wp2
    go_ret
    exact ⟨_, rfl, .inr ⟨_, rfl, Nat.le_refl _, heap_alloc_new w (.cells (([0, 1, 2, 7] : List Int).map (Value.int .i64)).toArray 85)⟩, (Below.refl _ _).alloc (Nat.le_refl _) _⟩
  by_cases h6 : k = 6
  case pos =>
    subst h6
    go_enter Try.func36, Try.ntmps36
    go_wp2
    go_ret
    exact ⟨_, rfl, .inr ⟨_, rfl, Nat.le_refl _, heap_alloc_new w (.cells (([6] : List Int).map (Value.int .i64)).toArray 85)⟩, (Below.refl _ _).alloc (Nat.le_refl _) _⟩
  case neg =>
    go_enter Try.func36, Try.ntmps36
    go_wp2
    go_ret
    refine ⟨_, rfl, .inl ⟨?_, rfl⟩, Below.refl _ _⟩
    simp only [fieldsL, h1, h2, h3, h4, h5, h6, if_false]

set_option maxHeartbeats 3200000 in
theorem messageMayBe_any (cs : Array Value) (m : MsgD) (w : World) (hM : SeesM w cs m) (oM : OkM m) :
    Calls Try.prog 28 #[.agg cs] w fun e w' => e = .returned (.bool (mayMsg m)) ∧ Below w.heap.size w w' := by
  have HM := hide hM
  have HOM := hide oM
  obtain ⟨aK, aF, aO, aT, aS, aL, aC, aY, la, ll, lc, ek, ef, en, ta, tl, tc, ps, pi, pm, da, dl, dc, rfl, eK, eF, eO⟩ := hM.shape
  have hMM : mayMsg m = (!(fieldsL aK).isEmpty && isRep aF && isRep aO && runF (fieldsL aK) m) := by unfold mayMsg; rw [eK, eF, eO]
  rw [hMM]
  clear hMM eK eF eO oM hM
  have hB1 : Below w.heap.size w (w.alloc (.cells #[.int .i64 aK, .int .i64 aF, .int .i64 aO, .int .i64 aT, .int .i64 aS, .int .i64 aL, .int .i64 aC, .bool aY, .slice la ll lc, .int .i64 ek, .int .i64 ef, .int .i64 en, .slice ta tl tc, .int .i64 ps, .int .i64 pi, .int .i64 pm, .slice da dl dc] 38)) := (Below.refl _ _).alloc (Nat.le_refl _) _
  have HB1 := hide hB1
  have HF := hide (fieldsOf_at aK (w.alloc (.cells #[.int .i64 aK, .int .i64 aF, .int .i64 aO, .int .i64 aT, .int .i64 aS, .int .i64 aL, .int .i64 aC, .bool aY, .slice la ll lc, .int .i64 ek, .int .i64 ef, .int .i64 en, .slice ta tl tc, .int .i64 ps, .int .i64 pi, .int .i64 pm, .slice da dl dc] 38)))
  have HW1 : Hid ((w.alloc (.cells #[.int .i64 aK, .int .i64 aF, .int .i64 aO, .int .i64 aT, .int .i64 aS, .int .i64 aL, .int .i64 aC, .bool aY, .slice la ll lc, .int .i64 ek, .int .i64 ef, .int .i64 en, .slice ta tl tc, .int .i64 ps, .int .i64 pi, .int .i64 pm, .slice da dl dc] 38)).heap[w.heap.size]? = some (.cells #[.int .i64 aK, .int .i64 aF, .int .i64 aO, .int .i64 aT, .int .i64 aS, .int .i64 aL, .int .i64 aC, .bool aY, .slice la ll lc, .int .i64 ek, .int .i64 ef, .int .i64 en, .slice ta tl tc, .int .i64 ps, .int .i64 pi, .int .i64 pm, .slice da dl dc] 38)) := heap_alloc_new w _
  have HFL := hide (fieldsL_le aK)
  have HFN := hide (fieldsL_len aK)
  obtain ⟨F, hF⟩ : ∃ l, fieldsL aK = l := ⟨_, rfl⟩
  rw [hF] at HF HFL HFN ⊢
  clear hF hB1
  go_enter Try.func28, Try.ntmps28
  go_wp2_with fail
  refine (unhide HF).mono ?_
  rintro e w1 ⟨v, rfl, hv, hb1⟩
  have hs1 : w.heap.size + 1 ≤ w1.heap.size := by have := hb1.size; simpa using this
  have hx1 : w1.heap[w.heap.size]? = some (.cells #[.int .i64 aK, .int .i64 aF, .int .i64 aO, .int .i64 aT, .int .i64 aS, .int .i64 aL, .int .i64 aC, .bool aY, .slice la ll lc, .int .i64 ek, .int .i64 ef, .int .i64 en, .slice ta tl tc, .int .i64 ps, .int .i64 pi, .int .i64 pm, .slice da dl dc] 38) := (hb1.block _ (by simp)).trans (unhide HW1)
  have HX1 := hide hx1
  have HBa : Hid (Below w.heap.size w w1) := (unhide HB1).trans (hb1.mono (by simp))
  have c0 : w1.cell? ⟨w.heap.size, 0, none⟩ = some (.int .i64 aK) := cell_of_heap hx1
  have c1 : w1.cell? ⟨w.heap.size, 1, none⟩ = some (.int .i64 aF) := cell_of_heap hx1
  have c2 : w1.cell? ⟨w.heap.size, 2, none⟩ = some (.int .i64 aO) := cell_of_heap hx1
  rcases hv with ⟨rfl, rfl⟩ | ⟨g, rfl, hg, hgh⟩
  · clear hb1 hx1
    go_wp2_with fail
    go_ret
    exact ⟨retBool (by simp), unhide HBa⟩
  have hg1 : w.heap.size < g := by simp at hg; omega
  have HG := hide hgh
  clear hb1 hx1 hg hgh HF HB1 HW1
  obtain ⟨n, hn⟩ : ∃ n, F.length = n := ⟨_, rfl⟩
  rw [hn]
  by_cases hn0 : n = 0
  · subst hn0
    obtain rfl : F = [] := List.length_eq_zero_iff.1 hn
    go_wp2_with fail
    go_ret
    exact ⟨retBool (by simp), unhide HBa⟩
  have hne : F.isEmpty = false := by cases F with | nil => exact absurd hn.symm hn0 | cons => rfl
  have HNE := hide hne
  have HN := hide hn
  have hn0b : ((n : Int) == 0) = false := by simpa using hn0
  clear hne hn
  cases h1 : isRep aF with
  | false =>
    go_wp2_with (first | (go_at_call 37; refine (isReplica_any _ _).mono ?_; rintro e w' ⟨rfl, rfl⟩) | fail)
    go_ret
    exact ⟨retBool (by simp [h1]), unhide HBa⟩
  | true =>
  cases h2 : isRep aO with
  | false =>
    go_wp2_with (first | (go_at_call 37; refine (isReplica_any _ _).mono ?_; rintro e w' ⟨rfl, rfl⟩) | fail)
    go_ret
    exact ⟨retBool (by simp [h2]), unhide HBa⟩
  | true =>
  have HH1 := hide h1
  have HH2 := hide h2
  have hn5 : n ≤ 9223372036854775807 := by have := unhide HFN; have := unhide HN; omega
  go_wp2_with (first | (go_at_call 37; refine (isReplica_any _ _).mono ?_; rintro e w' ⟨rfl, rfl⟩) | fail)
  go_loopw [26] (fun c wr => ∃ (t : Nat) (cs' : Array Value) (mt : MsgD), t ≤ n ∧ c = .int .i64 t ∧ StF w wr cs' g (.cells (F.map (Value.int .i64)).toArray 85) ∧ SeesM w cs' mt ∧ OkM mt ∧ runF F m = runF (F.drop t) mt) (fun c _ => n - (intOf c).toNat)
  case atStart => exact ⟨0, _, m, by omega, rfl, ⟨unhide HX1, unhide HG, unhide HBa⟩, unhide HM, unhide HOM, rfl⟩
  case round =>
    clear c0 c1 c2
    obtain ⟨t, cs', mt, ht, rfl, hst, hse, hok, hrun⟩ := hrel
    have HSE := hide hse
    have HRUN := hide hrun
    have HOK := hide hok
    have HST := hide hst
    obtain ⟨baK, baF, baO, baT, baS, baL, baC, baY, bla, bll, blc, bek, bef, ben, bta, btl, btc, bps, bpi, bpm, bda, bdl, bdc, rfl, eK, eF, eO⟩ := hse.shape
    have q0 : wr.cell? ⟨w.heap.size, 0, none⟩ = some (.int .i64 baK) := cell_of_heap hst.1
    have q1 : wr.cell? ⟨w.heap.size, 1, none⟩ = some (.int .i64 baF) := cell_of_heap hst.1
    have q2 : wr.cell? ⟨w.heap.size, 2, none⟩ = some (.int .i64 baO) := cell_of_heap hst.1
    have HXr := hide hst.1
    by_cases hlt : t < n
    · have hltF : t < F.length := by rw [unhide HN]; exact hlt
      obtain ⟨f, hf⟩ : ∃ f, F[t] = f := ⟨_, rfl⟩
      have hcf : wr.cell? ⟨g, 0 + t, none⟩ = some (.int .i64 f) := by
        rw [cell_of_row _ _ _ _ _ _ hst.2.1]
        simp [hltF, hf]
      have hcf' : wr.cell? ⟨g, t, none⟩ = some (.int .i64 f) := by rw [Nat.zero_add] at hcf; exact hcf
      have hfr := unhide HFL f (by rw [← hf]; exact List.getElem_mem hltF)
      have hdr : F.drop t = f :: F.drop (t + 1) := by rw [List.drop_eq_getElem_cons hltF, hf]
      have hrn : runF F m = (fMay f mt && runF (F.drop (t + 1)) (wout f mt)) := by rw [hrun, hdr, runF]
      have HRN := hide hrn
      have HFM := hide (fieldMayBe_any _ mt f wr (hse.below hst.2.2) hok hfr.1 hfr.2)
      have HWO : Hid (∀ x, Below wr.heap.size wr x → Calls Try.prog 39 #[.agg #[.int .i64 baK, .int .i64 baF, .int .i64 baO, .int .i64 baT, .int .i64 baS, .int .i64 baL, .int .i64 baC, .bool baY, .slice bla bll blc, .int .i64 bek, .int .i64 bef, .int .i64 ben, .slice bta btl btc, .int .i64 bps, .int .i64 bpi, .int .i64 bpm, .slice bda bdl bdc], .int .i64 f] x fun e w' => ∃ cs', e = .returned (.agg cs') ∧ (∀ w0, SeesM w0 #[.int .i64 baK, .int .i64 baF, .int .i64 baO, .int .i64 baT, .int .i64 baS, .int .i64 baL, .int .i64 baC, .bool baY, .slice bla bll blc, .int .i64 bek, .int .i64 bef, .int .i64 ben, .slice bta btl btc, .int .i64 bps, .int .i64 bpi, .int .i64 bpm, .slice bda bdl bdc] mt → SeesM w0 cs' (wout f mt)) ∧ Below x.heap.size x w') := fun x hx => without_any _ mt f x ((hse.below hst.2.2).below hx) hfr.1 hfr.2
      clear hst hse hok hrun hdr hrn hfr hf eK eF eO HRUN
      go_wp2_with (refine wpList_load_row rfl 38 _ rfl w.heap.size rfl 38 _ (0, 0) _ (unhide HXr) Try.underlying38 rfl (by kernel_rfl) ?_)
      refine (unhide HFM).mono ?_
      rintro e w2 ⟨rfl, hb2⟩
      have HB2 := hide hb2
      cases hmy : fMay f mt with
      | false =>
        have hfin : runF F m = false := by rw [unhide HRN, hmy]; rfl
        have HB9 : Hid (Below w.heap.size w w2) := (unhide HST).2.2.trans (hb2.mono (unhide HST).2.2.size)
        clear hb2 HFM
        go_wp2_with fail
        go_ret
        exact ⟨retBool (by rw [unhide HNE, unhide HH1, unhide HH2, hfin]; rfl), unhide HB9⟩
      | true =>
        have hx2 : w2.heap[w.heap.size]? = some (.cells #[.int .i64 baK, .int .i64 baF, .int .i64 baO, .int .i64 baT, .int .i64 baS, .int .i64 baL, .int .i64 baC, .bool baY, .slice bla bll blc, .int .i64 bek, .int .i64 bef, .int .i64 ben, .slice bta btl btc, .int .i64 bps, .int .i64 bpi, .int .i64 bpm, .slice bda bdl bdc] 38) := (hb2.block _ (by have := (Array.getElem?_eq_some_iff.1 (unhide HST).1).1; exact this)).trans (unhide HST).1
        have HX2 := hide hx2
        have hrn2 : runF F m = runF (F.drop (t + 1)) (wout f mt) := by rw [unhide HRN, hmy, Bool.true_and]
        have HRN2 := hide hrn2
        clear hb2 HFM hrn2 HRN
        go_wp2_with (refine wpList_load_row rfl 38 _ rfl w.heap.size rfl 38 _ (0, 0) _ (unhide HX2) Try.underlying38 rfl (by kernel_rfl) ?_)
        refine (unhide HWO w2 (unhide HB2)).mono ?_
        rintro e w3 ⟨cs3, rfl, hp3, hb3⟩
        have hse3 := hp3 w (unhide HSE)
        have HSE3 := hide hse3
        obtain ⟨caK, caF, caO, caT, caS, caL, caC, caY, cla, cll, clc, cek, cef, cen, cta, ctl, ctc, cps, cpi, cpm, cda, cdl, cdc, rfl, eK, eF, eO⟩ := hse3.shape
        have hst3 : StF w w3 #[.int .i64 baK, .int .i64 baF, .int .i64 baO, .int .i64 baT, .int .i64 baS, .int .i64 baL, .int .i64 baC, .bool baY, .slice bla bll blc, .int .i64 bek, .int .i64 bef, .int .i64 ben, .slice bta btl btc, .int .i64 bps, .int .i64 bpi, .int .i64 bpm, .slice bda bdl bdc] g (.cells (F.map (Value.int .i64)).toArray 85) := by
          have s2 := (unhide HB2).size
          refine ⟨(hb3.block _ ?_).trans hx2, (hb3.block _ ?_).trans (((unhide HB2).block _ ?_).trans (unhide HST).2.1), ((unhide HST).2.2.trans ((unhide HB2).mono (unhide HST).2.2.size)).trans (hb3.mono (Nat.le_trans (unhide HST).2.2.size s2))⟩
          · exact (Array.getElem?_eq_some_iff.1 hx2).1
          · have := (Array.getElem?_eq_some_iff.1 (unhide HST).2.1).1; omega
          · exact (Array.getElem?_eq_some_iff.1 (unhide HST).2.1).1
        have HX3 := hide hst3.1
        have h9 : StF w (w3.setRow w.heap.size #[.int .i64 caK, .int .i64 caF, .int .i64 caO, .int .i64 caT, .int .i64 caS, .int .i64 caL, .int .i64 caC, .bool caY, .slice cla cll clc, .int .i64 cek, .int .i64 cef, .int .i64 cen, .slice cta ctl ctc, .int .i64 cps, .int .i64 cpi, .int .i64 cpm, .slice cda cdl cdc]) #[.int .i64 caK, .int .i64 caF, .int .i64 caO, .int .i64 caT, .int .i64 caS, .int .i64 caL, .int .i64 caC, .bool caY, .slice cla cll clc, .int .i64 cek, .int .i64 cef, .int .i64 cen, .slice cta ctl ctc, .int .i64 cps, .int .i64 cpi, .int .i64 cpm, .slice cda cdl cdc] g (.cells (F.map (Value.int .i64)).toArray 85) := rowF hg1 hst3
        obtain ⟨y9, hy9⟩ : ∃ y, (w3.setRow w.heap.size #[.int .i64 caK, .int .i64 caF, .int .i64 caO, .int .i64 caT, .int .i64 caS, .int .i64 caL, .int .i64 caC, .bool caY, .slice cla cll clc, .int .i64 cek, .int .i64 cef, .int .i64 cen, .slice cta ctl ctc, .int .i64 cps, .int .i64 cpi, .int .i64 cpm, .slice cda cdl cdc]) = y := ⟨_, rfl⟩
        rw [hy9] at h9
        have H9 := hide h9
        clear h9 hst3 hx2 hp3 hb3 hse3 eK eF eO
        go_wp2_with (first | rw [hy9] | refine wpList_store_row rfl 38 _ _ rfl w.heap.size _ _ rfl rfl 38 (unhide HX3) (by kernel_rfl) rfl (by first | kernel_rfl | simp [Value.oneCell']) ?_)
        go_roundw
        case rel => exact ⟨t + 1, _, wout f mt, by omega, by go_num, unhide H9, unhide HSE3, (unhide HOK).wout f, unhide HRN2⟩
        case measure => simp [intOf]; omega
    · obtain rfl : n = t := by omega
      have hdr : F.drop n = [] := List.drop_eq_nil_of_le (by rw [unhide HN]; exact Nat.le_refl _)
      have hrn : runF F m = decide (mt = ⟨mt.kind, mt.frm, mt.to, 0, 0, 0, 0, false, [], dE, dP⟩) := by rw [hrun, hdr, runF]
      have HSM := hide (sameMsg_any _ #[.int .i64 baK, .int .i64 baF, .int .i64 baO, .int .i64 0, .int .i64 0, .int .i64 0, .int .i64 0, .bool false, .slice none 0 0, .int .i64 0, .int .i64 0, .int .i64 0, .slice none 0 0, .int .i64 0, .int .i64 0, .int .i64 0, .slice none 0 0] mt ⟨mt.kind, mt.frm, mt.to, 0, 0, 0, 0, false, [], dE, dP⟩ wr (hse.below hst.2.2) ⟨.slice none 0 0, .slice none 0 0, .slice none 0 0, by rw [eK, eF, eO]; rfl, SeesTms.nil _, SeesTs.nil _, Sees.nil _ _⟩ hok ⟨(fun x hx => by cases hx), okTs_nil, fun x hx => by cases hx⟩)
      rw [← hrn] at HSM
      have HB8 := hide hst.2.2
      clear hst hse hok hrun hdr hrn eK eF eO HRUN
      go_wp2_with (refine wpList_load_row rfl 38 _ rfl w.heap.size rfl 38 _ (0, 0) _ (unhide HXr) Try.underlying38 rfl (by kernel_rfl) ?_)
      refine (unhide HSM).mono ?_
      rintro e w2 ⟨rfl, hb2⟩
      have HB9 : Hid (Below w.heap.size w w2) := (unhide HB8).trans (hb2.mono (unhide HB8).size)
      clear hb2 HSM
      go_wp2_with fail
      go_ret
      exact ⟨retBool (by rw [unhide HNE, unhide HH1, unhide HH2]; simp), unhide HB9⟩
end Go.Proofs.Ytoddemcmmijoaaa
