/- Record: CloneTxn. -/
import Derived.Test.YtoddemcmmijoaaaNA
namespace Go.Proofs.Ytoddemcmmijoaaa
open Go.RowKit
set_option maxRecDepth 100000

set_option maxHeartbeats 1600000 in
theorem cloneTxn_any (cs : Array Value) (t : TxnD) (w : World) (hT : SeesT w cs t) (h1 : t.code.length ≤ 140737488351232) (h2 : t.args.length ≤ 17592186043904) (h3 : t.reads.length ≤ 8796093021952) (h4 : t.writes.length ≤ 8796093021952) :
    Calls Try.prog 43 #[.agg cs] w fun e w' => ∃ cs', e = .returned (.agg cs') ∧ OwnT w.heap.size w' cs' t ∧ Below w.heap.size w w' := by
  obtain ⟨n1, n2, l3, l4, l5, l6⟩ := t
  obtain ⟨cv, av, rv, wv, rfl, k1, k2, k3, k4⟩ := hT
  simp only at k1 k2 k3 k4 h1 h2 h3 h4 ⊢
  have K3 := hide k1
  have K4 := hide k2
  have K5 := hide k3
  have K6 := hide k4
  obtain ⟨ac, cc, rfl, _⟩ := k1
  obtain ⟨aa, ca, rfl, _⟩ := k2
  obtain ⟨ar, cr, _, _, rfl, _⟩ := k3
  obtain ⟨aw, cw, _, _, rfl, _⟩ := k4
  have hal : Below w.heap.size w ((w.alloc (.cells #[.int .i64 n1, .int .i64 n2, .slice ac l3.length cc, .slice aa l4.length ca, .slice ar l5.length cr, .slice aw l6.length cw] 81)).alloc (.cells #[.int .i64 0, .int .i64 0, .slice none 0 0, .slice none 0 0, .slice none 0 0, .slice none 0 0] 81)) := ((Below.refl _ _).alloc (Nat.le_refl _) _).alloc (by simp) _
  have e0 : (w.alloc (.cells #[.int .i64 n1, .int .i64 n2, .slice ac l3.length cc, .slice aa l4.length ca, .slice ar l5.length cr, .slice aw l6.length cw] 81)).heap.size = w.heap.size + 1 := by simp
  have hx0 : ((w.alloc (.cells #[.int .i64 n1, .int .i64 n2, .slice ac l3.length cc, .slice aa l4.length ca, .slice ar l5.length cr, .slice aw l6.length cw] 81)).alloc (.cells #[.int .i64 0, .int .i64 0, .slice none 0 0, .slice none 0 0, .slice none 0 0, .slice none 0 0] 81)).heap[w.heap.size]? = some (.cells #[.int .i64 n1, .int .i64 n2, .slice ac l3.length cc, .slice aa l4.length ca, .slice ar l5.length cr, .slice aw l6.length cw] 81) := (Below.heap_alloc _ _ _ (by simp)).trans (heap_alloc_new w _)
  have hz0 : ((w.alloc (.cells #[.int .i64 n1, .int .i64 n2, .slice ac l3.length cc, .slice aa l4.length ca, .slice ar l5.length cr, .slice aw l6.length cw] 81)).alloc (.cells #[.int .i64 0, .int .i64 0, .slice none 0 0, .slice none 0 0, .slice none 0 0, .slice none 0 0] 81)).heap[w.heap.size + 1]? = some (.cells #[.int .i64 0, .int .i64 0, .slice none 0 0, .slice none 0 0, .slice none 0 0, .slice none 0 0] 81) := by have := heap_alloc_new (w.alloc (.cells #[.int .i64 n1, .int .i64 n2, .slice ac l3.length cc, .slice aa l4.length ca, .slice ar l5.length cr, .slice aw l6.length cw] 81)) (.cells #[.int .i64 0, .int .i64 0, .slice none 0 0, .slice none 0 0, .slice none 0 0, .slice none 0 0] 81); rw [e0] at this; exact this
  have hs0 : w.heap.size + 2 ≤ ((w.alloc (.cells #[.int .i64 n1, .int .i64 n2, .slice ac l3.length cc, .slice aa l4.length ca, .slice ar l5.length cr, .slice aw l6.length cw] 81)).alloc (.cells #[.int .i64 0, .int .i64 0, .slice none 0 0, .slice none 0 0, .slice none 0 0, .slice none 0 0] 81)).heap.size := by simp
  have HX2 := hide hx0
  have HZ2 := hide hz0
  have HS2 := hide hs0
  have HB2 := hide hal
  have HC2 := hide (cloneB_any _ l3 _ ((unhide K3).below hal) (by omega))
  clear hal e0 hx0 hz0 hs0
  go_enter Try.func43, Try.ntmps43
  go_wp2_with fail
  refine (unhide HC2).mono ?_
  rintro e u2 ⟨v2, rfl, o2, b2⟩
  obtain ⟨x2, d2, rfl⟩ := own_shapeN o2
  have hx : u2.heap[w.heap.size]? = some (.cells #[.int .i64 n1, .int .i64 n2, .slice ac l3.length cc, .slice aa l4.length ca, .slice ar l5.length cr, .slice aw l6.length cw] 81) := (b2.block _ (by have := unhide HS2; omega)).trans (unhide HX2)
  have hz : u2.heap[w.heap.size + 1]? = some (.cells #[.int .i64 0, .int .i64 0, .slice none 0 0, .slice none 0 0, .slice none 0 0, .slice none 0 0] 81) := (b2.block _ (by have := unhide HS2; omega)).trans (unhide HZ2)
  have k2 : u2.cell? ⟨w.heap.size, 2, none⟩ = some (.slice ac l3.length cc) := cell_of_heap hx
  have f2 : ∀ o, u2.frozen? ⟨w.heap.size, o, none⟩ = false := fun o => frozen_of_heap hx
  have HB3 : Hid (Below w.heap.size w (u2.setCell ⟨w.heap.size, 2, none⟩ (.slice x2 l3.length d2))) := ((unhide HB2).trans (b2.mono (unhide HB2).size)).setCell (p := ⟨w.heap.size, 2, none⟩) (Nat.le_refl _) _
  have HS3 : Hid (w.heap.size + 2 ≤ (u2.setCell ⟨w.heap.size, 2, none⟩ (.slice x2 l3.length d2)).heap.size) := by show _ ≤ _; simp only [World.setCell, Array.size_modify]; exact Nat.le_trans (unhide HS2) b2.size
  have O2x3 : Hid ((u2.setCell ⟨w.heap.size, 2, none⟩ (.slice x2 l3.length d2)).ownsRow (w.heap.size + 2) 5 1 (.slice x2 l3.length d2) l3.length (ints .u8 l3)) := own_setR (own_monoN o2 (unhide HS2)) (by omega) 2 _
  have HX3 : Hid ((u2.setCell ⟨w.heap.size, 2, none⟩ (.slice x2 l3.length d2)).heap[w.heap.size]? = some (.cells #[.int .i64 n1, .int .i64 n2, .slice x2 l3.length d2, .slice aa l4.length ca, .slice ar l5.length cr, .slice aw l6.length cw] 81)) := setCell_heap hx
  have HZ3 : Hid ((u2.setCell ⟨w.heap.size, 2, none⟩ (.slice x2 l3.length d2)).heap[w.heap.size + 1]? = some (.cells #[.int .i64 0, .int .i64 0, .slice none 0 0, .slice none 0 0, .slice none 0 0, .slice none 0 0] 81)) := (Below.heap_setCell _ _ _ _ (fun e => by simp only at e; omega)).trans hz
  have HC3 := hide (cloneI_any _ l4 _ ((unhide K4).below (unhide HB3)) (by omega))
  have q3 : (u2.setCell ⟨w.heap.size, 2, none⟩ (.slice x2 l3.length d2)).cell? ⟨w.heap.size, 3, none⟩ = some (.slice aa l4.length ca) := cell_of_heap (unhide HX3)
  clear o2 b2 hx hz HC2
  go_wp2_with fail
  refine (unhide HC3).mono ?_
  rintro e u3 ⟨v3, rfl, o3, b3⟩
  obtain ⟨x3, d3, rfl⟩ := own_shapeN o3
  have hx : u3.heap[w.heap.size]? = some (.cells #[.int .i64 n1, .int .i64 n2, .slice x2 l3.length d2, .slice aa l4.length ca, .slice ar l5.length cr, .slice aw l6.length cw] 81) := (b3.block _ (by have := unhide HS3; omega)).trans (unhide HX3)
  have hz : u3.heap[w.heap.size + 1]? = some (.cells #[.int .i64 0, .int .i64 0, .slice none 0 0, .slice none 0 0, .slice none 0 0, .slice none 0 0] 81) := (b3.block _ (by have := unhide HS3; omega)).trans (unhide HZ3)
  have k3 : u3.cell? ⟨w.heap.size, 3, none⟩ = some (.slice aa l4.length ca) := cell_of_heap hx
  have f3 : ∀ o, u3.frozen? ⟨w.heap.size, o, none⟩ = false := fun o => frozen_of_heap hx
  have HB4 : Hid (Below w.heap.size w (u3.setCell ⟨w.heap.size, 3, none⟩ (.slice x3 l4.length d3))) := ((unhide HB3).trans (b3.mono (unhide HB3).size)).setCell (p := ⟨w.heap.size, 3, none⟩) (Nat.le_refl _) _
  have HS4 : Hid (w.heap.size + 2 ≤ (u3.setCell ⟨w.heap.size, 3, none⟩ (.slice x3 l4.length d3)).heap.size) := by show _ ≤ _; simp only [World.setCell, Array.size_modify]; exact Nat.le_trans (unhide HS3) b3.size
  have O2x4 := hide (own_setR (own_below (unhide O2x3) b3) (by omega : w.heap.size < w.heap.size + 2) 3 (.slice x3 l4.length d3))
  have O3x4 : Hid ((u3.setCell ⟨w.heap.size, 3, none⟩ (.slice x3 l4.length d3)).ownsRow (w.heap.size + 2) 2 1 (.slice x3 l4.length d3) l4.length (ints .i64 l4)) := own_setR (own_monoN o3 (unhide HS3)) (by omega) 3 _
  have HX4 : Hid ((u3.setCell ⟨w.heap.size, 3, none⟩ (.slice x3 l4.length d3)).heap[w.heap.size]? = some (.cells #[.int .i64 n1, .int .i64 n2, .slice x2 l3.length d2, .slice x3 l4.length d3, .slice ar l5.length cr, .slice aw l6.length cw] 81)) := setCell_heap hx
  have HZ4 : Hid ((u3.setCell ⟨w.heap.size, 3, none⟩ (.slice x3 l4.length d3)).heap[w.heap.size + 1]? = some (.cells #[.int .i64 0, .int .i64 0, .slice none 0 0, .slice none 0 0, .slice none 0 0, .slice none 0 0] 81)) := (Below.heap_setCell _ _ _ _ (fun e => by simp only at e; omega)).trans hz
  have HC4 := hide (cloneK_any _ l5 _ ((unhide K5).below (unhide HB4)) (by omega))
  have q4 : (u3.setCell ⟨w.heap.size, 3, none⟩ (.slice x3 l4.length d3)).cell? ⟨w.heap.size, 4, none⟩ = some (.slice ar l5.length cr) := cell_of_heap (unhide HX4)
  clear o3 b3 hx hz HC3
  go_wp2_with fail
  refine (unhide HC4).mono ?_
  rintro e u4 ⟨v4, rfl, o4, b4⟩
  obtain ⟨x4, d4, rfl⟩ := own_shapeN o4
  have hx : u4.heap[w.heap.size]? = some (.cells #[.int .i64 n1, .int .i64 n2, .slice x2 l3.length d2, .slice x3 l4.length d3, .slice ar l5.length cr, .slice aw l6.length cw] 81) := (b4.block _ (by have := unhide HS4; omega)).trans (unhide HX4)
  have hz : u4.heap[w.heap.size + 1]? = some (.cells #[.int .i64 0, .int .i64 0, .slice none 0 0, .slice none 0 0, .slice none 0 0, .slice none 0 0] 81) := (b4.block _ (by have := unhide HS4; omega)).trans (unhide HZ4)
  have k4 : u4.cell? ⟨w.heap.size, 4, none⟩ = some (.slice ar l5.length cr) := cell_of_heap hx
  have f4 : ∀ o, u4.frozen? ⟨w.heap.size, o, none⟩ = false := fun o => frozen_of_heap hx
  have HB5 : Hid (Below w.heap.size w (u4.setCell ⟨w.heap.size, 4, none⟩ (.slice x4 l5.length d4))) := ((unhide HB4).trans (b4.mono (unhide HB4).size)).setCell (p := ⟨w.heap.size, 4, none⟩) (Nat.le_refl _) _
  have HS5 : Hid (w.heap.size + 2 ≤ (u4.setCell ⟨w.heap.size, 4, none⟩ (.slice x4 l5.length d4)).heap.size) := by show _ ≤ _; simp only [World.setCell, Array.size_modify]; exact Nat.le_trans (unhide HS4) b4.size
  have O2x5 := hide (own_setR (own_below (unhide O2x4) b4) (by omega : w.heap.size < w.heap.size + 2) 4 (.slice x4 l5.length d4))
  have O3x5 := hide (own_setR (own_below (unhide O3x4) b4) (by omega : w.heap.size < w.heap.size + 2) 4 (.slice x4 l5.length d4))
  have O4x5 : Hid ((u4.setCell ⟨w.heap.size, 4, none⟩ (.slice x4 l5.length d4)).ownsRow (w.heap.size + 2) 103 2 (.slice x4 l5.length d4) l5.length (keyCs l5)) := own_setR (own_monoN o4 (unhide HS4)) (by omega) 4 _
  have HX5 : Hid ((u4.setCell ⟨w.heap.size, 4, none⟩ (.slice x4 l5.length d4)).heap[w.heap.size]? = some (.cells #[.int .i64 n1, .int .i64 n2, .slice x2 l3.length d2, .slice x3 l4.length d3, .slice x4 l5.length d4, .slice aw l6.length cw] 81)) := setCell_heap hx
  have HZ5 : Hid ((u4.setCell ⟨w.heap.size, 4, none⟩ (.slice x4 l5.length d4)).heap[w.heap.size + 1]? = some (.cells #[.int .i64 0, .int .i64 0, .slice none 0 0, .slice none 0 0, .slice none 0 0, .slice none 0 0] 81)) := (Below.heap_setCell _ _ _ _ (fun e => by simp only at e; omega)).trans hz
  have HC5 := hide (cloneK_any _ l6 _ ((unhide K6).below (unhide HB5)) (by omega))
  have q5 : (u4.setCell ⟨w.heap.size, 4, none⟩ (.slice x4 l5.length d4)).cell? ⟨w.heap.size, 5, none⟩ = some (.slice aw l6.length cw) := cell_of_heap (unhide HX5)
  clear o4 b4 hx hz HC4
  go_wp2_with fail
  refine (unhide HC5).mono ?_
  rintro e u5 ⟨v5, rfl, o5, b5⟩
  obtain ⟨x5, d5, rfl⟩ := own_shapeN o5
  have hx : u5.heap[w.heap.size]? = some (.cells #[.int .i64 n1, .int .i64 n2, .slice x2 l3.length d2, .slice x3 l4.length d3, .slice x4 l5.length d4, .slice aw l6.length cw] 81) := (b5.block _ (by have := unhide HS5; omega)).trans (unhide HX5)
  have hz : u5.heap[w.heap.size + 1]? = some (.cells #[.int .i64 0, .int .i64 0, .slice none 0 0, .slice none 0 0, .slice none 0 0, .slice none 0 0] 81) := (b5.block _ (by have := unhide HS5; omega)).trans (unhide HZ5)
  have k5 : u5.cell? ⟨w.heap.size, 5, none⟩ = some (.slice aw l6.length cw) := cell_of_heap hx
  have f5 : ∀ o, u5.frozen? ⟨w.heap.size, o, none⟩ = false := fun o => frozen_of_heap hx
  have HB6 : Hid (Below w.heap.size w (u5.setCell ⟨w.heap.size, 5, none⟩ (.slice x5 l6.length d5))) := ((unhide HB5).trans (b5.mono (unhide HB5).size)).setCell (p := ⟨w.heap.size, 5, none⟩) (Nat.le_refl _) _
  have HS6 : Hid (w.heap.size + 2 ≤ (u5.setCell ⟨w.heap.size, 5, none⟩ (.slice x5 l6.length d5)).heap.size) := by show _ ≤ _; simp only [World.setCell, Array.size_modify]; exact Nat.le_trans (unhide HS5) b5.size
  have O2x6 := hide (own_setR (own_below (unhide O2x5) b5) (by omega : w.heap.size < w.heap.size + 2) 5 (.slice x5 l6.length d5))
  have O3x6 := hide (own_setR (own_below (unhide O3x5) b5) (by omega : w.heap.size < w.heap.size + 2) 5 (.slice x5 l6.length d5))
  have O4x6 := hide (own_setR (own_below (unhide O4x5) b5) (by omega : w.heap.size < w.heap.size + 2) 5 (.slice x5 l6.length d5))
  have O5x6 : Hid ((u5.setCell ⟨w.heap.size, 5, none⟩ (.slice x5 l6.length d5)).ownsRow (w.heap.size + 2) 103 2 (.slice x5 l6.length d5) l6.length (keyCs l6)) := own_setR (own_monoN o5 (unhide HS5)) (by omega) 5 _
  have HX6 : Hid ((u5.setCell ⟨w.heap.size, 5, none⟩ (.slice x5 l6.length d5)).heap[w.heap.size]? = some (.cells #[.int .i64 n1, .int .i64 n2, .slice x2 l3.length d2, .slice x3 l4.length d3, .slice x4 l5.length d4, .slice x5 l6.length d5] 81)) := setCell_heap hx
  have HZ6 : Hid ((u5.setCell ⟨w.heap.size, 5, none⟩ (.slice x5 l6.length d5)).heap[w.heap.size + 1]? = some (.cells #[.int .i64 0, .int .i64 0, .slice none 0 0, .slice none 0 0, .slice none 0 0, .slice none 0 0] 81)) := (Below.heap_setCell _ _ _ _ (fun e => by simp only at e; omega)).trans hz
  clear o5 b5 hx hz HC5
  obtain ⟨y9, hy9⟩ : ∃ y, (u5.setCell ⟨w.heap.size, 5, none⟩ (.slice x5 l6.length d5)) = y := ⟨_, rfl⟩
  rw [hy9] at HX6 HZ6 HB6 HS6 O2x6 O3x6 O4x6 O5x6
  have t0 : y9.cell? ⟨w.heap.size, 0, none⟩ = some (.int .i64 n1) := cell_of_heap (unhide HX6)
  have t1 : y9.cell? ⟨w.heap.size, 1, none⟩ = some (.int .i64 n2) := cell_of_heap (unhide HX6)
  have t2 : y9.cell? ⟨w.heap.size, 2, none⟩ = some (.slice x2 l3.length d2) := cell_of_heap (unhide HX6)
  have t3 : y9.cell? ⟨w.heap.size, 3, none⟩ = some (.slice x3 l4.length d3) := cell_of_heap (unhide HX6)
  have t4 : y9.cell? ⟨w.heap.size, 4, none⟩ = some (.slice x4 l5.length d4) := cell_of_heap (unhide HX6)
  have t5 : y9.cell? ⟨w.heap.size, 5, none⟩ = some (.slice x5 l6.length d5) := cell_of_heap (unhide HX6)
  have z0 : y9.cell? ⟨w.heap.size + 1, 0, none⟩ = some (.int .i64 0) := cell_of_heap (unhide HZ6)
  have z1 : y9.cell? ⟨w.heap.size + 1, 1, none⟩ = some (.int .i64 0) := cell_of_heap (unhide HZ6)
  have z2 : y9.cell? ⟨w.heap.size + 1, 2, none⟩ = some (.slice none 0 0) := cell_of_heap (unhide HZ6)
  have z3 : y9.cell? ⟨w.heap.size + 1, 3, none⟩ = some (.slice none 0 0) := cell_of_heap (unhide HZ6)
  have z4 : y9.cell? ⟨w.heap.size + 1, 4, none⟩ = some (.slice none 0 0) := cell_of_heap (unhide HZ6)
  have z5 : y9.cell? ⟨w.heap.size + 1, 5, none⟩ = some (.slice none 0 0) := cell_of_heap (unhide HZ6)
  have fz : ∀ o, y9.frozen? ⟨w.heap.size + 1, o, none⟩ = false := fun o => frozen_of_heap (unhide HZ6)
  go_wp2_with (rw [hy9])
  refine bodyPost_ret (results_cell_row rfl _ _ (w.heap.size + 1) 81 #[.int .i64 n1, .int .i64 n2, .slice x2 l3.length d2, .slice x3 l4.length d3, .slice x4 l5.length d4, .slice x5 l6.length d5] (0, 0) _ rfl (setCell_heap (setCell_heap (setCell_heap (setCell_heap (setCell_heap (setCell_heap (unhide HZ6))))))) Try.underlying81 rfl (by kernel_rfl)) rfl ?_
  exact ⟨_, rfl, ⟨_, _, _, _, rfl, own_monoN (own_setR (own_setR (own_setR (own_setR (own_setR (own_setR (unhide O2x6) (by omega) _ _) (by omega) _ _) (by omega) _ _) (by omega) _ _) (by omega) _ _) (by omega) _ _) (by omega), own_monoN (own_setR (own_setR (own_setR (own_setR (own_setR (own_setR (unhide O3x6) (by omega) _ _) (by omega) _ _) (by omega) _ _) (by omega) _ _) (by omega) _ _) (by omega) _ _) (by omega), own_monoN (own_setR (own_setR (own_setR (own_setR (own_setR (own_setR (unhide O4x6) (by omega) _ _) (by omega) _ _) (by omega) _ _) (by omega) _ _) (by omega) _ _) (by omega) _ _) (by omega), own_monoN (own_setR (own_setR (own_setR (own_setR (own_setR (own_setR (unhide O5x6) (by omega) _ _) (by omega) _ _) (by omega) _ _) (by omega) _ _) (by omega) _ _) (by omega) _ _) (by omega)⟩, (((((((unhide HB6).setCell (p := ⟨w.heap.size + 1, 0, none⟩) (by simp) _).setCell (p := ⟨w.heap.size + 1, 1, none⟩) (by simp) _).setCell (p := ⟨w.heap.size + 1, 2, none⟩) (by simp) _).setCell (p := ⟨w.heap.size + 1, 3, none⟩) (by simp) _).setCell (p := ⟨w.heap.size + 1, 4, none⟩) (by simp) _).setCell (p := ⟨w.heap.size + 1, 5, none⟩) (by simp) _)⟩
end Go.Proofs.Ytoddemcmmijoaaa
