/- Several texts as one. -/
import Derived.Test.YtggllgimlfchhabGreatWJ
import Derived.Test.YtggllgimlfchhabGreatJU
import Derived.Deep.Slices

/- Contracts of slices.Clone: bytes, numbers, keys. -/
namespace Go.Proofs.YtggllgimlfchhabGreat
open Go.RowKit
set_option maxRecDepth 100000

set_option maxHeartbeats 400000 in
theorem cloneB_any (bv : Value) (zs : List Int) (w : World) (hs : Sees w .u8 bv zs) (hm : zs.length ≤ 140737488355328) :
    Calls Tryz.prog 48 #[bv] w fun e w' => ∃ x, e = .returned x ∧ w'.ownsRow w.heap.size 5 1 x zs.length (ints .u8 zs) ∧ Below w.heap.size w w' := by
  obtain ⟨i0, hi, hz0, hz1, hz2⟩ := info_parts Tryz.info5
  have HS := hide hs
  have hE := fun (w : World) a n c => Lib.run_eql_slice_nil (P := Tryz.prog) w 26 5 a n c 0 0 Tryz.underlying26
  obtain ⟨ao, cap, rfl, hlc, hnil, hc⟩ := hs
  clear hc
  cases ao with
  | none =>
    obtain rfl := hnil rfl
    obtain rfl : zs = [] := List.length_eq_zero_iff.1 (by omega)
    go_enter Tryz.func48, Tryz.ntmps48
    go_wp2
    go_ret
    exact ⟨_, rfl, World.ownsRow_nil _ _ _ _, Below.refl _ _⟩
  | some a =>
    go_enter Tryz.func48, Tryz.ntmps48
    go_wp2_with (at_builtin; refine wpList_append_sees rfl _ _ 26 rfl w.heap.size 5 i0 (.int .u8 0) 1 Tryz.underlying26 hi hz0 hz1 hz2 rfl _ 0 [] rfl (own_new w .u8 [] 5 w.heap.size 0 rfl (Nat.le_refl _) (by decide)) .u8 _ zs rfl ?d0 ?d1 ?d2 ?d3 ?_)
    case d0 => exact (unhide HS).below ((Below.refl _ _).alloc (Nat.le_refl _) _)
    case d1 => unfold maxLen; omega
    case d2 => omega
    case d3 => simp
    intro x w1 ho hg
    go_wp2
    go_ret
    refine ⟨x, rfl, by simpa using ho, ((Below.refl _ _).alloc (Nat.le_refl _) _).grown hg (by simp) ?_⟩
    intro k hk
    simp [Value.ownBlock] at hk
    omega

set_option maxHeartbeats 400000 in
theorem cloneI_any (bv : Value) (zs : List Int) (w : World) (hs : Sees w .i64 bv zs) (hm : zs.length ≤ 1099511627776) :
    Calls Tryz.prog 79 #[bv] w fun e w' => ∃ x, e = .returned x ∧ w'.ownsRow w.heap.size 2 1 x zs.length (ints .i64 zs) ∧ Below w.heap.size w w' := by
  obtain ⟨i0, hi, hz0, hz1, hz2⟩ := info_parts Tryz.info2
  have HS := hide hs
  have hE := fun (w : World) a n c => Lib.run_eql_slice_nil (P := Tryz.prog) w 67 2 a n c 0 0 Tryz.underlying67
  obtain ⟨ao, cap, rfl, hlc, hnil, hc⟩ := hs
  clear hc
  cases ao with
  | none =>
    obtain rfl := hnil rfl
    obtain rfl : zs = [] := List.length_eq_zero_iff.1 (by omega)
    go_enter Tryz.func79, Tryz.ntmps79
    go_wp2
    go_ret
    exact ⟨_, rfl, World.ownsRow_nil _ _ _ _, Below.refl _ _⟩
  | some a =>
    go_enter Tryz.func79, Tryz.ntmps79
    go_wp2_with (at_builtin; refine wpList_append_sees rfl _ _ 67 rfl w.heap.size 2 i0 (.int .i64 0) 8 Tryz.underlying67 hi hz0 hz1 hz2 rfl _ 0 [] rfl (own_new w .i64 [] 2 w.heap.size 0 rfl (Nat.le_refl _) (by decide)) .i64 _ zs rfl ?d0 ?d1 ?d2 ?d3 ?_)
    case d0 => exact (unhide HS).below ((Below.refl _ _).alloc (Nat.le_refl _) _)
    case d1 => unfold maxLen; omega
    case d2 => omega
    case d3 => simp
    intro x w1 ho hg
    go_wp2
    go_ret
    refine ⟨x, rfl, by simpa using ho, ((Below.refl _ _).alloc (Nat.le_refl _) _).grown hg (by simp) ?_⟩
    intro k hk
    simp [Value.ownBlock] at hk
    omega


theorem own_empty0 (w : World) (T size : Nat) : (w.alloc (.cells #[] T)).ownsRow w.heap.size T size (.slice (some ⟨w.heap.size, 0, none⟩) 0 0) 0 [] :=
  ⟨by simp, .inr ⟨w.heap.size, 0, #[], rfl, Nat.le_refl _, heap_alloc_new w _, Nat.le_refl _, by unfold maxLen; omega, by simp, by simp⟩⟩
theorem keyCs_length : ∀ l : List (Int × Int), (keyCs l).length = l.length * 2
  | [] => rfl
  | k :: l => by simp only [keyCs, List.length_cons, keyCs_length l]; omega
theorem keyCs_one : ∀ (l : List (Int × Int)), ∀ u ∈ keyCs l, u.oneCell' = true
  | [], u, h => by cases h
  | k :: l, u, h => by
    simp only [keyCs, List.mem_cons] at h
    rcases h with rfl | rfl | h
    · rfl
    · rfl
    · exact keyCs_one l u h
theorem keys_cells {w : World} {gb ob : Nat} {l : List (Int × Int)} (h : ∀ t, t < l.length → w.cell? ⟨gb, ob + t * 2, none⟩ = some (.int .i32 (l.getD t (0, 0)).1) ∧ w.cell? ⟨gb, ob + t * 2 + 1, none⟩ = some (.int .i64 (l.getD t (0, 0)).2)) (j : Nat) (u : Value) (hu : (keyCs l)[j]? = some u) : w.cell? ((⟨gb, ob, none⟩ : Addr).add j) = some u := by
  have hj : j < l.length * 2 := by have := (List.getElem?_eq_some_iff.1 hu).1; rwa [keyCs_length] at this
  have hadd : (⟨gb, ob, none⟩ : Addr).add j = ⟨gb, ob + j, none⟩ := by unfold Addr.add; split <;> simp_all
  rw [hadd]
  have ht : j / 2 < l.length := by omega
  obtain ⟨c0, c1⟩ := h (j / 2) ht
  obtain ⟨k0, k1⟩ := keyCs_at l (j / 2) ht
  by_cases e : j % 2 = 0
  · have ej : j / 2 * 2 = j := by omega
    rw [ej] at k0 c0
    rw [k0] at hu
    rw [c0, hu]
  · have ej : j / 2 * 2 + 1 = j := by omega
    rw [ej] at k1
    rw [Nat.add_assoc, ej] at c1
    rw [k1] at hu
    rw [c1, hu]

set_option maxHeartbeats 400000 in
theorem cloneK_any (v : Value) (l : List (Int × Int)) (w : World) (hs : SeesK w v l) (hm : l.length ≤ 1099511627776) :
    Calls Tryz.prog 80 #[v] w fun e w' => ∃ x, e = .returned x ∧ w'.ownsRow w.heap.size 91 2 x l.length (keyCs l) ∧ Below w.heap.size w w' := by
  obtain ⟨i0, hi, hz0, hz1, hz2⟩ := info_parts Tryz.info91
  have hE := fun (w : World) a n c => Lib.run_eql_slice_nil (P := Tryz.prog) w 68 91 a n c 0 0 Tryz.underlying68
  obtain ⟨ao, cap, gb, ob, rfl, hlc, _, hao, hc⟩ := hs
  have HC := hide hc
  clear hc
  cases ao with
  | none =>
    obtain rfl : l = [] := by
      cases l with
      | nil => rfl
      | cons x r => have := hao (by simp); cases this
    go_enter Tryz.func80, Tryz.ntmps80
    go_wp2
    go_ret
    exact ⟨_, rfl, World.ownsRow_nil _ _ _ _, Below.refl _ _⟩
  | some a =>
    have HN : Hid (∀ j u, (keyCs l)[j]? = some u → (w.alloc (.cells #[] 91)).cell? (a.add j) = some u) := fun j u hu => by
      have hpos : 0 < l.length := by
        have := (List.getElem?_eq_some_iff.1 hu).1; rw [keyCs_length] at this; omega
      obtain rfl := Option.some.inj (hao hpos)
      have := keys_cells (unhide HC) j u hu
      exact (World.cell?_alloc_lt _ _ _ (World.block_lt_of_cell? w _ this)).trans this
    clear hao HC
    go_enter Tryz.func80, Tryz.ntmps80
    go_wp2_with (at_builtin; refine wpList_append_own _ rfl _ _ 68 rfl w.heap.size 91 i0 (.agg #[.int .i32 0, .int .i64 0]) 2 16 Tryz.underlying68 hi hz0 hz1 hz2 rfl (by decide) _ 0 [] rfl (own_empty0 w 91 2) a l.length cap (keyCs l) rfl (keyCs_length l) (unhide HN) (keyCs_one l) ?d2 ?d3 ?d4 ?_)
    case d2 => unfold maxLen; omega
    case d3 => omega
    case d4 => simp
    intro x w1 ho hg _
    go_wp2
    go_ret
    refine ⟨x, rfl, by simpa using ho, ((Below.refl _ _).alloc (Nat.le_refl _) _).grown hg (by simp) ?_⟩
    intro k hk
    simp [Value.ownBlock] at hk
    omega
end Go.Proofs.YtggllgimlfchhabGreat

/- Record: CloneTxn. -/
namespace Go.Proofs.YtggllgimlfchhabGreat
open Go.RowKit
set_option maxRecDepth 100000

set_option maxHeartbeats 1600000 in
theorem cloneTxn_any (cs : Array Value) (t : TxnD) (w : World) (hT : SeesT w cs t) (h1 : t.code.length ≤ 1099511627776) (h2 : t.args.length ≤ 1099511627776) (h3 : t.reads.length ≤ 1099511627776) (h4 : t.writes.length ≤ 1099511627776) :
    Calls Tryz.prog 45 #[.agg cs] w fun e w' => ∃ cs', e = .returned (.agg cs') ∧ OwnT w.heap.size w' cs' t ∧ Below w.heap.size w w' := by
  obtain ⟨n1, n2, l3, l4, l5, l6⟩ := t
  obtain ⟨cv, av, rv, wv, rfl, k1, k2, k3, k4⟩ := hT
  simp only at k1 k2 k3 k4 h1 h2 h3 h4 ⊢
  have K3 := hide k1
  have K4 := hide k2
  have K5 := hide k3
  have K6 := hide k4
  obtain ⟨ac, cc, rfl, _⟩ := k1
  obtain ⟨aa, ca, rfl, _⟩ := k2
  obtain ⟨ar, cr, _, _, rfl, _⟩ := k3
  obtain ⟨aw, cw, _, _, rfl, _⟩ := k4
  have hal : Below w.heap.size w ((w.alloc (.cells #[.int .i64 n1, .int .i64 n2, .slice ac l3.length cc, .slice aa l4.length ca, .slice ar l5.length cr, .slice aw l6.length cw] 70)).alloc (.cells #[.int .i64 0, .int .i64 0, .slice none 0 0, .slice none 0 0, .slice none 0 0, .slice none 0 0] 70)) := ((Below.refl _ _).alloc (Nat.le_refl _) _).alloc (by simp) _
  have e0 : (w.alloc (.cells #[.int .i64 n1, .int .i64 n2, .slice ac l3.length cc, .slice aa l4.length ca, .slice ar l5.length cr, .slice aw l6.length cw] 70)).heap.size = w.heap.size + 1 := by simp
  have hx0 : ((w.alloc (.cells #[.int .i64 n1, .int .i64 n2, .slice ac l3.length cc, .slice aa l4.length ca, .slice ar l5.length cr, .slice aw l6.length cw] 70)).alloc (.cells #[.int .i64 0, .int .i64 0, .slice none 0 0, .slice none 0 0, .slice none 0 0, .slice none 0 0] 70)).heap[w.heap.size]? = some (.cells #[.int .i64 n1, .int .i64 n2, .slice ac l3.length cc, .slice aa l4.length ca, .slice ar l5.length cr, .slice aw l6.length cw] 70) := (Below.heap_alloc _ _ _ (by simp)).trans (heap_alloc_new w _)
  have hz0 : ((w.alloc (.cells #[.int .i64 n1, .int .i64 n2, .slice ac l3.length cc, .slice aa l4.length ca, .slice ar l5.length cr, .slice aw l6.length cw] 70)).alloc (.cells #[.int .i64 0, .int .i64 0, .slice none 0 0, .slice none 0 0, .slice none 0 0, .slice none 0 0] 70)).heap[w.heap.size + 1]? = some (.cells #[.int .i64 0, .int .i64 0, .slice none 0 0, .slice none 0 0, .slice none 0 0, .slice none 0 0] 70) := by have := heap_alloc_new (w.alloc (.cells #[.int .i64 n1, .int .i64 n2, .slice ac l3.length cc, .slice aa l4.length ca, .slice ar l5.length cr, .slice aw l6.length cw] 70)) (.cells #[.int .i64 0, .int .i64 0, .slice none 0 0, .slice none 0 0, .slice none 0 0, .slice none 0 0] 70); rw [e0] at this; exact this
  have hs0 : w.heap.size + 2 ≤ ((w.alloc (.cells #[.int .i64 n1, .int .i64 n2, .slice ac l3.length cc, .slice aa l4.length ca, .slice ar l5.length cr, .slice aw l6.length cw] 70)).alloc (.cells #[.int .i64 0, .int .i64 0, .slice none 0 0, .slice none 0 0, .slice none 0 0, .slice none 0 0] 70)).heap.size := by simp
  have HX2 := hide hx0
  have HZ2 := hide hz0
  have HS2 := hide hs0
  have HB2 := hide hal
  have HC2 := hide (cloneB_any _ l3 _ ((unhide K3).below hal) (by omega))
  clear hal e0 hx0 hz0 hs0
  go_enter Tryz.func45, Tryz.ntmps45
  go_wp2_with fail
  refine (unhide HC2).mono ?_
  rintro e u2 ⟨v2, rfl, o2, b2⟩
  obtain ⟨x2, d2, rfl⟩ := own_shapeN o2
  have hx : u2.heap[w.heap.size]? = some (.cells #[.int .i64 n1, .int .i64 n2, .slice ac l3.length cc, .slice aa l4.length ca, .slice ar l5.length cr, .slice aw l6.length cw] 70) := (b2.block _ (by have := unhide HS2; omega)).trans (unhide HX2)
  have hz : u2.heap[w.heap.size + 1]? = some (.cells #[.int .i64 0, .int .i64 0, .slice none 0 0, .slice none 0 0, .slice none 0 0, .slice none 0 0] 70) := (b2.block _ (by have := unhide HS2; omega)).trans (unhide HZ2)
  have k2 : u2.cell? ⟨w.heap.size, 2, none⟩ = some (.slice ac l3.length cc) := cell_of_heap hx
  have f2 : ∀ o, u2.frozen? ⟨w.heap.size, o, none⟩ = false := fun o => frozen_of_heap hx
  have HB3 : Hid (Below w.heap.size w (u2.setCell ⟨w.heap.size, 2, none⟩ (.slice x2 l3.length d2))) := ((unhide HB2).trans (b2.mono (unhide HB2).size)).setCell (p := ⟨w.heap.size, 2, none⟩) (Nat.le_refl _) _
  have HS3 : Hid (w.heap.size + 2 ≤ (u2.setCell ⟨w.heap.size, 2, none⟩ (.slice x2 l3.length d2)).heap.size) := by show _ ≤ _; simp only [World.setCell, Array.size_modify]; exact Nat.le_trans (unhide HS2) b2.size
  have O2x3 : Hid ((u2.setCell ⟨w.heap.size, 2, none⟩ (.slice x2 l3.length d2)).ownsRow (w.heap.size + 2) 5 1 (.slice x2 l3.length d2) l3.length (ints .u8 l3)) := own_setR (own_monoN o2 (unhide HS2)) (by omega) 2 _
  have HX3 : Hid ((u2.setCell ⟨w.heap.size, 2, none⟩ (.slice x2 l3.length d2)).heap[w.heap.size]? = some (.cells #[.int .i64 n1, .int .i64 n2, .slice x2 l3.length d2, .slice aa l4.length ca, .slice ar l5.length cr, .slice aw l6.length cw] 70)) := setCell_heap hx
  have HZ3 : Hid ((u2.setCell ⟨w.heap.size, 2, none⟩ (.slice x2 l3.length d2)).heap[w.heap.size + 1]? = some (.cells #[.int .i64 0, .int .i64 0, .slice none 0 0, .slice none 0 0, .slice none 0 0, .slice none 0 0] 70)) := (Below.heap_setCell _ _ _ _ (fun e => by simp only at e; omega)).trans hz
  have HC3 := hide (cloneI_any _ l4 _ ((unhide K4).below (unhide HB3)) (by omega))
  have q3 : (u2.setCell ⟨w.heap.size, 2, none⟩ (.slice x2 l3.length d2)).cell? ⟨w.heap.size, 3, none⟩ = some (.slice aa l4.length ca) := cell_of_heap (unhide HX3)
  clear o2 b2 hx hz HC2
  go_wp2_with fail
  refine (unhide HC3).mono ?_
  rintro e u3 ⟨v3, rfl, o3, b3⟩
  obtain ⟨x3, d3, rfl⟩ := own_shapeN o3
  have hx : u3.heap[w.heap.size]? = some (.cells #[.int .i64 n1, .int .i64 n2, .slice x2 l3.length d2, .slice aa l4.length ca, .slice ar l5.length cr, .slice aw l6.length cw] 70) := (b3.block _ (by have := unhide HS3; omega)).trans (unhide HX3)
  have hz : u3.heap[w.heap.size + 1]? = some (.cells #[.int .i64 0, .int .i64 0, .slice none 0 0, .slice none 0 0, .slice none 0 0, .slice none 0 0] 70) := (b3.block _ (by have := unhide HS3; omega)).trans (unhide HZ3)
  have k3 : u3.cell? ⟨w.heap.size, 3, none⟩ = some (.slice aa l4.length ca) := cell_of_heap hx
  have f3 : ∀ o, u3.frozen? ⟨w.heap.size, o, none⟩ = false := fun o => frozen_of_heap hx
  have HB4 : Hid (Below w.heap.size w (u3.setCell ⟨w.heap.size, 3, none⟩ (.slice x3 l4.length d3))) := ((unhide HB3).trans (b3.mono (unhide HB3).size)).setCell (p := ⟨w.heap.size, 3, none⟩) (Nat.le_refl _) _
  have HS4 : Hid (w.heap.size + 2 ≤ (u3.setCell ⟨w.heap.size, 3, none⟩ (.slice x3 l4.length d3)).heap.size) := by show _ ≤ _; simp only [World.setCell, Array.size_modify]; exact Nat.le_trans (unhide HS3) b3.size
  have O2x4 := hide (own_setR (own_below (unhide O2x3) b3) (by omega : w.heap.size < w.heap.size + 2) 3 (.slice x3 l4.length d3))
  have O3x4 : Hid ((u3.setCell ⟨w.heap.size, 3, none⟩ (.slice x3 l4.length d3)).ownsRow (w.heap.size + 2) 2 1 (.slice x3 l4.length d3) l4.length (ints .i64 l4)) := own_setR (own_monoN o3 (unhide HS3)) (by omega) 3 _
  have HX4 : Hid ((u3.setCell ⟨w.heap.size, 3, none⟩ (.slice x3 l4.length d3)).heap[w.heap.size]? = some (.cells #[.int .i64 n1, .int .i64 n2, .slice x2 l3.length d2, .slice x3 l4.length d3, .slice ar l5.length cr, .slice aw l6.length cw] 70)) := setCell_heap hx
  have HZ4 : Hid ((u3.setCell ⟨w.heap.size, 3, none⟩ (.slice x3 l4.length d3)).heap[w.heap.size + 1]? = some (.cells #[.int .i64 0, .int .i64 0, .slice none 0 0, .slice none 0 0, .slice none 0 0, .slice none 0 0] 70)) := (Below.heap_setCell _ _ _ _ (fun e => by simp only at e; omega)).trans hz
  have HC4 := hide (cloneK_any _ l5 _ ((unhide K5).below (unhide HB4)) (by omega))
  have q4 : (u3.setCell ⟨w.heap.size, 3, none⟩ (.slice x3 l4.length d3)).cell? ⟨w.heap.size, 4, none⟩ = some (.slice ar l5.length cr) := cell_of_heap (unhide HX4)
  clear o3 b3 hx hz HC3
  go_wp2_with fail
  refine (unhide HC4).mono ?_
  rintro e u4 ⟨v4, rfl, o4, b4⟩
  obtain ⟨x4, d4, rfl⟩ := own_shapeN o4
  have hx : u4.heap[w.heap.size]? = some (.cells #[.int .i64 n1, .int .i64 n2, .slice x2 l3.length d2, .slice x3 l4.length d3, .slice ar l5.length cr, .slice aw l6.length cw] 70) := (b4.block _ (by have := unhide HS4; omega)).trans (unhide HX4)
  have hz : u4.heap[w.heap.size + 1]? = some (.cells #[.int .i64 0, .int .i64 0, .slice none 0 0, .slice none 0 0, .slice none 0 0, .slice none 0 0] 70) := (b4.block _ (by have := unhide HS4; omega)).trans (unhide HZ4)
  have k4 : u4.cell? ⟨w.heap.size, 4, none⟩ = some (.slice ar l5.length cr) := cell_of_heap hx
  have f4 : ∀ o, u4.frozen? ⟨w.heap.size, o, none⟩ = false := fun o => frozen_of_heap hx
  have HB5 : Hid (Below w.heap.size w (u4.setCell ⟨w.heap.size, 4, none⟩ (.slice x4 l5.length d4))) := ((unhide HB4).trans (b4.mono (unhide HB4).size)).setCell (p := ⟨w.heap.size, 4, none⟩) (Nat.le_refl _) _
  have HS5 : Hid (w.heap.size + 2 ≤ (u4.setCell ⟨w.heap.size, 4, none⟩ (.slice x4 l5.length d4)).heap.size) := by show _ ≤ _; simp only [World.setCell, Array.size_modify]; exact Nat.le_trans (unhide HS4) b4.size
  have O2x5 := hide (own_setR (own_below (unhide O2x4) b4) (by omega : w.heap.size < w.heap.size + 2) 4 (.slice x4 l5.length d4))
  have O3x5 := hide (own_setR (own_below (unhide O3x4) b4) (by omega : w.heap.size < w.heap.size + 2) 4 (.slice x4 l5.length d4))
  have O4x5 : Hid ((u4.setCell ⟨w.heap.size, 4, none⟩ (.slice x4 l5.length d4)).ownsRow (w.heap.size + 2) 91 2 (.slice x4 l5.length d4) l5.length (keyCs l5)) := own_setR (own_monoN o4 (unhide HS4)) (by omega) 4 _
  have HX5 : Hid ((u4.setCell ⟨w.heap.size, 4, none⟩ (.slice x4 l5.length d4)).heap[w.heap.size]? = some (.cells #[.int .i64 n1, .int .i64 n2, .slice x2 l3.length d2, .slice x3 l4.length d3, .slice x4 l5.length d4, .slice aw l6.length cw] 70)) := setCell_heap hx
  have HZ5 : Hid ((u4.setCell ⟨w.heap.size, 4, none⟩ (.slice x4 l5.length d4)).heap[w.heap.size + 1]? = some (.cells #[.int .i64 0, .int .i64 0, .slice none 0 0, .slice none 0 0, .slice none 0 0, .slice none 0 0] 70)) := (Below.heap_setCell _ _ _ _ (fun e => by simp only at e; omega)).trans hz
  have HC5 := hide (cloneK_any _ l6 _ ((unhide K6).below (unhide HB5)) (by omega))
  have q5 : (u4.setCell ⟨w.heap.size, 4, none⟩ (.slice x4 l5.length d4)).cell? ⟨w.heap.size, 5, none⟩ = some (.slice aw l6.length cw) := cell_of_heap (unhide HX5)
  clear o4 b4 hx hz HC4
  go_wp2_with fail
  refine (unhide HC5).mono ?_
  rintro e u5 ⟨v5, rfl, o5, b5⟩
  obtain ⟨x5, d5, rfl⟩ := own_shapeN o5
  have hx : u5.heap[w.heap.size]? = some (.cells #[.int .i64 n1, .int .i64 n2, .slice x2 l3.length d2, .slice x3 l4.length d3, .slice x4 l5.length d4, .slice aw l6.length cw] 70) := (b5.block _ (by have := unhide HS5; omega)).trans (unhide HX5)
  have hz : u5.heap[w.heap.size + 1]? = some (.cells #[.int .i64 0, .int .i64 0, .slice none 0 0, .slice none 0 0, .slice none 0 0, .slice none 0 0] 70) := (b5.block _ (by have := unhide HS5; omega)).trans (unhide HZ5)
  have k5 : u5.cell? ⟨w.heap.size, 5, none⟩ = some (.slice aw l6.length cw) := cell_of_heap hx
  have f5 : ∀ o, u5.frozen? ⟨w.heap.size, o, none⟩ = false := fun o => frozen_of_heap hx
  have HB6 : Hid (Below w.heap.size w (u5.setCell ⟨w.heap.size, 5, none⟩ (.slice x5 l6.length d5))) := ((unhide HB5).trans (b5.mono (unhide HB5).size)).setCell (p := ⟨w.heap.size, 5, none⟩) (Nat.le_refl _) _
  have HS6 : Hid (w.heap.size + 2 ≤ (u5.setCell ⟨w.heap.size, 5, none⟩ (.slice x5 l6.length d5)).heap.size) := by show _ ≤ _; simp only [World.setCell, Array.size_modify]; exact Nat.le_trans (unhide HS5) b5.size
  have O2x6 := hide (own_setR (own_below (unhide O2x5) b5) (by omega : w.heap.size < w.heap.size + 2) 5 (.slice x5 l6.length d5))
  have O3x6 := hide (own_setR (own_below (unhide O3x5) b5) (by omega : w.heap.size < w.heap.size + 2) 5 (.slice x5 l6.length d5))
  have O4x6 := hide (own_setR (own_below (unhide O4x5) b5) (by omega : w.heap.size < w.heap.size + 2) 5 (.slice x5 l6.length d5))
  have O5x6 : Hid ((u5.setCell ⟨w.heap.size, 5, none⟩ (.slice x5 l6.length d5)).ownsRow (w.heap.size + 2) 91 2 (.slice x5 l6.length d5) l6.length (keyCs l6)) := own_setR (own_monoN o5 (unhide HS5)) (by omega) 5 _
  have HX6 : Hid ((u5.setCell ⟨w.heap.size, 5, none⟩ (.slice x5 l6.length d5)).heap[w.heap.size]? = some (.cells #[.int .i64 n1, .int .i64 n2, .slice x2 l3.length d2, .slice x3 l4.length d3, .slice x4 l5.length d4, .slice x5 l6.length d5] 70)) := setCell_heap hx
  have HZ6 : Hid ((u5.setCell ⟨w.heap.size, 5, none⟩ (.slice x5 l6.length d5)).heap[w.heap.size + 1]? = some (.cells #[.int .i64 0, .int .i64 0, .slice none 0 0, .slice none 0 0, .slice none 0 0, .slice none 0 0] 70)) := (Below.heap_setCell _ _ _ _ (fun e => by simp only at e; omega)).trans hz
  clear o5 b5 hx hz HC5
  obtain ⟨y9, hy9⟩ : ∃ y, (u5.setCell ⟨w.heap.size, 5, none⟩ (.slice x5 l6.length d5)) = y := ⟨_, rfl⟩
  rw [hy9] at HX6 HZ6 HB6 HS6 O2x6 O3x6 O4x6 O5x6
  have t0 : y9.cell? ⟨w.heap.size, 0, none⟩ = some (.int .i64 n1) := cell_of_heap (unhide HX6)
  have t1 : y9.cell? ⟨w.heap.size, 1, none⟩ = some (.int .i64 n2) := cell_of_heap (unhide HX6)
  have t2 : y9.cell? ⟨w.heap.size, 2, none⟩ = some (.slice x2 l3.length d2) := cell_of_heap (unhide HX6)
  have t3 : y9.cell? ⟨w.heap.size, 3, none⟩ = some (.slice x3 l4.length d3) := cell_of_heap (unhide HX6)
  have t4 : y9.cell? ⟨w.heap.size, 4, none⟩ = some (.slice x4 l5.length d4) := cell_of_heap (unhide HX6)
  have t5 : y9.cell? ⟨w.heap.size, 5, none⟩ = some (.slice x5 l6.length d5) := cell_of_heap (unhide HX6)
  have z0 : y9.cell? ⟨w.heap.size + 1, 0, none⟩ = some (.int .i64 0) := cell_of_heap (unhide HZ6)
  have z1 : y9.cell? ⟨w.heap.size + 1, 1, none⟩ = some (.int .i64 0) := cell_of_heap (unhide HZ6)
  have z2 : y9.cell? ⟨w.heap.size + 1, 2, none⟩ = some (.slice none 0 0) := cell_of_heap (unhide HZ6)
  have z3 : y9.cell? ⟨w.heap.size + 1, 3, none⟩ = some (.slice none 0 0) := cell_of_heap (unhide HZ6)
  have z4 : y9.cell? ⟨w.heap.size + 1, 4, none⟩ = some (.slice none 0 0) := cell_of_heap (unhide HZ6)
  have z5 : y9.cell? ⟨w.heap.size + 1, 5, none⟩ = some (.slice none 0 0) := cell_of_heap (unhide HZ6)
  have fz : ∀ o, y9.frozen? ⟨w.heap.size + 1, o, none⟩ = false := fun o => frozen_of_heap (unhide HZ6)
  go_wp2_with (rw [hy9])
  refine bodyPost_ret (results_cell_row rfl _ _ (w.heap.size + 1) 70 #[.int .i64 n1, .int .i64 n2, .slice x2 l3.length d2, .slice x3 l4.length d3, .slice x4 l5.length d4, .slice x5 l6.length d5] (0, 0) _ rfl (setCell_heap (setCell_heap (setCell_heap (setCell_heap (setCell_heap (setCell_heap (unhide HZ6))))))) Tryz.underlying70 rfl (by kernel_rfl)) rfl ?_
  exact ⟨_, rfl, ⟨_, _, _, _, rfl, own_monoN (own_setR (own_setR (own_setR (own_setR (own_setR (own_setR (unhide O2x6) (by omega) _ _) (by omega) _ _) (by omega) _ _) (by omega) _ _) (by omega) _ _) (by omega) _ _) (by omega), own_monoN (own_setR (own_setR (own_setR (own_setR (own_setR (own_setR (unhide O3x6) (by omega) _ _) (by omega) _ _) (by omega) _ _) (by omega) _ _) (by omega) _ _) (by omega) _ _) (by omega), own_monoN (own_setR (own_setR (own_setR (own_setR (own_setR (own_setR (unhide O4x6) (by omega) _ _) (by omega) _ _) (by omega) _ _) (by omega) _ _) (by omega) _ _) (by omega) _ _) (by omega), own_monoN (own_setR (own_setR (own_setR (own_setR (own_setR (own_setR (unhide O5x6) (by omega) _ _) (by omega) _ _) (by omega) _ _) (by omega) _ _) (by omega) _ _) (by omega) _ _) (by omega)⟩, (((((((unhide HB6).setCell (p := ⟨w.heap.size + 1, 0, none⟩) (by simp) _).setCell (p := ⟨w.heap.size + 1, 1, none⟩) (by simp) _).setCell (p := ⟨w.heap.size + 1, 2, none⟩) (by simp) _).setCell (p := ⟨w.heap.size + 1, 3, none⟩) (by simp) _).setCell (p := ⟨w.heap.size + 1, 4, none⟩) (by simp) _).setCell (p := ⟨w.heap.size + 1, 5, none⟩) (by simp) _)⟩
end Go.Proofs.YtggllgimlfchhabGreat

/- Record: a list of transactions, cloned as it stands; a row's part set anew. -/
namespace Go.Proofs.YtggllgimlfchhabGreat
open Go.RowKit Go.Deep
set_option maxRecDepth 100000

theorem own_set {w : World} {base e size n cap g : Nat} {xs : List Value} (h : w.ownsRow base e size (.slice (some ⟨g, 0, none⟩) n cap) n xs) (j : Nat) (u : Value) : (w.setCell ⟨g, j, none⟩ u).ownsRow base e size (.slice (some ⟨g, 0, none⟩) n cap) n (xs.set j u) := by
  obtain ⟨h1, h2⟩ := h
  refine ⟨by simpa using h1, ?_⟩
  rcases h2 with ⟨e, _⟩ | ⟨g', cap', cur, hv, hb, hh, hnc, hcm, hsz, ht⟩
  · cases e
  · cases hv
    refine .inr ⟨g, cap, cur.setIfInBounds j u, rfl, hb, setCell_heap hh, hnc, hcm, by simpa using hsz, ?_⟩
    rw [Array.toList_setIfInBounds, List.take_set, ht]
abbrev TX4 := TxnD × Value × Value × Value × Value
instance : Inhabited TX4 := ⟨(dT, .slice none 0 0, .slice none 0 0, .slice none 0 0, .slice none 0 0)⟩
theorem txnCells_len (p : TX4) : (txnCells p).length = 6 := rfl
theorem flat_len : ∀ vs : List TX4, (vs.flatMap txnCells).length = vs.length * 6
  | [] => rfl
  | p :: r => by rw [List.flatMap_cons, List.length_append, flat_len r, txnCells_len, List.length_cons]; omega
theorem set_behind {a b : List Value} (k : Nat) (u : Value) : (a ++ b).set (a.length + k) u = a ++ b.set k u := by
  rw [List.set_append_right _ _ (by omega)]
  simp
theorem flat_set : ∀ (vs : List TX4) (t : Nat) (q : TX4), t < vs.length →
    ((((((vs.flatMap txnCells).set (t * 6) (.int .i64 q.1.ses)).set (t * 6 + 1) (.int .i64 q.1.req)).set (t * 6 + 2) q.2.1).set (t * 6 + 3) q.2.2.1).set (t * 6 + 4) q.2.2.2.1).set (t * 6 + 5) q.2.2.2.2 = (vs.set t q).flatMap txnCells
  | [], t, q, h => absurd h (by simp)
  | p :: r, 0, q, _ => by simp [List.flatMap_cons, txnCells]
  | p :: r, t + 1, q, h => by
    have ih := flat_set r t q (by simpa using h)
    have e0 : (t + 1) * 6 = (txnCells p).length + (t * 6) := by rw [txnCells_len]; omega
    rw [List.flatMap_cons, e0]
    simp only [Nat.add_assoc]
    rw [set_behind, set_behind, set_behind, set_behind, set_behind, set_behind, ih, List.set_cons_succ, List.flatMap_cons]

/-- What a slice of transactions shows, with the values of its cells. -/
theorem SeesTs.rows {w : World} {v : Value} {l : List TxnD} (h : SeesTs w v l) : ∃ (ao : Option Addr) (cap gb ob : Nat) (vs : List TX4), v = .slice ao l.length cap ∧ l.length ≤ cap ∧ vs.map (·.1) = l ∧ (0 < l.length → ao = some ⟨gb, ob, none⟩) ∧
    (∀ j u, (vs.flatMap txnCells)[j]? = some u → w.cell? ⟨gb, ob + j, none⟩ = some u) ∧ ∀ p ∈ vs, SeesT w #[.int .i64 p.1.ses, .int .i64 p.1.req, p.2.1, p.2.2.1, p.2.2.2.1, p.2.2.2.2] p.1 := by
  obtain ⟨ao, cap, gb, ob, h1, h2, _, h4, h5⟩ := h
  have ea : ∀ i, i < l.length → ∃ p : TX4, p.1 = l.getD i dT ∧ (∀ k, k < 6 → w.cell? ⟨gb, ob + i * 6 + k, none⟩ = (txnCells p)[k]?) ∧ SeesT w #[.int .i64 p.1.ses, .int .i64 p.1.req, p.2.1, p.2.2.1, p.2.2.2.1, p.2.2.2.2] p.1 := fun i hi => by
    obtain ⟨cv, av, rv, wv, c0, c1, c2, c3, c4, c5, hs⟩ := h5 i hi
    refine ⟨(l.getD i dT, cv, av, rv, wv), rfl, fun k hk => ?_, hs⟩
    match k, hk with
    | 0, _ => exact c0
    | 1, _ => exact c1
    | 2, _ => exact c2
    | 3, _ => exact c3
    | 4, _ => exact c4
    | 5, _ => exact c5
  obtain ⟨q, hq⟩ := choose_lt ea
  have hll : ((List.range l.length).map q).length = l.length := by simp
  have hgq : ∀ t, t < l.length → ((List.range l.length).map q)[t]? = some (q t) := fun t ht => by simp [ht]
  refine ⟨ao, cap, gb, ob, (List.range l.length).map q, h1, h2, ?_, h4, fun j u hu => ?_, fun p hp => ?_⟩
  · apply List.ext_getElem
    · simp
    · intro i hi1 hi2
      have hi : i < l.length := hi2
      simp only [List.map_map, List.getElem_map, List.getElem_range, Function.comp]
      rw [(hq i hi).1]
      simp [List.getD, hi]
  · have hj : j < l.length * 6 := by have := (List.getElem?_eq_some_iff.1 hu).1; rw [flat_len, hll] at this; exact this
    have ht : j / 6 < l.length := by omega
    have := txnCells_at _ (j / 6) (q (j / 6)) (hgq _ ht) (j % 6) (by omega)
    rw [show j / 6 * 6 + j % 6 = j by omega] at this
    rw [this] at hu
    have hc := (hq _ ht).2.1 (j % 6) (by omega)
    rw [show ob + j / 6 * 6 + j % 6 = ob + j by omega] at hc
    rw [hc, hu]
  · obtain ⟨i, hi, rfl⟩ := List.mem_map.1 hp
    exact (hq i (by simpa using hi)).2.2

theorem flat_one {w : World} : ∀ vs : List TX4, (∀ p ∈ vs, SeesT w #[.int .i64 p.1.ses, .int .i64 p.1.req, p.2.1, p.2.2.1, p.2.2.2.1, p.2.2.2.2] p.1) → ∀ u ∈ vs.flatMap txnCells, u.oneCell' = true
  | [], _, u, hu => by cases hu
  | p :: r, h, u, hu => by
    rw [List.flatMap_cons, List.mem_append] at hu
    rcases hu with hu | hu
    · obtain ⟨_, _, _, _, _, _, _, _, e1, e2, e3, e4⟩ := (h p (List.mem_cons_self ..)).shape
      simp only [txnCells, List.mem_cons, List.not_mem_nil, or_false] at hu
      rcases hu with rfl | rfl | rfl | rfl | rfl | rfl
      · rfl
      · rfl
      · rw [e1]; rfl
      · rw [e2]; rfl
      · rw [e3]; rfl
      · rw [e4]; rfl
    · exact flat_one r (fun p hp => h p (List.mem_cons_of_mem _ hp)) u hu

set_option maxHeartbeats 400000 in
theorem cloneTs_any (v : Value) (l : List TxnD) (w : World) (hs : SeesTs w v l) (hm : l.length ≤ 1099511627776) :
    Calls Tryz.prog 78 #[v] w fun e w' => ∃ x, e = .returned x ∧ (∃ vs : List TX4, vs.map (·.1) = l ∧ w'.ownsRow w.heap.size 70 6 x l.length (vs.flatMap txnCells) ∧ ∀ p ∈ vs, SeesT w #[.int .i64 p.1.ses, .int .i64 p.1.req, p.2.1, p.2.2.1, p.2.2.2.1, p.2.2.2.2] p.1) ∧ Below w.heap.size w w' := by
  obtain ⟨i0, hi, hz0, hz1, hz2⟩ := info_parts Tryz.info70
  have hE := fun (w : World) a n c => Lib.run_eql_slice_nil (P := Tryz.prog) w 22 70 a n c 0 0 Tryz.underlying22
  obtain ⟨ao, cap, gb, ob, vs, rfl, hlc, hvs, hao, hc, hse⟩ := hs.rows
  have HC := hide hc
  have HV := hide hvs
  have HSE := hide hse
  have hfl := flat_len vs
  rw [show vs.length = l.length by rw [← hvs]; simp] at hfl
  have HFL := hide hfl
  clear hc hs hvs hse hfl
  cases ao with
  | none =>
    obtain rfl : l = [] := by
      cases l with
      | nil => rfl
      | cons x r => have := hao (by simp); cases this
    go_enter Tryz.func78, Tryz.ntmps78
    go_wp2
    go_ret
    exact ⟨_, rfl, ⟨[], rfl, World.ownsRow_nil _ _ _ _, fun p hp => by cases hp⟩, Below.refl _ _⟩
  | some a =>
    have HN : Hid (∀ j u, (vs.flatMap txnCells)[j]? = some u → (w.alloc (.cells #[] 70)).cell? (a.add j) = some u) := fun j u hu => by
      have hpos : 0 < l.length := by
        have := (List.getElem?_eq_some_iff.1 hu).1; rw [unhide HFL] at this; omega
      obtain rfl := Option.some.inj (hao hpos)
      have := unhide HC j u hu
      have hadd : (⟨gb, ob, none⟩ : Addr).add j = ⟨gb, ob + j, none⟩ := by unfold Addr.add; split <;> simp_all
      rw [hadd]
      exact (World.cell?_alloc_lt _ _ _ (World.block_lt_of_cell? w _ this)).trans this
    clear hao HC
    go_enter Tryz.func78, Tryz.ntmps78
    go_wp2_with (at_builtin; refine wpList_append_own _ rfl _ _ 22 rfl w.heap.size 70 i0 (.agg #[.int .i64 0, .int .i64 0, .slice none 0 0, .slice none 0 0, .slice none 0 0, .slice none 0 0]) 6 112 Tryz.underlying22 hi hz0 hz1 hz2 rfl (by decide) _ 0 [] rfl (own_empty0 w 70 6) a l.length cap (vs.flatMap txnCells) rfl (unhide HFL) (unhide HN) (flat_one vs (unhide HSE)) ?d2 ?d3 ?d4 ?_)
    case d2 => unfold maxLen; omega
    case d3 => omega
    case d4 => simp
    intro x w1 ho hg _
    have hb1 : Below w.heap.size w w1 := ((Below.refl _ _).alloc (Nat.le_refl _) _).grown hg (by simp) (by
      intro k hk
      simp [Value.ownBlock] at hk
      omega)
    have HF : Hid ((∃ vs : List TX4, vs.map (·.1) = l ∧ w1.ownsRow w.heap.size 70 6 x l.length (vs.flatMap txnCells) ∧ ∀ p ∈ vs, SeesT w #[.int .i64 p.1.ses, .int .i64 p.1.req, p.2.1, p.2.2.1, p.2.2.2.1, p.2.2.2.2] p.1) ∧ Below w.heap.size w w1) := ⟨⟨vs, unhide HV, by simpa using ho, unhide HSE⟩, hb1⟩
    clear ho hg hb1
    go_wp2
    go_ret
    exact ⟨x, rfl, unhide HF⟩
end Go.Proofs.YtggllgimlfchhabGreat
