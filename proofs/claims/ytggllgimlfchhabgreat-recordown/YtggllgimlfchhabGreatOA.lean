/- Record: the document's CloneTxn. -/
import Derived.Test.YtggllgimlfchhabGreatNC
import Derived.Test.YtggllgimlfchhabGreatKD
namespace Go.Proofs.YtggllgimlfchhabGreat
open Go.RowKit
set_option maxRecDepth 100000

theorem wpList_append_keys {w : World} {ops : Array Oper} {rest : List Oper} {o : Oper} {a : Act} {Q : Exit → Act → World → Prop} (hgd : o.guard = none) (s x : Operand)
    (ho : o.op = .call { callee := .builtin .append, args := #[s, x], argTypes := #[68, 68] }) (base : Nat) (hs : a.eval s = .slice none 0 0) (sv : Value) (l : List (Int × Int)) (hx : a.eval x = sv) (hsee : SeesK w sv l)
    (hl : l.length ≤ 8796093021952) (hbase : base ≤ w.heap.size)
    (h : ∀ v' w', w'.ownsRow base 91 2 v' l.length (keyCs l) → w.grownBy w' none → wpList Tryz.prog ops Q rest (a.put o.dst v') w') : wpList Tryz.prog ops Q (o :: rest) a w := by
  obtain ⟨i0, hi, hz0, hz1, hz2⟩ := info_parts Tryz.info91
  obtain ⟨ao, cap, gb, ob, rfl, hlc, _, hao, hc⟩ := hsee
  cases ao with
  | none =>
    obtain rfl : l = [] := by
      cases l with
      | nil => rfl
      | cons x r => have := hao (by simp); cases this
    refine wpList_plain hgd fun K hK => ?_
    have hrun : (Builtin.append_ #[68, 68] o.type #[.slice none 0 0, .slice none 0 cap]).run Tryz.prog w = .ok (.slice none 0 0) w := by
      simp [Builtin.append_, run_underlying Tryz.underlying68, sizeOf, typeInfo, hi, Builtin.lenOf, Builtin.firstCells]
    unfold Oper.wp
    simp [execOp, ho, resolve, invoke, builtin, hs, hx, hrun, Result.andThen]
    exact hK _ _ (h _ w (World.ownsRow_nil _ _ _ _) (grownBy_refl _ _))
  | some ad =>
    refine wpList_append_own w hgd s x 68 ho base 91 i0 (.agg #[.int .i32 0, .int .i64 0]) 2 16 Tryz.underlying68 hi hz0 hz1 hz2 rfl (by decide) _ 0 [] hs (World.ownsRow_nil _ _ _ _) ad l.length cap (keyCs l) hx (keyCs_length l) (fun j u hu => ?_) (keyCs_one l) (by unfold maxLen; omega) (by omega) hbase ?_
    · have hpos : 0 < l.length := by
        have := (List.getElem?_eq_some_iff.1 hu).1; rw [keyCs_length] at this; omega
      obtain rfl := Option.some.inj (hao hpos)
      exact keys_cells hc j u hu
    · intro v' w' ho' hg _
      exact h v' w' (by simpa using ho') hg
set_option maxHeartbeats 1600000 in
theorem refCloneTxn_any (cs : Array Value) (t : TxnD) (w : World) (hT : SeesT w cs t) (h1 : t.code.length ≤ 140737488351232) (h2 : t.args.length ≤ 17592186043904) (h3 : t.reads.length ≤ 8796093021952) (h4 : t.writes.length ≤ 8796093021952) :
    Calls Tryz.prog 43 #[.agg cs] w fun e w' => ∃ cs', e = .returned (.agg cs') ∧ OwnT w.heap.size w' cs' t ∧ Below w.heap.size w w' := by
  obtain ⟨i5, hi5, hz50, hz51, hz52⟩ := info_parts Tryz.info5
  obtain ⟨i2, hi2, hz20, hz21, hz22⟩ := info_parts Tryz.info2
  obtain ⟨n1, n2, l3, l4, l5, l6⟩ := t
  obtain ⟨cv, av, rv, wv, rfl, k1, k2, k3, k4⟩ := hT
  simp only at k1 k2 k3 k4 h1 h2 h3 h4 ⊢
  have K3 := hide k1
  have K4 := hide k2
  have K5 := hide k3
  have K6 := hide k4
  obtain ⟨ac, cc, rfl, _⟩ := k1
  obtain ⟨aa, ca, rfl, _⟩ := k2
  obtain ⟨ar, cr, _, _, rfl, _⟩ := k3
  obtain ⟨aw, cw, _, _, rfl, _⟩ := k4
  have hal : Below w.heap.size w ((w.alloc (.cells #[.int .i64 n1, .int .i64 n2, .slice ac l3.length cc, .slice aa l4.length ca, .slice ar l5.length cr, .slice aw l6.length cw] 70)).alloc (.cells #[.int .i64 0, .int .i64 0, .slice none 0 0, .slice none 0 0, .slice none 0 0, .slice none 0 0] 70)) := ((Below.refl _ _).alloc (Nat.le_refl _) _).alloc (by simp) _
  have e0 : (w.alloc (.cells #[.int .i64 n1, .int .i64 n2, .slice ac l3.length cc, .slice aa l4.length ca, .slice ar l5.length cr, .slice aw l6.length cw] 70)).heap.size = w.heap.size + 1 := by simp
  have hx0 : ((w.alloc (.cells #[.int .i64 n1, .int .i64 n2, .slice ac l3.length cc, .slice aa l4.length ca, .slice ar l5.length cr, .slice aw l6.length cw] 70)).alloc (.cells #[.int .i64 0, .int .i64 0, .slice none 0 0, .slice none 0 0, .slice none 0 0, .slice none 0 0] 70)).heap[w.heap.size]? = some (.cells #[.int .i64 n1, .int .i64 n2, .slice ac l3.length cc, .slice aa l4.length ca, .slice ar l5.length cr, .slice aw l6.length cw] 70) := (Below.heap_alloc _ _ _ (by omega)).trans (heap_alloc_new w _)
  have hz0 : ((w.alloc (.cells #[.int .i64 n1, .int .i64 n2, .slice ac l3.length cc, .slice aa l4.length ca, .slice ar l5.length cr, .slice aw l6.length cw] 70)).alloc (.cells #[.int .i64 0, .int .i64 0, .slice none 0 0, .slice none 0 0, .slice none 0 0, .slice none 0 0] 70)).heap[w.heap.size + 1]? = some (.cells #[.int .i64 0, .int .i64 0, .slice none 0 0, .slice none 0 0, .slice none 0 0, .slice none 0 0] 70) := by have := heap_alloc_new (w.alloc (.cells #[.int .i64 n1, .int .i64 n2, .slice ac l3.length cc, .slice aa l4.length ca, .slice ar l5.length cr, .slice aw l6.length cw] 70)) (.cells #[.int .i64 0, .int .i64 0, .slice none 0 0, .slice none 0 0, .slice none 0 0, .slice none 0 0] 70); rw [e0] at this; exact this
  have hs0 : ((w.alloc (.cells #[.int .i64 n1, .int .i64 n2, .slice ac l3.length cc, .slice aa l4.length ca, .slice ar l5.length cr, .slice aw l6.length cw] 70)).alloc (.cells #[.int .i64 0, .int .i64 0, .slice none 0 0, .slice none 0 0, .slice none 0 0, .slice none 0 0] 70)).heap.size = w.heap.size + 2 := by simp
  obtain ⟨y0, hy0⟩ : ∃ y, ((w.alloc (.cells #[.int .i64 n1, .int .i64 n2, .slice ac l3.length cc, .slice aa l4.length ca, .slice ar l5.length cr, .slice aw l6.length cw] 70)).alloc (.cells #[.int .i64 0, .int .i64 0, .slice none 0 0, .slice none 0 0, .slice none 0 0, .slice none 0 0] 70)) = y := ⟨_, rfl⟩
  rw [hy0] at hal hx0 hz0 hs0
  have HB := hide hal
  have HX := hide hx0
  have HZ := hide hz0
  have HSZ : Hid (w.heap.size + 2 ≤ y0.heap.size) := by show _ ≤ _; omega
  have q2 : y0.cell? ⟨w.heap.size, 2, none⟩ = some (.slice ac l3.length cc) := cell_of_heap hx0
  have f2 : ∀ o, y0.frozen? ⟨w.heap.size, o, none⟩ = false := fun o => frozen_of_heap hx0
  clear hal e0 hx0 hz0 hs0
  go_enter Tryz.func43, Tryz.ntmps43
  go_wp2_with (first | rw [hy0] | (at_builtin; refine wpList_append_sees rfl _ _ 26 rfl (w.heap.size + 2) 5 i5 (.int .u8 0) 1 Tryz.underlying26 hi5 hz50 hz51 hz52 rfl _ 0 [] rfl (World.ownsRow_nil _ _ _ _) .u8 _ l3 rfl ((unhide K3).below (unhide HB)) ?d1 ?d2 ?d3 ?_))
  case d1 => unfold maxLen; omega
  case d2 => omega
  case d3 => exact unhide HSZ
  intro v0 y1 ho hg
  have ho : y1.ownsRow (w.heap.size + 2) 5 1 v0 l3.length (ints .u8 l3) := by simpa [i64C] using ho
  obtain ⟨b0, d0, rfl⟩ := own_shapeN ho
  have hb1 : Below y0.heap.size y0 y1 := (Below.refl _ _).grown hg (Nat.le_refl _) (fun k h => by cases h)
  have hx := (hb1.block _ (Array.getElem?_eq_some_iff.1 (unhide HX)).1).trans (unhide HX)
  have hz := (hb1.block _ (Array.getElem?_eq_some_iff.1 (unhide HZ)).1).trans (unhide HZ)
  have c0 : y1.cell? ⟨w.heap.size, 2, none⟩ = some (.slice ac l3.length cc) := cell_of_heap hx
  have fz0 : ∀ o, y1.frozen? ⟨w.heap.size, o, none⟩ = false := fun o => frozen_of_heap hx
  have hx2 : (y1.setCell ⟨w.heap.size, 2, none⟩ (.slice b0 l3.length d0)).heap[w.heap.size]? = some (.cells #[.int .i64 n1, .int .i64 n2, .slice b0 l3.length d0, .slice aa l4.length ca, .slice ar l5.length cr, .slice aw l6.length cw] 70) := setCell_heap hx
  have hz2 : (y1.setCell ⟨w.heap.size, 2, none⟩ (.slice b0 l3.length d0)).heap[w.heap.size + 1]? = some (.cells #[.int .i64 0, .int .i64 0, .slice none 0 0, .slice none 0 0, .slice none 0 0, .slice none 0 0] 70) := (Below.heap_setCell _ _ _ _ (fun e => by simp only at e; omega)).trans hz
  have hbw := ((unhide HB).trans (hb1.mono (unhide HB).size)).setCell (p := ⟨w.heap.size, 2, none⟩) (Nat.le_refl _) (.slice b0 l3.length d0)
  have hsz : w.heap.size + 2 ≤ (y1.setCell ⟨w.heap.size, 2, none⟩ (.slice b0 l3.length d0)).heap.size := by simp only [World.setCell, Array.size_modify]; exact Nat.le_trans (unhide HSZ) hb1.size
  have O0 := own_setR (R := w.heap.size) ho (by omega) 2 (.slice b0 l3.length d0)
  obtain ⟨y2, hy2⟩ : ∃ y, (y1.setCell ⟨w.heap.size, 2, none⟩ (.slice b0 l3.length d0)) = y := ⟨_, rfl⟩
  rw [hy2] at hx2 hz2 hbw hsz O0
  have HB := hide hbw
  have HX := hide hx2
  have HZ := hide hz2
  have HSZ := hide hsz
  have HO0 := hide O0
  have q3 : y2.cell? ⟨w.heap.size, 3, none⟩ = some (.slice aa l4.length ca) := cell_of_heap hx2
  clear ho hg hb1 hx hz hx2 hz2 hbw hsz O0
  go_wp2_with (first | rw [hy2] | (at_builtin; refine wpList_append_sees rfl _ _ 67 rfl (w.heap.size + 2) 2 i2 (.int .i64 0) 8 Tryz.underlying67 hi2 hz20 hz21 hz22 rfl _ 0 [] rfl (World.ownsRow_nil _ _ _ _) .i64 _ l4 rfl ((unhide K4).below (unhide HB)) ?d1 ?d2 ?d3 ?_))
  case d1 => unfold maxLen; omega
  case d2 => omega
  case d3 => exact unhide HSZ
  intro v1 y3 ho hg
  have ho : y3.ownsRow (w.heap.size + 2) 2 1 v1 l4.length (i64C l4) := by simpa [i64C] using ho
  obtain ⟨b1, d1, rfl⟩ := own_shapeN ho
  have hb1 : Below y2.heap.size y2 y3 := (Below.refl _ _).grown hg (Nat.le_refl _) (fun k h => by cases h)
  have hx := (hb1.block _ (Array.getElem?_eq_some_iff.1 (unhide HX)).1).trans (unhide HX)
  have hz := (hb1.block _ (Array.getElem?_eq_some_iff.1 (unhide HZ)).1).trans (unhide HZ)
  have c1 : y3.cell? ⟨w.heap.size, 3, none⟩ = some (.slice aa l4.length ca) := cell_of_heap hx
  have fz1 : ∀ o, y3.frozen? ⟨w.heap.size, o, none⟩ = false := fun o => frozen_of_heap hx
  have hx2 : (y3.setCell ⟨w.heap.size, 3, none⟩ (.slice b1 l4.length d1)).heap[w.heap.size]? = some (.cells #[.int .i64 n1, .int .i64 n2, .slice b0 l3.length d0, .slice b1 l4.length d1, .slice ar l5.length cr, .slice aw l6.length cw] 70) := setCell_heap hx
  have hz2 : (y3.setCell ⟨w.heap.size, 3, none⟩ (.slice b1 l4.length d1)).heap[w.heap.size + 1]? = some (.cells #[.int .i64 0, .int .i64 0, .slice none 0 0, .slice none 0 0, .slice none 0 0, .slice none 0 0] 70) := (Below.heap_setCell _ _ _ _ (fun e => by simp only at e; omega)).trans hz
  have hbw := ((unhide HB).trans (hb1.mono (unhide HB).size)).setCell (p := ⟨w.heap.size, 3, none⟩) (Nat.le_refl _) (.slice b1 l4.length d1)
  have hsz : w.heap.size + 2 ≤ (y3.setCell ⟨w.heap.size, 3, none⟩ (.slice b1 l4.length d1)).heap.size := by simp only [World.setCell, Array.size_modify]; exact Nat.le_trans (unhide HSZ) hb1.size
  have O1 := own_setR (R := w.heap.size) ho (by omega) 3 (.slice b1 l4.length d1)
  have O0 := own_setR (R := w.heap.size) (own_below (unhide HO0) hb1) (by omega) 3 (.slice b1 l4.length d1)
  obtain ⟨y4, hy4⟩ : ∃ y, (y3.setCell ⟨w.heap.size, 3, none⟩ (.slice b1 l4.length d1)) = y := ⟨_, rfl⟩
  rw [hy4] at hx2 hz2 hbw hsz O0 O1
  have HB := hide hbw
  have HX := hide hx2
  have HZ := hide hz2
  have HSZ := hide hsz
  have HO0 := hide O0
  have HO1 := hide O1
  have q4 : y4.cell? ⟨w.heap.size, 4, none⟩ = some (.slice ar l5.length cr) := cell_of_heap hx2
  clear ho hg hb1 hx hz hx2 hz2 hbw hsz O0 O1
  go_wp2_with (first | rw [hy4] | (at_builtin; refine wpList_append_keys rfl _ _ rfl (w.heap.size + 2) rfl _ l5 rfl ((unhide K5).below (unhide HB)) (by omega) ?d3 ?_))
  case d3 => exact unhide HSZ
  intro v2 y5 ho hg
  obtain ⟨b2, d2, rfl⟩ := own_shapeN ho
  have hb1 : Below y4.heap.size y4 y5 := (Below.refl _ _).grown hg (Nat.le_refl _) (fun k h => by cases h)
  have hx := (hb1.block _ (Array.getElem?_eq_some_iff.1 (unhide HX)).1).trans (unhide HX)
  have hz := (hb1.block _ (Array.getElem?_eq_some_iff.1 (unhide HZ)).1).trans (unhide HZ)
  have c2 : y5.cell? ⟨w.heap.size, 4, none⟩ = some (.slice ar l5.length cr) := cell_of_heap hx
  have fz2 : ∀ o, y5.frozen? ⟨w.heap.size, o, none⟩ = false := fun o => frozen_of_heap hx
  have hx2 : (y5.setCell ⟨w.heap.size, 4, none⟩ (.slice b2 l5.length d2)).heap[w.heap.size]? = some (.cells #[.int .i64 n1, .int .i64 n2, .slice b0 l3.length d0, .slice b1 l4.length d1, .slice b2 l5.length d2, .slice aw l6.length cw] 70) := setCell_heap hx
  have hz2 : (y5.setCell ⟨w.heap.size, 4, none⟩ (.slice b2 l5.length d2)).heap[w.heap.size + 1]? = some (.cells #[.int .i64 0, .int .i64 0, .slice none 0 0, .slice none 0 0, .slice none 0 0, .slice none 0 0] 70) := (Below.heap_setCell _ _ _ _ (fun e => by simp only at e; omega)).trans hz
  have hbw := ((unhide HB).trans (hb1.mono (unhide HB).size)).setCell (p := ⟨w.heap.size, 4, none⟩) (Nat.le_refl _) (.slice b2 l5.length d2)
  have hsz : w.heap.size + 2 ≤ (y5.setCell ⟨w.heap.size, 4, none⟩ (.slice b2 l5.length d2)).heap.size := by simp only [World.setCell, Array.size_modify]; exact Nat.le_trans (unhide HSZ) hb1.size
  have O2 := own_setR (R := w.heap.size) ho (by omega) 4 (.slice b2 l5.length d2)
  have O0 := own_setR (R := w.heap.size) (own_below (unhide HO0) hb1) (by omega) 4 (.slice b2 l5.length d2)
  have O1 := own_setR (R := w.heap.size) (own_below (unhide HO1) hb1) (by omega) 4 (.slice b2 l5.length d2)
  obtain ⟨y6, hy6⟩ : ∃ y, (y5.setCell ⟨w.heap.size, 4, none⟩ (.slice b2 l5.length d2)) = y := ⟨_, rfl⟩
  rw [hy6] at hx2 hz2 hbw hsz O0 O1 O2
  have HB := hide hbw
  have HX := hide hx2
  have HZ := hide hz2
  have HSZ := hide hsz
  have HO0 := hide O0
  have HO1 := hide O1
  have HO2 := hide O2
  have q5 : y6.cell? ⟨w.heap.size, 5, none⟩ = some (.slice aw l6.length cw) := cell_of_heap hx2
  clear ho hg hb1 hx hz hx2 hz2 hbw hsz O0 O1 O2
  go_wp2_with (first | rw [hy6] | (at_builtin; refine wpList_append_keys rfl _ _ rfl (w.heap.size + 2) rfl _ l6 rfl ((unhide K6).below (unhide HB)) (by omega) ?d3 ?_))
  case d3 => exact unhide HSZ
  intro v3 y7 ho hg
  obtain ⟨b3, d3, rfl⟩ := own_shapeN ho
  have hb1 : Below y6.heap.size y6 y7 := (Below.refl _ _).grown hg (Nat.le_refl _) (fun k h => by cases h)
  have hx := (hb1.block _ (Array.getElem?_eq_some_iff.1 (unhide HX)).1).trans (unhide HX)
  have hz := (hb1.block _ (Array.getElem?_eq_some_iff.1 (unhide HZ)).1).trans (unhide HZ)
  have c3 : y7.cell? ⟨w.heap.size, 5, none⟩ = some (.slice aw l6.length cw) := cell_of_heap hx
  have fz3 : ∀ o, y7.frozen? ⟨w.heap.size, o, none⟩ = false := fun o => frozen_of_heap hx
  have hx2 : (y7.setCell ⟨w.heap.size, 5, none⟩ (.slice b3 l6.length d3)).heap[w.heap.size]? = some (.cells #[.int .i64 n1, .int .i64 n2, .slice b0 l3.length d0, .slice b1 l4.length d1, .slice b2 l5.length d2, .slice b3 l6.length d3] 70) := setCell_heap hx
  have hz2 : (y7.setCell ⟨w.heap.size, 5, none⟩ (.slice b3 l6.length d3)).heap[w.heap.size + 1]? = some (.cells #[.int .i64 0, .int .i64 0, .slice none 0 0, .slice none 0 0, .slice none 0 0, .slice none 0 0] 70) := (Below.heap_setCell _ _ _ _ (fun e => by simp only at e; omega)).trans hz
  have hbw := ((unhide HB).trans (hb1.mono (unhide HB).size)).setCell (p := ⟨w.heap.size, 5, none⟩) (Nat.le_refl _) (.slice b3 l6.length d3)
  have hsz : w.heap.size + 2 ≤ (y7.setCell ⟨w.heap.size, 5, none⟩ (.slice b3 l6.length d3)).heap.size := by simp only [World.setCell, Array.size_modify]; exact Nat.le_trans (unhide HSZ) hb1.size
  have O3 := own_setR (R := w.heap.size) ho (by omega) 5 (.slice b3 l6.length d3)
  have O0 := own_setR (R := w.heap.size) (own_below (unhide HO0) hb1) (by omega) 5 (.slice b3 l6.length d3)
  have O1 := own_setR (R := w.heap.size) (own_below (unhide HO1) hb1) (by omega) 5 (.slice b3 l6.length d3)
  have O2 := own_setR (R := w.heap.size) (own_below (unhide HO2) hb1) (by omega) 5 (.slice b3 l6.length d3)
  obtain ⟨y8, hy8⟩ : ∃ y, (y7.setCell ⟨w.heap.size, 5, none⟩ (.slice b3 l6.length d3)) = y := ⟨_, rfl⟩
  rw [hy8] at hx2 hz2 hbw hsz O0 O1 O2 O3
  have HB := hide hbw
  have HX := hide hx2
  have HZ := hide hz2
  have HSZ := hide hsz
  have HO0 := hide O0
  have HO1 := hide O1
  have HO2 := hide O2
  have HO3 := hide O3
  clear ho hg hb1 hx hz hx2 hz2 hbw hsz O0 O1 O2 O3
  have HF : Hid (∀ cr, OwnT w.heap.size (y8.setRow (w.heap.size + 1) cr) #[.int .i64 n1, .int .i64 n2, .slice b0 l3.length d0, .slice b1 l4.length d1, .slice b2 l5.length d2, .slice b3 l6.length d3] ⟨n1, n2, l3, l4, l5, l6⟩ ∧ Below w.heap.size w (y8.setRow (w.heap.size + 1) cr)) := fun cr => by
    have hk : ∀ {e size n : Nat} {v : Value} {xs : List Value}, y8.ownsRow (w.heap.size + 2) e size v n xs → (y8.setRow (w.heap.size + 1) cr).ownsRow w.heap.size e size v n xs := fun h => by
      refine own_monoN (base := w.heap.size + 2) ⟨h.1, ?_⟩ (by omega)
      rcases h.2 with hn | ⟨g, cap, cur, hv, hg, hh, r⟩
      · exact .inl hn
      · exact .inr ⟨g, cap, cur, hv, hg, (setRow_other _ _ _ _ (by omega)).trans hh, r⟩
    exact ⟨⟨_, _, _, _, rfl, hk (unhide HO0), hk (unhide HO1), hk (unhide HO2), hk (unhide HO3)⟩, below_setRow (unhide HB) (by omega)⟩
  generalize l3.length = L3 at *
  generalize l4.length = L4 at *
  generalize l5.length = L5 at *
  generalize l6.length = L6 at *
  go_wp2_with (first | rw [hy8] | refine wpList_load_row rfl 70 _ rfl w.heap.size rfl 70 _ (0, 0) _ (unhide HX) Tryz.underlying70 rfl (by kernel_rfl) ?_ | refine wpList_store_row rfl 70 _ _ rfl (w.heap.size + 1) _ _ rfl rfl 70 (unhide HZ) (by kernel_rfl) rfl (by first | kernel_rfl | simp [Value.oneCell']) ?_)
  refine bodyPost_ret (results_cell_row rfl _ _ (w.heap.size + 1) 70 #[.int .i64 n1, .int .i64 n2, .slice b0 L3 d0, .slice b1 L4 d1, .slice b2 L5 d2, .slice b3 L6 d3] (0, 0) _ rfl (setRow_heap _ _ _ _ _ _ (unhide HZ)) Tryz.underlying70 rfl (by kernel_rfl)) rfl ?_
  exact ⟨_, rfl, unhide HF _⟩
end Go.Proofs.YtggllgimlfchhabGreat
