/- Record: CloneMsg. -/
import Derived.Test.YtoddemcmmijoaaaKP
import Derived.Test.YtoddemcmmijoaaaKL
namespace Go.Proofs.Ytoddemcmmijoaaa
open Go.RowKit Go.Deep
set_option maxRecDepth 100000

theorem OwnTms.shape {base : Nat} {w : World} {x : Value} {l : List TmD} (h : OwnTms base w x l) : ∃ ao cap, x = .slice ao l.length cap := by
  obtain ⟨_, _, h1, _⟩ := h
  exact own_shapeN h1
theorem OwnTms.setR {base b o : Nat} {w : World} {x : Value} {l : List TmD} {u : Value} (h : OwnTms base w x l) (hb : b < base) : OwnTms base (w.setCell ⟨b, o, none⟩ u) x l := by
  obtain ⟨vs, h0, h1, h2⟩ := h
  exact ⟨vs, h0, own_setR h1 hb _ _, fun p hp => (h2 p hp).setR hb⟩
theorem OwnTms.below {base : Nat} {w w' : World} {x : Value} {l : List TmD} (h : OwnTms base w x l) (hb : Below w.heap.size w w') : OwnTms base w' x l := by
  obtain ⟨vs, h0, h1, h2⟩ := h
  exact ⟨vs, h0, own_below h1 hb, fun p hp => (h2 p hp).below hb⟩
theorem OwnTms.mono {base base' : Nat} {w : World} {x : Value} {l : List TmD} (h : OwnTms base w x l) (hb : base' ≤ base) : OwnTms base' w x l := by
  obtain ⟨vs, h0, h1, h2⟩ := h
  exact ⟨vs, h0, own_monoN h1 hb, fun p hp => (h2 p hp).mono hb⟩
/-- A message in memory of one's own. -/
def OwnM (base : Nat) (w : World) (cs : Array Value) (m : MsgD) : Prop :=
  ∃ lv tv dv, cs = #[.int .i64 m.kind, .int .i64 m.frm, .int .i64 m.to, .int .i64 m.term, .int .i64 m.slot, .int .i64 m.last, .int .i64 m.commit, .bool m.yes, lv, .int .i64 m.ent.kind, .int .i64 m.ent.frm, .int .i64 m.ent.num, tv, .int .i64 m.part.slot, .int .i64 m.part.idx, .int .i64 m.part.many, dv] ∧ OwnTms base w lv m.list ∧ OwnTs base w tv m.ent.txns ∧ w.ownsRow base 5 1 dv m.part.data.length (ints .u8 m.part.data)

/-- The message's clone while it is stored, cell by cell. -/
def StM (w v : World) (cs : Array Value) (lv tv dv : Value) (ml : List TmD) (mt : List TxnD) (md : List Int) : Prop :=
  v.heap[w.heap.size + 1]? = some (.cells cs 38) ∧ Below w.heap.size w v ∧ OwnTms (w.heap.size + 2) v lv ml ∧ OwnTs (w.heap.size + 2) v tv mt ∧ v.ownsRow (w.heap.size + 2) 5 1 dv md.length (ints .u8 md)
theorem stepM {w v : World} {cs : Array Value} {lv tv dv : Value} {ml : List TmD} {mt : List TxnD} {md : List Int} (h : StM w v cs lv tv dv ml mt md) (i : Nat) (x : Value) : StM w (v.setCell ⟨w.heap.size + 1, i, none⟩ x) (cs.setIfInBounds i x) lv tv dv ml mt md :=
  ⟨setCell_heap h.1, h.2.1.setCell (p := ⟨w.heap.size + 1, i, none⟩) (by simp) _, h.2.2.1.setR (by omega), h.2.2.2.1.setR (by omega), own_setR h.2.2.2.2 (by omega) _ _⟩

set_option maxHeartbeats 800000 in
theorem cloneMsg_any (cs : Array Value) (m : MsgD) (w : World) (hM : SeesM w cs m) (h1 : m.list.length ≤ 2513169434843) (h2 : ∀ t ∈ m.list, SmallTm t) (h3 : m.ent.txns.length ≤ 1256584717421) (h4 : ∀ x ∈ m.ent.txns, SmallT x) (h5 : m.part.data.length ≤ 140737488351232) :
    Calls Try.prog 18 #[.agg cs] w fun e w' => ∃ cs', e = .returned (.agg cs') ∧ OwnM w.heap.size w' cs' m ∧ Below w.heap.size w w' := by
  obtain ⟨aK, aF, aO, aT, aS, aL, aC, aY, ml, ⟨ek, ef, en, mt⟩, ⟨ps, pi, pm, md⟩⟩ := m
  obtain ⟨_, _, _, rfl, k1, k2, k3⟩ := hM
  simp only at k1 k2 k3 h1 h2 h3 h4 h5 ⊢
  have K1 := hide k1
  have K2 := hide k2
  have K3 := hide k3
  obtain ⟨la, lc, _, _, rfl, _⟩ := k1
  obtain ⟨ta, tc, _, _, rfl, _⟩ := k2
  obtain ⟨da, dc, rfl, _⟩ := k3
  have hal : Below w.heap.size w ((w.alloc (.cells #[.int .i64 aK, .int .i64 aF, .int .i64 aO, .int .i64 aT, .int .i64 aS, .int .i64 aL, .int .i64 aC, .bool aY, .slice la ml.length lc, .int .i64 ek, .int .i64 ef, .int .i64 en, .slice ta mt.length tc, .int .i64 ps, .int .i64 pi, .int .i64 pm, .slice da md.length dc] 38)).alloc (.cells #[.int .i64 0, .int .i64 0, .int .i64 0, .int .i64 0, .int .i64 0, .int .i64 0, .int .i64 0, .bool false, .slice none 0 0, .int .i64 0, .int .i64 0, .int .i64 0, .slice none 0 0, .int .i64 0, .int .i64 0, .int .i64 0, .slice none 0 0] 38)) := ((Below.refl _ _).alloc (Nat.le_refl _) _).alloc (by simp) _
  have e0 : (w.alloc (.cells #[.int .i64 aK, .int .i64 aF, .int .i64 aO, .int .i64 aT, .int .i64 aS, .int .i64 aL, .int .i64 aC, .bool aY, .slice la ml.length lc, .int .i64 ek, .int .i64 ef, .int .i64 en, .slice ta mt.length tc, .int .i64 ps, .int .i64 pi, .int .i64 pm, .slice da md.length dc] 38)).heap.size = w.heap.size + 1 := by simp
  have hx0 : ((w.alloc (.cells #[.int .i64 aK, .int .i64 aF, .int .i64 aO, .int .i64 aT, .int .i64 aS, .int .i64 aL, .int .i64 aC, .bool aY, .slice la ml.length lc, .int .i64 ek, .int .i64 ef, .int .i64 en, .slice ta mt.length tc, .int .i64 ps, .int .i64 pi, .int .i64 pm, .slice da md.length dc] 38)).alloc (.cells #[.int .i64 0, .int .i64 0, .int .i64 0, .int .i64 0, .int .i64 0, .int .i64 0, .int .i64 0, .bool false, .slice none 0 0, .int .i64 0, .int .i64 0, .int .i64 0, .slice none 0 0, .int .i64 0, .int .i64 0, .int .i64 0, .slice none 0 0] 38)).heap[w.heap.size]? = some (.cells #[.int .i64 aK, .int .i64 aF, .int .i64 aO, .int .i64 aT, .int .i64 aS, .int .i64 aL, .int .i64 aC, .bool aY, .slice la ml.length lc, .int .i64 ek, .int .i64 ef, .int .i64 en, .slice ta mt.length tc, .int .i64 ps, .int .i64 pi, .int .i64 pm, .slice da md.length dc] 38) := (Below.heap_alloc _ _ _ (by simp)).trans (heap_alloc_new w _)
  have hz0 : ((w.alloc (.cells #[.int .i64 aK, .int .i64 aF, .int .i64 aO, .int .i64 aT, .int .i64 aS, .int .i64 aL, .int .i64 aC, .bool aY, .slice la ml.length lc, .int .i64 ek, .int .i64 ef, .int .i64 en, .slice ta mt.length tc, .int .i64 ps, .int .i64 pi, .int .i64 pm, .slice da md.length dc] 38)).alloc (.cells #[.int .i64 0, .int .i64 0, .int .i64 0, .int .i64 0, .int .i64 0, .int .i64 0, .int .i64 0, .bool false, .slice none 0 0, .int .i64 0, .int .i64 0, .int .i64 0, .slice none 0 0, .int .i64 0, .int .i64 0, .int .i64 0, .slice none 0 0] 38)).heap[w.heap.size + 1]? = some (.cells #[.int .i64 0, .int .i64 0, .int .i64 0, .int .i64 0, .int .i64 0, .int .i64 0, .int .i64 0, .bool false, .slice none 0 0, .int .i64 0, .int .i64 0, .int .i64 0, .slice none 0 0, .int .i64 0, .int .i64 0, .int .i64 0, .slice none 0 0] 38) := by have := heap_alloc_new (w.alloc (.cells #[.int .i64 aK, .int .i64 aF, .int .i64 aO, .int .i64 aT, .int .i64 aS, .int .i64 aL, .int .i64 aC, .bool aY, .slice la ml.length lc, .int .i64 ek, .int .i64 ef, .int .i64 en, .slice ta mt.length tc, .int .i64 ps, .int .i64 pi, .int .i64 pm, .slice da md.length dc] 38)) (.cells #[.int .i64 0, .int .i64 0, .int .i64 0, .int .i64 0, .int .i64 0, .int .i64 0, .int .i64 0, .bool false, .slice none 0 0, .int .i64 0, .int .i64 0, .int .i64 0, .slice none 0 0, .int .i64 0, .int .i64 0, .int .i64 0, .slice none 0 0] 38); rw [e0] at this; exact this
  have hs0 : w.heap.size + 2 ≤ ((w.alloc (.cells #[.int .i64 aK, .int .i64 aF, .int .i64 aO, .int .i64 aT, .int .i64 aS, .int .i64 aL, .int .i64 aC, .bool aY, .slice la ml.length lc, .int .i64 ek, .int .i64 ef, .int .i64 en, .slice ta mt.length tc, .int .i64 ps, .int .i64 pi, .int .i64 pm, .slice da md.length dc] 38)).alloc (.cells #[.int .i64 0, .int .i64 0, .int .i64 0, .int .i64 0, .int .i64 0, .int .i64 0, .int .i64 0, .bool false, .slice none 0 0, .int .i64 0, .int .i64 0, .int .i64 0, .slice none 0 0, .int .i64 0, .int .i64 0, .int .i64 0, .slice none 0 0] 38)).heap.size := by simp
  have HX1 := hide hx0
  have HZ1 := hide hz0
  have HS1 := hide hs0
  have HB1 := hide hal
  have HC1 := hide (cloneListM_any _ ml _ ((unhide K1).below hal) h1 h2)
  have H4 := hide h4
  clear hal e0 hx0 hz0 hs0 h1 h2 h4
  go_enter Try.func18, Try.ntmps18
  go_wp2_with fail
  refine (unhide HC1).mono ?_
  rintro e u1 ⟨v, rfl, o1, b1⟩
  obtain ⟨lx, ld, rfl⟩ := o1.shape
  have hx : u1.heap[w.heap.size]? = some (.cells #[.int .i64 aK, .int .i64 aF, .int .i64 aO, .int .i64 aT, .int .i64 aS, .int .i64 aL, .int .i64 aC, .bool aY, .slice la ml.length lc, .int .i64 ek, .int .i64 ef, .int .i64 en, .slice ta mt.length tc, .int .i64 ps, .int .i64 pi, .int .i64 pm, .slice da md.length dc] 38) := (b1.block _ (by have := unhide HS1; omega)).trans (unhide HX1)
  have hz : u1.heap[w.heap.size + 1]? = some (.cells #[.int .i64 0, .int .i64 0, .int .i64 0, .int .i64 0, .int .i64 0, .int .i64 0, .int .i64 0, .bool false, .slice none 0 0, .int .i64 0, .int .i64 0, .int .i64 0, .slice none 0 0, .int .i64 0, .int .i64 0, .int .i64 0, .slice none 0 0] 38) := (b1.block _ (by have := unhide HS1; omega)).trans (unhide HZ1)
  have k1x8 : u1.cell? ⟨w.heap.size, 8, none⟩ = some (.slice la ml.length lc) := cell_of_heap hx
  have f1 : ∀ o, u1.frozen? ⟨w.heap.size, o, none⟩ = false := fun o => frozen_of_heap hx
  have HB2 : Hid (Below w.heap.size w (u1.setCell ⟨w.heap.size, 8, none⟩ (.slice lx ml.length ld))) := (((unhide HB1).trans (b1.mono (unhide HB1).size)).setCell (p := ⟨w.heap.size, 8, none⟩) (Nat.le_refl _) _)
  have HS2 : Hid (w.heap.size + 2 ≤ (u1.setCell ⟨w.heap.size, 8, none⟩ (.slice lx ml.length ld)).heap.size) := by show _ ≤ _; simp only [World.setCell, Array.size_modify]; exact Nat.le_trans (unhide HS1) b1.size
  have HO1 : Hid (OwnTms (w.heap.size + 2) (u1.setCell ⟨w.heap.size, 8, none⟩ (.slice lx ml.length ld)) (.slice lx ml.length ld) ml) := ((o1.mono (unhide HS1)).setR (by omega))
  have HX2 : Hid ((u1.setCell ⟨w.heap.size, 8, none⟩ (.slice lx ml.length ld)).heap[w.heap.size]? = some (.cells #[.int .i64 aK, .int .i64 aF, .int .i64 aO, .int .i64 aT, .int .i64 aS, .int .i64 aL, .int .i64 aC, .bool aY, .slice lx ml.length ld, .int .i64 ek, .int .i64 ef, .int .i64 en, .slice ta mt.length tc, .int .i64 ps, .int .i64 pi, .int .i64 pm, .slice da md.length dc] 38)) := (setCell_heap hx)
  have HZ2 : Hid ((u1.setCell ⟨w.heap.size, 8, none⟩ (.slice lx ml.length ld)).heap[w.heap.size + 1]? = some (.cells #[.int .i64 0, .int .i64 0, .int .i64 0, .int .i64 0, .int .i64 0, .int .i64 0, .int .i64 0, .bool false, .slice none 0 0, .int .i64 0, .int .i64 0, .int .i64 0, .slice none 0 0, .int .i64 0, .int .i64 0, .int .i64 0, .slice none 0 0] 38)) := ((Below.heap_setCell _ _ _ _ (fun e => by simp only at e; omega)).trans hz)
  clear o1 b1 hx hz HC1
  obtain ⟨y1, hy1⟩ : ∃ y, (u1.setCell ⟨w.heap.size, 8, none⟩ (.slice lx ml.length ld)) = y := ⟨_, rfl⟩
  rw [hy1] at HX2 HZ2 HB2 HS2 HO1
  have HC2 := hide (cloneEntry_any _ ⟨ek, ef, en, mt⟩ y1 ⟨_, rfl, (unhide K2).below (unhide HB2)⟩ h3 (unhide H4))
  have q1x9 : y1.cell? ⟨w.heap.size, 9, none⟩ = some (.int .i64 ek) := cell_of_heap (unhide HX2)
  have q1x10 : y1.cell? ⟨w.heap.size, 10, none⟩ = some (.int .i64 ef) := cell_of_heap (unhide HX2)
  have q1x11 : y1.cell? ⟨w.heap.size, 11, none⟩ = some (.int .i64 en) := cell_of_heap (unhide HX2)
  have q1x12 : y1.cell? ⟨w.heap.size, 12, none⟩ = some (.slice ta mt.length tc) := cell_of_heap (unhide HX2)
  go_wp2_with (rw [hy1])
  refine (unhide HC2).mono ?_
  rintro e u2 ⟨cs', rfl, ⟨tv', rfl, o2⟩, b2⟩
  obtain ⟨tx, td, rfl⟩ := o2.shape
  simp only at o2 ⊢
  have hx : u2.heap[w.heap.size]? = some (.cells #[.int .i64 aK, .int .i64 aF, .int .i64 aO, .int .i64 aT, .int .i64 aS, .int .i64 aL, .int .i64 aC, .bool aY, .slice lx ml.length ld, .int .i64 ek, .int .i64 ef, .int .i64 en, .slice ta mt.length tc, .int .i64 ps, .int .i64 pi, .int .i64 pm, .slice da md.length dc] 38) := (b2.block _ (by have := unhide HS2; omega)).trans (unhide HX2)
  have hz : u2.heap[w.heap.size + 1]? = some (.cells #[.int .i64 0, .int .i64 0, .int .i64 0, .int .i64 0, .int .i64 0, .int .i64 0, .int .i64 0, .bool false, .slice none 0 0, .int .i64 0, .int .i64 0, .int .i64 0, .slice none 0 0, .int .i64 0, .int .i64 0, .int .i64 0, .slice none 0 0] 38) := (b2.block _ (by have := unhide HS2; omega)).trans (unhide HZ2)
  have k2x9 : u2.cell? ⟨w.heap.size, 9, none⟩ = some (.int .i64 ek) := cell_of_heap hx
  have k2x10 : u2.cell? ⟨w.heap.size, 10, none⟩ = some (.int .i64 ef) := cell_of_heap hx
  have k2x11 : u2.cell? ⟨w.heap.size, 11, none⟩ = some (.int .i64 en) := cell_of_heap hx
  have k2x12 : u2.cell? ⟨w.heap.size, 12, none⟩ = some (.slice ta mt.length tc) := cell_of_heap hx
  have f2 : ∀ o, u2.frozen? ⟨w.heap.size, o, none⟩ = false := fun o => frozen_of_heap hx
  have HB3 : Hid (Below w.heap.size w ((((u2.setCell ⟨w.heap.size, 9, none⟩ (.int .i64 ek)).setCell ⟨w.heap.size, 10, none⟩ (.int .i64 ef)).setCell ⟨w.heap.size, 11, none⟩ (.int .i64 en)).setCell ⟨w.heap.size, 12, none⟩ (.slice tx mt.length td))) := ((((((unhide HB2).trans (b2.mono (unhide HB2).size)).setCell (p := ⟨w.heap.size, 9, none⟩) (Nat.le_refl _) _).setCell (p := ⟨w.heap.size, 10, none⟩) (Nat.le_refl _) _).setCell (p := ⟨w.heap.size, 11, none⟩) (Nat.le_refl _) _).setCell (p := ⟨w.heap.size, 12, none⟩) (Nat.le_refl _) _)
  have HS3 : Hid (w.heap.size + 2 ≤ ((((u2.setCell ⟨w.heap.size, 9, none⟩ (.int .i64 ek)).setCell ⟨w.heap.size, 10, none⟩ (.int .i64 ef)).setCell ⟨w.heap.size, 11, none⟩ (.int .i64 en)).setCell ⟨w.heap.size, 12, none⟩ (.slice tx mt.length td)).heap.size) := by show _ ≤ _; simp only [World.setCell, Array.size_modify]; exact Nat.le_trans (unhide HS2) b2.size
  have HO1n : Hid (OwnTms (w.heap.size + 2) ((((u2.setCell ⟨w.heap.size, 9, none⟩ (.int .i64 ek)).setCell ⟨w.heap.size, 10, none⟩ (.int .i64 ef)).setCell ⟨w.heap.size, 11, none⟩ (.int .i64 en)).setCell ⟨w.heap.size, 12, none⟩ (.slice tx mt.length td)) (.slice lx ml.length ld) ml) := ((((((unhide HO1).below b2).setR (by omega)).setR (by omega)).setR (by omega)).setR (by omega))
  clear HO1
  have HO1 := HO1n
  clear HO1n
  have HO2 : Hid (OwnTs (w.heap.size + 2) ((((u2.setCell ⟨w.heap.size, 9, none⟩ (.int .i64 ek)).setCell ⟨w.heap.size, 10, none⟩ (.int .i64 ef)).setCell ⟨w.heap.size, 11, none⟩ (.int .i64 en)).setCell ⟨w.heap.size, 12, none⟩ (.slice tx mt.length td)) (.slice tx mt.length td) mt) := (((((o2.mono (unhide HS2)).setR (by omega)).setR (by omega)).setR (by omega)).setR (by omega))
  have HX3 : Hid (((((u2.setCell ⟨w.heap.size, 9, none⟩ (.int .i64 ek)).setCell ⟨w.heap.size, 10, none⟩ (.int .i64 ef)).setCell ⟨w.heap.size, 11, none⟩ (.int .i64 en)).setCell ⟨w.heap.size, 12, none⟩ (.slice tx mt.length td)).heap[w.heap.size]? = some (.cells #[.int .i64 aK, .int .i64 aF, .int .i64 aO, .int .i64 aT, .int .i64 aS, .int .i64 aL, .int .i64 aC, .bool aY, .slice lx ml.length ld, .int .i64 ek, .int .i64 ef, .int .i64 en, .slice tx mt.length td, .int .i64 ps, .int .i64 pi, .int .i64 pm, .slice da md.length dc] 38)) := (setCell_heap (setCell_heap (setCell_heap (setCell_heap hx))))
  have HZ3 : Hid (((((u2.setCell ⟨w.heap.size, 9, none⟩ (.int .i64 ek)).setCell ⟨w.heap.size, 10, none⟩ (.int .i64 ef)).setCell ⟨w.heap.size, 11, none⟩ (.int .i64 en)).setCell ⟨w.heap.size, 12, none⟩ (.slice tx mt.length td)).heap[w.heap.size + 1]? = some (.cells #[.int .i64 0, .int .i64 0, .int .i64 0, .int .i64 0, .int .i64 0, .int .i64 0, .int .i64 0, .bool false, .slice none 0 0, .int .i64 0, .int .i64 0, .int .i64 0, .slice none 0 0, .int .i64 0, .int .i64 0, .int .i64 0, .slice none 0 0] 38)) := ((Below.heap_setCell _ _ _ _ (fun e => by simp only at e; omega)).trans ((Below.heap_setCell _ _ _ _ (fun e => by simp only at e; omega)).trans ((Below.heap_setCell _ _ _ _ (fun e => by simp only at e; omega)).trans ((Below.heap_setCell _ _ _ _ (fun e => by simp only at e; omega)).trans hz))))
  clear o2 b2 hx hz HC2
  obtain ⟨y2, hy2⟩ : ∃ y, ((((u2.setCell ⟨w.heap.size, 9, none⟩ (.int .i64 ek)).setCell ⟨w.heap.size, 10, none⟩ (.int .i64 ef)).setCell ⟨w.heap.size, 11, none⟩ (.int .i64 en)).setCell ⟨w.heap.size, 12, none⟩ (.slice tx mt.length td)) = y := ⟨_, rfl⟩
  rw [hy2] at HX3 HZ3 HB3 HS3 HO1 HO2
  have HC3 := hide (cloneB_any _ md y2 ((unhide K3).below (unhide HB3)) (by omega))
  have q2x16 : y2.cell? ⟨w.heap.size, 16, none⟩ = some (.slice da md.length dc) := cell_of_heap (unhide HX3)
  go_wp2_with (rw [hy2])
  refine (unhide HC3).mono ?_
  rintro e u3 ⟨v, rfl, o3, b3⟩
  obtain ⟨dx, dd, rfl⟩ := own_shapeN o3
  have hx : u3.heap[w.heap.size]? = some (.cells #[.int .i64 aK, .int .i64 aF, .int .i64 aO, .int .i64 aT, .int .i64 aS, .int .i64 aL, .int .i64 aC, .bool aY, .slice lx ml.length ld, .int .i64 ek, .int .i64 ef, .int .i64 en, .slice tx mt.length td, .int .i64 ps, .int .i64 pi, .int .i64 pm, .slice da md.length dc] 38) := (b3.block _ (by have := unhide HS3; omega)).trans (unhide HX3)
  have hz : u3.heap[w.heap.size + 1]? = some (.cells #[.int .i64 0, .int .i64 0, .int .i64 0, .int .i64 0, .int .i64 0, .int .i64 0, .int .i64 0, .bool false, .slice none 0 0, .int .i64 0, .int .i64 0, .int .i64 0, .slice none 0 0, .int .i64 0, .int .i64 0, .int .i64 0, .slice none 0 0] 38) := (b3.block _ (by have := unhide HS3; omega)).trans (unhide HZ3)
  have k3x16 : u3.cell? ⟨w.heap.size, 16, none⟩ = some (.slice da md.length dc) := cell_of_heap hx
  have f3 : ∀ o, u3.frozen? ⟨w.heap.size, o, none⟩ = false := fun o => frozen_of_heap hx
  have HB4 : Hid (Below w.heap.size w (u3.setCell ⟨w.heap.size, 16, none⟩ (.slice dx md.length dd))) := (((unhide HB3).trans (b3.mono (unhide HB3).size)).setCell (p := ⟨w.heap.size, 16, none⟩) (Nat.le_refl _) _)
  have HS4 : Hid (w.heap.size + 2 ≤ (u3.setCell ⟨w.heap.size, 16, none⟩ (.slice dx md.length dd)).heap.size) := by show _ ≤ _; simp only [World.setCell, Array.size_modify]; exact Nat.le_trans (unhide HS3) b3.size
  have HO1n : Hid (OwnTms (w.heap.size + 2) (u3.setCell ⟨w.heap.size, 16, none⟩ (.slice dx md.length dd)) (.slice lx ml.length ld) ml) := (((unhide HO1).below b3).setR (by omega))
  clear HO1
  have HO1 := HO1n
  clear HO1n
  have HO2n : Hid (OwnTs (w.heap.size + 2) (u3.setCell ⟨w.heap.size, 16, none⟩ (.slice dx md.length dd)) (.slice tx mt.length td) mt) := (((unhide HO2).below b3).setR (by omega))
  clear HO2
  have HO2 := HO2n
  clear HO2n
  have HO3 : Hid ((u3.setCell ⟨w.heap.size, 16, none⟩ (.slice dx md.length dd)).ownsRow (w.heap.size + 2) 5 1 (.slice dx md.length dd) md.length (ints .u8 md)) := (own_setR (own_monoN o3 (unhide HS3)) (by omega) _ _)
  have HX4 : Hid ((u3.setCell ⟨w.heap.size, 16, none⟩ (.slice dx md.length dd)).heap[w.heap.size]? = some (.cells #[.int .i64 aK, .int .i64 aF, .int .i64 aO, .int .i64 aT, .int .i64 aS, .int .i64 aL, .int .i64 aC, .bool aY, .slice lx ml.length ld, .int .i64 ek, .int .i64 ef, .int .i64 en, .slice tx mt.length td, .int .i64 ps, .int .i64 pi, .int .i64 pm, .slice dx md.length dd] 38)) := (setCell_heap hx)
  have HZ4 : Hid ((u3.setCell ⟨w.heap.size, 16, none⟩ (.slice dx md.length dd)).heap[w.heap.size + 1]? = some (.cells #[.int .i64 0, .int .i64 0, .int .i64 0, .int .i64 0, .int .i64 0, .int .i64 0, .int .i64 0, .bool false, .slice none 0 0, .int .i64 0, .int .i64 0, .int .i64 0, .slice none 0 0, .int .i64 0, .int .i64 0, .int .i64 0, .slice none 0 0] 38)) := ((Below.heap_setCell _ _ _ _ (fun e => by simp only at e; omega)).trans hz)
  clear o3 b3 hx hz HC3
  obtain ⟨y3, hy3⟩ : ∃ y, (u3.setCell ⟨w.heap.size, 16, none⟩ (.slice dx md.length dd)) = y := ⟨_, rfl⟩
  rw [hy3] at HX4 HZ4 HB4 HS4 HO1 HO2 HO3
  have t0 : y3.cell? ⟨w.heap.size, 0, none⟩ = some (.int .i64 aK) := cell_of_heap (unhide HX4)
  have t1 : y3.cell? ⟨w.heap.size, 1, none⟩ = some (.int .i64 aF) := cell_of_heap (unhide HX4)
  have t2 : y3.cell? ⟨w.heap.size, 2, none⟩ = some (.int .i64 aO) := cell_of_heap (unhide HX4)
  have t3 : y3.cell? ⟨w.heap.size, 3, none⟩ = some (.int .i64 aT) := cell_of_heap (unhide HX4)
  have t4 : y3.cell? ⟨w.heap.size, 4, none⟩ = some (.int .i64 aS) := cell_of_heap (unhide HX4)
  have t5 : y3.cell? ⟨w.heap.size, 5, none⟩ = some (.int .i64 aL) := cell_of_heap (unhide HX4)
  have t6 : y3.cell? ⟨w.heap.size, 6, none⟩ = some (.int .i64 aC) := cell_of_heap (unhide HX4)
  have t7 : y3.cell? ⟨w.heap.size, 7, none⟩ = some (.bool aY) := cell_of_heap (unhide HX4)
  have t8 : y3.cell? ⟨w.heap.size, 8, none⟩ = some (.slice lx ml.length ld) := cell_of_heap (unhide HX4)
  have t9 : y3.cell? ⟨w.heap.size, 9, none⟩ = some (.int .i64 ek) := cell_of_heap (unhide HX4)
  have t10 : y3.cell? ⟨w.heap.size, 10, none⟩ = some (.int .i64 ef) := cell_of_heap (unhide HX4)
  have t11 : y3.cell? ⟨w.heap.size, 11, none⟩ = some (.int .i64 en) := cell_of_heap (unhide HX4)
  have t12 : y3.cell? ⟨w.heap.size, 12, none⟩ = some (.slice tx mt.length td) := cell_of_heap (unhide HX4)
  have t13 : y3.cell? ⟨w.heap.size, 13, none⟩ = some (.int .i64 ps) := cell_of_heap (unhide HX4)
  have t14 : y3.cell? ⟨w.heap.size, 14, none⟩ = some (.int .i64 pi) := cell_of_heap (unhide HX4)
  have t15 : y3.cell? ⟨w.heap.size, 15, none⟩ = some (.int .i64 pm) := cell_of_heap (unhide HX4)
  have t16 : y3.cell? ⟨w.heap.size, 16, none⟩ = some (.slice dx md.length dd) := cell_of_heap (unhide HX4)
  have z0 : y3.cell? ⟨w.heap.size + 1, 0, none⟩ = some (.int .i64 0) := cell_of_heap (unhide HZ4)
  have z1 : y3.cell? ⟨w.heap.size + 1, 1, none⟩ = some (.int .i64 0) := cell_of_heap (unhide HZ4)
  have z2 : y3.cell? ⟨w.heap.size + 1, 2, none⟩ = some (.int .i64 0) := cell_of_heap (unhide HZ4)
  have z3 : y3.cell? ⟨w.heap.size + 1, 3, none⟩ = some (.int .i64 0) := cell_of_heap (unhide HZ4)
  have z4 : y3.cell? ⟨w.heap.size + 1, 4, none⟩ = some (.int .i64 0) := cell_of_heap (unhide HZ4)
  have z5 : y3.cell? ⟨w.heap.size + 1, 5, none⟩ = some (.int .i64 0) := cell_of_heap (unhide HZ4)
  have z6 : y3.cell? ⟨w.heap.size + 1, 6, none⟩ = some (.int .i64 0) := cell_of_heap (unhide HZ4)
  have z7 : y3.cell? ⟨w.heap.size + 1, 7, none⟩ = some (.bool false) := cell_of_heap (unhide HZ4)
  have z8 : y3.cell? ⟨w.heap.size + 1, 8, none⟩ = some (.slice none 0 0) := cell_of_heap (unhide HZ4)
  have z9 : y3.cell? ⟨w.heap.size + 1, 9, none⟩ = some (.int .i64 0) := cell_of_heap (unhide HZ4)
  have z10 : y3.cell? ⟨w.heap.size + 1, 10, none⟩ = some (.int .i64 0) := cell_of_heap (unhide HZ4)
  have z11 : y3.cell? ⟨w.heap.size + 1, 11, none⟩ = some (.int .i64 0) := cell_of_heap (unhide HZ4)
  have z12 : y3.cell? ⟨w.heap.size + 1, 12, none⟩ = some (.slice none 0 0) := cell_of_heap (unhide HZ4)
  have z13 : y3.cell? ⟨w.heap.size + 1, 13, none⟩ = some (.int .i64 0) := cell_of_heap (unhide HZ4)
  have z14 : y3.cell? ⟨w.heap.size + 1, 14, none⟩ = some (.int .i64 0) := cell_of_heap (unhide HZ4)
  have z15 : y3.cell? ⟨w.heap.size + 1, 15, none⟩ = some (.int .i64 0) := cell_of_heap (unhide HZ4)
  have z16 : y3.cell? ⟨w.heap.size + 1, 16, none⟩ = some (.slice none 0 0) := cell_of_heap (unhide HZ4)
  have fz : ∀ o, y3.frozen? ⟨w.heap.size + 1, o, none⟩ = false := fun o => frozen_of_heap (unhide HZ4)
  have hA : ((((((((((((((((((#[.int .i64 0, .int .i64 0, .int .i64 0, .int .i64 0, .int .i64 0, .int .i64 0, .int .i64 0, .bool false, .slice none 0 0, .int .i64 0, .int .i64 0, .int .i64 0, .slice none 0 0, .int .i64 0, .int .i64 0, .int .i64 0, .slice none 0 0] : Array Value).setIfInBounds 0 (.int .i64 aK)).setIfInBounds 1 (.int .i64 aF)).setIfInBounds 2 (.int .i64 aO)).setIfInBounds 3 (.int .i64 aT)).setIfInBounds 4 (.int .i64 aS)).setIfInBounds 5 (.int .i64 aL)).setIfInBounds 6 (.int .i64 aC)).setIfInBounds 7 (.bool aY)).setIfInBounds 8 (.slice lx ml.length ld)).setIfInBounds 9 (.int .i64 ek)).setIfInBounds 10 (.int .i64 ef)).setIfInBounds 11 (.int .i64 en)).setIfInBounds 12 (.slice tx mt.length td)).setIfInBounds 13 (.int .i64 ps)).setIfInBounds 14 (.int .i64 pi)).setIfInBounds 15 (.int .i64 pm)).setIfInBounds 16 (.slice dx md.length dd)) = #[.int .i64 aK, .int .i64 aF, .int .i64 aO, .int .i64 aT, .int .i64 aS, .int .i64 aL, .int .i64 aC, .bool aY, .slice lx ml.length ld, .int .i64 ek, .int .i64 ef, .int .i64 en, .slice tx mt.length td, .int .i64 ps, .int .i64 pi, .int .i64 pm, .slice dx md.length dd] := by kernel_rfl
  have h9 : StM w (((((((((((((((((y3.setCell ⟨w.heap.size + 1, 0, none⟩ (.int .i64 aK)).setCell ⟨w.heap.size + 1, 1, none⟩ (.int .i64 aF)).setCell ⟨w.heap.size + 1, 2, none⟩ (.int .i64 aO)).setCell ⟨w.heap.size + 1, 3, none⟩ (.int .i64 aT)).setCell ⟨w.heap.size + 1, 4, none⟩ (.int .i64 aS)).setCell ⟨w.heap.size + 1, 5, none⟩ (.int .i64 aL)).setCell ⟨w.heap.size + 1, 6, none⟩ (.int .i64 aC)).setCell ⟨w.heap.size + 1, 7, none⟩ (.bool aY)).setCell ⟨w.heap.size + 1, 8, none⟩ (.slice lx ml.length ld)).setCell ⟨w.heap.size + 1, 9, none⟩ (.int .i64 ek)).setCell ⟨w.heap.size + 1, 10, none⟩ (.int .i64 ef)).setCell ⟨w.heap.size + 1, 11, none⟩ (.int .i64 en)).setCell ⟨w.heap.size + 1, 12, none⟩ (.slice tx mt.length td)).setCell ⟨w.heap.size + 1, 13, none⟩ (.int .i64 ps)).setCell ⟨w.heap.size + 1, 14, none⟩ (.int .i64 pi)).setCell ⟨w.heap.size + 1, 15, none⟩ (.int .i64 pm)).setCell ⟨w.heap.size + 1, 16, none⟩ (.slice dx md.length dd)) ((((((((((((((((((#[.int .i64 0, .int .i64 0, .int .i64 0, .int .i64 0, .int .i64 0, .int .i64 0, .int .i64 0, .bool false, .slice none 0 0, .int .i64 0, .int .i64 0, .int .i64 0, .slice none 0 0, .int .i64 0, .int .i64 0, .int .i64 0, .slice none 0 0] : Array Value).setIfInBounds 0 (.int .i64 aK)).setIfInBounds 1 (.int .i64 aF)).setIfInBounds 2 (.int .i64 aO)).setIfInBounds 3 (.int .i64 aT)).setIfInBounds 4 (.int .i64 aS)).setIfInBounds 5 (.int .i64 aL)).setIfInBounds 6 (.int .i64 aC)).setIfInBounds 7 (.bool aY)).setIfInBounds 8 (.slice lx ml.length ld)).setIfInBounds 9 (.int .i64 ek)).setIfInBounds 10 (.int .i64 ef)).setIfInBounds 11 (.int .i64 en)).setIfInBounds 12 (.slice tx mt.length td)).setIfInBounds 13 (.int .i64 ps)).setIfInBounds 14 (.int .i64 pi)).setIfInBounds 15 (.int .i64 pm)).setIfInBounds 16 (.slice dx md.length dd)) (.slice lx ml.length ld) (.slice tx mt.length td) (.slice dx md.length dd) ml mt md := (stepM (stepM (stepM (stepM (stepM (stepM (stepM (stepM (stepM (stepM (stepM (stepM (stepM (stepM (stepM (stepM (stepM ⟨unhide HZ4, unhide HB4, unhide HO1, unhide HO2, unhide HO3⟩ 0 (.int .i64 aK)) 1 (.int .i64 aF)) 2 (.int .i64 aO)) 3 (.int .i64 aT)) 4 (.int .i64 aS)) 5 (.int .i64 aL)) 6 (.int .i64 aC)) 7 (.bool aY)) 8 (.slice lx ml.length ld)) 9 (.int .i64 ek)) 10 (.int .i64 ef)) 11 (.int .i64 en)) 12 (.slice tx mt.length td)) 13 (.int .i64 ps)) 14 (.int .i64 pi)) 15 (.int .i64 pm)) 16 (.slice dx md.length dd))
  rw [hA] at h9
  obtain ⟨y9, hy9⟩ : ∃ y, (((((((((((((((((y3.setCell ⟨w.heap.size + 1, 0, none⟩ (.int .i64 aK)).setCell ⟨w.heap.size + 1, 1, none⟩ (.int .i64 aF)).setCell ⟨w.heap.size + 1, 2, none⟩ (.int .i64 aO)).setCell ⟨w.heap.size + 1, 3, none⟩ (.int .i64 aT)).setCell ⟨w.heap.size + 1, 4, none⟩ (.int .i64 aS)).setCell ⟨w.heap.size + 1, 5, none⟩ (.int .i64 aL)).setCell ⟨w.heap.size + 1, 6, none⟩ (.int .i64 aC)).setCell ⟨w.heap.size + 1, 7, none⟩ (.bool aY)).setCell ⟨w.heap.size + 1, 8, none⟩ (.slice lx ml.length ld)).setCell ⟨w.heap.size + 1, 9, none⟩ (.int .i64 ek)).setCell ⟨w.heap.size + 1, 10, none⟩ (.int .i64 ef)).setCell ⟨w.heap.size + 1, 11, none⟩ (.int .i64 en)).setCell ⟨w.heap.size + 1, 12, none⟩ (.slice tx mt.length td)).setCell ⟨w.heap.size + 1, 13, none⟩ (.int .i64 ps)).setCell ⟨w.heap.size + 1, 14, none⟩ (.int .i64 pi)).setCell ⟨w.heap.size + 1, 15, none⟩ (.int .i64 pm)).setCell ⟨w.heap.size + 1, 16, none⟩ (.slice dx md.length dd)) = y := ⟨_, rfl⟩
  rw [hy9] at h9
  have HZ9 := hide h9.1
  have HF : Hid (OwnM w.heap.size y9 #[.int .i64 aK, .int .i64 aF, .int .i64 aO, .int .i64 aT, .int .i64 aS, .int .i64 aL, .int .i64 aC, .bool aY, .slice lx ml.length ld, .int .i64 ek, .int .i64 ef, .int .i64 en, .slice tx mt.length td, .int .i64 ps, .int .i64 pi, .int .i64 pm, .slice dx md.length dd] ⟨aK, aF, aO, aT, aS, aL, aC, aY, ml, ⟨ek, ef, en, mt⟩, ⟨ps, pi, pm, md⟩⟩ ∧ Below w.heap.size w y9) := ⟨⟨_, _, _, rfl, h9.2.2.1.mono (by omega), h9.2.2.2.1.mono (by omega), own_monoN h9.2.2.2.2 (by omega)⟩, h9.2.1⟩
  clear h9 hA HX4 HZ4 HB4 HO1 HO2 HO3 HS4
  go_wp2_with (first | rw [hy9] | rw [hy3])
  refine bodyPost_ret (results_cell_row rfl _ _ (w.heap.size + 1) 38 #[.int .i64 aK, .int .i64 aF, .int .i64 aO, .int .i64 aT, .int .i64 aS, .int .i64 aL, .int .i64 aC, .bool aY, .slice lx ml.length ld, .int .i64 ek, .int .i64 ef, .int .i64 en, .slice tx mt.length td, .int .i64 ps, .int .i64 pi, .int .i64 pm, .slice dx md.length dd] (0, 0) _ rfl (unhide HZ9) Try.underlying38 rfl (by kernel_rfl)) rfl ?_
  exact ⟨_, rfl, unhide HF⟩
end Go.Proofs.Ytoddemcmmijoaaa
