/- Record: the document's reader: messages. -/
import Derived.Test.YtggllgimlfchhaaGreatKF
namespace Go.Proofs.YtggllgimlfchhaaGreat
open Go.RowKit
set_option maxRecDepth 100000

/-- Where a message that is read stands. -/
structure GJ (w : World) (R lo : Nat) (ZB : List Int) (cs : Array Value) (s : RS) (wr : World) : Prop where
  t : wr.heap[w.heap.size + 1]? = some (.cells cs 34)
  z : wr.heap[w.heap.size]? = some (.cells #[.int .i64 0, .int .i64 0, .int .i64 0, .int .i64 0, .int .i64 0, .int .i64 0, .int .i64 0, .bool false, .slice none 0 0, .int .i64 0, .int .i64 0, .int .i64 0, .slice none 0 0, .int .i64 0, .int .i64 0, .int .i64 0, .slice none 0 0] 34)
  rd : Dr wr R lo ZB s
  but : But R w wr
  size : w.heap.size + 2 ≤ wr.heap.size
theorem GJ.call {w : World} {R lo : Nat} {ZB : List Int} {cs : Array Value} {s s' : RS} {wr y : World} (h : GJ w R lo ZB cs s wr) (hR : R < w.heap.size) (hd : Dr y R lo ZB s') (hb : But R wr y) : GJ w R lo ZB cs s' y :=
  ⟨hb.same h.t (by omega), hb.same h.z (by omega), hd, h.but.trans hb, Nat.le_trans h.size hb.size⟩
theorem GJ.set {w : World} {R lo : Nat} {ZB : List Int} {cs cs' : Array Value} {s : RS} {wr : World} (h : GJ w R lo ZB cs s wr) (hR : R < w.heap.size) (o : Nat) (v : Value) (he : cs.setIfInBounds o v = cs') : GJ w R lo ZB cs' s (wr.setCell ⟨w.heap.size + 1, o, none⟩ v) :=
  ⟨by rw [← he]; exact setCell_heap h.t, (Below.heap_setCell _ _ _ _ (fun e => by simp only at e; omega)).trans h.z, h.rd.other (by omega) o _, h.but.new (b := w.heap.size + 1) (by omega) o _, by simp only [World.setCell, Array.size_modify]; exact h.size⟩
theorem GJ.fin {w : World} {R lo : Nat} {ZB : List Int} {cs : Array Value} {s : RS} {wr : World} (h : GJ w R lo ZB cs s wr) (hR : R < w.heap.size) (cr : Array Value) : Dr (wr.setRow w.heap.size cr) R lo ZB s ∧ But R w (wr.setRow w.heap.size cr) := ⟨h.rd.keep (fun k hk => setRow_other _ _ _ _ (by omega)), h.but.newRow (Nat.le_refl _) _⟩
def RS.dm1 (s : RS) : MsgD × RS := (⟨1, s.small.1, s.small.2.small.1, s.small.2.small.2.num.1, s.small.2.small.2.num.2.num.1, s.small.2.small.2.num.2.num.2.num.1, 0, false, [], ⟨0, 0, 0, []⟩, ⟨0, 0, 0, []⟩⟩, s.small.2.small.2.num.2.num.2.num.2)

set_option maxHeartbeats 1600000 in
theorem msg_d1 {w : World} {R lo : Nat} {ZB : List Int} {s : RS} (h : Dr w R lo ZB s) (hk : s.small.1 = 1) :
    Calls Tryz.prog 53 #[.pointer (some ⟨R, 0, none⟩)] w fun e w' => ∃ cs, e = .returned (.agg cs) ∧ OwnM w.heap.size w' cs (RS.dm1 s.small.2).1 ∧ Dr w' R lo ZB (RS.dm1 s.small.2).2 ∧ But R w w' := by
  have hr := h.rlt
  obtain ⟨s0, hs0⟩ : ∃ x, s.small.2 = x := ⟨_, rfl⟩
  have he : s0.er = 0 := Classical.byContradiction fun g => by have := small_bad (s := s) (by rw [hs0]; exact g); omega
  rw [hs0]
  obtain ⟨v1, t1, e1⟩ : ∃ n s', s0.small = (n, s') := ⟨_, _, rfl⟩
  obtain ⟨v2, t2, e2⟩ : ∃ n s', t1.small = (n, s') := ⟨_, _, rfl⟩
  obtain ⟨v3, t3, e3⟩ : ∃ n s', t2.num = (n, s') := ⟨_, _, rfl⟩
  obtain ⟨v4, t4, e4⟩ : ∃ n s', t3.num = (n, s') := ⟨_, _, rfl⟩
  obtain ⟨v5, t5, e5⟩ : ∃ n s', t4.num = (n, s') := ⟨_, _, rfl⟩
  have et : RS.dm1 s0 = (⟨1, v1, v2, v3, v4, v5, 0, false, [], ⟨0, 0, 0, []⟩, ⟨0, 0, 0, []⟩⟩, t5) := by simp only [RS.dm1, e1, e2, e3, e4, e5]
  rw [et]
  simp only
  have HE2 := hide e2
  have HE3 := hide e3
  have HE4 := hide e4
  have HE5 := hide e5
  have hal : Below w.heap.size w ((w.alloc (.cells #[.int .i64 0, .int .i64 0, .int .i64 0, .int .i64 0, .int .i64 0, .int .i64 0, .int .i64 0, .bool false, .slice none 0 0, .int .i64 0, .int .i64 0, .int .i64 0, .slice none 0 0, .int .i64 0, .int .i64 0, .int .i64 0, .slice none 0 0] 34)).alloc (.cells #[.int .i64 0, .int .i64 0, .int .i64 0, .int .i64 0, .int .i64 0, .int .i64 0, .int .i64 0, .bool false, .slice none 0 0, .int .i64 0, .int .i64 0, .int .i64 0, .slice none 0 0, .int .i64 0, .int .i64 0, .int .i64 0, .slice none 0 0] 34)) := ((Below.refl _ _).alloc (Nat.le_refl _) _).alloc (by simp) _
  have hz0 : ((w.alloc (.cells #[.int .i64 0, .int .i64 0, .int .i64 0, .int .i64 0, .int .i64 0, .int .i64 0, .int .i64 0, .bool false, .slice none 0 0, .int .i64 0, .int .i64 0, .int .i64 0, .slice none 0 0, .int .i64 0, .int .i64 0, .int .i64 0, .slice none 0 0] 34)).alloc (.cells #[.int .i64 0, .int .i64 0, .int .i64 0, .int .i64 0, .int .i64 0, .int .i64 0, .int .i64 0, .bool false, .slice none 0 0, .int .i64 0, .int .i64 0, .int .i64 0, .slice none 0 0, .int .i64 0, .int .i64 0, .int .i64 0, .slice none 0 0] 34)).heap[w.heap.size]? = some (.cells #[.int .i64 0, .int .i64 0, .int .i64 0, .int .i64 0, .int .i64 0, .int .i64 0, .int .i64 0, .bool false, .slice none 0 0, .int .i64 0, .int .i64 0, .int .i64 0, .slice none 0 0, .int .i64 0, .int .i64 0, .int .i64 0, .slice none 0 0] 34) := (Below.heap_alloc _ _ _ (by simp)).trans (heap_alloc_new w _)
  have hsz0 : (w.alloc (.cells #[.int .i64 0, .int .i64 0, .int .i64 0, .int .i64 0, .int .i64 0, .int .i64 0, .int .i64 0, .bool false, .slice none 0 0, .int .i64 0, .int .i64 0, .int .i64 0, .slice none 0 0, .int .i64 0, .int .i64 0, .int .i64 0, .slice none 0 0] 34)).heap.size = w.heap.size + 1 := by simp
  have ht0 : ((w.alloc (.cells #[.int .i64 0, .int .i64 0, .int .i64 0, .int .i64 0, .int .i64 0, .int .i64 0, .int .i64 0, .bool false, .slice none 0 0, .int .i64 0, .int .i64 0, .int .i64 0, .slice none 0 0, .int .i64 0, .int .i64 0, .int .i64 0, .slice none 0 0] 34)).alloc (.cells #[.int .i64 0, .int .i64 0, .int .i64 0, .int .i64 0, .int .i64 0, .int .i64 0, .int .i64 0, .bool false, .slice none 0 0, .int .i64 0, .int .i64 0, .int .i64 0, .slice none 0 0, .int .i64 0, .int .i64 0, .int .i64 0, .slice none 0 0] 34)).heap[w.heap.size + 1]? = some (.cells #[.int .i64 0, .int .i64 0, .int .i64 0, .int .i64 0, .int .i64 0, .int .i64 0, .int .i64 0, .bool false, .slice none 0 0, .int .i64 0, .int .i64 0, .int .i64 0, .slice none 0 0, .int .i64 0, .int .i64 0, .int .i64 0, .slice none 0 0] 34) := by have := heap_alloc_new (w.alloc (.cells #[.int .i64 0, .int .i64 0, .int .i64 0, .int .i64 0, .int .i64 0, .int .i64 0, .int .i64 0, .bool false, .slice none 0 0, .int .i64 0, .int .i64 0, .int .i64 0, .slice none 0 0, .int .i64 0, .int .i64 0, .int .i64 0, .slice none 0 0] 34)) (.cells #[.int .i64 0, .int .i64 0, .int .i64 0, .int .i64 0, .int .i64 0, .int .i64 0, .int .i64 0, .bool false, .slice none 0 0, .int .i64 0, .int .i64 0, .int .i64 0, .slice none 0 0, .int .i64 0, .int .i64 0, .int .i64 0, .slice none 0 0] 34); rw [hsz0] at this; exact this
  have hsz1 : ((w.alloc (.cells #[.int .i64 0, .int .i64 0, .int .i64 0, .int .i64 0, .int .i64 0, .int .i64 0, .int .i64 0, .bool false, .slice none 0 0, .int .i64 0, .int .i64 0, .int .i64 0, .slice none 0 0, .int .i64 0, .int .i64 0, .int .i64 0, .slice none 0 0] 34)).alloc (.cells #[.int .i64 0, .int .i64 0, .int .i64 0, .int .i64 0, .int .i64 0, .int .i64 0, .int .i64 0, .bool false, .slice none 0 0, .int .i64 0, .int .i64 0, .int .i64 0, .slice none 0 0, .int .i64 0, .int .i64 0, .int .i64 0, .slice none 0 0] 34)).heap.size = w.heap.size + 2 := by simp
  have HC0 := hide (small_d (h.below hal))
  rw [hk, hs0] at HC0
  obtain ⟨w2, hw2⟩ : ∃ y, ((w.alloc (.cells #[.int .i64 0, .int .i64 0, .int .i64 0, .int .i64 0, .int .i64 0, .int .i64 0, .int .i64 0, .bool false, .slice none 0 0, .int .i64 0, .int .i64 0, .int .i64 0, .slice none 0 0, .int .i64 0, .int .i64 0, .int .i64 0, .slice none 0 0] 34)).alloc (.cells #[.int .i64 0, .int .i64 0, .int .i64 0, .int .i64 0, .int .i64 0, .int .i64 0, .int .i64 0, .bool false, .slice none 0 0, .int .i64 0, .int .i64 0, .int .i64 0, .slice none 0 0, .int .i64 0, .int .i64 0, .int .i64 0, .slice none 0 0] 34)) = y := ⟨_, rfl⟩
  rw [hw2] at hal hz0 ht0 hsz1 HC0
  have HJ0 : Hid (GJ w R lo ZB #[.int .i64 0, .int .i64 0, .int .i64 0, .int .i64 0, .int .i64 0, .int .i64 0, .int .i64 0, .bool false, .slice none 0 0, .int .i64 0, .int .i64 0, .int .i64 0, .slice none 0 0, .int .i64 0, .int .i64 0, .int .i64 0, .slice none 0 0] s w2) := ⟨ht0, hz0, h.below hal, But.of hal, by omega⟩
  have HE1 := hide e1
  clear h hal hz0 hsz0 ht0 hsz1 et hk hs0 e1 e2 e3 e4 e5
  go_enter Tryz.func53, Tryz.ntmps53
  go_wp2_with (rw [hw2])
  refine (unhide HC0).mono ?_
  rintro e y0 ⟨rfl, p, q⟩
  have j1 := (unhide HJ0).call hr p q
  have k0 : y0.cell? ⟨w.heap.size + 1, 0, none⟩ = some (.int .i64 0) := cell_of_heap j1.t
  have f0 : ∀ o, y0.frozen? ⟨w.heap.size + 1, o, none⟩ = false := fun o => frozen_of_heap j1.t
  have j2 := j1.set hr 0 (.int .i64 1) (cs' := #[.int .i64 1, .int .i64 0, .int .i64 0, .int .i64 0, .int .i64 0, .int .i64 0, .int .i64 0, .bool false, .slice none 0 0, .int .i64 0, .int .i64 0, .int .i64 0, .slice none 0 0, .int .i64 0, .int .i64 0, .int .i64 0, .slice none 0 0]) rfl
  obtain ⟨z0, hz0⟩ : ∃ y, y0.setCell ⟨w.heap.size + 1, 0, none⟩ (.int .i64 1) = y := ⟨_, rfl⟩
  rw [hz0] at j2
  have kk0 : z0.cell? ⟨w.heap.size + 1, 0, none⟩ = some (.int .i64 1) := cell_of_heap j2.t
  have ke0 := j2.rd.ce
  rw [he] at ke0
  have HJ1 := hide j2
  have HC1 := hide (small_d j2.rd)
  rw [unhide HE1] at HC1
  simp only at HC1
  clear p q j1 j2 HC0 HJ0
  go_wp2_with (rw [hz0])
  refine (unhide HC1).mono ?_
  rintro e y1 ⟨rfl, p, q⟩
  have j1 := (unhide HJ1).call hr p q
  have k1_1 : y1.cell? ⟨w.heap.size + 1, 1, none⟩ = some (.int .i64 0) := cell_of_heap j1.t
  have f1 : ∀ o, y1.frozen? ⟨w.heap.size + 1, o, none⟩ = false := fun o => frozen_of_heap j1.t
  have j2 := (j1.set hr 1 (.int .i64 v1) (cs' := #[.int .i64 1, .int .i64 v1, .int .i64 0, .int .i64 0, .int .i64 0, .int .i64 0, .int .i64 0, .bool false, .slice none 0 0, .int .i64 0, .int .i64 0, .int .i64 0, .slice none 0 0, .int .i64 0, .int .i64 0, .int .i64 0, .slice none 0 0]) rfl)
  obtain ⟨z1, hz1⟩ : ∃ y, (y1.setCell ⟨w.heap.size + 1, 1, none⟩ (.int .i64 v1)) = y := ⟨_, rfl⟩
  rw [hz1] at j2
  have kk1 : z1.cell? ⟨w.heap.size + 1, 0, none⟩ = some (.int .i64 1) := cell_of_heap j2.t
  have HJ2 := hide j2
  have HC2 := hide (small_d j2.rd)
  rw [unhide HE2] at HC2
  simp only at HC2
  clear p q j1 j2 HC1 HJ1
  go_wp2_with (rw [hz1])
  refine (unhide HC2).mono ?_
  rintro e y2 ⟨rfl, p, q⟩
  have j1 := (unhide HJ2).call hr p q
  have k2_2 : y2.cell? ⟨w.heap.size + 1, 2, none⟩ = some (.int .i64 0) := cell_of_heap j1.t
  have f2 : ∀ o, y2.frozen? ⟨w.heap.size + 1, o, none⟩ = false := fun o => frozen_of_heap j1.t
  have j2 := (j1.set hr 2 (.int .i64 v2) (cs' := #[.int .i64 1, .int .i64 v1, .int .i64 v2, .int .i64 0, .int .i64 0, .int .i64 0, .int .i64 0, .bool false, .slice none 0 0, .int .i64 0, .int .i64 0, .int .i64 0, .slice none 0 0, .int .i64 0, .int .i64 0, .int .i64 0, .slice none 0 0]) rfl)
  obtain ⟨z2, hz2⟩ : ∃ y, (y2.setCell ⟨w.heap.size + 1, 2, none⟩ (.int .i64 v2)) = y := ⟨_, rfl⟩
  rw [hz2] at j2
  have kk2 : z2.cell? ⟨w.heap.size + 1, 0, none⟩ = some (.int .i64 1) := cell_of_heap j2.t
  have HJ3 := hide j2
  have HC3 := hide (num_d j2.rd)
  rw [unhide HE3] at HC3
  simp only at HC3
  clear p q j1 j2 HC2 HJ2
  go_wp2_with (rw [hz2])
  refine (unhide HC3).mono ?_
  rintro e y3 ⟨rfl, p, q⟩
  have j1 := (unhide HJ3).call hr p q
  have k3_3 : y3.cell? ⟨w.heap.size + 1, 3, none⟩ = some (.int .i64 0) := cell_of_heap j1.t
  have f3 : ∀ o, y3.frozen? ⟨w.heap.size + 1, o, none⟩ = false := fun o => frozen_of_heap j1.t
  have j2 := (j1.set hr 3 (.int .i64 v3) (cs' := #[.int .i64 1, .int .i64 v1, .int .i64 v2, .int .i64 v3, .int .i64 0, .int .i64 0, .int .i64 0, .bool false, .slice none 0 0, .int .i64 0, .int .i64 0, .int .i64 0, .slice none 0 0, .int .i64 0, .int .i64 0, .int .i64 0, .slice none 0 0]) rfl)
  obtain ⟨z3, hz3⟩ : ∃ y, (y3.setCell ⟨w.heap.size + 1, 3, none⟩ (.int .i64 v3)) = y := ⟨_, rfl⟩
  rw [hz3] at j2
  have kk3 : z3.cell? ⟨w.heap.size + 1, 0, none⟩ = some (.int .i64 1) := cell_of_heap j2.t
  have HJ4 := hide j2
  have HC4 := hide (num_d j2.rd)
  rw [unhide HE4] at HC4
  simp only at HC4
  clear p q j1 j2 HC3 HJ3
  go_wp2_with (rw [hz3])
  refine (unhide HC4).mono ?_
  rintro e y4 ⟨rfl, p, q⟩
  have j1 := (unhide HJ4).call hr p q
  have k4_4 : y4.cell? ⟨w.heap.size + 1, 4, none⟩ = some (.int .i64 0) := cell_of_heap j1.t
  have f4 : ∀ o, y4.frozen? ⟨w.heap.size + 1, o, none⟩ = false := fun o => frozen_of_heap j1.t
  have j2 := (j1.set hr 4 (.int .i64 v4) (cs' := #[.int .i64 1, .int .i64 v1, .int .i64 v2, .int .i64 v3, .int .i64 v4, .int .i64 0, .int .i64 0, .bool false, .slice none 0 0, .int .i64 0, .int .i64 0, .int .i64 0, .slice none 0 0, .int .i64 0, .int .i64 0, .int .i64 0, .slice none 0 0]) rfl)
  obtain ⟨z4, hz4⟩ : ∃ y, (y4.setCell ⟨w.heap.size + 1, 4, none⟩ (.int .i64 v4)) = y := ⟨_, rfl⟩
  rw [hz4] at j2
  have kk4 : z4.cell? ⟨w.heap.size + 1, 0, none⟩ = some (.int .i64 1) := cell_of_heap j2.t
  have HJ5 := hide j2
  have HC5 := hide (num_d j2.rd)
  rw [unhide HE5] at HC5
  simp only at HC5
  clear p q j1 j2 HC4 HJ4
  go_wp2_with (rw [hz4])
  refine (unhide HC5).mono ?_
  rintro e y5 ⟨rfl, p, q⟩
  have j1 := (unhide HJ5).call hr p q
  have k5_5 : y5.cell? ⟨w.heap.size + 1, 5, none⟩ = some (.int .i64 0) := cell_of_heap j1.t
  have f5 : ∀ o, y5.frozen? ⟨w.heap.size + 1, o, none⟩ = false := fun o => frozen_of_heap j1.t
  have j2 := (j1.set hr 5 (.int .i64 v5) (cs' := #[.int .i64 1, .int .i64 v1, .int .i64 v2, .int .i64 v3, .int .i64 v4, .int .i64 v5, .int .i64 0, .bool false, .slice none 0 0, .int .i64 0, .int .i64 0, .int .i64 0, .slice none 0 0, .int .i64 0, .int .i64 0, .int .i64 0, .slice none 0 0]) rfl)
  obtain ⟨z5, hz5⟩ : ∃ y, (y5.setCell ⟨w.heap.size + 1, 5, none⟩ (.int .i64 v5)) = y := ⟨_, rfl⟩
  rw [hz5] at j2
  have kk5 : z5.cell? ⟨w.heap.size + 1, 0, none⟩ = some (.int .i64 1) := cell_of_heap j2.t
  have HX9 := hide j2.t
  have HZ9 := hide j2.z
  have HF9 : Hid (∀ cr, OwnM w.heap.size (z5.setRow w.heap.size cr) #[.int .i64 1, .int .i64 v1, .int .i64 v2, .int .i64 v3, .int .i64 v4, .int .i64 v5, .int .i64 0, .bool false, .slice none 0 0, .int .i64 0, .int .i64 0, .int .i64 0, .slice none 0 0, .int .i64 0, .int .i64 0, .int .i64 0, .slice none 0 0] ⟨1, v1, v2, v3, v4, v5, 0, false, [], ⟨0, 0, 0, []⟩, ⟨0, 0, 0, []⟩⟩ ∧ Dr (z5.setRow w.heap.size cr) R lo ZB t5 ∧ But R w (z5.setRow w.heap.size cr)) := fun cr => ⟨⟨_, _, _, rfl, OwnTms.nil _ _, OwnTs.nil _ _, World.ownsRow_nil _ _ _ _⟩, j2.fin hr cr⟩
  clear p q j1 j2 HC5 HJ5
  go_wp2_with (first | rw [hz5] | refine wpList_load_row rfl 34 _ rfl (w.heap.size + 1) rfl 34 _ (0, 0) _ (unhide HX9) Tryz.underlying34 rfl (by kernel_rfl) ?_ | refine wpList_store_row rfl 34 _ _ rfl w.heap.size _ _ rfl rfl 34 (unhide HZ9) (by kernel_rfl) rfl (by first | kernel_rfl | simp [Value.oneCell']) ?_)
  refine bodyPost_ret (results_cell_row rfl _ _ w.heap.size 34 #[.int .i64 1, .int .i64 v1, .int .i64 v2, .int .i64 v3, .int .i64 v4, .int .i64 v5, .int .i64 0, .bool false, .slice none 0 0, .int .i64 0, .int .i64 0, .int .i64 0, .slice none 0 0, .int .i64 0, .int .i64 0, .int .i64 0, .slice none 0 0] (0, 0) _ rfl (setRow_heap _ _ _ _ _ _ (unhide HZ9)) Tryz.underlying34 rfl (by kernel_rfl)) rfl ?_
  exact ⟨_, rfl, unhide HF9 _⟩
def RS.dm2 (s : RS) : MsgD × RS := (⟨2, s.small.1, s.small.2.small.1, s.small.2.small.2.num.1, 0, 0, 0, s.small.2.small.2.num.2.flag.1, [], ⟨0, 0, 0, []⟩, ⟨0, 0, 0, []⟩⟩, s.small.2.small.2.num.2.flag.2)

set_option maxHeartbeats 1600000 in
theorem msg_d2 {w : World} {R lo : Nat} {ZB : List Int} {s : RS} (h : Dr w R lo ZB s) (hk : s.small.1 = 2) :
    Calls Tryz.prog 53 #[.pointer (some ⟨R, 0, none⟩)] w fun e w' => ∃ cs, e = .returned (.agg cs) ∧ OwnM w.heap.size w' cs (RS.dm2 s.small.2).1 ∧ Dr w' R lo ZB (RS.dm2 s.small.2).2 ∧ But R w w' := by
  have hr := h.rlt
  obtain ⟨s0, hs0⟩ : ∃ x, s.small.2 = x := ⟨_, rfl⟩
  have he : s0.er = 0 := Classical.byContradiction fun g => by have := small_bad (s := s) (by rw [hs0]; exact g); omega
  rw [hs0]
  obtain ⟨v1, t1, e1⟩ : ∃ n s', s0.small = (n, s') := ⟨_, _, rfl⟩
  obtain ⟨v2, t2, e2⟩ : ∃ n s', t1.small = (n, s') := ⟨_, _, rfl⟩
  obtain ⟨v3, t3, e3⟩ : ∃ n s', t2.num = (n, s') := ⟨_, _, rfl⟩
  obtain ⟨v4, t4, e4⟩ : ∃ n s', t3.flag = (n, s') := ⟨_, _, rfl⟩
  have et : RS.dm2 s0 = (⟨2, v1, v2, v3, 0, 0, 0, v4, [], ⟨0, 0, 0, []⟩, ⟨0, 0, 0, []⟩⟩, t4) := by simp only [RS.dm2, e1, e2, e3, e4]
  rw [et]
  simp only
  have HE2 := hide e2
  have HE3 := hide e3
  have HE4 := hide e4
  have hal : Below w.heap.size w ((w.alloc (.cells #[.int .i64 0, .int .i64 0, .int .i64 0, .int .i64 0, .int .i64 0, .int .i64 0, .int .i64 0, .bool false, .slice none 0 0, .int .i64 0, .int .i64 0, .int .i64 0, .slice none 0 0, .int .i64 0, .int .i64 0, .int .i64 0, .slice none 0 0] 34)).alloc (.cells #[.int .i64 0, .int .i64 0, .int .i64 0, .int .i64 0, .int .i64 0, .int .i64 0, .int .i64 0, .bool false, .slice none 0 0, .int .i64 0, .int .i64 0, .int .i64 0, .slice none 0 0, .int .i64 0, .int .i64 0, .int .i64 0, .slice none 0 0] 34)) := ((Below.refl _ _).alloc (Nat.le_refl _) _).alloc (by simp) _
  have hz0 : ((w.alloc (.cells #[.int .i64 0, .int .i64 0, .int .i64 0, .int .i64 0, .int .i64 0, .int .i64 0, .int .i64 0, .bool false, .slice none 0 0, .int .i64 0, .int .i64 0, .int .i64 0, .slice none 0 0, .int .i64 0, .int .i64 0, .int .i64 0, .slice none 0 0] 34)).alloc (.cells #[.int .i64 0, .int .i64 0, .int .i64 0, .int .i64 0, .int .i64 0, .int .i64 0, .int .i64 0, .bool false, .slice none 0 0, .int .i64 0, .int .i64 0, .int .i64 0, .slice none 0 0, .int .i64 0, .int .i64 0, .int .i64 0, .slice none 0 0] 34)).heap[w.heap.size]? = some (.cells #[.int .i64 0, .int .i64 0, .int .i64 0, .int .i64 0, .int .i64 0, .int .i64 0, .int .i64 0, .bool false, .slice none 0 0, .int .i64 0, .int .i64 0, .int .i64 0, .slice none 0 0, .int .i64 0, .int .i64 0, .int .i64 0, .slice none 0 0] 34) := (Below.heap_alloc _ _ _ (by simp)).trans (heap_alloc_new w _)
  have hsz0 : (w.alloc (.cells #[.int .i64 0, .int .i64 0, .int .i64 0, .int .i64 0, .int .i64 0, .int .i64 0, .int .i64 0, .bool false, .slice none 0 0, .int .i64 0, .int .i64 0, .int .i64 0, .slice none 0 0, .int .i64 0, .int .i64 0, .int .i64 0, .slice none 0 0] 34)).heap.size = w.heap.size + 1 := by simp
  have ht0 : ((w.alloc (.cells #[.int .i64 0, .int .i64 0, .int .i64 0, .int .i64 0, .int .i64 0, .int .i64 0, .int .i64 0, .bool false, .slice none 0 0, .int .i64 0, .int .i64 0, .int .i64 0, .slice none 0 0, .int .i64 0, .int .i64 0, .int .i64 0, .slice none 0 0] 34)).alloc (.cells #[.int .i64 0, .int .i64 0, .int .i64 0, .int .i64 0, .int .i64 0, .int .i64 0, .int .i64 0, .bool false, .slice none 0 0, .int .i64 0, .int .i64 0, .int .i64 0, .slice none 0 0, .int .i64 0, .int .i64 0, .int .i64 0, .slice none 0 0] 34)).heap[w.heap.size + 1]? = some (.cells #[.int .i64 0, .int .i64 0, .int .i64 0, .int .i64 0, .int .i64 0, .int .i64 0, .int .i64 0, .bool false, .slice none 0 0, .int .i64 0, .int .i64 0, .int .i64 0, .slice none 0 0, .int .i64 0, .int .i64 0, .int .i64 0, .slice none 0 0] 34) := by have := heap_alloc_new (w.alloc (.cells #[.int .i64 0, .int .i64 0, .int .i64 0, .int .i64 0, .int .i64 0, .int .i64 0, .int .i64 0, .bool false, .slice none 0 0, .int .i64 0, .int .i64 0, .int .i64 0, .slice none 0 0, .int .i64 0, .int .i64 0, .int .i64 0, .slice none 0 0] 34)) (.cells #[.int .i64 0, .int .i64 0, .int .i64 0, .int .i64 0, .int .i64 0, .int .i64 0, .int .i64 0, .bool false, .slice none 0 0, .int .i64 0, .int .i64 0, .int .i64 0, .slice none 0 0, .int .i64 0, .int .i64 0, .int .i64 0, .slice none 0 0] 34); rw [hsz0] at this; exact this
  have hsz1 : ((w.alloc (.cells #[.int .i64 0, .int .i64 0, .int .i64 0, .int .i64 0, .int .i64 0, .int .i64 0, .int .i64 0, .bool false, .slice none 0 0, .int .i64 0, .int .i64 0, .int .i64 0, .slice none 0 0, .int .i64 0, .int .i64 0, .int .i64 0, .slice none 0 0] 34)).alloc (.cells #[.int .i64 0, .int .i64 0, .int .i64 0, .int .i64 0, .int .i64 0, .int .i64 0, .int .i64 0, .bool false, .slice none 0 0, .int .i64 0, .int .i64 0, .int .i64 0, .slice none 0 0, .int .i64 0, .int .i64 0, .int .i64 0, .slice none 0 0] 34)).heap.size = w.heap.size + 2 := by simp
  have HC0 := hide (small_d (h.below hal))
  rw [hk, hs0] at HC0
  obtain ⟨w2, hw2⟩ : ∃ y, ((w.alloc (.cells #[.int .i64 0, .int .i64 0, .int .i64 0, .int .i64 0, .int .i64 0, .int .i64 0, .int .i64 0, .bool false, .slice none 0 0, .int .i64 0, .int .i64 0, .int .i64 0, .slice none 0 0, .int .i64 0, .int .i64 0, .int .i64 0, .slice none 0 0] 34)).alloc (.cells #[.int .i64 0, .int .i64 0, .int .i64 0, .int .i64 0, .int .i64 0, .int .i64 0, .int .i64 0, .bool false, .slice none 0 0, .int .i64 0, .int .i64 0, .int .i64 0, .slice none 0 0, .int .i64 0, .int .i64 0, .int .i64 0, .slice none 0 0] 34)) = y := ⟨_, rfl⟩
  rw [hw2] at hal hz0 ht0 hsz1 HC0
  have HJ0 : Hid (GJ w R lo ZB #[.int .i64 0, .int .i64 0, .int .i64 0, .int .i64 0, .int .i64 0, .int .i64 0, .int .i64 0, .bool false, .slice none 0 0, .int .i64 0, .int .i64 0, .int .i64 0, .slice none 0 0, .int .i64 0, .int .i64 0, .int .i64 0, .slice none 0 0] s w2) := ⟨ht0, hz0, h.below hal, But.of hal, by omega⟩
  have HE1 := hide e1
  clear h hal hz0 hsz0 ht0 hsz1 et hk hs0 e1 e2 e3 e4
  go_enter Tryz.func53, Tryz.ntmps53
  go_wp2_with (rw [hw2])
  refine (unhide HC0).mono ?_
  rintro e y0 ⟨rfl, p, q⟩
  have j1 := (unhide HJ0).call hr p q
  have k0 : y0.cell? ⟨w.heap.size + 1, 0, none⟩ = some (.int .i64 0) := cell_of_heap j1.t
  have f0 : ∀ o, y0.frozen? ⟨w.heap.size + 1, o, none⟩ = false := fun o => frozen_of_heap j1.t
  have j2 := j1.set hr 0 (.int .i64 2) (cs' := #[.int .i64 2, .int .i64 0, .int .i64 0, .int .i64 0, .int .i64 0, .int .i64 0, .int .i64 0, .bool false, .slice none 0 0, .int .i64 0, .int .i64 0, .int .i64 0, .slice none 0 0, .int .i64 0, .int .i64 0, .int .i64 0, .slice none 0 0]) rfl
  obtain ⟨z0, hz0⟩ : ∃ y, y0.setCell ⟨w.heap.size + 1, 0, none⟩ (.int .i64 2) = y := ⟨_, rfl⟩
  rw [hz0] at j2
  have kk0 : z0.cell? ⟨w.heap.size + 1, 0, none⟩ = some (.int .i64 2) := cell_of_heap j2.t
  have ke0 := j2.rd.ce
  rw [he] at ke0
  have HJ1 := hide j2
  have HC1 := hide (small_d j2.rd)
  rw [unhide HE1] at HC1
  simp only at HC1
  clear p q j1 j2 HC0 HJ0
  go_wp2_with (rw [hz0])
  refine (unhide HC1).mono ?_
  rintro e y1 ⟨rfl, p, q⟩
  have j1 := (unhide HJ1).call hr p q
  have k1_1 : y1.cell? ⟨w.heap.size + 1, 1, none⟩ = some (.int .i64 0) := cell_of_heap j1.t
  have f1 : ∀ o, y1.frozen? ⟨w.heap.size + 1, o, none⟩ = false := fun o => frozen_of_heap j1.t
  have j2 := (j1.set hr 1 (.int .i64 v1) (cs' := #[.int .i64 2, .int .i64 v1, .int .i64 0, .int .i64 0, .int .i64 0, .int .i64 0, .int .i64 0, .bool false, .slice none 0 0, .int .i64 0, .int .i64 0, .int .i64 0, .slice none 0 0, .int .i64 0, .int .i64 0, .int .i64 0, .slice none 0 0]) rfl)
  obtain ⟨z1, hz1⟩ : ∃ y, (y1.setCell ⟨w.heap.size + 1, 1, none⟩ (.int .i64 v1)) = y := ⟨_, rfl⟩
  rw [hz1] at j2
  have kk1 : z1.cell? ⟨w.heap.size + 1, 0, none⟩ = some (.int .i64 2) := cell_of_heap j2.t
  have HJ2 := hide j2
  have HC2 := hide (small_d j2.rd)
  rw [unhide HE2] at HC2
  simp only at HC2
  clear p q j1 j2 HC1 HJ1
  go_wp2_with (rw [hz1])
  refine (unhide HC2).mono ?_
  rintro e y2 ⟨rfl, p, q⟩
  have j1 := (unhide HJ2).call hr p q
  have k2_2 : y2.cell? ⟨w.heap.size + 1, 2, none⟩ = some (.int .i64 0) := cell_of_heap j1.t
  have f2 : ∀ o, y2.frozen? ⟨w.heap.size + 1, o, none⟩ = false := fun o => frozen_of_heap j1.t
  have j2 := (j1.set hr 2 (.int .i64 v2) (cs' := #[.int .i64 2, .int .i64 v1, .int .i64 v2, .int .i64 0, .int .i64 0, .int .i64 0, .int .i64 0, .bool false, .slice none 0 0, .int .i64 0, .int .i64 0, .int .i64 0, .slice none 0 0, .int .i64 0, .int .i64 0, .int .i64 0, .slice none 0 0]) rfl)
  obtain ⟨z2, hz2⟩ : ∃ y, (y2.setCell ⟨w.heap.size + 1, 2, none⟩ (.int .i64 v2)) = y := ⟨_, rfl⟩
  rw [hz2] at j2
  have kk2 : z2.cell? ⟨w.heap.size + 1, 0, none⟩ = some (.int .i64 2) := cell_of_heap j2.t
  have HJ3 := hide j2
  have HC3 := hide (num_d j2.rd)
  rw [unhide HE3] at HC3
  simp only at HC3
  clear p q j1 j2 HC2 HJ2
  go_wp2_with (rw [hz2])
  refine (unhide HC3).mono ?_
  rintro e y3 ⟨rfl, p, q⟩
  have j1 := (unhide HJ3).call hr p q
  have k3_3 : y3.cell? ⟨w.heap.size + 1, 3, none⟩ = some (.int .i64 0) := cell_of_heap j1.t
  have f3 : ∀ o, y3.frozen? ⟨w.heap.size + 1, o, none⟩ = false := fun o => frozen_of_heap j1.t
  have j2 := (j1.set hr 3 (.int .i64 v3) (cs' := #[.int .i64 2, .int .i64 v1, .int .i64 v2, .int .i64 v3, .int .i64 0, .int .i64 0, .int .i64 0, .bool false, .slice none 0 0, .int .i64 0, .int .i64 0, .int .i64 0, .slice none 0 0, .int .i64 0, .int .i64 0, .int .i64 0, .slice none 0 0]) rfl)
  obtain ⟨z3, hz3⟩ : ∃ y, (y3.setCell ⟨w.heap.size + 1, 3, none⟩ (.int .i64 v3)) = y := ⟨_, rfl⟩
  rw [hz3] at j2
  have kk3 : z3.cell? ⟨w.heap.size + 1, 0, none⟩ = some (.int .i64 2) := cell_of_heap j2.t
  have HJ4 := hide j2
  have HC4 := hide (yes_d j2.rd)
  rw [unhide HE4] at HC4
  simp only at HC4
  clear p q j1 j2 HC3 HJ3
  go_wp2_with (rw [hz3])
  refine (unhide HC4).mono ?_
  rintro e y4 ⟨rfl, p, q⟩
  have j1 := (unhide HJ4).call hr p q
  have k4_7 : y4.cell? ⟨w.heap.size + 1, 7, none⟩ = some (.bool false) := cell_of_heap j1.t
  have f4 : ∀ o, y4.frozen? ⟨w.heap.size + 1, o, none⟩ = false := fun o => frozen_of_heap j1.t
  have j2 := (j1.set hr 7 (.bool v4) (cs' := #[.int .i64 2, .int .i64 v1, .int .i64 v2, .int .i64 v3, .int .i64 0, .int .i64 0, .int .i64 0, .bool v4, .slice none 0 0, .int .i64 0, .int .i64 0, .int .i64 0, .slice none 0 0, .int .i64 0, .int .i64 0, .int .i64 0, .slice none 0 0]) rfl)
  obtain ⟨z4, hz4⟩ : ∃ y, (y4.setCell ⟨w.heap.size + 1, 7, none⟩ (.bool v4)) = y := ⟨_, rfl⟩
  rw [hz4] at j2
  have kk4 : z4.cell? ⟨w.heap.size + 1, 0, none⟩ = some (.int .i64 2) := cell_of_heap j2.t
  have HX9 := hide j2.t
  have HZ9 := hide j2.z
  have HF9 : Hid (∀ cr, OwnM w.heap.size (z4.setRow w.heap.size cr) #[.int .i64 2, .int .i64 v1, .int .i64 v2, .int .i64 v3, .int .i64 0, .int .i64 0, .int .i64 0, .bool v4, .slice none 0 0, .int .i64 0, .int .i64 0, .int .i64 0, .slice none 0 0, .int .i64 0, .int .i64 0, .int .i64 0, .slice none 0 0] ⟨2, v1, v2, v3, 0, 0, 0, v4, [], ⟨0, 0, 0, []⟩, ⟨0, 0, 0, []⟩⟩ ∧ Dr (z4.setRow w.heap.size cr) R lo ZB t4 ∧ But R w (z4.setRow w.heap.size cr)) := fun cr => ⟨⟨_, _, _, rfl, OwnTms.nil _ _, OwnTs.nil _ _, World.ownsRow_nil _ _ _ _⟩, j2.fin hr cr⟩
  clear p q j1 j2 HC4 HJ4
  go_wp2_with (first | rw [hz4] | refine wpList_load_row rfl 34 _ rfl (w.heap.size + 1) rfl 34 _ (0, 0) _ (unhide HX9) Tryz.underlying34 rfl (by kernel_rfl) ?_ | refine wpList_store_row rfl 34 _ _ rfl w.heap.size _ _ rfl rfl 34 (unhide HZ9) (by kernel_rfl) rfl (by first | kernel_rfl | simp [Value.oneCell']) ?_)
  refine bodyPost_ret (results_cell_row rfl _ _ w.heap.size 34 #[.int .i64 2, .int .i64 v1, .int .i64 v2, .int .i64 v3, .int .i64 0, .int .i64 0, .int .i64 0, .bool v4, .slice none 0 0, .int .i64 0, .int .i64 0, .int .i64 0, .slice none 0 0, .int .i64 0, .int .i64 0, .int .i64 0, .slice none 0 0] (0, 0) _ rfl (setRow_heap _ _ _ _ _ _ (unhide HZ9)) Tryz.underlying34 rfl (by kernel_rfl)) rfl ?_
  exact ⟨_, rfl, unhide HF9 _⟩
def RS.dm3 (s : RS) : MsgD × RS := (⟨3, s.small.1, s.small.2.small.1, s.small.2.small.2.num.1, s.small.2.small.2.num.2.num.1, s.small.2.small.2.num.2.num.2.num.1, s.small.2.small.2.num.2.num.2.num.2.num.1, false, (s.small.2.small.2.num.2.num.2.num.2.num.2.list RS.dtermed).1, ⟨0, 0, 0, []⟩, ⟨0, 0, 0, []⟩⟩, (s.small.2.small.2.num.2.num.2.num.2.num.2.list RS.dtermed).2)

set_option maxHeartbeats 1600000 in
theorem msg_d3 {w : World} {R lo : Nat} {ZB : List Int} {s : RS} (h : Dr w R lo ZB s) (hk : s.small.1 = 3) :
    Calls Tryz.prog 53 #[.pointer (some ⟨R, 0, none⟩)] w fun e w' => ∃ cs, e = .returned (.agg cs) ∧ OwnM w.heap.size w' cs (RS.dm3 s.small.2).1 ∧ Dr w' R lo ZB (RS.dm3 s.small.2).2 ∧ But R w w' := by
  have hr := h.rlt
  obtain ⟨s0, hs0⟩ : ∃ x, s.small.2 = x := ⟨_, rfl⟩
  have he : s0.er = 0 := Classical.byContradiction fun g => by have := small_bad (s := s) (by rw [hs0]; exact g); omega
  rw [hs0]
  obtain ⟨v1, t1, e1⟩ : ∃ n s', s0.small = (n, s') := ⟨_, _, rfl⟩
  obtain ⟨v2, t2, e2⟩ : ∃ n s', t1.small = (n, s') := ⟨_, _, rfl⟩
  obtain ⟨v3, t3, e3⟩ : ∃ n s', t2.num = (n, s') := ⟨_, _, rfl⟩
  obtain ⟨v4, t4, e4⟩ : ∃ n s', t3.num = (n, s') := ⟨_, _, rfl⟩
  obtain ⟨v5, t5, e5⟩ : ∃ n s', t4.num = (n, s') := ⟨_, _, rfl⟩
  obtain ⟨v6, t6, e6⟩ : ∃ n s', t5.num = (n, s') := ⟨_, _, rfl⟩
  obtain ⟨v7, t7, e7⟩ : ∃ n s', t6.list RS.dtermed = (n, s') := ⟨_, _, rfl⟩
  have et : RS.dm3 s0 = (⟨3, v1, v2, v3, v4, v5, v6, false, v7, ⟨0, 0, 0, []⟩, ⟨0, 0, 0, []⟩⟩, t7) := by simp only [RS.dm3, e1, e2, e3, e4, e5, e6, e7]
  rw [et]
  simp only
  have HE2 := hide e2
  have HE3 := hide e3
  have HE4 := hide e4
  have HE5 := hide e5
  have HE6 := hide e6
  have HE7 := hide e7
  have hal : Below w.heap.size w ((w.alloc (.cells #[.int .i64 0, .int .i64 0, .int .i64 0, .int .i64 0, .int .i64 0, .int .i64 0, .int .i64 0, .bool false, .slice none 0 0, .int .i64 0, .int .i64 0, .int .i64 0, .slice none 0 0, .int .i64 0, .int .i64 0, .int .i64 0, .slice none 0 0] 34)).alloc (.cells #[.int .i64 0, .int .i64 0, .int .i64 0, .int .i64 0, .int .i64 0, .int .i64 0, .int .i64 0, .bool false, .slice none 0 0, .int .i64 0, .int .i64 0, .int .i64 0, .slice none 0 0, .int .i64 0, .int .i64 0, .int .i64 0, .slice none 0 0] 34)) := ((Below.refl _ _).alloc (Nat.le_refl _) _).alloc (by simp) _
  have hz0 : ((w.alloc (.cells #[.int .i64 0, .int .i64 0, .int .i64 0, .int .i64 0, .int .i64 0, .int .i64 0, .int .i64 0, .bool false, .slice none 0 0, .int .i64 0, .int .i64 0, .int .i64 0, .slice none 0 0, .int .i64 0, .int .i64 0, .int .i64 0, .slice none 0 0] 34)).alloc (.cells #[.int .i64 0, .int .i64 0, .int .i64 0, .int .i64 0, .int .i64 0, .int .i64 0, .int .i64 0, .bool false, .slice none 0 0, .int .i64 0, .int .i64 0, .int .i64 0, .slice none 0 0, .int .i64 0, .int .i64 0, .int .i64 0, .slice none 0 0] 34)).heap[w.heap.size]? = some (.cells #[.int .i64 0, .int .i64 0, .int .i64 0, .int .i64 0, .int .i64 0, .int .i64 0, .int .i64 0, .bool false, .slice none 0 0, .int .i64 0, .int .i64 0, .int .i64 0, .slice none 0 0, .int .i64 0, .int .i64 0, .int .i64 0, .slice none 0 0] 34) := (Below.heap_alloc _ _ _ (by simp)).trans (heap_alloc_new w _)
  have hsz0 : (w.alloc (.cells #[.int .i64 0, .int .i64 0, .int .i64 0, .int .i64 0, .int .i64 0, .int .i64 0, .int .i64 0, .bool false, .slice none 0 0, .int .i64 0, .int .i64 0, .int .i64 0, .slice none 0 0, .int .i64 0, .int .i64 0, .int .i64 0, .slice none 0 0] 34)).heap.size = w.heap.size + 1 := by simp
  have ht0 : ((w.alloc (.cells #[.int .i64 0, .int .i64 0, .int .i64 0, .int .i64 0, .int .i64 0, .int .i64 0, .int .i64 0, .bool false, .slice none 0 0, .int .i64 0, .int .i64 0, .int .i64 0, .slice none 0 0, .int .i64 0, .int .i64 0, .int .i64 0, .slice none 0 0] 34)).alloc (.cells #[.int .i64 0, .int .i64 0, .int .i64 0, .int .i64 0, .int .i64 0, .int .i64 0, .int .i64 0, .bool false, .slice none 0 0, .int .i64 0, .int .i64 0, .int .i64 0, .slice none 0 0, .int .i64 0, .int .i64 0, .int .i64 0, .slice none 0 0] 34)).heap[w.heap.size + 1]? = some (.cells #[.int .i64 0, .int .i64 0, .int .i64 0, .int .i64 0, .int .i64 0, .int .i64 0, .int .i64 0, .bool false, .slice none 0 0, .int .i64 0, .int .i64 0, .int .i64 0, .slice none 0 0, .int .i64 0, .int .i64 0, .int .i64 0, .slice none 0 0] 34) := by have := heap_alloc_new (w.alloc (.cells #[.int .i64 0, .int .i64 0, .int .i64 0, .int .i64 0, .int .i64 0, .int .i64 0, .int .i64 0, .bool false, .slice none 0 0, .int .i64 0, .int .i64 0, .int .i64 0, .slice none 0 0, .int .i64 0, .int .i64 0, .int .i64 0, .slice none 0 0] 34)) (.cells #[.int .i64 0, .int .i64 0, .int .i64 0, .int .i64 0, .int .i64 0, .int .i64 0, .int .i64 0, .bool false, .slice none 0 0, .int .i64 0, .int .i64 0, .int .i64 0, .slice none 0 0, .int .i64 0, .int .i64 0, .int .i64 0, .slice none 0 0] 34); rw [hsz0] at this; exact this
  have hsz1 : ((w.alloc (.cells #[.int .i64 0, .int .i64 0, .int .i64 0, .int .i64 0, .int .i64 0, .int .i64 0, .int .i64 0, .bool false, .slice none 0 0, .int .i64 0, .int .i64 0, .int .i64 0, .slice none 0 0, .int .i64 0, .int .i64 0, .int .i64 0, .slice none 0 0] 34)).alloc (.cells #[.int .i64 0, .int .i64 0, .int .i64 0, .int .i64 0, .int .i64 0, .int .i64 0, .int .i64 0, .bool false, .slice none 0 0, .int .i64 0, .int .i64 0, .int .i64 0, .slice none 0 0, .int .i64 0, .int .i64 0, .int .i64 0, .slice none 0 0] 34)).heap.size = w.heap.size + 2 := by simp
  have HC0 := hide (small_d (h.below hal))
  rw [hk, hs0] at HC0
  obtain ⟨w2, hw2⟩ : ∃ y, ((w.alloc (.cells #[.int .i64 0, .int .i64 0, .int .i64 0, .int .i64 0, .int .i64 0, .int .i64 0, .int .i64 0, .bool false, .slice none 0 0, .int .i64 0, .int .i64 0, .int .i64 0, .slice none 0 0, .int .i64 0, .int .i64 0, .int .i64 0, .slice none 0 0] 34)).alloc (.cells #[.int .i64 0, .int .i64 0, .int .i64 0, .int .i64 0, .int .i64 0, .int .i64 0, .int .i64 0, .bool false, .slice none 0 0, .int .i64 0, .int .i64 0, .int .i64 0, .slice none 0 0, .int .i64 0, .int .i64 0, .int .i64 0, .slice none 0 0] 34)) = y := ⟨_, rfl⟩
  rw [hw2] at hal hz0 ht0 hsz1 HC0
  have HJ0 : Hid (GJ w R lo ZB #[.int .i64 0, .int .i64 0, .int .i64 0, .int .i64 0, .int .i64 0, .int .i64 0, .int .i64 0, .bool false, .slice none 0 0, .int .i64 0, .int .i64 0, .int .i64 0, .slice none 0 0, .int .i64 0, .int .i64 0, .int .i64 0, .slice none 0 0] s w2) := ⟨ht0, hz0, h.below hal, But.of hal, by omega⟩
  have HE1 := hide e1
  clear h hal hz0 hsz0 ht0 hsz1 et hk hs0 e1 e2 e3 e4 e5 e6 e7
  go_enter Tryz.func53, Tryz.ntmps53
  go_wp2_with (rw [hw2])
  refine (unhide HC0).mono ?_
  rintro e y0 ⟨rfl, p, q⟩
  have j1 := (unhide HJ0).call hr p q
  have k0 : y0.cell? ⟨w.heap.size + 1, 0, none⟩ = some (.int .i64 0) := cell_of_heap j1.t
  have f0 : ∀ o, y0.frozen? ⟨w.heap.size + 1, o, none⟩ = false := fun o => frozen_of_heap j1.t
  have j2 := j1.set hr 0 (.int .i64 3) (cs' := #[.int .i64 3, .int .i64 0, .int .i64 0, .int .i64 0, .int .i64 0, .int .i64 0, .int .i64 0, .bool false, .slice none 0 0, .int .i64 0, .int .i64 0, .int .i64 0, .slice none 0 0, .int .i64 0, .int .i64 0, .int .i64 0, .slice none 0 0]) rfl
  obtain ⟨z0, hz0⟩ : ∃ y, y0.setCell ⟨w.heap.size + 1, 0, none⟩ (.int .i64 3) = y := ⟨_, rfl⟩
  rw [hz0] at j2
  have kk0 : z0.cell? ⟨w.heap.size + 1, 0, none⟩ = some (.int .i64 3) := cell_of_heap j2.t
  have ke0 := j2.rd.ce
  rw [he] at ke0
  have HJ1 := hide j2
  have HC1 := hide (small_d j2.rd)
  rw [unhide HE1] at HC1
  simp only at HC1
  clear p q j1 j2 HC0 HJ0
  go_wp2_with (rw [hz0])
  refine (unhide HC1).mono ?_
  rintro e y1 ⟨rfl, p, q⟩
  have j1 := (unhide HJ1).call hr p q
  have k1_1 : y1.cell? ⟨w.heap.size + 1, 1, none⟩ = some (.int .i64 0) := cell_of_heap j1.t
  have f1 : ∀ o, y1.frozen? ⟨w.heap.size + 1, o, none⟩ = false := fun o => frozen_of_heap j1.t
  have j2 := (j1.set hr 1 (.int .i64 v1) (cs' := #[.int .i64 3, .int .i64 v1, .int .i64 0, .int .i64 0, .int .i64 0, .int .i64 0, .int .i64 0, .bool false, .slice none 0 0, .int .i64 0, .int .i64 0, .int .i64 0, .slice none 0 0, .int .i64 0, .int .i64 0, .int .i64 0, .slice none 0 0]) rfl)
  obtain ⟨z1, hz1⟩ : ∃ y, (y1.setCell ⟨w.heap.size + 1, 1, none⟩ (.int .i64 v1)) = y := ⟨_, rfl⟩
  rw [hz1] at j2
  have kk1 : z1.cell? ⟨w.heap.size + 1, 0, none⟩ = some (.int .i64 3) := cell_of_heap j2.t
  have HJ2 := hide j2
  have HC2 := hide (small_d j2.rd)
  rw [unhide HE2] at HC2
  simp only at HC2
  clear p q j1 j2 HC1 HJ1
  go_wp2_with (rw [hz1])
  refine (unhide HC2).mono ?_
  rintro e y2 ⟨rfl, p, q⟩
  have j1 := (unhide HJ2).call hr p q
  have k2_2 : y2.cell? ⟨w.heap.size + 1, 2, none⟩ = some (.int .i64 0) := cell_of_heap j1.t
  have f2 : ∀ o, y2.frozen? ⟨w.heap.size + 1, o, none⟩ = false := fun o => frozen_of_heap j1.t
  have j2 := (j1.set hr 2 (.int .i64 v2) (cs' := #[.int .i64 3, .int .i64 v1, .int .i64 v2, .int .i64 0, .int .i64 0, .int .i64 0, .int .i64 0, .bool false, .slice none 0 0, .int .i64 0, .int .i64 0, .int .i64 0, .slice none 0 0, .int .i64 0, .int .i64 0, .int .i64 0, .slice none 0 0]) rfl)
  obtain ⟨z2, hz2⟩ : ∃ y, (y2.setCell ⟨w.heap.size + 1, 2, none⟩ (.int .i64 v2)) = y := ⟨_, rfl⟩
  rw [hz2] at j2
  have kk2 : z2.cell? ⟨w.heap.size + 1, 0, none⟩ = some (.int .i64 3) := cell_of_heap j2.t
  have HJ3 := hide j2
  have HC3 := hide (num_d j2.rd)
  rw [unhide HE3] at HC3
  simp only at HC3
  clear p q j1 j2 HC2 HJ2
  go_wp2_with (rw [hz2])
  refine (unhide HC3).mono ?_
  rintro e y3 ⟨rfl, p, q⟩
  have j1 := (unhide HJ3).call hr p q
  have k3_3 : y3.cell? ⟨w.heap.size + 1, 3, none⟩ = some (.int .i64 0) := cell_of_heap j1.t
  have f3 : ∀ o, y3.frozen? ⟨w.heap.size + 1, o, none⟩ = false := fun o => frozen_of_heap j1.t
  have j2 := (j1.set hr 3 (.int .i64 v3) (cs' := #[.int .i64 3, .int .i64 v1, .int .i64 v2, .int .i64 v3, .int .i64 0, .int .i64 0, .int .i64 0, .bool false, .slice none 0 0, .int .i64 0, .int .i64 0, .int .i64 0, .slice none 0 0, .int .i64 0, .int .i64 0, .int .i64 0, .slice none 0 0]) rfl)
  obtain ⟨z3, hz3⟩ : ∃ y, (y3.setCell ⟨w.heap.size + 1, 3, none⟩ (.int .i64 v3)) = y := ⟨_, rfl⟩
  rw [hz3] at j2
  have kk3 : z3.cell? ⟨w.heap.size + 1, 0, none⟩ = some (.int .i64 3) := cell_of_heap j2.t
  have HJ4 := hide j2
  have HC4 := hide (num_d j2.rd)
  rw [unhide HE4] at HC4
  simp only at HC4
  clear p q j1 j2 HC3 HJ3
  go_wp2_with (rw [hz3])
  refine (unhide HC4).mono ?_
  rintro e y4 ⟨rfl, p, q⟩
  have j1 := (unhide HJ4).call hr p q
  have k4_4 : y4.cell? ⟨w.heap.size + 1, 4, none⟩ = some (.int .i64 0) := cell_of_heap j1.t
  have f4 : ∀ o, y4.frozen? ⟨w.heap.size + 1, o, none⟩ = false := fun o => frozen_of_heap j1.t
  have j2 := (j1.set hr 4 (.int .i64 v4) (cs' := #[.int .i64 3, .int .i64 v1, .int .i64 v2, .int .i64 v3, .int .i64 v4, .int .i64 0, .int .i64 0, .bool false, .slice none 0 0, .int .i64 0, .int .i64 0, .int .i64 0, .slice none 0 0, .int .i64 0, .int .i64 0, .int .i64 0, .slice none 0 0]) rfl)
  obtain ⟨z4, hz4⟩ : ∃ y, (y4.setCell ⟨w.heap.size + 1, 4, none⟩ (.int .i64 v4)) = y := ⟨_, rfl⟩
  rw [hz4] at j2
  have kk4 : z4.cell? ⟨w.heap.size + 1, 0, none⟩ = some (.int .i64 3) := cell_of_heap j2.t
  have HJ5 := hide j2
  have HC5 := hide (num_d j2.rd)
  rw [unhide HE5] at HC5
  simp only at HC5
  clear p q j1 j2 HC4 HJ4
  go_wp2_with (rw [hz4])
  refine (unhide HC5).mono ?_
  rintro e y5 ⟨rfl, p, q⟩
  have j1 := (unhide HJ5).call hr p q
  have k5_5 : y5.cell? ⟨w.heap.size + 1, 5, none⟩ = some (.int .i64 0) := cell_of_heap j1.t
  have f5 : ∀ o, y5.frozen? ⟨w.heap.size + 1, o, none⟩ = false := fun o => frozen_of_heap j1.t
  have j2 := (j1.set hr 5 (.int .i64 v5) (cs' := #[.int .i64 3, .int .i64 v1, .int .i64 v2, .int .i64 v3, .int .i64 v4, .int .i64 v5, .int .i64 0, .bool false, .slice none 0 0, .int .i64 0, .int .i64 0, .int .i64 0, .slice none 0 0, .int .i64 0, .int .i64 0, .int .i64 0, .slice none 0 0]) rfl)
  obtain ⟨z5, hz5⟩ : ∃ y, (y5.setCell ⟨w.heap.size + 1, 5, none⟩ (.int .i64 v5)) = y := ⟨_, rfl⟩
  rw [hz5] at j2
  have kk5 : z5.cell? ⟨w.heap.size + 1, 0, none⟩ = some (.int .i64 3) := cell_of_heap j2.t
  have HJ6 := hide j2
  have HC6 := hide (num_d j2.rd)
  rw [unhide HE6] at HC6
  simp only at HC6
  clear p q j1 j2 HC5 HJ5
  go_wp2_with (rw [hz5])
  refine (unhide HC6).mono ?_
  rintro e y6 ⟨rfl, p, q⟩
  have j1 := (unhide HJ6).call hr p q
  have k6_6 : y6.cell? ⟨w.heap.size + 1, 6, none⟩ = some (.int .i64 0) := cell_of_heap j1.t
  have f6 : ∀ o, y6.frozen? ⟨w.heap.size + 1, o, none⟩ = false := fun o => frozen_of_heap j1.t
  have j2 := (j1.set hr 6 (.int .i64 v6) (cs' := #[.int .i64 3, .int .i64 v1, .int .i64 v2, .int .i64 v3, .int .i64 v4, .int .i64 v5, .int .i64 v6, .bool false, .slice none 0 0, .int .i64 0, .int .i64 0, .int .i64 0, .slice none 0 0, .int .i64 0, .int .i64 0, .int .i64 0, .slice none 0 0]) rfl)
  obtain ⟨z6, hz6⟩ : ∃ y, (y6.setCell ⟨w.heap.size + 1, 6, none⟩ (.int .i64 v6)) = y := ⟨_, rfl⟩
  rw [hz6] at j2
  have kk6 : z6.cell? ⟨w.heap.size + 1, 0, none⟩ = some (.int .i64 3) := cell_of_heap j2.t
  have HJ7 := hide j2
  have HC7 := hide (list_d j2.rd)
  rw [unhide HE7] at HC7
  simp only at HC7
  clear p q j1 j2 HC6 HJ6
  go_wp2_with (rw [hz6])
  refine (unhide HC7).mono ?_
  rintro e y7 ⟨xv, rfl, ox, p, q⟩
  have OX := ox.mono (unhide HJ7).size
  obtain ⟨xa, xc, rfl⟩ := ox.shape
  simp only at OX ⊢
  obtain ⟨xl, hxl⟩ : ∃ n, v7.length = n := ⟨_, rfl⟩
  rw [hxl] at OX
  rw [hxl]
  have HXL := hide hxl
  clear ox hxl
  have j1 := (unhide HJ7).call hr p q
  have k7_8 : y7.cell? ⟨w.heap.size + 1, 8, none⟩ = some (.slice none 0 0) := cell_of_heap j1.t
  have f7 : ∀ o, y7.frozen? ⟨w.heap.size + 1, o, none⟩ = false := fun o => frozen_of_heap j1.t
  have j2 := (j1.set hr 8 (.slice xa xl xc) (cs' := #[.int .i64 3, .int .i64 v1, .int .i64 v2, .int .i64 v3, .int .i64 v4, .int .i64 v5, .int .i64 v6, .bool false, .slice xa xl xc, .int .i64 0, .int .i64 0, .int .i64 0, .slice none 0 0, .int .i64 0, .int .i64 0, .int .i64 0, .slice none 0 0]) rfl)
  have OX := (OX.same (cell_same (o := 8) (u := .slice xa xl xc) (Nat.lt_succ_self (w.heap.size + 1))))
  obtain ⟨z7, hz7⟩ : ∃ y, (y7.setCell ⟨w.heap.size + 1, 8, none⟩ (.slice xa xl xc)) = y := ⟨_, rfl⟩
  rw [hz7] at j2 OX
  have kk7 : z7.cell? ⟨w.heap.size + 1, 0, none⟩ = some (.int .i64 3) := cell_of_heap j2.t
  have HX9 := hide j2.t
  have HZ9 := hide j2.z
  have HF9 : Hid (∀ cr, OwnM w.heap.size (z7.setRow w.heap.size cr) #[.int .i64 3, .int .i64 v1, .int .i64 v2, .int .i64 v3, .int .i64 v4, .int .i64 v5, .int .i64 v6, .bool false, .slice xa xl xc, .int .i64 0, .int .i64 0, .int .i64 0, .slice none 0 0, .int .i64 0, .int .i64 0, .int .i64 0, .slice none 0 0] ⟨3, v1, v2, v3, v4, v5, v6, false, v7, ⟨0, 0, 0, []⟩, ⟨0, 0, 0, []⟩⟩ ∧ Dr (z7.setRow w.heap.size cr) R lo ZB t7 ∧ But R w (z7.setRow w.heap.size cr)) := fun cr => ⟨⟨_, _, _, rfl, (OX.same (row_same cr (Nat.lt_succ_of_lt (Nat.lt_succ_self w.heap.size)))).mono (by omega), OwnTs.nil _ _, World.ownsRow_nil _ _ _ _⟩, j2.fin hr cr⟩
  clear p q j1 j2 HC7 HJ7 OX
  go_wp2_with (first | rw [hz7] | refine wpList_load_row rfl 34 _ rfl (w.heap.size + 1) rfl 34 _ (0, 0) _ (unhide HX9) Tryz.underlying34 rfl (by kernel_rfl) ?_ | refine wpList_store_row rfl 34 _ _ rfl w.heap.size _ _ rfl rfl 34 (unhide HZ9) (by kernel_rfl) rfl (by first | kernel_rfl | simp [Value.oneCell']) ?_)
  refine bodyPost_ret (results_cell_row rfl _ _ w.heap.size 34 #[.int .i64 3, .int .i64 v1, .int .i64 v2, .int .i64 v3, .int .i64 v4, .int .i64 v5, .int .i64 v6, .bool false, .slice xa xl xc, .int .i64 0, .int .i64 0, .int .i64 0, .slice none 0 0, .int .i64 0, .int .i64 0, .int .i64 0, .slice none 0 0] (0, 0) _ rfl (setRow_heap _ _ _ _ _ _ (unhide HZ9)) Tryz.underlying34 rfl (by kernel_rfl)) rfl ?_
  exact ⟨_, rfl, unhide HF9 _⟩
def RS.dm4 (s : RS) : MsgD × RS := (⟨4, s.small.1, s.small.2.small.1, s.small.2.small.2.num.1, s.small.2.small.2.num.2.flag.2.num.1, 0, 0, s.small.2.small.2.num.2.flag.1, [], ⟨0, 0, 0, []⟩, ⟨0, 0, 0, []⟩⟩, s.small.2.small.2.num.2.flag.2.num.2)

set_option maxHeartbeats 1600000 in
theorem msg_d4 {w : World} {R lo : Nat} {ZB : List Int} {s : RS} (h : Dr w R lo ZB s) (hk : s.small.1 = 4) :
    Calls Tryz.prog 53 #[.pointer (some ⟨R, 0, none⟩)] w fun e w' => ∃ cs, e = .returned (.agg cs) ∧ OwnM w.heap.size w' cs (RS.dm4 s.small.2).1 ∧ Dr w' R lo ZB (RS.dm4 s.small.2).2 ∧ But R w w' := by
  have hr := h.rlt
  obtain ⟨s0, hs0⟩ : ∃ x, s.small.2 = x := ⟨_, rfl⟩
  have he : s0.er = 0 := Classical.byContradiction fun g => by have := small_bad (s := s) (by rw [hs0]; exact g); omega
  rw [hs0]
  obtain ⟨v1, t1, e1⟩ : ∃ n s', s0.small = (n, s') := ⟨_, _, rfl⟩
  obtain ⟨v2, t2, e2⟩ : ∃ n s', t1.small = (n, s') := ⟨_, _, rfl⟩
  obtain ⟨v3, t3, e3⟩ : ∃ n s', t2.num = (n, s') := ⟨_, _, rfl⟩
  obtain ⟨v4, t4, e4⟩ : ∃ n s', t3.flag = (n, s') := ⟨_, _, rfl⟩
  obtain ⟨v5, t5, e5⟩ : ∃ n s', t4.num = (n, s') := ⟨_, _, rfl⟩
  have et : RS.dm4 s0 = (⟨4, v1, v2, v3, v5, 0, 0, v4, [], ⟨0, 0, 0, []⟩, ⟨0, 0, 0, []⟩⟩, t5) := by simp only [RS.dm4, e1, e2, e3, e4, e5]
  rw [et]
  simp only
  have HE2 := hide e2
  have HE3 := hide e3
  have HE4 := hide e4
  have HE5 := hide e5
  have hal : Below w.heap.size w ((w.alloc (.cells #[.int .i64 0, .int .i64 0, .int .i64 0, .int .i64 0, .int .i64 0, .int .i64 0, .int .i64 0, .bool false, .slice none 0 0, .int .i64 0, .int .i64 0, .int .i64 0, .slice none 0 0, .int .i64 0, .int .i64 0, .int .i64 0, .slice none 0 0] 34)).alloc (.cells #[.int .i64 0, .int .i64 0, .int .i64 0, .int .i64 0, .int .i64 0, .int .i64 0, .int .i64 0, .bool false, .slice none 0 0, .int .i64 0, .int .i64 0, .int .i64 0, .slice none 0 0, .int .i64 0, .int .i64 0, .int .i64 0, .slice none 0 0] 34)) := ((Below.refl _ _).alloc (Nat.le_refl _) _).alloc (by simp) _
  have hz0 : ((w.alloc (.cells #[.int .i64 0, .int .i64 0, .int .i64 0, .int .i64 0, .int .i64 0, .int .i64 0, .int .i64 0, .bool false, .slice none 0 0, .int .i64 0, .int .i64 0, .int .i64 0, .slice none 0 0, .int .i64 0, .int .i64 0, .int .i64 0, .slice none 0 0] 34)).alloc (.cells #[.int .i64 0, .int .i64 0, .int .i64 0, .int .i64 0, .int .i64 0, .int .i64 0, .int .i64 0, .bool false, .slice none 0 0, .int .i64 0, .int .i64 0, .int .i64 0, .slice none 0 0, .int .i64 0, .int .i64 0, .int .i64 0, .slice none 0 0] 34)).heap[w.heap.size]? = some (.cells #[.int .i64 0, .int .i64 0, .int .i64 0, .int .i64 0, .int .i64 0, .int .i64 0, .int .i64 0, .bool false, .slice none 0 0, .int .i64 0, .int .i64 0, .int .i64 0, .slice none 0 0, .int .i64 0, .int .i64 0, .int .i64 0, .slice none 0 0] 34) := (Below.heap_alloc _ _ _ (by simp)).trans (heap_alloc_new w _)
  have hsz0 : (w.alloc (.cells #[.int .i64 0, .int .i64 0, .int .i64 0, .int .i64 0, .int .i64 0, .int .i64 0, .int .i64 0, .bool false, .slice none 0 0, .int .i64 0, .int .i64 0, .int .i64 0, .slice none 0 0, .int .i64 0, .int .i64 0, .int .i64 0, .slice none 0 0] 34)).heap.size = w.heap.size + 1 := by simp
  have ht0 : ((w.alloc (.cells #[.int .i64 0, .int .i64 0, .int .i64 0, .int .i64 0, .int .i64 0, .int .i64 0, .int .i64 0, .bool false, .slice none 0 0, .int .i64 0, .int .i64 0, .int .i64 0, .slice none 0 0, .int .i64 0, .int .i64 0, .int .i64 0, .slice none 0 0] 34)).alloc (.cells #[.int .i64 0, .int .i64 0, .int .i64 0, .int .i64 0, .int .i64 0, .int .i64 0, .int .i64 0, .bool false, .slice none 0 0, .int .i64 0, .int .i64 0, .int .i64 0, .slice none 0 0, .int .i64 0, .int .i64 0, .int .i64 0, .slice none 0 0] 34)).heap[w.heap.size + 1]? = some (.cells #[.int .i64 0, .int .i64 0, .int .i64 0, .int .i64 0, .int .i64 0, .int .i64 0, .int .i64 0, .bool false, .slice none 0 0, .int .i64 0, .int .i64 0, .int .i64 0, .slice none 0 0, .int .i64 0, .int .i64 0, .int .i64 0, .slice none 0 0] 34) := by have := heap_alloc_new (w.alloc (.cells #[.int .i64 0, .int .i64 0, .int .i64 0, .int .i64 0, .int .i64 0, .int .i64 0, .int .i64 0, .bool false, .slice none 0 0, .int .i64 0, .int .i64 0, .int .i64 0, .slice none 0 0, .int .i64 0, .int .i64 0, .int .i64 0, .slice none 0 0] 34)) (.cells #[.int .i64 0, .int .i64 0, .int .i64 0, .int .i64 0, .int .i64 0, .int .i64 0, .int .i64 0, .bool false, .slice none 0 0, .int .i64 0, .int .i64 0, .int .i64 0, .slice none 0 0, .int .i64 0, .int .i64 0, .int .i64 0, .slice none 0 0] 34); rw [hsz0] at this; exact this
  have hsz1 : ((w.alloc (.cells #[.int .i64 0, .int .i64 0, .int .i64 0, .int .i64 0, .int .i64 0, .int .i64 0, .int .i64 0, .bool false, .slice none 0 0, .int .i64 0, .int .i64 0, .int .i64 0, .slice none 0 0, .int .i64 0, .int .i64 0, .int .i64 0, .slice none 0 0] 34)).alloc (.cells #[.int .i64 0, .int .i64 0, .int .i64 0, .int .i64 0, .int .i64 0, .int .i64 0, .int .i64 0, .bool false, .slice none 0 0, .int .i64 0, .int .i64 0, .int .i64 0, .slice none 0 0, .int .i64 0, .int .i64 0, .int .i64 0, .slice none 0 0] 34)).heap.size = w.heap.size + 2 := by simp
  have HC0 := hide (small_d (h.below hal))
  rw [hk, hs0] at HC0
  obtain ⟨w2, hw2⟩ : ∃ y, ((w.alloc (.cells #[.int .i64 0, .int .i64 0, .int .i64 0, .int .i64 0, .int .i64 0, .int .i64 0, .int .i64 0, .bool false, .slice none 0 0, .int .i64 0, .int .i64 0, .int .i64 0, .slice none 0 0, .int .i64 0, .int .i64 0, .int .i64 0, .slice none 0 0] 34)).alloc (.cells #[.int .i64 0, .int .i64 0, .int .i64 0, .int .i64 0, .int .i64 0, .int .i64 0, .int .i64 0, .bool false, .slice none 0 0, .int .i64 0, .int .i64 0, .int .i64 0, .slice none 0 0, .int .i64 0, .int .i64 0, .int .i64 0, .slice none 0 0] 34)) = y := ⟨_, rfl⟩
  rw [hw2] at hal hz0 ht0 hsz1 HC0
  have HJ0 : Hid (GJ w R lo ZB #[.int .i64 0, .int .i64 0, .int .i64 0, .int .i64 0, .int .i64 0, .int .i64 0, .int .i64 0, .bool false, .slice none 0 0, .int .i64 0, .int .i64 0, .int .i64 0, .slice none 0 0, .int .i64 0, .int .i64 0, .int .i64 0, .slice none 0 0] s w2) := ⟨ht0, hz0, h.below hal, But.of hal, by omega⟩
  have HE1 := hide e1
  clear h hal hz0 hsz0 ht0 hsz1 et hk hs0 e1 e2 e3 e4 e5
  go_enter Tryz.func53, Tryz.ntmps53
  go_wp2_with (rw [hw2])
  refine (unhide HC0).mono ?_
  rintro e y0 ⟨rfl, p, q⟩
  have j1 := (unhide HJ0).call hr p q
  have k0 : y0.cell? ⟨w.heap.size + 1, 0, none⟩ = some (.int .i64 0) := cell_of_heap j1.t
  have f0 : ∀ o, y0.frozen? ⟨w.heap.size + 1, o, none⟩ = false := fun o => frozen_of_heap j1.t
  have j2 := j1.set hr 0 (.int .i64 4) (cs' := #[.int .i64 4, .int .i64 0, .int .i64 0, .int .i64 0, .int .i64 0, .int .i64 0, .int .i64 0, .bool false, .slice none 0 0, .int .i64 0, .int .i64 0, .int .i64 0, .slice none 0 0, .int .i64 0, .int .i64 0, .int .i64 0, .slice none 0 0]) rfl
  obtain ⟨z0, hz0⟩ : ∃ y, y0.setCell ⟨w.heap.size + 1, 0, none⟩ (.int .i64 4) = y := ⟨_, rfl⟩
  rw [hz0] at j2
  have kk0 : z0.cell? ⟨w.heap.size + 1, 0, none⟩ = some (.int .i64 4) := cell_of_heap j2.t
  have ke0 := j2.rd.ce
  rw [he] at ke0
  have HJ1 := hide j2
  have HC1 := hide (small_d j2.rd)
  rw [unhide HE1] at HC1
  simp only at HC1
  clear p q j1 j2 HC0 HJ0
  go_wp2_with (rw [hz0])
  refine (unhide HC1).mono ?_
  rintro e y1 ⟨rfl, p, q⟩
  have j1 := (unhide HJ1).call hr p q
  have k1_1 : y1.cell? ⟨w.heap.size + 1, 1, none⟩ = some (.int .i64 0) := cell_of_heap j1.t
  have f1 : ∀ o, y1.frozen? ⟨w.heap.size + 1, o, none⟩ = false := fun o => frozen_of_heap j1.t
  have j2 := (j1.set hr 1 (.int .i64 v1) (cs' := #[.int .i64 4, .int .i64 v1, .int .i64 0, .int .i64 0, .int .i64 0, .int .i64 0, .int .i64 0, .bool false, .slice none 0 0, .int .i64 0, .int .i64 0, .int .i64 0, .slice none 0 0, .int .i64 0, .int .i64 0, .int .i64 0, .slice none 0 0]) rfl)
  obtain ⟨z1, hz1⟩ : ∃ y, (y1.setCell ⟨w.heap.size + 1, 1, none⟩ (.int .i64 v1)) = y := ⟨_, rfl⟩
  rw [hz1] at j2
  have kk1 : z1.cell? ⟨w.heap.size + 1, 0, none⟩ = some (.int .i64 4) := cell_of_heap j2.t
  have HJ2 := hide j2
  have HC2 := hide (small_d j2.rd)
  rw [unhide HE2] at HC2
  simp only at HC2
  clear p q j1 j2 HC1 HJ1
  go_wp2_with (rw [hz1])
  refine (unhide HC2).mono ?_
  rintro e y2 ⟨rfl, p, q⟩
  have j1 := (unhide HJ2).call hr p q
  have k2_2 : y2.cell? ⟨w.heap.size + 1, 2, none⟩ = some (.int .i64 0) := cell_of_heap j1.t
  have f2 : ∀ o, y2.frozen? ⟨w.heap.size + 1, o, none⟩ = false := fun o => frozen_of_heap j1.t
  have j2 := (j1.set hr 2 (.int .i64 v2) (cs' := #[.int .i64 4, .int .i64 v1, .int .i64 v2, .int .i64 0, .int .i64 0, .int .i64 0, .int .i64 0, .bool false, .slice none 0 0, .int .i64 0, .int .i64 0, .int .i64 0, .slice none 0 0, .int .i64 0, .int .i64 0, .int .i64 0, .slice none 0 0]) rfl)
  obtain ⟨z2, hz2⟩ : ∃ y, (y2.setCell ⟨w.heap.size + 1, 2, none⟩ (.int .i64 v2)) = y := ⟨_, rfl⟩
  rw [hz2] at j2
  have kk2 : z2.cell? ⟨w.heap.size + 1, 0, none⟩ = some (.int .i64 4) := cell_of_heap j2.t
  have HJ3 := hide j2
  have HC3 := hide (num_d j2.rd)
  rw [unhide HE3] at HC3
  simp only at HC3
  clear p q j1 j2 HC2 HJ2
  go_wp2_with (rw [hz2])
  refine (unhide HC3).mono ?_
  rintro e y3 ⟨rfl, p, q⟩
  have j1 := (unhide HJ3).call hr p q
  have k3_3 : y3.cell? ⟨w.heap.size + 1, 3, none⟩ = some (.int .i64 0) := cell_of_heap j1.t
  have f3 : ∀ o, y3.frozen? ⟨w.heap.size + 1, o, none⟩ = false := fun o => frozen_of_heap j1.t
  have j2 := (j1.set hr 3 (.int .i64 v3) (cs' := #[.int .i64 4, .int .i64 v1, .int .i64 v2, .int .i64 v3, .int .i64 0, .int .i64 0, .int .i64 0, .bool false, .slice none 0 0, .int .i64 0, .int .i64 0, .int .i64 0, .slice none 0 0, .int .i64 0, .int .i64 0, .int .i64 0, .slice none 0 0]) rfl)
  obtain ⟨z3, hz3⟩ : ∃ y, (y3.setCell ⟨w.heap.size + 1, 3, none⟩ (.int .i64 v3)) = y := ⟨_, rfl⟩
  rw [hz3] at j2
  have kk3 : z3.cell? ⟨w.heap.size + 1, 0, none⟩ = some (.int .i64 4) := cell_of_heap j2.t
  have HJ4 := hide j2
  have HC4 := hide (yes_d j2.rd)
  rw [unhide HE4] at HC4
  simp only at HC4
  clear p q j1 j2 HC3 HJ3
  go_wp2_with (rw [hz3])
  refine (unhide HC4).mono ?_
  rintro e y4 ⟨rfl, p, q⟩
  have j1 := (unhide HJ4).call hr p q
  have k4_7 : y4.cell? ⟨w.heap.size + 1, 7, none⟩ = some (.bool false) := cell_of_heap j1.t
  have f4 : ∀ o, y4.frozen? ⟨w.heap.size + 1, o, none⟩ = false := fun o => frozen_of_heap j1.t
  have j2 := (j1.set hr 7 (.bool v4) (cs' := #[.int .i64 4, .int .i64 v1, .int .i64 v2, .int .i64 v3, .int .i64 0, .int .i64 0, .int .i64 0, .bool v4, .slice none 0 0, .int .i64 0, .int .i64 0, .int .i64 0, .slice none 0 0, .int .i64 0, .int .i64 0, .int .i64 0, .slice none 0 0]) rfl)
  obtain ⟨z4, hz4⟩ : ∃ y, (y4.setCell ⟨w.heap.size + 1, 7, none⟩ (.bool v4)) = y := ⟨_, rfl⟩
  rw [hz4] at j2
  have kk4 : z4.cell? ⟨w.heap.size + 1, 0, none⟩ = some (.int .i64 4) := cell_of_heap j2.t
  have HJ5 := hide j2
  have HC5 := hide (num_d j2.rd)
  rw [unhide HE5] at HC5
  simp only at HC5
  clear p q j1 j2 HC4 HJ4
  go_wp2_with (rw [hz4])
  refine (unhide HC5).mono ?_
  rintro e y5 ⟨rfl, p, q⟩
  have j1 := (unhide HJ5).call hr p q
  have k5_4 : y5.cell? ⟨w.heap.size + 1, 4, none⟩ = some (.int .i64 0) := cell_of_heap j1.t
  have f5 : ∀ o, y5.frozen? ⟨w.heap.size + 1, o, none⟩ = false := fun o => frozen_of_heap j1.t
  have j2 := (j1.set hr 4 (.int .i64 v5) (cs' := #[.int .i64 4, .int .i64 v1, .int .i64 v2, .int .i64 v3, .int .i64 v5, .int .i64 0, .int .i64 0, .bool v4, .slice none 0 0, .int .i64 0, .int .i64 0, .int .i64 0, .slice none 0 0, .int .i64 0, .int .i64 0, .int .i64 0, .slice none 0 0]) rfl)
  obtain ⟨z5, hz5⟩ : ∃ y, (y5.setCell ⟨w.heap.size + 1, 4, none⟩ (.int .i64 v5)) = y := ⟨_, rfl⟩
  rw [hz5] at j2
  have kk5 : z5.cell? ⟨w.heap.size + 1, 0, none⟩ = some (.int .i64 4) := cell_of_heap j2.t
  have HX9 := hide j2.t
  have HZ9 := hide j2.z
  have HF9 : Hid (∀ cr, OwnM w.heap.size (z5.setRow w.heap.size cr) #[.int .i64 4, .int .i64 v1, .int .i64 v2, .int .i64 v3, .int .i64 v5, .int .i64 0, .int .i64 0, .bool v4, .slice none 0 0, .int .i64 0, .int .i64 0, .int .i64 0, .slice none 0 0, .int .i64 0, .int .i64 0, .int .i64 0, .slice none 0 0] ⟨4, v1, v2, v3, v5, 0, 0, v4, [], ⟨0, 0, 0, []⟩, ⟨0, 0, 0, []⟩⟩ ∧ Dr (z5.setRow w.heap.size cr) R lo ZB t5 ∧ But R w (z5.setRow w.heap.size cr)) := fun cr => ⟨⟨_, _, _, rfl, OwnTms.nil _ _, OwnTs.nil _ _, World.ownsRow_nil _ _ _ _⟩, j2.fin hr cr⟩
  clear p q j1 j2 HC5 HJ5
  go_wp2_with (first | rw [hz5] | refine wpList_load_row rfl 34 _ rfl (w.heap.size + 1) rfl 34 _ (0, 0) _ (unhide HX9) Tryz.underlying34 rfl (by kernel_rfl) ?_ | refine wpList_store_row rfl 34 _ _ rfl w.heap.size _ _ rfl rfl 34 (unhide HZ9) (by kernel_rfl) rfl (by first | kernel_rfl | simp [Value.oneCell']) ?_)
  refine bodyPost_ret (results_cell_row rfl _ _ w.heap.size 34 #[.int .i64 4, .int .i64 v1, .int .i64 v2, .int .i64 v3, .int .i64 v5, .int .i64 0, .int .i64 0, .bool v4, .slice none 0 0, .int .i64 0, .int .i64 0, .int .i64 0, .slice none 0 0, .int .i64 0, .int .i64 0, .int .i64 0, .slice none 0 0] (0, 0) _ rfl (setRow_heap _ _ _ _ _ _ (unhide HZ9)) Tryz.underlying34 rfl (by kernel_rfl)) rfl ?_
  exact ⟨_, rfl, unhide HF9 _⟩
def RS.dm5 (s : RS) : MsgD × RS := (⟨5, s.small.1, s.small.2.small.1, s.small.2.small.2.num.1, s.small.2.small.2.num.2.num.1, s.small.2.small.2.num.2.num.2.num.1, 0, false, [], ⟨0, 0, 0, []⟩, s.small.2.small.2.num.2.num.2.num.2.dpart.1⟩, s.small.2.small.2.num.2.num.2.num.2.dpart.2)

set_option maxHeartbeats 1600000 in
theorem msg_d5 {w : World} {R lo : Nat} {ZB : List Int} {s : RS} (h : Dr w R lo ZB s) (hk : s.small.1 = 5) :
    Calls Tryz.prog 53 #[.pointer (some ⟨R, 0, none⟩)] w fun e w' => ∃ cs, e = .returned (.agg cs) ∧ OwnM w.heap.size w' cs (RS.dm5 s.small.2).1 ∧ Dr w' R lo ZB (RS.dm5 s.small.2).2 ∧ But R w w' := by
  have hr := h.rlt
  obtain ⟨s0, hs0⟩ : ∃ x, s.small.2 = x := ⟨_, rfl⟩
  have he : s0.er = 0 := Classical.byContradiction fun g => by have := small_bad (s := s) (by rw [hs0]; exact g); omega
  rw [hs0]
  obtain ⟨v1, t1, e1⟩ : ∃ n s', s0.small = (n, s') := ⟨_, _, rfl⟩
  obtain ⟨v2, t2, e2⟩ : ∃ n s', t1.small = (n, s') := ⟨_, _, rfl⟩
  obtain ⟨v3, t3, e3⟩ : ∃ n s', t2.num = (n, s') := ⟨_, _, rfl⟩
  obtain ⟨v4, t4, e4⟩ : ∃ n s', t3.num = (n, s') := ⟨_, _, rfl⟩
  obtain ⟨v5, t5, e5⟩ : ∃ n s', t4.num = (n, s') := ⟨_, _, rfl⟩
  obtain ⟨⟨u1, u2, u3, v6⟩, t6, e6⟩ : ∃ (n : PtD) (s' : RS), t5.dpart = (n, s') := ⟨_, _, rfl⟩
  have et : RS.dm5 s0 = (⟨5, v1, v2, v3, v4, v5, 0, false, [], ⟨0, 0, 0, []⟩, ⟨u1, u2, u3, v6⟩⟩, t6) := by simp only [RS.dm5, e1, e2, e3, e4, e5, e6]
  rw [et]
  simp only
  have HE2 := hide e2
  have HE3 := hide e3
  have HE4 := hide e4
  have HE5 := hide e5
  have HE6 := hide e6
  have hal : Below w.heap.size w ((w.alloc (.cells #[.int .i64 0, .int .i64 0, .int .i64 0, .int .i64 0, .int .i64 0, .int .i64 0, .int .i64 0, .bool false, .slice none 0 0, .int .i64 0, .int .i64 0, .int .i64 0, .slice none 0 0, .int .i64 0, .int .i64 0, .int .i64 0, .slice none 0 0] 34)).alloc (.cells #[.int .i64 0, .int .i64 0, .int .i64 0, .int .i64 0, .int .i64 0, .int .i64 0, .int .i64 0, .bool false, .slice none 0 0, .int .i64 0, .int .i64 0, .int .i64 0, .slice none 0 0, .int .i64 0, .int .i64 0, .int .i64 0, .slice none 0 0] 34)) := ((Below.refl _ _).alloc (Nat.le_refl _) _).alloc (by simp) _
  have hz0 : ((w.alloc (.cells #[.int .i64 0, .int .i64 0, .int .i64 0, .int .i64 0, .int .i64 0, .int .i64 0, .int .i64 0, .bool false, .slice none 0 0, .int .i64 0, .int .i64 0, .int .i64 0, .slice none 0 0, .int .i64 0, .int .i64 0, .int .i64 0, .slice none 0 0] 34)).alloc (.cells #[.int .i64 0, .int .i64 0, .int .i64 0, .int .i64 0, .int .i64 0, .int .i64 0, .int .i64 0, .bool false, .slice none 0 0, .int .i64 0, .int .i64 0, .int .i64 0, .slice none 0 0, .int .i64 0, .int .i64 0, .int .i64 0, .slice none 0 0] 34)).heap[w.heap.size]? = some (.cells #[.int .i64 0, .int .i64 0, .int .i64 0, .int .i64 0, .int .i64 0, .int .i64 0, .int .i64 0, .bool false, .slice none 0 0, .int .i64 0, .int .i64 0, .int .i64 0, .slice none 0 0, .int .i64 0, .int .i64 0, .int .i64 0, .slice none 0 0] 34) := (Below.heap_alloc _ _ _ (by simp)).trans (heap_alloc_new w _)
  have hsz0 : (w.alloc (.cells #[.int .i64 0, .int .i64 0, .int .i64 0, .int .i64 0, .int .i64 0, .int .i64 0, .int .i64 0, .bool false, .slice none 0 0, .int .i64 0, .int .i64 0, .int .i64 0, .slice none 0 0, .int .i64 0, .int .i64 0, .int .i64 0, .slice none 0 0] 34)).heap.size = w.heap.size + 1 := by simp
  have ht0 : ((w.alloc (.cells #[.int .i64 0, .int .i64 0, .int .i64 0, .int .i64 0, .int .i64 0, .int .i64 0, .int .i64 0, .bool false, .slice none 0 0, .int .i64 0, .int .i64 0, .int .i64 0, .slice none 0 0, .int .i64 0, .int .i64 0, .int .i64 0, .slice none 0 0] 34)).alloc (.cells #[.int .i64 0, .int .i64 0, .int .i64 0, .int .i64 0, .int .i64 0, .int .i64 0, .int .i64 0, .bool false, .slice none 0 0, .int .i64 0, .int .i64 0, .int .i64 0, .slice none 0 0, .int .i64 0, .int .i64 0, .int .i64 0, .slice none 0 0] 34)).heap[w.heap.size + 1]? = some (.cells #[.int .i64 0, .int .i64 0, .int .i64 0, .int .i64 0, .int .i64 0, .int .i64 0, .int .i64 0, .bool false, .slice none 0 0, .int .i64 0, .int .i64 0, .int .i64 0, .slice none 0 0, .int .i64 0, .int .i64 0, .int .i64 0, .slice none 0 0] 34) := by have := heap_alloc_new (w.alloc (.cells #[.int .i64 0, .int .i64 0, .int .i64 0, .int .i64 0, .int .i64 0, .int .i64 0, .int .i64 0, .bool false, .slice none 0 0, .int .i64 0, .int .i64 0, .int .i64 0, .slice none 0 0, .int .i64 0, .int .i64 0, .int .i64 0, .slice none 0 0] 34)) (.cells #[.int .i64 0, .int .i64 0, .int .i64 0, .int .i64 0, .int .i64 0, .int .i64 0, .int .i64 0, .bool false, .slice none 0 0, .int .i64 0, .int .i64 0, .int .i64 0, .slice none 0 0, .int .i64 0, .int .i64 0, .int .i64 0, .slice none 0 0] 34); rw [hsz0] at this; exact this
  have hsz1 : ((w.alloc (.cells #[.int .i64 0, .int .i64 0, .int .i64 0, .int .i64 0, .int .i64 0, .int .i64 0, .int .i64 0, .bool false, .slice none 0 0, .int .i64 0, .int .i64 0, .int .i64 0, .slice none 0 0, .int .i64 0, .int .i64 0, .int .i64 0, .slice none 0 0] 34)).alloc (.cells #[.int .i64 0, .int .i64 0, .int .i64 0, .int .i64 0, .int .i64 0, .int .i64 0, .int .i64 0, .bool false, .slice none 0 0, .int .i64 0, .int .i64 0, .int .i64 0, .slice none 0 0, .int .i64 0, .int .i64 0, .int .i64 0, .slice none 0 0] 34)).heap.size = w.heap.size + 2 := by simp
  have HC0 := hide (small_d (h.below hal))
  rw [hk, hs0] at HC0
  obtain ⟨w2, hw2⟩ : ∃ y, ((w.alloc (.cells #[.int .i64 0, .int .i64 0, .int .i64 0, .int .i64 0, .int .i64 0, .int .i64 0, .int .i64 0, .bool false, .slice none 0 0, .int .i64 0, .int .i64 0, .int .i64 0, .slice none 0 0, .int .i64 0, .int .i64 0, .int .i64 0, .slice none 0 0] 34)).alloc (.cells #[.int .i64 0, .int .i64 0, .int .i64 0, .int .i64 0, .int .i64 0, .int .i64 0, .int .i64 0, .bool false, .slice none 0 0, .int .i64 0, .int .i64 0, .int .i64 0, .slice none 0 0, .int .i64 0, .int .i64 0, .int .i64 0, .slice none 0 0] 34)) = y := ⟨_, rfl⟩
  rw [hw2] at hal hz0 ht0 hsz1 HC0
  have HJ0 : Hid (GJ w R lo ZB #[.int .i64 0, .int .i64 0, .int .i64 0, .int .i64 0, .int .i64 0, .int .i64 0, .int .i64 0, .bool false, .slice none 0 0, .int .i64 0, .int .i64 0, .int .i64 0, .slice none 0 0, .int .i64 0, .int .i64 0, .int .i64 0, .slice none 0 0] s w2) := ⟨ht0, hz0, h.below hal, But.of hal, by omega⟩
  have HE1 := hide e1
  clear h hal hz0 hsz0 ht0 hsz1 et hk hs0 e1 e2 e3 e4 e5 e6
  go_enter Tryz.func53, Tryz.ntmps53
  go_wp2_with (rw [hw2])
  refine (unhide HC0).mono ?_
  rintro e y0 ⟨rfl, p, q⟩
  have j1 := (unhide HJ0).call hr p q
  have k0 : y0.cell? ⟨w.heap.size + 1, 0, none⟩ = some (.int .i64 0) := cell_of_heap j1.t
  have f0 : ∀ o, y0.frozen? ⟨w.heap.size + 1, o, none⟩ = false := fun o => frozen_of_heap j1.t
  have j2 := j1.set hr 0 (.int .i64 5) (cs' := #[.int .i64 5, .int .i64 0, .int .i64 0, .int .i64 0, .int .i64 0, .int .i64 0, .int .i64 0, .bool false, .slice none 0 0, .int .i64 0, .int .i64 0, .int .i64 0, .slice none 0 0, .int .i64 0, .int .i64 0, .int .i64 0, .slice none 0 0]) rfl
  obtain ⟨z0, hz0⟩ : ∃ y, y0.setCell ⟨w.heap.size + 1, 0, none⟩ (.int .i64 5) = y := ⟨_, rfl⟩
  rw [hz0] at j2
  have kk0 : z0.cell? ⟨w.heap.size + 1, 0, none⟩ = some (.int .i64 5) := cell_of_heap j2.t
  have ke0 := j2.rd.ce
  rw [he] at ke0
  have HJ1 := hide j2
  have HC1 := hide (small_d j2.rd)
  rw [unhide HE1] at HC1
  simp only at HC1
  clear p q j1 j2 HC0 HJ0
  go_wp2_with (rw [hz0])
  refine (unhide HC1).mono ?_
  rintro e y1 ⟨rfl, p, q⟩
  have j1 := (unhide HJ1).call hr p q
  have k1_1 : y1.cell? ⟨w.heap.size + 1, 1, none⟩ = some (.int .i64 0) := cell_of_heap j1.t
  have f1 : ∀ o, y1.frozen? ⟨w.heap.size + 1, o, none⟩ = false := fun o => frozen_of_heap j1.t
  have j2 := (j1.set hr 1 (.int .i64 v1) (cs' := #[.int .i64 5, .int .i64 v1, .int .i64 0, .int .i64 0, .int .i64 0, .int .i64 0, .int .i64 0, .bool false, .slice none 0 0, .int .i64 0, .int .i64 0, .int .i64 0, .slice none 0 0, .int .i64 0, .int .i64 0, .int .i64 0, .slice none 0 0]) rfl)
  obtain ⟨z1, hz1⟩ : ∃ y, (y1.setCell ⟨w.heap.size + 1, 1, none⟩ (.int .i64 v1)) = y := ⟨_, rfl⟩
  rw [hz1] at j2
  have kk1 : z1.cell? ⟨w.heap.size + 1, 0, none⟩ = some (.int .i64 5) := cell_of_heap j2.t
  have HJ2 := hide j2
  have HC2 := hide (small_d j2.rd)
  rw [unhide HE2] at HC2
  simp only at HC2
  clear p q j1 j2 HC1 HJ1
  go_wp2_with (rw [hz1])
  refine (unhide HC2).mono ?_
  rintro e y2 ⟨rfl, p, q⟩
  have j1 := (unhide HJ2).call hr p q
  have k2_2 : y2.cell? ⟨w.heap.size + 1, 2, none⟩ = some (.int .i64 0) := cell_of_heap j1.t
  have f2 : ∀ o, y2.frozen? ⟨w.heap.size + 1, o, none⟩ = false := fun o => frozen_of_heap j1.t
  have j2 := (j1.set hr 2 (.int .i64 v2) (cs' := #[.int .i64 5, .int .i64 v1, .int .i64 v2, .int .i64 0, .int .i64 0, .int .i64 0, .int .i64 0, .bool false, .slice none 0 0, .int .i64 0, .int .i64 0, .int .i64 0, .slice none 0 0, .int .i64 0, .int .i64 0, .int .i64 0, .slice none 0 0]) rfl)
  obtain ⟨z2, hz2⟩ : ∃ y, (y2.setCell ⟨w.heap.size + 1, 2, none⟩ (.int .i64 v2)) = y := ⟨_, rfl⟩
  rw [hz2] at j2
  have kk2 : z2.cell? ⟨w.heap.size + 1, 0, none⟩ = some (.int .i64 5) := cell_of_heap j2.t
  have HJ3 := hide j2
  have HC3 := hide (num_d j2.rd)
  rw [unhide HE3] at HC3
  simp only at HC3
  clear p q j1 j2 HC2 HJ2
  go_wp2_with (rw [hz2])
  refine (unhide HC3).mono ?_
  rintro e y3 ⟨rfl, p, q⟩
  have j1 := (unhide HJ3).call hr p q
  have k3_3 : y3.cell? ⟨w.heap.size + 1, 3, none⟩ = some (.int .i64 0) := cell_of_heap j1.t
  have f3 : ∀ o, y3.frozen? ⟨w.heap.size + 1, o, none⟩ = false := fun o => frozen_of_heap j1.t
  have j2 := (j1.set hr 3 (.int .i64 v3) (cs' := #[.int .i64 5, .int .i64 v1, .int .i64 v2, .int .i64 v3, .int .i64 0, .int .i64 0, .int .i64 0, .bool false, .slice none 0 0, .int .i64 0, .int .i64 0, .int .i64 0, .slice none 0 0, .int .i64 0, .int .i64 0, .int .i64 0, .slice none 0 0]) rfl)
  obtain ⟨z3, hz3⟩ : ∃ y, (y3.setCell ⟨w.heap.size + 1, 3, none⟩ (.int .i64 v3)) = y := ⟨_, rfl⟩
  rw [hz3] at j2
  have kk3 : z3.cell? ⟨w.heap.size + 1, 0, none⟩ = some (.int .i64 5) := cell_of_heap j2.t
  have HJ4 := hide j2
  have HC4 := hide (num_d j2.rd)
  rw [unhide HE4] at HC4
  simp only at HC4
  clear p q j1 j2 HC3 HJ3
  go_wp2_with (rw [hz3])
  refine (unhide HC4).mono ?_
  rintro e y4 ⟨rfl, p, q⟩
  have j1 := (unhide HJ4).call hr p q
  have k4_4 : y4.cell? ⟨w.heap.size + 1, 4, none⟩ = some (.int .i64 0) := cell_of_heap j1.t
  have f4 : ∀ o, y4.frozen? ⟨w.heap.size + 1, o, none⟩ = false := fun o => frozen_of_heap j1.t
  have j2 := (j1.set hr 4 (.int .i64 v4) (cs' := #[.int .i64 5, .int .i64 v1, .int .i64 v2, .int .i64 v3, .int .i64 v4, .int .i64 0, .int .i64 0, .bool false, .slice none 0 0, .int .i64 0, .int .i64 0, .int .i64 0, .slice none 0 0, .int .i64 0, .int .i64 0, .int .i64 0, .slice none 0 0]) rfl)
  obtain ⟨z4, hz4⟩ : ∃ y, (y4.setCell ⟨w.heap.size + 1, 4, none⟩ (.int .i64 v4)) = y := ⟨_, rfl⟩
  rw [hz4] at j2
  have kk4 : z4.cell? ⟨w.heap.size + 1, 0, none⟩ = some (.int .i64 5) := cell_of_heap j2.t
  have HJ5 := hide j2
  have HC5 := hide (num_d j2.rd)
  rw [unhide HE5] at HC5
  simp only at HC5
  clear p q j1 j2 HC4 HJ4
  go_wp2_with (rw [hz4])
  refine (unhide HC5).mono ?_
  rintro e y5 ⟨rfl, p, q⟩
  have j1 := (unhide HJ5).call hr p q
  have k5_5 : y5.cell? ⟨w.heap.size + 1, 5, none⟩ = some (.int .i64 0) := cell_of_heap j1.t
  have f5 : ∀ o, y5.frozen? ⟨w.heap.size + 1, o, none⟩ = false := fun o => frozen_of_heap j1.t
  have j2 := (j1.set hr 5 (.int .i64 v5) (cs' := #[.int .i64 5, .int .i64 v1, .int .i64 v2, .int .i64 v3, .int .i64 v4, .int .i64 v5, .int .i64 0, .bool false, .slice none 0 0, .int .i64 0, .int .i64 0, .int .i64 0, .slice none 0 0, .int .i64 0, .int .i64 0, .int .i64 0, .slice none 0 0]) rfl)
  obtain ⟨z5, hz5⟩ : ∃ y, (y5.setCell ⟨w.heap.size + 1, 5, none⟩ (.int .i64 v5)) = y := ⟨_, rfl⟩
  rw [hz5] at j2
  have kk5 : z5.cell? ⟨w.heap.size + 1, 0, none⟩ = some (.int .i64 5) := cell_of_heap j2.t
  have HJ6 := hide j2
  have HC6 := hide (part_d j2.rd)
  rw [unhide HE6] at HC6
  simp only at HC6
  clear p q j1 j2 HC5 HJ5
  go_wp2_with (rw [hz5])
  refine (unhide HC6).mono ?_
  rintro e y6 ⟨xv, rfl, ox, p, q⟩
  have OX := own_mono ox (unhide HJ6).size
  obtain ⟨xa, xc, rfl⟩ := own_shape ox
  simp only at OX ⊢
  obtain ⟨xl, hxl⟩ : ∃ n, v6.length = n := ⟨_, rfl⟩
  rw [hxl] at OX
  rw [hxl]
  have HXL := hide hxl
  clear ox hxl
  have j1 := (unhide HJ6).call hr p q
  have k6_13 : y6.cell? ⟨w.heap.size + 1, 13, none⟩ = some (.int .i64 0) := cell_of_heap j1.t
  have k6_14 : y6.cell? ⟨w.heap.size + 1, 14, none⟩ = some (.int .i64 0) := cell_of_heap j1.t
  have k6_15 : y6.cell? ⟨w.heap.size + 1, 15, none⟩ = some (.int .i64 0) := cell_of_heap j1.t
  have k6_16 : y6.cell? ⟨w.heap.size + 1, 16, none⟩ = some (.slice none 0 0) := cell_of_heap j1.t
  have f6 : ∀ o, y6.frozen? ⟨w.heap.size + 1, o, none⟩ = false := fun o => frozen_of_heap j1.t
  have j2 := ((((j1.set hr 13 (.int .i64 u1) (cs' := #[.int .i64 5, .int .i64 v1, .int .i64 v2, .int .i64 v3, .int .i64 v4, .int .i64 v5, .int .i64 0, .bool false, .slice none 0 0, .int .i64 0, .int .i64 0, .int .i64 0, .slice none 0 0, .int .i64 u1, .int .i64 0, .int .i64 0, .slice none 0 0]) rfl).set hr 14 (.int .i64 u2) (cs' := #[.int .i64 5, .int .i64 v1, .int .i64 v2, .int .i64 v3, .int .i64 v4, .int .i64 v5, .int .i64 0, .bool false, .slice none 0 0, .int .i64 0, .int .i64 0, .int .i64 0, .slice none 0 0, .int .i64 u1, .int .i64 u2, .int .i64 0, .slice none 0 0]) rfl).set hr 15 (.int .i64 u3) (cs' := #[.int .i64 5, .int .i64 v1, .int .i64 v2, .int .i64 v3, .int .i64 v4, .int .i64 v5, .int .i64 0, .bool false, .slice none 0 0, .int .i64 0, .int .i64 0, .int .i64 0, .slice none 0 0, .int .i64 u1, .int .i64 u2, .int .i64 u3, .slice none 0 0]) rfl).set hr 16 (.slice xa xl xc) (cs' := #[.int .i64 5, .int .i64 v1, .int .i64 v2, .int .i64 v3, .int .i64 v4, .int .i64 v5, .int .i64 0, .bool false, .slice none 0 0, .int .i64 0, .int .i64 0, .int .i64 0, .slice none 0 0, .int .i64 u1, .int .i64 u2, .int .i64 u3, .slice xa xl xc]) rfl)
  have OX := (own_same (own_same (own_same (own_same OX (cell_same (o := 13) (u := .int .i64 u1) (Nat.lt_succ_self (w.heap.size + 1)))) (cell_same (o := 14) (u := .int .i64 u2) (Nat.lt_succ_self (w.heap.size + 1)))) (cell_same (o := 15) (u := .int .i64 u3) (Nat.lt_succ_self (w.heap.size + 1)))) (cell_same (o := 16) (u := .slice xa xl xc) (Nat.lt_succ_self (w.heap.size + 1))))
  obtain ⟨z6, hz6⟩ : ∃ y, ((((y6.setCell ⟨w.heap.size + 1, 13, none⟩ (.int .i64 u1)).setCell ⟨w.heap.size + 1, 14, none⟩ (.int .i64 u2)).setCell ⟨w.heap.size + 1, 15, none⟩ (.int .i64 u3)).setCell ⟨w.heap.size + 1, 16, none⟩ (.slice xa xl xc)) = y := ⟨_, rfl⟩
  rw [hz6] at j2 OX
  have kk6 : z6.cell? ⟨w.heap.size + 1, 0, none⟩ = some (.int .i64 5) := cell_of_heap j2.t
  have HX9 := hide j2.t
  have HZ9 := hide j2.z
  have HF9 : Hid (∀ cr, OwnM w.heap.size (z6.setRow w.heap.size cr) #[.int .i64 5, .int .i64 v1, .int .i64 v2, .int .i64 v3, .int .i64 v4, .int .i64 v5, .int .i64 0, .bool false, .slice none 0 0, .int .i64 0, .int .i64 0, .int .i64 0, .slice none 0 0, .int .i64 u1, .int .i64 u2, .int .i64 u3, .slice xa xl xc] ⟨5, v1, v2, v3, v4, v5, 0, false, [], ⟨0, 0, 0, []⟩, ⟨u1, u2, u3, v6⟩⟩ ∧ Dr (z6.setRow w.heap.size cr) R lo ZB t6 ∧ But R w (z6.setRow w.heap.size cr)) := fun cr => ⟨⟨_, _, _, rfl, OwnTms.nil _ _, OwnTs.nil _ _, by simp only; rw [unhide HXL]; exact own_mono (own_same OX (row_same cr (Nat.lt_succ_of_lt (Nat.lt_succ_self w.heap.size)))) (by omega)⟩, j2.fin hr cr⟩
  clear p q j1 j2 HC6 HJ6 OX
  go_wp2_with (first | rw [hz6] | refine wpList_load_row rfl 34 _ rfl (w.heap.size + 1) rfl 34 _ (0, 0) _ (unhide HX9) Tryz.underlying34 rfl (by kernel_rfl) ?_ | refine wpList_store_row rfl 34 _ _ rfl w.heap.size _ _ rfl rfl 34 (unhide HZ9) (by kernel_rfl) rfl (by first | kernel_rfl | simp [Value.oneCell']) ?_)
  refine bodyPost_ret (results_cell_row rfl _ _ w.heap.size 34 #[.int .i64 5, .int .i64 v1, .int .i64 v2, .int .i64 v3, .int .i64 v4, .int .i64 v5, .int .i64 0, .bool false, .slice none 0 0, .int .i64 0, .int .i64 0, .int .i64 0, .slice none 0 0, .int .i64 u1, .int .i64 u2, .int .i64 u3, .slice xa xl xc] (0, 0) _ rfl (setRow_heap _ _ _ _ _ _ (unhide HZ9)) Tryz.underlying34 rfl (by kernel_rfl)) rfl ?_
  exact ⟨_, rfl, unhide HF9 _⟩
def RS.dm6 (s : RS) : MsgD × RS := (⟨6, s.small.1, s.small.2.small.1, 0, 0, 0, 0, false, [], s.small.2.small.2.dentry.1, ⟨0, 0, 0, []⟩⟩, s.small.2.small.2.dentry.2)

set_option maxHeartbeats 1600000 in
theorem msg_d6 {w : World} {R lo : Nat} {ZB : List Int} {s : RS} (h : Dr w R lo ZB s) (hk : s.small.1 = 6) :
    Calls Tryz.prog 53 #[.pointer (some ⟨R, 0, none⟩)] w fun e w' => ∃ cs, e = .returned (.agg cs) ∧ OwnM w.heap.size w' cs (RS.dm6 s.small.2).1 ∧ Dr w' R lo ZB (RS.dm6 s.small.2).2 ∧ But R w w' := by
  have hr := h.rlt
  obtain ⟨s0, hs0⟩ : ∃ x, s.small.2 = x := ⟨_, rfl⟩
  have he : s0.er = 0 := Classical.byContradiction fun g => by have := small_bad (s := s) (by rw [hs0]; exact g); omega
  rw [hs0]
  obtain ⟨v1, t1, e1⟩ : ∃ n s', s0.small = (n, s') := ⟨_, _, rfl⟩
  obtain ⟨v2, t2, e2⟩ : ∃ n s', t1.small = (n, s') := ⟨_, _, rfl⟩
  obtain ⟨⟨u1, u2, u3, v3⟩, t3, e3⟩ : ∃ (n : EntD) (s' : RS), t2.dentry = (n, s') := ⟨_, _, rfl⟩
  have et : RS.dm6 s0 = (⟨6, v1, v2, 0, 0, 0, 0, false, [], ⟨u1, u2, u3, v3⟩, ⟨0, 0, 0, []⟩⟩, t3) := by simp only [RS.dm6, e1, e2, e3]
  rw [et]
  simp only
  have HE2 := hide e2
  have HE3 := hide e3
  have hal : Below w.heap.size w ((w.alloc (.cells #[.int .i64 0, .int .i64 0, .int .i64 0, .int .i64 0, .int .i64 0, .int .i64 0, .int .i64 0, .bool false, .slice none 0 0, .int .i64 0, .int .i64 0, .int .i64 0, .slice none 0 0, .int .i64 0, .int .i64 0, .int .i64 0, .slice none 0 0] 34)).alloc (.cells #[.int .i64 0, .int .i64 0, .int .i64 0, .int .i64 0, .int .i64 0, .int .i64 0, .int .i64 0, .bool false, .slice none 0 0, .int .i64 0, .int .i64 0, .int .i64 0, .slice none 0 0, .int .i64 0, .int .i64 0, .int .i64 0, .slice none 0 0] 34)) := ((Below.refl _ _).alloc (Nat.le_refl _) _).alloc (by simp) _
  have hz0 : ((w.alloc (.cells #[.int .i64 0, .int .i64 0, .int .i64 0, .int .i64 0, .int .i64 0, .int .i64 0, .int .i64 0, .bool false, .slice none 0 0, .int .i64 0, .int .i64 0, .int .i64 0, .slice none 0 0, .int .i64 0, .int .i64 0, .int .i64 0, .slice none 0 0] 34)).alloc (.cells #[.int .i64 0, .int .i64 0, .int .i64 0, .int .i64 0, .int .i64 0, .int .i64 0, .int .i64 0, .bool false, .slice none 0 0, .int .i64 0, .int .i64 0, .int .i64 0, .slice none 0 0, .int .i64 0, .int .i64 0, .int .i64 0, .slice none 0 0] 34)).heap[w.heap.size]? = some (.cells #[.int .i64 0, .int .i64 0, .int .i64 0, .int .i64 0, .int .i64 0, .int .i64 0, .int .i64 0, .bool false, .slice none 0 0, .int .i64 0, .int .i64 0, .int .i64 0, .slice none 0 0, .int .i64 0, .int .i64 0, .int .i64 0, .slice none 0 0] 34) := (Below.heap_alloc _ _ _ (by simp)).trans (heap_alloc_new w _)
  have hsz0 : (w.alloc (.cells #[.int .i64 0, .int .i64 0, .int .i64 0, .int .i64 0, .int .i64 0, .int .i64 0, .int .i64 0, .bool false, .slice none 0 0, .int .i64 0, .int .i64 0, .int .i64 0, .slice none 0 0, .int .i64 0, .int .i64 0, .int .i64 0, .slice none 0 0] 34)).heap.size = w.heap.size + 1 := by simp
  have ht0 : ((w.alloc (.cells #[.int .i64 0, .int .i64 0, .int .i64 0, .int .i64 0, .int .i64 0, .int .i64 0, .int .i64 0, .bool false, .slice none 0 0, .int .i64 0, .int .i64 0, .int .i64 0, .slice none 0 0, .int .i64 0, .int .i64 0, .int .i64 0, .slice none 0 0] 34)).alloc (.cells #[.int .i64 0, .int .i64 0, .int .i64 0, .int .i64 0, .int .i64 0, .int .i64 0, .int .i64 0, .bool false, .slice none 0 0, .int .i64 0, .int .i64 0, .int .i64 0, .slice none 0 0, .int .i64 0, .int .i64 0, .int .i64 0, .slice none 0 0] 34)).heap[w.heap.size + 1]? = some (.cells #[.int .i64 0, .int .i64 0, .int .i64 0, .int .i64 0, .int .i64 0, .int .i64 0, .int .i64 0, .bool false, .slice none 0 0, .int .i64 0, .int .i64 0, .int .i64 0, .slice none 0 0, .int .i64 0, .int .i64 0, .int .i64 0, .slice none 0 0] 34) := by have := heap_alloc_new (w.alloc (.cells #[.int .i64 0, .int .i64 0, .int .i64 0, .int .i64 0, .int .i64 0, .int .i64 0, .int .i64 0, .bool false, .slice none 0 0, .int .i64 0, .int .i64 0, .int .i64 0, .slice none 0 0, .int .i64 0, .int .i64 0, .int .i64 0, .slice none 0 0] 34)) (.cells #[.int .i64 0, .int .i64 0, .int .i64 0, .int .i64 0, .int .i64 0, .int .i64 0, .int .i64 0, .bool false, .slice none 0 0, .int .i64 0, .int .i64 0, .int .i64 0, .slice none 0 0, .int .i64 0, .int .i64 0, .int .i64 0, .slice none 0 0] 34); rw [hsz0] at this; exact this
  have hsz1 : ((w.alloc (.cells #[.int .i64 0, .int .i64 0, .int .i64 0, .int .i64 0, .int .i64 0, .int .i64 0, .int .i64 0, .bool false, .slice none 0 0, .int .i64 0, .int .i64 0, .int .i64 0, .slice none 0 0, .int .i64 0, .int .i64 0, .int .i64 0, .slice none 0 0] 34)).alloc (.cells #[.int .i64 0, .int .i64 0, .int .i64 0, .int .i64 0, .int .i64 0, .int .i64 0, .int .i64 0, .bool false, .slice none 0 0, .int .i64 0, .int .i64 0, .int .i64 0, .slice none 0 0, .int .i64 0, .int .i64 0, .int .i64 0, .slice none 0 0] 34)).heap.size = w.heap.size + 2 := by simp
  have HC0 := hide (small_d (h.below hal))
  rw [hk, hs0] at HC0
  obtain ⟨w2, hw2⟩ : ∃ y, ((w.alloc (.cells #[.int .i64 0, .int .i64 0, .int .i64 0, .int .i64 0, .int .i64 0, .int .i64 0, .int .i64 0, .bool false, .slice none 0 0, .int .i64 0, .int .i64 0, .int .i64 0, .slice none 0 0, .int .i64 0, .int .i64 0, .int .i64 0, .slice none 0 0] 34)).alloc (.cells #[.int .i64 0, .int .i64 0, .int .i64 0, .int .i64 0, .int .i64 0, .int .i64 0, .int .i64 0, .bool false, .slice none 0 0, .int .i64 0, .int .i64 0, .int .i64 0, .slice none 0 0, .int .i64 0, .int .i64 0, .int .i64 0, .slice none 0 0] 34)) = y := ⟨_, rfl⟩
  rw [hw2] at hal hz0 ht0 hsz1 HC0
  have HJ0 : Hid (GJ w R lo ZB #[.int .i64 0, .int .i64 0, .int .i64 0, .int .i64 0, .int .i64 0, .int .i64 0, .int .i64 0, .bool false, .slice none 0 0, .int .i64 0, .int .i64 0, .int .i64 0, .slice none 0 0, .int .i64 0, .int .i64 0, .int .i64 0, .slice none 0 0] s w2) := ⟨ht0, hz0, h.below hal, But.of hal, by omega⟩
  have HE1 := hide e1
  clear h hal hz0 hsz0 ht0 hsz1 et hk hs0 e1 e2 e3
  go_enter Tryz.func53, Tryz.ntmps53
  go_wp2_with (rw [hw2])
  refine (unhide HC0).mono ?_
  rintro e y0 ⟨rfl, p, q⟩
  have j1 := (unhide HJ0).call hr p q
  have k0 : y0.cell? ⟨w.heap.size + 1, 0, none⟩ = some (.int .i64 0) := cell_of_heap j1.t
  have f0 : ∀ o, y0.frozen? ⟨w.heap.size + 1, o, none⟩ = false := fun o => frozen_of_heap j1.t
  have j2 := j1.set hr 0 (.int .i64 6) (cs' := #[.int .i64 6, .int .i64 0, .int .i64 0, .int .i64 0, .int .i64 0, .int .i64 0, .int .i64 0, .bool false, .slice none 0 0, .int .i64 0, .int .i64 0, .int .i64 0, .slice none 0 0, .int .i64 0, .int .i64 0, .int .i64 0, .slice none 0 0]) rfl
  obtain ⟨z0, hz0⟩ : ∃ y, y0.setCell ⟨w.heap.size + 1, 0, none⟩ (.int .i64 6) = y := ⟨_, rfl⟩
  rw [hz0] at j2
  have kk0 : z0.cell? ⟨w.heap.size + 1, 0, none⟩ = some (.int .i64 6) := cell_of_heap j2.t
  have ke0 := j2.rd.ce
  rw [he] at ke0
  have HJ1 := hide j2
  have HC1 := hide (small_d j2.rd)
  rw [unhide HE1] at HC1
  simp only at HC1
  clear p q j1 j2 HC0 HJ0
  go_wp2_with (rw [hz0])
  refine (unhide HC1).mono ?_
  rintro e y1 ⟨rfl, p, q⟩
  have j1 := (unhide HJ1).call hr p q
  have k1_1 : y1.cell? ⟨w.heap.size + 1, 1, none⟩ = some (.int .i64 0) := cell_of_heap j1.t
  have f1 : ∀ o, y1.frozen? ⟨w.heap.size + 1, o, none⟩ = false := fun o => frozen_of_heap j1.t
  have j2 := (j1.set hr 1 (.int .i64 v1) (cs' := #[.int .i64 6, .int .i64 v1, .int .i64 0, .int .i64 0, .int .i64 0, .int .i64 0, .int .i64 0, .bool false, .slice none 0 0, .int .i64 0, .int .i64 0, .int .i64 0, .slice none 0 0, .int .i64 0, .int .i64 0, .int .i64 0, .slice none 0 0]) rfl)
  obtain ⟨z1, hz1⟩ : ∃ y, (y1.setCell ⟨w.heap.size + 1, 1, none⟩ (.int .i64 v1)) = y := ⟨_, rfl⟩
  rw [hz1] at j2
  have kk1 : z1.cell? ⟨w.heap.size + 1, 0, none⟩ = some (.int .i64 6) := cell_of_heap j2.t
  have HJ2 := hide j2
  have HC2 := hide (small_d j2.rd)
  rw [unhide HE2] at HC2
  simp only at HC2
  clear p q j1 j2 HC1 HJ1
  go_wp2_with (rw [hz1])
  refine (unhide HC2).mono ?_
  rintro e y2 ⟨rfl, p, q⟩
  have j1 := (unhide HJ2).call hr p q
  have k2_2 : y2.cell? ⟨w.heap.size + 1, 2, none⟩ = some (.int .i64 0) := cell_of_heap j1.t
  have f2 : ∀ o, y2.frozen? ⟨w.heap.size + 1, o, none⟩ = false := fun o => frozen_of_heap j1.t
  have j2 := (j1.set hr 2 (.int .i64 v2) (cs' := #[.int .i64 6, .int .i64 v1, .int .i64 v2, .int .i64 0, .int .i64 0, .int .i64 0, .int .i64 0, .bool false, .slice none 0 0, .int .i64 0, .int .i64 0, .int .i64 0, .slice none 0 0, .int .i64 0, .int .i64 0, .int .i64 0, .slice none 0 0]) rfl)
  obtain ⟨z2, hz2⟩ : ∃ y, (y2.setCell ⟨w.heap.size + 1, 2, none⟩ (.int .i64 v2)) = y := ⟨_, rfl⟩
  rw [hz2] at j2
  have kk2 : z2.cell? ⟨w.heap.size + 1, 0, none⟩ = some (.int .i64 6) := cell_of_heap j2.t
  have HJ3 := hide j2
  have HC3 := hide (entry_d j2.rd)
  rw [unhide HE3] at HC3
  simp only at HC3
  clear p q j1 j2 HC2 HJ2
  go_wp2_with (rw [hz2])
  refine (unhide HC3).mono ?_
  rintro e y3 ⟨xcs, rfl, ⟨xv, rfl, ox⟩, p, q⟩
  have OX := ox.mono (unhide HJ3).size
  obtain ⟨xa, xc, rfl⟩ := ox.shape
  simp only at OX ⊢
  obtain ⟨xl, hxl⟩ : ∃ n, v3.length = n := ⟨_, rfl⟩
  rw [hxl] at OX
  rw [hxl]
  have HXL := hide hxl
  clear ox hxl
  have j1 := (unhide HJ3).call hr p q
  have k3_9 : y3.cell? ⟨w.heap.size + 1, 9, none⟩ = some (.int .i64 0) := cell_of_heap j1.t
  have k3_10 : y3.cell? ⟨w.heap.size + 1, 10, none⟩ = some (.int .i64 0) := cell_of_heap j1.t
  have k3_11 : y3.cell? ⟨w.heap.size + 1, 11, none⟩ = some (.int .i64 0) := cell_of_heap j1.t
  have k3_12 : y3.cell? ⟨w.heap.size + 1, 12, none⟩ = some (.slice none 0 0) := cell_of_heap j1.t
  have f3 : ∀ o, y3.frozen? ⟨w.heap.size + 1, o, none⟩ = false := fun o => frozen_of_heap j1.t
  have j2 := ((((j1.set hr 9 (.int .i64 u1) (cs' := #[.int .i64 6, .int .i64 v1, .int .i64 v2, .int .i64 0, .int .i64 0, .int .i64 0, .int .i64 0, .bool false, .slice none 0 0, .int .i64 u1, .int .i64 0, .int .i64 0, .slice none 0 0, .int .i64 0, .int .i64 0, .int .i64 0, .slice none 0 0]) rfl).set hr 10 (.int .i64 u2) (cs' := #[.int .i64 6, .int .i64 v1, .int .i64 v2, .int .i64 0, .int .i64 0, .int .i64 0, .int .i64 0, .bool false, .slice none 0 0, .int .i64 u1, .int .i64 u2, .int .i64 0, .slice none 0 0, .int .i64 0, .int .i64 0, .int .i64 0, .slice none 0 0]) rfl).set hr 11 (.int .i64 u3) (cs' := #[.int .i64 6, .int .i64 v1, .int .i64 v2, .int .i64 0, .int .i64 0, .int .i64 0, .int .i64 0, .bool false, .slice none 0 0, .int .i64 u1, .int .i64 u2, .int .i64 u3, .slice none 0 0, .int .i64 0, .int .i64 0, .int .i64 0, .slice none 0 0]) rfl).set hr 12 (.slice xa xl xc) (cs' := #[.int .i64 6, .int .i64 v1, .int .i64 v2, .int .i64 0, .int .i64 0, .int .i64 0, .int .i64 0, .bool false, .slice none 0 0, .int .i64 u1, .int .i64 u2, .int .i64 u3, .slice xa xl xc, .int .i64 0, .int .i64 0, .int .i64 0, .slice none 0 0]) rfl)
  have OX := ((((OX.same (cell_same (o := 9) (u := .int .i64 u1) (Nat.lt_succ_self (w.heap.size + 1)))).same (cell_same (o := 10) (u := .int .i64 u2) (Nat.lt_succ_self (w.heap.size + 1)))).same (cell_same (o := 11) (u := .int .i64 u3) (Nat.lt_succ_self (w.heap.size + 1)))).same (cell_same (o := 12) (u := .slice xa xl xc) (Nat.lt_succ_self (w.heap.size + 1))))
  obtain ⟨z3, hz3⟩ : ∃ y, ((((y3.setCell ⟨w.heap.size + 1, 9, none⟩ (.int .i64 u1)).setCell ⟨w.heap.size + 1, 10, none⟩ (.int .i64 u2)).setCell ⟨w.heap.size + 1, 11, none⟩ (.int .i64 u3)).setCell ⟨w.heap.size + 1, 12, none⟩ (.slice xa xl xc)) = y := ⟨_, rfl⟩
  rw [hz3] at j2 OX
  have kk3 : z3.cell? ⟨w.heap.size + 1, 0, none⟩ = some (.int .i64 6) := cell_of_heap j2.t
  have HX9 := hide j2.t
  have HZ9 := hide j2.z
  have HF9 : Hid (∀ cr, OwnM w.heap.size (z3.setRow w.heap.size cr) #[.int .i64 6, .int .i64 v1, .int .i64 v2, .int .i64 0, .int .i64 0, .int .i64 0, .int .i64 0, .bool false, .slice none 0 0, .int .i64 u1, .int .i64 u2, .int .i64 u3, .slice xa xl xc, .int .i64 0, .int .i64 0, .int .i64 0, .slice none 0 0] ⟨6, v1, v2, 0, 0, 0, 0, false, [], ⟨u1, u2, u3, v3⟩, ⟨0, 0, 0, []⟩⟩ ∧ Dr (z3.setRow w.heap.size cr) R lo ZB t3 ∧ But R w (z3.setRow w.heap.size cr)) := fun cr => ⟨⟨_, _, _, rfl, OwnTms.nil _ _, (OX.same (row_same cr (Nat.lt_succ_of_lt (Nat.lt_succ_self w.heap.size)))).mono (by omega), World.ownsRow_nil _ _ _ _⟩, j2.fin hr cr⟩
  clear p q j1 j2 HC3 HJ3 OX
  go_wp2_with (first | rw [hz3] | refine wpList_load_row rfl 34 _ rfl (w.heap.size + 1) rfl 34 _ (0, 0) _ (unhide HX9) Tryz.underlying34 rfl (by kernel_rfl) ?_ | refine wpList_store_row rfl 34 _ _ rfl w.heap.size _ _ rfl rfl 34 (unhide HZ9) (by kernel_rfl) rfl (by first | kernel_rfl | simp [Value.oneCell']) ?_)
  refine bodyPost_ret (results_cell_row rfl _ _ w.heap.size 34 #[.int .i64 6, .int .i64 v1, .int .i64 v2, .int .i64 0, .int .i64 0, .int .i64 0, .int .i64 0, .bool false, .slice none 0 0, .int .i64 u1, .int .i64 u2, .int .i64 u3, .slice xa xl xc, .int .i64 0, .int .i64 0, .int .i64 0, .slice none 0 0] (0, 0) _ rfl (setRow_heap _ _ _ _ _ _ (unhide HZ9)) Tryz.underlying34 rfl (by kernel_rfl)) rfl ?_
  exact ⟨_, rfl, unhide HF9 _⟩
def RS.dm0 (k : Int) (s : RS) : MsgD × RS := (⟨k, s.small.1, s.small.2.small.1, s.small.2.small.2.num.1, 0, 0, 0, false, [], ⟨0, 0, 0, []⟩, ⟨0, 0, 0, []⟩⟩, s.small.2.small.2.num.2)

set_option maxHeartbeats 1600000 in
theorem msg_d0x {w : World} {R lo : Nat} {ZB : List Int} {s : RS} {k : Int} (h : Dr w R lo ZB s) (hk : s.small.1 = k) (hx : s.small.2.er ≠ 0) :
    Calls Tryz.prog 53 #[.pointer (some ⟨R, 0, none⟩)] w fun e w' => ∃ cs, e = .returned (.agg cs) ∧ OwnM w.heap.size w' cs (RS.dm0 k s.small.2).1 ∧ Dr w' R lo ZB (RS.dm0 k s.small.2).2 ∧ But R w w' := by
  have hr := h.rlt
  obtain ⟨s0, hs0⟩ : ∃ x, s.small.2 = x := ⟨_, rfl⟩
  have hk0 : k = 0 := hk.symm.trans (small_bad hx)
  rw [hs0] at hx
  subst hk0
  rw [hs0]
  obtain ⟨v1, t1, e1⟩ : ∃ n s', s0.small = (n, s') := ⟨_, _, rfl⟩
  obtain ⟨v2, t2, e2⟩ : ∃ n s', t1.small = (n, s') := ⟨_, _, rfl⟩
  obtain ⟨v3, t3, e3⟩ : ∃ n s', t2.num = (n, s') := ⟨_, _, rfl⟩
  have et : RS.dm0 0 s0 = (⟨0, v1, v2, v3, 0, 0, 0, false, [], ⟨0, 0, 0, []⟩, ⟨0, 0, 0, []⟩⟩, t3) := by simp only [RS.dm0, e1, e2, e3]
  rw [et]
  simp only
  have HE2 := hide e2
  have HE3 := hide e3
  have hal : Below w.heap.size w ((w.alloc (.cells #[.int .i64 0, .int .i64 0, .int .i64 0, .int .i64 0, .int .i64 0, .int .i64 0, .int .i64 0, .bool false, .slice none 0 0, .int .i64 0, .int .i64 0, .int .i64 0, .slice none 0 0, .int .i64 0, .int .i64 0, .int .i64 0, .slice none 0 0] 34)).alloc (.cells #[.int .i64 0, .int .i64 0, .int .i64 0, .int .i64 0, .int .i64 0, .int .i64 0, .int .i64 0, .bool false, .slice none 0 0, .int .i64 0, .int .i64 0, .int .i64 0, .slice none 0 0, .int .i64 0, .int .i64 0, .int .i64 0, .slice none 0 0] 34)) := ((Below.refl _ _).alloc (Nat.le_refl _) _).alloc (by simp) _
  have hz0 : ((w.alloc (.cells #[.int .i64 0, .int .i64 0, .int .i64 0, .int .i64 0, .int .i64 0, .int .i64 0, .int .i64 0, .bool false, .slice none 0 0, .int .i64 0, .int .i64 0, .int .i64 0, .slice none 0 0, .int .i64 0, .int .i64 0, .int .i64 0, .slice none 0 0] 34)).alloc (.cells #[.int .i64 0, .int .i64 0, .int .i64 0, .int .i64 0, .int .i64 0, .int .i64 0, .int .i64 0, .bool false, .slice none 0 0, .int .i64 0, .int .i64 0, .int .i64 0, .slice none 0 0, .int .i64 0, .int .i64 0, .int .i64 0, .slice none 0 0] 34)).heap[w.heap.size]? = some (.cells #[.int .i64 0, .int .i64 0, .int .i64 0, .int .i64 0, .int .i64 0, .int .i64 0, .int .i64 0, .bool false, .slice none 0 0, .int .i64 0, .int .i64 0, .int .i64 0, .slice none 0 0, .int .i64 0, .int .i64 0, .int .i64 0, .slice none 0 0] 34) := (Below.heap_alloc _ _ _ (by simp)).trans (heap_alloc_new w _)
  have hsz0 : (w.alloc (.cells #[.int .i64 0, .int .i64 0, .int .i64 0, .int .i64 0, .int .i64 0, .int .i64 0, .int .i64 0, .bool false, .slice none 0 0, .int .i64 0, .int .i64 0, .int .i64 0, .slice none 0 0, .int .i64 0, .int .i64 0, .int .i64 0, .slice none 0 0] 34)).heap.size = w.heap.size + 1 := by simp
  have ht0 : ((w.alloc (.cells #[.int .i64 0, .int .i64 0, .int .i64 0, .int .i64 0, .int .i64 0, .int .i64 0, .int .i64 0, .bool false, .slice none 0 0, .int .i64 0, .int .i64 0, .int .i64 0, .slice none 0 0, .int .i64 0, .int .i64 0, .int .i64 0, .slice none 0 0] 34)).alloc (.cells #[.int .i64 0, .int .i64 0, .int .i64 0, .int .i64 0, .int .i64 0, .int .i64 0, .int .i64 0, .bool false, .slice none 0 0, .int .i64 0, .int .i64 0, .int .i64 0, .slice none 0 0, .int .i64 0, .int .i64 0, .int .i64 0, .slice none 0 0] 34)).heap[w.heap.size + 1]? = some (.cells #[.int .i64 0, .int .i64 0, .int .i64 0, .int .i64 0, .int .i64 0, .int .i64 0, .int .i64 0, .bool false, .slice none 0 0, .int .i64 0, .int .i64 0, .int .i64 0, .slice none 0 0, .int .i64 0, .int .i64 0, .int .i64 0, .slice none 0 0] 34) := by have := heap_alloc_new (w.alloc (.cells #[.int .i64 0, .int .i64 0, .int .i64 0, .int .i64 0, .int .i64 0, .int .i64 0, .int .i64 0, .bool false, .slice none 0 0, .int .i64 0, .int .i64 0, .int .i64 0, .slice none 0 0, .int .i64 0, .int .i64 0, .int .i64 0, .slice none 0 0] 34)) (.cells #[.int .i64 0, .int .i64 0, .int .i64 0, .int .i64 0, .int .i64 0, .int .i64 0, .int .i64 0, .bool false, .slice none 0 0, .int .i64 0, .int .i64 0, .int .i64 0, .slice none 0 0, .int .i64 0, .int .i64 0, .int .i64 0, .slice none 0 0] 34); rw [hsz0] at this; exact this
  have hsz1 : ((w.alloc (.cells #[.int .i64 0, .int .i64 0, .int .i64 0, .int .i64 0, .int .i64 0, .int .i64 0, .int .i64 0, .bool false, .slice none 0 0, .int .i64 0, .int .i64 0, .int .i64 0, .slice none 0 0, .int .i64 0, .int .i64 0, .int .i64 0, .slice none 0 0] 34)).alloc (.cells #[.int .i64 0, .int .i64 0, .int .i64 0, .int .i64 0, .int .i64 0, .int .i64 0, .int .i64 0, .bool false, .slice none 0 0, .int .i64 0, .int .i64 0, .int .i64 0, .slice none 0 0, .int .i64 0, .int .i64 0, .int .i64 0, .slice none 0 0] 34)).heap.size = w.heap.size + 2 := by simp
  have HC0 := hide (small_d (h.below hal))
  rw [hk, hs0] at HC0
  obtain ⟨w2, hw2⟩ : ∃ y, ((w.alloc (.cells #[.int .i64 0, .int .i64 0, .int .i64 0, .int .i64 0, .int .i64 0, .int .i64 0, .int .i64 0, .bool false, .slice none 0 0, .int .i64 0, .int .i64 0, .int .i64 0, .slice none 0 0, .int .i64 0, .int .i64 0, .int .i64 0, .slice none 0 0] 34)).alloc (.cells #[.int .i64 0, .int .i64 0, .int .i64 0, .int .i64 0, .int .i64 0, .int .i64 0, .int .i64 0, .bool false, .slice none 0 0, .int .i64 0, .int .i64 0, .int .i64 0, .slice none 0 0, .int .i64 0, .int .i64 0, .int .i64 0, .slice none 0 0] 34)) = y := ⟨_, rfl⟩
  rw [hw2] at hal hz0 ht0 hsz1 HC0
  have HJ0 : Hid (GJ w R lo ZB #[.int .i64 0, .int .i64 0, .int .i64 0, .int .i64 0, .int .i64 0, .int .i64 0, .int .i64 0, .bool false, .slice none 0 0, .int .i64 0, .int .i64 0, .int .i64 0, .slice none 0 0, .int .i64 0, .int .i64 0, .int .i64 0, .slice none 0 0] s w2) := ⟨ht0, hz0, h.below hal, But.of hal, by omega⟩
  have HE1 := hide e1
  clear h hal hz0 hsz0 ht0 hsz1 et hk hs0 e1 e2 e3
  go_enter Tryz.func53, Tryz.ntmps53
  go_wp2_with (rw [hw2])
  refine (unhide HC0).mono ?_
  rintro e y0 ⟨rfl, p, q⟩
  have j1 := (unhide HJ0).call hr p q
  have k0 : y0.cell? ⟨w.heap.size + 1, 0, none⟩ = some (.int .i64 0) := cell_of_heap j1.t
  have f0 : ∀ o, y0.frozen? ⟨w.heap.size + 1, o, none⟩ = false := fun o => frozen_of_heap j1.t
  have j2 := j1.set hr 0 (.int .i64 0) (cs' := #[.int .i64 0, .int .i64 0, .int .i64 0, .int .i64 0, .int .i64 0, .int .i64 0, .int .i64 0, .bool false, .slice none 0 0, .int .i64 0, .int .i64 0, .int .i64 0, .slice none 0 0, .int .i64 0, .int .i64 0, .int .i64 0, .slice none 0 0]) rfl
  obtain ⟨z0, hz0⟩ : ∃ y, y0.setCell ⟨w.heap.size + 1, 0, none⟩ (.int .i64 0) = y := ⟨_, rfl⟩
  rw [hz0] at j2
  have kk0 : z0.cell? ⟨w.heap.size + 1, 0, none⟩ = some (.int .i64 0) := cell_of_heap j2.t
  have ke0 := j2.rd.ce
  have HJ1 := hide j2
  have HC1 := hide (small_d j2.rd)
  rw [unhide HE1] at HC1
  simp only at HC1
  have hxb : (s0.er == 0) = false := by simpa using hx
  clear p q j1 j2 HC0 HJ0
  go_wp2_with (rw [hz0])
  refine (unhide HC1).mono ?_
  rintro e y1 ⟨rfl, p, q⟩
  have j1 := (unhide HJ1).call hr p q
  have k1_1 : y1.cell? ⟨w.heap.size + 1, 1, none⟩ = some (.int .i64 0) := cell_of_heap j1.t
  have f1 : ∀ o, y1.frozen? ⟨w.heap.size + 1, o, none⟩ = false := fun o => frozen_of_heap j1.t
  have j2 := (j1.set hr 1 (.int .i64 v1) (cs' := #[.int .i64 0, .int .i64 v1, .int .i64 0, .int .i64 0, .int .i64 0, .int .i64 0, .int .i64 0, .bool false, .slice none 0 0, .int .i64 0, .int .i64 0, .int .i64 0, .slice none 0 0, .int .i64 0, .int .i64 0, .int .i64 0, .slice none 0 0]) rfl)
  obtain ⟨z1, hz1⟩ : ∃ y, (y1.setCell ⟨w.heap.size + 1, 1, none⟩ (.int .i64 v1)) = y := ⟨_, rfl⟩
  rw [hz1] at j2
  have kk1 : z1.cell? ⟨w.heap.size + 1, 0, none⟩ = some (.int .i64 0) := cell_of_heap j2.t
  have HJ2 := hide j2
  have HC2 := hide (small_d j2.rd)
  rw [unhide HE2] at HC2
  simp only at HC2
  clear p q j1 j2 HC1 HJ1
  go_wp2_with (rw [hz1])
  refine (unhide HC2).mono ?_
  rintro e y2 ⟨rfl, p, q⟩
  have j1 := (unhide HJ2).call hr p q
  have k2_2 : y2.cell? ⟨w.heap.size + 1, 2, none⟩ = some (.int .i64 0) := cell_of_heap j1.t
  have f2 : ∀ o, y2.frozen? ⟨w.heap.size + 1, o, none⟩ = false := fun o => frozen_of_heap j1.t
  have j2 := (j1.set hr 2 (.int .i64 v2) (cs' := #[.int .i64 0, .int .i64 v1, .int .i64 v2, .int .i64 0, .int .i64 0, .int .i64 0, .int .i64 0, .bool false, .slice none 0 0, .int .i64 0, .int .i64 0, .int .i64 0, .slice none 0 0, .int .i64 0, .int .i64 0, .int .i64 0, .slice none 0 0]) rfl)
  obtain ⟨z2, hz2⟩ : ∃ y, (y2.setCell ⟨w.heap.size + 1, 2, none⟩ (.int .i64 v2)) = y := ⟨_, rfl⟩
  rw [hz2] at j2
  have kk2 : z2.cell? ⟨w.heap.size + 1, 0, none⟩ = some (.int .i64 0) := cell_of_heap j2.t
  have HJ3 := hide j2
  have HC3 := hide (num_d j2.rd)
  rw [unhide HE3] at HC3
  simp only at HC3
  clear p q j1 j2 HC2 HJ2
  go_wp2_with (rw [hz2])
  refine (unhide HC3).mono ?_
  rintro e y3 ⟨rfl, p, q⟩
  have j1 := (unhide HJ3).call hr p q
  have k3_3 : y3.cell? ⟨w.heap.size + 1, 3, none⟩ = some (.int .i64 0) := cell_of_heap j1.t
  have f3 : ∀ o, y3.frozen? ⟨w.heap.size + 1, o, none⟩ = false := fun o => frozen_of_heap j1.t
  have j2 := (j1.set hr 3 (.int .i64 v3) (cs' := #[.int .i64 0, .int .i64 v1, .int .i64 v2, .int .i64 v3, .int .i64 0, .int .i64 0, .int .i64 0, .bool false, .slice none 0 0, .int .i64 0, .int .i64 0, .int .i64 0, .slice none 0 0, .int .i64 0, .int .i64 0, .int .i64 0, .slice none 0 0]) rfl)
  obtain ⟨z3, hz3⟩ : ∃ y, (y3.setCell ⟨w.heap.size + 1, 3, none⟩ (.int .i64 v3)) = y := ⟨_, rfl⟩
  rw [hz3] at j2
  have kk3 : z3.cell? ⟨w.heap.size + 1, 0, none⟩ = some (.int .i64 0) := cell_of_heap j2.t
  have HX9 := hide j2.t
  have HZ9 := hide j2.z
  have HF9 : Hid (∀ cr, OwnM w.heap.size (z3.setRow w.heap.size cr) #[.int .i64 0, .int .i64 v1, .int .i64 v2, .int .i64 v3, .int .i64 0, .int .i64 0, .int .i64 0, .bool false, .slice none 0 0, .int .i64 0, .int .i64 0, .int .i64 0, .slice none 0 0, .int .i64 0, .int .i64 0, .int .i64 0, .slice none 0 0] ⟨0, v1, v2, v3, 0, 0, 0, false, [], ⟨0, 0, 0, []⟩, ⟨0, 0, 0, []⟩⟩ ∧ Dr (z3.setRow w.heap.size cr) R lo ZB t3 ∧ But R w (z3.setRow w.heap.size cr)) := fun cr => ⟨⟨_, _, _, rfl, OwnTms.nil _ _, OwnTs.nil _ _, World.ownsRow_nil _ _ _ _⟩, j2.fin hr cr⟩
  clear p q j1 j2 HC3 HJ3
  go_wp2_with (first | rw [hz3] | refine wpList_load_row rfl 34 _ rfl (w.heap.size + 1) rfl 34 _ (0, 0) _ (unhide HX9) Tryz.underlying34 rfl (by kernel_rfl) ?_ | refine wpList_store_row rfl 34 _ _ rfl w.heap.size _ _ rfl rfl 34 (unhide HZ9) (by kernel_rfl) rfl (by first | kernel_rfl | simp [Value.oneCell']) ?_)
  refine bodyPost_ret (results_cell_row rfl _ _ w.heap.size 34 #[.int .i64 0, .int .i64 v1, .int .i64 v2, .int .i64 v3, .int .i64 0, .int .i64 0, .int .i64 0, .bool false, .slice none 0 0, .int .i64 0, .int .i64 0, .int .i64 0, .slice none 0 0, .int .i64 0, .int .i64 0, .int .i64 0, .slice none 0 0] (0, 0) _ rfl (setRow_heap _ _ _ _ _ _ (unhide HZ9)) Tryz.underlying34 rfl (by kernel_rfl)) rfl ?_
  exact ⟨_, rfl, unhide HF9 _⟩

set_option maxHeartbeats 1600000 in
theorem msg_d0y {w : World} {R lo : Nat} {ZB : List Int} {s : RS} {k : Int} (h : Dr w R lo ZB s) (hk : s.small.1 = k) (hx : s.small.2.er = 0) (h16 : k < 1 ∨ 6 < k) :
    Calls Tryz.prog 53 #[.pointer (some ⟨R, 0, none⟩)] w fun e w' => ∃ cs, e = .returned (.agg cs) ∧ OwnM w.heap.size w' cs (RS.dm0 k ⟨s.small.2.zs, 40, s.small.2.un⟩).1 ∧ Dr w' R lo ZB (RS.dm0 k ⟨s.small.2.zs, 40, s.small.2.un⟩).2 ∧ But R w w' := by
  have hr := h.rlt
  obtain ⟨s0, hs0⟩ : ∃ x, s.small.2 = x := ⟨_, rfl⟩
  rw [hs0] at hx
  rw [hs0]
  obtain ⟨s9, hs9⟩ : ∃ x : RS, (⟨s0.zs, 40, s0.un⟩ : RS) = x := ⟨_, rfl⟩
  rw [hs9]
  obtain ⟨v1, t1, e1⟩ : ∃ n s', s9.small = (n, s') := ⟨_, _, rfl⟩
  obtain ⟨v2, t2, e2⟩ : ∃ n s', t1.small = (n, s') := ⟨_, _, rfl⟩
  obtain ⟨v3, t3, e3⟩ : ∃ n s', t2.num = (n, s') := ⟨_, _, rfl⟩
  have et : RS.dm0 k s9 = (⟨k, v1, v2, v3, 0, 0, 0, false, [], ⟨0, 0, 0, []⟩, ⟨0, 0, 0, []⟩⟩, t3) := by simp only [RS.dm0, e1, e2, e3]
  rw [et]
  simp only
  have HE2 := hide e2
  have HE3 := hide e3
  have hal : Below w.heap.size w ((w.alloc (.cells #[.int .i64 0, .int .i64 0, .int .i64 0, .int .i64 0, .int .i64 0, .int .i64 0, .int .i64 0, .bool false, .slice none 0 0, .int .i64 0, .int .i64 0, .int .i64 0, .slice none 0 0, .int .i64 0, .int .i64 0, .int .i64 0, .slice none 0 0] 34)).alloc (.cells #[.int .i64 0, .int .i64 0, .int .i64 0, .int .i64 0, .int .i64 0, .int .i64 0, .int .i64 0, .bool false, .slice none 0 0, .int .i64 0, .int .i64 0, .int .i64 0, .slice none 0 0, .int .i64 0, .int .i64 0, .int .i64 0, .slice none 0 0] 34)) := ((Below.refl _ _).alloc (Nat.le_refl _) _).alloc (by simp) _
  have hz0 : ((w.alloc (.cells #[.int .i64 0, .int .i64 0, .int .i64 0, .int .i64 0, .int .i64 0, .int .i64 0, .int .i64 0, .bool false, .slice none 0 0, .int .i64 0, .int .i64 0, .int .i64 0, .slice none 0 0, .int .i64 0, .int .i64 0, .int .i64 0, .slice none 0 0] 34)).alloc (.cells #[.int .i64 0, .int .i64 0, .int .i64 0, .int .i64 0, .int .i64 0, .int .i64 0, .int .i64 0, .bool false, .slice none 0 0, .int .i64 0, .int .i64 0, .int .i64 0, .slice none 0 0, .int .i64 0, .int .i64 0, .int .i64 0, .slice none 0 0] 34)).heap[w.heap.size]? = some (.cells #[.int .i64 0, .int .i64 0, .int .i64 0, .int .i64 0, .int .i64 0, .int .i64 0, .int .i64 0, .bool false, .slice none 0 0, .int .i64 0, .int .i64 0, .int .i64 0, .slice none 0 0, .int .i64 0, .int .i64 0, .int .i64 0, .slice none 0 0] 34) := (Below.heap_alloc _ _ _ (by simp)).trans (heap_alloc_new w _)
  have hsz0 : (w.alloc (.cells #[.int .i64 0, .int .i64 0, .int .i64 0, .int .i64 0, .int .i64 0, .int .i64 0, .int .i64 0, .bool false, .slice none 0 0, .int .i64 0, .int .i64 0, .int .i64 0, .slice none 0 0, .int .i64 0, .int .i64 0, .int .i64 0, .slice none 0 0] 34)).heap.size = w.heap.size + 1 := by simp
  have ht0 : ((w.alloc (.cells #[.int .i64 0, .int .i64 0, .int .i64 0, .int .i64 0, .int .i64 0, .int .i64 0, .int .i64 0, .bool false, .slice none 0 0, .int .i64 0, .int .i64 0, .int .i64 0, .slice none 0 0, .int .i64 0, .int .i64 0, .int .i64 0, .slice none 0 0] 34)).alloc (.cells #[.int .i64 0, .int .i64 0, .int .i64 0, .int .i64 0, .int .i64 0, .int .i64 0, .int .i64 0, .bool false, .slice none 0 0, .int .i64 0, .int .i64 0, .int .i64 0, .slice none 0 0, .int .i64 0, .int .i64 0, .int .i64 0, .slice none 0 0] 34)).heap[w.heap.size + 1]? = some (.cells #[.int .i64 0, .int .i64 0, .int .i64 0, .int .i64 0, .int .i64 0, .int .i64 0, .int .i64 0, .bool false, .slice none 0 0, .int .i64 0, .int .i64 0, .int .i64 0, .slice none 0 0, .int .i64 0, .int .i64 0, .int .i64 0, .slice none 0 0] 34) := by have := heap_alloc_new (w.alloc (.cells #[.int .i64 0, .int .i64 0, .int .i64 0, .int .i64 0, .int .i64 0, .int .i64 0, .int .i64 0, .bool false, .slice none 0 0, .int .i64 0, .int .i64 0, .int .i64 0, .slice none 0 0, .int .i64 0, .int .i64 0, .int .i64 0, .slice none 0 0] 34)) (.cells #[.int .i64 0, .int .i64 0, .int .i64 0, .int .i64 0, .int .i64 0, .int .i64 0, .int .i64 0, .bool false, .slice none 0 0, .int .i64 0, .int .i64 0, .int .i64 0, .slice none 0 0, .int .i64 0, .int .i64 0, .int .i64 0, .slice none 0 0] 34); rw [hsz0] at this; exact this
  have hsz1 : ((w.alloc (.cells #[.int .i64 0, .int .i64 0, .int .i64 0, .int .i64 0, .int .i64 0, .int .i64 0, .int .i64 0, .bool false, .slice none 0 0, .int .i64 0, .int .i64 0, .int .i64 0, .slice none 0 0, .int .i64 0, .int .i64 0, .int .i64 0, .slice none 0 0] 34)).alloc (.cells #[.int .i64 0, .int .i64 0, .int .i64 0, .int .i64 0, .int .i64 0, .int .i64 0, .int .i64 0, .bool false, .slice none 0 0, .int .i64 0, .int .i64 0, .int .i64 0, .slice none 0 0, .int .i64 0, .int .i64 0, .int .i64 0, .slice none 0 0] 34)).heap.size = w.heap.size + 2 := by simp
  have HC0 := hide (small_d (h.below hal))
  rw [hk, hs0] at HC0
  obtain ⟨w2, hw2⟩ : ∃ y, ((w.alloc (.cells #[.int .i64 0, .int .i64 0, .int .i64 0, .int .i64 0, .int .i64 0, .int .i64 0, .int .i64 0, .bool false, .slice none 0 0, .int .i64 0, .int .i64 0, .int .i64 0, .slice none 0 0, .int .i64 0, .int .i64 0, .int .i64 0, .slice none 0 0] 34)).alloc (.cells #[.int .i64 0, .int .i64 0, .int .i64 0, .int .i64 0, .int .i64 0, .int .i64 0, .int .i64 0, .bool false, .slice none 0 0, .int .i64 0, .int .i64 0, .int .i64 0, .slice none 0 0, .int .i64 0, .int .i64 0, .int .i64 0, .slice none 0 0] 34)) = y := ⟨_, rfl⟩
  rw [hw2] at hal hz0 ht0 hsz1 HC0
  have HJ0 : Hid (GJ w R lo ZB #[.int .i64 0, .int .i64 0, .int .i64 0, .int .i64 0, .int .i64 0, .int .i64 0, .int .i64 0, .bool false, .slice none 0 0, .int .i64 0, .int .i64 0, .int .i64 0, .slice none 0 0, .int .i64 0, .int .i64 0, .int .i64 0, .slice none 0 0] s w2) := ⟨ht0, hz0, h.below hal, But.of hal, by omega⟩
  have HE1 := hide e1
  clear h hal hz0 hsz0 ht0 hsz1 et hk hs0 e1 e2 e3
  go_enter Tryz.func53, Tryz.ntmps53
  go_wp2_with (rw [hw2])
  refine (unhide HC0).mono ?_
  rintro e y0 ⟨rfl, p, q⟩
  have j1 := (unhide HJ0).call hr p q
  have k0 : y0.cell? ⟨w.heap.size + 1, 0, none⟩ = some (.int .i64 0) := cell_of_heap j1.t
  have f0 : ∀ o, y0.frozen? ⟨w.heap.size + 1, o, none⟩ = false := fun o => frozen_of_heap j1.t
  have j2 := j1.set hr 0 (.int .i64 k) (cs' := #[.int .i64 k, .int .i64 0, .int .i64 0, .int .i64 0, .int .i64 0, .int .i64 0, .int .i64 0, .bool false, .slice none 0 0, .int .i64 0, .int .i64 0, .int .i64 0, .slice none 0 0, .int .i64 0, .int .i64 0, .int .i64 0, .slice none 0 0]) rfl
  obtain ⟨z0, hz0⟩ : ∃ y, y0.setCell ⟨w.heap.size + 1, 0, none⟩ (.int .i64 k) = y := ⟨_, rfl⟩
  rw [hz0] at j2
  have kk0 : z0.cell? ⟨w.heap.size + 1, 0, none⟩ = some (.int .i64 k) := cell_of_heap j2.t
  have ke0 := j2.rd.ce
  rw [hx] at ke0
  have HF := hide (fail_d j2.rd 40 hx)
  have j3 : GJ w R lo ZB #[.int .i64 k, .int .i64 0, .int .i64 0, .int .i64 0, .int .i64 0, .int .i64 0, .int .i64 0, .bool false, .slice none 0 0, .int .i64 0, .int .i64 0, .int .i64 0, .slice none 0 0, .int .i64 0, .int .i64 0, .int .i64 0, .slice none 0 0] s9 (z0.setCell ⟨R, 2, none⟩ (.int .i64 40)) := hs9 ▸ j2.call hr j2.rd.err ((But.refl _ _).set 2 _)
  obtain ⟨z9, hz9⟩ : ∃ y, z0.setCell ⟨R, 2, none⟩ (.int .i64 40) = y := ⟨_, rfl⟩
  rw [hz9] at j3 HF
  have kk9 : z9.cell? ⟨w.heap.size + 1, 0, none⟩ = some (.int .i64 k) := cell_of_heap j3.t
  have HJ1 := hide j3
  have HC1 := hide (small_d j3.rd)
  rw [unhide HE1] at HC1
  simp only at HC1
  clear p q j1 j2 j3 HC0 HJ0 hs9
  have h6b : (k == 6) = false := by simp; omega
  have h2b : (k == 2) = false := by simp; omega
  have h4b : (k == 4) = false := by simp; omega
  have h1b : (k == 1) = false := by simp; omega
  have h3b : (k == 3) = false := by simp; omega
  have h5b : (k == 5) = false := by simp; omega
  by_cases h1 : k < 1
  all_goals (
    first | (have h6 : ¬ 6 < k := by omega) | (have h6 : 6 < k := by omega)
    go_wp2_with (rw [hz0])
    refine (unhide HF).mono ?_
    rintro e zz ⟨rfl, rfl⟩
    go_wp2_with fail
    refine (unhide HC1).mono ?_
    rintro e y1 ⟨rfl, p, q⟩
    have j1 := (unhide HJ1).call hr p q
    have k1_1 : y1.cell? ⟨w.heap.size + 1, 1, none⟩ = some (.int .i64 0) := cell_of_heap j1.t
    have f1 : ∀ o, y1.frozen? ⟨w.heap.size + 1, o, none⟩ = false := fun o => frozen_of_heap j1.t
    have j2 := (j1.set hr 1 (.int .i64 v1) (cs' := #[.int .i64 k, .int .i64 v1, .int .i64 0, .int .i64 0, .int .i64 0, .int .i64 0, .int .i64 0, .bool false, .slice none 0 0, .int .i64 0, .int .i64 0, .int .i64 0, .slice none 0 0, .int .i64 0, .int .i64 0, .int .i64 0, .slice none 0 0]) rfl)
    obtain ⟨z1, hz1⟩ : ∃ y, (y1.setCell ⟨w.heap.size + 1, 1, none⟩ (.int .i64 v1)) = y := ⟨_, rfl⟩
    rw [hz1] at j2
    have kk1 : z1.cell? ⟨w.heap.size + 1, 0, none⟩ = some (.int .i64 k) := cell_of_heap j2.t
    have HJ2 := hide j2
    have HC2 := hide (small_d j2.rd)
    rw [unhide HE2] at HC2
    simp only at HC2
    clear p q j1 j2 HC1 HJ1
    go_wp2_with (rw [hz1])
    refine (unhide HC2).mono ?_
    rintro e y2 ⟨rfl, p, q⟩
    have j1 := (unhide HJ2).call hr p q
    have k2_2 : y2.cell? ⟨w.heap.size + 1, 2, none⟩ = some (.int .i64 0) := cell_of_heap j1.t
    have f2 : ∀ o, y2.frozen? ⟨w.heap.size + 1, o, none⟩ = false := fun o => frozen_of_heap j1.t
    have j2 := (j1.set hr 2 (.int .i64 v2) (cs' := #[.int .i64 k, .int .i64 v1, .int .i64 v2, .int .i64 0, .int .i64 0, .int .i64 0, .int .i64 0, .bool false, .slice none 0 0, .int .i64 0, .int .i64 0, .int .i64 0, .slice none 0 0, .int .i64 0, .int .i64 0, .int .i64 0, .slice none 0 0]) rfl)
    obtain ⟨z2, hz2⟩ : ∃ y, (y2.setCell ⟨w.heap.size + 1, 2, none⟩ (.int .i64 v2)) = y := ⟨_, rfl⟩
    rw [hz2] at j2
    have kk2 : z2.cell? ⟨w.heap.size + 1, 0, none⟩ = some (.int .i64 k) := cell_of_heap j2.t
    have HJ3 := hide j2
    have HC3 := hide (num_d j2.rd)
    rw [unhide HE3] at HC3
    simp only at HC3
    clear p q j1 j2 HC2 HJ2
    go_wp2_with (rw [hz2])
    refine (unhide HC3).mono ?_
    rintro e y3 ⟨rfl, p, q⟩
    have j1 := (unhide HJ3).call hr p q
    have k3_3 : y3.cell? ⟨w.heap.size + 1, 3, none⟩ = some (.int .i64 0) := cell_of_heap j1.t
    have f3 : ∀ o, y3.frozen? ⟨w.heap.size + 1, o, none⟩ = false := fun o => frozen_of_heap j1.t
    have j2 := (j1.set hr 3 (.int .i64 v3) (cs' := #[.int .i64 k, .int .i64 v1, .int .i64 v2, .int .i64 v3, .int .i64 0, .int .i64 0, .int .i64 0, .bool false, .slice none 0 0, .int .i64 0, .int .i64 0, .int .i64 0, .slice none 0 0, .int .i64 0, .int .i64 0, .int .i64 0, .slice none 0 0]) rfl)
    obtain ⟨z3, hz3⟩ : ∃ y, (y3.setCell ⟨w.heap.size + 1, 3, none⟩ (.int .i64 v3)) = y := ⟨_, rfl⟩
    rw [hz3] at j2
    have kk3 : z3.cell? ⟨w.heap.size + 1, 0, none⟩ = some (.int .i64 k) := cell_of_heap j2.t
    have HX9 := hide j2.t
    have HZ9 := hide j2.z
    have HF9 : Hid (∀ cr, OwnM w.heap.size (z3.setRow w.heap.size cr) #[.int .i64 k, .int .i64 v1, .int .i64 v2, .int .i64 v3, .int .i64 0, .int .i64 0, .int .i64 0, .bool false, .slice none 0 0, .int .i64 0, .int .i64 0, .int .i64 0, .slice none 0 0, .int .i64 0, .int .i64 0, .int .i64 0, .slice none 0 0] ⟨k, v1, v2, v3, 0, 0, 0, false, [], ⟨0, 0, 0, []⟩, ⟨0, 0, 0, []⟩⟩ ∧ Dr (z3.setRow w.heap.size cr) R lo ZB t3 ∧ But R w (z3.setRow w.heap.size cr)) := fun cr => ⟨⟨_, _, _, rfl, OwnTms.nil _ _, OwnTs.nil _ _, World.ownsRow_nil _ _ _ _⟩, j2.fin hr cr⟩
    clear p q j1 j2 HC3 HJ3
    go_wp2_with (first | rw [hz3] | refine wpList_load_row rfl 34 _ rfl (w.heap.size + 1) rfl 34 _ (0, 0) _ (unhide HX9) Tryz.underlying34 rfl (by kernel_rfl) ?_ | refine wpList_store_row rfl 34 _ _ rfl w.heap.size _ _ rfl rfl 34 (unhide HZ9) (by kernel_rfl) rfl (by first | kernel_rfl | simp [Value.oneCell']) ?_)
    refine bodyPost_ret (results_cell_row rfl _ _ w.heap.size 34 #[.int .i64 k, .int .i64 v1, .int .i64 v2, .int .i64 v3, .int .i64 0, .int .i64 0, .int .i64 0, .bool false, .slice none 0 0, .int .i64 0, .int .i64 0, .int .i64 0, .slice none 0 0, .int .i64 0, .int .i64 0, .int .i64 0, .slice none 0 0] (0, 0) _ rfl (setRow_heap _ _ _ _ _ _ (unhide HZ9)) Tryz.underlying34 rfl (by kernel_rfl)) rfl ?_
    exact ⟨_, rfl, unhide HF9 _⟩)
end Go.Proofs.YtggllgimlfchhaaGreat
