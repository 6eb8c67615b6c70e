/- Record: the document's reader: parts and lists of termed entries. -/
import Derived.Test.YtggllgimlfchhaaGreatGF
import Derived.Test.YtggllgimlfchhaaGreatEC
namespace Go.Proofs.YtggllgimlfchhaaGreat
open Go.RowKit
set_option maxRecDepth 100000

/-- Where a part that is read stands. -/
structure PJ (w : World) (R lo : Nat) (ZB : List Int) (a b c : Int) (s : RS) (wr : World) : Prop where
  t : wr.heap[w.heap.size + 1]? = some (.cells #[.int .i64 a, .int .i64 b, .int .i64 c, .slice none 0 0] 32)
  z : wr.heap[w.heap.size]? = some (.cells #[.int .i64 0, .int .i64 0, .int .i64 0, .slice none 0 0] 32)
  rd : Dr wr R lo ZB s
  but : But R w wr
  size : w.heap.size + 2 ≤ wr.heap.size
theorem PJ.call {w : World} {R lo : Nat} {ZB : List Int} {a b c : Int} {s s' : RS} {wr y : World} (h : PJ w R lo ZB a b c s wr) (hR : R < w.heap.size) (hd : Dr y R lo ZB s') (hb : But R wr y) : PJ w R lo ZB a b c s' y :=
  ⟨hb.same h.t (by omega), hb.same h.z (by omega), hd, h.but.trans hb, Nat.le_trans h.size hb.size⟩
theorem PJ.set {w : World} {R lo : Nat} {ZB : List Int} {a b c a' b' c' : Int} {s : RS} {wr : World} (h : PJ w R lo ZB a b c s wr) (hR : R < w.heap.size) (o : Nat) (v : Value) (he : (#[.int .i64 a, .int .i64 b, .int .i64 c, .slice none 0 0] : Array Value).setIfInBounds o v = #[.int .i64 a', .int .i64 b', .int .i64 c', .slice none 0 0]) : PJ w R lo ZB a' b' c' s (wr.setCell ⟨w.heap.size + 1, o, none⟩ v) :=
  ⟨by rw [← he]; exact setCell_heap h.t, (Below.heap_setCell _ _ _ _ (fun e => by simp only at e; omega)).trans h.z, h.rd.other (by omega) o _, h.but.new (b := w.heap.size + 1) (by omega) o _, by simp only [World.setCell, Array.size_modify]; exact h.size⟩
def RS.dpart (s : RS) : PtD × RS := (⟨s.num.1, s.num.2.small.1, s.num.2.small.2.small.1, s.num.2.small.2.small.2.blob.1⟩, s.num.2.small.2.small.2.blob.2)

set_option maxHeartbeats 1600000 in
theorem part_d {w : World} {R lo : Nat} {ZB : List Int} {s : RS} (h : Dr w R lo ZB s) :
    Calls Tryz.prog 103 #[.pointer (some ⟨R, 0, none⟩)] w fun e w' => ∃ dv, e = .returned (.agg #[.int .i64 s.dpart.1.slot, .int .i64 s.dpart.1.idx, .int .i64 s.dpart.1.many, dv]) ∧ w'.ownsRow w.heap.size 5 1 dv s.dpart.1.data.length (ints .u8 s.dpart.1.data) ∧ Dr w' R lo ZB s.dpart.2 ∧ But R w w' := by
  have hr := h.rlt
  obtain ⟨a, s1, e1⟩ : ∃ n s', s.num = (n, s') := ⟨_, _, rfl⟩
  obtain ⟨b, s2, e2⟩ : ∃ n s', s1.small = (n, s') := ⟨_, _, rfl⟩
  obtain ⟨c, s3, e3⟩ : ∃ n s', s2.small = (n, s') := ⟨_, _, rfl⟩
  obtain ⟨l, s4, e4⟩ : ∃ n s', s3.blob = (n, s') := ⟨_, _, rfl⟩
  have et : s.dpart = (⟨a, b, c, l⟩, s4) := by simp only [RS.dpart, e1, e2, e3, e4]
  rw [et]
  simp only
  have HE2 := hide e2
  have HE3 := hide e3
  have HE4 := hide e4
  have hal : Below w.heap.size w ((w.alloc (.cells #[.int .i64 0, .int .i64 0, .int .i64 0, .slice none 0 0] 32)).alloc (.cells #[.int .i64 0, .int .i64 0, .int .i64 0, .slice none 0 0] 32)) := ((Below.refl _ _).alloc (Nat.le_refl _) _).alloc (by simp) _
  have hz0 : ((w.alloc (.cells #[.int .i64 0, .int .i64 0, .int .i64 0, .slice none 0 0] 32)).alloc (.cells #[.int .i64 0, .int .i64 0, .int .i64 0, .slice none 0 0] 32)).heap[w.heap.size]? = some (.cells #[.int .i64 0, .int .i64 0, .int .i64 0, .slice none 0 0] 32) := (Below.heap_alloc _ _ _ (by simp)).trans (heap_alloc_new w _)
  have hs0 : (w.alloc (.cells #[.int .i64 0, .int .i64 0, .int .i64 0, .slice none 0 0] 32)).heap.size = w.heap.size + 1 := by simp
  have ht0 : ((w.alloc (.cells #[.int .i64 0, .int .i64 0, .int .i64 0, .slice none 0 0] 32)).alloc (.cells #[.int .i64 0, .int .i64 0, .int .i64 0, .slice none 0 0] 32)).heap[w.heap.size + 1]? = some (.cells #[.int .i64 0, .int .i64 0, .int .i64 0, .slice none 0 0] 32) := by have := heap_alloc_new (w.alloc (.cells #[.int .i64 0, .int .i64 0, .int .i64 0, .slice none 0 0] 32)) (.cells #[.int .i64 0, .int .i64 0, .int .i64 0, .slice none 0 0] 32); rw [hs0] at this; exact this
  have hs1 : ((w.alloc (.cells #[.int .i64 0, .int .i64 0, .int .i64 0, .slice none 0 0] 32)).alloc (.cells #[.int .i64 0, .int .i64 0, .int .i64 0, .slice none 0 0] 32)).heap.size = w.heap.size + 2 := by simp
  have HC0 := hide (num_d (h.below hal))
  rw [e1] at HC0
  simp only at HC0
  obtain ⟨w2, hw2⟩ : ∃ y, ((w.alloc (.cells #[.int .i64 0, .int .i64 0, .int .i64 0, .slice none 0 0] 32)).alloc (.cells #[.int .i64 0, .int .i64 0, .int .i64 0, .slice none 0 0] 32)) = y := ⟨_, rfl⟩
  rw [hw2] at hal hz0 ht0 hs1 HC0
  have HJ0 : Hid (PJ w R lo ZB 0 0 0 s w2) := ⟨ht0, hz0, h.below hal, But.of hal, by omega⟩
  clear h hal hz0 hs0 ht0 hs1 e1 e2 e3 e4 et
  go_enter Tryz.func103, Tryz.ntmps103
  go_wp2_with (rw [hw2])
  refine (unhide HC0).mono ?_
  rintro e y1 ⟨rfl, p, q⟩
  have j1 := (unhide HJ0).call hr p q
  have k0 : y1.cell? ⟨w.heap.size + 1, 0, none⟩ = some (.int .i64 0) := cell_of_heap j1.t
  have f0 : ∀ o, y1.frozen? ⟨w.heap.size + 1, o, none⟩ = false := fun o => frozen_of_heap j1.t
  have j2 := j1.set hr 0 (.int .i64 a) (a' := a) (b' := 0) (c' := 0) rfl
  have HJ1 := hide j2
  have HC1 := hide (small_d j2.rd)
  rw [unhide HE2] at HC1
  simp only at HC1
  clear p q j1 j2 HC0 HJ0
  go_wp2_with fail
  refine (unhide HC1).mono ?_
  rintro e y2 ⟨rfl, p, q⟩
  have j1 := (unhide HJ1).call hr p q
  have k1 : y2.cell? ⟨w.heap.size + 1, 1, none⟩ = some (.int .i64 0) := cell_of_heap j1.t
  have f1 : ∀ o, y2.frozen? ⟨w.heap.size + 1, o, none⟩ = false := fun o => frozen_of_heap j1.t
  have j2 := j1.set hr 1 (.int .i64 b) (a' := a) (b' := b) (c' := 0) rfl
  have HJ2 := hide j2
  have HC2 := hide (small_d j2.rd)
  rw [unhide HE3] at HC2
  simp only at HC2
  clear p q j1 j2 HC1 HJ1
  go_wp2_with fail
  refine (unhide HC2).mono ?_
  rintro e y3 ⟨rfl, p, q⟩
  have j1 := (unhide HJ2).call hr p q
  have k2 : y3.cell? ⟨w.heap.size + 1, 2, none⟩ = some (.int .i64 0) := cell_of_heap j1.t
  have f2 : ∀ o, y3.frozen? ⟨w.heap.size + 1, o, none⟩ = false := fun o => frozen_of_heap j1.t
  have j2 := j1.set hr 2 (.int .i64 c) (a' := a) (b' := b) (c' := c) rfl
  have HJ3 := hide j2
  have HC3 := hide (data_d j2.rd)
  rw [unhide HE4] at HC3
  simp only at HC3
  clear p q j1 j2 HC2 HJ2
  go_wp2_with fail
  refine (unhide HC3).mono ?_
  rintro e y4 ⟨dv, rfl, ot, p, q⟩
  have ot2 := own_mono ot (unhide HJ3).size
  obtain ⟨ta, tc, rfl⟩ := own_shape ot
  obtain ⟨tl, htl⟩ : ∃ n, l.length = n := ⟨_, rfl⟩
  rw [htl] at ot2
  rw [htl]
  have HTL := hide htl
  have j1 := (unhide HJ3).call hr p q
  have k3 : y4.cell? ⟨w.heap.size + 1, 3, none⟩ = some (.slice none 0 0) := cell_of_heap j1.t
  have f3 : ∀ o, y4.frozen? ⟨w.heap.size + 1, o, none⟩ = false := fun o => frozen_of_heap j1.t
  have hx5 : (y4.setCell ⟨w.heap.size + 1, 3, none⟩ (.slice ta tl tc)).heap[w.heap.size + 1]? = some (.cells #[.int .i64 a, .int .i64 b, .int .i64 c, .slice ta tl tc] 32) := setCell_heap j1.t
  have hz5 : (y4.setCell ⟨w.heap.size + 1, 3, none⟩ (.slice ta tl tc)).heap[w.heap.size]? = some (.cells #[.int .i64 0, .int .i64 0, .int .i64 0, .slice none 0 0] 32) := (Below.heap_setCell _ _ _ _ (fun e => by simp only at e; omega)).trans j1.z
  have p5 := j1.rd.other (b := w.heap.size + 1) (by omega) 3 (.slice ta tl tc)
  have b5 := j1.but.new (b := w.heap.size + 1) (by omega) 3 (.slice ta tl tc)
  have o5 := own_setR ot2 (R := w.heap.size + 1) (by omega) 3 (.slice ta tl tc)
  obtain ⟨y5, hy5⟩ : ∃ y, y4.setCell ⟨w.heap.size + 1, 3, none⟩ (.slice ta tl tc) = y := ⟨_, rfl⟩
  rw [hy5] at hx5 hz5 p5 b5 o5
  have HX9 := hide hx5
  have HZ9 := hide hz5
  have HF : Hid (∀ cs, (y5.setRow w.heap.size cs).ownsRow w.heap.size 5 1 (.slice ta tl tc) tl (ints .u8 l) ∧ Dr (y5.setRow w.heap.size cs) R lo ZB s4 ∧ But R w (y5.setRow w.heap.size cs)) := fun cs => ⟨own_mono (own_same o5 (row_same cs (by omega))) (by omega), p5.keep (fun k hk => setRow_other _ _ _ _ (by omega)), b5.newRow (Nat.le_refl _) _⟩
  clear p q ot ot2 j1 hx5 hz5 p5 b5 o5 htl HC3 HJ3
  go_wp2_with (first | rw [hy5] | refine wpList_load_row rfl 32 _ rfl (w.heap.size + 1) rfl 32 _ (0, 0) _ (unhide HX9) Tryz.underlying32 rfl (by kernel_rfl) ?_ | refine wpList_store_row rfl 32 _ _ rfl w.heap.size _ _ rfl rfl 32 (unhide HZ9) (by kernel_rfl) rfl (by first | kernel_rfl | simp [Value.oneCell']) ?_)
  refine bodyPost_ret (results_cell_row rfl _ _ w.heap.size 32 #[.int .i64 a, .int .i64 b, .int .i64 c, .slice ta tl tc] (0, 0) _ rfl (setRow_heap _ _ _ _ _ _ (unhide HZ9)) Tryz.underlying32 rfl (by kernel_rfl)) rfl ?_
  rw [unhide HTL]
  exact ⟨_, rfl, unhide HF _⟩

def RS.dtermed (s : RS) : TmD × RS := (⟨s.num.1, s.num.2.dentry.1⟩, s.num.2.dentry.2)
set_option maxHeartbeats 1600000 in
theorem list_d {w : World} {R lo : Nat} {ZB : List Int} {s : RS} (h : Dr w R lo ZB s) :
    Calls Tryz.prog 102 #[.pointer (some ⟨R, 0, none⟩)] w fun e w' => ∃ x, e = .returned x ∧ OwnTms w.heap.size w' x (s.list RS.dtermed).1 ∧ Dr w' R lo ZB (s.list RS.dtermed).2 ∧ But R w w' := by
  obtain ⟨i0, hi, hz0, hz1, hz2⟩ := info_parts Tryz.info140
  have hr := h.rlt
  have HC0 := hide (len_d h)
  obtain ⟨m, hm, hm4⟩ := lenV_nat s.num.1
  obtain ⟨l4, s4, e4⟩ : ∃ n s', s.list RS.dtermed = (n, s') := ⟨_, _, rfl⟩
  have hl4 : RS.iter RS.dtermed m s.len = (l4, s4) := by have := e4; rw [list_lenV, hm, Int.toNat_natCast] at this; exact this
  rw [e4]
  simp only
  obtain ⟨sL, hsL⟩ : ∃ x, s.len = x := ⟨_, rfl⟩
  rw [hsL, hm] at HC0
  rw [hsL] at hl4
  have HL4 := hide hl4
  clear h hm e4 hsL hl4
  go_enter Tryz.func102, Tryz.ntmps102
  go_wp2_with fail
  refine (unhide HC0).mono ?_
  rintro e w1 ⟨rfl, p1, q1⟩
  have HS : Hid (Dr w1 R lo ZB sL ∧ But R w w1) := ⟨p1, q1⟩
  clear p1 q1 HC0
  go_wp2_with fail
  go_loopw [4, 5] (fun v c wr => ∃ i : Nat, i ≤ m ∧ c = .int .i64 i ∧ OwnTms w.heap.size wr v (RS.iter RS.dtermed i sL).1 ∧ Dr wr R lo ZB (RS.iter RS.dtermed i sL).2 ∧ But R w wr) (fun _ c _ => m - (intOf c).toNat)
  case atStart => exact ⟨0, by omega, rfl, OwnTms.nil _ _, (unhide HS).1, (unhide HS).2⟩
  case round =>
    obtain ⟨i, him, rfl, ho, hd, hb⟩ := hrel
    obtain ⟨ao, ca, rfl⟩ := ho.shape
    have g1 := hd.ce
    have hil := iter_len RS.dtermed sL i
    by_cases hlt : i < m
    · by_cases he : (RS.iter RS.dtermed i sL).2.er = 0
      · rw [he] at g1
        have hst := iter_step he
        clear he
        generalize RS.iter RS.dtermed i sL = it at *
        obtain ⟨L, sI⟩ := it
        simp only at ho hd hst hil g1 ⊢
        obtain ⟨a, sA, eA⟩ : ∃ n s', sI.num = (n, s') := ⟨_, _, rfl⟩
        obtain ⟨k, f, n, lt, sB, eB⟩ : ∃ k f n l s', sA.dentry = (⟨k, f, n, l⟩, s') := ⟨_, _, _, _, _, rfl⟩
        have hst2 : RS.iter RS.dtermed (i + 1) sL = (L ++ [⟨a, ⟨k, f, n, lt⟩⟩], sB) := by rw [hst]; simp only [RS.dtermed, eA, eB]
        have HST := hide hst2
        have HEB := hide eB
        have hal : Below wr.heap.size wr (wr.alloc (.cells #[.int .i64 0, .int .i64 0, .int .i64 0, .int .i64 0, .slice none 0 0] 140)) := (Below.refl _ _).alloc (Nat.le_refl _) _
        have hxa : (wr.alloc (.cells #[.int .i64 0, .int .i64 0, .int .i64 0, .int .i64 0, .slice none 0 0] 140)).heap[wr.heap.size]? = some (.cells #[.int .i64 0, .int .i64 0, .int .i64 0, .int .i64 0, .slice none 0 0] 140) := heap_alloc_new wr _
        have hsa : (wr.alloc (.cells #[.int .i64 0, .int .i64 0, .int .i64 0, .int .i64 0, .slice none 0 0] 140)).heap.size = wr.heap.size + 1 := by simp
        have HC1 := hide (num_d (hd.below hal))
        rw [eA] at HC1
        simp only at HC1
        obtain ⟨wa, hwa⟩ : ∃ y, wr.alloc (.cells #[.int .i64 0, .int .i64 0, .int .i64 0, .int .i64 0, .slice none 0 0] 140) = y := ⟨_, rfl⟩
        rw [hwa] at hal hxa hsa HC1
        obtain ⟨X, hX⟩ : ∃ n, wr.heap.size = n := ⟨_, rfl⟩
        have hsz := hb.size
        rw [hX] at hxa hsa hsz
        have HXA := hide hxa
        have HBA : Hid (But R wr wa) := But.of hal
        have HO := hide ho
        have HB := hide hb
        have HXE := hide hX
        have HSA := hide hsa
        clear hst hst2 eA eB hal hxa hsa ho hd hb HS
        go_wp2_with (first | rw [hwa] | rw [hX])
        refine (unhide HC1).mono ?_
        rintro e y1 ⟨rfl, p1, q1⟩
        have hx1 := q1.same (unhide HXA) (by omega)
        have k0 : y1.cell? ⟨X, 0, none⟩ = some (.int .i64 0) := cell_of_heap hx1
        have f0 : ∀ o, y1.frozen? ⟨X, o, none⟩ = false := fun o => frozen_of_heap hx1
        have b2 := ((unhide HBA).trans q1).new (b := X) (by have := unhide HXE; omega) 0 (.int .i64 a)
        have p2 := p1.other (b := X) (by omega) 0 (.int .i64 a)
        have hx2 : (y1.setCell ⟨X, 0, none⟩ (.int .i64 a)).heap[X]? = some (.cells #[.int .i64 a, .int .i64 0, .int .i64 0, .int .i64 0, .slice none 0 0] 140) := setCell_heap hx1
        obtain ⟨y2, hy2⟩ : ∃ y, y1.setCell ⟨X, 0, none⟩ (.int .i64 a) = y := ⟨_, rfl⟩
        rw [hy2] at b2 p2 hx2
        have HX2 := hide hx2
        have HB2 := hide b2
        have HS2 : Hid (X + 1 ≤ y2.heap.size) := (Array.getElem?_eq_some_iff.1 hx2).1
        have HC2 := hide (entry_d p2)
        rw [unhide HEB] at HC2
        simp only at HC2
        clear p1 q1 hx1 b2 p2 hx2 HC1
        go_wp2_with (rw [hy2])
        refine (unhide HC2).mono ?_
        rintro e y3 ⟨cs, rfl, ⟨tv, rfl, ot⟩, p3, q3⟩
        obtain ⟨ta, tc, rfl⟩ := ot.shape
        have ot2 := ot.mono (unhide HS2)
        simp only at ot2 ⊢
        obtain ⟨tl, htl⟩ : ∃ n, lt.length = n := ⟨_, rfl⟩
        rw [htl] at ot2
        rw [htl]
        have hx3 := q3.same (unhide HX2) (by omega)
        have k1 : y3.cell? ⟨X, 1, none⟩ = some (.int .i64 0) := cell_of_heap hx3
        have k2 : y3.cell? ⟨X, 2, none⟩ = some (.int .i64 0) := cell_of_heap hx3
        have k3 : y3.cell? ⟨X, 3, none⟩ = some (.int .i64 0) := cell_of_heap hx3
        have k4 : y3.cell? ⟨X, 4, none⟩ = some (.slice none 0 0) := cell_of_heap hx3
        have f3 : ∀ o, y3.frozen? ⟨X, o, none⟩ = false := fun o => frozen_of_heap hx3
        have b4 := ((((unhide HB2).trans q3).new (b := X) (by have := unhide HXE; omega) 1 (.int .i64 k)).new (b := X) (by have := unhide HXE; omega) 2 (.int .i64 f)).new (b := X) (by have := unhide HXE; omega) 3 (.int .i64 n)
        have b4 := b4.new (b := X) (by have := unhide HXE; omega) 4 (.slice ta tl tc)
        have p4 := (((p3.other (b := X) (by omega) 1 (.int .i64 k)).other (b := X) (by omega) 2 (.int .i64 f)).other (b := X) (by omega) 3 (.int .i64 n)).other (b := X) (by omega) 4 (.slice ta tl tc)
        have hx4 : ((((y3.setCell ⟨X, 1, none⟩ (.int .i64 k)).setCell ⟨X, 2, none⟩ (.int .i64 f)).setCell ⟨X, 3, none⟩ (.int .i64 n)).setCell ⟨X, 4, none⟩ (.slice ta tl tc)).heap[X]? = some (.cells #[.int .i64 a, .int .i64 k, .int .i64 f, .int .i64 n, .slice ta tl tc] 140) := setCell_heap (setCell_heap (setCell_heap (setCell_heap hx3)))
        have o4 := (((ot2.same (cell_same (o := 1) (u := .int .i64 k) (Nat.lt_succ_self X))).same (cell_same (o := 2) (u := .int .i64 f) (Nat.lt_succ_self X))).same (cell_same (o := 3) (u := .int .i64 n) (Nat.lt_succ_self X))).same (cell_same (o := 4) (u := .slice ta tl tc) (Nat.lt_succ_self X))
        obtain ⟨y4, hy4⟩ : ∃ y, ((((y3.setCell ⟨X, 1, none⟩ (.int .i64 k)).setCell ⟨X, 2, none⟩ (.int .i64 f)).setCell ⟨X, 3, none⟩ (.int .i64 n)).setCell ⟨X, 4, none⟩ (.slice ta tl tc)) = y := ⟨_, rfl⟩
        rw [hy4] at b4 p4 hx4 o4
        have hal5 : Below y4.heap.size y4 (y4.alloc (.cells #[.int .i64 a, .int .i64 k, .int .i64 f, .int .i64 n, .slice ta tl tc] 140)) := (Below.refl _ _).alloc (Nat.le_refl _) _
        obtain ⟨vs, hvs, hrow, hall⟩ := unhide HO
        have hk : ∀ j, w.heap.size ≤ j → j < wr.heap.size → (y4.alloc (.cells #[.int .i64 a, .int .i64 k, .int .i64 f, .int .i64 n, .slice ta tl tc] 140)).heap[j]? = wr.heap[j]? := fun j h1 h2 => (hal5.block j (Nat.lt_of_lt_of_le h2 b4.size)).trans (b4.block j h2 (by omega))
        have HO5 := hide (own_same hrow hk)
        have HALL : Hid (∀ p ∈ vs ++ [((⟨a, ⟨k, f, n, lt⟩⟩ : TmD), Value.slice ta tl tc)], OwnTs w.heap.size (y4.alloc (.cells #[.int .i64 a, .int .i64 k, .int .i64 f, .int .i64 n, .slice ta tl tc] 140)) p.2 p.1.ent.txns) := fun p hp => by
          rcases List.mem_append.1 hp with hp | hp
          · exact (hall p hp).same hk
          · rw [List.mem_singleton] at hp
            subst hp
            exact (o4.mono (by omega)).below hal5
        have HVS := hide hvs
        have HR5 := hide (p4.below hal5)
        have HB5 := hide (((unhide HB).trans b4).trans (But.of hal5))
        have HX4 := hide hx4
        have HSZ5 : Hid (w.heap.size ≤ (y4.alloc (.cells #[.int .i64 a, .int .i64 k, .int .i64 f, .int .i64 n, .slice ta tl tc] 140)).heap.size) := (unhide HB5).size
        clear p3 q3 ot ot2 hx3 b4 p4 hx4 o4 hal5 hk hvs hrow hall htl HC2
        go_wp2_with (first | rw [hy4] | refine wpList_load_row rfl 140 _ rfl X rfl 140 _ (0, 0) _ (unhide HX4) Tryz.underlying140 rfl (by kernel_rfl) ?_ | (at_builtin; refine wpList_append_own _ rfl _ _ 30 rfl w.heap.size 140 i0 (.agg #[.int .i64 0, .int .i64 0, .int .i64 0, .int .i64 0, .slice none 0 0]) 5 56 Tryz.underlying30 hi hz0 hz1 hz2 rfl (by decide) _ _ _ rfl (unhide HO5) ⟨y4.heap.size, 0, none⟩ 1 1 [.int .i64 a, .int .i64 k, .int .i64 f, .int .i64 n, .slice ta tl tc] rfl rfl ?d0 ?d1 ?d2 ?d3 ?d4 ?_))
        case d0 =>
          intro j u hu
          have hj : j < 5 := by have := (List.getElem?_eq_some_iff.1 hu).1; simpa using this
          have hadd : (⟨y4.heap.size, 0, none⟩ : Addr).add j = ⟨y4.heap.size, j, none⟩ := by unfold Addr.add; split <;> simp_all
          rw [hadd, World.cell?_alloc_new]
          simpa using hu
        case d1 => first | exact ⟨rfl, rfl, rfl, rfl, rfl⟩ | (intro u hu; simp at hu; rcases hu with rfl | rfl | rfl | rfl | rfl <;> rfl)
        case d2 => unfold maxLen; omega
        case d3 => omega
        case d4 => have := unhide HSZ5; simpa using this
        intro v' w4 ho4 hg4 _
        obtain ⟨ao', ca', rfl⟩ := own_shapeN ho4
        have HF : Hid (OwnTms w.heap.size w4 (.slice ao' (L.length + 1) ca') (RS.iter RS.dtermed (i + 1) sL).1 ∧ Dr w4 R lo ZB (RS.iter RS.dtermed (i + 1) sL).2 ∧ But R w w4) := by
          rw [unhide HST]
          refine ⟨⟨_, ?_, ?_, fun p hp => (unhide HALL p hp).grownM (unhide HO5) hg4⟩, (unhide HR5).grown (unhide HO5) hr hg4, (unhide HB5).grown (unhide HO5) (Nat.le_refl _) hg4⟩
          · rw [List.map_append, unhide HVS]
            rfl
          · rw [List.flatMap_append, List.length_append]
            simp only [List.flatMap_cons, List.flatMap_nil, List.append_nil, List.length_cons, List.length_nil]
            exact ho4
        clear ho4 hg4
        go_wp2
        go_roundw
        case rel => exact ⟨i + 1, by omega, by go_num, (unhide HF).1, (unhide HF).2.1, (unhide HF).2.2⟩
        case measure => simp [intOf]; omega
      · have hE : RS.iter RS.dtermed i sL = (l4, s4) := by
          have e := iter_stop (take := RS.dtermed) (k := i) (s := sL) he (m - i)
          rw [show i + (m - i) = m by omega] at e
          rw [← e]; exact unhide HL4
        rw [hE] at g1 ho hd he
        have heb : (s4.er == 0) = false := by simpa using he
        have HF : Hid (OwnTms w.heap.size wr (.slice ao l4.length ca) l4 ∧ Dr wr R lo ZB s4 ∧ But R w wr) := by rw [hE] at *; exact ⟨ho, hd, hb⟩
        rw [hE]
        clear ho hd hb hil HS
        simp only
        generalize l4.length = L0 at *
        go_wp2
        go_ret
        exact ⟨_, rfl, unhide HF⟩
    · obtain rfl : i = m := by omega
      have hE : RS.iter RS.dtermed i sL = (l4, s4) := unhide HL4
      rw [hE] at g1 ho hd
      have HF : Hid (OwnTms w.heap.size wr (.slice ao l4.length ca) l4 ∧ Dr wr R lo ZB s4 ∧ But R w wr) := by rw [hE] at *; exact ⟨ho, hd, hb⟩
      rw [hE]
      clear ho hd hb hil HS
      simp only
      generalize l4.length = L0 at *
      go_wp2
      go_ret
      exact ⟨_, rfl, unhide HF⟩
end Go.Proofs.YtggllgimlfchhaaGreat
