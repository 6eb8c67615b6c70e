/- Record: messages, read. -/
import Derived.Test.YtggllgimlfchhaaGreatKF
namespace Go.Proofs.YtggllgimlfchhaaGreat
open Go.RowKit
set_option maxRecDepth 100000

/-- A message, read. -/
def RS.msg (s : RS) : MsgD × RS :=
  RS.fields (fieldsL (s.kind 1 6).1) ⟨(s.kind 1 6).1, (s.kind 1 6).2.num.1, (s.kind 1 6).2.num.2.num.1, 0, 0, 0, 0, false, [], ⟨0, 0, 0, []⟩, ⟨0, 0, 0, []⟩⟩ (s.kind 1 6).2.num.2.num.2

set_option maxHeartbeats 1600000 in
theorem message_r {w : World} {R lo : Nat} {s : RS} (h : RdS w R lo s) :
    Calls Tryz.prog 51 #[.pointer (some ⟨R, 0, none⟩)] w fun e w' => ∃ cs, e = .returned (.agg cs) ∧ OwnM w.heap.size w' cs s.msg.1 ∧ RdS w' R lo s.msg.2 ∧ But R w w' := by
  have hr := h.rlt
  obtain ⟨k, s1, e1⟩ : ∃ n s', s.kind 1 6 = (n, s') := ⟨_, _, rfl⟩
  obtain ⟨f, s2, e2⟩ : ∃ n s', s1.num = (n, s') := ⟨_, _, rfl⟩
  obtain ⟨t, s3, e3⟩ : ∃ n s', s2.num = (n, s') := ⟨_, _, rfl⟩
  have et : s.msg = RS.fields (fieldsL k) ⟨k, f, t, 0, 0, 0, 0, false, [], ⟨0, 0, 0, []⟩, ⟨0, 0, 0, []⟩⟩ s3 := by simp only [RS.msg, e1, e2, e3]
  obtain ⟨⟨aK, aF, aO, aT, aS, aL, aC, aY, LL, ⟨ek, ef, en, LT⟩, ⟨ps, pi, pm, LD⟩⟩, sF, eF⟩ : ∃ (a : MsgD) (b : RS), RS.fields (fieldsL k) ⟨k, f, t, 0, 0, 0, 0, false, [], ⟨0, 0, 0, []⟩, ⟨0, 0, 0, []⟩⟩ s3 = (a, b) := ⟨_, _, rfl⟩
  rw [et, eF]
  simp only
  have HE2 := hide e2
  have HE3 := hide e3
  have HEF := hide eF
  have hal : Below w.heap.size w (w.alloc (.cells #[.int .i64 0, .int .i64 0, .int .i64 0, .int .i64 0, .int .i64 0, .int .i64 0, .int .i64 0, .bool false, .slice none 0 0, .int .i64 0, .int .i64 0, .int .i64 0, .slice none 0 0, .int .i64 0, .int .i64 0, .int .i64 0, .slice none 0 0] 34)) := (Below.refl _ _).alloc (Nat.le_refl _) _
  have HC0 := hide (kind_r (h.below hal) 1 6)
  rw [e1] at HC0
  simp only at HC0
  have HB0 : Hid (But R w (w.alloc (.cells #[.int .i64 0, .int .i64 0, .int .i64 0, .int .i64 0, .int .i64 0, .int .i64 0, .int .i64 0, .bool false, .slice none 0 0, .int .i64 0, .int .i64 0, .int .i64 0, .slice none 0 0, .int .i64 0, .int .i64 0, .int .i64 0, .slice none 0 0] 34))) := But.of hal
  have HZ0 : Hid ((w.alloc (.cells #[.int .i64 0, .int .i64 0, .int .i64 0, .int .i64 0, .int .i64 0, .int .i64 0, .int .i64 0, .bool false, .slice none 0 0, .int .i64 0, .int .i64 0, .int .i64 0, .slice none 0 0, .int .i64 0, .int .i64 0, .int .i64 0, .slice none 0 0] 34)).heap[w.heap.size]? = some (.cells #[.int .i64 0, .int .i64 0, .int .i64 0, .int .i64 0, .int .i64 0, .int .i64 0, .int .i64 0, .bool false, .slice none 0 0, .int .i64 0, .int .i64 0, .int .i64 0, .slice none 0 0, .int .i64 0, .int .i64 0, .int .i64 0, .slice none 0 0] 34)) := heap_alloc_new w _
  have HSZ0 : Hid (w.heap.size + 1 ≤ (w.alloc (.cells #[.int .i64 0, .int .i64 0, .int .i64 0, .int .i64 0, .int .i64 0, .int .i64 0, .int .i64 0, .bool false, .slice none 0 0, .int .i64 0, .int .i64 0, .int .i64 0, .slice none 0 0, .int .i64 0, .int .i64 0, .int .i64 0, .slice none 0 0] 34)).heap.size) := by show _ ≤ _; simp
  obtain ⟨w1, hw1⟩ : ∃ y, w.alloc (.cells #[.int .i64 0, .int .i64 0, .int .i64 0, .int .i64 0, .int .i64 0, .int .i64 0, .int .i64 0, .bool false, .slice none 0 0, .int .i64 0, .int .i64 0, .int .i64 0, .slice none 0 0, .int .i64 0, .int .i64 0, .int .i64 0, .slice none 0 0] 34) = y := ⟨_, rfl⟩
  rw [hw1] at HC0
  rw [hw1] at HB0
  rw [hw1] at HZ0
  rw [hw1] at HSZ0
  clear h hal e1 e2 e3 et eF
  go_enter Tryz.func51, Tryz.ntmps51
  go_wp2_with (rw [hw1])
  refine (unhide HC0).mono ?_
  rintro e y1 ⟨rfl, p1, q1⟩
  have hz1 := q1.same (unhide HZ0) (by omega)
  have hsz1 : w.heap.size + 1 ≤ y1.heap.size := Nat.le_trans (unhide HSZ0) q1.size
  have hal1 : Below y1.heap.size y1 (y1.alloc (.cells #[.int .i64 0, .int .i64 0, .int .i64 0, .int .i64 0, .int .i64 0, .int .i64 0, .int .i64 0, .bool false, .slice none 0 0, .int .i64 0, .int .i64 0, .int .i64 0, .slice none 0 0, .int .i64 0, .int .i64 0, .int .i64 0, .slice none 0 0] 34)) := (Below.refl _ _).alloc (Nat.le_refl _) _
  have hxa : (y1.alloc (.cells #[.int .i64 0, .int .i64 0, .int .i64 0, .int .i64 0, .int .i64 0, .int .i64 0, .int .i64 0, .bool false, .slice none 0 0, .int .i64 0, .int .i64 0, .int .i64 0, .slice none 0 0, .int .i64 0, .int .i64 0, .int .i64 0, .slice none 0 0] 34)).heap[y1.heap.size]? = some (.cells #[.int .i64 0, .int .i64 0, .int .i64 0, .int .i64 0, .int .i64 0, .int .i64 0, .int .i64 0, .bool false, .slice none 0 0, .int .i64 0, .int .i64 0, .int .i64 0, .slice none 0 0, .int .i64 0, .int .i64 0, .int .i64 0, .slice none 0 0] 34) := heap_alloc_new y1 _
  have hza : (y1.alloc (.cells #[.int .i64 0, .int .i64 0, .int .i64 0, .int .i64 0, .int .i64 0, .int .i64 0, .int .i64 0, .bool false, .slice none 0 0, .int .i64 0, .int .i64 0, .int .i64 0, .slice none 0 0, .int .i64 0, .int .i64 0, .int .i64 0, .slice none 0 0] 34)).heap[w.heap.size]? = some (.cells #[.int .i64 0, .int .i64 0, .int .i64 0, .int .i64 0, .int .i64 0, .int .i64 0, .int .i64 0, .bool false, .slice none 0 0, .int .i64 0, .int .i64 0, .int .i64 0, .slice none 0 0, .int .i64 0, .int .i64 0, .int .i64 0, .slice none 0 0] 34) := (Below.heap_alloc _ _ _ (by omega)).trans hz1
  have hsa : (y1.alloc (.cells #[.int .i64 0, .int .i64 0, .int .i64 0, .int .i64 0, .int .i64 0, .int .i64 0, .int .i64 0, .bool false, .slice none 0 0, .int .i64 0, .int .i64 0, .int .i64 0, .slice none 0 0, .int .i64 0, .int .i64 0, .int .i64 0, .slice none 0 0] 34)).heap.size = y1.heap.size + 1 := by simp
  obtain ⟨ya, hya⟩ : ∃ y, y1.alloc (.cells #[.int .i64 0, .int .i64 0, .int .i64 0, .int .i64 0, .int .i64 0, .int .i64 0, .int .i64 0, .bool false, .slice none 0 0, .int .i64 0, .int .i64 0, .int .i64 0, .slice none 0 0, .int .i64 0, .int .i64 0, .int .i64 0, .slice none 0 0] 34) = y := ⟨_, rfl⟩
  rw [hya] at hal1 hxa hza hsa
  have pa := p1.below hal1
  have ba : But R w ya := ((unhide HB0).trans q1).trans (But.of hal1)
  obtain ⟨M, hM⟩ : ∃ n, y1.heap.size = n := ⟨_, rfl⟩
  rw [hM] at hxa hsa hsz1
  have hwM : w.heap.size < M := by omega
  have hRM : R < M := by omega
  have hxb := setRow_heap ya M _ #[.int .i64 k, .int .i64 0, .int .i64 0, .int .i64 0, .int .i64 0, .int .i64 0, .int .i64 0, .bool false, .slice none 0 0, .int .i64 0, .int .i64 0, .int .i64 0, .slice none 0 0, .int .i64 0, .int .i64 0, .int .i64 0, .slice none 0 0] 34 (0, 0) hxa
  have hzb : (ya.setRow M #[.int .i64 k, .int .i64 0, .int .i64 0, .int .i64 0, .int .i64 0, .int .i64 0, .int .i64 0, .bool false, .slice none 0 0, .int .i64 0, .int .i64 0, .int .i64 0, .slice none 0 0, .int .i64 0, .int .i64 0, .int .i64 0, .slice none 0 0]).heap[w.heap.size]? = some (.cells #[.int .i64 0, .int .i64 0, .int .i64 0, .int .i64 0, .int .i64 0, .int .i64 0, .int .i64 0, .bool false, .slice none 0 0, .int .i64 0, .int .i64 0, .int .i64 0, .slice none 0 0, .int .i64 0, .int .i64 0, .int .i64 0, .slice none 0 0] 34) := (setRow_other _ _ _ _ (by omega)).trans hza
  have pb := pa.otherRow hRM #[.int .i64 k, .int .i64 0, .int .i64 0, .int .i64 0, .int .i64 0, .int .i64 0, .int .i64 0, .bool false, .slice none 0 0, .int .i64 0, .int .i64 0, .int .i64 0, .slice none 0 0, .int .i64 0, .int .i64 0, .int .i64 0, .slice none 0 0]
  have bb := ba.newRow (b := M) (by omega) #[.int .i64 k, .int .i64 0, .int .i64 0, .int .i64 0, .int .i64 0, .int .i64 0, .int .i64 0, .bool false, .slice none 0 0, .int .i64 0, .int .i64 0, .int .i64 0, .slice none 0 0, .int .i64 0, .int .i64 0, .int .i64 0, .slice none 0 0]
  have hsb : M + 1 ≤ (ya.setRow M #[.int .i64 k, .int .i64 0, .int .i64 0, .int .i64 0, .int .i64 0, .int .i64 0, .int .i64 0, .bool false, .slice none 0 0, .int .i64 0, .int .i64 0, .int .i64 0, .slice none 0 0, .int .i64 0, .int .i64 0, .int .i64 0, .slice none 0 0]).heap.size := by rw [setRow_size]; omega
  obtain ⟨yb, hyb⟩ : ∃ y, ya.setRow M #[.int .i64 k, .int .i64 0, .int .i64 0, .int .i64 0, .int .i64 0, .int .i64 0, .int .i64 0, .bool false, .slice none 0 0, .int .i64 0, .int .i64 0, .int .i64 0, .slice none 0 0, .int .i64 0, .int .i64 0, .int .i64 0, .slice none 0 0] = y := ⟨_, rfl⟩
  rw [hyb] at hxb hzb pb bb hsb
  have HXA := hide hxa
  have HXB := hide (And.intro hxb hzb)
  have HBB := hide bb
  have HSB := hide hsb
  have HC1 := hide (fit_r pb)
  rw [unhide HE2] at HC1
  simp only at HC1
  clear p1 q1 hz1 hsz1 hal1 hxa hza hsa pa ba hxb hzb pb bb hsb HC0
  go_wp2_with (first | rw [hya] | rw [hyb] | rw [hM] | refine wpList_store_row rfl 34 _ _ rfl M _ _ rfl rfl 34 (unhide HXA) (by kernel_rfl) rfl (by first | kernel_rfl | simp [Value.oneCell']) ?_)
  refine (unhide HC1).mono ?_
  rintro e y2 ⟨rfl, p, q⟩
  have hx : y2.heap[M]? = some (.cells #[.int .i64 k, .int .i64 0, .int .i64 0, .int .i64 0, .int .i64 0, .int .i64 0, .int .i64 0, .bool false, .slice none 0 0, .int .i64 0, .int .i64 0, .int .i64 0, .slice none 0 0, .int .i64 0, .int .i64 0, .int .i64 0, .slice none 0 0] 34) := q.same (unhide HXB).1 (by omega)
  have hy : y2.heap[w.heap.size]? = some (.cells #[.int .i64 0, .int .i64 0, .int .i64 0, .int .i64 0, .int .i64 0, .int .i64 0, .int .i64 0, .bool false, .slice none 0 0, .int .i64 0, .int .i64 0, .int .i64 0, .slice none 0 0, .int .i64 0, .int .i64 0, .int .i64 0, .slice none 0 0] 34) := q.same (unhide HXB).2 (by omega)
  have kc1 : y2.cell? ⟨M, 1, none⟩ = some (.int .i64 0) := cell_of_heap hx
  have fc1 : ∀ o, y2.frozen? ⟨M, o, none⟩ = false := fun o => frozen_of_heap hx
  have HX2 : Hid ((y2.setCell ⟨M, 1, none⟩ (.int .i64 f)).heap[M]? = some (.cells #[.int .i64 k, .int .i64 f, .int .i64 0, .int .i64 0, .int .i64 0, .int .i64 0, .int .i64 0, .bool false, .slice none 0 0, .int .i64 0, .int .i64 0, .int .i64 0, .slice none 0 0, .int .i64 0, .int .i64 0, .int .i64 0, .slice none 0 0] 34) ∧ (y2.setCell ⟨M, 1, none⟩ (.int .i64 f)).heap[w.heap.size]? = some (.cells #[.int .i64 0, .int .i64 0, .int .i64 0, .int .i64 0, .int .i64 0, .int .i64 0, .int .i64 0, .bool false, .slice none 0 0, .int .i64 0, .int .i64 0, .int .i64 0, .slice none 0 0, .int .i64 0, .int .i64 0, .int .i64 0, .slice none 0 0] 34)) := ⟨setCell_heap hx, (Below.heap_setCell _ _ _ _ (fun e => by simp only at e; omega)).trans hy⟩
  have hsz := Nat.le_trans (unhide HSB) q.size
  have HSZ2 : Hid (M + 1 ≤ (y2.setCell ⟨M, 1, none⟩ (.int .i64 f)).heap.size) := by show _ ≤ _; simp only [World.setCell, Array.size_modify]; exact hsz
  have HB2 := hide (((unhide HBB).trans q).new (b := M) (by omega) 1 (.int .i64 f))
  have HC2 := hide (fit_r (p.other (b := M) (by omega) 1 (.int .i64 f)))
  rw [unhide HE3] at HC2
  simp only at HC2
  clear p q hx hy hsz HC1
  go_wp2_with fail
  refine (unhide HC2).mono ?_
  rintro e y3 ⟨rfl, p, q⟩
  have hx : y3.heap[M]? = some (.cells #[.int .i64 k, .int .i64 f, .int .i64 0, .int .i64 0, .int .i64 0, .int .i64 0, .int .i64 0, .bool false, .slice none 0 0, .int .i64 0, .int .i64 0, .int .i64 0, .slice none 0 0, .int .i64 0, .int .i64 0, .int .i64 0, .slice none 0 0] 34) := q.same (unhide HX2).1 (by omega)
  have hy : y3.heap[w.heap.size]? = some (.cells #[.int .i64 0, .int .i64 0, .int .i64 0, .int .i64 0, .int .i64 0, .int .i64 0, .int .i64 0, .bool false, .slice none 0 0, .int .i64 0, .int .i64 0, .int .i64 0, .slice none 0 0, .int .i64 0, .int .i64 0, .int .i64 0, .slice none 0 0] 34) := q.same (unhide HX2).2 (by omega)
  have kc2 : y3.cell? ⟨M, 2, none⟩ = some (.int .i64 0) := cell_of_heap hx
  have fc2 : ∀ o, y3.frozen? ⟨M, o, none⟩ = false := fun o => frozen_of_heap hx
  have hx3 : (y3.setCell ⟨M, 2, none⟩ (.int .i64 t)).heap[M]? = some (.cells #[.int .i64 k, .int .i64 f, .int .i64 t, .int .i64 0, .int .i64 0, .int .i64 0, .int .i64 0, .bool false, .slice none 0 0, .int .i64 0, .int .i64 0, .int .i64 0, .slice none 0 0, .int .i64 0, .int .i64 0, .int .i64 0, .slice none 0 0] 34) := setCell_heap hx
  have hy3 : (y3.setCell ⟨M, 2, none⟩ (.int .i64 t)).heap[w.heap.size]? = some (.cells #[.int .i64 0, .int .i64 0, .int .i64 0, .int .i64 0, .int .i64 0, .int .i64 0, .int .i64 0, .bool false, .slice none 0 0, .int .i64 0, .int .i64 0, .int .i64 0, .slice none 0 0, .int .i64 0, .int .i64 0, .int .i64 0, .slice none 0 0] 34) := (Below.heap_setCell _ _ _ _ (fun e => by simp only at e; omega)).trans hy
  have hsz := Nat.le_trans (unhide HSZ2) q.size
  have hsz3 : M + 1 ≤ (y3.setCell ⟨M, 2, none⟩ (.int .i64 t)).heap.size := by simp only [World.setCell, Array.size_modify]; exact hsz
  have p3 := p.other (b := M) (by omega) 2 (.int .i64 t)
  have b3 := ((unhide HB2).trans q).new (b := M) (by omega) 2 (.int .i64 t)
  obtain ⟨y4, hy4⟩ : ∃ y, y3.setCell ⟨M, 2, none⟩ (.int .i64 t) = y := ⟨_, rfl⟩
  rw [hy4] at hx3 hy3 hsz3 p3 b3
  have t0 : y4.cell? ⟨M, 0, none⟩ = some (.int .i64 k) := cell_of_heap hx3
  have HX3 := hide (And.intro hx3 hy3)
  have HSZ3 := hide hsz3
  have HR3 := hide p3
  have HB3 := hide b3
  have HC3 := hide (fieldsOf_at k y4)
  clear p q hx hy hsz hx3 hy3 hsz3 p3 b3 HC2
  go_wp2_with (rw [hy4])
  refine (unhide HC3).mono ?_
  rintro e y5 ⟨v, rfl, hv, hb5⟩
  have hx5 : y5.heap[M]? = some (.cells #[.int .i64 k, .int .i64 f, .int .i64 t, .int .i64 0, .int .i64 0, .int .i64 0, .int .i64 0, .bool false, .slice none 0 0, .int .i64 0, .int .i64 0, .int .i64 0, .slice none 0 0, .int .i64 0, .int .i64 0, .int .i64 0, .slice none 0 0] 34) := (hb5.block M (unhide HSZ3)).trans (unhide HX3).1
  have hy5 : y5.heap[w.heap.size]? = some (.cells #[.int .i64 0, .int .i64 0, .int .i64 0, .int .i64 0, .int .i64 0, .int .i64 0, .int .i64 0, .bool false, .slice none 0 0, .int .i64 0, .int .i64 0, .int .i64 0, .slice none 0 0, .int .i64 0, .int .i64 0, .int .i64 0, .slice none 0 0] 34) := (hb5.block _ (by have := unhide HSZ3; omega)).trans (unhide HX3).2
  have p5 := (unhide HR3).below hb5
  have b5 : But R w y5 := (unhide HB3).trans (But.of hb5)
  have HC4 : Hid (Calls Tryz.prog 99 #[.pointer (some ⟨R, 0, none⟩), .pointer (some ⟨M, 0, none⟩), v] y5 fun e w' => e = .returned (.tuple #[]) ∧ ∃ cs, w'.heap[M]? = some (.cells cs 34) ∧ OwnM (M + 1) w' cs ⟨aK, aF, aO, aT, aS, aL, aC, aY, LL, ⟨ek, ef, en, LT⟩, ⟨ps, pi, pm, LD⟩⟩ ∧ RdS w' R lo sF ∧ But2 R M y5 w') := by
    have own0 : OwnM (M + 1) y5 #[.int .i64 k, .int .i64 f, .int .i64 t, .int .i64 0, .int .i64 0, .int .i64 0, .int .i64 0, .bool false, .slice none 0 0, .int .i64 0, .int .i64 0, .int .i64 0, .slice none 0 0, .int .i64 0, .int .i64 0, .int .i64 0, .slice none 0 0] ⟨k, f, t, 0, 0, 0, 0, false, [], ⟨0, 0, 0, []⟩, ⟨0, 0, 0, []⟩⟩ := ⟨_, _, _, rfl, OwnTms.nil _ _, OwnTs.nil _ _, World.ownsRow_nil _ _ _ _⟩
    rcases hv with ⟨hn, rfl⟩ | ⟨g, rfl, hg, hgh⟩
    · have e0 := unhide HEF
      rw [hn] at e0
      simp only [RS.fields, List.foldl_nil, Prod.mk.injEq] at e0
      obtain ⟨e0, rfl⟩ := e0
      rw [e0] at own0
      exact (fields_none (w := y5) (R := R) (M := M)).mono fun e w' ⟨h1, h2⟩ => by subst h2; exact ⟨h1, _, hx5, own0, p5, But2.refl _ _ _⟩
    · have hg5 : y4.heap.size ≤ g := hg
      have h9 := fields_r (fieldsL k) p5 hx5 hRM own0 hgh (by have := unhide HSZ3; omega) (by have := unhide HSZ3; omega) (fieldsL_le k) (fieldsL_len k)
      rw [unhide HEF] at h9
      exact h9
  have HY5 := hide hy5
  have HB5 := hide b5
  have HS5 : Hid (M < y5.heap.size) := (Array.getElem?_eq_some_iff.1 hx5).1
  clear hv hb5 hx5 hy5 p5 b5 HC3 t0
  go_wp2_with fail
  refine (unhide HC4).mono ?_
  rintro e y6 ⟨rfl, cs, hx6, om, p6, q6⟩
  have hy6 : y6.heap[w.heap.size]? = some (.cells #[.int .i64 0, .int .i64 0, .int .i64 0, .int .i64 0, .int .i64 0, .int .i64 0, .int .i64 0, .bool false, .slice none 0 0, .int .i64 0, .int .i64 0, .int .i64 0, .slice none 0 0, .int .i64 0, .int .i64 0, .int .i64 0, .slice none 0 0] 34) := (q6.block _ (by have := unhide HS5; omega) (by omega) (by omega)).trans (unhide HY5)
  obtain ⟨lv, tv, dv, rfl, o1, o2, o3⟩ := om
  obtain ⟨la, lc, rfl⟩ := o1.shape
  obtain ⟨ta, tc, rfl⟩ := o2.shape
  obtain ⟨da, dc, rfl⟩ := own_shape o3
  simp only at hx6 o1 o2 o3
  obtain ⟨ll, hll⟩ : ∃ n, LL.length = n := ⟨_, rfl⟩
  obtain ⟨tl, htl⟩ : ∃ n, LT.length = n := ⟨_, rfl⟩
  obtain ⟨dl, hdl⟩ : ∃ n, LD.length = n := ⟨_, rfl⟩
  rw [hll] at hx6 o1
  rw [htl] at hx6 o2
  rw [hdl] at hx6 o3
  have b6 : But R w y6 := But2.but (unhide HB5) q6 (by omega)
  have hS := row_same (w := y6) (base := M + 1) (b := w.heap.size) #[.int .i64 aK, .int .i64 aF, .int .i64 aO, .int .i64 aT, .int .i64 aS, .int .i64 aL, .int .i64 aC, .bool aY, .slice la ll lc, .int .i64 ek, .int .i64 ef, .int .i64 en, .slice ta tl tc, .int .i64 ps, .int .i64 pi, .int .i64 pm, .slice da dl dc] (by omega)
  have HF : Hid (OwnM w.heap.size (y6.setRow w.heap.size #[.int .i64 aK, .int .i64 aF, .int .i64 aO, .int .i64 aT, .int .i64 aS, .int .i64 aL, .int .i64 aC, .bool aY, .slice la ll lc, .int .i64 ek, .int .i64 ef, .int .i64 en, .slice ta tl tc, .int .i64 ps, .int .i64 pi, .int .i64 pm, .slice da dl dc]) #[.int .i64 aK, .int .i64 aF, .int .i64 aO, .int .i64 aT, .int .i64 aS, .int .i64 aL, .int .i64 aC, .bool aY, .slice la ll lc, .int .i64 ek, .int .i64 ef, .int .i64 en, .slice ta tl tc, .int .i64 ps, .int .i64 pi, .int .i64 pm, .slice da dl dc] ⟨aK, aF, aO, aT, aS, aL, aC, aY, LL, ⟨ek, ef, en, LT⟩, ⟨ps, pi, pm, LD⟩⟩ ∧ RdS (y6.setRow w.heap.size #[.int .i64 aK, .int .i64 aF, .int .i64 aO, .int .i64 aT, .int .i64 aS, .int .i64 aL, .int .i64 aC, .bool aY, .slice la ll lc, .int .i64 ek, .int .i64 ef, .int .i64 en, .slice ta tl tc, .int .i64 ps, .int .i64 pi, .int .i64 pm, .slice da dl dc]) R lo sF ∧ But R w (y6.setRow w.heap.size #[.int .i64 aK, .int .i64 aF, .int .i64 aO, .int .i64 aT, .int .i64 aS, .int .i64 aL, .int .i64 aC, .bool aY, .slice la ll lc, .int .i64 ek, .int .i64 ef, .int .i64 en, .slice ta tl tc, .int .i64 ps, .int .i64 pi, .int .i64 pm, .slice da dl dc])) :=
    ⟨OwnM.mono (base := M + 1) ⟨_, _, _, rfl, o1.same hS, o2.same hS, by simp only; rw [hdl]; exact own_same o3 hS⟩ (by omega), p6.otherRow hr _, b6.newRow (Nat.le_refl _) _⟩
  have HX6 := hide hx6
  have HY6 := hide hy6
  clear hx6 hy6 o1 o2 o3 p6 q6 b6 hS hll htl hdl HC4
  go_wp2_with (first | refine wpList_load_row rfl 34 _ rfl M rfl 34 _ (0, 0) _ (unhide HX6) Tryz.underlying34 rfl (by kernel_rfl) ?_ | refine wpList_store_row rfl 34 _ _ rfl w.heap.size _ _ rfl rfl 34 (unhide HY6) (by kernel_rfl) rfl (by first | kernel_rfl | simp [Value.oneCell']) ?_)
  refine bodyPost_ret (results_cell_row rfl _ _ w.heap.size 34 #[.int .i64 aK, .int .i64 aF, .int .i64 aO, .int .i64 aT, .int .i64 aS, .int .i64 aL, .int .i64 aC, .bool aY, .slice la ll lc, .int .i64 ek, .int .i64 ef, .int .i64 en, .slice ta tl tc, .int .i64 ps, .int .i64 pi, .int .i64 pm, .slice da dl dc] (0, 0) _ rfl (setRow_heap _ _ _ _ _ _ (unhide HY6)) Tryz.underlying34 rfl (by kernel_rfl)) rfl ?_
  exact ⟨_, rfl, unhide HF⟩
end Go.Proofs.YtggllgimlfchhaaGreat
