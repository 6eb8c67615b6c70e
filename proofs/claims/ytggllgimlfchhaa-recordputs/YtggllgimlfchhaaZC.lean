/- Record: keys, read. -/
import Derived.Test.YtggllgimlfchhaaZB
import Derived.Laws.Rows
namespace Go.Proofs.Ytggllgimlfchhaa
open Go.RowKit
set_option maxRecDepth 100000

theorem But.same {R b : Nat} {w w' : World} (h : But R w w') {o : Obj} (hb : w.heap[b]? = some o) (hR : b ≠ R) : w'.heap[b]? = some o :=
  (h.block b (Array.getElem?_eq_some_iff.1 hb).1 hR).trans hb
theorem cell_of_heap {w : World} {b o : Nat} {cs : Array Value} {T : TypeId} (h : w.heap[b]? = some (.cells cs T)) : w.cell? ⟨b, o, none⟩ = cs[o]? := by
  simp [World.cell?, h]
theorem frozen_of_heap {w : World} {b o : Nat} {cs : Array Value} {T : TypeId} (h : w.heap[b]? = some (.cells cs T)) : w.frozen? ⟨b, o, none⟩ = false := by
  simp [World.frozen?, h]
theorem setCell_heap {w : World} {b o : Nat} {cs : Array Value} {T : TypeId} {u : Value} (h : w.heap[b]? = some (.cells cs T)) : (w.setCell ⟨b, o, none⟩ u).heap[b]? = some (.cells (cs.setIfInBounds o u) T) := by
  have hlt := (Array.getElem?_eq_some_iff.1 h).1
  have e : w.heap[b] = .cells cs T := by rw [Array.getElem?_eq_getElem hlt] at h; exact Option.some.inj h
  simp only [World.setCell]
  rw [Array.getElem?_eq_getElem (by simpa using hlt), Array.getElem_modify]
  simp [e]

theorem Rd.keep {w w' : World} {R lo : Nat} {zs : List Int} {er : Int} {un : Bool} (h : Rd w R lo zs er un) (hk : ∀ k, k = R ∨ k < lo → w'.heap[k]? = w.heap[k]?) : Rd w' R lo zs er un := by
  obtain ⟨v, h1, ao, cap, hv, hl, hn, ha⟩ := h.cb
  have c : ∀ o u, w.cell? ⟨R, o, none⟩ = some u → w'.cell? ⟨R, o, none⟩ = some u := fun o u e => (World.cell?_of_block (w := w) (hk R (.inl rfl))).trans e
  exact ⟨⟨v, c _ _ h1, ao, cap, hv, hl, hn, fun a e t ht => ⟨(World.cell?_of_block (w := w) (hk _ (.inr (ha a e t ht).2))).trans (ha a e t ht).1, (ha a e t ht).2⟩⟩, c _ _ h.ce, c _ _ h.cu, fun o => (World.frozen?_of_block (w := w) (hk R (.inl rfl))).trans (h.fr o), h.lt, h.byt, h.len⟩
theorem But.new {R b : Nat} {w w' : World} (h : But R w w') (hb : w.heap.size ≤ b) (o : Nat) (u : Value) : But R w (w'.setCell ⟨b, o, none⟩ u) :=
  ⟨h.os, h.tape, h.output, by have := h.size; simp only [World.setCell, Array.size_modify]; exact this, fun k hk hR => (Below.heap_setCell _ _ _ _ (fun e => by simp only at e; omega)).trans (h.block k hk hR)⟩
theorem Rd.other {w : World} {R lo b : Nat} {zs : List Int} {er : Int} {un : Bool} (h : Rd w R lo zs er un) (hb : R < b) (o : Nat) (u : Value) : Rd (w.setCell ⟨b, o, none⟩ u) R lo zs er un :=
  h.keep fun k hk => Below.heap_setCell _ _ _ _ (fun e => by simp only at e; have := h.lt; omega)

def RS.key (s : RS) : (Int × Int) × RS := ((s.fit32.1, s.fit32.2.num.1), s.fit32.2.num.2)
set_option maxHeartbeats 800000 in
theorem key_r {w : World} {R lo : Nat} {s : RS} (h : RdS w R lo s) :
    Calls Try.prog 80 #[.pointer (some ⟨R, 0, none⟩)] w fun e w' => e = .returned (.agg #[.int .i32 s.key.1.1, .int .i64 s.key.1.2]) ∧ RdS w' R lo s.key.2 ∧ But R w w' := by
  unfold RS.key
  simp only
  have hr := h.rlt
  have hal : Below w.heap.size w (w.alloc (.cells #[.int .i32 0, .int .i64 0] 64)) := (Below.refl _ _).alloc (Nat.le_refl _) _
  have HT := hide (fit32_r (h.below hal))
  have HB0 : Hid (But R w (w.alloc (.cells #[.int .i32 0, .int .i64 0] 64))) := But.of hal
  have HX : Hid ((w.alloc (.cells #[.int .i32 0, .int .i64 0] 64)).heap[w.heap.size]? = some (.cells #[.int .i32 0, .int .i64 0] 64)) := heap_alloc_new w _
  clear h hal
  generalize s.fit32 = p at HT ⊢
  obtain ⟨a, s1⟩ := p
  simp only at HT ⊢
  go_enter Try.func80, Try.ntmps80
  go_wp2_with fail
  refine (unhide HT).mono ?_
  rintro e w1 ⟨rfl, h1, h2⟩
  have HT2 := hide (num_r h1)
  have HB1 := hide ((unhide HB0).trans h2)
  have HX1 := hide (h2.same (unhide HX) (by omega))
  clear h1 h2 HT
  go_wp2_with fail
  refine (unhide HT2).mono ?_
  rintro e w2 ⟨rfl, h1, h2⟩
  have hx2 := h2.same (unhide HX1) (by omega)
  have q0 : w2.cell? ⟨w.heap.size, 0, none⟩ = some (.int .i32 0) := cell_of_heap hx2
  have q1 : w2.cell? ⟨w.heap.size, 1, none⟩ = some (.int .i64 0) := cell_of_heap hx2
  have fz : ∀ o, w2.frozen? ⟨w.heap.size, o, none⟩ = false := fun o => frozen_of_heap hx2
  have HX2 := hide hx2
  have HR2 := hide h1
  have HB2 := hide ((unhide HB1).trans h2)
  clear h1 h2 hx2 HT2
  go_wp2_with fail
  refine bodyPost_ret (results_cell_row rfl _ _ w.heap.size 64 #[.int .i32 a, .int .i64 s1.num.1] (0, 0) _ rfl (setCell_heap (setCell_heap (unhide HX2))) Try.underlying64 rfl (by kernel_rfl)) rfl ?_
  exact ⟨rfl, ((unhide HR2).other hr _ _).other hr _ _, ((unhide HB2).new (Nat.le_refl _) _ _).new (Nat.le_refl _) _ _⟩
end Go.Proofs.Ytggllgimlfchhaa
