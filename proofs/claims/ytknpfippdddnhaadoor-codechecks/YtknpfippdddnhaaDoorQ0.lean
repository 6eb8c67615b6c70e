/- Frames for ranges over an iterator: blocks that are kept, blocks that may turn. -/
import Derived.Test.YtknpfippdddnhaaDoorJL
import Derived.Test.YtknpfippdddnhaaDoorY2
namespace Go.Proofs.YtknpfippdddnhaaDoor
open Go.RowKit Go.Shelf
set_option maxRecDepth 100000

structure Upd (S : Nat → Prop) (N : Nat) (w w' : World) : Prop where
  os : w'.os = w.os
  tape : w'.tape = w.tape
  output : w'.output = w.output
  size : w.heap.size ≤ w'.heap.size
  block : ∀ k, k < N → ¬ S k → w'.heap[k]? = w.heap[k]?

theorem Upd.refl (S : Nat → Prop) (N : Nat) (w : World) : Upd S N w w := ⟨rfl, rfl, rfl, Nat.le_refl _, fun _ _ _ => rfl⟩
theorem Upd.trans {S : Nat → Prop} {N : Nat} {a b c : World} (h : Upd S N a b) (k : Upd S N b c) : Upd S N a c :=
  ⟨k.os.trans h.os, k.tape.trans h.tape, k.output.trans h.output, Nat.le_trans h.size k.size, fun i hi hs => (k.block i hi hs).trans (h.block i hi hs)⟩
theorem Upd.mono {S S' : Nat → Prop} {N N' : Nat} {w w' : World} (h : Upd S N w w') (hN : N' ≤ N) (hS : ∀ k, k < N' → S k → S' k) : Upd S' N' w w' :=
  ⟨h.os, h.tape, h.output, h.size, fun k hk hs => h.block k (by omega) (fun c => hs (hS k hk c))⟩
theorem Upd.less {S : Nat → Prop} {N N' : Nat} {w w' : World} (h : Upd S N w w') (hN : N' ≤ N) : Upd S N' w w' := h.mono hN fun _ _ c => c
theorem Upd.drew {S : Nat → Prop} {N : Nat} {a w : World} (h : Upd S N a w) : Upd S N a w.drew := ⟨h.os, h.tape, h.output, h.size, h.block⟩
theorem Upd.alloc {S : Nat → Prop} {N : Nat} {a w : World} (h : Upd S N a w) (hN : N ≤ w.heap.size) (o : Obj) : Upd S N a (w.alloc o) :=
  h.trans ⟨rfl, rfl, rfl, by simp, fun k hk _ => Below.heap_alloc _ _ _ (by omega)⟩
theorem Upd.setCell {S : Nat → Prop} {N : Nat} {a w : World} (h : Upd S N a w) {p : Addr} (hp : S p.block ∨ N ≤ p.block) (u : Value) : Upd S N a (w.setCell p u) :=
  h.trans ⟨rfl, rfl, rfl, by simp [World.setCell], fun k hk hs => Below.heap_setCell _ _ _ _ (by rintro rfl; rcases hp with hp | hp; exact hs hp; omega)⟩
theorem Upd.of {S : Nat → Prop} {B : Nat} {w w' : World} (h : Below B w w') : Upd S B w w' := ⟨h.os, h.tape, h.output, h.size, fun k hk _ => h.block k hk⟩
theorem Upd.below {S : Nat → Prop} {N B : Nat} {w w' : World} (h : Upd S N w w') (hB : B ≤ N) (hS : ∀ k, k < B → ¬ S k) : Below B w w' := ⟨h.os, h.tape, h.output, h.size, fun k hk => h.block k (by omega) (hS k hk)⟩
theorem Upd.cell {S : Nat → Prop} {N : Nat} {w w' : World} (h : Upd S N w w') {p : Addr} (hp : p.block < N) (hs : ¬ S p.block) : w'.cell? p = w.cell? p := World.cell?_of_block (w := w) (h.block p.block hp hs)
theorem Upd.frozen {S : Nat → Prop} {N : Nat} {w w' : World} (h : Upd S N w w') {p : Addr} (hp : p.block < N) (hs : ¬ S p.block) : w'.frozen? p = w.frozen? p := World.frozen?_of_block (w := w) (h.block p.block hp hs)
/-- The blocks of b are as they were. -/
structure Keepb (b : Nat → Prop) (A B : World) : Prop where
  size : A.heap.size ≤ B.heap.size
  block : ∀ k, b k → B.heap[k]? = A.heap[k]?
theorem Keepb.refl (b : Nat → Prop) (A : World) : Keepb b A A := ⟨Nat.le_refl _, fun _ _ => rfl⟩
theorem Keepb.trans {b : Nat → Prop} {A B C : World} (h : Keepb b A B) (k : Keepb b B C) : Keepb b A C := ⟨Nat.le_trans h.size k.size, fun i hi => (k.block i hi).trans (h.block i hi)⟩
theorem Keepb.cell {b : Nat → Prop} {A B : World} (h : Keepb b A B) {p : Addr} (hp : b p.block) : B.cell? p = A.cell? p := World.cell?_of_block (w := A) (h.block p.block hp)
theorem keepb_t {b : Nat → Prop} {A B C : World} (h : Keepb b A B) (k : Keepb b B C) : Keepb b A C := h.trans k
theorem keepb_put {b : Nat → Prop} {l : Nat} (hb : ¬ b l) (W : World) (o o' : Obj) (_ : W.heap[l]? = some o) (_ : o.isCells = false) : Keepb b W (W.putObj l o') :=
  ⟨by simp [World.putObj], fun k hk => World.putObj_heap_other (by rintro rfl; exact hb hk)⟩
theorem keepb_upd {S b : Nat → Prop} {W W' : World} (h : Upd S W.heap.size W W') (hb : ∀ k, b k → k < W.heap.size ∧ ¬ S k) : Keepb b W W' := ⟨h.size, fun k hk => h.block k (hb k hk).1 (hb k hk).2⟩
theorem keepb_below {b : Nat → Prop} {W W' : World} (h : Below W.heap.size W W') (hb : ∀ k, b k → k < W.heap.size) : Keepb b W W' := ⟨h.size, fun k hk => h.block k (hb k hk)⟩
theorem keepsFrom_upd {S : Nat → Prop} {B : Nat} {W W' : World} (h : Upd S W.heap.size W W') (hS : ∀ k, S k → k < B) : KeepsFrom B W W' :=
  ⟨h.size, fun k o hk ho _ => (h.block k (Array.getElem?_eq_some_iff.1 ho).1 fun c => by have := hS k c; omega).trans ho⟩
theorem ownFrom_grew {β : Type} {N : Nat} {I : β → World → Prop} (h : OwnFrom N I) {s : β} {A B : World} (hs : I s A) (hb : Below A.heap.size A B) : I s B :=
  h s A B none hs ⟨hb.os, hb.tape, hb.output, hb.size, fun k hk _ => hb.block k hk⟩ (fun r e => by cases e)
theorem ownFrom_blk {β : Type} (N k : Nat) (f : β → Obj) (hk : k < N) : OwnFrom N (fun (s : β) (W : World) => W.heap[k]? = some (f s)) := fun s A B row hs hg hr =>
  (hg.block k (Array.getElem?_eq_some_iff.1 hs).1 (fun e => by have := (hr k e.symm).1; omega)).trans hs
theorem ownFrom_cells {β : Type} (N k : Nat) (f : β → Array Value) (T : TypeId) : OwnFrom N (fun (s : β) (W : World) => W.heap[k]? = some (.cells (f s) T)) := fun s A B row hs hg hr =>
  (hg.block k (Array.getElem?_eq_some_iff.1 hs).1 (fun e => by
    obtain ⟨_, o, ho, hc⟩ := hr k e.symm
    rw [show A.heap[k]? = _ from hs] at ho
    injection ho with ho
    subst ho
    simp [Obj.isCells] at hc)).trans hs
theorem ownFrom_pure {β : Type} (N : Nat) (p : β → Prop) : OwnFrom N (fun (s : β) (_ : World) => p s) := fun _ _ _ _ hs _ _ => hs
theorem ownFrom_upd {β : Type} {S : Nat → Prop} {B : Nat} {w0 : World} (hB : B ≤ w0.heap.size) : OwnFrom B (fun (_ : β) W => Upd S B w0 W) := fun _ _ _ _ hs hg hr =>
  hs.trans ⟨hg.os, hg.tape, hg.output, hg.size, fun k hk _ => hg.block k (by have := hs.size; omega) fun e => by have := (hr k e.symm).1; omega⟩
/-- What is seen lies in one block. -/
theorem SeesL.inBlock {α : Type} {c : α → List Value} {k : Nat} (hk : ∀ x, (c x).length = k) {w : World} {v : Value} {l : List α} (h : SeesL c k w v l) : ∃ gb, (0 < l.length → 0 < k → gb < w.heap.size) ∧ ∀ w', w'.heap[gb]? = w.heap[gb]? → SeesL c k w' v l := by
  obtain ⟨ao, cap, gb, ob, h1, h2, h3, h4, h5, h6⟩ := h
  refine ⟨gb, fun h0 hp => ?_, fun w' e => ⟨ao, cap, gb, ob, h1, h2, h3, h4, h5, fun t x hx j hj => ?_⟩⟩
  · have := h6 0 _ (List.getElem?_eq_getElem h0) 0 hp
    rw [List.getElem?_eq_getElem (by rw [hk]; exact hp)] at this
    exact World.block_lt_of_cell? w _ this
  · rw [← h6 t x hx j hj]
    exact World.cell?_of_block (w := w) (w' := w') e
end Go.Proofs.YtknpfippdddnhaaDoor
