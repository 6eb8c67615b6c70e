/- Ranges over iterators that tell nothing. -/
import Derived.RangeFuncNested
import Derived.RangeFuncFrom
import Derived.RangeFuncBound
import Derived.RangeFuncCalls
import Derived.RangeFuncLeaves
import Derived.Shelf.Abstract
import Derived.OwnWalkIn
import Derived.TacticsInMore
import Derived.LoopNIn
import Derived.LoopIn
import Derived.Stop.RegionWithIn
import Derived.Test.YteenbebpdibbcaaE0
import Derived.Test.YteenbebpdibbcaaLV
namespace Go.Proofs.Yteenbebpdibbcaa
open Go.RowKit Go.Shelf
attribute [local go_sem] Oper.semAt_some
set_option maxRecDepth 100000

structure Keepb (b : Nat → Prop) (A B : World) : Prop where
  size : A.heap.size ≤ B.heap.size
  block : ∀ k, b k → B.heap[k]? = A.heap[k]?
theorem Keepb.refl (b : Nat → Prop) (A : World) : Keepb b A A := ⟨Nat.le_refl _, fun _ _ => rfl⟩
theorem Keepb.trans {b : Nat → Prop} {A B C : World} (h : Keepb b A B) (k : Keepb b B C) : Keepb b A C := ⟨Nat.le_trans h.size k.size, fun i hi => (k.block i hi).trans (h.block i hi)⟩
theorem Keepb.drew {b : Nat → Prop} {A : World} : Keepb b A A.drew := ⟨Nat.le_refl _, fun _ _ => rfl⟩
theorem Keepb.cell {b : Nat → Prop} {A B : World} (h : Keepb b A B) {p : Addr} (hp : b p.block) : B.cell? p = A.cell? p := World.cell?_of_block (w := A) (h.block p.block hp)

theorem grownBy_drew (A : World) : A.grownBy A.drew none := ⟨rfl, rfl, rfl, Nat.le_refl _, fun _ _ _ => rfl⟩
theorem OwnFrom.drew {β : Type} {N : Nat} {I : β → World → Prop} (h : OwnFrom N I) {s : β} {A : World} (hs : I s A) : I s A.drew := h s A _ none hs (grownBy_drew A) (fun r e => by cases e)
theorem ownFrom_cell {β : Type} (N : Nat) (p : Addr) (v : β → Value) : OwnFrom N (fun (s : β) (W : World) => W.cell? p = some (v s)) := fun _ _ _ _ hs hg hr => cell_kept hs hg (fun r e => (hr r e).2)
theorem ownFrom_frozen {β : Type} (N : Nat) (p : Addr) (v : β → Value) : OwnFrom N (fun (s : β) (W : World) => W.cell? p = some (v s) ∧ W.frozen? p = false) := fun _ _ _ _ hs hg hr =>
  ⟨cell_kept hs.1 hg (fun r e => (hr r e).2), (frozen_kept hs.1 hg (fun r e => (hr r e).2)).trans hs.2⟩
theorem ownFrom_upd {β : Type} {S : Nat → Prop} {B : Nat} {w0 : World} (hB : B ≤ w0.heap.size) : OwnFrom B (fun (_ : β) W => Upd S B w0 W) := fun _ _ _ _ hs hg hr =>
  hs.trans ⟨hg.os, hg.tape, hg.output, hg.size, fun k hk _ => hg.block k (by have := hs.size; omega) fun e => by have := (hr k e.symm).1; omega⟩

/-- The marks that ranges have left behind. -/
structure Marks (ds : List Deferred) (w : World) : Prop where
  all : ∀ d ∈ ds, ∃ D, d = { target := .collected D, args := #[] } ∧ w.heap[D]? = some (.deferred (some []))
  nodup : ds.Nodup
def isMark (ds : List Deferred) (k : Nat) : Prop := { target := .collected k, args := #[] } ∈ ds
theorem Marks.nil (w : World) : Marks [] w := ⟨fun d h => (by cases h), List.nodup_nil⟩
theorem Marks.keep {ds : List Deferred} {w w' : World} (h : Marks ds w) (hk : ∀ k, isMark ds k → w'.heap[k]? = w.heap[k]?) : Marks ds w' :=
  ⟨fun d hd => by obtain ⟨D, rfl, hD⟩ := h.all d hd; exact ⟨D, rfl, (hk D hd).trans hD⟩, h.nodup⟩
theorem Marks.at {ds : List Deferred} {w : World} (h : Marks ds w) {k : Nat} (hk : isMark ds k) : w.heap[k]? = some (.deferred (some [])) := by
  obtain ⟨D, e, hD⟩ := h.all _ hk
  simp only [Deferred.mk.injEq, Target.collected.injEq, and_true] at e
  rw [e]; exact hD
theorem Marks.lt {ds : List Deferred} {w : World} (h : Marks ds w) {k : Nat} (hk : isMark ds k) : k < w.heap.size := (Array.getElem?_eq_some_iff.1 (h.at hk)).1
theorem Marks.cons {ds : List Deferred} {w : World} {D : Nat} (h : Marks ds w) (hD : w.heap[D]? = some (.deferred (some []))) (hn : ¬ isMark ds D) : Marks ({ target := .collected D, args := #[] } :: ds) w :=
  ⟨fun d hd => by rcases List.mem_cons.1 hd with rfl | hd; exact ⟨D, rfl, hD⟩; exact h.all d hd, List.nodup_cons.2 ⟨hn, h.nodup⟩⟩
theorem leave_marks {F : Fence} {n : Nat} {P : Program} {fn : Func} {tmps : Array Value} {R : Ending → World → Prop} {ds : List Deferred} {w : World} (h : Marks ds w)
    (hf : ∀ w', Upd (isMark ds) w.heap.size w w' → LeavesInM F n P fn tmps R [] .returning w') : LeavesInM F n P fn tmps R ds .returning w := by
  induction ds generalizing w with
  | nil => exact hf w (Upd.refl _ _ _)
  | cons d ds ih =>
    obtain ⟨D, rfl, hD⟩ := h.all d List.mem_cons_self
    have hl := (Array.getElem?_eq_some_iff.1 hD).1
    refine ⟨by simp, .inl ⟨D, _, rfl, run_takeDeferred hD, ih ⟨fun e he => ?_, (List.nodup_cons.1 h.nodup).2⟩ fun w' hw => hf w' ?_⟩⟩
    · obtain ⟨D', rfl, hD'⟩ := h.all e (List.mem_cons_of_mem _ he)
      refine ⟨D', rfl, (World.putObj_heap_other ?_).trans hD'⟩
      rintro rfl
      exact (List.nodup_cons.1 h.nodup).1 he
    · refine ⟨hw.os, hw.tape, hw.output, ?_, fun k hk hn => ?_⟩
      · have := hw.size
        simpa [World.putObj] using this
      · refine (hw.block k (by simpa [World.putObj] using hk) fun c => hn (List.mem_cons_of_mem _ c)).trans (World.putObj_heap_other ?_)
        rintro rfl
        exact hn List.mem_cons_self

theorem box_set {W : World} {B : Nat} {v : Value} {t : TypeId} (v' : Value) (h : W.heap[B]? = some (.cells #[v] t)) : (W.setCell ⟨B, 0, none⟩ v').heap[B]? = some (.cells #[v'] t) := by
  rw [heap_setCell_same W B 0 _ t v' h]; rfl
theorem keepb_upd {S b : Nat → Prop} {W W' : World} (h : Upd S W.heap.size W W') (hb : ∀ k, b k → k < W.heap.size ∧ ¬ S k) : Keepb b W W' := ⟨h.size, fun k hk => h.block k (hb k hk).1 (hb k hk).2⟩
theorem ownFrom_blk {β : Type} (N k : Nat) (f : β → Obj) (hk : k < N) : OwnFrom N (fun (s : β) (W : World) => W.heap[k]? = some (f s)) := fun s A B row hs hg hr =>
  (hg.block k (Array.getElem?_eq_some_iff.1 hs).1 (fun e => by have := (hr k e.symm).1; omega)).trans hs
theorem ownFrom_pure {β : Type} (N : Nat) (p : β → Prop) : OwnFrom N (fun (s : β) (_ : World) => p s) := fun _ _ _ _ hs _ _ => hs
theorem keepb_t {b : Nat → Prop} {A B C : World} (h : Keepb b A B) (k : Keepb b B C) : Keepb b A C := h.trans k
theorem keepb_put {b : Nat → Prop} {l : Nat} (hb : ¬ b l) (W : World) (o o' : Obj) (_ : W.heap[l]? = some o) (_ : o.isCells = false) : Keepb b W (W.putObj l o') :=
  ⟨by simp [World.putObj], fun k hk => World.putObj_heap_other (by rintro rfl; exact hb hk)⟩

theorem none_seq {α : Type} (n : Nat) (encs : α → Array Value) (Ok : List α → α → Prop) (Kp : World → World → Prop) (w : World) : SeqOk Fence.wide n Try.prog 72 #[] encs Ok Kp (fun xs => xs = []) w := fun l J Jx W _ _ _ hj0 => by
  refine callsIn_of_wp Try.func72 rfl trivial ?_ rfl
  simp only [Try.ntmps72, List.size_toArray, List.length_cons, List.length_nil, Nat.reduceAdd, Nat.reduceSub, Array.replicate_succ, Array.replicate_zero, List.push_toArray, List.append_toArray, List.nil_append, List.cons_append]
  gi_wp2
  go_end0
  exact ⟨⟨_, rfl⟩, .inl ⟨_, rfl, hj0⟩⟩
end Go.Proofs.Yteenbebpdibbcaa
