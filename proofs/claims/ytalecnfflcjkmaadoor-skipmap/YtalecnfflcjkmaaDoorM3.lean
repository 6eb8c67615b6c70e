/- Marks among the deferred calls; a range over what follows a node, in a world of which two boxes alone may turn. -/
import Derived.Test.YtalecnfflcjkmaaDoorM2
namespace Go.Proofs.YtalecnfflcjkmaaDoor
open Go.RowKit Go.Shelf
attribute [local go_sem] Oper.semAt_some
set_option maxRecDepth 100000

theorem grownBy_drew (A : World) : A.grownBy A.drew none := ⟨rfl, rfl, rfl, Nat.le_refl _, fun _ _ _ => rfl⟩
theorem OwnFrom.drew {β : Type} {N : Nat} {I : β → World → Prop} (h : OwnFrom N I) {s : β} {A : World} (hs : I s A) : I s A.drew := h s A _ none hs (grownBy_drew A) (fun r e => by cases e)
theorem ownFrom_cell {β : Type} (N : Nat) (p : Addr) (v : β → Value) : OwnFrom N (fun (s : β) (W : World) => W.cell? p = some (v s)) := fun _ _ _ _ hs hg hr => cell_kept hs hg (fun r e => (hr r e).2)
theorem ownFrom_frozen {β : Type} (N : Nat) (p : Addr) (v : β → Value) : OwnFrom N (fun (s : β) (W : World) => W.cell? p = some (v s) ∧ W.frozen? p = false) := fun _ _ _ _ hs hg hr =>
  ⟨cell_kept hs.1 hg (fun r e => (hr r e).2), (frozen_kept hs.1 hg (fun r e => (hr r e).2)).trans hs.2⟩
theorem ownFrom_upd {β : Type} {S : Nat → Prop} {B : Nat} {w0 : World} (hB : B ≤ w0.heap.size) : OwnFrom B (fun (_ : β) W => Upd S B w0 W) := fun _ _ _ _ hs hg hr =>
  hs.trans ⟨hg.os, hg.tape, hg.output, hg.size, fun k hk _ => hg.block k (by have := hs.size; omega) fun e => by have := (hr k e.symm).1; omega⟩

/-- The marks that ranges have left behind. -/
structure Marks (ds : List Deferred) (w : World) : Prop where
  all : ∀ d ∈ ds, ∃ D, d = { target := .collected D, args := #[] } ∧ w.heap[D]? = some (.deferred (some []))
  nodup : ds.Nodup
def isMark (ds : List Deferred) (k : Nat) : Prop := { target := .collected k, args := #[] } ∈ ds
theorem Marks.nil (w : World) : Marks [] w := ⟨fun d h => (by cases h), List.nodup_nil⟩
theorem Marks.keep {ds : List Deferred} {w w' : World} (h : Marks ds w) (hk : ∀ k, isMark ds k → w'.heap[k]? = w.heap[k]?) : Marks ds w' :=
  ⟨fun d hd => by obtain ⟨D, rfl, hD⟩ := h.all d hd; exact ⟨D, rfl, (hk D hd).trans hD⟩, h.nodup⟩
theorem Marks.at {ds : List Deferred} {w : World} (h : Marks ds w) {k : Nat} (hk : isMark ds k) : w.heap[k]? = some (.deferred (some [])) := by
  obtain ⟨D, e, hD⟩ := h.all _ hk
  simp only [Deferred.mk.injEq, Target.collected.injEq, and_true] at e
  rw [e]; exact hD
theorem Marks.lt {ds : List Deferred} {w : World} (h : Marks ds w) {k : Nat} (hk : isMark ds k) : k < w.heap.size := (Array.getElem?_eq_some_iff.1 (h.at hk)).1
theorem Marks.cons {ds : List Deferred} {w : World} {D : Nat} (h : Marks ds w) (hD : w.heap[D]? = some (.deferred (some []))) (hn : ¬ isMark ds D) : Marks ({ target := .collected D, args := #[] } :: ds) w :=
  ⟨fun d hd => by rcases List.mem_cons.1 hd with rfl | hd; exact ⟨D, rfl, hD⟩; exact h.all d hd, List.nodup_cons.2 ⟨hn, h.nodup⟩⟩
theorem leave_marks {F : Fence} {n : Nat} {P : Program} {fn : Func} {tmps : Array Value} {R : Ending → World → Prop} {ds : List Deferred} {w : World} (h : Marks ds w)
    (hf : ∀ w', Upd (isMark ds) w.heap.size w w' → LeavesInM F n P fn tmps R [] .returning w') : LeavesInM F n P fn tmps R ds .returning w := by
  induction ds generalizing w with
  | nil => exact hf w (Upd.refl _ _ _)
  | cons d ds ih =>
    obtain ⟨D, rfl, hD⟩ := h.all d List.mem_cons_self
    have hl := (Array.getElem?_eq_some_iff.1 hD).1
    refine ⟨by simp, .inl ⟨D, _, rfl, run_takeDeferred hD, ih ⟨fun e he => ?_, (List.nodup_cons.1 h.nodup).2⟩ fun w' hw => hf w' ?_⟩⟩
    · obtain ⟨D', rfl, hD'⟩ := h.all e (List.mem_cons_of_mem _ he)
      refine ⟨D', rfl, (World.putObj_heap_other ?_).trans hD'⟩
      rintro rfl
      exact (List.nodup_cons.1 h.nodup).1 he
    · refine ⟨hw.os, hw.tape, hw.output, ?_, fun k hk hn => ?_⟩
      · have := hw.size
        simpa [World.putObj] using this
      · refine (hw.block k (by simpa [World.putObj] using hk) fun c => hn (List.mem_cons_of_mem _ c)).trans (World.putObj_heap_other ?_)
        rintro rfl
        exact hn List.mem_cons_self

def OkF (F : List Nd) (pre : List Nd) (x : Nd) : Prop := ∃ r, pre ++ x :: r = F
theorem behind_seq (n bx lev q : Nat) (hl : lev < 8) (R : List Nd) (N : Nat → Nat → Value) (b : Nat → Prop) (w : World) (hd : (R.map (·.p)).Nodup) (hk : Lk N lev q R)
    (c0 : w.cell? ⟨bx, 0, none⟩ = some (PN q)) (c1 : w.cell? ⟨bx + 1, 0, none⟩ = some (.int .i64 lev)) (cq : w.cell? ⟨q, 5 + lev, none⟩ = some (N q lev)) (cF : ∀ m ∈ R, w.cell? ⟨m.p, 5 + lev, none⟩ = some (N m.p lev))
    (b1 : b (bx + 1)) (bF : ∀ m ∈ R, b m.p) :
    SeqOk Fence.wide n Tryd.prog 85 #[PN bx, PN (bx + 1)] (fun m : Nd => #[PN m.p]) (OkF (onL lev R)) (Keepb b) (fun xs => xs = onL lev R) w := fun l J Jx W hW hJ hY hj0 => by
  have up : ∀ {p : Addr} {v : Value}, w.cell? p = some v → W.cell? p = some v := fun {p v} h => (hW.cell (p := p) (World.block_lt_of_cell? w _ h)).trans h
  refine behind1_in n l bx lev q hl (onL lev R) N b J Jx W (fun s A h => OwnFrom.drew hJ h) hY (fun m hm => (onL_high hm).2) ?_ hk.onL (up c0) (up c1) (up cq) (fun m hm => up (cF m (onL_high hm).1)) b1 (fun m hm => bF m (onL_high hm).1) hj0
  exact hd.sublist (List.filter_sublist.map _)
end Go.Proofs.YtalecnfflcjkmaaDoor
