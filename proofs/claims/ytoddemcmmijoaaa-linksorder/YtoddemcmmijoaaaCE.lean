/- Record: the document's plain: what a message of a kind has. -/
import Derived.Test.YtoddemcmmijoaaaKC
namespace Go.Proofs.Ytoddemcmmijoaaa
open Go.RowKit
set_option maxRecDepth 100000

/-- What of a message its kind has. -/
def plainM (m : MsgD) : MsgD :=
  if m.kind = 1 then ⟨m.kind, m.frm, m.to, m.term, m.slot, m.last, 0, false, [], dE, dP⟩ else if m.kind = 2 then ⟨m.kind, m.frm, m.to, m.term, 0, 0, 0, m.yes, [], dE, dP⟩ else if m.kind = 3 then ⟨m.kind, m.frm, m.to, m.term, m.slot, m.last, m.commit, false, m.list, dE, dP⟩ else if m.kind = 4 then ⟨m.kind, m.frm, m.to, m.term, m.slot, 0, 0, m.yes, [], dE, dP⟩ else if m.kind = 5 then ⟨m.kind, m.frm, m.to, m.term, m.slot, m.last, 0, false, [], dE, m.part⟩ else if m.kind = 6 then ⟨m.kind, m.frm, m.to, 0, 0, 0, 0, false, [], m.ent, dP⟩ else ⟨m.kind, m.frm, m.to, m.term, 0, 0, 0, false, [], dE, dP⟩
def StX (w v : World) (cs : Array Value) (om oz : Obj) : Prop := v.heap[w.heap.size + 1 + 1]? = some (.cells cs 38) ∧ v.heap[w.heap.size]? = some om ∧ v.heap[w.heap.size + 1]? = some oz ∧ Below w.heap.size w v
theorem stepX {w v : World} {cs : Array Value} {om oz : Obj} (h : StX w v cs om oz) (i : Nat) (x : Value) : StX w (v.setCell ⟨w.heap.size + 1 + 1, i, none⟩ x) (cs.setIfInBounds i x) om oz :=
  ⟨setCell_heap h.1, (Below.heap_setCell _ _ _ _ (fun e => by simp only at e; omega)).trans h.2.1, (Below.heap_setCell _ _ _ _ (fun e => by simp only at e; omega)).trans h.2.2.1, h.2.2.2.setCell (p := ⟨w.heap.size + 1 + 1, i, none⟩) (by simp; omega) _⟩

end Go.Proofs.Ytoddemcmmijoaaa
