/- read, where an instruction is whole and lemmas. -/
import Derived.Test.YtknpfippdddnhabDoorJW
import Derived.Test.YtknpfippdddnhabDoorW4
import Derived.Laws.Rows
namespace Go.Proofs.YtknpfippdddnhabDoor
open Go.RowKit
set_option maxRecDepth 100000

theorem slice_mid {T E : TypeId} {i : TypeInfo} {k : Nat} (hT : Tryd.prog.underlying T = some (.slice E)) (hi : Tryd.prog.info? E = some i) (hk : i.size = k) (ao : Option Addr) (n cap j h : Nat) (hj : j ≤ h) (hh : h ≤ cap) (w : World) :
    (Instr.slice T (.slice ao n cap) (some (.int .i64 j)) (some (.int .i64 h)) none).run Tryd.prog w = .ok (.slice (if cap = j then ao else ao.map (·.add (j * k))) (h - j) (cap - j)) w := by
  subst hk
  simp [Instr.slice, run_underlying hT, Instr.sliceBounds, Instr.sliceBound, asIntOf, sizeOf, typeInfo, hi, hj, hh]
theorem set5 {w : World} {b : Nat} {v0 v1 v2 v3 v4 : Value} {T : TypeId} (h : w.heap[b]? = some (.cells #[v0, v1, v2, v3, v4] T)) (a0 a1 a2 a3 a4 : Value) :
    (((((w.setCell ⟨b, 0, none⟩ a0).setCell ⟨b, 1, none⟩ a1).setCell ⟨b, 2, none⟩ a2).setCell ⟨b, 3, none⟩ a3).setCell ⟨b, 4, none⟩ a4).heap[b]? = some (.cells #[a0, a1, a2, a3, a4] T) := by
  have h0 : (w.setCell ⟨b, 0, none⟩ a0).heap[b]? = some (.cells #[a0, v1, v2, v3, v4] T) := heap_setCell_same w b 0 _ T a0 h
  have h1 := heap_setCell_same _ b 1 _ T a1 h0
  have h2 := heap_setCell_same _ b 2 _ T a2 h1
  have h3 := heap_setCell_same _ b 3 _ T a3 h2
  exact heap_setCell_same _ b 4 _ T a4 h3
theorem set5b {w0 w : World} {b B : Nat} (h : Below B w0 w) (hb : B ≤ b) (a0 a1 a2 a3 a4 : Value) :
    Below B w0 (((((w.setCell ⟨b, 0, none⟩ a0).setCell ⟨b, 1, none⟩ a1).setCell ⟨b, 2, none⟩ a2).setCell ⟨b, 3, none⟩ a3).setCell ⟨b, 4, none⟩ a4) :=
  ((((h.setCell hb _).setCell hb _).setCell hb _).setCell hb _).setCell hb _
/-- What reading an instruction ends with. -/
def Rds (w : World) (er : Int) (x : Ins) (e : Ending) (w' : World) : Prop := Below w.heap.size w w' ∧ (er = 0 → e = .returned (iV x.ad x.op x.a x.b x.im)) ∧ (er ≠ 0 → e = GiveUp er)
theorem cells5 {w : World} {b : Nat} {v0 v1 v2 v3 v4 : Value} {T : TypeId} (h : w.heap[b]? = some (.cells #[v0, v1, v2, v3, v4] T)) : w.cell? ⟨b, 0, none⟩ = some v0 ∧ w.cell? ⟨b, 1, none⟩ = some v1 ∧ w.cell? ⟨b, 2, none⟩ = some v2 ∧ w.cell? ⟨b, 3, none⟩ = some v3 ∧ w.cell? ⟨b, 4, none⟩ = some v4 := ⟨cell_at h, cell_at h, cell_at h, cell_at h, cell_at h⟩

end Go.Proofs.YtknpfippdddnhabDoor
