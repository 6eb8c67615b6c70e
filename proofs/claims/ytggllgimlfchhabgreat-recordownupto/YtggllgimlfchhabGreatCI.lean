/- Loads of whole structs. -/
import Derived.Test.YtggllgimlfchhabGreatJU
import Derived.Deep.RegionHeld3
namespace Go.Proofs.YtggllgimlfchhabGreat
open Go.RowKit
set_option maxRecDepth 100000

theorem run_loadE {ρ : Operand → Value} {o : Oper} {s : Operand} {w : World} {g T : Nat} {cs : Array Value} {fs : Array Field} {v : Value} (ho : o.op = .load T s) (hs : ρ s = .pointer (some ⟨g, 0, none⟩)) (hg : w.heap[g]? = some (.cells cs T))
    (hu : Tryz.prog.underlying T = some (.struct fs)) (hi : (Tryz.prog.info? T).map (·.size) = some cs.size) (hv : Value.agg cs = v) :
    Sem.run Tryz.prog (execOp ρ o) w = .ok (.value v) w := by
  subst hv
  have h := run_loadVar_row (P := Tryz.prog) w g T T cs (0, 0) _ hg hu rfl hi
  unfold execOp
  rw [ho]
  simp only [hs, Instr.loadAt]
  simp [Instr.sureAddr, h]

end Go.Proofs.YtggllgimlfchhabGreat
