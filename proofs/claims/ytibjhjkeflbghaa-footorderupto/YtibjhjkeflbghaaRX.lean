/- Transactions as arguments. -/
import Derived.Test.YtibjhjkeflbghaaRW
import Derived.Test.YtibjhjkeflbghaaKF
namespace Go.Proofs.Ytibjhjkeflbghaa
open Go.ChangeShapes Go.WideShapes Go.ChangeAt Go.RowKit Go.Deep
set_option maxRecDepth 100000

theorem Try.cells22 : Try.prog.cellsOf 22 = 1 := by kernel_rfl
theorem Try.cells23 : Try.prog.cellsOf 23 = 1 := by kernel_rfl
theorem Try.cells24 : Try.prog.cellsOf 24 = 1 := by kernel_rfl
theorem Try.cells26 : Try.prog.cellsOf 26 = 6 := by kernel_rfl
theorem list6 {α : Type} {l : List α} (h : l.length = 6) : ∃ a b c d e f, l = [a, b, c, d, e, f] := by
  match l, h with
  | [a, b, c, d, e, f], _ => exact ⟨a, b, c, d, e, f, rfl⟩
section
variable {H : Type} {enc : TypeId × Value → H} {W : World}
theorem view_slice {T E : TypeId} {fuel : Nat} {cs : List Value} {x : DataW H × List MemPlace} (hT : Try.prog.underlying T = some (.slice E)) (hf : DataW.trod enc Try.prog W 0 (fun _ => true) true fuel T cs = some x) : ∃ a n c, cs = [.slice a n c] := by
  rcases open_slice hT hf with ⟨rfl, _⟩ | ⟨a, len, c, m, fl, D, Pl, rfl, _⟩
  · exact ⟨none, 0, 0, rfl⟩
  · exact ⟨_, _, _, rfl⟩
theorem view_tx {fuel : Nat} {cs : List Value} {d : DataW H × List MemPlace} (hl : cs.length = 6) (hf : DataW.trod enc Try.prog W 0 (fun _ => true) true fuel 26 cs = some d) (hB : Light 26 d.1) : ∃ x : Tx, cs = xC x ∧ SeesX W x := by
  obtain ⟨xs, n, _, hd, _, hxl, hg⟩ := DataW.trod_struct Try.underlying26 hf
  obtain ⟨d1, d2⟩ := d
  obtain ⟨rfl, rfl⟩ := Prod.mk.inj hd
  obtain ⟨y0, y1, y2, y3, y4, y5, rfl⟩ := list6 hxl
  obtain ⟨v0, v1, v2, v3, v4, v5, rfl⟩ := list6 hl
  have g0 := hg 0 _ rfl
  have g1 := hg 1 _ rfl
  have g2 := hg 2 _ rfl
  have g3 := hg 3 _ rfl
  have g4 := hg 4 _ rfl
  have g5 := hg 5 _ rfl
  simp [Try.cells2, Try.cells22, Try.cells23, Try.cells24] at g0 g1 g2 g3 g4 g5
  obtain ⟨m0, e0, _, w0⟩ := DataW.trod_int Try.underlying2 g0
  obtain ⟨m1, e1, _, w1⟩ := DataW.trod_int Try.underlying2 g1
  obtain ⟨a2, n2, c2, e2⟩ := view_slice Try.underlying22 g2
  obtain ⟨a3, n3, c3, e3⟩ := view_slice Try.underlying23 g3
  obtain ⟨rv, l4, e4, hs4, ok4, k4⟩ := view_keysR g4 (light_field Try.underlying26 hB (i := 4) rfl rfl)
  obtain ⟨wv, l5, e5, hs5, ok5, k5⟩ := view_keysR g5 (light_field Try.underlying26 hB (i := 5) rfl rfl)
  simp only [List.cons.injEq, and_true] at e0 e1 e2 e3 e4 e5
  subst e0 e1 e2 e3 e4 e5
  exact ⟨⟨m0, m1, .slice a2 n2 c2, .slice a3 n3 c3, v4, v5, l4, l5⟩, rfl, ⟨hs4, hs5, ok4, ok5, k4, k5, ⟨_, _, _, rfl⟩, ⟨_, _, _, rfl⟩⟩⟩
theorem view_txArg {r : Reach} {b0 : Nat} {v : Value} {d : DataW H} {p : List MemPlace} (hval : Value.okWide Try.prog W r b0 26 v) (hf : DataW.Trod enc Try.prog W 0 (fun _ => true) true 26 v d p) (hB : Light 26 d) :
    ∃ x : Tx, v = xV x ∧ SeesX W x := by
  obtain ⟨cs, rfl, hsz⟩ := okWide_struct Try.underlying26 hval
  obtain ⟨fuel, hf⟩ := hf
  rw [Try.cells26] at hsz
  have e : (Value.agg cs).cells.toList = cs.toList := by simp [Value.cells]
  rw [e] at hf
  obtain ⟨x, hx, hs⟩ := view_tx (by simpa using hsz) hf hB
  refine ⟨x, ?_, hs⟩
  rw [show cs = cs.toList.toArray by simp, hx]
  rfl
end
end Go.Proofs.Ytibjhjkeflbghaa
