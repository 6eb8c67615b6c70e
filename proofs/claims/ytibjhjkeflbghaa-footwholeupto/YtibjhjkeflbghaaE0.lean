/- Keys compared. -/
import Derived.Test.YtibjhjkeflbghaaC2
namespace Go.Proofs.Ytibjhjkeflbghaa
open Go.RowKit
set_option maxRecDepth 100000

/-- A key in a box, as long as nothing below turns. -/
theorem box_cells {y : World} {g : Nat} {a b : Int} (h : y.heap[g]? = some (.cells #[.int .i32 a, .int .i64 b] 37)) {x : World} (hb : Below y.heap.size y x) : x.cell? ⟨g, 0, none⟩ = some (.int .i32 a) ∧ x.cell? ⟨g, 1, none⟩ = some (.int .i64 b) := by
  have := (hb.block g (Array.getElem?_eq_some_iff.1 h).1).trans h
  exact ⟨cell_at this, cell_at this⟩
theorem cmp_from {y : World} {a b : Ky} {r : Int} (hr : cmpK a b = r) {x : World} (hb : Below y.heap.size y x) : Calls Try.prog 55 #[.agg #[.int .i32 a.1, .int .i64 a.2], .agg #[.int .i32 b.1, .int .i64 b.2]] x fun e w' => e = .returned (.int .i64 r) ∧ Below y.heap.size y w' := by
  subst hr
  exact (compare_any a.1 a.2 b.1 b.2 x).mono fun _ _ ⟨h1, h2⟩ => ⟨h1, hb.trans (h2.below.mono hb.size)⟩
theorem cmpK_trans {a b c : Ky} (h1 : cmpK a b ≤ 0) (h2 : cmpK b c ≤ 0) : cmpK a c ≤ 0 := by
  have e : ∀ x y : Ky, cmpK x y ≤ 0 ↔ ¬ ltK y x := fun x y => by
    rw [← cmpK_neg y x, cmpK_anti x y]
    omega
  rw [e] at *
  unfold ltK at *
  omega
end Go.Proofs.Ytibjhjkeflbghaa
