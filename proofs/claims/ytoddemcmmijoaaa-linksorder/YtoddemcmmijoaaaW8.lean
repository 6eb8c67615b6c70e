/- Contracts of take's deferred function. -/
import Derived.Test.YtoddemcmmijoaaaKT
import Derived.Defers
import Derived.Recover
import Derived.Laws.Pointers
namespace Go.Proofs.Ytoddemcmmijoaaa
open Go.RowKit
set_option maxRecDepth 100000

theorem tn_no (l : List Int) (h : (tn l).2.2 ≠ 0) : (tn l).1 = 0 ∧ (tn l).2.1 = 0 := by
  cases l with
  | nil => exact ⟨rfl, rfl⟩
  | cons x r =>
    simp only [tn] at h ⊢
    repeat' split
    all_goals first | exact ⟨rfl, rfl⟩ | (exfalso; apply h; simp only [*, if_true, if_false]; done) | skip
    all_goals simp_all

/-- The world in which take calls its part: the error's cell, and the reader. -/
def tw (w : World) (bv : Value) : World := (w.alloc (.cells #[.int .i64 0] 26)).alloc (.cells #[bv, .int .i64 0] 152)
theorem tw_below (w : World) (bv : Value) : Below w.heap.size w (tw w bv) := ((Below.refl _ _).alloc (Nat.le_refl _) _).alloc (by simp) _
theorem tw_size (w : World) (bv : Value) : (tw w bv).heap.size = w.heap.size + 2 := by simp [tw]
theorem tw_at (w : World) (bv : Value) : AtR (tw w bv) (w.heap.size + 1) bv 0 := by
  have := heap_alloc_new (w.alloc (.cells #[.int .i64 0] 26)) (.cells #[bv, .int .i64 0] 152)
  simpa [AtR, tw] using this
theorem tw_err (w : World) (bv : Value) : (tw w bv).heap[w.heap.size]? = some (.cells #[.int .i64 0] 26 (0, 0)) := by
  rw [tw, Below.heap_alloc _ _ _ (by simp)]
  exact heap_alloc_new w _
theorem tw_sees {w : World} {bv : Value} {zs : List Int} (hs : Sees w .u8 bv zs) : SeesB (w.heap.size + 1) (tw w bv) .u8 bv zs :=
  (hs.upto.below (tw_below w bv) (Nat.le_refl _)).mono (by omega)

end Go.Proofs.Ytoddemcmmijoaaa
