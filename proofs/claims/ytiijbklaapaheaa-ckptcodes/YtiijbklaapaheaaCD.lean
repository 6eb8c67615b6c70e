/- Checkpoints: a region's halves: size, page, halves. -/
import Derived.Test.YtiijbklaapaheaaCB
import Derived.Test.YtiijbklaapaheaaKE
import Derived.Test.YtiijbklaapaheaaM6
namespace Go.Proofs.Ytiijbklaapaheaa
open Go.RowKit
set_option maxRecDepth 100000

/-- A half: its flash, first block, how many. -/
abbrev halfV (h : Nat) (f n : Int) : Value := .agg #[P0 h, .int .i64 f, .int .i64 n]

set_option maxHeartbeats 800000 in
theorem hsize_any (h : Nat) (f : Int) (n : Nat) (w : World) (hn : n ≤ 1099511627776) :
    Calls Try.prog 41 #[halfV h f n] w fun e w' => e = .returned (.int .i64 ((n * 4096 : Nat) : Int)) ∧ Below w.heap.size w w' := by
  go_enter Try.func41, Try.ntmps41
  go_wp2
  go_ret
  exact ⟨by show Ending.returned (.int .i64 ((n : Int) * 16 * 256)) = _; rw [show ((n : Int) * 16 * 256) = ((n * 4096 : Nat) : Int) by omega], (Below.refl _ _).alloc (Nat.le_refl _) _⟩

set_option maxHeartbeats 800000 in
theorem page_any (h : Nat) (f i : Nat) (n : Int) (w : World) (hf : f ≤ 1099511627776) (hi : i ≤ 1099511627776) :
    Calls Try.prog 77 #[halfV h f n, .int .i64 i] w fun e w' => e = .returned (.tuple #[.int .i64 ((f + i / 16 : Nat) : Int), .int .i64 ((i % 16 : Nat) : Int)]) ∧ Below w.heap.size w w' := by
  go_enter Try.func77, Try.ntmps77
  go_wp2
  refine bodyPost_ret (v := .tuple #[.int .i64 ((f : Int) + (i : Int) / 16), .int .i64 ((i : Int) % 16)]) (by simp [results, Try.results77, go_sem]) rfl ?_
  exact ⟨by rw [Int.natCast_add, Int.natCast_ediv, Int.natCast_emod]; rfl, (Below.refl _ _).alloc (Nat.le_refl _) _⟩

set_option maxHeartbeats 1600000 in
theorem halves_any (h : Nat) (f n : Nat) (w : World) (hf : f ≤ 1099511627776) (hn : n ≤ 1099511627776) :
    Calls Try.prog 45 #[P0 h, .agg #[.int .i64 f, .int .i64 n]] w fun e w' => e = .returned (.agg #[P0 h, .int .i64 f, .int .i64 ((n / 2 : Nat) : Int), P0 h, .int .i64 ((f + n / 2 : Nat) : Int), .int .i64 ((n / 2 : Nat) : Int)]) ∧ Below w.heap.size w w' := by
  go_enter Try.func45, Try.ntmps45
  go_wp2
  refine bodyPost_ret (v := .agg #[P0 h, .int .i64 f, .int .i64 ((n : Int) / 2), P0 h, .int .i64 ((f : Int) + (n : Int) / 2), .int .i64 ((n : Int) / 2)]) (by simp [results, Try.results45, go_sem]) rfl ?_
  exact ⟨by rw [Int.natCast_add, Int.natCast_ediv]; rfl, ((Below.refl _ _).alloc (Nat.le_refl _) _).alloc (by simp) _⟩

end Go.Proofs.Ytiijbklaapaheaa
