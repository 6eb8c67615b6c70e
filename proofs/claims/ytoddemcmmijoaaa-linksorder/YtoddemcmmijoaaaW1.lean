/- Contracts of Size, putLow, copied, putNums. -/
import Derived.Test.YtoddemcmmijoaaaW0
namespace Go.Proofs.Ytoddemcmmijoaaa
open Go.RowKit
set_option maxRecDepth 100000

/-- How many bytes numbers have in all. -/
def sizeL : List Int → Nat
  | [] => 0
  | x :: r => 1 + wid (mag x) + sizeL r

theorem sizeL_append (a b : List Int) : sizeL (a ++ b) = sizeL a + sizeL b := by
  induction a with
  | nil => simp [sizeL]
  | cons x r ih => simp only [List.cons_append, sizeL, ih]; omega
theorem sizeL_le (l : List Int) : sizeL l ≤ 9 * l.length := by
  induction l with
  | nil => simp [sizeL]
  | cons x r ih => have := wid_le (mag x); simp only [sizeL, List.length_cons]; omega
theorem take_snoc (l : List Int) (k : Nat) (h : k < l.length) : l.take (k + 1) = l.take k ++ [l.getD k 0] := by
  rw [List.take_succ_eq_append_getElem h]; simp [List.getD, h]
theorem sizeL_take (l : List Int) (k : Nat) (h : k < l.length) : sizeL (l.take (k + 1)) = sizeL (l.take k) + (1 + wid (mag (l.getD k 0))) := by
  rw [take_snoc l k h, sizeL_append]; simp [sizeL]

theorem mag_bounds (x : Int) (h1 : -9223372036854775808 ≤ x) (h2 : x ≤ 9223372036854775807) : 0 ≤ mag x ∧ mag x ≤ 9223372036854775808 := by
  unfold mag; split <;> omega

end Go.Proofs.Ytoddemcmmijoaaa
