/- Several texts as one. -/
import Derived.Test.YtoddemcmmijoaaaW1
import Derived.Test.YtoddemcmmijoaaaMem

/- Contracts of putLow, copied, putNums. -/
namespace Go.Proofs.Ytoddemcmmijoaaa
open Go.RowKit
set_option maxRecDepth 100000

theorem Try.info5 : (Try.prog.info? 5).map (fun i => (i.zero, i.size, i.bytes)) = some (some (.int .u8 0), 1, 1) := by kernel_rfl

end Go.Proofs.Ytoddemcmmijoaaa

/- Contracts of Size, putNums, Num, Blob for every slice that is seen. -/
namespace Go.Proofs.Ytoddemcmmijoaaa
open Go.RowKit
set_option maxRecDepth 100000

/-- A number's bytes. -/
def numB (x : Int) : List Int := (2 * (wid (mag x) : Int) + (if x < 0 then 1 else 0)) :: lowL (wid (mag x)) (mag x)
/-- Numbers' bytes, one behind the other. -/
def putL : List Int → List Int
  | [] => []
  | x :: r => numB x ++ putL r

theorem numB_length (x : Int) : (numB x).length = 1 + wid (mag x) := by simp [numB, lowL_length]; omega
theorem putL_length (l : List Int) : (putL l).length = sizeL l := by
  induction l with
  | nil => rfl
  | cons x r ih => simp only [putL, List.length_append, numB_length, sizeL, ih]
theorem putL_append (a b : List Int) : putL (a ++ b) = putL a ++ putL b := by
  induction a with
  | nil => rfl
  | cons x r ih => simp only [List.cons_append, putL, ih, List.append_assoc]
theorem putL_take (l : List Int) (k : Nat) (h : k < l.length) : putL (l.take (k + 1)) = putL (l.take k) ++ numB (l.getD k 0) := by
  rw [take_snoc l k h, putL_append]; simp [putL]
theorem numB_byte (x : Int) : ∀ b ∈ numB x, 0 ≤ b ∧ b ≤ 255 := by
  intro b hb
  have := wid_le (mag x)
  simp only [numB, List.mem_cons] at hb
  rcases hb with rfl | hb
  · split <;> omega
  · exact lowL_byte _ _ b hb

def I64 (l : List Int) : Prop := ∀ t, t < l.length → -9223372036854775808 ≤ l.getD t 0 ∧ l.getD t 0 ≤ 9223372036854775807

theorem sees_apart {w : World} {k : IntKind} {lv : Value} {l : List Int} (hs : Sees w k lv l) {w' : World} : ∀ a c, lv = .slice (some a) l.length c → ∀ t, t < l.length → Apart w' w.heap.size (a.add t) := by
  intro a c e t ht
  obtain ⟨ao, cap, rfl, _, _, hc⟩ := hs
  simp only [Value.slice.injEq, true_and] at e
  exact .inl (World.block_lt_of_cell? w _ (hc a e.1 t ht))

end Go.Proofs.Ytoddemcmmijoaaa
