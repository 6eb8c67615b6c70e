/- A key's partition is one of those that there are. -/
import Derived.Test.YtibjhjkeflbghaaA2
namespace Go.Proofs.Ytibjhjkeflbghaa
open Go.RowKit
set_option maxRecDepth 100000

theorem xor64_range (a b : Int) : 0 ≤ bits .xor .u64 a b ∧ bits .xor .u64 a b < 18446744073709551616 := by
  show 0 ≤ IntKind.u64.wrap ((BitVec.ofInt 64 a ^^^ BitVec.ofInt 64 b).toNat : Int) ∧ IntKind.u64.wrap ((BitVec.ofInt 64 a ^^^ BitVec.ofInt 64 b).toNat : Int) < _
  rw [IntKind.wrap_u64]
  omega
theorem hashF_range (k : Int × Int) : 0 ≤ hashF k ∧ hashF k < 18446744073709551616 := xor64_range _ _
theorem partF_range (k : Int × Int) (n : Int) : 0 ≤ partF k n ∧ partF k n < manyF n := by
  have h1 := hashF_range k
  have h2 := manyF_range n
  unfold partF wrap64
  rw [IntKind.wrap_u64, IntKind.wrap_u64]
  generalize hashF k = h at *
  generalize manyF n = m at *
  have h3 : 0 ≤ h / 4294967296 ∧ h / 4294967296 < 4294967296 := by omega
  generalize h / 4294967296 = u at *
  have hm : m % 18446744073709551616 = m := by omega
  rw [hm]
  have hu : u * m ≤ u * 8 := Int.mul_le_mul_of_nonneg_left h2.2 h3.1
  have hu0 : 0 ≤ u * m := Int.mul_nonneg h3.1 (by omega)
  have hu1 : u * m < 4294967296 * m := Int.mul_lt_mul_of_pos_right h3.2 (by omega)
  generalize u * m = p at *
  omega
end Go.Proofs.Ytibjhjkeflbghaa
