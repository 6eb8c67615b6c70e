/- Record: the reader's small parts. -/
import Derived.Test.YtoddemcmmijoaaaZA
namespace Go.Proofs.Ytoddemcmmijoaaa
open Go.RowKit
set_option maxRecDepth 100000

theorem must_true (s : RS) : s.must true = s := by simp [RS.must]
theorem must_er (s : RS) (b : Bool) (h : s.er ≠ 0) : s.must b = s := by simp [RS.must, h]
theorem must_false (s : RS) (h : s.er = 0) : s.must false = { s with er := 40 } := by simp [RS.must, h]
def w32 (n : Int) : Int := wrap32 n
theorem w32_bounds (n : Int) : -2147483648 ≤ w32 n ∧ w32 n ≤ 2147483647 := by
  unfold w32 wrap32
  omega
def RS.fit32 (s : RS) : Int × RS := (w32 s.num.1, if w32 s.num.1 = s.num.1 then s.num.2 else { s.num.2 with un := true })
theorem fit32_yes {s : RS} (h : w32 s.num.1 = s.num.1) : s.fit32 = (w32 s.num.1, s.num.2) := by unfold RS.fit32; rw [if_pos h]
theorem fit32_no {s : RS} (h : w32 s.num.1 ≠ s.num.1) : s.fit32 = (w32 s.num.1, { s.num.2 with un := true }) := by unfold RS.fit32; rw [if_neg h]
def RS.kind (s : RS) (lo hi : Int) : Int × RS := (s.num.1, s.num.2.must (decide (lo ≤ s.num.1 ∧ s.num.1 ≤ hi)))
end Go.Proofs.Ytoddemcmmijoaaa
