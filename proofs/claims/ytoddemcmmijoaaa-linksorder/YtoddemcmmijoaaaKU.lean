/- Several texts as one. -/
import Derived.Test.YtoddemcmmijoaaaW8
import Derived.Test.YtoddemcmmijoaaaWA

/- take of bytes; the reader's blob; TakeBlob. -/
namespace Go.Proofs.Ytoddemcmmijoaaa
open Go.RowKit
set_option maxRecDepth 100000

end Go.Proofs.Ytoddemcmmijoaaa

/- Contracts of TakeBlob and of the statements' own live. -/
namespace Go.Proofs.Ytoddemcmmijoaaa
open Go.RowKit
set_option maxRecDepth 100000

theorem tb_no (l : List Int) (h : (tb l).2.2 ≠ 0) : (tb l).1 = [] ∧ (tb l).2.1 = 0 := by
  unfold tb at h ⊢
  by_cases c1 : (tn l).2.2 ≠ 0
  · rw [if_pos c1]; exact ⟨rfl, rfl⟩
  rw [if_neg c1] at h ⊢
  by_cases c2 : (tn l).1 < 0
  · rw [if_pos c2]; exact ⟨rfl, rfl⟩
  rw [if_neg c2] at h ⊢
  by_cases c3 : (l.length : Int) - (tn l).2.1 < (tn l).1
  · rw [if_pos c3]; exact ⟨rfl, rfl⟩
  rw [if_neg c3] at h
  exact absurd rfl h

end Go.Proofs.Ytoddemcmmijoaaa
