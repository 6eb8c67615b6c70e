/- Bytes as an argument, with the greatest size that the row asks of them. -/
import Derived.SizedLaws
import Derived.Test.YtoddemcmmijoaaaKQ
namespace Go.Proofs.Ytoddemcmmijoaaa
open Go.ChangeShapes Go.WideShapes Go.ChangeAt Go.RowKit
set_option maxRecDepth 100000

theorem bytes_byte : Try.prog.bytesOf 5 = 1 := by kernel_rfl
theorem len_sized {H : Type} {ts : List TypeId} {ds : List (DataW H)} (h : (DataW.weightsEach Try.prog ts ds).all (· ≤ reachBytes) = true) {j : Nat} {d : DataW H} {len : Nat} (ht : ts[j]? = some 34) (hd : ds[j]? = some d) (hx : (d = .nil ∧ len = 0) ∨ ∃ es sp, d = .slice es sp ∧ es.length = len) : len ≤ 140737488351232 := by
  rcases hx with ⟨_, rfl⟩ | ⟨es, sp, rfl, rfl⟩
  · omega
  · have := sized_slice h ht hd Try.underlying34
    rw [bytes_byte] at this
    simp only [reachBytes] at this
    omega
end Go.Proofs.Ytoddemcmmijoaaa
