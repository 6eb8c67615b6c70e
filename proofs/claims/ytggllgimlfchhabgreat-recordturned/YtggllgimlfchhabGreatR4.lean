/- Eight bytes and the number that they are. -/
import Derived.Test.YtggllgimlfchhabGreatWG
namespace Go.Proofs.YtggllgimlfchhabGreat
open Go.RowKit

theorem val_low (bs : List Int) (hb : Byt bs) (hl : bs.length = 8) (c : Int) (h0 : 0 ≤ c) (h1 : c ≤ 18446744073709551615) : lowL 8 c = bs ↔ valL bs = c := by
  constructor
  · intro h
    rw [← h]
    exact valL_low 8 c h0 (by rw [B256_8]; omega)
  · intro h
    rw [← h, ← hl]
    exact low_valL bs hb
end Go.Proofs.YtggllgimlfchhabGreat
