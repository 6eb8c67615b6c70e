/- How an argument of bytes, as the row hands it over, is seen by the walks. -/
import Derived.Test.YteehhbgjjamjiaaRows
import Derived.Test.YteehhbgjjamjiaaMem
import Derived.WalkKit
import Derived.ProofKit
import Derived.OpenShut
import Derived.ShutString
import Derived.ChangeOld
import Derived.Below
import Derived.SizedLaws
import Derived.JoinedCond
namespace Go.Proofs.Yteehhbgjjamjiaa
open Go.ChangeShapes Go.WideShapes Go.ChangeAt Go.RowKit

theorem ownK : ownKnob Try.prog.godebug = none := by kernel_rfl
theorem laidOut : laidOutB Try.prog = true := by kernel_rfl
theorem Try.bytes5 : Try.prog.bytesOf 5 = 1 := by kernel_rfl

theorem byte_wf {n : Int} (h : (Lit.int .u8 n).wf = true) : 0 ≤ n ∧ n ≤ 255 := bounds_u8 h

/-- Bytes that came in: what they are, where they lie. -/
theorem view_bytes {H : Type} {enc : TypeId × Value → H} {W : World} {fuel : Nat} {a0 : Option Addr} {len cap : Nat} {d : DataW H} {p : List MemPlace}
    (hf : DataW.trod enc Try.prog W 0 (fun _ => true) true fuel 28 (Value.slice a0 len cap).cells.toList = some (d, p)) :
    ∃ (zs : List Int) (gb ob : Nat), zs.length = len ∧ Sees W .u8 (.slice a0 len cap) zs ∧ Byt zs ∧ (0 < len → a0 = some ⟨gb, ob, none⟩) ∧ (∀ t, t < len → MemPlace.cell gb (ob + t) ∈ p) ∧ ((d = .nil ∧ len = 0) ∨ ∃ es sp, d = .slice es sp ∧ es.length = len) := by
  rcases open_ints Try.underlying28 Try.underlying5 (by kernel_rfl) hf with ⟨hcs, hx⟩ | ⟨x, l, c, zs, hcs, _, hl, hm, hz, hx, hcell, hwz⟩
  · simp [Value.cells] at hcs
    obtain ⟨rfl, rfl, rfl⟩ := hcs
    simp only [Prod.mk.injEq] at hx
    exact ⟨[], 0, 0, rfl, Sees.nil _ _, (fun b hb => by cases hb), (fun h => by omega), (fun t h => by omega), .inl ⟨hx.1, rfl⟩⟩
  · simp [Value.cells] at hcs
    obtain ⟨rfl, rfl, rfl⟩ := hcs
    simp only [if_true] at hz
    simp only [Prod.mk.injEq] at hx
    have hlen : (zs.take len).length = len := by simp; omega
    refine ⟨zs.take len, x.block, x.off, hlen, ⟨_, cap, by rw [hlen], by rw [hlen]; exact hl, (fun h => by cases h), fun a h t ht => ?_⟩, fun b hb => byte_wf (hwz b (List.mem_of_mem_take hb)), fun h0 => ?_, fun t ht => ?_, .inr ⟨_, _, hx.1, by simp [lits]; omega⟩⟩
    · obtain rfl := Option.some.inj h
      rw [hlen] at ht
      rw [hcell t (by omega)]
      simp [List.getD, ht]
    · obtain ⟨b, o, s⟩ := x
      have hspot : s = none := by simpa [Addr.add] using World.cell?_spot (hcell 0 (by omega))
      subst hspot
      rfl
    · rw [hx.2]
      obtain ⟨b, o, s⟩ := x
      have hspot : s = none := by simpa [Addr.add] using World.cell?_spot (hcell 0 (by omega))
      subst hspot
      exact MemPlace.mem_row.2 ⟨t, by omega, rfl⟩

end Go.Proofs.Yteehhbgjjamjiaa
