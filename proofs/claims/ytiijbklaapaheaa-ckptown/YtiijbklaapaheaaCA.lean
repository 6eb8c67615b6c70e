/- Checkpoints: isSlot, fault, sealed, Encode. -/
import Derived.Test.YtiijbklaapaheaaWG
import Derived.Test.YtiijbklaapaheaaKH
import Derived.Deep.RegionHeld3
namespace Go.Proofs.Ytiijbklaapaheaa
open Go.RowKit

/-- A checkpoint's slot, or its term. -/
def isC (x : Int) : Bool := decide (0 ≤ x) && decide (x ≤ 1099511627776)
theorem isC_iff {x : Int} : isC x = true ↔ 0 ≤ x ∧ x ≤ 1099511627776 := by simp [isC]

set_option maxHeartbeats 400000 in
theorem isSlot_any (x : Int) (w : World) : Calls Try.prog 57 #[.int .i64 x] w fun e w' => e = .returned (.bool (isC x)) ∧ w = w' := by
  by_cases c : 0 ≤ x
  · go_enter Try.func57, Try.ntmps57
    go_wp2
    go_ret
    exact ⟨by unfold isC; simp [c], rfl⟩
  · go_enter Try.func57, Try.ntmps57
    go_wp2
    go_ret
    exact ⟨by unfold isC; simp; omega, rfl⟩

/-- What is wrong with a checkpoint. -/
def faultE (number slot last : Int) (len : Nat) : Int :=
  if 1 ≤ number ∧ number ≤ 1099511627776 ∧ isC slot = true ∧ isC last = true then (if len ≤ 524288 then 0 else 3) else 1

set_option maxHeartbeats 800000 in
theorem fault_any (number slot last : Int) (ao : Option Addr) (len cap : Nat) (w : World) (hl : len ≤ 9223372036854775807) :
    Calls Try.prog 28 #[.int .i64 number, .agg #[.int .i64 slot, .int .i64 last, .slice ao len cap]] w fun e w' => e = .returned (.int .i64 (faultE number slot last len)) ∧ Below w.heap.size w w' := by
  have HS := hide (fun w => isSlot_any slot w)
  have HL := hide (fun w => isSlot_any last w)
  unfold faultE
  by_cases c1 : 1 ≤ number
  · by_cases c2 : number ≤ 1099511627776
    · cases c3 : isC slot
      · rw [if_neg (by simp)]
        rw [c3] at HS
        go_enter Try.func28, Try.ntmps28
        go_wp2_with fail
        refine (unhide HS _).mono ?_
        rintro e w' ⟨rfl, rfl⟩
        go_wp2
        go_ret
        exact ⟨rfl, (Below.refl _ _).alloc (Nat.le_refl _) _⟩
      · cases c4 : isC last
        · rw [if_neg (by simp)]
          rw [c3] at HS
          rw [c4] at HL
          go_enter Try.func28, Try.ntmps28
          go_wp2_with fail
          refine (unhide HS _).mono ?_
          rintro e w' ⟨rfl, rfl⟩
          go_wp2_with fail
          refine (unhide HL _).mono ?_
          rintro e w' ⟨rfl, rfl⟩
          go_wp2
          go_ret
          exact ⟨rfl, (Below.refl _ _).alloc (Nat.le_refl _) _⟩
        · rw [if_pos ⟨c1, c2, rfl, rfl⟩]
          rw [c3] at HS
          rw [c4] at HL
          by_cases c5 : len ≤ 524288
          · rw [if_pos c5]
            have c6 : (len : Int) ≤ 524288 := by omega
            go_enter Try.func28, Try.ntmps28
            go_wp2_with fail
            refine (unhide HS _).mono ?_
            rintro e w' ⟨rfl, rfl⟩
            go_wp2_with fail
            refine (unhide HL _).mono ?_
            rintro e w' ⟨rfl, rfl⟩
            go_wp2
            go_ret
            exact ⟨rfl, (Below.refl _ _).alloc (Nat.le_refl _) _⟩
          · rw [if_neg c5]
            have c6 : (524288 : Int) < len := by omega
            go_enter Try.func28, Try.ntmps28
            go_wp2_with fail
            refine (unhide HS _).mono ?_
            rintro e w' ⟨rfl, rfl⟩
            go_wp2_with fail
            refine (unhide HL _).mono ?_
            rintro e w' ⟨rfl, rfl⟩
            go_wp2
            go_ret
            exact ⟨rfl, (Below.refl _ _).alloc (Nat.le_refl _) _⟩
    · rw [if_neg (fun h => c2 h.2.1)]
      go_enter Try.func28, Try.ntmps28
      go_wp2
      go_ret
      exact ⟨rfl, (Below.refl _ _).alloc (Nat.le_refl _) _⟩
  · rw [if_neg (fun h => c1 h.1)]
    go_enter Try.func28, Try.ntmps28
    go_wp2
    go_ret
    exact ⟨rfl, (Below.refl _ _).alloc (Nat.le_refl _) _⟩

/-- A checkpoint's bytes. -/
def bodyB (number slot last : Int) (ds : List Int) : List Int := putL [number, slot, last] ++ putL [(ds.length : Int)] ++ ds
def ckB (number slot last : Int) (ds : List Int) : List Int := sealB (bodyB number slot last ds)
theorem bodyB_le (number slot last : Int) (ds : List Int) : (bodyB number slot last ds).length ≤ 36 + ds.length := by
  have h1 := sizeL_le [number, slot, last]
  have h2 := sizeL_le [(ds.length : Int)]
  simp only [bodyB, List.length_append, putL_length]
  simp at h1 h2
  omega
end Go.Proofs.Ytiijbklaapaheaa
