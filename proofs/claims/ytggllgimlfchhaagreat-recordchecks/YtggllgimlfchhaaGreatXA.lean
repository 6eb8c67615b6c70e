/- Record: counts, replicas, the order of keys. -/
import Derived.Test.YtggllgimlfchhaaGreatWB
import Derived.Deep.RegionHeld3
namespace Go.Proofs.YtggllgimlfchhaaGreat
open Go.RowKit
set_option maxRecDepth 100000

theorem retBool {a b : Bool} (h : a = b) : Ending.returned (.bool a) = .returned (.bool b) := by rw [h]
theorem retInt {k : IntKind} {a b : Int} (h : a = b) : Ending.returned (.int k a) = .returned (.int k b) := by rw [h]

def isCnt (n : Int) : Bool := decide (0 ≤ n ∧ n ≤ 1099511627776)
def isRep (n : Int) : Bool := decide (0 ≤ n ∧ n < 5)

theorem isCount_any (n : Int) (w : World) : Calls Tryz.prog 59 #[.int .i64 n] w fun e w' => e = .returned (.bool (isCnt n)) ∧ w = w' := by
  unfold isCnt
  by_cases h : 0 ≤ n
  · go_enter Tryz.func59, Tryz.ntmps59
    go_wp2
    go_ret
    exact ⟨retBool (by simp; omega), rfl⟩
  · go_enter Tryz.func59, Tryz.ntmps59
    go_wp2
    go_ret
    exact ⟨retBool (by simp; omega), rfl⟩
theorem count_any (n : Int) (w : World) : Calls Tryz.prog 60 #[.int .i64 n] w fun e w' => e = .returned (.bool (isCnt n)) ∧ w = w' := by
  unfold isCnt
  by_cases h : 0 ≤ n
  · go_enter Tryz.func60, Tryz.ntmps60
    go_wp2
    go_ret
    exact ⟨retBool (by simp; omega), rfl⟩
  · go_enter Tryz.func60, Tryz.ntmps60
    go_wp2
    go_ret
    exact ⟨retBool (by simp; omega), rfl⟩
theorem isReplica_any (n : Int) (w : World) : Calls Tryz.prog 62 #[.int .i64 n] w fun e w' => e = .returned (.bool (isRep n)) ∧ w = w' := by
  unfold isRep
  by_cases h : 0 ≤ n
  · go_enter Tryz.func62, Tryz.ntmps62
    go_wp2
    go_ret
    exact ⟨retBool (by simp; omega), rfl⟩
  · go_enter Tryz.func62, Tryz.ntmps62
    go_wp2
    go_ret
    exact ⟨retBool (by simp; omega), rfl⟩
theorem replica_any (n : Int) (w : World) : Calls Tryz.prog 64 #[.int .i64 n] w fun e w' => e = .returned (.bool (isRep n)) ∧ w = w' := by
  unfold isRep
  by_cases h : 0 ≤ n
  · go_enter Tryz.func64, Tryz.ntmps64
    go_wp2
    go_ret
    exact ⟨retBool (by simp; omega), rfl⟩
  · go_enter Tryz.func64, Tryz.ntmps64
    go_wp2
    go_ret
    exact ⟨retBool (by simp; omega), rfl⟩
theorem verdict_any (b : Bool) (w : World) : Calls Tryz.prog 27 #[.bool b] w fun e w' => e = .returned (.int .i64 (if b then 0 else 40)) ∧ w = w' := by
  cases b
  · go_enter Tryz.func27, Tryz.ntmps27
    go_wp2
    go_ret
    exact ⟨rfl, rfl⟩
  · go_enter Tryz.func27, Tryz.ntmps27
    go_wp2
    go_ret
    exact ⟨rfl, rfl⟩

/-- Which of two comes first: -1, 0, 1. -/
def cmpI (a b : Int) : Int := if a < b then -1 else if b < a then 1 else 0

theorem nan32 (a : Int) (w : World) : Calls Tryz.prog 149 #[.int .i32 a] w fun e w' => e = .returned (.bool false) ∧ w = w' := by
  go_enter Tryz.func149, Tryz.ntmps149
  go_wp2
  go_ret
  exact ⟨retBool (by simp), rfl⟩
theorem nan64 (a : Int) (w : World) : Calls Tryz.prog 150 #[.int .i64 a] w fun e w' => e = .returned (.bool false) ∧ w = w' := by
  go_enter Tryz.func150, Tryz.ntmps150
  go_wp2
  go_ret
  exact ⟨retBool (by simp), rfl⟩
theorem cmp32 (a b : Int) (w : World) : Calls Tryz.prog 108 #[.int .i32 a, .int .i32 b] w fun e w' => e = .returned (.int .i64 (cmpI a b)) ∧ w = w' := by
  unfold cmpI
  by_cases h1 : a < b
  · rw [if_pos h1]
    go_enter Tryz.func108, Tryz.ntmps108
    go_wp2_with (go_at_call 149; refine (nan32 _ _).mono ?_; rintro e w' ⟨rfl, rfl⟩)
    go_ret
    exact ⟨rfl, rfl⟩
  · rw [if_neg h1]
    by_cases h2 : b < a
    · rw [if_pos h2]
      go_enter Tryz.func108, Tryz.ntmps108
      go_wp2_with (go_at_call 149; refine (nan32 _ _).mono ?_; rintro e w' ⟨rfl, rfl⟩)
      go_ret
      exact ⟨rfl, rfl⟩
    · rw [if_neg h2]
      go_enter Tryz.func108, Tryz.ntmps108
      go_wp2_with (go_at_call 149; refine (nan32 _ _).mono ?_; rintro e w' ⟨rfl, rfl⟩)
      go_ret
      exact ⟨rfl, rfl⟩
theorem cmp64 (a b : Int) (w : World) : Calls Tryz.prog 109 #[.int .i64 a, .int .i64 b] w fun e w' => e = .returned (.int .i64 (cmpI a b)) ∧ w = w' := by
  unfold cmpI
  by_cases h1 : a < b
  · rw [if_pos h1]
    go_enter Tryz.func109, Tryz.ntmps109
    go_wp2_with (go_at_call 150; refine (nan64 _ _).mono ?_; rintro e w' ⟨rfl, rfl⟩)
    go_ret
    exact ⟨rfl, rfl⟩
  · rw [if_neg h1]
    by_cases h2 : b < a
    · rw [if_pos h2]
      go_enter Tryz.func109, Tryz.ntmps109
      go_wp2_with (go_at_call 150; refine (nan64 _ _).mono ?_; rintro e w' ⟨rfl, rfl⟩)
      go_ret
      exact ⟨rfl, rfl⟩
    · rw [if_neg h2]
      go_enter Tryz.func109, Tryz.ntmps109
      go_wp2_with (go_at_call 150; refine (nan64 _ _).mono ?_; rintro e w' ⟨rfl, rfl⟩)
      go_ret
      exact ⟨rfl, rfl⟩

/-- cmp.Or of two. -/
theorem or2 (b : Nat) (x y : Int) (w : World) (c0 : w.cell? ⟨b, 0, none⟩ = some (.int .i64 x)) (c1 : w.cell? ⟨b, 1, none⟩ = some (.int .i64 y)) :
    Calls Tryz.prog 107 #[.slice (some ⟨b, 0, none⟩) 2 2] w fun e w' => e = .returned (.int .i64 (if x = 0 then y else x)) ∧ w = w' := by
  go_enter Tryz.func107, Tryz.ntmps107
  go_wp2
  go_loopw [8] (fun c wr => ∃ t : Nat, t ≤ 2 ∧ c = .int .i64 t ∧ wr = w ∧ (1 ≤ t → x = 0) ∧ (2 ≤ t → y = 0)) (fun c _ => 2 - (intOf c).toNat)
  case atStart => exact ⟨0, by omega, rfl, rfl, by omega, by omega⟩
  case round =>
    obtain ⟨t, ht, rfl, rfl, h1, h2⟩ := hrel
    rcases (by omega : t = 0 ∨ t = 1 ∨ t = 2) with rfl | rfl | rfl
    · clear h1 h2
      by_cases hx : x = 0
      · go_wp2
        go_roundw
        case rel => exact ⟨1, by omega, rfl, trivial, fun _ => hx, fun h => absurd h (by omega)⟩
        case measure => simp [intOf]
      · go_wp2
        go_ret
        exact ⟨retInt (by simp), rfl⟩
    · have hx := h1 (by omega)
      clear h1 h2
      by_cases hy : y = 0
      · go_wp2
        go_roundw
        case rel => exact ⟨2, by omega, rfl, trivial, fun _ => hx, fun _ => hy⟩
        case measure => simp [intOf]
      · go_wp2
        go_ret
        exact ⟨retInt (by simp), rfl⟩
    · have hx := h1 (by omega)
      have hy := h2 (by omega)
      clear h1 h2
      go_wp2
      go_ret
      exact ⟨retInt (by simp), rfl⟩
end Go.Proofs.YtggllgimlfchhaaGreat
