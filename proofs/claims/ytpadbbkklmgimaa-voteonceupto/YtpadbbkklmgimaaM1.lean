/- Contracts of the vote's small functions, of one that a call made and of one that none made. -/
import Derived.Test.YtpadbbkklmgimaaProg
import Derived.Test.YtpadbbkklmgimaaM0
import Derived.WalkKit
import Derived.WalkSpells
import Derived.WalkLawsBesides
import Derived.Deep.QuietTactic
import Derived.BigQuiet
namespace Go.Proofs.Ytpadbbkklmgimaa
open Go.RowKit

theorem ret_int {k : IntKind} {a b : Int} (h : a = b) : Ending.returned (.int k a) = .returned (.int k b) := by rw [h]
theorem ret_bool {a b : Bool} (h : a = b) : Ending.returned (.bool a) = .returned (.bool b) := by rw [h]

set_option maxHeartbeats 400000 in
theorem made_yes {h : Nat} {V : Vt} {w : World} (H : IsV w h V) (O : V.Ok) :
    Calls Try.prog 31 #[P0 h] w fun e w' => e = .returned (.bool true) ∧ w = w' := by
  have h0 := O.pos; have h1 := H.c0
  clear H O
  go_enter Try.func31, Try.ntmps31
  go_wp2
  go_ret
  exact ⟨rfl, rfl⟩

set_option maxHeartbeats 400000 in
theorem made_no {v : Value} {w : World} (H : IsNo w v) :
    Calls Try.prog 31 #[v] w fun e w' => e = .returned (.bool false) ∧ w = w' := by
  rcases H with rfl | ⟨h, rfl, hc⟩
  · go_enter Try.func31, Try.ntmps31
    go_wp2
    go_ret
    exact ⟨rfl, rfl⟩
  · go_enter Try.func31, Try.ntmps31
    go_wp2
    go_ret
    exact ⟨rfl, rfl⟩

/-- Another one of the replicas. -/
def Vt.other (V : Vt) (x : Int) : Bool := decide (0 ≤ x) && decide (x < V.n) && decide (x ≠ V.self)

set_option maxHeartbeats 400000 in
theorem another_yes {h : Nat} {V : Vt} {w : World} (H : IsV w h V) (O : V.Ok) (x : Int) :
    Calls Try.prog 33 #[P0 h, .int .i64 x] w fun e w' => e = .returned (.bool (V.other x)) ∧ w = w' := by
  have h1 := H.c0; have h2 := H.c1
  have HM := hide (made_yes H O)
  clear H O
  by_cases c0 : 0 ≤ x
  · by_cases c1 : x < V.n
    · go_enter Try.func33, Try.ntmps33
      go_wp2_with (go_at_call 31; refine (unhide HM).mono ?_; rintro e w' ⟨rfl, rfl⟩)
      go_ret
      exact ⟨ret_bool (by by_cases c2 : x = V.self <;> simp [Vt.other, c0, c1, c2]), rfl⟩
    · go_enter Try.func33, Try.ntmps33
      go_wp2_with (go_at_call 31; refine (unhide HM).mono ?_; rintro e w' ⟨rfl, rfl⟩)
      go_ret
      exact ⟨ret_bool (by simp [Vt.other, c0]; omega), rfl⟩
  · go_enter Try.func33, Try.ntmps33
    go_wp2_with (go_at_call 31; refine (unhide HM).mono ?_; rintro e w' ⟨rfl, rfl⟩)
    go_ret
    exact ⟨ret_bool (by simp [Vt.other]; omega), rfl⟩

set_option maxHeartbeats 400000 in
theorem another_no {v : Value} {w : World} (H : IsNo w v) (x : Int) :
    Calls Try.prog 33 #[v, .int .i64 x] w fun e w' => e = .returned (.bool false) ∧ w = w' := by
  have HM := hide (made_no H)
  clear H
  go_enter Try.func33, Try.ntmps33
  go_wp2_with (go_at_call 31; refine (unhide HM).mono ?_; rintro e w' ⟨rfl, rfl⟩)
  go_ret
  exact ⟨rfl, rfl⟩

set_option maxHeartbeats 400000 in
theorem other_any {r b cap : Nat} {V : Vt} {w : World} (H : IsR w r b cap V) (x : Int) :
    Calls Try.prog 35 #[P0 r, .int .i64 x] w fun e w' => e = .returned (.bool (V.other x)) ∧ w = w' := by
  have h1 := H.c0; have h2 := H.c1
  clear H
  by_cases c0 : 0 ≤ x
  · by_cases c1 : x < V.n
    · go_enter Try.func35, Try.ntmps35
      go_wp2
      go_ret
      exact ⟨ret_bool (by by_cases c2 : x = V.self <;> simp [Vt.other, c0, c1, c2]), rfl⟩
    · go_enter Try.func35, Try.ntmps35
      go_wp2
      go_ret
      exact ⟨ret_bool (by simp [Vt.other, c0]; omega), rfl⟩
  · go_enter Try.func35, Try.ntmps35
    go_wp2
    go_ret
    exact ⟨ret_bool (by simp [Vt.other]; omega), rfl⟩

set_option maxHeartbeats 400000 in
theorem term_yes {h : Nat} {V : Vt} {w : World} (H : IsV w h V) (O : V.Ok) :
    Calls Try.prog 13 #[P0 h] w fun e w' => e = .returned (.int .i64 V.term) ∧ w = w' := by
  have h1 := H.c2
  have HM := hide (made_yes H O)
  clear H O
  go_enter Try.func13, Try.ntmps13
  go_wp2_with (go_at_call 31; refine (unhide HM).mono ?_; rintro e w' ⟨rfl, rfl⟩)
  go_ret
  exact ⟨rfl, rfl⟩

set_option maxHeartbeats 400000 in
theorem term_no {v : Value} {w : World} (H : IsNo w v) :
    Calls Try.prog 13 #[v] w fun e w' => e = .returned (.int .i64 0) ∧ w = w' := by
  have HM := hide (made_no H)
  clear H
  go_enter Try.func13, Try.ntmps13
  go_wp2_with (go_at_call 31; refine (unhide HM).mono ?_; rintro e w' ⟨rfl, rfl⟩)
  go_ret
  exact ⟨rfl, rfl⟩

set_option maxHeartbeats 400000 in
theorem voted_yes {h : Nat} {V : Vt} {w : World} (H : IsV w h V) (O : V.Ok) :
    Calls Try.prog 19 #[P0 h] w fun e w' => e = .returned (.tuple #[.int .i64 (if V.voted = -1 then 0 else V.voted), .bool (decide (V.voted ≠ -1))]) ∧ w = w' := by
  have h1 := H.c3
  have HM := hide (made_yes H O)
  clear H O
  by_cases c : V.voted = -1
  · rw [c] at h1
    go_enter Try.func19, Try.ntmps19
    go_wp2_with (go_at_call 31; refine (unhide HM).mono ?_; rintro e w' ⟨rfl, rfl⟩)
    go_ret2
    exact ⟨by first | (simp; done) | simp [c], rfl⟩
  · go_enter Try.func19, Try.ntmps19
    go_wp2_with (go_at_call 31; refine (unhide HM).mono ?_; rintro e w' ⟨rfl, rfl⟩)
    go_ret2
    exact ⟨by first | (simp; done) | simp [c], rfl⟩

set_option maxHeartbeats 400000 in
theorem voted_no {v : Value} {w : World} (H : IsNo w v) :
    Calls Try.prog 19 #[v] w fun e w' => e = .returned (.tuple #[.int .i64 0, .bool false]) ∧ w = w' := by
  have HM := hide (made_no H)
  clear H
  go_enter Try.func19, Try.ntmps19
  go_wp2_with (go_at_call 31; refine (unhide HM).mono ?_; rintro e w' ⟨rfl, rfl⟩)
  go_ret2
  exact ⟨rfl, rfl⟩

theorem bel2 (w : World) (o p : Obj) : Below w.heap.size w ((w.alloc o).alloc p) := ((Below.refl _ _).alloc (Nat.le_refl _) _).alloc (by simp) _

/-- Whether the log of the one is newer than the other's. -/
def newer (l1 n1 l2 n2 : Int) : Bool := decide (l2 < l1) || (decide (l1 = l2) && decide (n2 < n1))

set_option maxHeartbeats 400000 in
theorem newer_any (a0 a1 a2 a3 b0 b1 b2 b3 : Int) (w : World) :
    Calls Try.prog 11 #[.agg #[.int .i64 a0, .int .i64 a1, .int .i64 a2, .int .i64 a3], .agg #[.int .i64 b0, .int .i64 b1, .int .i64 b2, .int .i64 b3]] w fun e w' => e = .returned (.bool (newer a3 a2 b3 b2)) ∧ Below w.heap.size w w' := by
  by_cases c0 : b3 < a3
  · go_enter Try.func11, Try.ntmps11
    go_wp2
    go_ret
    exact ⟨ret_bool (by simp [newer, c0]), bel2 _ _ _⟩
  · by_cases c1 : a3 = b3
    · subst c1
      go_enter Try.func11, Try.ntmps11
      go_wp2
      go_ret
      exact ⟨ret_bool (by simp [newer]), bel2 _ _ _⟩
    · go_enter Try.func11, Try.ntmps11
      go_wp2
      go_ret
      exact ⟨ret_bool (by simp [newer, c0, c1]), bel2 _ _ _⟩

set_option maxHeartbeats 400000 in
theorem rnewer_any (a0 a1 a2 a3 b0 b1 b2 b3 : Int) (w : World) :
    Calls Try.prog 12 #[.agg #[.int .i64 a0, .int .i64 a1, .int .i64 a2, .int .i64 a3], .agg #[.int .i64 b0, .int .i64 b1, .int .i64 b2, .int .i64 b3]] w fun e w' => e = .returned (.bool (newer a3 a2 b3 b2)) ∧ Below w.heap.size w w' := by
  by_cases c0 : b3 < a3
  · go_enter Try.func12, Try.ntmps12
    go_wp2
    go_ret
    exact ⟨ret_bool (by simp [newer, c0]), bel2 _ _ _⟩
  · by_cases c1 : a3 = b3
    · subst c1
      go_enter Try.func12, Try.ntmps12
      go_wp2
      go_ret
      exact ⟨ret_bool (by simp [newer]), bel2 _ _ _⟩
    · go_enter Try.func12, Try.ntmps12
      go_wp2
      go_ret
      exact ⟨ret_bool (by simp [newer, c0, c1]), bel2 _ _ _⟩

end Go.Proofs.Ytpadbbkklmgimaa
