/- Contracts of the flash's small functions, of one that a call made and of one that none made. -/
import Derived.Test.YtiijbklaapaheaaProg
import Derived.Test.YtiijbklaapaheaaKH
import Derived.Test.YtiijbklaapaheaaW0
import Derived.WalkKit
import Derived.WalkSpells
import Derived.WalkLawsBesides
import Derived.Deep.QuietTactic
import Derived.BigQuiet
namespace Go.Proofs.Ytiijbklaapaheaa
open Go.RowKit
set_option maxRecDepth 100000

/-- The pointer to a flash. -/
abbrev P0 (h : Nat) : Value := .pointer (some ⟨h, 0, none⟩)

theorem ret_bool {a b : Bool} (h : a = b) : Ending.returned (.bool a) = .returned (.bool b) := by rw [h]

set_option maxHeartbeats 400000 in
theorem made_yes {g h cap : Nat} {F : Fl} {w : World} (H : IsFl w g h cap F) :
    Calls Try.prog 73 #[P0 h] w fun e w' => e = .returned (.bool true) ∧ w = w' := by
  have h0 := H.pos; have h1 := H.ptr
  clear H
  go_enter Try.func73, Try.ntmps73
  go_wp2
  go_ret
  exact ⟨rfl, rfl⟩

set_option maxHeartbeats 400000 in
theorem made_no {v : Value} {w : World} (H : IsNo w v) :
    Calls Try.prog 73 #[v] w fun e w' => e = .returned (.bool false) ∧ w = w' := by
  rcases H with rfl | ⟨h, rfl, hc⟩
  · go_enter Try.func73, Try.ntmps73
    go_wp2
    go_ret
    exact ⟨rfl, rfl⟩
  · go_enter Try.func73, Try.ntmps73
    go_wp2
    go_ret
    exact ⟨rfl, rfl⟩

set_option maxHeartbeats 400000 in
theorem has_yes {g h cap : Nat} {F : Fl} {w : World} (H : IsFl w g h cap F) (b : Int) :
    Calls Try.prog 55 #[P0 h, .int .i64 b] w fun e w' => e = .returned (.bool (decide (0 ≤ b) && decide (b < F.n))) ∧ w = w' := by
  have h1 := H.ptr
  have HM := hide (made_yes H)
  clear H
  by_cases c0 : 0 ≤ b
  · go_enter Try.func55, Try.ntmps55
    go_wp2_with (go_at_call 73; refine (unhide HM).mono ?_; rintro e w' ⟨rfl, rfl⟩)
    go_ret
    exact ⟨ret_bool (by simp [c0]), rfl⟩
  · go_enter Try.func55, Try.ntmps55
    go_wp2_with (go_at_call 73; refine (unhide HM).mono ?_; rintro e w' ⟨rfl, rfl⟩)
    go_ret
    exact ⟨ret_bool (by simp; omega), rfl⟩

set_option maxHeartbeats 400000 in
theorem has_no {v : Value} {w : World} (H : IsNo w v) (b : Int) :
    Calls Try.prog 55 #[v, .int .i64 b] w fun e w' => e = .returned (.bool false) ∧ w = w' := by
  have HM := hide (made_no H)
  clear H
  go_enter Try.func55, Try.ntmps55
  go_wp2_with (go_at_call 73; refine (unhide HM).mono ?_; rintro e w' ⟨rfl, rfl⟩)
  go_ret
  exact ⟨rfl, rfl⟩

set_option maxHeartbeats 400000 in
theorem ready_up {g h cap : Nat} {F : Fl} {w : World} (H : IsFl w g h cap F) (hd : F.down = false) :
    Calls Try.prog 49 #[P0 h] w fun e w' => e = .returned (.int .i64 0) ∧ w = w' := by
  have h1 := H.down; rw [hd] at h1
  have HM := hide (made_yes H)
  clear H hd
  go_enter Try.func49, Try.ntmps49
  go_wp2_with (go_at_call 73; refine (unhide HM).mono ?_; rintro e w' ⟨rfl, rfl⟩)
  go_ret
  exact ⟨rfl, rfl⟩

set_option maxHeartbeats 400000 in
theorem ready_down {g h cap : Nat} {F : Fl} {w : World} (H : IsFl w g h cap F) (hd : F.down = true) :
    Calls Try.prog 49 #[P0 h] w fun e w' => e = .returned (.int .i64 7) ∧ w = w' := by
  have h1 := H.down; rw [hd] at h1
  have HM := hide (made_yes H)
  clear H hd
  go_enter Try.func49, Try.ntmps49
  go_wp2_with (go_at_call 73; refine (unhide HM).mono ?_; rintro e w' ⟨rfl, rfl⟩)
  go_ret
  exact ⟨rfl, rfl⟩

set_option maxHeartbeats 400000 in
theorem ready_no {v : Value} {w : World} (H : IsNo w v) :
    Calls Try.prog 49 #[v] w fun e w' => e = .returned (.int .i64 2) ∧ w = w' := by
  have HM := hide (made_no H)
  clear H
  go_enter Try.func49, Try.ntmps49
  go_wp2_with (go_at_call 73; refine (unhide HM).mono ?_; rintro e w' ⟨rfl, rfl⟩)
  go_ret
  exact ⟨rfl, rfl⟩

set_option maxHeartbeats 400000 in
theorem find_yes {g h cap : Nat} {F : Fl} {w : World} (H : IsFl w g h cap F) (hd : F.down = false) (i j : Nat) (hi : i < F.n) (hj : j < 16) :
    Calls Try.prog 50 #[P0 h, .int .i64 i, .int .i64 j] w fun e w' => e = .returned (.tuple #[.pointer (some ⟨g, i * 33 + j * 2, none⟩), .int .i64 0]) ∧ w = w' := by
  have h1 := H.ptr; have h2 := H.fit
  have HR := hide (ready_up H hd)
  have HS := hide (has_yes H i)
  have hb : (decide (0 ≤ (i : Int)) && decide ((i : Int) < F.n)) = true := by simp; omega
  rw [hb] at HS
  clear H hb
  go_enter Try.func50, Try.ntmps50
  go_wp2_with (first
    | (go_at_call 49; refine (unhide HR).mono ?_; rintro e w' ⟨rfl, rfl⟩)
    | (go_at_call 55; refine (unhide HS).mono ?_; rintro e w' ⟨rfl, rfl⟩))
  go_ret2
  exact ⟨rfl, rfl⟩

set_option maxHeartbeats 400000 in
theorem find_arg {g h cap : Nat} {F : Fl} {w : World} (H : IsFl w g h cap F) (hd : F.down = false) (i j : Int) (hij : ¬ (0 ≤ i ∧ i < F.n ∧ 0 ≤ j ∧ j < 16)) :
    Calls Try.prog 50 #[P0 h, .int .i64 i, .int .i64 j] w fun e w' => e = .returned (.tuple #[.pointer none, .int .i64 1]) ∧ w = w' := by
  have HR := hide (ready_up H hd)
  have HS := hide (has_yes H i)
  clear H
  by_cases c : 0 ≤ i ∧ i < F.n
  · have hb : (decide (0 ≤ i) && decide (i < F.n)) = true := by simp; omega
    rw [hb] at HS
    have hj : j < 0 ∨ 16 ≤ j := by omega
    clear hb c hij
    rcases hj with hj | hj
    all_goals
      go_enter Try.func50, Try.ntmps50
      go_wp2_with (first
        | (go_at_call 49; refine (unhide HR).mono ?_; rintro e w' ⟨rfl, rfl⟩)
        | (go_at_call 55; refine (unhide HS).mono ?_; rintro e w' ⟨rfl, rfl⟩))
      go_ret2
      exact ⟨rfl, rfl⟩
  · have hb : (decide (0 ≤ i) && decide (i < F.n)) = false := by simp; omega
    rw [hb] at HS
    clear hb c hij
    go_enter Try.func50, Try.ntmps50
    go_wp2_with (first
      | (go_at_call 49; refine (unhide HR).mono ?_; rintro e w' ⟨rfl, rfl⟩)
      | (go_at_call 55; refine (unhide HS).mono ?_; rintro e w' ⟨rfl, rfl⟩))
    go_ret2
    exact ⟨rfl, rfl⟩

set_option maxHeartbeats 400000 in
theorem find_down {g h cap : Nat} {F : Fl} {w : World} (H : IsFl w g h cap F) (hd : F.down = true) (i j : Int) :
    Calls Try.prog 50 #[P0 h, .int .i64 i, .int .i64 j] w fun e w' => e = .returned (.tuple #[.pointer none, .int .i64 7]) ∧ w = w' := by
  have HR := hide (ready_down H hd)
  clear H
  go_enter Try.func50, Try.ntmps50
  go_wp2_with (go_at_call 49; refine (unhide HR).mono ?_; rintro e w' ⟨rfl, rfl⟩)
  go_ret2
  exact ⟨rfl, rfl⟩

set_option maxHeartbeats 400000 in
theorem find_no {v : Value} {w : World} (H : IsNo w v) (i j : Int) :
    Calls Try.prog 50 #[v, .int .i64 i, .int .i64 j] w fun e w' => e = .returned (.tuple #[.pointer none, .int .i64 2]) ∧ w = w' := by
  have HR := hide (ready_no H)
  clear H
  go_enter Try.func50, Try.ntmps50
  go_wp2_with (go_at_call 49; refine (unhide HR).mono ?_; rintro e w' ⟨rfl, rfl⟩)
  go_ret2
  exact ⟨rfl, rfl⟩

def Fl.fall (F : Fl) : Fl := { F with cnt := 0, keep := 0, down := true }

set_option maxHeartbeats 400000 in
theorem fall_any {g h cap : Nat} {F : Fl} {w : World} (H : IsFl w g h cap F) :
    Calls Try.prog 80 #[P0 h] w fun e w' => e = .returned (.tuple #[]) ∧ IsFl w' g h cap F.fall ∧ Upd (Two g h) w.heap.size w w' := by
  have hd := H.down; have hc := H.cnt; have hk := H.keep; have hf := H.frH
  have HI := hide (((H.setDown true).setCnt 0).setKeep 0)
  clear H
  go_enter Try.func80, Try.ntmps80
  go_wp2
  go_end0
  exact ⟨rfl, unhide HI, (((Upd.refl _ _ _).setCell (Or.inl (Or.inr rfl)) _).setCell (Or.inl (Or.inr rfl)) _).setCell (Or.inl (Or.inr rfl)) _⟩

set_option maxHeartbeats 400000 in
theorem missing_any (g o : Nat) (s : Int) (w : World) (hc : w.cell? ⟨g, o, none⟩ = some (.int .i64 s)) :
    Calls Try.prog 54 #[.pointer (some ⟨g, o, none⟩)] w fun e w' => e = .returned (.int .i64 (if s = 1 then 22 else 21)) ∧ w = w' := by
  by_cases c : s = 1
  · subst c
    go_enter Try.func54, Try.ntmps54
    go_wp2
    go_ret
    exact ⟨rfl, rfl⟩
  · go_enter Try.func54, Try.ntmps54
    go_wp2
    go_ret
    exact ⟨ret_int (by simp), rfl⟩

end Go.Proofs.Ytiijbklaapaheaa
