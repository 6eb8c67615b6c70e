/- Contracts of the book's small functions, of one that a call made and of one that none made: made, has, another, Next, Like, Length. -/
import Derived.Test.YtgehhoddmmjmjaaProg
import Derived.Test.YtgehhoddmmjmjaaM0
import Derived.WalkKit
import Derived.WalkSpells
import Derived.WalkLawsBesides
import Derived.Deep.QuietTactic
import Derived.BigQuiet
import Derived.Deep.RegionHeld3
import Derived.Deep.RegionWith
namespace Go.Proofs.Ytgehhoddmmjmjaa
open Go.RowKit

theorem ret_int {k : IntKind} {a b : Int} (h : a = b) : Ending.returned (.int k a) = .returned (.int k b) := by rw [h]
theorem ret_bool {a b : Bool} (h : a = b) : Ending.returned (.bool a) = .returned (.bool b) := by rw [h]

set_option maxHeartbeats 400000 in
theorem made_yes {h : Nat} {B : Bk} {w : World} (H : IsB w h B) (O : B.Ok) :
    Calls Try.prog 30 #[P0 h] w fun e w' => e = .returned (.bool true) ∧ w = w' := by
  have h0 := O.pos; have h1 := H.c0
  clear H O
  go_enter Try.func30, Try.ntmps30
  go_wp2
  go_ret
  exact ⟨rfl, rfl⟩

set_option maxHeartbeats 400000 in
theorem made_no {v : Value} {w : World} (H : IsNo w v) :
    Calls Try.prog 30 #[v] w fun e w' => e = .returned (.bool false) ∧ w = w' := by
  rcases H with rfl | ⟨h, rfl, hc⟩
  · go_enter Try.func30, Try.ntmps30
    go_wp2
    go_ret
    exact ⟨rfl, rfl⟩
  · go_enter Try.func30, Try.ntmps30
    go_wp2
    go_ret
    exact ⟨rfl, rfl⟩

/-- One of the replicas. -/
def Bk.has (B : Bk) (x : Int) : Bool := decide (0 ≤ x) && decide (x < B.n)
/-- Another one. -/
def Bk.other (B : Bk) (x : Int) : Bool := B.has x && decide (x ≠ B.self)
theorem Bk.has_is {B : Bk} {x : Int} (O : B.Ok) (h : B.has x = true) : ∃ i : Nat, x = i ∧ i < B.n ∧ i < 5 := by
  simp only [Bk.has, Bool.and_eq_true, decide_eq_true_eq] at h
  have := O.le
  exact ⟨x.toNat, by omega, by omega, by omega⟩
theorem Bk.other_is {B : Bk} {x : Int} (O : B.Ok) (h : B.other x = true) : ∃ i : Nat, x = i ∧ i < B.n ∧ i < 5 ∧ i ≠ B.self := by
  rw [Bk.other, Bool.and_eq_true, decide_eq_true_eq] at h
  obtain ⟨i, rfl, h1, h2⟩ := Bk.has_is O h.1
  exact ⟨i, rfl, h1, h2, by intro c; exact h.2 (by rw [c])⟩
theorem Bk.has_nat {B : Bk} {i : Nat} (h : i < B.n) : B.has i = true := by simp [Bk.has]; omega
theorem Bk.other_nat {B : Bk} {i : Nat} (h : i < B.n) (h' : i ≠ B.self) : B.other i = true := by simp [Bk.other, Bk.has]; omega

set_option maxHeartbeats 400000 in
theorem has_yes {h : Nat} {B : Bk} {w : World} (H : IsB w h B) (O : B.Ok) (x : Int) :
    Calls Try.prog 32 #[P0 h, .int .i64 x] w fun e w' => e = .returned (.bool (B.has x)) ∧ w = w' := by
  have h1 := H.c0
  have HM := hide (made_yes H O)
  clear H O
  by_cases c0 : 0 ≤ x
  · go_enter Try.func32, Try.ntmps32
    go_wp2_with (go_at_call 30; refine (unhide HM).mono ?_; rintro e w' ⟨rfl, rfl⟩)
    go_ret
    exact ⟨ret_bool (by simp [Bk.has, c0]), rfl⟩
  · go_enter Try.func32, Try.ntmps32
    go_wp2_with (go_at_call 30; refine (unhide HM).mono ?_; rintro e w' ⟨rfl, rfl⟩)
    go_ret
    exact ⟨ret_bool (by simp [Bk.has]; omega), rfl⟩

set_option maxHeartbeats 400000 in
theorem has_no {v : Value} {w : World} (H : IsNo w v) (x : Int) :
    Calls Try.prog 32 #[v, .int .i64 x] w fun e w' => e = .returned (.bool false) ∧ w = w' := by
  have HM := hide (made_no H)
  clear H
  go_enter Try.func32, Try.ntmps32
  go_wp2_with (go_at_call 30; refine (unhide HM).mono ?_; rintro e w' ⟨rfl, rfl⟩)
  go_ret
  exact ⟨rfl, rfl⟩

def Bk.who (B : Bk) (x : Int) : Int := if B.other x then 0 else 80
theorem Bk.who_yes {B : Bk} {x : Int} (h : B.other x = true) : B.who x = 0 := by rw [Bk.who, if_pos h]
theorem Bk.who_no {B : Bk} {x : Int} (h : B.other x = false) : B.who x = 80 := by rw [Bk.who, h]; rfl

set_option maxHeartbeats 400000 in
theorem another_yes {h : Nat} {B : Bk} {w : World} (H : IsB w h B) (O : B.Ok) (x : Int) :
    Calls Try.prog 33 #[P0 h, .int .i64 x] w fun e w' => e = .returned (.int .i64 (B.who x)) ∧ w = w' := by
  have h1 := H.c1
  have HM := hide (made_yes H O)
  have HH := hide (has_yes H O x)
  clear H O
  cases c0 : B.has x
  · rw [c0] at HH
    go_enter Try.func33, Try.ntmps33
    go_wp2_with (first
      | (go_at_call 30; refine (unhide HM).mono ?_; rintro e w' ⟨rfl, rfl⟩)
      | (go_at_call 32; refine (unhide HH).mono ?_; rintro e w' ⟨rfl, rfl⟩))
    go_ret
    exact ⟨ret_int (by simp [Bk.who, Bk.other, c0]), rfl⟩
  · rw [c0] at HH
    by_cases c1 : x = B.self
    · subst c1
      go_enter Try.func33, Try.ntmps33
      go_wp2_with (first
        | (go_at_call 30; refine (unhide HM).mono ?_; rintro e w' ⟨rfl, rfl⟩)
        | (go_at_call 32; refine (unhide HH).mono ?_; rintro e w' ⟨rfl, rfl⟩))
      go_ret
      exact ⟨ret_int (by simp [Bk.who, Bk.other]), rfl⟩
    · go_enter Try.func33, Try.ntmps33
      go_wp2_with (first
        | (go_at_call 30; refine (unhide HM).mono ?_; rintro e w' ⟨rfl, rfl⟩)
        | (go_at_call 32; refine (unhide HH).mono ?_; rintro e w' ⟨rfl, rfl⟩))
      go_ret
      exact ⟨ret_int (by simp [Bk.who, Bk.other, c0, c1]), rfl⟩

set_option maxHeartbeats 400000 in
theorem another_no {v : Value} {w : World} (H : IsNo w v) (x : Int) :
    Calls Try.prog 33 #[v, .int .i64 x] w fun e w' => e = .returned (.int .i64 2) ∧ w = w' := by
  have HM := hide (made_no H)
  clear H
  go_enter Try.func33, Try.ntmps33
  go_wp2_with (go_at_call 30; refine (unhide HM).mono ?_; rintro e w' ⟨rfl, rfl⟩)
  go_ret
  exact ⟨rfl, rfl⟩

def Bk.next (B : Bk) (x : Int) : Int := if B.has x then B.nx x.toNat else 0
def Bk.like (B : Bk) (x : Int) : Int := if B.has x then B.lk x.toNat else 0

set_option maxHeartbeats 400000 in
theorem next_yes {h : Nat} {B : Bk} {w : World} (H : IsB w h B) (O : B.Ok) (x : Int) :
    Calls Try.prog 19 #[P0 h, .int .i64 x] w fun e w' => e = .returned (.int .i64 (B.next x)) ∧ w = w' := by
  have HH := hide (has_yes H O x)
  cases c0 : B.has x
  · rw [c0] at HH
    clear H O
    go_enter Try.func19, Try.ntmps19
    go_wp2_with (go_at_call 32; refine (unhide HH).mono ?_; rintro e w' ⟨rfl, rfl⟩)
    go_ret
    exact ⟨ret_int (by simp [Bk.next, c0]), rfl⟩
  · rw [c0] at HH
    obtain ⟨i, rfl, hn, h5⟩ := Bk.has_is O c0
    have hc := H.cn i h5
    have hz : (0 : Int) ≤ (i : Int) := by omega
    have hy : (i : Int) < 5 := by omega
    clear H O
    go_enter Try.func19, Try.ntmps19
    go_wp2_with (go_at_call 32; refine (unhide HH).mono ?_; rintro e w' ⟨rfl, rfl⟩)
    go_ret
    exact ⟨ret_int (by simp [Bk.next, c0]), rfl⟩

set_option maxHeartbeats 400000 in
theorem next_no {v : Value} {w : World} (H : IsNo w v) (x : Int) :
    Calls Try.prog 19 #[v, .int .i64 x] w fun e w' => e = .returned (.int .i64 0) ∧ w = w' := by
  have HH := hide (has_no H x)
  clear H
  go_enter Try.func19, Try.ntmps19
  go_wp2_with (go_at_call 32; refine (unhide HH).mono ?_; rintro e w' ⟨rfl, rfl⟩)
  go_ret
  exact ⟨rfl, rfl⟩

set_option maxHeartbeats 400000 in
theorem like_yes {h : Nat} {B : Bk} {w : World} (H : IsB w h B) (O : B.Ok) (x : Int) :
    Calls Try.prog 15 #[P0 h, .int .i64 x] w fun e w' => e = .returned (.int .i64 (B.like x)) ∧ w = w' := by
  have HH := hide (has_yes H O x)
  cases c0 : B.has x
  · rw [c0] at HH
    clear H O
    go_enter Try.func15, Try.ntmps15
    go_wp2_with (go_at_call 32; refine (unhide HH).mono ?_; rintro e w' ⟨rfl, rfl⟩)
    go_ret
    exact ⟨ret_int (by simp [Bk.like, c0]), rfl⟩
  · rw [c0] at HH
    obtain ⟨i, rfl, hn, h5⟩ := Bk.has_is O c0
    have hc := H.cl i h5
    have hz : (0 : Int) ≤ (i : Int) := by omega
    have hy : (i : Int) < 5 := by omega
    clear H O
    go_enter Try.func15, Try.ntmps15
    go_wp2_with (go_at_call 32; refine (unhide HH).mono ?_; rintro e w' ⟨rfl, rfl⟩)
    go_ret
    exact ⟨ret_int (by simp [Bk.like, c0]), rfl⟩

set_option maxHeartbeats 400000 in
theorem like_no {v : Value} {w : World} (H : IsNo w v) (x : Int) :
    Calls Try.prog 15 #[v, .int .i64 x] w fun e w' => e = .returned (.int .i64 0) ∧ w = w' := by
  have HH := hide (has_no H x)
  clear H
  go_enter Try.func15, Try.ntmps15
  go_wp2_with (go_at_call 32; refine (unhide HH).mono ?_; rintro e w' ⟨rfl, rfl⟩)
  go_ret
  exact ⟨rfl, rfl⟩

theorem Bk.like_self {B : Bk} (O : B.Ok) : B.like B.self = B.lk B.self := by rw [Bk.like, if_pos (Bk.has_nat O.me)]; rfl

set_option maxHeartbeats 400000 in
theorem length_yes {h : Nat} {B : Bk} {w : World} (H : IsB w h B) (O : B.Ok) :
    Calls Try.prog 14 #[P0 h] w fun e w' => e = .returned (.int .i64 (B.lk B.self)) ∧ w = w' := by
  have h1 := H.c1
  have HM := hide (made_yes H O)
  have HL := hide (like_yes H O B.self)
  rw [Bk.like_self O] at HL
  clear H O
  go_enter Try.func14, Try.ntmps14
  go_wp2_with (first
    | (go_at_call 30; refine (unhide HM).mono ?_; rintro e w' ⟨rfl, rfl⟩)
    | (go_at_call 15; refine (unhide HL).mono ?_; rintro e w' ⟨rfl, rfl⟩))
  go_ret
  exact ⟨rfl, rfl⟩

set_option maxHeartbeats 400000 in
theorem length_no {v : Value} {w : World} (H : IsNo w v) :
    Calls Try.prog 14 #[v] w fun e w' => e = .returned (.int .i64 0) ∧ w = w' := by
  have HM := hide (made_no H)
  clear H
  go_enter Try.func14, Try.ntmps14
  go_wp2_with (go_at_call 30; refine (unhide HM).mono ?_; rintro e w' ⟨rfl, rfl⟩)
  go_ret
  exact ⟨rfl, rfl⟩

end Go.Proofs.Ytgehhoddmmjmjaa
