/- The document's Size, first, two, wide, index. -/
import Derived.Test.YtknpfippdddnhabDoorX5
namespace Go.Proofs.YtknpfippdddnhabDoor
open Go.RowKit
set_option maxRecDepth 100000

set_option maxHeartbeats 3200000 in
theorem rsize_yes (op : Int) (w : World) (h0 : 0 ≤ op) (h1 : op < 28) : Calls Tryd.prog 44 #[.int .i64 op] w fun e w' => e = .returned (.int .i64 (sz op)) ∧ w = w' := by
  rcases op_cases h0 h1 with rfl | rfl | rfl | rfl | rfl | rfl | rfl | rfl | rfl | rfl | rfl | rfl | rfl | rfl | rfl | rfl | rfl | rfl | rfl | rfl | rfl | rfl | rfl | rfl | rfl | rfl | rfl | rfl
  all_goals
    clear h0 h1
    go_enter Tryd.func44, Tryd.ntmps44
    go_wp2
    go_ret
    exact ⟨retInt (by decide +kernel), rfl⟩
set_option maxHeartbeats 800000 in
theorem rsize_no (op : Int) (w : World) (h : ¬ (0 ≤ op ∧ op < 28)) : Calls Tryd.prog 44 #[.int .i64 op] w fun e w' => e = .returned (.int .i64 (sz op)) ∧ w = w' := by
  rw [sz_none h]
  have g0 : (op == 0) = false := by simp; omega
  have g6 : (op == 6) = false := by simp; omega
  have g24 : (op == 24) = false := by simp; omega
  have g25 : (op == 25) = false := by simp; omega
  have g2 : (op == 2) = false := by simp; omega
  have g3 : (op == 3) = false := by simp; omega
  have g4 : (op == 4) = false := by simp; omega
  have g5 : (op == 5) = false := by simp; omega
  have g19 : (op == 19) = false := by simp; omega
  have g22 : (op == 22) = false := by simp; omega
  have g1 : (op == 1) = false := by simp; omega
  have g23 : (op == 23) = false := by simp; omega
  have g26 : (op == 26) = false := by simp; omega
  have g27 : (op == 27) = false := by simp; omega
  by_cases hn : op < 0
  · have a1 : decide (op ≥ 7) = false := decide_eq_false (by omega)
    have a2 : decide (7 ≤ op) = false := decide_eq_false (by omega)
    clear h hn
    go_enter Tryd.func44, Tryd.ntmps44
    go_wp2
    go_ret
    exact ⟨rfl, rfl⟩
  · have a1 : decide (op ≥ 7) = true := decide_eq_true (by omega)
    have a2 : decide (7 ≤ op) = true := decide_eq_true (by omega)
    have a3 : decide (op ≤ 21) = false := decide_eq_false (by omega)
    clear h hn
    go_enter Tryd.func44, Tryd.ntmps44
    go_wp2
    go_ret
    exact ⟨rfl, rfl⟩
theorem rsize_any (op : Int) (w : World) : Calls Tryd.prog 44 #[.int .i64 op] w fun e w' => e = .returned (.int .i64 (sz op)) ∧ w = w' := by
  by_cases h : 0 ≤ op ∧ op < 28
  · exact rsize_yes op w h.1 h.2
  · exact rsize_no op w h
set_option maxHeartbeats 3200000 in
theorem first_any (op : Int) (w : World) (h0 : 0 ≤ op) (h1 : op < 28) : Calls Tryd.prog 45 #[.int .i64 op] w fun e w' => e = .returned (.bool (decide (1 ≤ rg op))) ∧ w = w' := by
  rcases op_cases h0 h1 with rfl | rfl | rfl | rfl | rfl | rfl | rfl | rfl | rfl | rfl | rfl | rfl | rfl | rfl | rfl | rfl | rfl | rfl | rfl | rfl | rfl | rfl | rfl | rfl | rfl | rfl | rfl | rfl
  all_goals
    clear h0 h1
    go_enter Tryd.func45, Tryd.ntmps45
    go_wp2
    go_ret
    exact ⟨retBool (by decide +kernel), rfl⟩
set_option maxHeartbeats 3200000 in
theorem two_any (op : Int) (w : World) (h0 : 0 ≤ op) (h1 : op < 28) : Calls Tryd.prog 46 #[.int .i64 op] w fun e w' => e = .returned (.bool (decide (2 ≤ rg op))) ∧ w = w' := by
  rcases op_cases h0 h1 with rfl | rfl | rfl | rfl | rfl | rfl | rfl | rfl | rfl | rfl | rfl | rfl | rfl | rfl | rfl | rfl | rfl | rfl | rfl | rfl | rfl | rfl | rfl | rfl | rfl | rfl | rfl | rfl
  all_goals
    clear h0 h1
    go_enter Tryd.func46, Tryd.ntmps46
    go_wp2
    go_ret
    exact ⟨retBool (by decide +kernel), rfl⟩
set_option maxHeartbeats 1600000 in
theorem rwide_any (op : Int) (w : World) (h0 : 0 ≤ op) (h1 : op < 28) : Calls Tryd.prog 47 #[.int .i64 op] w fun e w' => e = .returned (.int .i64 (wd op)) ∧ w = w' := by
  have hf := op_facts h0 h1
  have HS := hide (fun w => rsize_any op w)
  have HF := hide (fun w => first_any op w h0 h1)
  have HT := hide (fun w => two_any op w h0 h1)
  obtain ⟨s, hs⟩ : ∃ s, sz op = s := ⟨_, rfl⟩
  obtain ⟨r, hr⟩ : ∃ r, rg op = r := ⟨_, rfl⟩
  obtain ⟨d, hd⟩ : ∃ d, wd op = d := ⟨_, rfl⟩
  rw [hs, hr, hd] at hf
  rw [hs] at HS
  rw [hr] at HF HT
  rw [hd]
  obtain ⟨-, h4, he, hr2, hd2, -⟩ := hf
  have e1 : s = 1 + (r : Int) + (d : Int) := he
  clear h0 h1 hs hr hd he h4
  obtain rfl | rfl | rfl : r = 0 ∨ r = 1 ∨ r = 2 := by omega
  all_goals
    obtain rfl | rfl | rfl : d = 0 ∨ d = 1 ∨ d = 2 := by omega
    all_goals
      obtain rfl : s = _ := e1
      simp only [show (1 + ((0 : Nat) : Int) + ((0 : Nat) : Int)) = 1 from rfl, show (1 + ((0 : Nat) : Int) + ((1 : Nat) : Int)) = 2 from rfl, show (1 + ((0 : Nat) : Int) + ((2 : Nat) : Int)) = 3 from rfl, show (1 + ((1 : Nat) : Int) + ((0 : Nat) : Int)) = 2 from rfl, show (1 + ((1 : Nat) : Int) + ((1 : Nat) : Int)) = 3 from rfl, show (1 + ((1 : Nat) : Int) + ((2 : Nat) : Int)) = 4 from rfl, show (1 + ((2 : Nat) : Int) + ((0 : Nat) : Int)) = 3 from rfl, show (1 + ((2 : Nat) : Int) + ((1 : Nat) : Int)) = 4 from rfl, show (1 + ((2 : Nat) : Int) + ((2 : Nat) : Int)) = 5 from rfl] at HS
      simp only [show decide (1 ≤ 0) = false from rfl, show decide (1 ≤ 1) = true from rfl, show decide (1 ≤ 2) = true from rfl] at HF
      simp only [show decide (2 ≤ 0) = false from rfl, show decide (2 ≤ 1) = false from rfl, show decide (2 ≤ 2) = true from rfl] at HT
      go_enter Tryd.func47, Tryd.ntmps47
      go_wp2_with (first
        | (go_at_call 44; refine (unhide HS _).mono ?_; rintro e w2 ⟨rfl, rfl⟩)
        | (go_at_call 45; refine (unhide HF _).mono ?_; rintro e w2 ⟨rfl, rfl⟩)
        | (go_at_call 46; refine (unhide HT _).mono ?_; rintro e w2 ⟨rfl, rfl⟩))
      go_ret
      exact ⟨rfl, rfl⟩
set_option maxHeartbeats 3200000 in
theorem rindex_any (d o a b m : Int) (w : World) (h0 : 0 ≤ o) (h1 : o < 28) (hl1 : rg o = 0 → a = 0) (hl2 : rg o ≤ 1 → b = 0) : Calls Tryd.prog 48 #[iV d o a b m] w fun e w' => e = .returned (.int .i64 (if sd ⟨d, o, a, b, m⟩ = true then 0 else 132)) ∧ Grew w w' := by
  have HF := hide (fun w => first_any o w h0 h1)
  have HT := hide (fun w => two_any o w h0 h1)
  have hr2 := (op_facts h0 h1).2.2.2.1
  have h19 : o = 19 → rg o = 1 := fun h => by rw [h]; rfl
  obtain ⟨r, hr⟩ : ∃ r, rg o = r := ⟨_, rfl⟩
  rw [hr] at HF HT hl1 hl2 hr2 h19
  have HG := hide (grew_alloc (grew_refl w) (.cells #[.int .i64 d, .int .i64 o, .int .i64 a, .int .i64 b, .int .i64 m] 35))
  obtain ⟨V, hV⟩ : ∃ V : Int, (if sd ⟨d, o, a, b, m⟩ = true then (0 : Int) else 132) = V := ⟨_, rfl⟩
  rw [hV]
  clear h0 h1 hr
  have hyes : ((o = 19 → m = 8 ∨ m = 16 ∨ m = 32) ∧ (0 ≤ a ∧ a < 8) ∧ 0 ≤ b ∧ b < 8) → V = 0 := fun h => by rw [← hV]; exact if_pos (decide_eq_true h)
  have hno : ¬ ((o = 19 → m = 8 ∨ m = 16 ∨ m = 32) ∧ (0 ≤ a ∧ a < 8) ∧ 0 ≤ b ∧ b < 8) → V = 132 := fun h => by rw [← hV]; exact if_neg (fun z => h (of_decide_eq_true z))
  clear hV
  obtain rfl | rfl | rfl : r = 0 ∨ r = 1 ∨ r = 2 := by omega
  · obtain rfl := hl1 rfl
    obtain rfl := hl2 (by omega)
    rw [show decide (1 ≤ 0) = false from rfl] at HF
    rw [show decide (2 ≤ 0) = false from rfl] at HT
    obtain rfl : V = 0 := hyes (by omega)
    have k19 : (o == 19) = false := by simp; omega
    clear hyes hno hl1 hl2 h19 hr2
    go_enter Tryd.func48, Tryd.ntmps48
    go_wp2_with (first
      | (go_at_call 45; refine (unhide HF _).mono ?_; rintro e w2 ⟨rfl, rfl⟩)
      | (go_at_call 46; refine (unhide HT _).mono ?_; rintro e w2 ⟨rfl, rfl⟩))
    go_ret
    exact ⟨rfl, unhide HG⟩
  · obtain rfl := hl2 (by omega)
    rw [show decide (1 ≤ 1) = true from rfl] at HF
    rw [show decide (2 ≤ 1) = false from rfl] at HT
    by_cases a0 : a < 0
    · obtain rfl : V = 132 := hno (by omega)
      have a1 : decide (a < 0) = true := decide_eq_true (by omega)
      clear hyes hno hl1 hl2 h19 hr2 a0
      go_enter Tryd.func48, Tryd.ntmps48
      go_wp2_with (first
        | (go_at_call 45; refine (unhide HF _).mono ?_; rintro e w2 ⟨rfl, rfl⟩)
        | (go_at_call 46; refine (unhide HT _).mono ?_; rintro e w2 ⟨rfl, rfl⟩))
      go_ret
      exact ⟨rfl, unhide HG⟩
    by_cases a8 : 8 ≤ a
    · obtain rfl : V = 132 := hno (by omega)
      have a1 : decide (a < 0) = false := decide_eq_false (by omega)
      have a2 : decide (a ≥ 8) = true := decide_eq_true (by omega)
      have a3 : decide (8 ≤ a) = true := decide_eq_true (by omega)
      clear hyes hno hl1 hl2 h19 hr2 a0 a8
      go_enter Tryd.func48, Tryd.ntmps48
      go_wp2_with (first
        | (go_at_call 45; refine (unhide HF _).mono ?_; rintro e w2 ⟨rfl, rfl⟩)
        | (go_at_call 46; refine (unhide HT _).mono ?_; rintro e w2 ⟨rfl, rfl⟩))
      go_ret
      exact ⟨rfl, unhide HG⟩
    by_cases h9 : o = 19
    · subst h9
      by_cases m8 : m = 8
      · subst m8
        obtain rfl : V = 0 := hyes (by omega)
        have a1 : decide (a < 0) = false := decide_eq_false (by omega)
        have a2 : decide (a ≥ 8) = false := decide_eq_false (by omega)
        have a3 : decide (8 ≤ a) = false := decide_eq_false (by omega)
        clear hyes hno hl1 hl2 h19 hr2 a0 a8
        go_enter Tryd.func48, Tryd.ntmps48
        go_wp2_with (first
          | (go_at_call 45; refine (unhide HF _).mono ?_; rintro e w2 ⟨rfl, rfl⟩)
          | (go_at_call 46; refine (unhide HT _).mono ?_; rintro e w2 ⟨rfl, rfl⟩))
        go_ret
        exact ⟨rfl, unhide HG⟩
      by_cases m16 : m = 16
      · subst m16
        obtain rfl : V = 0 := hyes (by omega)
        have a1 : decide (a < 0) = false := decide_eq_false (by omega)
        have a2 : decide (a ≥ 8) = false := decide_eq_false (by omega)
        have a3 : decide (8 ≤ a) = false := decide_eq_false (by omega)
        clear hyes hno hl1 hl2 h19 hr2 a0 a8
        go_enter Tryd.func48, Tryd.ntmps48
        go_wp2_with (first
          | (go_at_call 45; refine (unhide HF _).mono ?_; rintro e w2 ⟨rfl, rfl⟩)
          | (go_at_call 46; refine (unhide HT _).mono ?_; rintro e w2 ⟨rfl, rfl⟩))
        go_ret
        exact ⟨rfl, unhide HG⟩
      by_cases m32 : m = 32
      · subst m32
        obtain rfl : V = 0 := hyes (by omega)
        have a1 : decide (a < 0) = false := decide_eq_false (by omega)
        have a2 : decide (a ≥ 8) = false := decide_eq_false (by omega)
        have a3 : decide (8 ≤ a) = false := decide_eq_false (by omega)
        clear hyes hno hl1 hl2 h19 hr2 a0 a8
        go_enter Tryd.func48, Tryd.ntmps48
        go_wp2_with (first
          | (go_at_call 45; refine (unhide HF _).mono ?_; rintro e w2 ⟨rfl, rfl⟩)
          | (go_at_call 46; refine (unhide HT _).mono ?_; rintro e w2 ⟨rfl, rfl⟩))
        go_ret
        exact ⟨rfl, unhide HG⟩
      obtain rfl : V = 132 := hno (by omega)
      have a1 : decide (a < 0) = false := decide_eq_false (by omega)
      have a2 : decide (a ≥ 8) = false := decide_eq_false (by omega)
      have a3 : decide (8 ≤ a) = false := decide_eq_false (by omega)
      have n8 : (m != 8) = true := by simpa using m8
      have n16 : (m != 16) = true := by simpa using m16
      have n32 : (m != 32) = true := by simpa using m32
      have p8 : (m == 8) = false := by simpa using m8
      have p16 : (m == 16) = false := by simpa using m16
      have p32 : (m == 32) = false := by simpa using m32
      clear hyes hno hl1 hl2 h19 hr2 a0 a8 m8 m16 m32
      go_enter Tryd.func48, Tryd.ntmps48
      go_wp2_with (first
        | (go_at_call 45; refine (unhide HF _).mono ?_; rintro e w2 ⟨rfl, rfl⟩)
        | (go_at_call 46; refine (unhide HT _).mono ?_; rintro e w2 ⟨rfl, rfl⟩))
      go_ret
      exact ⟨rfl, unhide HG⟩
    · obtain rfl : V = 0 := hyes (by omega)
      have k19 : (o == 19) = false := by simp; omega
      have a1 : decide (a < 0) = false := decide_eq_false (by omega)
      have a2 : decide (a ≥ 8) = false := decide_eq_false (by omega)
      have a3 : decide (8 ≤ a) = false := decide_eq_false (by omega)
      clear hyes hno hl1 hl2 h19 hr2 a0 a8 h9
      go_enter Tryd.func48, Tryd.ntmps48
      go_wp2_with (first
        | (go_at_call 45; refine (unhide HF _).mono ?_; rintro e w2 ⟨rfl, rfl⟩)
        | (go_at_call 46; refine (unhide HT _).mono ?_; rintro e w2 ⟨rfl, rfl⟩))
      go_ret
      exact ⟨rfl, unhide HG⟩
  · have h9 : o ≠ 19 := fun h => by have := h19 h; omega
    rw [show decide (1 ≤ 2) = true from rfl] at HF
    rw [show decide (2 ≤ 2) = true from rfl] at HT
    by_cases a0 : a < 0
    · obtain rfl : V = 132 := hno (by omega)
      have a1 : decide (a < 0) = true := decide_eq_true (by omega)
      clear hyes hno hl1 hl2 h19 hr2 a0 h9
      go_enter Tryd.func48, Tryd.ntmps48
      go_wp2_with (first
        | (go_at_call 45; refine (unhide HF _).mono ?_; rintro e w2 ⟨rfl, rfl⟩)
        | (go_at_call 46; refine (unhide HT _).mono ?_; rintro e w2 ⟨rfl, rfl⟩))
      go_ret
      exact ⟨rfl, unhide HG⟩
    by_cases a8 : 8 ≤ a
    · obtain rfl : V = 132 := hno (by omega)
      have a1 : decide (a < 0) = false := decide_eq_false (by omega)
      have a2 : decide (a ≥ 8) = true := decide_eq_true (by omega)
      have a3 : decide (8 ≤ a) = true := decide_eq_true (by omega)
      clear hyes hno hl1 hl2 h19 hr2 a0 a8 h9
      go_enter Tryd.func48, Tryd.ntmps48
      go_wp2_with (first
        | (go_at_call 45; refine (unhide HF _).mono ?_; rintro e w2 ⟨rfl, rfl⟩)
        | (go_at_call 46; refine (unhide HT _).mono ?_; rintro e w2 ⟨rfl, rfl⟩))
      go_ret
      exact ⟨rfl, unhide HG⟩
    by_cases b0 : b < 0
    · obtain rfl : V = 132 := hno (by omega)
      have a1 : decide (a < 0) = false := decide_eq_false (by omega)
      have a2 : decide (a ≥ 8) = false := decide_eq_false (by omega)
      have a3 : decide (8 ≤ a) = false := decide_eq_false (by omega)
      have b1 : decide (b < 0) = true := decide_eq_true (by omega)
      clear hyes hno hl1 hl2 h19 hr2 a0 a8 b0 h9
      go_enter Tryd.func48, Tryd.ntmps48
      go_wp2_with (first
        | (go_at_call 45; refine (unhide HF _).mono ?_; rintro e w2 ⟨rfl, rfl⟩)
        | (go_at_call 46; refine (unhide HT _).mono ?_; rintro e w2 ⟨rfl, rfl⟩))
      go_ret
      exact ⟨rfl, unhide HG⟩
    by_cases b8 : 8 ≤ b
    · obtain rfl : V = 132 := hno (by omega)
      have a1 : decide (a < 0) = false := decide_eq_false (by omega)
      have a2 : decide (a ≥ 8) = false := decide_eq_false (by omega)
      have a3 : decide (8 ≤ a) = false := decide_eq_false (by omega)
      have b1 : decide (b < 0) = false := decide_eq_false (by omega)
      have b2 : decide (b ≥ 8) = true := decide_eq_true (by omega)
      have b3 : decide (8 ≤ b) = true := decide_eq_true (by omega)
      clear hyes hno hl1 hl2 h19 hr2 a0 a8 b0 b8 h9
      go_enter Tryd.func48, Tryd.ntmps48
      go_wp2_with (first
        | (go_at_call 45; refine (unhide HF _).mono ?_; rintro e w2 ⟨rfl, rfl⟩)
        | (go_at_call 46; refine (unhide HT _).mono ?_; rintro e w2 ⟨rfl, rfl⟩))
      go_ret
      exact ⟨rfl, unhide HG⟩
    obtain rfl : V = 0 := hyes (by omega)
    have k19 : (o == 19) = false := by simp; omega
    have a1 : decide (a < 0) = false := decide_eq_false (by omega)
    have a2 : decide (a ≥ 8) = false := decide_eq_false (by omega)
    have a3 : decide (8 ≤ a) = false := decide_eq_false (by omega)
    have b1 : decide (b < 0) = false := decide_eq_false (by omega)
    have b2 : decide (b ≥ 8) = false := decide_eq_false (by omega)
    have b3 : decide (8 ≤ b) = false := decide_eq_false (by omega)
    clear hyes hno hl1 hl2 h19 hr2 a0 a8 b0 b8 h9
    go_enter Tryd.func48, Tryd.ntmps48
    go_wp2_with (first
      | (go_at_call 45; refine (unhide HF _).mono ?_; rintro e w2 ⟨rfl, rfl⟩)
      | (go_at_call 46; refine (unhide HT _).mono ?_; rintro e w2 ⟨rfl, rfl⟩))
    go_ret
    exact ⟨rfl, unhide HG⟩
end Go.Proofs.YtknpfippdddnhabDoor
