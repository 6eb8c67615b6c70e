/- sound, lean, fits, jumps, behind, number. -/
import Derived.Test.YtknpfippdddnhaaDoorW0
import Derived.Deep.RegionHeld3
namespace Go.Proofs.YtknpfippdddnhaaDoor
open Go.RowKit
set_option maxRecDepth 100000

abbrev iV (d o a b m : Int) : Value := .agg #[.int .i64 d, .int .i64 o, .int .i64 a, .int .i64 b, .int .i64 m]
theorem grew_drewN {a w : World} (h : Grew a w) : ∀ j, Grew a (w.drewN j) := fun j => by
  obtain ⟨q, os, rfl⟩ := h
  exact ⟨q + j, os, by simp [Sort.grow, World.drewN, Nat.add_assoc]⟩

theorem jumps_any (d o a b m : Int) (w : World) : Calls Tryd.prog 49 #[iV d o a b m] w fun e w' => e = .returned (.bool (jmp ⟨d, o, a, b, m⟩)) ∧ Grew w w' := by
  by_cases h1 : o = 22
  · rw [show jmp ⟨d, o, a, b, m⟩ = true from decide_eq_true (.inl h1)]
    subst h1
    go_enter Tryd.func49, Tryd.ntmps49
    go_wp2
    go_ret
    exact ⟨rfl, grew_alloc (grew_refl _) _⟩
  · have g1 : (o == 22) = false := by simpa using h1
    by_cases h2 : o = 23
    · rw [show jmp ⟨d, o, a, b, m⟩ = true from decide_eq_true (.inr h2)]
      subst h2
      go_enter Tryd.func49, Tryd.ntmps49
      go_wp2
      go_ret
      exact ⟨rfl, grew_alloc (grew_refl _) _⟩
    · have g2 : (o == 23) = false := by simpa using h2
      rw [show jmp ⟨d, o, a, b, m⟩ = false from decide_eq_false (by rintro (h | h); exact h1 h; exact h2 h)]
      clear h1 h2
      go_enter Tryd.func49, Tryd.ntmps49
      go_wp2
      go_ret
      exact ⟨rfl, grew_alloc (grew_refl _) _⟩

set_option maxHeartbeats 800000 in
theorem sound_any (d o a b m : Int) (w : World) : Calls Tryd.prog 69 #[iV d o a b m] w fun e w' => e = .returned (.bool (sd ⟨d, o, a, b, m⟩)) ∧ Grew w w' := by
  have key : ∀ (c : Bool), (decide (0 ≤ a ∧ a < 8)) = c → (o = 19 → m = 8 ∨ m = 16 ∨ m = 32) → sd ⟨d, o, a, b, m⟩ = (c && decide (0 ≤ b ∧ b < 8)) := by
    intro c hc hm
    subst hc
    unfold sd
    by_cases h1 : 0 ≤ a ∧ a < 8 <;> by_cases h2 : 0 ≤ b ∧ b < 8 <;> simp [h1, h2]
    exact Classical.or_iff_not_imp_left.2 fun h => hm (Classical.not_not.1 h)
  have HI := hide isreg_any
  obtain ⟨c1, hc1⟩ : ∃ c, decide (0 ≤ a ∧ a < 8) = c := ⟨_, rfl⟩
  obtain ⟨c2, hc2⟩ : ∃ c, decide (0 ≤ b ∧ b < 8) = c := ⟨_, rfl⟩
  rw [hc2] at key
  have KA : Hid (∀ w, Calls Tryd.prog 76 #[.int .i64 a] w fun e w' => e = .returned (.bool c1) ∧ w = w') := fun w => by rw [← hc1]; exact isreg_any a w
  have KB : Hid (∀ w, Calls Tryd.prog 76 #[.int .i64 b] w fun e w' => e = .returned (.bool c2) ∧ w = w') := fun w => by rw [← hc2]; exact isreg_any b w
  have HK := hide (key c1 hc1)
  have HC1 := hide hc1
  have HC2 := hide hc2
  clear key hc1 hc2 HI
  by_cases h1 : o = 19
  · by_cases h2 : m = 8
    · rw [unhide HK fun _ => .inl h2]
      subst h1 h2
      cases c1
      all_goals
        go_enter Tryd.func69, Tryd.ntmps69
        go_wp2_with fail
        refine (unhide KA _).mono ?_
        rintro e w' ⟨rfl, rfl⟩
        go_wp2_with (go_at_call 76; refine (unhide KB _).mono ?_; rintro e w' ⟨rfl, rfl⟩)
        go_ret
        exact ⟨rfl, grew_alloc (grew_refl _) _⟩
    · have g2 : (m != 8) = true := by simpa using h2
      by_cases h3 : m = 16
      · rw [unhide HK fun _ => .inr (.inl h3)]
        subst h1 h3
        cases c1
        all_goals
          go_enter Tryd.func69, Tryd.ntmps69
          go_wp2_with fail
          refine (unhide KA _).mono ?_
          rintro e w' ⟨rfl, rfl⟩
          go_wp2_with (go_at_call 76; refine (unhide KB _).mono ?_; rintro e w' ⟨rfl, rfl⟩)
          go_ret
          exact ⟨rfl, grew_alloc (grew_refl _) _⟩
      · have g3 : (m != 16) = true := by simpa using h3
        by_cases h4 : m = 32
        · rw [unhide HK fun _ => .inr (.inr h4)]
          subst h1 h4
          cases c1
          all_goals
            go_enter Tryd.func69, Tryd.ntmps69
            go_wp2_with fail
            refine (unhide KA _).mono ?_
            rintro e w' ⟨rfl, rfl⟩
            go_wp2_with (go_at_call 76; refine (unhide KB _).mono ?_; rintro e w' ⟨rfl, rfl⟩)
            go_ret
            exact ⟨rfl, grew_alloc (grew_refl _) _⟩
        · have g4 : (m != 32) = true := by simpa using h4
          rw [show sd ⟨d, o, a, b, m⟩ = false from decide_eq_false (by rintro ⟨h, -⟩; rcases h h1 with h | h | h; exact h2 h; exact h3 h; exact h4 h)]
          subst h1
          clear h2 h3 h4
          go_enter Tryd.func69, Tryd.ntmps69
          go_wp2
          go_ret
          exact ⟨rfl, grew_alloc (grew_refl _) _⟩
  · rw [unhide HK fun h => absurd h h1]
    have g1 : (o == 19) = false := by simpa using h1
    clear h1
    cases c1
    all_goals
      go_enter Tryd.func69, Tryd.ntmps69
      go_wp2_with fail
      refine (unhide KA _).mono ?_
      rintro e w' ⟨rfl, rfl⟩
      go_wp2_with (go_at_call 76; refine (unhide KB _).mono ?_; rintro e w' ⟨rfl, rfl⟩)
      go_ret
      exact ⟨rfl, grew_alloc (grew_refl _) _⟩

set_option maxHeartbeats 800000 in
theorem behind_any (d o a b m : Int) (w : World) (hT : Tab w) (h0 : 0 ≤ o) (h1 : o < 28) (hd : 0 ≤ d) (hd1 : d ≤ 4611686018427387904) : Calls Tryd.prog 42 #[iV d o a b m] w fun e w' => e = .returned (.int .i64 (d + sz o)) ∧ Grew w w' := by
  have hT' : Tab (w.alloc (.cells #[.int .i64 d, .int .i64 o, .int .i64 a, .int .i64 b, .int .i64 m] 28)) := hT.below (below_box _) hT.pos
  have hc := hT' o.toNat (by omega)
  obtain ⟨f1, f2, f3, f4, f5, f6⟩ := op_facts h0 h1
  rw [f6] at hc
  clear f3 f4 f5 f6 hT hT'
  generalize sz o = s at *
  go_enter Tryd.func42, Tryd.ntmps42
  go_wp2
  go_quiet (fail)
  go_wp2
  go_ret
  exact ⟨rfl, grew_drewN (grew_alloc (grew_refl _) _) _⟩
end Go.Proofs.YtknpfippdddnhaaDoor
