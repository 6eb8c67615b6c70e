/- lean, fits, number. -/
import Derived.Test.YtknpfippdddnhaaDoorW1
namespace Go.Proofs.YtknpfippdddnhaaDoor
open Go.RowKit
set_option maxRecDepth 100000

theorem grew_of_drewN {w w' : World} (h : ∃ j, w' = w.drewN j) : Grew w w' := by obtain ⟨j, rfl⟩ := h; exact grew_drewN (grew_refl _) j
theorem lnn_eq (d o a b m : Int) : lnn ⟨d, o, a, b, m⟩ = ((decide (0 < (rg o : Int)) || decide (a = 0)) && ((decide (1 < (rg o : Int)) || decide (b = 0)) && (decide (0 < (wd o : Int)) || decide (m = 0)))) := by
  unfold lnn
  by_cases h1 : 0 < rg o <;> by_cases h2 : 1 < rg o <;> by_cases h3 : 0 < wd o <;> by_cases h4 : a = 0 <;> by_cases h5 : b = 0 <;> by_cases h6 : m = 0 <;> simp [h1, h2, h3, h4, h5, h6] <;> omega

set_option maxHeartbeats 1600000 in
theorem lean_any (d o a b m : Int) (w : World) (hT : Tab w) (h0 : 0 ≤ o) (h1 : o < 28) : Calls Tryd.prog 88 #[iV d o a b m] w fun e w' => e = .returned (.bool (lnn ⟨d, o, a, b, m⟩)) ∧ Grew w w' := by
  have HR := hide (fun w => reg_any o w h0 h1)
  have hb : Below w.heap.size w (w.alloc (.cells #[.int .i64 d, .int .i64 o, .int .i64 a, .int .i64 b, .int .i64 m] 28)) := below_box _
  have HW := hide (wide_any o _ (hT.below hb hT.pos) h0 h1)
  rw [lnn_eq]
  obtain ⟨f1, f2, f3, f4, f5, f6⟩ := op_facts h0 h1
  have q1 : (0 : Int) ≤ rg o ∧ (rg o : Int) ≤ 2 ∧ (0 : Int) ≤ wd o ∧ (wd o : Int) ≤ 2 := by omega
  clear f1 f2 f3 f4 f5 f6 hb hT h0 h1
  generalize (rg o : Int) = r at *
  generalize (wd o : Int) = s at *
  rcases (by omega : r = 0 ∨ r = 1 ∨ r = 2) with rfl | rfl | rfl
  all_goals
    by_cases h4 : a = 0
    all_goals first
      | subst h4
      | (have g4 : (a == 0) = false := (by simpa using h4); rw [decide_eq_false h4]; clear h4)
    all_goals
      by_cases h5 : b = 0
    all_goals first
      | subst h5
      | (have g5 : (b == 0) = false := (by simpa using h5); rw [decide_eq_false h5]; clear h5)
    all_goals
      by_cases h6 : m = 0
    all_goals first
      | subst h6
      | (have g6 : (m == 0) = false := (by simpa using h6); rw [decide_eq_false h6]; clear h6)
    all_goals
      rcases (by omega : s = 0 ∨ s = 1 ∨ s = 2) with rfl | rfl | rfl
    all_goals
      clear q1
      go_enter Tryd.func88, Tryd.ntmps88
      go_wp2_with (first
        | (go_at_call 67; refine (unhide HR _).mono ?_; rintro e w' ⟨rfl, rfl⟩)
        | (go_at_call 90; refine (unhide HW).mono ?_; rintro e w' ⟨rfl, j, rfl⟩))
      go_ret
      exact ⟨rfl, by first | exact grew_alloc (grew_refl _) _ | exact grew_drewN (grew_alloc (grew_refl _) _) _⟩
end Go.Proofs.YtknpfippdddnhaaDoor
