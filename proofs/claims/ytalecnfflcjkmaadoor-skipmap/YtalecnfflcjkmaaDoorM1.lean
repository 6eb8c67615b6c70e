/- below, made, behind. -/
import Derived.Test.YtalecnfflcjkmaaDoorM0
import Derived.Test.YtalecnfflcjkmaaDoorLT
import Derived.Shelf.Abstract
import Derived.OwnWalkIn
import Derived.TacticsInMore
import Derived.LoopNIn
import Derived.LoopIn
import Derived.Stop.RegionWithIn
namespace Go.Proofs.YtalecnfflcjkmaaDoor
open Go.RowKit Go.Shelf
attribute [local go_sem] Oper.semAt_some
set_option maxRecDepth 100000

def keyA (k : Int × Int) : Value := .agg #[.int .i32 k.1, .int .i64 k.2]

theorem below_any (a0 a1 b0 b1 : Int) (w : World) :
    Calls Tryd.prog 46 #[.agg #[.int .i32 a0, .int .i64 a1], .agg #[.int .i32 b0, .int .i64 b1]] w fun e w' => e = .returned (.bool (decide (ltK (a0, a1) (b0, b1)))) ∧ Grew w w' := by
  have HC := hide (compare_any a0 a1 b0 b1)
  obtain ⟨c, hc⟩ : ∃ c, cmpK (a0, a1) (b0, b1) = c := ⟨_, rfl⟩
  have hd : decide (ltK (a0, a1) (b0, b1)) = decide (c < 0) := by rw [← hc]; exact decide_eq_decide.2 (cmpK_neg _ _).symm
  rw [hd]
  have HG := hide (grew_alloc (grew_alloc (grew_refl w) (.cells #[.int .i32 a0, .int .i64 a1] 30)) (.cells #[.int .i32 b0, .int .i64 b1] 30))
  have HH := hide hc
  clear hd hc
  go_enter Tryd.func46, Tryd.ntmps46
  go_wp2_with (go_at_call 69; refine (unhide HC _).mono ?_; rintro e w' ⟨rfl, hg⟩; have HG2 := hide hg; clear hg; rw [unhide HH])
  go_ret
  exact ⟨rfl, grew_trans (unhide HG) (unhide HG2)⟩

theorem made_yes (sb hd : Nat) (w : World) (h : w.cell? ⟨sb, 0, none⟩ = some (PN hd)) : Calls Tryd.prog 53 #[PN sb] w fun e w' => e = .returned (.bool true) ∧ w = w' := by
  go_enter Tryd.func53, Tryd.ntmps53
  go_wp2
  go_ret
  exact ⟨rfl, rfl⟩
theorem made_nil (w : World) : Calls Tryd.prog 53 #[nilP] w fun e w' => e = .returned (.bool false) ∧ w = w' := by
  go_enter Tryd.func53, Tryd.ntmps53
  go_wp2
  go_ret
  exact ⟨rfl, rfl⟩
theorem made_zero (sb : Nat) (w : World) (h : w.cell? ⟨sb, 0, none⟩ = some nilP) : Calls Tryd.prog 53 #[PN sb] w fun e w' => e = .returned (.bool false) ∧ w = w' := by
  go_enter Tryd.func53, Tryd.ntmps53
  go_wp2
  go_ret
  exact ⟨rfl, rfl⟩

/-- What behind hands back. -/
abbrev It (b : Nat) : Value := .func (.func 85) #[] #[PN b, PN (b + 1)]
theorem behind_any (q : Nat) (lev : Int) (w : World) :
    Calls Tryd.prog 74 #[PN q, .int .i64 lev] w fun e w' => e = .returned (It w.heap.size) ∧ w' = (w.alloc (.cells #[PN q] 71)).alloc (.cells #[.int .i64 lev] 3) := by
  go_enter Tryd.func74, Tryd.ntmps74
  go_wp2
  go_ret
  exact ⟨rfl, rfl⟩
end Go.Proofs.YtalecnfflcjkmaaDoor
