/- The smallest functions: must, Size, registers, wide, isRegister, jumps, behind. -/
import Derived.Test.YtknpfippdddnhaaDoorP0
import Derived.Deep.QuietTactic
import Derived.BigQuiet
namespace Go.Proofs.YtknpfippdddnhaaDoor
open Go.RowKit
set_option maxRecDepth 100000

def GiveUp (er : Int) : Ending := .panicked [{ v := .iface 90 (.agg #[.int .i64 er]), recovered := false }]
/-- The table of sizes. -/
def Tab (w : World) : Prop := ∀ i, i < 28 → w.cell? ⟨0, i, none⟩ = some (.int .i64 (szL.getD i 0))
theorem Tab.pos {w : World} (h : Tab w) : 0 < w.heap.size := World.block_lt_of_cell? w _ (h 0 (by decide))
theorem Tab.below {w w' : World} {b : Nat} (h : Tab w) (hb : Below b w w') (h0 : 0 < b) : Tab w' := fun i hi => (hb.cell (p := ⟨0, i, none⟩) h0).trans (h i hi)

theorem must_ok (er : Int) (w : World) : Calls Tryd.prog 65 #[.bool true, .int .i64 er] w fun e w' => e = .returned (.tuple #[]) ∧ w = w' := by
  go_enter Tryd.func65, Tryd.ntmps65
  go_wp2
  go_end0
  exact ⟨rfl, rfl⟩
theorem must_no (er : Int) (w : World) : Calls Tryd.prog 65 #[.bool false, .int .i64 er] w fun e w' => e = GiveUp er ∧ w = w' := by
  go_enter Tryd.func65, Tryd.ntmps65
  go_wp2
  exact ⟨rfl, rfl, rfl⟩

theorem size_yes (op : Int) (w : World) (hT : Tab w) (h0 : 0 ≤ op) (h1 : op < 28) : Calls Tryd.prog 25 #[.int .i64 op] w fun e w' => e = .returned (.tuple #[.int .i64 (sz op), .bool true]) ∧ w = w' := by
  have hc := hT op.toNat (by omega)
  have hf := (op_facts h0 h1).2.2.2.2.2
  rw [hf] at hc
  clear hf hT
  generalize sz op = s at *
  have g1 : ¬ op < 0 := by omega
  have g2 : ¬ 28 ≤ op := by omega
  go_enter Tryd.func25, Tryd.ntmps25
  go_wp2
  go_ret2
  exact ⟨rfl, rfl⟩
theorem size_no (op : Int) (w : World) (h : ¬ (0 ≤ op ∧ op < 28)) : Calls Tryd.prog 25 #[.int .i64 op] w fun e w' => e = .returned (.tuple #[.int .i64 (sz op), .bool false]) ∧ w = w' := by
  rw [sz_none h]
  by_cases g1 : op < 0
  · clear h
    go_enter Tryd.func25, Tryd.ntmps25
    go_wp2
    go_ret2
    exact ⟨rfl, rfl⟩
  · have g2 : 28 ≤ op := by omega
    clear h
    go_enter Tryd.func25, Tryd.ntmps25
    go_wp2
    go_ret2
    exact ⟨rfl, rfl⟩
theorem reg_any (op : Int) (w : World) (h0 : 0 ≤ op) (h1 : op < 28) : Calls Tryd.prog 67 #[.int .i64 op] w fun e w' => e = .returned (.int .i64 (rg op)) ∧ w = w' := by
  rcases op_cases h0 h1 with rfl | rfl | rfl | rfl | rfl | rfl | rfl | rfl | rfl | rfl | rfl | rfl | rfl | rfl | rfl | rfl | rfl | rfl | rfl | rfl | rfl | rfl | rfl | rfl | rfl | rfl | rfl | rfl
  all_goals
    clear h0 h1
    go_enter Tryd.func67, Tryd.ntmps67
    go_wp2
    go_ret
    exact ⟨rfl, rfl⟩
theorem reg_q (op : Int) (w : World) (h0 : 0 ≤ op) (h1 : op < 28) : Calls Tryd.prog 67 #[.int .i64 op] w fun e w' => e = .returned (.int .i64 (rg op)) ∧ w' = w := (reg_any op w h0 h1).mono fun _ _ h => ⟨h.1, h.2.symm⟩
theorem isreg_any (r : Int) (w : World) : Calls Tryd.prog 76 #[.int .i64 r] w fun e w' => e = .returned (.bool (decide (0 ≤ r ∧ r < 8))) ∧ w = w' := by
  by_cases h1 : 0 ≤ r
  · by_cases h2 : r < 8
    · rw [decide_eq_true (p := 0 ≤ r ∧ r < 8) ⟨h1, h2⟩]
      go_enter Tryd.func76, Tryd.ntmps76
      go_wp2
      go_ret
      exact ⟨rfl, rfl⟩
    · rw [decide_eq_false (p := 0 ≤ r ∧ r < 8) (by omega)]
      go_enter Tryd.func76, Tryd.ntmps76
      go_wp2
      go_ret
      exact ⟨rfl, rfl⟩
  · rw [decide_eq_false (p := 0 ≤ r ∧ r < 8) (by omega)]
    go_enter Tryd.func76, Tryd.ntmps76
    go_wp2
    go_ret
    exact ⟨rfl, rfl⟩
set_option maxHeartbeats 800000 in
theorem wide_any (op : Int) (w : World) (hT : Tab w) (h0 : 0 ≤ op) (h1 : op < 28) : Calls Tryd.prog 90 #[.int .i64 op] w fun e w' => e = .returned (.int .i64 (wd op)) ∧ ∃ j, w' = w.drewN j := by
  have hc := hT op.toNat (by omega)
  obtain ⟨f1, f2, f3, f4, f5, f6⟩ := op_facts h0 h1
  rw [f6] at hc
  have e : (wd op : Int) = sz op - 1 - rg op := by omega
  rw [e]
  have HR := hide (fun w => reg_q op w h0 h1)
  have F3 := hide f3
  clear e f6 hT f3
  generalize sz op = s at *
  generalize rg op = r at *
  go_enter Tryd.func90, Tryd.ntmps90
  go_wp2
  go_quiet ((go_at_call 67; exact Calls.quiet_of_same (unhide HR _)))
  go_wp2
  go_ret
  exact ⟨rfl, _, rfl⟩
end Go.Proofs.YtknpfippdddnhaaDoor
