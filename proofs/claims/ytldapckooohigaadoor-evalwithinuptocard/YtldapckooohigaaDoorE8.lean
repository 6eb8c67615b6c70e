/- do: narrow, jump, jumpif. -/
import Derived.Test.YtldapckooohigaaDoorJF
namespace Go.Proofs.YtldapckooohigaaDoor
open Go.RowKit
set_option maxRecDepth 100000
set_option maxHeartbeats 1600000 in
theorem do_narrow {w0 w : World} {b : Nat} {E : Env} {P : Tp} {s : Mc} {ov : Value} (h : RunIs w0 b E P s ov w) (ho : RunOf w0 E P) (ad : Int) (im : Int) (A B : Nat) (hA : A < 8) (hB : B < 8) :
    Calls Tryd.prog 50 #[.pointer (some ⟨b, 0, none⟩), .agg #[.int .i64 ad, .int .i64 19, .int .i64 (A : Int), .int .i64 (B : Int), .int .i64 im]] w fun e w' => e = .returned (.int .i64 0) ∧ RunIs w0 b E P { s with rg := s.rg.set A (narP (s.rg.getD A 0) im) } ov w' := by
  have hp := ho.pll
  obtain ⟨W1, hW1⟩ : ∃ W, w.alloc (.cells #[.int .i64 ad, .int .i64 19, .int .i64 (A : Int), .int .i64 (B : Int), .int .i64 im] 89) = W := ⟨_, rfl⟩
  have h1 : RunIs w0 b E P s ov W1 := hW1 ▸ h.grew (below_box _)
  have hx : W1.heap[w.heap.size]? = some (.cells #[.int .i64 ad, .int .i64 19, .int .i64 (A : Int), .int .i64 (B : Int), .int .i64 im] 89) := hW1 ▸ heap_alloc_new w _
  have x1 : W1.cell? ⟨w.heap.size, 1, none⟩ = some (.int .i64 19) := cell_at hx
  have x2 : W1.cell? ⟨w.heap.size, 2, none⟩ = some (.int .i64 (A : Int)) := cell_at hx
  have x3 : W1.cell? ⟨w.heap.size, 3, none⟩ = some (.int .i64 (B : Int)) := cell_at hx
  have x4 : W1.cell? ⟨w.heap.size, 4, none⟩ = some (.int .i64 im) := cell_at hx
  have ca : W1.cell? ⟨b, 521 + A, none⟩ = some (.int .i64 (s.rg.getD A 0)) := (h1.cell _).trans (rC_rg hp h.rgl hA)
  have cb : W1.cell? ⟨b, 521 + B, none⟩ = some (.int .i64 (s.rg.getD B 0)) := (h1.cell _).trans (rC_rg hp h.rgl hB)
  have hA0 : (A : Int) < 8 := by omega
  have hB0 : (B : Int) < 8 := by omega
  have hf : ∀ i, W1.frozen? ⟨b, i, none⟩ = false := fun i => frozen_of_heap h1.blk
  have hfa := hf (521 + A)
  have HR := hide fun v => h1.store (rC_setRg hp h.rgl hA v) h1.out rfl (by simp [h.rgl])
  obtain ⟨va, hva⟩ : ∃ v, s.rg.getD A 0 = v := ⟨_, rfl⟩
  rw [hva] at ca
  have HV := hide (fun z => narrow_any va im z)
  have HCA := hide (fun (z : World) (hz : Below W1.heap.size W1 z) => (⟨(hz.cell (World.block_lt_of_cell? W1 _ ca)).trans ca, frozen_of_heap (h1.grew hz).blk⟩ : z.cell? ⟨b, 521 + A, none⟩ = some (.int .i64 va) ∧ z.frozen? ⟨b, 521 + A, none⟩ = false))
  have HS := hide (fun (z : World) (v : Int) (hz : Below W1.heap.size W1 z) => (h1.grew hz).store (rC_setRg hp h.rgl hA v) (h1.grew hz).out rfl (by simp [h.rgl]))
  rw [hva]
  have HW1 := hide hW1
  clear h h1 hx hA hB hp hW1 hf ho
  go_enter Tryd.func50, Tryd.ntmps50
  go_wp2_with (rw [unhide HW1])
  go_quiet (fail)
  go_wp2
  go_region_with (go_at_call 11; refine (unhide HV _).mono ?_; rintro e z1 ⟨rfl, rfl⟩)
  all_goals
    go_wp2
    go_ret
    exact ⟨rfl, unhide HS _ (narP va im) (by first | exact (Below.refl _ _).drew | exact Below.drewN (Below.refl _ _) _ | exact (Below.drewN (Below.refl _ _) _).drew | exact Below.drewN ((Below.refl _ _).drew) _ | exact Below.refl _ _)⟩

set_option maxHeartbeats 1600000 in
theorem do_jump {w0 w : World} {b : Nat} {E : Env} {P : Tp} {s : Mc} {ov : Value} (h : RunIs w0 b E P s ov w) (ho : RunOf w0 E P) (ad : Int) (I : Nat) (A B : Nat) (hA : A < 8) (hB : B < 8) (hI : I < 512) (m : Nat) (hpl : E.pl.getD I 0 = (m : Int)) :
    Calls Tryd.prog 50 #[.pointer (some ⟨b, 0, none⟩), .agg #[.int .i64 ad, .int .i64 22, .int .i64 (A : Int), .int .i64 (B : Int), .int .i64 (I : Int)]] w fun e w' => e = .returned (.int .i64 0) ∧ RunIs w0 b E P { s with pc := m } ov w' := by
  have hp := ho.pll
  obtain ⟨W1, hW1⟩ : ∃ W, w.alloc (.cells #[.int .i64 ad, .int .i64 22, .int .i64 (A : Int), .int .i64 (B : Int), .int .i64 (I : Int)] 89) = W := ⟨_, rfl⟩
  have h1 : RunIs w0 b E P s ov W1 := hW1 ▸ h.grew (below_box _)
  have hx : W1.heap[w.heap.size]? = some (.cells #[.int .i64 ad, .int .i64 22, .int .i64 (A : Int), .int .i64 (B : Int), .int .i64 (I : Int)] 89) := hW1 ▸ heap_alloc_new w _
  have x1 : W1.cell? ⟨w.heap.size, 1, none⟩ = some (.int .i64 22) := cell_at hx
  have x2 : W1.cell? ⟨w.heap.size, 2, none⟩ = some (.int .i64 (A : Int)) := cell_at hx
  have x3 : W1.cell? ⟨w.heap.size, 3, none⟩ = some (.int .i64 (B : Int)) := cell_at hx
  have x4 : W1.cell? ⟨w.heap.size, 4, none⟩ = some (.int .i64 (I : Int)) := cell_at hx
  have ca : W1.cell? ⟨b, 521 + A, none⟩ = some (.int .i64 (s.rg.getD A 0)) := (h1.cell _).trans (rC_rg hp h.rgl hA)
  have cb : W1.cell? ⟨b, 521 + B, none⟩ = some (.int .i64 (s.rg.getD B 0)) := (h1.cell _).trans (rC_rg hp h.rgl hB)
  have hA0 : (A : Int) < 8 := by omega
  have hB0 : (B : Int) < 8 := by omega
  have hf : ∀ i, W1.frozen? ⟨b, i, none⟩ = false := fun i => frozen_of_heap h1.blk
  have hfa := hf (521 + A)
  have HR := hide fun v => h1.store (rC_setRg hp h.rgl hA v) h1.out rfl (by simp [h.rgl])
  have c519 : W1.cell? ⟨b, 519, none⟩ = some (.int .i64 s.pc) := (h1.cell _).trans (rC_pc hp)
  have hf5 := hf 519
  have cp : W1.cell? ⟨b, 7 + I, none⟩ = some (.int .i64 (m : Int)) := by rw [h1.cell, rC_pl hp hI, hpl]
  have hI0 : (I : Int) < 512 := by omega
  have HI := hide (h1.store (rC_setPc hp m) h1.out rfl h1.rgl)
  have HW1 := hide hW1
  clear h h1 hx hA hB hp hW1 hf ho hI hpl
  go_enter Tryd.func50, Tryd.ntmps50
  go_wp2_with (rw [unhide HW1])
  go_quiet (fail)
  go_wp2
  go_region
  all_goals
    go_wp2
    go_ret
    exact ⟨rfl, ((unhide HI).drewN _).drew⟩

set_option maxHeartbeats 1600000 in
theorem do_jumpif0 {w0 w : World} {b : Nat} {E : Env} {P : Tp} {s : Mc} {ov : Value} (h : RunIs w0 b E P s ov w) (ho : RunOf w0 E P) (ad : Int) (im : Int) (A B : Nat) (hA : A < 8) (hB : B < 8) (hz : s.rg.getD A 0 = 0) :
    Calls Tryd.prog 50 #[.pointer (some ⟨b, 0, none⟩), .agg #[.int .i64 ad, .int .i64 23, .int .i64 (A : Int), .int .i64 (B : Int), .int .i64 im]] w fun e w' => e = .returned (.int .i64 0) ∧ RunIs w0 b E P s ov w' := by
  have hp := ho.pll
  obtain ⟨W1, hW1⟩ : ∃ W, w.alloc (.cells #[.int .i64 ad, .int .i64 23, .int .i64 (A : Int), .int .i64 (B : Int), .int .i64 im] 89) = W := ⟨_, rfl⟩
  have h1 : RunIs w0 b E P s ov W1 := hW1 ▸ h.grew (below_box _)
  have hx : W1.heap[w.heap.size]? = some (.cells #[.int .i64 ad, .int .i64 23, .int .i64 (A : Int), .int .i64 (B : Int), .int .i64 im] 89) := hW1 ▸ heap_alloc_new w _
  have x1 : W1.cell? ⟨w.heap.size, 1, none⟩ = some (.int .i64 23) := cell_at hx
  have x2 : W1.cell? ⟨w.heap.size, 2, none⟩ = some (.int .i64 (A : Int)) := cell_at hx
  have x3 : W1.cell? ⟨w.heap.size, 3, none⟩ = some (.int .i64 (B : Int)) := cell_at hx
  have x4 : W1.cell? ⟨w.heap.size, 4, none⟩ = some (.int .i64 im) := cell_at hx
  have ca : W1.cell? ⟨b, 521 + A, none⟩ = some (.int .i64 (s.rg.getD A 0)) := (h1.cell _).trans (rC_rg hp h.rgl hA)
  have cb : W1.cell? ⟨b, 521 + B, none⟩ = some (.int .i64 (s.rg.getD B 0)) := (h1.cell _).trans (rC_rg hp h.rgl hB)
  have hA0 : (A : Int) < 8 := by omega
  have hB0 : (B : Int) < 8 := by omega
  have hf : ∀ i, W1.frozen? ⟨b, i, none⟩ = false := fun i => frozen_of_heap h1.blk
  have hfa := hf (521 + A)
  have HR := hide fun v => h1.store (rC_setRg hp h.rgl hA v) h1.out rfl (by simp [h.rgl])
  rw [hz] at ca
  have HN := hide h1
  have HW1 := hide hW1
  clear h h1 hx hA hB hp hW1 hf ho hz
  go_enter Tryd.func50, Tryd.ntmps50
  go_wp2_with (rw [unhide HW1])
  go_quiet (fail)
  go_wp2
  go_ret
  exact ⟨rfl, (unhide HN).drewN _⟩

set_option maxHeartbeats 1600000 in
theorem do_jumpif1 {w0 w : World} {b : Nat} {E : Env} {P : Tp} {s : Mc} {ov : Value} (h : RunIs w0 b E P s ov w) (ho : RunOf w0 E P) (ad : Int) (I : Nat) (A B : Nat) (hA : A < 8) (hB : B < 8) (hz : s.rg.getD A 0 ≠ 0) (hI : I < 512) (m : Nat) (hpl : E.pl.getD I 0 = (m : Int)) :
    Calls Tryd.prog 50 #[.pointer (some ⟨b, 0, none⟩), .agg #[.int .i64 ad, .int .i64 23, .int .i64 (A : Int), .int .i64 (B : Int), .int .i64 (I : Int)]] w fun e w' => e = .returned (.int .i64 0) ∧ RunIs w0 b E P { s with pc := m } ov w' := by
  have hp := ho.pll
  obtain ⟨W1, hW1⟩ : ∃ W, w.alloc (.cells #[.int .i64 ad, .int .i64 23, .int .i64 (A : Int), .int .i64 (B : Int), .int .i64 (I : Int)] 89) = W := ⟨_, rfl⟩
  have h1 : RunIs w0 b E P s ov W1 := hW1 ▸ h.grew (below_box _)
  have hx : W1.heap[w.heap.size]? = some (.cells #[.int .i64 ad, .int .i64 23, .int .i64 (A : Int), .int .i64 (B : Int), .int .i64 (I : Int)] 89) := hW1 ▸ heap_alloc_new w _
  have x1 : W1.cell? ⟨w.heap.size, 1, none⟩ = some (.int .i64 23) := cell_at hx
  have x2 : W1.cell? ⟨w.heap.size, 2, none⟩ = some (.int .i64 (A : Int)) := cell_at hx
  have x3 : W1.cell? ⟨w.heap.size, 3, none⟩ = some (.int .i64 (B : Int)) := cell_at hx
  have x4 : W1.cell? ⟨w.heap.size, 4, none⟩ = some (.int .i64 (I : Int)) := cell_at hx
  have ca : W1.cell? ⟨b, 521 + A, none⟩ = some (.int .i64 (s.rg.getD A 0)) := (h1.cell _).trans (rC_rg hp h.rgl hA)
  have cb : W1.cell? ⟨b, 521 + B, none⟩ = some (.int .i64 (s.rg.getD B 0)) := (h1.cell _).trans (rC_rg hp h.rgl hB)
  have hA0 : (A : Int) < 8 := by omega
  have hB0 : (B : Int) < 8 := by omega
  have hf : ∀ i, W1.frozen? ⟨b, i, none⟩ = false := fun i => frozen_of_heap h1.blk
  have hfa := hf (521 + A)
  have HR := hide fun v => h1.store (rC_setRg hp h.rgl hA v) h1.out rfl (by simp [h.rgl])
  obtain ⟨va, hva⟩ : ∃ v, s.rg.getD A 0 = v := ⟨_, rfl⟩
  rw [hva] at ca
  have c519 : W1.cell? ⟨b, 519, none⟩ = some (.int .i64 s.pc) := (h1.cell _).trans (rC_pc hp)
  have hf5 := hf 519
  have cp : W1.cell? ⟨b, 7 + I, none⟩ = some (.int .i64 (m : Int)) := by rw [h1.cell, rC_pl hp hI, hpl]
  have hI0 : (I : Int) < 512 := by omega
  have g0 : (va != 0) = true := by rw [← hva]; simpa using hz
  have g1 : (va == 0) = false := by rw [← hva]; simpa using hz
  have HI := hide (h1.store (rC_setPc hp m) h1.out rfl h1.rgl)
  have HW1 := hide hW1
  clear h h1 hx hA hB hp hW1 hf ho hI hpl hz hva
  go_enter Tryd.func50, Tryd.ntmps50
  go_wp2_with (rw [unhide HW1])
  go_quiet (fail)
  go_wp2
  go_region
  all_goals
    go_wp2
    go_ret
    exact ⟨rfl, ((unhide HI).drewN _).drew⟩
end Go.Proofs.YtldapckooohigaaDoor
