/- Several texts as one. -/
import Derived.Test.YtknpfippdddnhabDoorU0

/- The document's One, where an instruction names 0 registers and has an Imm of 0 bytes. -/
namespace Go.Proofs.YtknpfippdddnhabDoor
open Go.RowKit Go.Shelf
set_option maxRecDepth 100000

set_option maxHeartbeats 3200000 in
theorem rone00 (w : World) (ga oa n cap p : Nat) (op : Int) (ho0 : 0 ≤ op) (ho1 : op < 28) (hr : rg op = 0) (hd : wd op = 0) (hn : n ≤ 4611686018427387900) (hp : p + 1 ≤ n) (hc : w.cell? ⟨ga, oa + p, none⟩ = some (.int .u8 op)) :
    Calls Tryd.prog 34 #[.slice (some ⟨ga, oa, none⟩) n cap, .int .i64 p] w fun e w' => e = .returned (.tuple (if sd (⟨p, op, 0, 0, 0⟩ : Ins) = true then #[iV p op 0 0 0, .int .i64 (p + 1), .int .i64 0] else #[iV 0 0 0 0 0, .int .i64 0, .int .i64 132])) ∧ Below w.heap.size w w' := by
  have HS := hide (fun w => rsize_any op w)
  have HF := hide (fun w => first_any op w ho0 ho1)
  have HTW := hide (fun w => two_any op w ho0 ho1)
  have HD := hide (fun w => rwide_any op w ho0 ho1)
  have HI := hide (fun w => rindex_any p op 0 0 0 w ho0 ho1 (fun z => rfl) (fun z => rfl))
  have hs := (op_facts ho0 ho1).2.2.1
  rw [hr, hd] at hs
  rw [hr] at HF HTW
  rw [hd] at HD
  rw [hs] at HS
  simp only [show decide (1 ≤ 0) = false from rfl] at HF
  simp only [show decide (2 ≤ 0) = false from rfl] at HTW
  simp only [show (1 + ((0 : Nat) : Int) + ((0 : Nat) : Int)) = 1 from rfl] at HS
  simp only [show (((0 : Nat) : Int)) = 0 from rfl] at HD
  obtain ⟨SD, hSD⟩ : ∃ c, sd (⟨p, op, 0, 0, 0⟩ : Ins) = c := ⟨_, rfl⟩
  rw [hSD] at HI ⊢
  clear hSD hs hr hd
  have HN := hide (And.intro hn hp)
  have g1 : decide ((p : Int) < 0) = false := decide_eq_false (by omega)
  have g2 : decide ((p : Int) ≥ (n : Int)) = false := decide_eq_false (by omega)
  have g3 : decide ((n : Int) ≤ (p : Int)) = false := decide_eq_false (by omega)
  have g4 : IntKind.i64.wrap ((n : Int) - (p : Int)) = (n : Int) - (p : Int) := wrap_i64 _ (by omega) (by omega)
  have g5 : decide (1 > (n : Int) - (p : Int)) = false := decide_eq_false (by omega)
  have g6 : decide ((n : Int) - (p : Int) < 1) = false := decide_eq_false (by omega)
  have g7 : (0 : Int) ≤ (p : Int) := by omega
  have g8 : (p : Int) < (n : Int) := by omega
  have cO : ∀ (j : Nat) (x : Int), w.cell? ⟨ga, oa + p + j, none⟩ = some (.int .u8 x) → ∀ o, (w.alloc o).cell? ⟨ga, oa + p + j, none⟩ = some (.int .u8 x) ∧ ∀ o', ((w.alloc o).alloc o').cell? ⟨ga, oa + p + j, none⟩ = some (.int .u8 x) := fun j x h o => by
    have h1 := ((below_box o).cell (World.block_lt_of_cell? w _ h)).trans h
    exact ⟨h1, fun o' => ((below_box o').cell (World.block_lt_of_cell? _ _ h1)).trans h1⟩
  have c0 := fun o => (cO 0 op hc o).1
  simp only [Nat.add_zero] at c0
  clear cO hc  
  go_enter Tryd.func34, Tryd.ntmps34
  go_wp2_with (first
    | (go_at_call 44; refine (unhide HS _).mono ?_; rintro e w2 ⟨rfl, rfl⟩)
    | (go_at_call 45; refine (unhide HF _).mono ?_; rintro e w2 ⟨rfl, rfl⟩)
    | (go_at_call 46; refine (unhide HTW _).mono ?_; rintro e w2 ⟨rfl, rfl⟩)
    | (go_at_call 47; refine (unhide HD _).mono ?_; rintro e w2 ⟨rfl, rfl⟩))
  refine (unhide HI _).mono ?_
  rintro e z ⟨rfl, hg⟩
  have hbz := hg.below
  have k4 : z.heap[w.heap.size]? = some (.cells #[.int .i64 0, .int .i64 0, .int .i64 0, .int .i64 0, .int .i64 0] 35) := (hbz.block _ (by simp; omega)).trans (show ((w.alloc (.cells #[.int .i64 0, .int .i64 0, .int .i64 0, .int .i64 0, .int .i64 0] 35)).alloc (.cells #[.int .i64 (p : Int), .int .i64 op, .int .i64 0, .int .i64 0, .int .i64 0] 35)).heap[w.heap.size]? = _ by rw [Below.heap_alloc _ _ _ (by simp)]; exact heap_alloc_new w _)
  have k8 : z.heap[w.heap.size + 1]? = some (.cells #[.int .i64 (p : Int), .int .i64 op, .int .i64 0, .int .i64 0, .int .i64 0] 35) := (hbz.block _ (by simp)).trans (show ((w.alloc (.cells #[.int .i64 0, .int .i64 0, .int .i64 0, .int .i64 0, .int .i64 0] 35)).alloc (.cells #[.int .i64 (p : Int), .int .i64 op, .int .i64 0, .int .i64 0, .int .i64 0] 35)).heap[w.heap.size + 1]? = _ by have := heap_alloc_new (w.alloc (.cells #[.int .i64 0, .int .i64 0, .int .i64 0, .int .i64 0, .int .i64 0] 35)) (.cells #[.int .i64 (p : Int), .int .i64 op, .int .i64 0, .int .i64 0, .int .i64 0] 35); rwa [World.size_alloc] at this)
  have hbw : Below w.heap.size w z := (((below_box _).alloc (by simp) _)).trans (hbz.mono (by simp; omega))
  obtain ⟨a0, a1, a2, a3, a4⟩ := cells5 k4
  obtain ⟨b0, b1, b2, b3, b4⟩ := cells5 k8
  have fz : ∀ o, z.frozen? ⟨w.heap.size, o, none⟩ = false := fun o => frozen_of_heap k4
  have K4 := hide k4
  have HBW := hide hbw
  clear k4 k8 hbw hbz hg
  cases SD
  · skip
    simp only [Bool.false_eq_true, if_false]
    go_wp2
    have hrow := set5 (unhide K4) (.int .i64 0) (.int .i64 0) (.int .i64 0) (.int .i64 0) (.int .i64 0)
    have hbf := set5b (unhide HBW) (Nat.le_refl _) (.int .i64 0) (.int .i64 0) (.int .i64 0) (.int .i64 0) (.int .i64 0)
    clear a0 a1 a2 a3 a4 fz
    generalize (((((z.setCell ⟨w.heap.size, 0, none⟩ (.int .i64 0)).setCell ⟨w.heap.size, 1, none⟩ (.int .i64 0)).setCell ⟨w.heap.size, 2, none⟩ (.int .i64 0)).setCell ⟨w.heap.size, 3, none⟩ (.int .i64 0)).setCell ⟨w.heap.size, 4, none⟩ (.int .i64 0)) = wf at *
    obtain ⟨r0, r1, r2, r3, r4⟩ := cells5 hrow
    exact bodyPost_ret (v := .tuple #[iV 0 0 0 0 0, .int .i64 0, .int .i64 132]) (by simp [results, Tryd.results34, go_sem, r0, r1, r2, r3, r4]) rfl ⟨rfl, hbf⟩
  · skip
    simp only [if_true]
    go_wp2
    have hrow := set5 (unhide K4) (.int .i64 (p : Int)) (.int .i64 op) (.int .i64 0) (.int .i64 0) (.int .i64 0)
    have hbf := set5b (unhide HBW) (Nat.le_refl _) (.int .i64 (p : Int)) (.int .i64 op) (.int .i64 0) (.int .i64 0) (.int .i64 0)
    clear a0 a1 a2 a3 a4 fz
    generalize (((((z.setCell ⟨w.heap.size, 0, none⟩ (.int .i64 (p : Int))).setCell ⟨w.heap.size, 1, none⟩ (.int .i64 op)).setCell ⟨w.heap.size, 2, none⟩ (.int .i64 0)).setCell ⟨w.heap.size, 3, none⟩ (.int .i64 0)).setCell ⟨w.heap.size, 4, none⟩ (.int .i64 0)) = wf at *
    obtain ⟨r0, r1, r2, r3, r4⟩ := cells5 hrow
    exact bodyPost_ret (v := .tuple #[iV p op 0 0 0, .int .i64 ((p : Int) + 1), .int .i64 0]) (by simp [results, Tryd.results34, go_sem, r0, r1, r2, r3, r4]) rfl ⟨rfl, hbf⟩
end Go.Proofs.YtknpfippdddnhabDoor

/- The document's One, where an instruction names 0 registers and has an Imm of 1 bytes. -/
namespace Go.Proofs.YtknpfippdddnhabDoor
open Go.RowKit Go.Shelf
set_option maxRecDepth 100000

set_option maxHeartbeats 3200000 in
theorem rone01 (w : World) (ga oa n cap p : Nat) (op : Int) (ho0 : 0 ≤ op) (ho1 : op < 28) (hr : rg op = 0) (hd : wd op = 1) (y1 : Int) (hn : n ≤ 4611686018427387900) (hp : p + 2 ≤ n) (hc : w.cell? ⟨ga, oa + p, none⟩ = some (.int .u8 op)) (hy1 : 0 ≤ y1 ∧ y1 ≤ 255) (cy1 : w.cell? ⟨ga, oa + p + 1, none⟩ = some (.int .u8 y1)) :
    Calls Tryd.prog 34 #[.slice (some ⟨ga, oa, none⟩) n cap, .int .i64 p] w fun e w' => e = .returned (.tuple (if sd (⟨p, op, 0, 0, y1⟩ : Ins) = true then #[iV p op 0 0 y1, .int .i64 (p + 2), .int .i64 0] else #[iV 0 0 0 0 0, .int .i64 0, .int .i64 132])) ∧ Below w.heap.size w w' := by
  have HS := hide (fun w => rsize_any op w)
  have HF := hide (fun w => first_any op w ho0 ho1)
  have HTW := hide (fun w => two_any op w ho0 ho1)
  have HD := hide (fun w => rwide_any op w ho0 ho1)
  have HI := hide (fun w => rindex_any p op 0 0 y1 w ho0 ho1 (fun z => rfl) (fun z => rfl))
  have hs := (op_facts ho0 ho1).2.2.1
  rw [hr, hd] at hs
  rw [hr] at HF HTW
  rw [hd] at HD
  rw [hs] at HS
  simp only [show decide (1 ≤ 0) = false from rfl] at HF
  simp only [show decide (2 ≤ 0) = false from rfl] at HTW
  simp only [show (1 + ((0 : Nat) : Int) + ((1 : Nat) : Int)) = 2 from rfl] at HS
  simp only [show (((1 : Nat) : Int)) = 1 from rfl] at HD
  obtain ⟨SD, hSD⟩ : ∃ c, sd (⟨p, op, 0, 0, y1⟩ : Ins) = c := ⟨_, rfl⟩
  rw [hSD] at HI ⊢
  clear hSD hs hr hd
  have HN := hide (And.intro hn hp)
  have g1 : decide ((p : Int) < 0) = false := decide_eq_false (by omega)
  have g2 : decide ((p : Int) ≥ (n : Int)) = false := decide_eq_false (by omega)
  have g3 : decide ((n : Int) ≤ (p : Int)) = false := decide_eq_false (by omega)
  have g4 : IntKind.i64.wrap ((n : Int) - (p : Int)) = (n : Int) - (p : Int) := wrap_i64 _ (by omega) (by omega)
  have g5 : decide (2 > (n : Int) - (p : Int)) = false := decide_eq_false (by omega)
  have g6 : decide ((n : Int) - (p : Int) < 2) = false := decide_eq_false (by omega)
  have g7 : (0 : Int) ≤ (p : Int) := by omega
  have g8 : (p : Int) < (n : Int) := by omega
  have cO : ∀ (j : Nat) (x : Int), w.cell? ⟨ga, oa + p + j, none⟩ = some (.int .u8 x) → ∀ o, (w.alloc o).cell? ⟨ga, oa + p + j, none⟩ = some (.int .u8 x) ∧ ∀ o', ((w.alloc o).alloc o').cell? ⟨ga, oa + p + j, none⟩ = some (.int .u8 x) := fun j x h o => by
    have h1 := ((below_box o).cell (World.block_lt_of_cell? w _ h)).trans h
    exact ⟨h1, fun o' => ((below_box o').cell (World.block_lt_of_cell? _ _ h1)).trans h1⟩
  have c0 := fun o => (cO 0 op hc o).1
  simp only [Nat.add_zero] at c0
  have u1 := fun o o' => (cO 1 y1 cy1 o).2 o'
  obtain ⟨k1, hk1⟩ : ∃ k, p + 1 = k := ⟨_, rfl⟩
  have w1 : IntKind.i64.wrap ((p : Int) + 1) = (k1 : Int) := by rw [wrap_i64 _ (by omega) (by omega)]; omega
  have z1 : (0 : Int) ≤ (k1 : Int) := by omega
  have v1 : (k1 : Int) < (n : Int) := by omega
  simp only [Nat.add_assoc, hk1] at u1
  have HKK := hide (show p + 1 = k1 from hk1)
  clear hk1
  clear cO hc  cy1
  go_enter Tryd.func34, Tryd.ntmps34
  go_wp2_with (first
    | (go_at_call 44; refine (unhide HS _).mono ?_; rintro e w2 ⟨rfl, rfl⟩)
    | (go_at_call 45; refine (unhide HF _).mono ?_; rintro e w2 ⟨rfl, rfl⟩)
    | (go_at_call 46; refine (unhide HTW _).mono ?_; rintro e w2 ⟨rfl, rfl⟩)
    | (go_at_call 47; refine (unhide HD _).mono ?_; rintro e w2 ⟨rfl, rfl⟩))
  refine (unhide HI _).mono ?_
  rintro e z ⟨rfl, hg⟩
  have hbz := hg.below
  have k4 : z.heap[w.heap.size]? = some (.cells #[.int .i64 0, .int .i64 0, .int .i64 0, .int .i64 0, .int .i64 0] 35) := (hbz.block _ (by simp; omega)).trans (show ((w.alloc (.cells #[.int .i64 0, .int .i64 0, .int .i64 0, .int .i64 0, .int .i64 0] 35)).alloc (.cells #[.int .i64 (p : Int), .int .i64 op, .int .i64 0, .int .i64 0, .int .i64 y1] 35)).heap[w.heap.size]? = _ by rw [Below.heap_alloc _ _ _ (by simp)]; exact heap_alloc_new w _)
  have k8 : z.heap[w.heap.size + 1]? = some (.cells #[.int .i64 (p : Int), .int .i64 op, .int .i64 0, .int .i64 0, .int .i64 y1] 35) := (hbz.block _ (by simp)).trans (show ((w.alloc (.cells #[.int .i64 0, .int .i64 0, .int .i64 0, .int .i64 0, .int .i64 0] 35)).alloc (.cells #[.int .i64 (p : Int), .int .i64 op, .int .i64 0, .int .i64 0, .int .i64 y1] 35)).heap[w.heap.size + 1]? = _ by have := heap_alloc_new (w.alloc (.cells #[.int .i64 0, .int .i64 0, .int .i64 0, .int .i64 0, .int .i64 0] 35)) (.cells #[.int .i64 (p : Int), .int .i64 op, .int .i64 0, .int .i64 0, .int .i64 y1] 35); rwa [World.size_alloc] at this)
  have hbw : Below w.heap.size w z := (((below_box _).alloc (by simp) _)).trans (hbz.mono (by simp; omega))
  obtain ⟨a0, a1, a2, a3, a4⟩ := cells5 k4
  obtain ⟨b0, b1, b2, b3, b4⟩ := cells5 k8
  have fz : ∀ o, z.frozen? ⟨w.heap.size, o, none⟩ = false := fun o => frozen_of_heap k4
  have K4 := hide k4
  have HBW := hide hbw
  clear k4 k8 hbw hbz hg
  cases SD
  · skip
    simp only [Bool.false_eq_true, if_false]
    go_wp2
    have hrow := set5 (unhide K4) (.int .i64 0) (.int .i64 0) (.int .i64 0) (.int .i64 0) (.int .i64 0)
    have hbf := set5b (unhide HBW) (Nat.le_refl _) (.int .i64 0) (.int .i64 0) (.int .i64 0) (.int .i64 0) (.int .i64 0)
    clear a0 a1 a2 a3 a4 fz
    generalize (((((z.setCell ⟨w.heap.size, 0, none⟩ (.int .i64 0)).setCell ⟨w.heap.size, 1, none⟩ (.int .i64 0)).setCell ⟨w.heap.size, 2, none⟩ (.int .i64 0)).setCell ⟨w.heap.size, 3, none⟩ (.int .i64 0)).setCell ⟨w.heap.size, 4, none⟩ (.int .i64 0)) = wf at *
    obtain ⟨r0, r1, r2, r3, r4⟩ := cells5 hrow
    exact bodyPost_ret (v := .tuple #[iV 0 0 0 0 0, .int .i64 0, .int .i64 132]) (by simp [results, Tryd.results34, go_sem, r0, r1, r2, r3, r4]) rfl ⟨rfl, hbf⟩
  · skip
    simp only [if_true]
    go_wp2
    have hrow := set5 (unhide K4) (.int .i64 (p : Int)) (.int .i64 op) (.int .i64 0) (.int .i64 0) (.int .i64 y1)
    have hbf := set5b (unhide HBW) (Nat.le_refl _) (.int .i64 (p : Int)) (.int .i64 op) (.int .i64 0) (.int .i64 0) (.int .i64 y1)
    clear a0 a1 a2 a3 a4 fz
    generalize (((((z.setCell ⟨w.heap.size, 0, none⟩ (.int .i64 (p : Int))).setCell ⟨w.heap.size, 1, none⟩ (.int .i64 op)).setCell ⟨w.heap.size, 2, none⟩ (.int .i64 0)).setCell ⟨w.heap.size, 3, none⟩ (.int .i64 0)).setCell ⟨w.heap.size, 4, none⟩ (.int .i64 y1)) = wf at *
    obtain ⟨r0, r1, r2, r3, r4⟩ := cells5 hrow
    exact bodyPost_ret (v := .tuple #[iV p op 0 0 y1, .int .i64 ((p : Int) + 2), .int .i64 0]) (by simp [results, Tryd.results34, go_sem, r0, r1, r2, r3, r4]) rfl ⟨rfl, hbf⟩
end Go.Proofs.YtknpfippdddnhabDoor

/- The document's One, where an instruction names 1 registers and has an Imm of 0 bytes. -/
namespace Go.Proofs.YtknpfippdddnhabDoor
open Go.RowKit Go.Shelf
set_option maxRecDepth 100000

set_option maxHeartbeats 3200000 in
theorem rone10 (w : World) (ga oa n cap p : Nat) (op : Int) (ho0 : 0 ≤ op) (ho1 : op < 28) (hr : rg op = 1) (hd : wd op = 0) (x1 : Int) (hn : n ≤ 4611686018427387900) (hp : p + 2 ≤ n) (hc : w.cell? ⟨ga, oa + p, none⟩ = some (.int .u8 op)) (hx1 : 0 ≤ x1 ∧ x1 ≤ 255) (cx1 : w.cell? ⟨ga, oa + p + 1, none⟩ = some (.int .u8 x1)) :
    Calls Tryd.prog 34 #[.slice (some ⟨ga, oa, none⟩) n cap, .int .i64 p] w fun e w' => e = .returned (.tuple (if sd (⟨p, op, x1, 0, 0⟩ : Ins) = true then #[iV p op x1 0 0, .int .i64 (p + 2), .int .i64 0] else #[iV 0 0 0 0 0, .int .i64 0, .int .i64 132])) ∧ Below w.heap.size w w' := by
  have HS := hide (fun w => rsize_any op w)
  have HF := hide (fun w => first_any op w ho0 ho1)
  have HTW := hide (fun w => two_any op w ho0 ho1)
  have HD := hide (fun w => rwide_any op w ho0 ho1)
  have HI := hide (fun w => rindex_any p op x1 0 0 w ho0 ho1 (fun z => (by omega)) (fun z => rfl))
  have hs := (op_facts ho0 ho1).2.2.1
  rw [hr, hd] at hs
  rw [hr] at HF HTW
  rw [hd] at HD
  rw [hs] at HS
  simp only [show decide (1 ≤ 1) = true from rfl] at HF
  simp only [show decide (2 ≤ 1) = false from rfl] at HTW
  simp only [show (1 + ((1 : Nat) : Int) + ((0 : Nat) : Int)) = 2 from rfl] at HS
  simp only [show (((0 : Nat) : Int)) = 0 from rfl] at HD
  obtain ⟨SD, hSD⟩ : ∃ c, sd (⟨p, op, x1, 0, 0⟩ : Ins) = c := ⟨_, rfl⟩
  rw [hSD] at HI ⊢
  clear hSD hs hr hd
  have HN := hide (And.intro hn hp)
  have g1 : decide ((p : Int) < 0) = false := decide_eq_false (by omega)
  have g2 : decide ((p : Int) ≥ (n : Int)) = false := decide_eq_false (by omega)
  have g3 : decide ((n : Int) ≤ (p : Int)) = false := decide_eq_false (by omega)
  have g4 : IntKind.i64.wrap ((n : Int) - (p : Int)) = (n : Int) - (p : Int) := wrap_i64 _ (by omega) (by omega)
  have g5 : decide (2 > (n : Int) - (p : Int)) = false := decide_eq_false (by omega)
  have g6 : decide ((n : Int) - (p : Int) < 2) = false := decide_eq_false (by omega)
  have g7 : (0 : Int) ≤ (p : Int) := by omega
  have g8 : (p : Int) < (n : Int) := by omega
  have cO : ∀ (j : Nat) (x : Int), w.cell? ⟨ga, oa + p + j, none⟩ = some (.int .u8 x) → ∀ o, (w.alloc o).cell? ⟨ga, oa + p + j, none⟩ = some (.int .u8 x) ∧ ∀ o', ((w.alloc o).alloc o').cell? ⟨ga, oa + p + j, none⟩ = some (.int .u8 x) := fun j x h o => by
    have h1 := ((below_box o).cell (World.block_lt_of_cell? w _ h)).trans h
    exact ⟨h1, fun o' => ((below_box o').cell (World.block_lt_of_cell? _ _ h1)).trans h1⟩
  have c0 := fun o => (cO 0 op hc o).1
  simp only [Nat.add_zero] at c0
  have q1 := fun o o' => (cO 1 x1 cx1 o).2 o'
  obtain ⟨k1, hk1⟩ : ∃ k, p + 1 = k := ⟨_, rfl⟩
  have w1 : IntKind.i64.wrap ((p : Int) + 1) = (k1 : Int) := by rw [wrap_i64 _ (by omega) (by omega)]; omega
  have z1 : (0 : Int) ≤ (k1 : Int) := by omega
  have v1 : (k1 : Int) < (n : Int) := by omega
  simp only [Nat.add_assoc, hk1] at q1
  have HKK := hide (show p + 1 = k1 from hk1)
  clear hk1
  clear cO hc cx1 
  go_enter Tryd.func34, Tryd.ntmps34
  go_wp2_with (first
    | (go_at_call 44; refine (unhide HS _).mono ?_; rintro e w2 ⟨rfl, rfl⟩)
    | (go_at_call 45; refine (unhide HF _).mono ?_; rintro e w2 ⟨rfl, rfl⟩)
    | (go_at_call 46; refine (unhide HTW _).mono ?_; rintro e w2 ⟨rfl, rfl⟩)
    | (go_at_call 47; refine (unhide HD _).mono ?_; rintro e w2 ⟨rfl, rfl⟩))
  refine (unhide HI _).mono ?_
  rintro e z ⟨rfl, hg⟩
  have hbz := hg.below
  have k4 : z.heap[w.heap.size]? = some (.cells #[.int .i64 0, .int .i64 0, .int .i64 0, .int .i64 0, .int .i64 0] 35) := (hbz.block _ (by simp; omega)).trans (show ((w.alloc (.cells #[.int .i64 0, .int .i64 0, .int .i64 0, .int .i64 0, .int .i64 0] 35)).alloc (.cells #[.int .i64 (p : Int), .int .i64 op, .int .i64 x1, .int .i64 0, .int .i64 0] 35)).heap[w.heap.size]? = _ by rw [Below.heap_alloc _ _ _ (by simp)]; exact heap_alloc_new w _)
  have k8 : z.heap[w.heap.size + 1]? = some (.cells #[.int .i64 (p : Int), .int .i64 op, .int .i64 x1, .int .i64 0, .int .i64 0] 35) := (hbz.block _ (by simp)).trans (show ((w.alloc (.cells #[.int .i64 0, .int .i64 0, .int .i64 0, .int .i64 0, .int .i64 0] 35)).alloc (.cells #[.int .i64 (p : Int), .int .i64 op, .int .i64 x1, .int .i64 0, .int .i64 0] 35)).heap[w.heap.size + 1]? = _ by have := heap_alloc_new (w.alloc (.cells #[.int .i64 0, .int .i64 0, .int .i64 0, .int .i64 0, .int .i64 0] 35)) (.cells #[.int .i64 (p : Int), .int .i64 op, .int .i64 x1, .int .i64 0, .int .i64 0] 35); rwa [World.size_alloc] at this)
  have hbw : Below w.heap.size w z := (((below_box _).alloc (by simp) _)).trans (hbz.mono (by simp; omega))
  obtain ⟨a0, a1, a2, a3, a4⟩ := cells5 k4
  obtain ⟨b0, b1, b2, b3, b4⟩ := cells5 k8
  have fz : ∀ o, z.frozen? ⟨w.heap.size, o, none⟩ = false := fun o => frozen_of_heap k4
  have K4 := hide k4
  have HBW := hide hbw
  clear k4 k8 hbw hbz hg
  cases SD
  · skip
    simp only [Bool.false_eq_true, if_false]
    go_wp2
    have hrow := set5 (unhide K4) (.int .i64 0) (.int .i64 0) (.int .i64 0) (.int .i64 0) (.int .i64 0)
    have hbf := set5b (unhide HBW) (Nat.le_refl _) (.int .i64 0) (.int .i64 0) (.int .i64 0) (.int .i64 0) (.int .i64 0)
    clear a0 a1 a2 a3 a4 fz
    generalize (((((z.setCell ⟨w.heap.size, 0, none⟩ (.int .i64 0)).setCell ⟨w.heap.size, 1, none⟩ (.int .i64 0)).setCell ⟨w.heap.size, 2, none⟩ (.int .i64 0)).setCell ⟨w.heap.size, 3, none⟩ (.int .i64 0)).setCell ⟨w.heap.size, 4, none⟩ (.int .i64 0)) = wf at *
    obtain ⟨r0, r1, r2, r3, r4⟩ := cells5 hrow
    exact bodyPost_ret (v := .tuple #[iV 0 0 0 0 0, .int .i64 0, .int .i64 132]) (by simp [results, Tryd.results34, go_sem, r0, r1, r2, r3, r4]) rfl ⟨rfl, hbf⟩
  · skip
    simp only [if_true]
    go_wp2
    have hrow := set5 (unhide K4) (.int .i64 (p : Int)) (.int .i64 op) (.int .i64 x1) (.int .i64 0) (.int .i64 0)
    have hbf := set5b (unhide HBW) (Nat.le_refl _) (.int .i64 (p : Int)) (.int .i64 op) (.int .i64 x1) (.int .i64 0) (.int .i64 0)
    clear a0 a1 a2 a3 a4 fz
    generalize (((((z.setCell ⟨w.heap.size, 0, none⟩ (.int .i64 (p : Int))).setCell ⟨w.heap.size, 1, none⟩ (.int .i64 op)).setCell ⟨w.heap.size, 2, none⟩ (.int .i64 x1)).setCell ⟨w.heap.size, 3, none⟩ (.int .i64 0)).setCell ⟨w.heap.size, 4, none⟩ (.int .i64 0)) = wf at *
    obtain ⟨r0, r1, r2, r3, r4⟩ := cells5 hrow
    exact bodyPost_ret (v := .tuple #[iV p op x1 0 0, .int .i64 ((p : Int) + 2), .int .i64 0]) (by simp [results, Tryd.results34, go_sem, r0, r1, r2, r3, r4]) rfl ⟨rfl, hbf⟩
end Go.Proofs.YtknpfippdddnhabDoor

/- The document's One, where an instruction names 1 registers and has an Imm of 1 bytes. -/
namespace Go.Proofs.YtknpfippdddnhabDoor
open Go.RowKit Go.Shelf
set_option maxRecDepth 100000

set_option maxHeartbeats 3200000 in
theorem rone11 (w : World) (ga oa n cap p : Nat) (op : Int) (ho0 : 0 ≤ op) (ho1 : op < 28) (hr : rg op = 1) (hd : wd op = 1) (x1 y1 : Int) (hn : n ≤ 4611686018427387900) (hp : p + 3 ≤ n) (hc : w.cell? ⟨ga, oa + p, none⟩ = some (.int .u8 op)) (hx1 : 0 ≤ x1 ∧ x1 ≤ 255) (cx1 : w.cell? ⟨ga, oa + p + 1, none⟩ = some (.int .u8 x1)) (hy1 : 0 ≤ y1 ∧ y1 ≤ 255) (cy1 : w.cell? ⟨ga, oa + p + 2, none⟩ = some (.int .u8 y1)) :
    Calls Tryd.prog 34 #[.slice (some ⟨ga, oa, none⟩) n cap, .int .i64 p] w fun e w' => e = .returned (.tuple (if sd (⟨p, op, x1, 0, y1⟩ : Ins) = true then #[iV p op x1 0 y1, .int .i64 (p + 3), .int .i64 0] else #[iV 0 0 0 0 0, .int .i64 0, .int .i64 132])) ∧ Below w.heap.size w w' := by
  have HS := hide (fun w => rsize_any op w)
  have HF := hide (fun w => first_any op w ho0 ho1)
  have HTW := hide (fun w => two_any op w ho0 ho1)
  have HD := hide (fun w => rwide_any op w ho0 ho1)
  have HI := hide (fun w => rindex_any p op x1 0 y1 w ho0 ho1 (fun z => (by omega)) (fun z => rfl))
  have hs := (op_facts ho0 ho1).2.2.1
  rw [hr, hd] at hs
  rw [hr] at HF HTW
  rw [hd] at HD
  rw [hs] at HS
  simp only [show decide (1 ≤ 1) = true from rfl] at HF
  simp only [show decide (2 ≤ 1) = false from rfl] at HTW
  simp only [show (1 + ((1 : Nat) : Int) + ((1 : Nat) : Int)) = 3 from rfl] at HS
  simp only [show (((1 : Nat) : Int)) = 1 from rfl] at HD
  obtain ⟨SD, hSD⟩ : ∃ c, sd (⟨p, op, x1, 0, y1⟩ : Ins) = c := ⟨_, rfl⟩
  rw [hSD] at HI ⊢
  clear hSD hs hr hd
  have HN := hide (And.intro hn hp)
  have g1 : decide ((p : Int) < 0) = false := decide_eq_false (by omega)
  have g2 : decide ((p : Int) ≥ (n : Int)) = false := decide_eq_false (by omega)
  have g3 : decide ((n : Int) ≤ (p : Int)) = false := decide_eq_false (by omega)
  have g4 : IntKind.i64.wrap ((n : Int) - (p : Int)) = (n : Int) - (p : Int) := wrap_i64 _ (by omega) (by omega)
  have g5 : decide (3 > (n : Int) - (p : Int)) = false := decide_eq_false (by omega)
  have g6 : decide ((n : Int) - (p : Int) < 3) = false := decide_eq_false (by omega)
  have g7 : (0 : Int) ≤ (p : Int) := by omega
  have g8 : (p : Int) < (n : Int) := by omega
  have cO : ∀ (j : Nat) (x : Int), w.cell? ⟨ga, oa + p + j, none⟩ = some (.int .u8 x) → ∀ o, (w.alloc o).cell? ⟨ga, oa + p + j, none⟩ = some (.int .u8 x) ∧ ∀ o', ((w.alloc o).alloc o').cell? ⟨ga, oa + p + j, none⟩ = some (.int .u8 x) := fun j x h o => by
    have h1 := ((below_box o).cell (World.block_lt_of_cell? w _ h)).trans h
    exact ⟨h1, fun o' => ((below_box o').cell (World.block_lt_of_cell? _ _ h1)).trans h1⟩
  have c0 := fun o => (cO 0 op hc o).1
  simp only [Nat.add_zero] at c0
  have q1 := fun o o' => (cO 1 x1 cx1 o).2 o'
  have u1 := fun o o' => (cO 2 y1 cy1 o).2 o'
  obtain ⟨k1, hk1⟩ : ∃ k, p + 1 = k := ⟨_, rfl⟩
  have w1 : IntKind.i64.wrap ((p : Int) + 1) = (k1 : Int) := by rw [wrap_i64 _ (by omega) (by omega)]; omega
  have z1 : (0 : Int) ≤ (k1 : Int) := by omega
  have v1 : (k1 : Int) < (n : Int) := by omega
  simp only [Nat.add_assoc, hk1] at q1
  obtain ⟨k2, hk2⟩ : ∃ k, p + 2 = k := ⟨_, rfl⟩
  have w2 : IntKind.i64.wrap ((k1 : Int) + 1) = (k2 : Int) := by rw [wrap_i64 _ (by omega) (by omega)]; omega
  have z2 : (0 : Int) ≤ (k2 : Int) := by omega
  have v2 : (k2 : Int) < (n : Int) := by omega
  simp only [Nat.add_assoc, hk2] at u1
  have HKK := hide (show p + 1 = k1 ∧ p + 2 = k2 from ⟨hk1, hk2⟩)
  clear hk1 hk2
  clear cO hc cx1 cy1
  go_enter Tryd.func34, Tryd.ntmps34
  go_wp2_with (first
    | (go_at_call 44; refine (unhide HS _).mono ?_; rintro e w2 ⟨rfl, rfl⟩)
    | (go_at_call 45; refine (unhide HF _).mono ?_; rintro e w2 ⟨rfl, rfl⟩)
    | (go_at_call 46; refine (unhide HTW _).mono ?_; rintro e w2 ⟨rfl, rfl⟩)
    | (go_at_call 47; refine (unhide HD _).mono ?_; rintro e w2 ⟨rfl, rfl⟩))
  refine (unhide HI _).mono ?_
  rintro e z ⟨rfl, hg⟩
  have hbz := hg.below
  have k4 : z.heap[w.heap.size]? = some (.cells #[.int .i64 0, .int .i64 0, .int .i64 0, .int .i64 0, .int .i64 0] 35) := (hbz.block _ (by simp; omega)).trans (show ((w.alloc (.cells #[.int .i64 0, .int .i64 0, .int .i64 0, .int .i64 0, .int .i64 0] 35)).alloc (.cells #[.int .i64 (p : Int), .int .i64 op, .int .i64 x1, .int .i64 0, .int .i64 y1] 35)).heap[w.heap.size]? = _ by rw [Below.heap_alloc _ _ _ (by simp)]; exact heap_alloc_new w _)
  have k8 : z.heap[w.heap.size + 1]? = some (.cells #[.int .i64 (p : Int), .int .i64 op, .int .i64 x1, .int .i64 0, .int .i64 y1] 35) := (hbz.block _ (by simp)).trans (show ((w.alloc (.cells #[.int .i64 0, .int .i64 0, .int .i64 0, .int .i64 0, .int .i64 0] 35)).alloc (.cells #[.int .i64 (p : Int), .int .i64 op, .int .i64 x1, .int .i64 0, .int .i64 y1] 35)).heap[w.heap.size + 1]? = _ by have := heap_alloc_new (w.alloc (.cells #[.int .i64 0, .int .i64 0, .int .i64 0, .int .i64 0, .int .i64 0] 35)) (.cells #[.int .i64 (p : Int), .int .i64 op, .int .i64 x1, .int .i64 0, .int .i64 y1] 35); rwa [World.size_alloc] at this)
  have hbw : Below w.heap.size w z := (((below_box _).alloc (by simp) _)).trans (hbz.mono (by simp; omega))
  obtain ⟨a0, a1, a2, a3, a4⟩ := cells5 k4
  obtain ⟨b0, b1, b2, b3, b4⟩ := cells5 k8
  have fz : ∀ o, z.frozen? ⟨w.heap.size, o, none⟩ = false := fun o => frozen_of_heap k4
  have K4 := hide k4
  have HBW := hide hbw
  clear k4 k8 hbw hbz hg
  cases SD
  · skip
    simp only [Bool.false_eq_true, if_false]
    go_wp2
    have hrow := set5 (unhide K4) (.int .i64 0) (.int .i64 0) (.int .i64 0) (.int .i64 0) (.int .i64 0)
    have hbf := set5b (unhide HBW) (Nat.le_refl _) (.int .i64 0) (.int .i64 0) (.int .i64 0) (.int .i64 0) (.int .i64 0)
    clear a0 a1 a2 a3 a4 fz
    generalize (((((z.setCell ⟨w.heap.size, 0, none⟩ (.int .i64 0)).setCell ⟨w.heap.size, 1, none⟩ (.int .i64 0)).setCell ⟨w.heap.size, 2, none⟩ (.int .i64 0)).setCell ⟨w.heap.size, 3, none⟩ (.int .i64 0)).setCell ⟨w.heap.size, 4, none⟩ (.int .i64 0)) = wf at *
    obtain ⟨r0, r1, r2, r3, r4⟩ := cells5 hrow
    exact bodyPost_ret (v := .tuple #[iV 0 0 0 0 0, .int .i64 0, .int .i64 132]) (by simp [results, Tryd.results34, go_sem, r0, r1, r2, r3, r4]) rfl ⟨rfl, hbf⟩
  · skip
    simp only [if_true]
    go_wp2
    have hrow := set5 (unhide K4) (.int .i64 (p : Int)) (.int .i64 op) (.int .i64 x1) (.int .i64 0) (.int .i64 y1)
    have hbf := set5b (unhide HBW) (Nat.le_refl _) (.int .i64 (p : Int)) (.int .i64 op) (.int .i64 x1) (.int .i64 0) (.int .i64 y1)
    clear a0 a1 a2 a3 a4 fz
    generalize (((((z.setCell ⟨w.heap.size, 0, none⟩ (.int .i64 (p : Int))).setCell ⟨w.heap.size, 1, none⟩ (.int .i64 op)).setCell ⟨w.heap.size, 2, none⟩ (.int .i64 x1)).setCell ⟨w.heap.size, 3, none⟩ (.int .i64 0)).setCell ⟨w.heap.size, 4, none⟩ (.int .i64 y1)) = wf at *
    obtain ⟨r0, r1, r2, r3, r4⟩ := cells5 hrow
    exact bodyPost_ret (v := .tuple #[iV p op x1 0 y1, .int .i64 ((p : Int) + 3), .int .i64 0]) (by simp [results, Tryd.results34, go_sem, r0, r1, r2, r3, r4]) rfl ⟨rfl, hbf⟩
end Go.Proofs.YtknpfippdddnhabDoor

/- The document's One, where an instruction names 2 registers and has an Imm of 0 bytes. -/
namespace Go.Proofs.YtknpfippdddnhabDoor
open Go.RowKit Go.Shelf
set_option maxRecDepth 100000

set_option maxHeartbeats 3200000 in
theorem rone20 (w : World) (ga oa n cap p : Nat) (op : Int) (ho0 : 0 ≤ op) (ho1 : op < 28) (hr : rg op = 2) (hd : wd op = 0) (x1 x2 : Int) (hn : n ≤ 4611686018427387900) (hp : p + 3 ≤ n) (hc : w.cell? ⟨ga, oa + p, none⟩ = some (.int .u8 op)) (hx1 : 0 ≤ x1 ∧ x1 ≤ 255) (cx1 : w.cell? ⟨ga, oa + p + 1, none⟩ = some (.int .u8 x1)) (hx2 : 0 ≤ x2 ∧ x2 ≤ 255) (cx2 : w.cell? ⟨ga, oa + p + 2, none⟩ = some (.int .u8 x2)) :
    Calls Tryd.prog 34 #[.slice (some ⟨ga, oa, none⟩) n cap, .int .i64 p] w fun e w' => e = .returned (.tuple (if sd (⟨p, op, x1, x2, 0⟩ : Ins) = true then #[iV p op x1 x2 0, .int .i64 (p + 3), .int .i64 0] else #[iV 0 0 0 0 0, .int .i64 0, .int .i64 132])) ∧ Below w.heap.size w w' := by
  have HS := hide (fun w => rsize_any op w)
  have HF := hide (fun w => first_any op w ho0 ho1)
  have HTW := hide (fun w => two_any op w ho0 ho1)
  have HD := hide (fun w => rwide_any op w ho0 ho1)
  have HI := hide (fun w => rindex_any p op x1 x2 0 w ho0 ho1 (fun z => (by omega)) (fun z => (by omega)))
  have hs := (op_facts ho0 ho1).2.2.1
  rw [hr, hd] at hs
  rw [hr] at HF HTW
  rw [hd] at HD
  rw [hs] at HS
  simp only [show decide (1 ≤ 2) = true from rfl] at HF
  simp only [show decide (2 ≤ 2) = true from rfl] at HTW
  simp only [show (1 + ((2 : Nat) : Int) + ((0 : Nat) : Int)) = 3 from rfl] at HS
  simp only [show (((0 : Nat) : Int)) = 0 from rfl] at HD
  obtain ⟨SD, hSD⟩ : ∃ c, sd (⟨p, op, x1, x2, 0⟩ : Ins) = c := ⟨_, rfl⟩
  rw [hSD] at HI ⊢
  clear hSD hs hr hd
  have HN := hide (And.intro hn hp)
  have g1 : decide ((p : Int) < 0) = false := decide_eq_false (by omega)
  have g2 : decide ((p : Int) ≥ (n : Int)) = false := decide_eq_false (by omega)
  have g3 : decide ((n : Int) ≤ (p : Int)) = false := decide_eq_false (by omega)
  have g4 : IntKind.i64.wrap ((n : Int) - (p : Int)) = (n : Int) - (p : Int) := wrap_i64 _ (by omega) (by omega)
  have g5 : decide (3 > (n : Int) - (p : Int)) = false := decide_eq_false (by omega)
  have g6 : decide ((n : Int) - (p : Int) < 3) = false := decide_eq_false (by omega)
  have g7 : (0 : Int) ≤ (p : Int) := by omega
  have g8 : (p : Int) < (n : Int) := by omega
  have cO : ∀ (j : Nat) (x : Int), w.cell? ⟨ga, oa + p + j, none⟩ = some (.int .u8 x) → ∀ o, (w.alloc o).cell? ⟨ga, oa + p + j, none⟩ = some (.int .u8 x) ∧ ∀ o', ((w.alloc o).alloc o').cell? ⟨ga, oa + p + j, none⟩ = some (.int .u8 x) := fun j x h o => by
    have h1 := ((below_box o).cell (World.block_lt_of_cell? w _ h)).trans h
    exact ⟨h1, fun o' => ((below_box o').cell (World.block_lt_of_cell? _ _ h1)).trans h1⟩
  have c0 := fun o => (cO 0 op hc o).1
  simp only [Nat.add_zero] at c0
  have q1 := fun o o' => (cO 1 x1 cx1 o).2 o'
  have q2 := fun o o' => (cO 2 x2 cx2 o).2 o'
  obtain ⟨k1, hk1⟩ : ∃ k, p + 1 = k := ⟨_, rfl⟩
  have w1 : IntKind.i64.wrap ((p : Int) + 1) = (k1 : Int) := by rw [wrap_i64 _ (by omega) (by omega)]; omega
  have z1 : (0 : Int) ≤ (k1 : Int) := by omega
  have v1 : (k1 : Int) < (n : Int) := by omega
  simp only [Nat.add_assoc, hk1] at q1
  obtain ⟨k2, hk2⟩ : ∃ k, p + 2 = k := ⟨_, rfl⟩
  have w2 : IntKind.i64.wrap ((k1 : Int) + 1) = (k2 : Int) := by rw [wrap_i64 _ (by omega) (by omega)]; omega
  have z2 : (0 : Int) ≤ (k2 : Int) := by omega
  have v2 : (k2 : Int) < (n : Int) := by omega
  simp only [Nat.add_assoc, hk2] at q2
  have HKK := hide (show p + 1 = k1 ∧ p + 2 = k2 from ⟨hk1, hk2⟩)
  clear hk1 hk2
  clear cO hc cx1 cx2 
  go_enter Tryd.func34, Tryd.ntmps34
  go_wp2_with (first
    | (go_at_call 44; refine (unhide HS _).mono ?_; rintro e w2 ⟨rfl, rfl⟩)
    | (go_at_call 45; refine (unhide HF _).mono ?_; rintro e w2 ⟨rfl, rfl⟩)
    | (go_at_call 46; refine (unhide HTW _).mono ?_; rintro e w2 ⟨rfl, rfl⟩)
    | (go_at_call 47; refine (unhide HD _).mono ?_; rintro e w2 ⟨rfl, rfl⟩))
  refine (unhide HI _).mono ?_
  rintro e z ⟨rfl, hg⟩
  have hbz := hg.below
  have k4 : z.heap[w.heap.size]? = some (.cells #[.int .i64 0, .int .i64 0, .int .i64 0, .int .i64 0, .int .i64 0] 35) := (hbz.block _ (by simp; omega)).trans (show ((w.alloc (.cells #[.int .i64 0, .int .i64 0, .int .i64 0, .int .i64 0, .int .i64 0] 35)).alloc (.cells #[.int .i64 (p : Int), .int .i64 op, .int .i64 x1, .int .i64 x2, .int .i64 0] 35)).heap[w.heap.size]? = _ by rw [Below.heap_alloc _ _ _ (by simp)]; exact heap_alloc_new w _)
  have k8 : z.heap[w.heap.size + 1]? = some (.cells #[.int .i64 (p : Int), .int .i64 op, .int .i64 x1, .int .i64 x2, .int .i64 0] 35) := (hbz.block _ (by simp)).trans (show ((w.alloc (.cells #[.int .i64 0, .int .i64 0, .int .i64 0, .int .i64 0, .int .i64 0] 35)).alloc (.cells #[.int .i64 (p : Int), .int .i64 op, .int .i64 x1, .int .i64 x2, .int .i64 0] 35)).heap[w.heap.size + 1]? = _ by have := heap_alloc_new (w.alloc (.cells #[.int .i64 0, .int .i64 0, .int .i64 0, .int .i64 0, .int .i64 0] 35)) (.cells #[.int .i64 (p : Int), .int .i64 op, .int .i64 x1, .int .i64 x2, .int .i64 0] 35); rwa [World.size_alloc] at this)
  have hbw : Below w.heap.size w z := (((below_box _).alloc (by simp) _)).trans (hbz.mono (by simp; omega))
  obtain ⟨a0, a1, a2, a3, a4⟩ := cells5 k4
  obtain ⟨b0, b1, b2, b3, b4⟩ := cells5 k8
  have fz : ∀ o, z.frozen? ⟨w.heap.size, o, none⟩ = false := fun o => frozen_of_heap k4
  have K4 := hide k4
  have HBW := hide hbw
  clear k4 k8 hbw hbz hg
  cases SD
  · skip
    simp only [Bool.false_eq_true, if_false]
    go_wp2
    have hrow := set5 (unhide K4) (.int .i64 0) (.int .i64 0) (.int .i64 0) (.int .i64 0) (.int .i64 0)
    have hbf := set5b (unhide HBW) (Nat.le_refl _) (.int .i64 0) (.int .i64 0) (.int .i64 0) (.int .i64 0) (.int .i64 0)
    clear a0 a1 a2 a3 a4 fz
    generalize (((((z.setCell ⟨w.heap.size, 0, none⟩ (.int .i64 0)).setCell ⟨w.heap.size, 1, none⟩ (.int .i64 0)).setCell ⟨w.heap.size, 2, none⟩ (.int .i64 0)).setCell ⟨w.heap.size, 3, none⟩ (.int .i64 0)).setCell ⟨w.heap.size, 4, none⟩ (.int .i64 0)) = wf at *
    obtain ⟨r0, r1, r2, r3, r4⟩ := cells5 hrow
    exact bodyPost_ret (v := .tuple #[iV 0 0 0 0 0, .int .i64 0, .int .i64 132]) (by simp [results, Tryd.results34, go_sem, r0, r1, r2, r3, r4]) rfl ⟨rfl, hbf⟩
  · skip
    simp only [if_true]
    go_wp2
    have hrow := set5 (unhide K4) (.int .i64 (p : Int)) (.int .i64 op) (.int .i64 x1) (.int .i64 x2) (.int .i64 0)
    have hbf := set5b (unhide HBW) (Nat.le_refl _) (.int .i64 (p : Int)) (.int .i64 op) (.int .i64 x1) (.int .i64 x2) (.int .i64 0)
    clear a0 a1 a2 a3 a4 fz
    generalize (((((z.setCell ⟨w.heap.size, 0, none⟩ (.int .i64 (p : Int))).setCell ⟨w.heap.size, 1, none⟩ (.int .i64 op)).setCell ⟨w.heap.size, 2, none⟩ (.int .i64 x1)).setCell ⟨w.heap.size, 3, none⟩ (.int .i64 x2)).setCell ⟨w.heap.size, 4, none⟩ (.int .i64 0)) = wf at *
    obtain ⟨r0, r1, r2, r3, r4⟩ := cells5 hrow
    exact bodyPost_ret (v := .tuple #[iV p op x1 x2 0, .int .i64 ((p : Int) + 3), .int .i64 0]) (by simp [results, Tryd.results34, go_sem, r0, r1, r2, r3, r4]) rfl ⟨rfl, hbf⟩
end Go.Proofs.YtknpfippdddnhabDoor

/- The document's One, where an instruction names 2 registers and has an Imm of 1 bytes. -/
namespace Go.Proofs.YtknpfippdddnhabDoor
open Go.RowKit Go.Shelf
set_option maxRecDepth 100000

set_option maxHeartbeats 3200000 in
theorem rone21 (w : World) (ga oa n cap p : Nat) (op : Int) (ho0 : 0 ≤ op) (ho1 : op < 28) (hr : rg op = 2) (hd : wd op = 1) (x1 x2 y1 : Int) (hn : n ≤ 4611686018427387900) (hp : p + 4 ≤ n) (hc : w.cell? ⟨ga, oa + p, none⟩ = some (.int .u8 op)) (hx1 : 0 ≤ x1 ∧ x1 ≤ 255) (cx1 : w.cell? ⟨ga, oa + p + 1, none⟩ = some (.int .u8 x1)) (hx2 : 0 ≤ x2 ∧ x2 ≤ 255) (cx2 : w.cell? ⟨ga, oa + p + 2, none⟩ = some (.int .u8 x2)) (hy1 : 0 ≤ y1 ∧ y1 ≤ 255) (cy1 : w.cell? ⟨ga, oa + p + 3, none⟩ = some (.int .u8 y1)) :
    Calls Tryd.prog 34 #[.slice (some ⟨ga, oa, none⟩) n cap, .int .i64 p] w fun e w' => e = .returned (.tuple (if sd (⟨p, op, x1, x2, y1⟩ : Ins) = true then #[iV p op x1 x2 y1, .int .i64 (p + 4), .int .i64 0] else #[iV 0 0 0 0 0, .int .i64 0, .int .i64 132])) ∧ Below w.heap.size w w' := by
  have HS := hide (fun w => rsize_any op w)
  have HF := hide (fun w => first_any op w ho0 ho1)
  have HTW := hide (fun w => two_any op w ho0 ho1)
  have HD := hide (fun w => rwide_any op w ho0 ho1)
  have HI := hide (fun w => rindex_any p op x1 x2 y1 w ho0 ho1 (fun z => (by omega)) (fun z => (by omega)))
  have hs := (op_facts ho0 ho1).2.2.1
  rw [hr, hd] at hs
  rw [hr] at HF HTW
  rw [hd] at HD
  rw [hs] at HS
  simp only [show decide (1 ≤ 2) = true from rfl] at HF
  simp only [show decide (2 ≤ 2) = true from rfl] at HTW
  simp only [show (1 + ((2 : Nat) : Int) + ((1 : Nat) : Int)) = 4 from rfl] at HS
  simp only [show (((1 : Nat) : Int)) = 1 from rfl] at HD
  obtain ⟨SD, hSD⟩ : ∃ c, sd (⟨p, op, x1, x2, y1⟩ : Ins) = c := ⟨_, rfl⟩
  rw [hSD] at HI ⊢
  clear hSD hs hr hd
  have HN := hide (And.intro hn hp)
  have g1 : decide ((p : Int) < 0) = false := decide_eq_false (by omega)
  have g2 : decide ((p : Int) ≥ (n : Int)) = false := decide_eq_false (by omega)
  have g3 : decide ((n : Int) ≤ (p : Int)) = false := decide_eq_false (by omega)
  have g4 : IntKind.i64.wrap ((n : Int) - (p : Int)) = (n : Int) - (p : Int) := wrap_i64 _ (by omega) (by omega)
  have g5 : decide (4 > (n : Int) - (p : Int)) = false := decide_eq_false (by omega)
  have g6 : decide ((n : Int) - (p : Int) < 4) = false := decide_eq_false (by omega)
  have g7 : (0 : Int) ≤ (p : Int) := by omega
  have g8 : (p : Int) < (n : Int) := by omega
  have cO : ∀ (j : Nat) (x : Int), w.cell? ⟨ga, oa + p + j, none⟩ = some (.int .u8 x) → ∀ o, (w.alloc o).cell? ⟨ga, oa + p + j, none⟩ = some (.int .u8 x) ∧ ∀ o', ((w.alloc o).alloc o').cell? ⟨ga, oa + p + j, none⟩ = some (.int .u8 x) := fun j x h o => by
    have h1 := ((below_box o).cell (World.block_lt_of_cell? w _ h)).trans h
    exact ⟨h1, fun o' => ((below_box o').cell (World.block_lt_of_cell? _ _ h1)).trans h1⟩
  have c0 := fun o => (cO 0 op hc o).1
  simp only [Nat.add_zero] at c0
  have q1 := fun o o' => (cO 1 x1 cx1 o).2 o'
  have q2 := fun o o' => (cO 2 x2 cx2 o).2 o'
  have u1 := fun o o' => (cO 3 y1 cy1 o).2 o'
  obtain ⟨k1, hk1⟩ : ∃ k, p + 1 = k := ⟨_, rfl⟩
  have w1 : IntKind.i64.wrap ((p : Int) + 1) = (k1 : Int) := by rw [wrap_i64 _ (by omega) (by omega)]; omega
  have z1 : (0 : Int) ≤ (k1 : Int) := by omega
  have v1 : (k1 : Int) < (n : Int) := by omega
  simp only [Nat.add_assoc, hk1] at q1
  obtain ⟨k2, hk2⟩ : ∃ k, p + 2 = k := ⟨_, rfl⟩
  have w2 : IntKind.i64.wrap ((k1 : Int) + 1) = (k2 : Int) := by rw [wrap_i64 _ (by omega) (by omega)]; omega
  have z2 : (0 : Int) ≤ (k2 : Int) := by omega
  have v2 : (k2 : Int) < (n : Int) := by omega
  simp only [Nat.add_assoc, hk2] at q2
  obtain ⟨k3, hk3⟩ : ∃ k, p + 3 = k := ⟨_, rfl⟩
  have w3 : IntKind.i64.wrap ((k2 : Int) + 1) = (k3 : Int) := by rw [wrap_i64 _ (by omega) (by omega)]; omega
  have z3 : (0 : Int) ≤ (k3 : Int) := by omega
  have v3 : (k3 : Int) < (n : Int) := by omega
  simp only [Nat.add_assoc, hk3] at u1
  have HKK := hide (show p + 1 = k1 ∧ p + 2 = k2 ∧ p + 3 = k3 from ⟨hk1, hk2, hk3⟩)
  clear hk1 hk2 hk3
  clear cO hc cx1 cx2 cy1
  go_enter Tryd.func34, Tryd.ntmps34
  go_wp2_with (first
    | (go_at_call 44; refine (unhide HS _).mono ?_; rintro e w2 ⟨rfl, rfl⟩)
    | (go_at_call 45; refine (unhide HF _).mono ?_; rintro e w2 ⟨rfl, rfl⟩)
    | (go_at_call 46; refine (unhide HTW _).mono ?_; rintro e w2 ⟨rfl, rfl⟩)
    | (go_at_call 47; refine (unhide HD _).mono ?_; rintro e w2 ⟨rfl, rfl⟩))
  refine (unhide HI _).mono ?_
  rintro e z ⟨rfl, hg⟩
  have hbz := hg.below
  have k4 : z.heap[w.heap.size]? = some (.cells #[.int .i64 0, .int .i64 0, .int .i64 0, .int .i64 0, .int .i64 0] 35) := (hbz.block _ (by simp; omega)).trans (show ((w.alloc (.cells #[.int .i64 0, .int .i64 0, .int .i64 0, .int .i64 0, .int .i64 0] 35)).alloc (.cells #[.int .i64 (p : Int), .int .i64 op, .int .i64 x1, .int .i64 x2, .int .i64 y1] 35)).heap[w.heap.size]? = _ by rw [Below.heap_alloc _ _ _ (by simp)]; exact heap_alloc_new w _)
  have k8 : z.heap[w.heap.size + 1]? = some (.cells #[.int .i64 (p : Int), .int .i64 op, .int .i64 x1, .int .i64 x2, .int .i64 y1] 35) := (hbz.block _ (by simp)).trans (show ((w.alloc (.cells #[.int .i64 0, .int .i64 0, .int .i64 0, .int .i64 0, .int .i64 0] 35)).alloc (.cells #[.int .i64 (p : Int), .int .i64 op, .int .i64 x1, .int .i64 x2, .int .i64 y1] 35)).heap[w.heap.size + 1]? = _ by have := heap_alloc_new (w.alloc (.cells #[.int .i64 0, .int .i64 0, .int .i64 0, .int .i64 0, .int .i64 0] 35)) (.cells #[.int .i64 (p : Int), .int .i64 op, .int .i64 x1, .int .i64 x2, .int .i64 y1] 35); rwa [World.size_alloc] at this)
  have hbw : Below w.heap.size w z := (((below_box _).alloc (by simp) _)).trans (hbz.mono (by simp; omega))
  obtain ⟨a0, a1, a2, a3, a4⟩ := cells5 k4
  obtain ⟨b0, b1, b2, b3, b4⟩ := cells5 k8
  have fz : ∀ o, z.frozen? ⟨w.heap.size, o, none⟩ = false := fun o => frozen_of_heap k4
  have K4 := hide k4
  have HBW := hide hbw
  clear k4 k8 hbw hbz hg
  cases SD
  · skip
    simp only [Bool.false_eq_true, if_false]
    go_wp2
    have hrow := set5 (unhide K4) (.int .i64 0) (.int .i64 0) (.int .i64 0) (.int .i64 0) (.int .i64 0)
    have hbf := set5b (unhide HBW) (Nat.le_refl _) (.int .i64 0) (.int .i64 0) (.int .i64 0) (.int .i64 0) (.int .i64 0)
    clear a0 a1 a2 a3 a4 fz
    generalize (((((z.setCell ⟨w.heap.size, 0, none⟩ (.int .i64 0)).setCell ⟨w.heap.size, 1, none⟩ (.int .i64 0)).setCell ⟨w.heap.size, 2, none⟩ (.int .i64 0)).setCell ⟨w.heap.size, 3, none⟩ (.int .i64 0)).setCell ⟨w.heap.size, 4, none⟩ (.int .i64 0)) = wf at *
    obtain ⟨r0, r1, r2, r3, r4⟩ := cells5 hrow
    exact bodyPost_ret (v := .tuple #[iV 0 0 0 0 0, .int .i64 0, .int .i64 132]) (by simp [results, Tryd.results34, go_sem, r0, r1, r2, r3, r4]) rfl ⟨rfl, hbf⟩
  · skip
    simp only [if_true]
    go_wp2
    have hrow := set5 (unhide K4) (.int .i64 (p : Int)) (.int .i64 op) (.int .i64 x1) (.int .i64 x2) (.int .i64 y1)
    have hbf := set5b (unhide HBW) (Nat.le_refl _) (.int .i64 (p : Int)) (.int .i64 op) (.int .i64 x1) (.int .i64 x2) (.int .i64 y1)
    clear a0 a1 a2 a3 a4 fz
    generalize (((((z.setCell ⟨w.heap.size, 0, none⟩ (.int .i64 (p : Int))).setCell ⟨w.heap.size, 1, none⟩ (.int .i64 op)).setCell ⟨w.heap.size, 2, none⟩ (.int .i64 x1)).setCell ⟨w.heap.size, 3, none⟩ (.int .i64 x2)).setCell ⟨w.heap.size, 4, none⟩ (.int .i64 y1)) = wf at *
    obtain ⟨r0, r1, r2, r3, r4⟩ := cells5 hrow
    exact bodyPost_ret (v := .tuple #[iV p op x1 x2 y1, .int .i64 ((p : Int) + 4), .int .i64 0]) (by simp [results, Tryd.results34, go_sem, r0, r1, r2, r3, r4]) rfl ⟨rfl, hbf⟩
end Go.Proofs.YtknpfippdddnhabDoor
