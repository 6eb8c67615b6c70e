/- The document's One, where an instruction names 0 registers and has an Imm of 2 bytes. -/
import Derived.Test.YtknpfippdddnhabDoorU0
namespace Go.Proofs.YtknpfippdddnhabDoor
open Go.RowKit Go.Shelf
set_option maxRecDepth 100000

set_option maxHeartbeats 3200000 in
theorem rone02 (w : World) (ga oa n cap p : Nat) (op : Int) (ho0 : 0 ≤ op) (ho1 : op < 28) (hn1 : op ≠ 1) (hr : rg op = 0) (hd : wd op = 2) (y1 y2 : Int) (hn : n ≤ 4611686018427387900) (hp : p + 3 ≤ n) (hc : w.cell? ⟨ga, oa + p, none⟩ = some (.int .u8 op)) (hy1 : 0 ≤ y1 ∧ y1 ≤ 255) (cy1 : w.cell? ⟨ga, oa + p + 1, none⟩ = some (.int .u8 y1)) (hy2 : 0 ≤ y2 ∧ y2 ≤ 255) (cy2 : w.cell? ⟨ga, oa + p + 2, none⟩ = some (.int .u8 y2)) :
    Calls Tryd.prog 34 #[.slice (some ⟨ga, oa, none⟩) n cap, .int .i64 p] w fun e w' => e = .returned (.tuple (if sd (⟨p, op, 0, 0, (y1 + 256 * y2)⟩ : Ins) = true then #[iV p op 0 0 (y1 + 256 * y2), .int .i64 (p + 3), .int .i64 0] else #[iV 0 0 0 0 0, .int .i64 0, .int .i64 132])) ∧ Below w.heap.size w w' := by
  have HS := hide (fun w => rsize_any op w)
  have HF := hide (fun w => first_any op w ho0 ho1)
  have HTW := hide (fun w => two_any op w ho0 ho1)
  have HD := hide (fun w => rwide_any op w ho0 ho1)
  have HI := hide (fun w => rindex_any p op 0 0 (y1 + 256 * y2) w ho0 ho1 (fun z => rfl) (fun z => rfl))
  have hs := (op_facts ho0 ho1).2.2.1
  rw [hr, hd] at hs
  rw [hr] at HF HTW
  rw [hd] at HD
  rw [hs] at HS
  simp only [show decide (1 ≤ 0) = false from rfl] at HF
  simp only [show decide (2 ≤ 0) = false from rfl] at HTW
  simp only [show (1 + ((0 : Nat) : Int) + ((2 : Nat) : Int)) = 3 from rfl] at HS
  simp only [show (((2 : Nat) : Int)) = 2 from rfl] at HD
  obtain ⟨SD, hSD⟩ : ∃ c, sd (⟨p, op, 0, 0, (y1 + 256 * y2)⟩ : Ins) = c := ⟨_, rfl⟩
  rw [hSD] at HI ⊢
  clear hSD hs hr hd
  have HN := hide (And.intro hn hp)
  have ko : (op == 1) = false := by simpa using hn1
  clear hn1
  have g1 : decide ((p : Int) < 0) = false := decide_eq_false (by omega)
  have g2 : decide ((p : Int) ≥ (n : Int)) = false := decide_eq_false (by omega)
  have g3 : decide ((n : Int) ≤ (p : Int)) = false := decide_eq_false (by omega)
  have g4 : IntKind.i64.wrap ((n : Int) - (p : Int)) = (n : Int) - (p : Int) := wrap_i64 _ (by omega) (by omega)
  have g5 : decide (3 > (n : Int) - (p : Int)) = false := decide_eq_false (by omega)
  have g6 : decide ((n : Int) - (p : Int) < 3) = false := decide_eq_false (by omega)
  have g7 : (0 : Int) ≤ (p : Int) := by omega
  have g8 : (p : Int) < (n : Int) := by omega
  have cO : ∀ (j : Nat) (x : Int), w.cell? ⟨ga, oa + p + j, none⟩ = some (.int .u8 x) → ∀ o, (w.alloc o).cell? ⟨ga, oa + p + j, none⟩ = some (.int .u8 x) ∧ ∀ o', ((w.alloc o).alloc o').cell? ⟨ga, oa + p + j, none⟩ = some (.int .u8 x) := fun j x h o => by
    have h1 := ((below_box o).cell (World.block_lt_of_cell? w _ h)).trans h
    exact ⟨h1, fun o' => ((below_box o').cell (World.block_lt_of_cell? _ _ h1)).trans h1⟩
  have c0 := fun o => (cO 0 op hc o).1
  simp only [Nat.add_zero] at c0
  have u1 := fun o o' => (cO 1 y1 cy1 o).2 o'
  have u2 := fun o o' => (cO 2 y2 cy2 o).2 o'
  obtain ⟨k1, hk1⟩ : ∃ k, p + 1 = k := ⟨_, rfl⟩
  have w1 : IntKind.i64.wrap ((p : Int) + 1) = (k1 : Int) := by rw [wrap_i64 _ (by omega) (by omega)]; omega
  have z1 : (0 : Int) ≤ (k1 : Int) := by omega
  have v1 : (k1 : Int) < (n : Int) := by omega
  simp only [Nat.add_assoc, hk1] at u1
  obtain ⟨k2, hk2⟩ : ∃ k, p + 2 = k := ⟨_, rfl⟩
  have w2 : IntKind.i64.wrap ((k1 : Int) + 1) = (k2 : Int) := by rw [wrap_i64 _ (by omega) (by omega)]; omega
  have z2 : (0 : Int) ≤ (k2 : Int) := by omega
  have v2 : (k2 : Int) < (n : Int) := by omega
  simp only [Nat.add_assoc, hk2] at u2
  have HKK := hide (show p + 1 = k1 ∧ p + 2 = k2 from ⟨hk1, hk2⟩)
  clear hk1 hk2
  clear cO hc  cy1 cy2
  go_enter Tryd.func34, Tryd.ntmps34
  go_wp2_with (first
    | (go_at_call 44; refine (unhide HS _).mono ?_; rintro e w2 ⟨rfl, rfl⟩)
    | (go_at_call 45; refine (unhide HF _).mono ?_; rintro e w2 ⟨rfl, rfl⟩)
    | (go_at_call 46; refine (unhide HTW _).mono ?_; rintro e w2 ⟨rfl, rfl⟩)
    | (go_at_call 47; refine (unhide HD _).mono ?_; rintro e w2 ⟨rfl, rfl⟩))
  refine wp_region_held_drew (S := fun _ => True) (by kernel_rfl) trivial (fun hHeld => ?_)
  refine wpAnyH_take (i := 0) (v := ?v1) rfl (by kernel_rfl) (by kernel_rfl) (by kernel_rfl) (fun _ _ _ h => h) (Or.inl ⟨by rfl, ?hy1⟩) (by assumption) ?rest1
  case hy1 => intro w hSw; go_simp <;> with_reducible rfl
  simp only [Act.put, List.getElem_toArray, List.getElem_cons_zero, List.setIfInBounds_toArray, List.set_cons_zero, List.set_cons_succ]
  refine wpAnyH_take (i := 2) (v := ?v2) rfl (by kernel_rfl) (by kernel_rfl) (by kernel_rfl) (fun _ _ _ h => h) (Or.inl ⟨by rfl, ?hy2⟩) (by assumption) ?rest2
  case hy2 => intro w hSw; go_simp <;> with_reducible rfl
  simp only [Act.put, List.getElem_toArray, List.getElem_cons_zero, List.getElem_cons_succ, List.setIfInBounds_toArray, List.set_cons_zero, List.set_cons_succ]
  refine wpAnyH_take (i := 3) (v := ?v3) rfl (by kernel_rfl) (by kernel_rfl) (by kernel_rfl) (fun _ _ _ h => h) (Or.inl ⟨by rfl, ?hy3⟩) (by assumption) ?rest3
  case hy3 => intro w hSw; go_simp <;> with_reducible rfl
  simp only [Act.put, List.getElem_toArray, List.getElem_cons_zero, List.getElem_cons_succ, List.setIfInBounds_toArray, List.set_cons_zero, List.set_cons_succ]
  refine wpAnyH_take (i := 4) (v := ?v4) rfl (by kernel_rfl) (by kernel_rfl) (by kernel_rfl) (fun _ _ _ h => h) (Or.inl ⟨by rfl, ?hy4⟩) (by assumption) ?rest4
  case hy4 => intro w hSw; go_simp <;> with_reducible rfl
  simp only [Act.put, List.getElem_toArray, List.getElem_cons_zero, List.getElem_cons_succ, List.setIfInBounds_toArray, List.set_cons_zero, List.set_cons_succ]
  refine wpAnyH_take (i := 5) (v := ?v5) rfl (by kernel_rfl) (by kernel_rfl) (by kernel_rfl) (fun _ _ _ h => h) (Or.inl ⟨by rfl, ?hy5⟩) (by assumption) ?rest5
  case hy5 => intro w hSw; go_simp <;> with_reducible rfl
  simp only [Act.put, List.getElem_toArray, List.getElem_cons_zero, List.getElem_cons_succ, List.setIfInBounds_toArray, List.set_cons_zero, List.set_cons_succ]
  refine wpAnyH_ready (rs := [1, 6]) (by kernel_rfl) (by simp) ?_
  refine AllReadyH.cons rfl (fun K hK => ?_) (AllReadyH.cons rfl (fun K hK => ?_) AllReadyH.nil)
  · skip
    go_simp
    refine hK _ _ trivial ?_
    clear hK hHeld
    intro hHeld
    refine wpAnyH_ready (rs := [6]) (by kernel_rfl) (by simp) ?_
    refine AllReadyH.cons rfl (fun K hK => ?_) AllReadyH.nil
    go_simp
    refine hK _ _ trivial ?_
    clear hK hHeld
    intro hHeld
    refine wpAnyH_take (i := 7) (v := ?v6) rfl (by kernel_rfl) (by kernel_rfl) (by kernel_rfl) (fun _ _ _ h => h) (Or.inl ⟨by rfl, ?hy6⟩) (by assumption) ?rest6
    case hy6 => intro w hSw; go_simp <;> with_reducible rfl
    simp only [Act.put, List.getElem_toArray, List.getElem_cons_zero, List.getElem_cons_succ, List.setIfInBounds_toArray, List.set_cons_zero, List.set_cons_succ]
    refine wpAnyH_take (i := 8) (v := ?v7) rfl (by kernel_rfl) (by kernel_rfl) (by kernel_rfl) (fun _ _ _ h => h) (Or.inl ⟨by rfl, ?hy7⟩) (by assumption) ?rest7
    case hy7 => intro w hSw; go_simp <;> with_reducible rfl
    simp only [Act.put, List.getElem_toArray, List.getElem_cons_zero, List.getElem_cons_succ, List.setIfInBounds_toArray, List.set_cons_zero, List.set_cons_succ]
    refine wpAnyH_take (i := 9) (v := ?v8) rfl (by kernel_rfl) (by kernel_rfl) (by kernel_rfl) (fun _ _ _ h => h) (Or.inl ⟨by rfl, ?hy8⟩) (by assumption) ?rest8
    case hy8 => intro w hSw; go_simp <;> with_reducible rfl
    simp only [Act.put, List.getElem_toArray, List.getElem_cons_zero, List.getElem_cons_succ, List.setIfInBounds_toArray, List.set_cons_zero, List.set_cons_succ]
    refine wpAnyH_take (i := 10) (v := ?v9) rfl (by kernel_rfl) (by kernel_rfl) (by kernel_rfl) (fun _ _ _ h => h) (Or.inl ⟨by rfl, ?hy9⟩) (by assumption) ?rest9
    case hy9 => intro w hSw; go_simp <;> with_reducible rfl
    simp only [Act.put, List.getElem_toArray, List.getElem_cons_zero, List.getElem_cons_succ, List.setIfInBounds_toArray, List.set_cons_zero, List.set_cons_succ]
    refine wpAnyH_ready (rs := [11]) (by kernel_rfl) (by simp) ?_
    refine AllReadyH.cons rfl (fun K hK => ?_) AllReadyH.nil
    go_simp
    refine hK _ _ trivial ?_
    clear hK hHeld
    intro hHeld
    refine wpAnyH_done (by kernel_rfl) ?_ _
    go_wp2_with fail
    refine (unhide HI _).mono ?_
    rintro e z ⟨rfl, hg⟩
    have hbz := hg.below
    have k4 : z.heap[w.heap.size]? = some (.cells #[.int .i64 0, .int .i64 0, .int .i64 0, .int .i64 0, .int .i64 0] 35) := (hbz.block _ (by show w.heap.size < ((w.alloc (.cells #[.int .i64 0, .int .i64 0, .int .i64 0, .int .i64 0, .int .i64 0] 35)).alloc (.cells #[.int .i64 (p : Int), .int .i64 op, .int .i64 0, .int .i64 0, .int .i64 (y1 + 256 * y2)] 35)).heap.size; simp; omega)).trans (show ((w.alloc (.cells #[.int .i64 0, .int .i64 0, .int .i64 0, .int .i64 0, .int .i64 0] 35)).alloc (.cells #[.int .i64 (p : Int), .int .i64 op, .int .i64 0, .int .i64 0, .int .i64 (y1 + 256 * y2)] 35)).heap[w.heap.size]? = _ by rw [Below.heap_alloc _ _ _ (by simp)]; exact heap_alloc_new w _)
    have k8 : z.heap[w.heap.size + 1]? = some (.cells #[.int .i64 (p : Int), .int .i64 op, .int .i64 0, .int .i64 0, .int .i64 (y1 + 256 * y2)] 35) := (hbz.block _ (by show w.heap.size + 1 < ((w.alloc (.cells #[.int .i64 0, .int .i64 0, .int .i64 0, .int .i64 0, .int .i64 0] 35)).alloc (.cells #[.int .i64 (p : Int), .int .i64 op, .int .i64 0, .int .i64 0, .int .i64 (y1 + 256 * y2)] 35)).heap.size; simp)).trans (show ((w.alloc (.cells #[.int .i64 0, .int .i64 0, .int .i64 0, .int .i64 0, .int .i64 0] 35)).alloc (.cells #[.int .i64 (p : Int), .int .i64 op, .int .i64 0, .int .i64 0, .int .i64 (y1 + 256 * y2)] 35)).heap[w.heap.size + 1]? = _ by have := heap_alloc_new (w.alloc (.cells #[.int .i64 0, .int .i64 0, .int .i64 0, .int .i64 0, .int .i64 0] 35)) (.cells #[.int .i64 (p : Int), .int .i64 op, .int .i64 0, .int .i64 0, .int .i64 (y1 + 256 * y2)] 35); rwa [World.size_alloc] at this)
    have hbw : Below w.heap.size w z := (((below_box _).alloc (by simp) _).drew).trans (hbz.mono (by show w.heap.size ≤ ((w.alloc (.cells #[.int .i64 0, .int .i64 0, .int .i64 0, .int .i64 0, .int .i64 0] 35)).alloc (.cells #[.int .i64 (p : Int), .int .i64 op, .int .i64 0, .int .i64 0, .int .i64 (y1 + 256 * y2)] 35)).heap.size; simp; omega))
    obtain ⟨a0, a1, a2, a3, a4⟩ := cells5 k4
    obtain ⟨b0, b1, b2, b3, b4⟩ := cells5 k8
    have fz : ∀ o, z.frozen? ⟨w.heap.size, o, none⟩ = false := fun o => frozen_of_heap k4
    have K4 := hide k4
    have HBW := hide hbw
    clear k4 k8 hbw hbz hg
    cases SD
    · skip
      simp only [Bool.false_eq_true, if_false]
      go_wp2
      have hrow := set5 (unhide K4) (.int .i64 0) (.int .i64 0) (.int .i64 0) (.int .i64 0) (.int .i64 0)
      have hbf := set5b (unhide HBW) (Nat.le_refl _) (.int .i64 0) (.int .i64 0) (.int .i64 0) (.int .i64 0) (.int .i64 0)
      clear a0 a1 a2 a3 a4 fz
      generalize (((((z.setCell ⟨w.heap.size, 0, none⟩ (.int .i64 0)).setCell ⟨w.heap.size, 1, none⟩ (.int .i64 0)).setCell ⟨w.heap.size, 2, none⟩ (.int .i64 0)).setCell ⟨w.heap.size, 3, none⟩ (.int .i64 0)).setCell ⟨w.heap.size, 4, none⟩ (.int .i64 0)) = wf at *
      obtain ⟨r0, r1, r2, r3, r4⟩ := cells5 hrow
      exact bodyPost_ret (v := .tuple #[iV 0 0 0 0 0, .int .i64 0, .int .i64 132]) (by simp [results, Tryd.results34, go_sem, r0, r1, r2, r3, r4]) rfl ⟨rfl, hbf⟩
    · skip
      simp only [if_true]
      go_wp2
      have hrow := set5 (unhide K4) (.int .i64 (p : Int)) (.int .i64 op) (.int .i64 0) (.int .i64 0) (.int .i64 (y1 + 256 * y2))
      have hbf := set5b (unhide HBW) (Nat.le_refl _) (.int .i64 (p : Int)) (.int .i64 op) (.int .i64 0) (.int .i64 0) (.int .i64 (y1 + 256 * y2))
      clear a0 a1 a2 a3 a4 fz
      generalize (((((z.setCell ⟨w.heap.size, 0, none⟩ (.int .i64 (p : Int))).setCell ⟨w.heap.size, 1, none⟩ (.int .i64 op)).setCell ⟨w.heap.size, 2, none⟩ (.int .i64 0)).setCell ⟨w.heap.size, 3, none⟩ (.int .i64 0)).setCell ⟨w.heap.size, 4, none⟩ (.int .i64 (y1 + 256 * y2))) = wf at *
      obtain ⟨r0, r1, r2, r3, r4⟩ := cells5 hrow
      exact bodyPost_ret (v := .tuple #[iV p op 0 0 (y1 + 256 * y2), .int .i64 ((p : Int) + 3), .int .i64 0]) (by simp [results, Tryd.results34, go_sem, r0, r1, r2, r3, r4]) rfl ⟨rfl, hbf⟩
  · skip
    go_simp
    refine hK _ _ trivial ?_
    clear hK hHeld
    intro hHeld
    refine wpAnyH_take (i := 7) (v := ?v10) rfl (by kernel_rfl) (by kernel_rfl) (by kernel_rfl) (fun _ _ _ h => h) (Or.inl ⟨by rfl, ?hy10⟩) (by assumption) ?rest10
    case hy10 => intro w hSw; go_simp <;> with_reducible rfl
    simp only [Act.put, List.getElem_toArray, List.getElem_cons_zero, List.getElem_cons_succ, List.setIfInBounds_toArray, List.set_cons_zero, List.set_cons_succ]
    refine wpAnyH_take (i := 8) (v := ?v11) rfl (by kernel_rfl) (by kernel_rfl) (by kernel_rfl) (fun _ _ _ h => h) (Or.inl ⟨by rfl, ?hy11⟩) (by assumption) ?rest11
    case hy11 => intro w hSw; go_simp <;> with_reducible rfl
    simp only [Act.put, List.getElem_toArray, List.getElem_cons_zero, List.getElem_cons_succ, List.setIfInBounds_toArray, List.set_cons_zero, List.set_cons_succ]
    refine wpAnyH_ready (rs := [1]) (by kernel_rfl) (by simp) ?_
    refine AllReadyH.cons rfl (fun K hK => ?_) AllReadyH.nil
    go_simp
    refine hK _ _ trivial ?_
    clear hK hHeld
    intro hHeld
    refine wpAnyH_take (i := 9) (v := ?v12) rfl (by kernel_rfl) (by kernel_rfl) (by kernel_rfl) (fun _ _ _ h => h) (Or.inl ⟨by rfl, ?hy12⟩) (by assumption) ?rest12
    case hy12 => intro w hSw; go_simp <;> with_reducible rfl
    simp only [Act.put, List.getElem_toArray, List.getElem_cons_zero, List.getElem_cons_succ, List.setIfInBounds_toArray, List.set_cons_zero, List.set_cons_succ]
    refine wpAnyH_take (i := 10) (v := ?v13) rfl (by kernel_rfl) (by kernel_rfl) (by kernel_rfl) (fun _ _ _ h => h) (Or.inl ⟨by rfl, ?hy13⟩) (by assumption) ?rest13
    case hy13 => intro w hSw; go_simp <;> with_reducible rfl
    simp only [Act.put, List.getElem_toArray, List.getElem_cons_zero, List.getElem_cons_succ, List.setIfInBounds_toArray, List.set_cons_zero, List.set_cons_succ]
    refine wpAnyH_ready (rs := [11]) (by kernel_rfl) (by simp) ?_
    refine AllReadyH.cons rfl (fun K hK => ?_) AllReadyH.nil
    go_simp
    refine hK _ _ trivial ?_
    clear hK hHeld
    intro hHeld
    refine wpAnyH_done (by kernel_rfl) ?_ _
    go_wp2_with fail
    refine (unhide HI _).mono ?_
    rintro e z ⟨rfl, hg⟩
    have hbz := hg.below
    have k4 : z.heap[w.heap.size]? = some (.cells #[.int .i64 0, .int .i64 0, .int .i64 0, .int .i64 0, .int .i64 0] 35) := (hbz.block _ (by show w.heap.size < ((w.alloc (.cells #[.int .i64 0, .int .i64 0, .int .i64 0, .int .i64 0, .int .i64 0] 35)).alloc (.cells #[.int .i64 (p : Int), .int .i64 op, .int .i64 0, .int .i64 0, .int .i64 (y1 + 256 * y2)] 35)).heap.size; simp; omega)).trans (show ((w.alloc (.cells #[.int .i64 0, .int .i64 0, .int .i64 0, .int .i64 0, .int .i64 0] 35)).alloc (.cells #[.int .i64 (p : Int), .int .i64 op, .int .i64 0, .int .i64 0, .int .i64 (y1 + 256 * y2)] 35)).heap[w.heap.size]? = _ by rw [Below.heap_alloc _ _ _ (by simp)]; exact heap_alloc_new w _)
    have k8 : z.heap[w.heap.size + 1]? = some (.cells #[.int .i64 (p : Int), .int .i64 op, .int .i64 0, .int .i64 0, .int .i64 (y1 + 256 * y2)] 35) := (hbz.block _ (by show w.heap.size + 1 < ((w.alloc (.cells #[.int .i64 0, .int .i64 0, .int .i64 0, .int .i64 0, .int .i64 0] 35)).alloc (.cells #[.int .i64 (p : Int), .int .i64 op, .int .i64 0, .int .i64 0, .int .i64 (y1 + 256 * y2)] 35)).heap.size; simp)).trans (show ((w.alloc (.cells #[.int .i64 0, .int .i64 0, .int .i64 0, .int .i64 0, .int .i64 0] 35)).alloc (.cells #[.int .i64 (p : Int), .int .i64 op, .int .i64 0, .int .i64 0, .int .i64 (y1 + 256 * y2)] 35)).heap[w.heap.size + 1]? = _ by have := heap_alloc_new (w.alloc (.cells #[.int .i64 0, .int .i64 0, .int .i64 0, .int .i64 0, .int .i64 0] 35)) (.cells #[.int .i64 (p : Int), .int .i64 op, .int .i64 0, .int .i64 0, .int .i64 (y1 + 256 * y2)] 35); rwa [World.size_alloc] at this)
    have hbw : Below w.heap.size w z := (((below_box _).alloc (by simp) _).drew).trans (hbz.mono (by show w.heap.size ≤ ((w.alloc (.cells #[.int .i64 0, .int .i64 0, .int .i64 0, .int .i64 0, .int .i64 0] 35)).alloc (.cells #[.int .i64 (p : Int), .int .i64 op, .int .i64 0, .int .i64 0, .int .i64 (y1 + 256 * y2)] 35)).heap.size; simp; omega))
    obtain ⟨a0, a1, a2, a3, a4⟩ := cells5 k4
    obtain ⟨b0, b1, b2, b3, b4⟩ := cells5 k8
    have fz : ∀ o, z.frozen? ⟨w.heap.size, o, none⟩ = false := fun o => frozen_of_heap k4
    have K4 := hide k4
    have HBW := hide hbw
    clear k4 k8 hbw hbz hg
    cases SD
    · skip
      simp only [Bool.false_eq_true, if_false]
      go_wp2
      have hrow := set5 (unhide K4) (.int .i64 0) (.int .i64 0) (.int .i64 0) (.int .i64 0) (.int .i64 0)
      have hbf := set5b (unhide HBW) (Nat.le_refl _) (.int .i64 0) (.int .i64 0) (.int .i64 0) (.int .i64 0) (.int .i64 0)
      clear a0 a1 a2 a3 a4 fz
      generalize (((((z.setCell ⟨w.heap.size, 0, none⟩ (.int .i64 0)).setCell ⟨w.heap.size, 1, none⟩ (.int .i64 0)).setCell ⟨w.heap.size, 2, none⟩ (.int .i64 0)).setCell ⟨w.heap.size, 3, none⟩ (.int .i64 0)).setCell ⟨w.heap.size, 4, none⟩ (.int .i64 0)) = wf at *
      obtain ⟨r0, r1, r2, r3, r4⟩ := cells5 hrow
      exact bodyPost_ret (v := .tuple #[iV 0 0 0 0 0, .int .i64 0, .int .i64 132]) (by simp [results, Tryd.results34, go_sem, r0, r1, r2, r3, r4]) rfl ⟨rfl, hbf⟩
    · skip
      simp only [if_true]
      go_wp2
      have hrow := set5 (unhide K4) (.int .i64 (p : Int)) (.int .i64 op) (.int .i64 0) (.int .i64 0) (.int .i64 (y1 + 256 * y2))
      have hbf := set5b (unhide HBW) (Nat.le_refl _) (.int .i64 (p : Int)) (.int .i64 op) (.int .i64 0) (.int .i64 0) (.int .i64 (y1 + 256 * y2))
      clear a0 a1 a2 a3 a4 fz
      generalize (((((z.setCell ⟨w.heap.size, 0, none⟩ (.int .i64 (p : Int))).setCell ⟨w.heap.size, 1, none⟩ (.int .i64 op)).setCell ⟨w.heap.size, 2, none⟩ (.int .i64 0)).setCell ⟨w.heap.size, 3, none⟩ (.int .i64 0)).setCell ⟨w.heap.size, 4, none⟩ (.int .i64 (y1 + 256 * y2))) = wf at *
      obtain ⟨r0, r1, r2, r3, r4⟩ := cells5 hrow
      exact bodyPost_ret (v := .tuple #[iV p op 0 0 (y1 + 256 * y2), .int .i64 ((p : Int) + 3), .int .i64 0]) (by simp [results, Tryd.results34, go_sem, r0, r1, r2, r3, r4]) rfl ⟨rfl, hbf⟩
end Go.Proofs.YtknpfippdddnhabDoor
