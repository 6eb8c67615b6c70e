/- What calls answer of a store that no call made. -/
import Derived.Test.YtdcmkapfcmibeaaDoorMG
namespace Go.Proofs.YtdcmkapfcmibeaaDoor
open Go.RowKit Go.Shelf
attribute [local go_sem] Oper.semAt_some
set_option maxRecDepth 100000

theorem put_no {w : World} {v : Value} (h : IsNo w v) (k0 k1 a s : Int) : Calls Tryd.prog 19 #[v, .agg #[.int .i32 k0, .int .i64 k1, .int .i64 a, .int .i64 s]] w fun e w' => e = .returned (.int .i64 2) ∧ Below w.heap.size w w' := by
  obtain ⟨W1, hW1⟩ : ∃ W, (w.alloc (.cells #[.int .i32 k0, .int .i64 k1, .int .i64 a, .int .i64 s] 32)) = W := ⟨_, rfl⟩
  have hb : Below w.heap.size w W1 := by rw [← hW1]; exact ((Below.refl _ _).alloc (Nat.le_refl _) _)
  have HM := hide (made_no (h.below hb))
  have HB := hide hb
  clear h hb
  go_enter Tryd.func19, Tryd.ntmps19
  go_wp2_with fail
  try rw [hW1]
  refine (unhide HM).mono ?_
  rintro e w9 ⟨rfl, rfl⟩
  go_wp2
  go_ret
  exact ⟨rfl, unhide HB⟩

theorem erase_no {w : World} {v : Value} (h : IsNo w v) (k0 k1 : Int) : Calls Tryd.prog 18 #[v, .agg #[.int .i32 k0, .int .i64 k1]] w fun e w' => e = .returned (.int .i64 2) ∧ Below w.heap.size w w' := by
  obtain ⟨W1, hW1⟩ : ∃ W, (w.alloc (.cells #[.int .i32 k0, .int .i64 k1] 30)) = W := ⟨_, rfl⟩
  have hb : Below w.heap.size w W1 := by rw [← hW1]; exact ((Below.refl _ _).alloc (Nat.le_refl _) _)
  have HM := hide (made_no (h.below hb))
  have HB := hide hb
  clear h hb
  go_enter Tryd.func18, Tryd.ntmps18
  go_wp2_with fail
  try rw [hW1]
  refine (unhide HM).mono ?_
  rintro e w9 ⟨rfl, rfl⟩
  go_wp2
  go_ret
  exact ⟨rfl, unhide HB⟩

theorem len_no {w : World} {v : Value} (h : IsNo w v) : Calls Tryd.prog 21 #[v] w fun e w' => e = .returned (.int .i64 0) ∧ Below w.heap.size w w' := by
  have HM := hide (made_no h)
  clear h
  go_enter Tryd.func21, Tryd.ntmps21
  go_wp2_with fail
  refine (unhide HM).mono ?_
  rintro e w9 ⟨rfl, rfl⟩
  go_wp2
  go_ret
  exact ⟨rfl, Below.refl _ _⟩

theorem steps_no {w : World} {v : Value} (h : IsNo w v) (k0 k1 : Int) : Calls Tryd.prog 26 #[v, .agg #[.int .i32 k0, .int .i64 k1]] w fun e w' => e = .returned (.int .i64 0) ∧ Below w.heap.size w w' := by
  obtain ⟨W1, hW1⟩ : ∃ W, (w.alloc (.cells #[.int .i32 k0, .int .i64 k1] 30)) = W := ⟨_, rfl⟩
  have hb : Below w.heap.size w W1 := by rw [← hW1]; exact ((Below.refl _ _).alloc (Nat.le_refl _) _)
  have HM := hide (made_no (h.below hb))
  have HB := hide hb
  clear h hb
  go_enter Tryd.func26, Tryd.ntmps26
  go_wp2_with fail
  try rw [hW1]
  refine (unhide HM).mono ?_
  rintro e w9 ⟨rfl, rfl⟩
  go_wp2
  go_ret
  exact ⟨rfl, unhide HB⟩

theorem bytes_no {w : World} {v : Value} (h : IsNo w v) : Calls Tryd.prog 17 #[v] w fun e w' => e = .returned (.slice none 0 0) ∧ Below w.heap.size w w' := by
  have HM := hide (made_no h)
  clear h
  go_enter Tryd.func17, Tryd.ntmps17
  go_wp2_with fail
  refine (unhide HM).mono ?_
  rintro e w9 ⟨rfl, rfl⟩
  go_wp2
  go_ret
  exact ⟨rfl, Below.refl _ _⟩

theorem clone_no {w : World} {v : Value} (h : IsNo w v) : Calls Tryd.prog 34 #[v] w fun e w' => e = .returned (nilP) ∧ Below w.heap.size w w' := by
  have HM := hide (made_no h)
  clear h
  go_enter Tryd.func34, Tryd.ntmps34
  go_wp2_with fail
  refine (unhide HM).mono ?_
  rintro e w9 ⟨rfl, rfl⟩
  go_wp2
  go_ret
  exact ⟨rfl, Below.refl _ _⟩

theorem getm_no {w : World} {v : Value} (h : IsNo w v) (k0 k1 : Int) : Calls Tryd.prog 20 #[v, .agg #[.int .i32 k0, .int .i64 k1]] w fun e w' => e = .returned (.tuple #[.agg #[.int .i32 0, .int .i64 0, .int .i64 0, .int .i64 0], .bool false]) ∧ Below w.heap.size w w' := by
  obtain ⟨n0, hn0⟩ : ∃ x, w.heap.size = x := ⟨_, rfl⟩
  obtain ⟨rb, hrb⟩ : ∃ x, n0 + 1 = x := ⟨_, rfl⟩
  obtain ⟨W1, hW1⟩ : ∃ W, (w.alloc (.cells #[.int .i32 k0, .int .i64 k1] 30)).alloc (.cells #[.int .i32 0, .int .i64 0, .int .i64 0, .int .i64 0] 32) = W := ⟨_, rfl⟩
  have hb : Below n0 w W1 := by rw [← hW1, ← hn0]; exact ((Below.refl _ _).alloc (Nat.le_refl _) _).alloc (by simp) _
  have kr : W1.heap[rb]? = some (.cells #[.int .i32 0, .int .i64 0, .int .i64 0, .int .i64 0] 32) := by rw [← hW1, ← hrb, ← hn0]; exact heap_new2 _ _ _
  have HM := hide (made_no (h.below (by rw [hn0]; exact hb)))
  have r0 : W1.cell? ⟨rb, 0, none⟩ = some (.int .i32 0) := cell_at kr
  have r1 : W1.cell? ⟨rb, 1, none⟩ = some (.int .i64 0) := cell_at kr
  have r2 : W1.cell? ⟨rb, 2, none⟩ = some (.int .i64 0) := cell_at kr
  have r3 : W1.cell? ⟨rb, 3, none⟩ = some (.int .i64 0) := cell_at kr
  have f0 : W1.frozen? ⟨rb, 0, none⟩ = false := frozen_of_heap kr
  have f1 : W1.frozen? ⟨rb, 1, none⟩ = false := frozen_of_heap kr
  have f2 : W1.frozen? ⟨rb, 2, none⟩ = false := frozen_of_heap kr
  have f3 : W1.frozen? ⟨rb, 3, none⟩ = false := frozen_of_heap kr
  have HRR := hide kr
  have HBB := hide hb
  rw [hn0]
  clear h hb kr
  go_enter Tryd.func20, Tryd.ntmps20
  go_wp2_with fail
  try rw [hW1]
  refine (unhide HM).mono ?_
  rintro e w9 ⟨rfl, rfl⟩
  clear hW1
  go_wp2
  have hrow := setrow4 (a := .int .i32 0) (b := .int .i64 0) (c := .int .i64 0) (d := .int .i64 0) (unhide HRR)
  have hup := upd4 (w := W1) (p := rb) (S := fun k => k = rb) (N := W1.heap.size) (.inl rfl) (.int .i32 0) (.int .i64 0) (.int .i64 0) (.int .i64 0)
  obtain ⟨W9, hW9⟩ : ∃ W9, (((W1.setCell ⟨rb, 0, none⟩ (.int .i32 0)).setCell ⟨rb, 1, none⟩ (.int .i64 0)).setCell ⟨rb, 2, none⟩ (.int .i64 0)).setCell ⟨rb, 3, none⟩ (.int .i64 0) = W9 := ⟨_, rfl⟩
  rw [hW9] at hrow hup
  first | rw [hW9] | skip
  clear hW9
  refine bodyPost_ret (results_cell_row_tmp rfl _ _ rb 32 _ (0, 0) _ rfl hrow Tryd.underlying32 rfl (by kernel_rfl)) rfl ?_
  have hbb := unhide HBB
  exact ⟨rfl, hbb.trans ⟨hup.os, hup.tape, hup.output, hup.size, fun k hk => hup.block k (by have := hbb.size; omega) (by omega)⟩⟩

theorem samem_no {w : World} {v : Value} (h : IsNo w v) : Calls Tryd.prog 28 #[v, v] w fun e w' => e = .returned (.bool false) ∧ Below w.heap.size w w' := by
  obtain ⟨n0, hn0⟩ : ∃ x, w.heap.size = x := ⟨_, rfl⟩
  obtain ⟨W1, hW1⟩ : ∃ W, w.alloc (.cells #[.bool false] 4) = W := ⟨_, rfl⟩
  have hb : Below n0 w W1 := by rw [← hW1, ← hn0]; exact (Below.refl _ _).alloc (Nat.le_refl _) _
  have kr : W1.heap[n0]? = some (.cells #[.bool false] 4) := by rw [← hW1, ← hn0]; exact heap_new1 _ _
  have h1 : IsNo W1.drew v := (h.below (by rw [hn0]; exact hb)).below (Below.refl _ _).drew
  have HM := hide (made_no h1)
  have HK := hide (And.intro hb kr)
  rw [hn0]
  clear h hb kr h1
  go_enter Tryd.func28, Tryd.ntmps28
  go_wp2
  try rw [hW1]
  clear hW1
  refine wp_region_held_drew (S := fun _ => True) (by kernel_rfl) trivial (fun hHeld => ?_)
  refine wpAnyH_take (i := 0) (v := ?v1x0) rfl (by kernel_rfl) (by kernel_rfl) (by kernel_rfl) (fun _ _ _ h => h) (Or.inl ⟨by rfl, ?hy1x0⟩) (by assumption) ?rest1x0
  case hy1x0 => intro w hSw; go_simp <;> with_reducible rfl
  simp only [Act.put, List.getElem_toArray, List.getElem_cons_zero, List.setIfInBounds_toArray, List.set_cons_zero, List.set_cons_succ]
  refine wpAnyH_ready (rs := [1]) (by kernel_rfl) (by simp) ?_
  refine AllReadyH.cons rfl (fun K hK => ?_) AllReadyH.nil
  go_simp
  refine (unhide HM).mono ?_
  rintro e wq ⟨rfl, rfl⟩
  refine hK _ _ trivial ?_
  clear hK hHeld
  intro hHeld
  refine wpAnyH_take (i := 2) (v := ?v2x2) rfl (by kernel_rfl) (by kernel_rfl) (by kernel_rfl) (fun _ _ _ h => h) (Or.inl ⟨by rfl, ?hy2x2⟩) (by assumption) ?rest2x2
  case hy2x2 => intro w hSw; go_simp <;> with_reducible rfl
  simp only [Act.put, List.getElem_toArray, List.getElem_cons_zero, List.getElem_cons_succ, List.setIfInBounds_toArray, List.set_cons_zero, List.set_cons_succ]
  refine wpAnyH_take (i := 3) (v := ?v3x3) rfl (by kernel_rfl) (by kernel_rfl) (by kernel_rfl) (fun _ _ _ h => h) (Or.inl ⟨by rfl, ?hy3x3⟩) (by assumption) ?rest3x3
  case hy3x3 => intro w hSw; go_simp <;> with_reducible rfl
  simp only [Act.put, List.getElem_toArray, List.getElem_cons_zero, List.getElem_cons_succ, List.setIfInBounds_toArray, List.set_cons_zero, List.set_cons_succ]
  refine wpAnyH_take (i := 4) (v := undef) rfl (by kernel_rfl) (by kernel_rfl) (by kernel_rfl) (fun _ _ _ h => h) (Or.inr ⟨by rfl, rfl⟩) (by assumption) ?_
  simp only [Act.put, List.getElem_toArray, List.getElem_cons_zero, List.getElem_cons_succ, List.setIfInBounds_toArray, List.set_cons_zero, List.set_cons_succ]
  refine wpAnyH_take (i := 5) (v := undef) rfl (by kernel_rfl) (by kernel_rfl) (by kernel_rfl) (fun _ _ _ h => h) (Or.inr ⟨by rfl, rfl⟩) (by assumption) ?_
  simp only [Act.put, List.getElem_toArray, List.getElem_cons_zero, List.getElem_cons_succ, List.setIfInBounds_toArray, List.set_cons_zero, List.set_cons_succ]
  refine wpAnyH_take (i := 6) (v := undef) rfl (by kernel_rfl) (by kernel_rfl) (by kernel_rfl) (fun _ _ _ h => h) (Or.inr ⟨by rfl, rfl⟩) (by assumption) ?_
  simp only [Act.put, List.getElem_toArray, List.getElem_cons_zero, List.getElem_cons_succ, List.setIfInBounds_toArray, List.set_cons_zero, List.set_cons_succ]
  refine wpAnyH_take (i := 7) (v := ?v7x7) rfl (by kernel_rfl) (by kernel_rfl) (by kernel_rfl) (fun _ _ _ h => h) (Or.inl ⟨by rfl, ?hy7x7⟩) (by assumption) ?rest7x7
  case hy7x7 => intro w hSw; go_simp <;> with_reducible rfl
  simp only [Act.put, List.getElem_toArray, List.getElem_cons_zero, List.getElem_cons_succ, List.setIfInBounds_toArray, List.set_cons_zero, List.set_cons_succ]
  refine wpAnyH_take (i := 8) (v := ?v8x8) rfl (by kernel_rfl) (by kernel_rfl) (by kernel_rfl) (fun _ _ _ h => h) (Or.inl ⟨by rfl, ?hy8x8⟩) (by assumption) ?rest8x8
  case hy8x8 => intro w hSw; go_simp <;> with_reducible rfl
  simp only [Act.put, List.getElem_toArray, List.getElem_cons_zero, List.getElem_cons_succ, List.setIfInBounds_toArray, List.set_cons_zero, List.set_cons_succ]
  refine wpAnyH_take (i := 9) (v := undef) rfl (by kernel_rfl) (by kernel_rfl) (by kernel_rfl) (fun _ _ _ h => h) (Or.inr ⟨by rfl, rfl⟩) (by assumption) ?_
  simp only [Act.put, List.getElem_toArray, List.getElem_cons_zero, List.getElem_cons_succ, List.setIfInBounds_toArray, List.set_cons_zero, List.set_cons_succ]
  refine wpAnyH_take (i := 10) (v := undef) rfl (by kernel_rfl) (by kernel_rfl) (by kernel_rfl) (fun _ _ _ h => h) (Or.inr ⟨by rfl, rfl⟩) (by assumption) ?_
  simp only [Act.put, List.getElem_toArray, List.getElem_cons_zero, List.getElem_cons_succ, List.setIfInBounds_toArray, List.set_cons_zero, List.set_cons_succ]
  refine wpAnyH_take (i := 11) (v := undef) rfl (by kernel_rfl) (by kernel_rfl) (by kernel_rfl) (fun _ _ _ h => h) (Or.inr ⟨by rfl, rfl⟩) (by assumption) ?_
  simp only [Act.put, List.getElem_toArray, List.getElem_cons_zero, List.getElem_cons_succ, List.setIfInBounds_toArray, List.set_cons_zero, List.set_cons_succ]
  refine wpAnyH_take (i := 12) (v := undef) rfl (by kernel_rfl) (by kernel_rfl) (by kernel_rfl) (fun _ _ _ h => h) (Or.inr ⟨by rfl, rfl⟩) (by assumption) ?_
  simp only [Act.put, List.getElem_toArray, List.getElem_cons_zero, List.getElem_cons_succ, List.setIfInBounds_toArray, List.set_cons_zero, List.set_cons_succ]
  refine wpAnyH_take (i := 13) (v := undef) rfl (by kernel_rfl) (by kernel_rfl) (by kernel_rfl) (fun _ _ _ h => h) (Or.inr ⟨by rfl, rfl⟩) (by assumption) ?_
  simp only [Act.put, List.getElem_toArray, List.getElem_cons_zero, List.getElem_cons_succ, List.setIfInBounds_toArray, List.set_cons_zero, List.set_cons_succ]
  refine wpAnyH_take (i := 14) (v := undef) rfl (by kernel_rfl) (by kernel_rfl) (by kernel_rfl) (fun _ _ _ h => h) (Or.inr ⟨by rfl, rfl⟩) (by assumption) ?_
  simp only [Act.put, List.getElem_toArray, List.getElem_cons_zero, List.getElem_cons_succ, List.setIfInBounds_toArray, List.set_cons_zero, List.set_cons_succ]
  refine wpAnyH_take (i := 15) (v := undef) rfl (by kernel_rfl) (by kernel_rfl) (by kernel_rfl) (fun _ _ _ h => h) (Or.inr ⟨by rfl, rfl⟩) (by assumption) ?_
  simp only [Act.put, List.getElem_toArray, List.getElem_cons_zero, List.getElem_cons_succ, List.setIfInBounds_toArray, List.set_cons_zero, List.set_cons_succ]
  refine wpAnyH_take (i := 16) (v := undef) rfl (by kernel_rfl) (by kernel_rfl) (by kernel_rfl) (fun _ _ _ h => h) (Or.inr ⟨by rfl, rfl⟩) (by assumption) ?_
  simp only [Act.put, List.getElem_toArray, List.getElem_cons_zero, List.getElem_cons_succ, List.setIfInBounds_toArray, List.set_cons_zero, List.set_cons_succ]
  refine wpAnyH_take (i := 17) (v := undef) rfl (by kernel_rfl) (by kernel_rfl) (by kernel_rfl) (fun _ _ _ h => h) (Or.inr ⟨by rfl, rfl⟩) (by assumption) ?_
  simp only [Act.put, List.getElem_toArray, List.getElem_cons_zero, List.getElem_cons_succ, List.setIfInBounds_toArray, List.set_cons_zero, List.set_cons_succ]
  refine wpAnyH_take (i := 18) (v := ?v18x18) rfl (by kernel_rfl) (by kernel_rfl) (by kernel_rfl) (fun _ _ _ h => h) (Or.inl ⟨by rfl, ?hy18x18⟩) (by assumption) ?rest18x18
  case hy18x18 => intro w hSw; go_simp <;> with_reducible rfl
  simp only [Act.put, List.getElem_toArray, List.getElem_cons_zero, List.getElem_cons_succ, List.setIfInBounds_toArray, List.set_cons_zero, List.set_cons_succ]
  refine wpAnyH_done (by kernel_rfl) ?_ _
  have c0 : W1.drew.cell? ⟨n0, 0, none⟩ = some (.bool false) := cell_at (unhide HK).2
  have f0 : W1.drew.frozen? ⟨n0, 0, none⟩ = false := frozen_of_heap (w := W1.drew) (unhide HK).2
  go_wp2
  refine bodyPost_ret ?_ rfl ⟨rfl, ((unhide HK).1.drew.setCell (p := ⟨n0, 0, none⟩) (Nat.le_refl _) _)⟩
  have := box_set (W := W1) (.bool false) (unhide HK).2
  have c1 : (W1.setCell ⟨n0, 0, none⟩ (.bool false)).cell? ⟨n0, 0, none⟩ = some (.bool false) := cell_at this
  simp [results, Tryd.results28, go_sem, c1]

theorem vc_seq (n bx : Nat) (l : List Pr) (w : World) (v : Value) (hc : w.cell? ⟨bx, 0, none⟩ = some v) (hs : SeesL pC 4 w v l) (hl : l.length ≤ 140737488351232) :
    ∃ gb, gb < w.heap.size ∧ SeqOk Fence.wide n Tryd.prog 79 #[PN bx] encvc (fun pre x => ∃ r, pre ++ x :: r = l) (Keepb (fun k => k = gb)) (fun xs => xs = l) w := by
  obtain ⟨ao, cap, gb, ob, rfl, hcap, _, hao, hcells⟩ := hs.pair
  by_cases h0 : 0 < l.length
  · have hg : gb < w.heap.size := World.block_lt_of_cell? w _ (hcells 0 h0).1
    refine ⟨gb, hg, fun lp J Jx W hW hJ hY hj0 => ?_⟩
    have up : ∀ {p : Addr} {u : Value}, w.cell? p = some u → W.cell? p = some u := fun {p u} h => (hW.cell (p := p) (World.block_lt_of_cell? w _ h)).trans h
    exact vc1_in n lp bx gb ob ao cap l hl hcap hao (fun k => k = gb) rfl J Jx (fun s A o h => hJ.alloc o h) hY W (up hc) (fun t ht => ⟨up (hcells t ht).1, up (hcells t ht).2.1, up (hcells t ht).2.2.1, up (hcells t ht).2.2.2⟩) (fun k hk => by have := hW.size; omega) hj0
  · have hb := World.block_lt_of_cell? w _ hc
    refine ⟨bx, hb, fun lp J Jx W hW hJ hY hj0 => ?_⟩
    exact vc1_in n lp bx bx ob ao cap l hl hcap (fun h => absurd h h0) (fun k => k = bx) rfl J Jx (fun s A o h => hJ.alloc o h) hY W ((hW.cell (p := ⟨bx, 0, none⟩) hb).trans hc) (fun t ht => by omega) (fun k hk => by have := hW.size; have : bx < w.heap.size := hb; omega) hj0
theorem vk_seq (n bx : Nat) (l : List Ky) (w : World) (v : Value) (hc : w.cell? ⟨bx, 0, none⟩ = some v) (hs : SeesL kC 2 w v l) (hl : l.length ≤ 140737488351232) :
    ∃ gb, gb < w.heap.size ∧ SeqOk Fence.wide n Tryd.prog 78 #[PN bx] encvk (fun pre x => ∃ r, pre ++ x :: r = l) (Keepb (fun k => k = gb)) (fun xs => xs = l) w := by
  obtain ⟨ao, cap, gb, ob, rfl, hcap, _, hao, hcells⟩ := hs.key
  by_cases h0 : 0 < l.length
  · have hg : gb < w.heap.size := World.block_lt_of_cell? w _ (hcells 0 h0).1
    refine ⟨gb, hg, fun lp J Jx W hW hJ hY hj0 => ?_⟩
    have up : ∀ {p : Addr} {u : Value}, w.cell? p = some u → W.cell? p = some u := fun {p u} h => (hW.cell (p := p) (World.block_lt_of_cell? w _ h)).trans h
    exact vk1_in n lp bx gb ob ao cap l hl hcap hao (fun k => k = gb) rfl J Jx (fun s A o h => hJ.alloc o h) hY W (up hc) (fun t ht => ⟨up (hcells t ht).1, up (hcells t ht).2⟩) (fun k hk => by have := hW.size; omega) hj0
  · have hb := World.block_lt_of_cell? w _ hc
    refine ⟨bx, hb, fun lp J Jx W hW hJ hY hj0 => ?_⟩
    exact vk1_in n lp bx bx ob ao cap l hl hcap (fun h => absurd h h0) (fun k => k = bx) rfl J Jx (fun s A o h => hJ.alloc o h) hY W ((hW.cell (p := ⟨bx, 0, none⟩) hb).trans hc) (fun t ht => by omega) (fun k hk => by have := hW.size; have : bx < w.heap.size := hb; omega) hj0

set_option maxHeartbeats 1000000 in
theorem rangem_no {w : World} {v : Value} (h : IsNo w v) (k0 k1 t0 t1 : Int) : Calls Tryd.prog 27 #[v, .agg #[.int .i32 k0, .int .i64 k1], .agg #[.int .i32 t0, .int .i64 t1]] w fun e w' => e = .returned (.slice none 0 0) ∧ Below w.heap.size w w' := by
  obtain ⟨n0, hn0⟩ : ∃ x, w.heap.size = x := ⟨_, rfl⟩
  obtain ⟨lb, hlb⟩ : ∃ x, n0 + 1 + 1 = x := ⟨_, rfl⟩
  obtain ⟨W1, hW1⟩ : ∃ W, (((w.alloc (.cells #[.int .i32 k0, .int .i64 k1] 30)).alloc (.cells #[.int .i32 t0, .int .i64 t1] 30)).alloc (.cells #[.slice none 0 0] 63)) = W := ⟨_, rfl⟩
  have hb : Below n0 w W1 := by rw [← hW1, ← hn0]; exact ((((Below.refl _ _).alloc (Nat.le_refl _) _).alloc (by simp) _).alloc (by simp; omega) _)
  have hs1 : W1.heap.size = lb + 1 := by rw [← hW1, ← hlb, ← hn0]; simp
  have kl : W1.heap[lb]? = some (.cells #[.slice none 0 0] 63) := by rw [← hW1, ← hlb, ← hn0]; have := World.alloc_heap_new (((w.alloc (.cells #[.int .i32 k0, .int .i64 k1] 30)).alloc (.cells #[.int .i32 t0, .int .i64 t1] 30))) (.cells #[.slice none 0 0] 63); rw [World.size_alloc, World.size_alloc] at this; exact this
  have kf : W1.heap[n0]? = some (.cells #[.int .i32 k0, .int .i64 k1] 30) := by rw [← hW1, Below.heap_alloc _ _ _ (by simp; omega), Below.heap_alloc _ _ _ (by simp; omega), ← hn0]; exact heap_new1 _ _
  have g0 : W1.cell? ⟨n0, 0, none⟩ = some (.int .i32 k0) := cell_at kf
  have g1 : W1.cell? ⟨n0, 1, none⟩ = some (.int .i64 k1) := cell_at kf
  clear kf
  have h1 := h.below (w' := W1) (by rw [hn0]; exact hb)
  have HC := hide (from_no h1 k0 k1)
  have H1 := hide (And.intro hb (And.intro kl hs1))
  rw [hn0]
  clear h h1 hb kl hs1
  refine (callsIn_wide (n := 3)).1 ?_
  refine callsIn_of_wp_marks Tryd.func27 rfl trivial ?_ rfl
  simp only [Tryd.ntmps27, List.size_toArray, List.length_cons, List.length_nil, Nat.reduceAdd, Nat.reduceSub, Array.replicate_succ, Array.replicate_zero, List.push_toArray, List.append_toArray, List.nil_append, List.cons_append]
  gi_wp2_with fail
  refine ⟨trivial, ((callsIn_wide).2 (unhide HC)).mono ?_⟩
  rintro e W2 ⟨rfl, hb2'⟩
  have hb2 : Below W1.heap.size W1 W2 := hb2'
  obtain ⟨hb, kl, hs1⟩ := unhide H1
  have kl2 : W2.heap[lb]? = some (.cells #[.slice none 0 0] 63) := (hb2.block lb (by omega)).trans kl
  have hW2 : Below n0 w W2 := hb.trans (hb2.mono (by omega))
  have hlB : lb < W2.heap.size := (Array.getElem?_eq_some_iff.1 kl2).1
  clear hb kl hs1 hb2 hb2' H1 HC hW1 g0 g1
  gi_wp2
  refine wpIn_range_ok (α := Nd) rfl (by decide) (gf := 73) (lb := #[]) rfl trivial (enters_of Tryd.func73 (by kernel_rfl) rfl)
    (none_seq (3 - 1) (fun m : Nd => #[PN m.p]) (fun _ _ => False) (fun _ _ => True) W2)
    (fun _ _ => trivial) (fun _ _ _ _ _ => trivial) (Below.refl _ _) (fun _ => rfl)
    (fun _ W => W.heap[lb]? = some (.cells #[.slice none 0 0] 63) ∧ Below n0 w W) (fun _ _ _ => False)
    (OwnFrom.and (ownFrom_blk _ lb (fun _ => .cells #[.slice none 0 0] 63) hlB) (ownFrom_below (by omega) (by have := hW2.size; omega)))
    (fun _ => ownFrom_pure _ _) ⟨kl2, hW2⟩ (fun x => { tmps := #[v, .agg #[.int .i32 k0, .int .i64 k1], .agg #[.int .i32 t0, .int .i64 t1], undef, PN n0, PN (n0 + 1), .slice none 0 0, PN lb, PN x.p, v, .agg #[.int .i32 k0, .int .i64 k1], ItNo, PN x.p, undef, undef, undef, undef, undef, undef, undef, undef, undef, undef, undef, undef, undef, undef, undef, undef], defers := [] }) ?assign ?body ?done ?stop
  case assign =>
    intro l x W K hK
    gi_wp2
    exact hK
  case body =>
    intro l pre x W hI hOk
    exact hOk.elim
  case stop =>
    intro D c pre W hD hX hK
    exact hX.elim
  case done =>
    intro D xs W hD hxs hI hK
    obtain ⟨kl, hBW⟩ := hI
    have c0 : W.cell? ⟨lb, 0, none⟩ = some (.slice none 0 0) := cell_at kl
    have hD' : n0 ≤ D := by have := hW2.size; omega
    have HM : Hid (Marks [{ target := .collected D, args := #[] }] W) := (Marks.nil W).cons hK (fun c => by cases c)
    have HB := hide hBW
    clear kl hK hxs kl2 hW2 hlB hD hBW
    gi_wp2
    refine leave_marks (w := W) (unhide HM) fun w' hw => ?_
    have hdm : ∀ k, isMark [{ target := .collected D, args := #[] }] k → n0 ≤ k := fun k c => by
      rcases List.mem_cons.1 c with e | e
      · simp only [Deferred.mk.injEq, Target.collected.injEq, and_true] at e; omega
      · cases e
    refine ⟨_, by simp [results, Tryd.results27, go_sem], rfl, (unhide HB).trans ⟨hw.os, hw.tape, hw.output, hw.size, fun k hk => hw.block k (by have := (unhide HB).size; omega) fun c => by have := hdm k c; omega⟩⟩

theorem valsc_any (w : World) : Calls Tryd.prog 65 #[.slice none 0 0] w fun e w' => e = .returned (.func (.func 79) #[] #[PN w.heap.size]) ∧ w' = w.alloc (.cells #[.slice none 0 0] 63) := by
  go_enter Tryd.func65, Tryd.ntmps65
  go_wp2
  go_ret
  exact ⟨rfl, rfl⟩
theorem valsk_any (w : World) : Calls Tryd.prog 60 #[.slice none 0 0] w fun e w' => e = .returned (.func (.func 78) #[] #[PN w.heap.size]) ∧ w' = w.alloc (.cells #[.slice none 0 0] 55) := by
  go_enter Tryd.func60, Tryd.ntmps60
  go_wp2
  go_ret
  exact ⟨rfl, rfl⟩

set_option maxHeartbeats 1000000 in
theorem fromm_no {w : World} {v : Value} (h : IsNo w v) (k0 k1 : Int) : Calls Tryd.prog 33 #[v, .agg #[.int .i32 k0, .int .i64 k1]] w fun e w' => ∃ bx, e = .returned (.func (.func 79) #[] #[PN bx]) ∧ w'.cell? ⟨bx, 0, none⟩ = some (.slice none 0 0) ∧ Below w.heap.size w w' := by
  obtain ⟨n0, hn0⟩ : ∃ x, w.heap.size = x := ⟨_, rfl⟩
  obtain ⟨lb, hlb⟩ : ∃ x, n0 + 1 = x := ⟨_, rfl⟩
  obtain ⟨W1, hW1⟩ : ∃ W, ((w.alloc (.cells #[.int .i32 k0, .int .i64 k1] 30)).alloc (.cells #[.slice none 0 0] 63)) = W := ⟨_, rfl⟩
  have hb : Below n0 w W1 := by rw [← hW1, ← hn0]; exact (((Below.refl _ _).alloc (Nat.le_refl _) _).alloc (by simp) _)
  have hs1 : W1.heap.size = lb + 1 := by rw [← hW1, ← hlb, ← hn0]; simp
  have kl : W1.heap[lb]? = some (.cells #[.slice none 0 0] 63) := by rw [← hW1, ← hlb, ← hn0]; exact heap_new2 _ _ _
  have kf : W1.heap[n0]? = some (.cells #[.int .i32 k0, .int .i64 k1] 30) := by rw [← hW1, Below.heap_alloc _ _ _ (by simp; omega), ← hn0]; exact heap_new1 _ _
  have g0 : W1.cell? ⟨n0, 0, none⟩ = some (.int .i32 k0) := cell_at kf
  have g1 : W1.cell? ⟨n0, 1, none⟩ = some (.int .i64 k1) := cell_at kf
  clear kf
  have h1 := h.below (w' := W1) (by rw [hn0]; exact hb)
  have HC := hide (from_no h1 k0 k1)
  have H1 := hide (And.intro hb (And.intro kl hs1))
  rw [hn0]
  clear h h1 hb kl hs1
  refine (callsIn_wide (n := 3)).1 ?_
  refine callsIn_of_wp_marks Tryd.func33 rfl trivial ?_ rfl
  simp only [Tryd.ntmps33, List.size_toArray, List.length_cons, List.length_nil, Nat.reduceAdd, Nat.reduceSub, Array.replicate_succ, Array.replicate_zero, List.push_toArray, List.append_toArray, List.nil_append, List.cons_append]
  gi_wp2_with fail
  refine ⟨trivial, ((callsIn_wide).2 (unhide HC)).mono ?_⟩
  rintro e W2 ⟨rfl, hb2'⟩
  have hb2 : Below W1.heap.size W1 W2 := hb2'
  obtain ⟨hb, kl, hs1⟩ := unhide H1
  have kl2 : W2.heap[lb]? = some (.cells #[.slice none 0 0] 63) := (hb2.block lb (by omega)).trans kl
  have hW2 : Below n0 w W2 := hb.trans (hb2.mono (by omega))
  have hlB : lb < W2.heap.size := (Array.getElem?_eq_some_iff.1 kl2).1
  clear hb kl hs1 hb2 hb2' H1 HC hW1 g0 g1
  gi_wp2
  refine wpIn_range_ok (α := Nd) rfl (by decide) (gf := 73) (lb := #[]) rfl trivial (enters_of Tryd.func73 (by kernel_rfl) rfl)
    (none_seq (3 - 1) (fun m : Nd => #[PN m.p]) (fun _ _ => False) (fun _ _ => True) W2)
    (fun _ _ => trivial) (fun _ _ _ _ _ => trivial) (Below.refl _ _) (fun _ => rfl)
    (fun _ W => W.heap[lb]? = some (.cells #[.slice none 0 0] 63) ∧ Below n0 w W) (fun _ _ _ => False)
    (OwnFrom.and (ownFrom_blk _ lb (fun _ => .cells #[.slice none 0 0] 63) hlB) (ownFrom_below (by omega) (by have := hW2.size; omega)))
    (fun _ => ownFrom_pure _ _) ⟨kl2, hW2⟩ (fun x => { tmps := #[v, .agg #[.int .i32 k0, .int .i64 k1], undef, PN n0, .nilFunc, PN lb, PN x.p, v, .agg #[.int .i32 k0, .int .i64 k1], ItNo, PN x.p, undef, undef, undef, undef, undef, undef, undef, undef, undef], defers := [] }) ?assign ?body ?done ?stop
  case assign =>
    intro l x W K hK
    gi_wp2
    exact hK
  case body =>
    intro l pre x W hI hOk
    exact hOk.elim
  case stop =>
    intro D c pre W hD hX hK
    exact hX.elim
  case done =>
    intro D xs W hD hxs hI hK
    obtain ⟨kl, hBW⟩ := hI
    have c0 : W.cell? ⟨lb, 0, none⟩ = some (.slice none 0 0) := cell_at kl
    have hD' : n0 ≤ D := by have := hW2.size; omega
    have HM : Hid (Marks [{ target := .collected D, args := #[] }] W) := (Marks.nil W).cons hK (fun c => by cases c)
    have HB := hide hBW
    clear kl hK hxs kl2 hW2 hlB hD hBW
    have HV := hide (valsc_any W)
    gi_wp2_with fail
    refine ⟨trivial, ((callsIn_wide).2 (unhide HV)).mono ?_⟩
    rintro e W5 ⟨rfl, rfl⟩
    have hl5 : D < W.heap.size := (unhide HM).lt (List.mem_cons_self)
    have HM5 : Hid (Marks [{ target := .collected D, args := #[] }] (W.alloc (.cells #[.slice none 0 0] 63))) := (unhide HM).keep fun k hk => Below.heap_alloc _ _ _ ((unhide HM).lt hk)
    have HB5 : Hid (Below n0 w (W.alloc (.cells #[.slice none 0 0] 63))) := (unhide HB).alloc (by have := (unhide HB).size; omega) _
    gi_wp2
    refine leave_marks (w := W.alloc (.cells #[.slice none 0 0] 63)) (unhide HM5) fun w' hw => ?_
    have hdm : ∀ k, isMark [{ target := .collected D, args := #[] }] k → n0 ≤ k := fun k c => by
      rcases List.mem_cons.1 c with e | e
      · simp only [Deferred.mk.injEq, Target.collected.injEq, and_true] at e; omega
      · cases e
    refine ⟨_, by simp [results, Tryd.results33, go_sem], W.heap.size, rfl, ?_, (unhide HB5).trans ⟨hw.os, hw.tape, hw.output, hw.size, fun k hk => hw.block k (by have := (unhide HB5).size; omega) fun c => by have := hdm k c; omega⟩⟩
    have hc5 : (W.alloc (.cells #[.slice none 0 0] 63)).heap[W.heap.size]? = some (.cells #[.slice none 0 0] 63) := heap_new1 _ _
    refine cell_at ((hw.block W.heap.size (by simp) fun c => ?_).trans hc5)
    have := (unhide HM5).at c
    rw [hc5] at this
    cases this

set_option maxHeartbeats 1000000 in
theorem levelm_no {w : World} {v : Value} (h : IsNo w v) (lev : Int) : Calls Tryd.prog 24 #[v, .int .i64 lev] w fun e w' => ∃ bx, e = .returned (.func (.func 78) #[] #[PN bx]) ∧ w'.cell? ⟨bx, 0, none⟩ = some (.slice none 0 0) ∧ Below w.heap.size w w' := by
  obtain ⟨n0, hn0⟩ : ∃ x, w.heap.size = x := ⟨_, rfl⟩
  obtain ⟨lb, hlb⟩ : ∃ x, n0 = x := ⟨_, rfl⟩
  obtain ⟨W1, hW1⟩ : ∃ W, (w.alloc (.cells #[.slice none 0 0] 55)) = W := ⟨_, rfl⟩
  have hb : Below n0 w W1 := by rw [← hW1, ← hn0]; exact ((Below.refl _ _).alloc (Nat.le_refl _) _)
  have hs1 : W1.heap.size = lb + 1 := by rw [← hW1, ← hlb, ← hn0]; simp
  have kl : W1.heap[lb]? = some (.cells #[.slice none 0 0] 55) := by rw [← hW1, ← hlb, ← hn0]; exact heap_new1 _ _
  have h1 := h.below (w' := W1) (by rw [hn0]; exact hb)
  have HC := hide (level_no h1 lev)
  have H1 := hide (And.intro hb (And.intro kl hs1))
  rw [hn0]
  clear h h1 hb kl hs1
  refine (callsIn_wide (n := 3)).1 ?_
  refine callsIn_of_wp_marks Tryd.func24 rfl trivial ?_ rfl
  simp only [Tryd.ntmps24, List.size_toArray, List.length_cons, List.length_nil, Nat.reduceAdd, Nat.reduceSub, Array.replicate_succ, Array.replicate_zero, List.push_toArray, List.append_toArray, List.nil_append, List.cons_append]
  gi_wp2_with fail
  refine ⟨trivial, ((callsIn_wide).2 (unhide HC)).mono ?_⟩
  rintro e W2 ⟨rfl, hb2'⟩
  have hb2 : Below W1.heap.size W1 W2 := hb2' ▸ Below.refl _ _
  obtain ⟨hb, kl, hs1⟩ := unhide H1
  have kl2 : W2.heap[lb]? = some (.cells #[.slice none 0 0] 55) := (hb2.block lb (by omega)).trans kl
  have hW2 : Below n0 w W2 := hb.trans (hb2.mono (by omega))
  have hlB : lb < W2.heap.size := (Array.getElem?_eq_some_iff.1 kl2).1
  clear hb kl hs1 hb2 hb2' H1 HC hW1
  gi_wp2
  refine wpIn_range_ok (α := Nd) rfl (by decide) (gf := 73) (lb := #[]) rfl trivial (enters_of Tryd.func73 (by kernel_rfl) rfl)
    (none_seq (3 - 1) (fun m : Nd => #[PN m.p]) (fun _ _ => False) (fun _ _ => True) W2)
    (fun _ _ => trivial) (fun _ _ _ _ _ => trivial) (Below.refl _ _) (fun _ => rfl)
    (fun _ W => W.heap[lb]? = some (.cells #[.slice none 0 0] 55) ∧ Below n0 w W) (fun _ _ _ => False)
    (OwnFrom.and (ownFrom_blk _ lb (fun _ => .cells #[.slice none 0 0] 55) hlB) (ownFrom_below (by omega) (by have := hW2.size; omega)))
    (fun _ => ownFrom_pure _ _) ⟨kl2, hW2⟩ (fun x => { tmps := #[v, .int .i64 lev, undef, undef, .nilFunc, PN lb, PN x.p, v, .int .i64 lev, ItNo, PN x.p, undef, undef, undef, undef, undef, undef, undef, undef, undef, undef], defers := [] }) ?assign ?body ?done ?stop
  case assign =>
    intro l x W K hK
    gi_wp2
    exact hK
  case body =>
    intro l pre x W hI hOk
    exact hOk.elim
  case stop =>
    intro D c pre W hD hX hK
    exact hX.elim
  case done =>
    intro D xs W hD hxs hI hK
    obtain ⟨kl, hBW⟩ := hI
    have c0 : W.cell? ⟨lb, 0, none⟩ = some (.slice none 0 0) := cell_at kl
    have hD' : n0 ≤ D := by have := hW2.size; omega
    have HM : Hid (Marks [{ target := .collected D, args := #[] }] W) := (Marks.nil W).cons hK (fun c => by cases c)
    have HB := hide hBW
    clear kl hK hxs kl2 hW2 hlB hD hBW
    have HV := hide (valsk_any W)
    gi_wp2_with fail
    refine ⟨trivial, ((callsIn_wide).2 (unhide HV)).mono ?_⟩
    rintro e W5 ⟨rfl, rfl⟩
    have hl5 : D < W.heap.size := (unhide HM).lt (List.mem_cons_self)
    have HM5 : Hid (Marks [{ target := .collected D, args := #[] }] (W.alloc (.cells #[.slice none 0 0] 55))) := (unhide HM).keep fun k hk => Below.heap_alloc _ _ _ ((unhide HM).lt hk)
    have HB5 : Hid (Below n0 w (W.alloc (.cells #[.slice none 0 0] 55))) := (unhide HB).alloc (by have := (unhide HB).size; omega) _
    gi_wp2
    refine leave_marks (w := W.alloc (.cells #[.slice none 0 0] 55)) (unhide HM5) fun w' hw => ?_
    have hdm : ∀ k, isMark [{ target := .collected D, args := #[] }] k → n0 ≤ k := fun k c => by
      rcases List.mem_cons.1 c with e | e
      · simp only [Deferred.mk.injEq, Target.collected.injEq, and_true] at e; omega
      · cases e
    refine ⟨_, by simp [results, Tryd.results24, go_sem], W.heap.size, rfl, ?_, (unhide HB5).trans ⟨hw.os, hw.tape, hw.output, hw.size, fun k hk => hw.block k (by have := (unhide HB5).size; omega) fun c => by have := hdm k c; omega⟩⟩
    have hc5 : (W.alloc (.cells #[.slice none 0 0] 55)).heap[W.heap.size]? = some (.cells #[.slice none 0 0] 55) := heap_new1 _ _
    refine cell_at ((hw.block W.heap.size (by simp) fun c => ?_).trans hc5)
    have := (unhide HM5).at c
    rw [hc5] at this
    cases this

end Go.Proofs.YtdcmkapfcmibeaaDoor
