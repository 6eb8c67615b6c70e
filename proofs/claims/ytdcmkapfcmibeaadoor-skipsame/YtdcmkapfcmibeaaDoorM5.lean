/- ahead. -/
import Derived.Test.YtdcmkapfcmibeaaDoorM4
namespace Go.Proofs.YtdcmkapfcmibeaaDoor
open Go.RowKit Go.Shelf
attribute [local go_sem] Oper.semAt_some
set_option maxRecDepth 100000

theorem last_node {hd : Nat} {L : List Nd} (hok : ∀ n ∈ L, OkN n) {A : List Nd} {n : Nd} (e : L = A ++ [n]) : lstP hd 0 L = n.p := by
  subst e
  rw [lstP_append, lstP, if_pos (by have := (hok n (by simp)).h; omega)]
  rfl
theorem Sk.drew {w : World} {b0 sb hd : Nat} {L : List Nd} {luck : Int} (h : Sk w b0 sb hd L luck) : Sk w.drew b0 sb hd L luck := h.keep fun _ _ => rfl
theorem heap_new1 (w : World) (o : Obj) : (w.alloc o).heap[w.heap.size]? = some o := World.alloc_heap_new w o
theorem heap_new2 (w : World) (o o' : Obj) : ((w.alloc o).alloc o').heap[w.heap.size + 1]? = some o' := by have := World.alloc_heap_new (w.alloc o) o'; rwa [World.size_alloc] at this

/-- What is there ahead of the question, whatever has come since. -/
theorem ahead_start {w W1 : World} {b0 sb hd : Nat} {L : List Nd} {luck : Int} (h : Sk w b0 sb hd L luck) (k0 k1 : Int) (hW1 : (w.alloc (.cells #[.int .i32 k0, .int .i64 k1] 30)).alloc (.cells #[nilP, nilP, nilP, nilP, nilP, nilP, nilP, nilP] 73) = W1) :
    ∀ w3 : World, Below W1.heap.size W1 w3 → w3.heap[w.heap.size + 1]? = some (.cells (arr8 fun _ => nilP) 73) ∧ Below w.heap.size w w3 ∧ Sk w3 b0 sb hd L luck ∧ w3.cell? ⟨w.heap.size, 0, none⟩ = some (.int .i32 k0) ∧ w3.cell? ⟨w.heap.size, 1, none⟩ = some (.int .i64 k1) := by
  have hB1 : Below w.heap.size w W1 := by rw [← hW1]; exact ((Below.refl _ _).alloc (Nat.le_refl _) _).alloc (by simp) _
  have hs1 : W1.heap.size = w.heap.size + 2 := by rw [← hW1]; simp
  have h1 := h.below hB1
  have hk : W1.heap[w.heap.size]? = some (.cells #[.int .i32 k0, .int .i64 k1] 30) := by rw [← hW1, Below.heap_alloc _ _ _ (by simp)]; exact heap_new1 _ _
  have hr : W1.heap[w.heap.size + 1]? = some (.cells (arr8 fun _ => nilP) 73) := by rw [← hW1]; exact heap_new2 _ _ _
  intro w3 hb
  have e := (hb.block w.heap.size (by omega)).trans hk
  exact ⟨(hb.block _ (by omega)).trans hr, hB1.trans (hb.mono (by omega)), h1.below hb, cell_at e, cell_at e⟩

set_option maxHeartbeats 1000000 in
theorem ahead_nil {w : World} {b0 sb hd : Nat} {luck : Int} (h : Sk w b0 sb hd [] luck) (k0 k1 : Int) (X : List Nd) (hX : lo (k0, k1) ([] : List Nd) = X) :
    Calls Tryd.prog 56 #[PN sb, .agg #[.int .i32 k0, .int .i64 k1]] w fun e w' => e = .returned (.agg (arr8 fun lev => PN (lstP hd lev X))) ∧ Below w.heap.size w w' := by
  obtain ⟨W1, hW1⟩ : ∃ W1, (w.alloc (.cells #[.int .i32 k0, .int .i64 k1] 30)).alloc (.cells #[nilP, nilP, nilP, nilP, nilP, nilP, nilP, nilP] 73) = W1 := ⟨_, rfl⟩
  obtain ⟨kb, hkb⟩ : ∃ x, w.heap.size = x := ⟨_, rfl⟩
  obtain ⟨rb, hrb⟩ : ∃ x, kb + 1 = x := ⟨_, rfl⟩
  have F0 := ahead_start h k0 k1 hW1
  rw [hkb, hrb] at F0
  obtain ⟨_, _, h1, _, _⟩ := F0 W1 (Below.refl _ _)
  obtain ⟨N, hm, hlk⟩ := h1.mem
  have m9 : W1.cell? ⟨sb, 9, none⟩ = some (.int .i64 0) := cell_at hm.sk
  have HX := hide hX
  have HF := hide F0
  rw [hkb]
  clear h h1 hm hlk hX F0
  go_enter Tryd.func56, Tryd.ntmps56
  go_wp2
  clear hW1
  refine wp_region_held_drew (S := fun w' => w'.cell? ⟨sb, 9, none⟩ = some (.int .i64 0) ∧ True) (by kernel_rfl) ⟨m9, trivial⟩ (fun hHeld => ?_)
  refine wpAnyH_take (i := 0) (v := ?v1x0) rfl (by kernel_rfl) (by kernel_rfl) (by kernel_rfl) (fun _ _ _ h => h) (Or.inl ⟨by rfl, ?hy1x0⟩) (by assumption) ?rest1x0
  case hy1x0 => intro w hSw; obtain ⟨s1, s2⟩ := hSw; go_simp <;> with_reducible rfl
  simp only [Act.put, List.getElem_toArray, List.getElem_cons_zero, List.setIfInBounds_toArray, List.set_cons_zero, List.set_cons_succ]
  refine wpAnyH_take (i := 1) (v := ?v2x1) rfl (by kernel_rfl) (by kernel_rfl) (by kernel_rfl) (fun _ _ _ h => h) (Or.inl ⟨by rfl, ?hy2x1⟩) (by assumption) ?rest2x1
  case hy2x1 => intro w hSw; obtain ⟨s1, s2⟩ := hSw; go_simp <;> with_reducible rfl
  simp only [Act.put, List.getElem_toArray, List.getElem_cons_zero, List.getElem_cons_succ, List.setIfInBounds_toArray, List.set_cons_zero, List.set_cons_succ]
  refine wpAnyH_take (i := 2) (v := ?v3x2) rfl (by kernel_rfl) (by kernel_rfl) (by kernel_rfl) (fun _ _ _ h => h) (Or.inl ⟨by rfl, ?hy3x2⟩) (by assumption) ?rest3x2
  case hy3x2 => intro w hSw; obtain ⟨s1, s2⟩ := hSw; go_simp <;> with_reducible rfl
  simp only [Act.put, List.getElem_toArray, List.getElem_cons_zero, List.getElem_cons_succ, List.setIfInBounds_toArray, List.set_cons_zero, List.set_cons_succ]
  refine wpAnyH_take (i := 3) (v := ?v4x3) rfl (by kernel_rfl) (by kernel_rfl) (by kernel_rfl) (fun _ _ _ h => h) (Or.inl ⟨by rfl, ?hy4x3⟩) (by assumption) ?rest4x3
  case hy4x3 => intro w hSw; obtain ⟨s1, s2⟩ := hSw; go_simp <;> with_reducible rfl
  simp only [Act.put, List.getElem_toArray, List.getElem_cons_zero, List.getElem_cons_succ, List.setIfInBounds_toArray, List.set_cons_zero, List.set_cons_succ]
  refine wpAnyH_take (i := 4) (v := ?v5x4) rfl (by kernel_rfl) (by kernel_rfl) (by kernel_rfl) (fun _ _ _ h => h) (Or.inl ⟨by rfl, ?hy5x4⟩) (by assumption) ?rest5x4
  case hy5x4 => intro w hSw; obtain ⟨s1, s2⟩ := hSw; go_simp <;> with_reducible rfl
  simp only [Act.put, List.getElem_toArray, List.getElem_cons_zero, List.getElem_cons_succ, List.setIfInBounds_toArray, List.set_cons_zero, List.set_cons_succ]
  refine wpAnyH_take (i := 5) (v := ?v6x5) rfl (by kernel_rfl) (by kernel_rfl) (by kernel_rfl) (fun _ _ _ h => h) (Or.inl ⟨by rfl, ?hy6x5⟩) (by assumption) ?rest6x5
  case hy6x5 => intro w hSw; obtain ⟨s1, s2⟩ := hSw; go_simp <;> with_reducible rfl
  simp only [Act.put, List.getElem_toArray, List.getElem_cons_zero, List.getElem_cons_succ, List.setIfInBounds_toArray, List.set_cons_zero, List.set_cons_succ]
  refine wpAnyH_take (i := 6) (v := undef) rfl (by kernel_rfl) (by kernel_rfl) (by kernel_rfl) (fun _ _ _ h => h) (Or.inr ⟨by rfl, rfl⟩) (by assumption) ?_
  simp only [Act.put, List.getElem_toArray, List.getElem_cons_zero, List.getElem_cons_succ, List.setIfInBounds_toArray, List.set_cons_zero, List.set_cons_succ]
  refine wpAnyH_take (i := 7) (v := undef) rfl (by kernel_rfl) (by kernel_rfl) (by kernel_rfl) (fun _ _ _ h => h) (Or.inr ⟨by rfl, rfl⟩) (by assumption) ?_
  simp only [Act.put, List.getElem_toArray, List.getElem_cons_zero, List.getElem_cons_succ, List.setIfInBounds_toArray, List.set_cons_zero, List.set_cons_succ]
  refine wpAnyH_take (i := 8) (v := undef) rfl (by kernel_rfl) (by kernel_rfl) (by kernel_rfl) (fun _ _ _ h => h) (Or.inr ⟨by rfl, rfl⟩) (by assumption) ?_
  simp only [Act.put, List.getElem_toArray, List.getElem_cons_zero, List.getElem_cons_succ, List.setIfInBounds_toArray, List.set_cons_zero, List.set_cons_succ]
  refine wpAnyH_take (i := 9) (v := undef) rfl (by kernel_rfl) (by kernel_rfl) (by kernel_rfl) (fun _ _ _ h => h) (Or.inr ⟨by rfl, rfl⟩) (by assumption) ?_
  simp only [Act.put, List.getElem_toArray, List.getElem_cons_zero, List.getElem_cons_succ, List.setIfInBounds_toArray, List.set_cons_zero, List.set_cons_succ]
  refine wpAnyH_take (i := 10) (v := undef) rfl (by kernel_rfl) (by kernel_rfl) (by kernel_rfl) (fun _ _ _ h => h) (Or.inr ⟨by rfl, rfl⟩) (by assumption) ?_
  simp only [Act.put, List.getElem_toArray, List.getElem_cons_zero, List.getElem_cons_succ, List.setIfInBounds_toArray, List.set_cons_zero, List.set_cons_succ]
  refine wpAnyH_take (i := 11) (v := undef) rfl (by kernel_rfl) (by kernel_rfl) (by kernel_rfl) (fun _ _ _ h => h) (Or.inr ⟨by rfl, rfl⟩) (by assumption) ?_
  simp only [Act.put, List.getElem_toArray, List.getElem_cons_zero, List.getElem_cons_succ, List.setIfInBounds_toArray, List.set_cons_zero, List.set_cons_succ]
  refine wpAnyH_take (i := 12) (v := undef) rfl (by kernel_rfl) (by kernel_rfl) (by kernel_rfl) (fun _ _ _ h => h) (Or.inr ⟨by rfl, rfl⟩) (by assumption) ?_
  simp only [Act.put, List.getElem_toArray, List.getElem_cons_zero, List.getElem_cons_succ, List.setIfInBounds_toArray, List.set_cons_zero, List.set_cons_succ]
  refine wpAnyH_take (i := 13) (v := undef) rfl (by kernel_rfl) (by kernel_rfl) (by kernel_rfl) (fun _ _ _ h => h) (Or.inr ⟨by rfl, rfl⟩) (by assumption) ?_
  simp only [Act.put, List.getElem_toArray, List.getElem_cons_zero, List.getElem_cons_succ, List.setIfInBounds_toArray, List.set_cons_zero, List.set_cons_succ]
  refine wpAnyH_take (i := 14) (v := undef) rfl (by kernel_rfl) (by kernel_rfl) (by kernel_rfl) (fun _ _ _ h => h) (Or.inr ⟨by rfl, rfl⟩) (by assumption) ?_
  simp only [Act.put, List.getElem_toArray, List.getElem_cons_zero, List.getElem_cons_succ, List.setIfInBounds_toArray, List.set_cons_zero, List.set_cons_succ]
  refine wpAnyH_take (i := 15) (v := undef) rfl (by kernel_rfl) (by kernel_rfl) (by kernel_rfl) (fun _ _ _ h => h) (Or.inr ⟨by rfl, rfl⟩) (by assumption) ?_
  simp only [Act.put, List.getElem_toArray, List.getElem_cons_zero, List.getElem_cons_succ, List.setIfInBounds_toArray, List.set_cons_zero, List.set_cons_succ]
  refine wpAnyH_take (i := 16) (v := undef) rfl (by kernel_rfl) (by kernel_rfl) (by kernel_rfl) (fun _ _ _ h => h) (Or.inr ⟨by rfl, rfl⟩) (by assumption) ?_
  simp only [Act.put, List.getElem_toArray, List.getElem_cons_zero, List.getElem_cons_succ, List.setIfInBounds_toArray, List.set_cons_zero, List.set_cons_succ]
  refine wpAnyH_take (i := 17) (v := ?v18x17) rfl (by kernel_rfl) (by kernel_rfl) (by kernel_rfl) (fun _ _ _ h => h) (Or.inl ⟨by rfl, ?hy18x17⟩) (by assumption) ?rest18x17
  case hy18x17 => intro w hSw; obtain ⟨s1, s2⟩ := hSw; go_simp <;> with_reducible rfl
  simp only [Act.put, List.getElem_toArray, List.getElem_cons_zero, List.getElem_cons_succ, List.setIfInBounds_toArray, List.set_cons_zero, List.set_cons_succ]
  refine wpAnyH_done (by kernel_rfl) ?_ _
  obtain ⟨_, _, hs2, hk0, hk1⟩ := unhide HF W1.drew ((Below.refl W1.heap.size W1).drew)
  have HS := hide (search_any hs2 k0 k1)
  rw [unhide HX] at HS
  have HQ2 := hide ((Below.refl W1.heap.size W1).drew)
  clear hs2
  go_wp2_with fail
  refine (unhide HS).mono ?_
  rintro e w3 ⟨rfl, hb3⟩
  obtain ⟨hr3, hbw3, _⟩ := unhide HF w3 ((unhide HQ2).trans (hb3.mono (unhide HQ2).size))
  have hlt3 : rb < w3.heap.size := (Array.getElem?_eq_some_iff.1 hr3).1
  have r0 : ∀ o : Obj, (w3.alloc o).cell? ⟨rb, 0, none⟩ = some nilP := fun _ => cell_old (cell_at hr3)
  have f0 : ∀ o : Obj, (w3.alloc o).frozen? ⟨rb, 0, none⟩ = false := fun o => (World.frozen?_of_block (w := w3) (a := ⟨rb, 0, none⟩) (Below.heap_alloc _ _ _ hlt3)).trans (frozen_of_heap hr3)
  have r1 : ∀ o : Obj, (w3.alloc o).cell? ⟨rb, 1, none⟩ = some nilP := fun _ => cell_old (cell_at hr3)
  have f1 : ∀ o : Obj, (w3.alloc o).frozen? ⟨rb, 1, none⟩ = false := fun o => (World.frozen?_of_block (w := w3) (a := ⟨rb, 1, none⟩) (Below.heap_alloc _ _ _ hlt3)).trans (frozen_of_heap hr3)
  have r2 : ∀ o : Obj, (w3.alloc o).cell? ⟨rb, 2, none⟩ = some nilP := fun _ => cell_old (cell_at hr3)
  have f2 : ∀ o : Obj, (w3.alloc o).frozen? ⟨rb, 2, none⟩ = false := fun o => (World.frozen?_of_block (w := w3) (a := ⟨rb, 2, none⟩) (Below.heap_alloc _ _ _ hlt3)).trans (frozen_of_heap hr3)
  have r3 : ∀ o : Obj, (w3.alloc o).cell? ⟨rb, 3, none⟩ = some nilP := fun _ => cell_old (cell_at hr3)
  have f3 : ∀ o : Obj, (w3.alloc o).frozen? ⟨rb, 3, none⟩ = false := fun o => (World.frozen?_of_block (w := w3) (a := ⟨rb, 3, none⟩) (Below.heap_alloc _ _ _ hlt3)).trans (frozen_of_heap hr3)
  have r4 : ∀ o : Obj, (w3.alloc o).cell? ⟨rb, 4, none⟩ = some nilP := fun _ => cell_old (cell_at hr3)
  have f4 : ∀ o : Obj, (w3.alloc o).frozen? ⟨rb, 4, none⟩ = false := fun o => (World.frozen?_of_block (w := w3) (a := ⟨rb, 4, none⟩) (Below.heap_alloc _ _ _ hlt3)).trans (frozen_of_heap hr3)
  have r5 : ∀ o : Obj, (w3.alloc o).cell? ⟨rb, 5, none⟩ = some nilP := fun _ => cell_old (cell_at hr3)
  have f5 : ∀ o : Obj, (w3.alloc o).frozen? ⟨rb, 5, none⟩ = false := fun o => (World.frozen?_of_block (w := w3) (a := ⟨rb, 5, none⟩) (Below.heap_alloc _ _ _ hlt3)).trans (frozen_of_heap hr3)
  have r6 : ∀ o : Obj, (w3.alloc o).cell? ⟨rb, 6, none⟩ = some nilP := fun _ => cell_old (cell_at hr3)
  have f6 : ∀ o : Obj, (w3.alloc o).frozen? ⟨rb, 6, none⟩ = false := fun o => (World.frozen?_of_block (w := w3) (a := ⟨rb, 6, none⟩) (Below.heap_alloc _ _ _ hlt3)).trans (frozen_of_heap hr3)
  have r7 : ∀ o : Obj, (w3.alloc o).cell? ⟨rb, 7, none⟩ = some nilP := fun _ => cell_old (cell_at hr3)
  have f7 : ∀ o : Obj, (w3.alloc o).frozen? ⟨rb, 7, none⟩ = false := fun o => (World.frozen?_of_block (w := w3) (a := ⟨rb, 7, none⟩) (Below.heap_alloc _ _ _ hlt3)).trans (frozen_of_heap hr3)
  have HRR := hide ((Below.heap_alloc w3 (.cells #[PN (lstP hd 0 X), PN (lstP hd 1 X), PN (lstP hd 2 X), PN (lstP hd 3 X), PN (lstP hd 4 X), PN (lstP hd 5 X), PN (lstP hd 6 X), PN (lstP hd 7 X)] 73) rb hlt3).trans hr3)
  have HBB := hide ((hbw3.alloc (by have := hbw3.size; omega) (.cells #[PN (lstP hd 0 X), PN (lstP hd 1 X), PN (lstP hd 2 X), PN (lstP hd 3 X), PN (lstP hd 4 X), PN (lstP hd 5 X), PN (lstP hd 6 X), PN (lstP hd 7 X)] 73)))
  clear hr3 hbw3 hb3 hlt3
  simp only [arr8]
  go_wp2
  obtain ⟨w4, hw4⟩ : ∃ w4, w3.alloc (.cells #[PN (lstP hd 0 X), PN (lstP hd 1 X), PN (lstP hd 2 X), PN (lstP hd 3 X), PN (lstP hd 4 X), PN (lstP hd 5 X), PN (lstP hd 6 X), PN (lstP hd 7 X)] 73) = w4 := ⟨_, rfl⟩
  rw [hw4] at HRR HBB ⊢
  clear hw4 r0 r1 r2 r3 r4 r5 r6 r7 f0 f1 f2 f3 f4 f5 f6 f7
  have hrow := setrow8 (g := fun lev => PN (lstP hd lev X)) (unhide HRR)
  have hup := updrow8 (w := w4) (b := rb) (S := fun k => k = rb) (N := w4.heap.size) (.inl rfl) (fun lev => PN (lstP hd lev X))
  obtain ⟨W9, hW9⟩ : ∃ W9, ((((((((w4.setCell ⟨rb, 0, none⟩ (PN (lstP hd 0 X))).setCell ⟨rb, 1, none⟩ (PN (lstP hd 1 X))).setCell ⟨rb, 2, none⟩ (PN (lstP hd 2 X))).setCell ⟨rb, 3, none⟩ (PN (lstP hd 3 X))).setCell ⟨rb, 4, none⟩ (PN (lstP hd 4 X))).setCell ⟨rb, 5, none⟩ (PN (lstP hd 5 X))).setCell ⟨rb, 6, none⟩ (PN (lstP hd 6 X))).setCell ⟨rb, 7, none⟩ (PN (lstP hd 7 X))) = W9 := ⟨_, rfl⟩
  rw [hW9] at hrow hup
  first | rw [hW9] | skip
  clear hW9
  refine bodyPost_ret (results_cell_row rfl _ _ rb 73 _ (0, 0) _ rfl hrow Tryd.underlying73 rfl (by kernel_rfl)) rfl ?_
  have hbb := unhide HBB
  exact ⟨rfl, hbb.trans ⟨hup.os, hup.tape, hup.output, hup.size, fun k hk => hup.block k (by have := hbb.size; omega) (by omega)⟩⟩

set_option maxHeartbeats 1000000 in
theorem ahead_end {w : World} {b0 sb hd : Nat} {L : List Nd} {luck : Int} (h : Sk w b0 sb hd L luck) (k0 k1 : Int) {A : List Nd} {n : Nd} (hAn : L = A ++ [n]) (hlt : ltK n.k (k0, k1)) :
    Calls Tryd.prog 56 #[PN sb, .agg #[.int .i32 k0, .int .i64 k1]] w fun e w' => e = .returned (.agg (arr8 fun lev => PN (lstP hd lev L))) ∧ Below w.heap.size w w' := by
  obtain ⟨W1, hW1⟩ : ∃ W1, (w.alloc (.cells #[.int .i32 k0, .int .i64 k1] 30)).alloc (.cells #[nilP, nilP, nilP, nilP, nilP, nilP, nilP, nilP] 73) = W1 := ⟨_, rfl⟩
  obtain ⟨kb, hkb⟩ : ∃ x, w.heap.size = x := ⟨_, rfl⟩
  obtain ⟨rb, hrb⟩ : ∃ x, kb + 1 = x := ⟨_, rfl⟩
  have F0 := ahead_start h k0 k1 hW1
  rw [hkb, hrb] at F0
  obtain ⟨_, _, h1, _, _⟩ := F0 W1 (Below.refl _ _)
  obtain ⟨N, hm, hlk⟩ := h1.mem
  have hl0 : lstP hd 0 L = n.p := last_node h.ok hAn
  have hn : n ∈ L := by rw [hAn]; simp
  obtain ⟨c, hc⟩ : ∃ c : Int, (L.length : Int) = c := ⟨_, rfl⟩
  have hc0 : decide (0 < c) = true := by rw [← hc, hAn, decide_eq_true_eq]; simp
  have hc1 : decide (c > 0) = true := hc0
  have m9 : W1.cell? ⟨sb, 9, none⟩ = some (.int .i64 c) := by rw [← hc]; exact cell_at hm.sk
  have m1 : W1.cell? ⟨sb, 1, none⟩ = some (PN n.p) := by rw [← hl0]; exact hm.last (lev := 0) (by decide)
  have hn85 := hm.node n hn
  have HC : Hid (∀ w' : World, Below W1.heap.size W1 w' → w'.cell? ⟨sb, 9, none⟩ = some (.int .i64 c) ∧ w'.cell? ⟨sb, 1, none⟩ = some (PN n.p) ∧ w'.cell? ⟨n.p, 0, none⟩ = some (.int .i32 n.k.1) ∧ w'.cell? ⟨n.p, 1, none⟩ = some (.int .i64 n.k.2) ∧ w'.cell? ⟨kb, 0, none⟩ = some (.int .i32 k0) ∧ w'.cell? ⟨kb, 1, none⟩ = some (.int .i64 k1)) := fun w' hb => by
    have up : ∀ {p : Addr} {v : Value}, W1.cell? p = some v → w'.cell? p = some v := fun {p v} h => (hb.cell (p := p) (World.block_lt_of_cell? _ _ h)).trans h
    exact ⟨up m9, up m1, up (cell_at hn85), up (cell_at hn85), (F0 w' hb).2.2.2.1, (F0 w' hb).2.2.2.2⟩
  have HF := hide F0
  have HBL := hide (below_any n.k.1 n.k.2 k0 k1)
  rw [hkb]
  clear h h1 hm hlk F0 hl0 hn hc hn85 hAn
  rw [show decide (ltK (n.k.1, n.k.2) (k0, k1)) = true from decide_eq_true hlt] at HBL
  go_enter Tryd.func56, Tryd.ntmps56
  go_wp2
  clear hW1
  refine wp_region_held_drew (S := fun w' => w'.cell? ⟨sb, 9, none⟩ = some (.int .i64 c) ∧ w'.cell? ⟨sb, 1, none⟩ = some (PN n.p) ∧ w'.cell? ⟨n.p, 0, none⟩ = some (.int .i32 n.k.1) ∧ w'.cell? ⟨n.p, 1, none⟩ = some (.int .i64 n.k.2) ∧ w'.cell? ⟨kb, 0, none⟩ = some (.int .i32 k0) ∧ w'.cell? ⟨kb, 1, none⟩ = some (.int .i64 k1)) (by kernel_rfl) (unhide HC _ (Below.refl _ _).drew) (fun hHeld => ?_)
  refine wpAnyH_take (i := 0) (v := ?v19x0) rfl (by kernel_rfl) (by kernel_rfl) (by kernel_rfl) (fun _ _ _ h => h) (Or.inl ⟨by rfl, ?hy19x0⟩) (by assumption) ?rest19x0
  case hy19x0 => intro w hSw; obtain ⟨s1, s2, s3, s4, s5, s6⟩ := hSw; go_simp <;> with_reducible rfl
  simp only [Act.put, List.getElem_toArray, List.getElem_cons_zero, List.setIfInBounds_toArray, List.set_cons_zero, List.set_cons_succ]
  refine wpAnyH_take (i := 1) (v := ?v20x1) rfl (by kernel_rfl) (by kernel_rfl) (by kernel_rfl) (fun _ _ _ h => h) (Or.inl ⟨by rfl, ?hy20x1⟩) (by assumption) ?rest20x1
  case hy20x1 => intro w hSw; obtain ⟨s1, s2, s3, s4, s5, s6⟩ := hSw; go_simp <;> with_reducible rfl
  simp only [Act.put, List.getElem_toArray, List.getElem_cons_zero, List.getElem_cons_succ, List.setIfInBounds_toArray, List.set_cons_zero, List.set_cons_succ]
  refine wpAnyH_take (i := 2) (v := ?v21x2) rfl (by kernel_rfl) (by kernel_rfl) (by kernel_rfl) (fun _ _ _ h => h) (Or.inl ⟨by rfl, ?hy21x2⟩) (by assumption) ?rest21x2
  case hy21x2 => intro w hSw; obtain ⟨s1, s2, s3, s4, s5, s6⟩ := hSw; go_simp <;> with_reducible rfl
  simp only [Act.put, List.getElem_toArray, List.getElem_cons_zero, List.getElem_cons_succ, List.setIfInBounds_toArray, List.set_cons_zero, List.set_cons_succ]
  refine wpAnyH_take (i := 3) (v := ?v22x3) rfl (by kernel_rfl) (by kernel_rfl) (by kernel_rfl) (fun _ _ _ h => h) (Or.inl ⟨by rfl, ?hy22x3⟩) (by assumption) ?rest22x3
  case hy22x3 => intro w hSw; obtain ⟨s1, s2, s3, s4, s5, s6⟩ := hSw; go_simp <;> with_reducible rfl
  simp only [Act.put, List.getElem_toArray, List.getElem_cons_zero, List.getElem_cons_succ, List.setIfInBounds_toArray, List.set_cons_zero, List.set_cons_succ]
  refine wpAnyH_take (i := 4) (v := (.bool true)) rfl (by kernel_rfl) (by kernel_rfl) (by kernel_rfl) (fun _ _ _ h => h) (Or.inl ⟨by rfl, ?hy23x4⟩) (by assumption) ?rest23x4
  case hy23x4 => intro w hSw; obtain ⟨s1, s2, s3, s4, s5, s6⟩ := hSw; go_simp <;> with_reducible rfl
  simp only [Act.put, List.getElem_toArray, List.getElem_cons_zero, List.getElem_cons_succ, List.setIfInBounds_toArray, List.set_cons_zero, List.set_cons_succ]
  refine wpAnyH_take (i := 5) (v := ?v24x5) rfl (by kernel_rfl) (by kernel_rfl) (by kernel_rfl) (fun _ _ _ h => h) (Or.inl ⟨by rfl, ?hy24x5⟩) (by assumption) ?rest24x5
  case hy24x5 => intro w hSw; obtain ⟨s1, s2, s3, s4, s5, s6⟩ := hSw; go_simp <;> with_reducible rfl
  simp only [Act.put, List.getElem_toArray, List.getElem_cons_zero, List.getElem_cons_succ, List.setIfInBounds_toArray, List.set_cons_zero, List.set_cons_succ]
  refine wpAnyH_take (i := 6) (v := ?v25x6) rfl (by kernel_rfl) (by kernel_rfl) (by kernel_rfl) (fun _ _ _ h => h) (Or.inl ⟨by rfl, ?hy25x6⟩) (by assumption) ?rest25x6
  case hy25x6 => intro w hSw; obtain ⟨s1, s2, s3, s4, s5, s6⟩ := hSw; go_simp <;> with_reducible rfl
  simp only [Act.put, List.getElem_toArray, List.getElem_cons_zero, List.getElem_cons_succ, List.setIfInBounds_toArray, List.set_cons_zero, List.set_cons_succ]
  refine wpAnyH_take (i := 7) (v := ?v26x7) rfl (by kernel_rfl) (by kernel_rfl) (by kernel_rfl) (fun _ _ _ h => h) (Or.inl ⟨by rfl, ?hy26x7⟩) (by assumption) ?rest26x7
  case hy26x7 => intro w hSw; obtain ⟨s1, s2, s3, s4, s5, s6⟩ := hSw; go_simp <;> with_reducible rfl
  simp only [Act.put, List.getElem_toArray, List.getElem_cons_zero, List.getElem_cons_succ, List.setIfInBounds_toArray, List.set_cons_zero, List.set_cons_succ]
  refine wpAnyH_take (i := 8) (v := ?v27x8) rfl (by kernel_rfl) (by kernel_rfl) (by kernel_rfl) (fun _ _ _ h => h) (Or.inl ⟨by rfl, ?hy27x8⟩) (by assumption) ?rest27x8
  case hy27x8 => intro w hSw; obtain ⟨s1, s2, s3, s4, s5, s6⟩ := hSw; go_simp <;> with_reducible rfl
  simp only [Act.put, List.getElem_toArray, List.getElem_cons_zero, List.getElem_cons_succ, List.setIfInBounds_toArray, List.set_cons_zero, List.set_cons_succ]
  refine wpAnyH_take (i := 9) (v := ?v28x9) rfl (by kernel_rfl) (by kernel_rfl) (by kernel_rfl) (fun _ _ _ h => h) (Or.inl ⟨by rfl, ?hy28x9⟩) (by assumption) ?rest28x9
  case hy28x9 => intro w hSw; obtain ⟨s1, s2, s3, s4, s5, s6⟩ := hSw; go_simp <;> with_reducible rfl
  simp only [Act.put, List.getElem_toArray, List.getElem_cons_zero, List.getElem_cons_succ, List.setIfInBounds_toArray, List.set_cons_zero, List.set_cons_succ]
  refine wpAnyH_take (i := 10) (v := ?v29x10) rfl (by kernel_rfl) (by kernel_rfl) (by kernel_rfl) (fun _ _ _ h => h) (Or.inl ⟨by rfl, ?hy29x10⟩) (by assumption) ?rest29x10
  case hy29x10 => intro w hSw; obtain ⟨s1, s2, s3, s4, s5, s6⟩ := hSw; go_simp <;> with_reducible rfl
  simp only [Act.put, List.getElem_toArray, List.getElem_cons_zero, List.getElem_cons_succ, List.setIfInBounds_toArray, List.set_cons_zero, List.set_cons_succ]
  refine wpAnyH_take (i := 11) (v := ?v30x11) rfl (by kernel_rfl) (by kernel_rfl) (by kernel_rfl) (fun _ _ _ h => h) (Or.inl ⟨by rfl, ?hy30x11⟩) (by assumption) ?rest30x11
  case hy30x11 => intro w hSw; obtain ⟨s1, s2, s3, s4, s5, s6⟩ := hSw; go_simp <;> with_reducible rfl
  simp only [Act.put, List.getElem_toArray, List.getElem_cons_zero, List.getElem_cons_succ, List.setIfInBounds_toArray, List.set_cons_zero, List.set_cons_succ]
  refine wpAnyH_take (i := 12) (v := ?v31x12) rfl (by kernel_rfl) (by kernel_rfl) (by kernel_rfl) (fun _ _ _ h => h) (Or.inl ⟨by rfl, ?hy31x12⟩) (by assumption) ?rest31x12
  case hy31x12 => intro w hSw; obtain ⟨s1, s2, s3, s4, s5, s6⟩ := hSw; go_simp <;> with_reducible rfl
  simp only [Act.put, List.getElem_toArray, List.getElem_cons_zero, List.getElem_cons_succ, List.setIfInBounds_toArray, List.set_cons_zero, List.set_cons_succ]
  refine wpAnyH_take (i := 13) (v := ?v32x13) rfl (by kernel_rfl) (by kernel_rfl) (by kernel_rfl) (fun _ _ _ h => h) (Or.inl ⟨by rfl, ?hy32x13⟩) (by assumption) ?rest32x13
  case hy32x13 => intro w hSw; obtain ⟨s1, s2, s3, s4, s5, s6⟩ := hSw; go_simp <;> with_reducible rfl
  simp only [Act.put, List.getElem_toArray, List.getElem_cons_zero, List.getElem_cons_succ, List.setIfInBounds_toArray, List.set_cons_zero, List.set_cons_succ]
  refine wpAnyH_take (i := 14) (v := ?v33x14) rfl (by kernel_rfl) (by kernel_rfl) (by kernel_rfl) (fun _ _ _ h => h) (Or.inl ⟨by rfl, ?hy33x14⟩) (by assumption) ?rest33x14
  case hy33x14 => intro w hSw; obtain ⟨s1, s2, s3, s4, s5, s6⟩ := hSw; go_simp <;> with_reducible rfl
  simp only [Act.put, List.getElem_toArray, List.getElem_cons_zero, List.getElem_cons_succ, List.setIfInBounds_toArray, List.set_cons_zero, List.set_cons_succ]
  refine wpAnyH_take (i := 15) (v := ?v34x15) rfl (by kernel_rfl) (by kernel_rfl) (by kernel_rfl) (fun _ _ _ h => h) (Or.inl ⟨by rfl, ?hy34x15⟩) (by assumption) ?rest34x15
  case hy34x15 => intro w hSw; obtain ⟨s1, s2, s3, s4, s5, s6⟩ := hSw; go_simp <;> with_reducible rfl
  simp only [Act.put, List.getElem_toArray, List.getElem_cons_zero, List.getElem_cons_succ, List.setIfInBounds_toArray, List.set_cons_zero, List.set_cons_succ]
  refine wpAnyH_ready (rs := [16]) (by kernel_rfl) (by simp) ?_
  refine AllReadyH.cons rfl (fun K hK => ?_) AllReadyH.nil
  go_simp
  refine (unhide HBL _).mono ?_
  rintro e wq ⟨rfl, hg⟩
  refine hK _ _ (unhide HC _ ((Below.refl _ _).drew.trans hg.below)) ?_
  clear hK hHeld
  have HQ := hide ((Below.refl W1.heap.size W1).drew.trans hg.below)
  clear hg
  intro hHeld
  refine wpAnyH_take (i := 17) (v := (.bool true)) rfl (by kernel_rfl) (by kernel_rfl) (by kernel_rfl) (fun _ _ _ h => h) (Or.inl ⟨by rfl, ?hy35x17⟩) (by assumption) ?rest35x17
  case hy35x17 => intro w hSw; obtain ⟨s1, s2, s3, s4, s5, s6⟩ := hSw; go_simp <;> with_reducible rfl
  simp only [Act.put, List.getElem_toArray, List.getElem_cons_zero, List.getElem_cons_succ, List.setIfInBounds_toArray, List.set_cons_zero, List.set_cons_succ]
  refine wpAnyH_done (by kernel_rfl) ?_ _
  have hbq : Below W1.heap.size W1 wq := unhide HQ
  obtain ⟨hrq, hbw, hsq, _, _⟩ := unhide HF wq hbq
  obtain ⟨Nq, hmq, _⟩ := hsq.mem
  have l0 : wq.cell? ⟨sb, 1, none⟩ = some (PN (lstP hd 0 L)) := hmq.last (lev := 0) (by decide)
  have l1 : wq.cell? ⟨sb, 2, none⟩ = some (PN (lstP hd 1 L)) := hmq.last (lev := 1) (by decide)
  have l2 : wq.cell? ⟨sb, 3, none⟩ = some (PN (lstP hd 2 L)) := hmq.last (lev := 2) (by decide)
  have l3 : wq.cell? ⟨sb, 4, none⟩ = some (PN (lstP hd 3 L)) := hmq.last (lev := 3) (by decide)
  have l4 : wq.cell? ⟨sb, 5, none⟩ = some (PN (lstP hd 4 L)) := hmq.last (lev := 4) (by decide)
  have l5 : wq.cell? ⟨sb, 6, none⟩ = some (PN (lstP hd 5 L)) := hmq.last (lev := 5) (by decide)
  have l6 : wq.cell? ⟨sb, 7, none⟩ = some (PN (lstP hd 6 L)) := hmq.last (lev := 6) (by decide)
  have l7 : wq.cell? ⟨sb, 8, none⟩ = some (PN (lstP hd 7 L)) := hmq.last (lev := 7) (by decide)
  have r0 : wq.cell? ⟨rb, 0, none⟩ = some nilP := cell_at hrq
  have f0 : wq.frozen? ⟨rb, 0, none⟩ = false := frozen_of_heap hrq
  have r1 : wq.cell? ⟨rb, 1, none⟩ = some nilP := cell_at hrq
  have f1 : wq.frozen? ⟨rb, 1, none⟩ = false := frozen_of_heap hrq
  have r2 : wq.cell? ⟨rb, 2, none⟩ = some nilP := cell_at hrq
  have f2 : wq.frozen? ⟨rb, 2, none⟩ = false := frozen_of_heap hrq
  have r3 : wq.cell? ⟨rb, 3, none⟩ = some nilP := cell_at hrq
  have f3 : wq.frozen? ⟨rb, 3, none⟩ = false := frozen_of_heap hrq
  have r4 : wq.cell? ⟨rb, 4, none⟩ = some nilP := cell_at hrq
  have f4 : wq.frozen? ⟨rb, 4, none⟩ = false := frozen_of_heap hrq
  have r5 : wq.cell? ⟨rb, 5, none⟩ = some nilP := cell_at hrq
  have f5 : wq.frozen? ⟨rb, 5, none⟩ = false := frozen_of_heap hrq
  have r6 : wq.cell? ⟨rb, 6, none⟩ = some nilP := cell_at hrq
  have f6 : wq.frozen? ⟨rb, 6, none⟩ = false := frozen_of_heap hrq
  have r7 : wq.cell? ⟨rb, 7, none⟩ = some nilP := cell_at hrq
  have f7 : wq.frozen? ⟨rb, 7, none⟩ = false := frozen_of_heap hrq
  have HRR := hide hrq
  have HBB := hide hbw
  clear hrq hbw hsq hmq hbq m9 m1 hc0 hc1 hHeld
  go_wp2
  clear r0 r1 r2 r3 r4 r5 r6 r7 f0 f1 f2 f3 f4 f5 f6 f7 l0 l1 l2 l3 l4 l5 l6 l7
  have hrow := setrow8 (g := fun lev => PN (lstP hd lev L)) (unhide HRR)
  have hup := updrow8 (w := wq) (b := rb) (S := fun k => k = rb) (N := wq.heap.size) (.inl rfl) (fun lev => PN (lstP hd lev L))
  obtain ⟨W9, hW9⟩ : ∃ W9, ((((((((wq.setCell ⟨rb, 0, none⟩ (PN (lstP hd 0 L))).setCell ⟨rb, 1, none⟩ (PN (lstP hd 1 L))).setCell ⟨rb, 2, none⟩ (PN (lstP hd 2 L))).setCell ⟨rb, 3, none⟩ (PN (lstP hd 3 L))).setCell ⟨rb, 4, none⟩ (PN (lstP hd 4 L))).setCell ⟨rb, 5, none⟩ (PN (lstP hd 5 L))).setCell ⟨rb, 6, none⟩ (PN (lstP hd 6 L))).setCell ⟨rb, 7, none⟩ (PN (lstP hd 7 L))) = W9 := ⟨_, rfl⟩
  rw [hW9] at hrow hup
  first | rw [hW9] | skip
  clear hW9
  refine bodyPost_ret (results_cell_row rfl _ _ rb 73 _ (0, 0) _ rfl hrow Tryd.underlying73 rfl (by kernel_rfl)) rfl ?_
  have hbb := unhide HBB
  exact ⟨rfl, hbb.trans ⟨hup.os, hup.tape, hup.output, hup.size, fun k hk => hup.block k (by have := hbb.size; omega) (by omega)⟩⟩

set_option maxHeartbeats 1000000 in
theorem ahead_mid {w : World} {b0 sb hd : Nat} {L : List Nd} {luck : Int} (h : Sk w b0 sb hd L luck) (k0 k1 : Int) {A : List Nd} {n : Nd} (hAn : L = A ++ [n]) (hlt : ¬ ltK n.k (k0, k1)) (X : List Nd) (hX : lo (k0, k1) L = X) :
    Calls Tryd.prog 56 #[PN sb, .agg #[.int .i32 k0, .int .i64 k1]] w fun e w' => e = .returned (.agg (arr8 fun lev => PN (lstP hd lev X))) ∧ Below w.heap.size w w' := by
  have HX := hide hX
  clear hX
  obtain ⟨W1, hW1⟩ : ∃ W1, (w.alloc (.cells #[.int .i32 k0, .int .i64 k1] 30)).alloc (.cells #[nilP, nilP, nilP, nilP, nilP, nilP, nilP, nilP] 73) = W1 := ⟨_, rfl⟩
  obtain ⟨kb, hkb⟩ : ∃ x, w.heap.size = x := ⟨_, rfl⟩
  obtain ⟨rb, hrb⟩ : ∃ x, kb + 1 = x := ⟨_, rfl⟩
  have F0 := ahead_start h k0 k1 hW1
  rw [hkb, hrb] at F0
  obtain ⟨_, _, h1, _, _⟩ := F0 W1 (Below.refl _ _)
  obtain ⟨N, hm, hlk⟩ := h1.mem
  have hl0 : lstP hd 0 L = n.p := last_node h.ok hAn
  have hn : n ∈ L := by rw [hAn]; simp
  obtain ⟨c, hc⟩ : ∃ c : Int, (L.length : Int) = c := ⟨_, rfl⟩
  have hc0 : decide (0 < c) = true := by rw [← hc, hAn, decide_eq_true_eq]; simp
  have hc1 : decide (c > 0) = true := hc0
  have m9 : W1.cell? ⟨sb, 9, none⟩ = some (.int .i64 c) := by rw [← hc]; exact cell_at hm.sk
  have m1 : W1.cell? ⟨sb, 1, none⟩ = some (PN n.p) := by rw [← hl0]; exact hm.last (lev := 0) (by decide)
  have hn85 := hm.node n hn
  have HC : Hid (∀ w' : World, Below W1.heap.size W1 w' → w'.cell? ⟨sb, 9, none⟩ = some (.int .i64 c) ∧ w'.cell? ⟨sb, 1, none⟩ = some (PN n.p) ∧ w'.cell? ⟨n.p, 0, none⟩ = some (.int .i32 n.k.1) ∧ w'.cell? ⟨n.p, 1, none⟩ = some (.int .i64 n.k.2) ∧ w'.cell? ⟨kb, 0, none⟩ = some (.int .i32 k0) ∧ w'.cell? ⟨kb, 1, none⟩ = some (.int .i64 k1)) := fun w' hb => by
    have up : ∀ {p : Addr} {v : Value}, W1.cell? p = some v → w'.cell? p = some v := fun {p v} h => (hb.cell (p := p) (World.block_lt_of_cell? _ _ h)).trans h
    exact ⟨up m9, up m1, up (cell_at hn85), up (cell_at hn85), (F0 w' hb).2.2.2.1, (F0 w' hb).2.2.2.2⟩
  have HF := hide F0
  have HBL := hide (below_any n.k.1 n.k.2 k0 k1)
  rw [hkb]
  clear h h1 hm hlk F0 hl0 hn hc hn85 hAn
  rw [show decide (ltK (n.k.1, n.k.2) (k0, k1)) = false from decide_eq_false hlt] at HBL
  go_enter Tryd.func56, Tryd.ntmps56
  go_wp2
  clear hW1
  refine wp_region_held_drew (S := fun w' => w'.cell? ⟨sb, 9, none⟩ = some (.int .i64 c) ∧ w'.cell? ⟨sb, 1, none⟩ = some (PN n.p) ∧ w'.cell? ⟨n.p, 0, none⟩ = some (.int .i32 n.k.1) ∧ w'.cell? ⟨n.p, 1, none⟩ = some (.int .i64 n.k.2) ∧ w'.cell? ⟨kb, 0, none⟩ = some (.int .i32 k0) ∧ w'.cell? ⟨kb, 1, none⟩ = some (.int .i64 k1)) (by kernel_rfl) (unhide HC _ (Below.refl _ _).drew) (fun hHeld => ?_)
  refine wpAnyH_take (i := 0) (v := ?v36x0) rfl (by kernel_rfl) (by kernel_rfl) (by kernel_rfl) (fun _ _ _ h => h) (Or.inl ⟨by rfl, ?hy36x0⟩) (by assumption) ?rest36x0
  case hy36x0 => intro w hSw; obtain ⟨s1, s2, s3, s4, s5, s6⟩ := hSw; go_simp <;> with_reducible rfl
  simp only [Act.put, List.getElem_toArray, List.getElem_cons_zero, List.setIfInBounds_toArray, List.set_cons_zero, List.set_cons_succ]
  refine wpAnyH_take (i := 1) (v := ?v37x1) rfl (by kernel_rfl) (by kernel_rfl) (by kernel_rfl) (fun _ _ _ h => h) (Or.inl ⟨by rfl, ?hy37x1⟩) (by assumption) ?rest37x1
  case hy37x1 => intro w hSw; obtain ⟨s1, s2, s3, s4, s5, s6⟩ := hSw; go_simp <;> with_reducible rfl
  simp only [Act.put, List.getElem_toArray, List.getElem_cons_zero, List.getElem_cons_succ, List.setIfInBounds_toArray, List.set_cons_zero, List.set_cons_succ]
  refine wpAnyH_take (i := 2) (v := ?v38x2) rfl (by kernel_rfl) (by kernel_rfl) (by kernel_rfl) (fun _ _ _ h => h) (Or.inl ⟨by rfl, ?hy38x2⟩) (by assumption) ?rest38x2
  case hy38x2 => intro w hSw; obtain ⟨s1, s2, s3, s4, s5, s6⟩ := hSw; go_simp <;> with_reducible rfl
  simp only [Act.put, List.getElem_toArray, List.getElem_cons_zero, List.getElem_cons_succ, List.setIfInBounds_toArray, List.set_cons_zero, List.set_cons_succ]
  refine wpAnyH_take (i := 3) (v := ?v39x3) rfl (by kernel_rfl) (by kernel_rfl) (by kernel_rfl) (fun _ _ _ h => h) (Or.inl ⟨by rfl, ?hy39x3⟩) (by assumption) ?rest39x3
  case hy39x3 => intro w hSw; obtain ⟨s1, s2, s3, s4, s5, s6⟩ := hSw; go_simp <;> with_reducible rfl
  simp only [Act.put, List.getElem_toArray, List.getElem_cons_zero, List.getElem_cons_succ, List.setIfInBounds_toArray, List.set_cons_zero, List.set_cons_succ]
  refine wpAnyH_take (i := 4) (v := (.bool true)) rfl (by kernel_rfl) (by kernel_rfl) (by kernel_rfl) (fun _ _ _ h => h) (Or.inl ⟨by rfl, ?hy40x4⟩) (by assumption) ?rest40x4
  case hy40x4 => intro w hSw; obtain ⟨s1, s2, s3, s4, s5, s6⟩ := hSw; go_simp <;> with_reducible rfl
  simp only [Act.put, List.getElem_toArray, List.getElem_cons_zero, List.getElem_cons_succ, List.setIfInBounds_toArray, List.set_cons_zero, List.set_cons_succ]
  refine wpAnyH_take (i := 5) (v := ?v41x5) rfl (by kernel_rfl) (by kernel_rfl) (by kernel_rfl) (fun _ _ _ h => h) (Or.inl ⟨by rfl, ?hy41x5⟩) (by assumption) ?rest41x5
  case hy41x5 => intro w hSw; obtain ⟨s1, s2, s3, s4, s5, s6⟩ := hSw; go_simp <;> with_reducible rfl
  simp only [Act.put, List.getElem_toArray, List.getElem_cons_zero, List.getElem_cons_succ, List.setIfInBounds_toArray, List.set_cons_zero, List.set_cons_succ]
  refine wpAnyH_take (i := 6) (v := ?v42x6) rfl (by kernel_rfl) (by kernel_rfl) (by kernel_rfl) (fun _ _ _ h => h) (Or.inl ⟨by rfl, ?hy42x6⟩) (by assumption) ?rest42x6
  case hy42x6 => intro w hSw; obtain ⟨s1, s2, s3, s4, s5, s6⟩ := hSw; go_simp <;> with_reducible rfl
  simp only [Act.put, List.getElem_toArray, List.getElem_cons_zero, List.getElem_cons_succ, List.setIfInBounds_toArray, List.set_cons_zero, List.set_cons_succ]
  refine wpAnyH_take (i := 7) (v := ?v43x7) rfl (by kernel_rfl) (by kernel_rfl) (by kernel_rfl) (fun _ _ _ h => h) (Or.inl ⟨by rfl, ?hy43x7⟩) (by assumption) ?rest43x7
  case hy43x7 => intro w hSw; obtain ⟨s1, s2, s3, s4, s5, s6⟩ := hSw; go_simp <;> with_reducible rfl
  simp only [Act.put, List.getElem_toArray, List.getElem_cons_zero, List.getElem_cons_succ, List.setIfInBounds_toArray, List.set_cons_zero, List.set_cons_succ]
  refine wpAnyH_take (i := 8) (v := ?v44x8) rfl (by kernel_rfl) (by kernel_rfl) (by kernel_rfl) (fun _ _ _ h => h) (Or.inl ⟨by rfl, ?hy44x8⟩) (by assumption) ?rest44x8
  case hy44x8 => intro w hSw; obtain ⟨s1, s2, s3, s4, s5, s6⟩ := hSw; go_simp <;> with_reducible rfl
  simp only [Act.put, List.getElem_toArray, List.getElem_cons_zero, List.getElem_cons_succ, List.setIfInBounds_toArray, List.set_cons_zero, List.set_cons_succ]
  refine wpAnyH_take (i := 9) (v := ?v45x9) rfl (by kernel_rfl) (by kernel_rfl) (by kernel_rfl) (fun _ _ _ h => h) (Or.inl ⟨by rfl, ?hy45x9⟩) (by assumption) ?rest45x9
  case hy45x9 => intro w hSw; obtain ⟨s1, s2, s3, s4, s5, s6⟩ := hSw; go_simp <;> with_reducible rfl
  simp only [Act.put, List.getElem_toArray, List.getElem_cons_zero, List.getElem_cons_succ, List.setIfInBounds_toArray, List.set_cons_zero, List.set_cons_succ]
  refine wpAnyH_take (i := 10) (v := ?v46x10) rfl (by kernel_rfl) (by kernel_rfl) (by kernel_rfl) (fun _ _ _ h => h) (Or.inl ⟨by rfl, ?hy46x10⟩) (by assumption) ?rest46x10
  case hy46x10 => intro w hSw; obtain ⟨s1, s2, s3, s4, s5, s6⟩ := hSw; go_simp <;> with_reducible rfl
  simp only [Act.put, List.getElem_toArray, List.getElem_cons_zero, List.getElem_cons_succ, List.setIfInBounds_toArray, List.set_cons_zero, List.set_cons_succ]
  refine wpAnyH_take (i := 11) (v := ?v47x11) rfl (by kernel_rfl) (by kernel_rfl) (by kernel_rfl) (fun _ _ _ h => h) (Or.inl ⟨by rfl, ?hy47x11⟩) (by assumption) ?rest47x11
  case hy47x11 => intro w hSw; obtain ⟨s1, s2, s3, s4, s5, s6⟩ := hSw; go_simp <;> with_reducible rfl
  simp only [Act.put, List.getElem_toArray, List.getElem_cons_zero, List.getElem_cons_succ, List.setIfInBounds_toArray, List.set_cons_zero, List.set_cons_succ]
  refine wpAnyH_take (i := 12) (v := ?v48x12) rfl (by kernel_rfl) (by kernel_rfl) (by kernel_rfl) (fun _ _ _ h => h) (Or.inl ⟨by rfl, ?hy48x12⟩) (by assumption) ?rest48x12
  case hy48x12 => intro w hSw; obtain ⟨s1, s2, s3, s4, s5, s6⟩ := hSw; go_simp <;> with_reducible rfl
  simp only [Act.put, List.getElem_toArray, List.getElem_cons_zero, List.getElem_cons_succ, List.setIfInBounds_toArray, List.set_cons_zero, List.set_cons_succ]
  refine wpAnyH_take (i := 13) (v := ?v49x13) rfl (by kernel_rfl) (by kernel_rfl) (by kernel_rfl) (fun _ _ _ h => h) (Or.inl ⟨by rfl, ?hy49x13⟩) (by assumption) ?rest49x13
  case hy49x13 => intro w hSw; obtain ⟨s1, s2, s3, s4, s5, s6⟩ := hSw; go_simp <;> with_reducible rfl
  simp only [Act.put, List.getElem_toArray, List.getElem_cons_zero, List.getElem_cons_succ, List.setIfInBounds_toArray, List.set_cons_zero, List.set_cons_succ]
  refine wpAnyH_take (i := 14) (v := ?v50x14) rfl (by kernel_rfl) (by kernel_rfl) (by kernel_rfl) (fun _ _ _ h => h) (Or.inl ⟨by rfl, ?hy50x14⟩) (by assumption) ?rest50x14
  case hy50x14 => intro w hSw; obtain ⟨s1, s2, s3, s4, s5, s6⟩ := hSw; go_simp <;> with_reducible rfl
  simp only [Act.put, List.getElem_toArray, List.getElem_cons_zero, List.getElem_cons_succ, List.setIfInBounds_toArray, List.set_cons_zero, List.set_cons_succ]
  refine wpAnyH_take (i := 15) (v := ?v51x15) rfl (by kernel_rfl) (by kernel_rfl) (by kernel_rfl) (fun _ _ _ h => h) (Or.inl ⟨by rfl, ?hy51x15⟩) (by assumption) ?rest51x15
  case hy51x15 => intro w hSw; obtain ⟨s1, s2, s3, s4, s5, s6⟩ := hSw; go_simp <;> with_reducible rfl
  simp only [Act.put, List.getElem_toArray, List.getElem_cons_zero, List.getElem_cons_succ, List.setIfInBounds_toArray, List.set_cons_zero, List.set_cons_succ]
  refine wpAnyH_ready (rs := [16]) (by kernel_rfl) (by simp) ?_
  refine AllReadyH.cons rfl (fun K hK => ?_) AllReadyH.nil
  go_simp
  refine (unhide HBL _).mono ?_
  rintro e wq ⟨rfl, hg⟩
  refine hK _ _ (unhide HC _ ((Below.refl _ _).drew.trans hg.below)) ?_
  clear hK hHeld
  have HQ := hide ((Below.refl W1.heap.size W1).drew.trans hg.below)
  clear hg
  intro hHeld
  refine wpAnyH_take (i := 17) (v := (.bool false)) rfl (by kernel_rfl) (by kernel_rfl) (by kernel_rfl) (fun _ _ _ h => h) (Or.inl ⟨by rfl, ?hy52x17⟩) (by assumption) ?rest52x17
  case hy52x17 => intro w hSw; obtain ⟨s1, s2, s3, s4, s5, s6⟩ := hSw; go_simp <;> with_reducible rfl
  simp only [Act.put, List.getElem_toArray, List.getElem_cons_zero, List.getElem_cons_succ, List.setIfInBounds_toArray, List.set_cons_zero, List.set_cons_succ]
  refine wpAnyH_done (by kernel_rfl) ?_ _
  clear m9 m1 hc0 hc1 hHeld
  obtain ⟨_, _, hs2, hk0, hk1⟩ := unhide HF wq (unhide HQ)
  have HS := hide (search_any hs2 k0 k1)
  rw [unhide HX] at HS
  have HQ2 := hide (unhide HQ)
  clear hs2
  go_wp2_with fail
  refine (unhide HS).mono ?_
  rintro e w3 ⟨rfl, hb3⟩
  obtain ⟨hr3, hbw3, _⟩ := unhide HF w3 ((unhide HQ2).trans (hb3.mono (unhide HQ2).size))
  have hlt3 : rb < w3.heap.size := (Array.getElem?_eq_some_iff.1 hr3).1
  have r0 : ∀ o : Obj, (w3.alloc o).cell? ⟨rb, 0, none⟩ = some nilP := fun _ => cell_old (cell_at hr3)
  have f0 : ∀ o : Obj, (w3.alloc o).frozen? ⟨rb, 0, none⟩ = false := fun o => (World.frozen?_of_block (w := w3) (a := ⟨rb, 0, none⟩) (Below.heap_alloc _ _ _ hlt3)).trans (frozen_of_heap hr3)
  have r1 : ∀ o : Obj, (w3.alloc o).cell? ⟨rb, 1, none⟩ = some nilP := fun _ => cell_old (cell_at hr3)
  have f1 : ∀ o : Obj, (w3.alloc o).frozen? ⟨rb, 1, none⟩ = false := fun o => (World.frozen?_of_block (w := w3) (a := ⟨rb, 1, none⟩) (Below.heap_alloc _ _ _ hlt3)).trans (frozen_of_heap hr3)
  have r2 : ∀ o : Obj, (w3.alloc o).cell? ⟨rb, 2, none⟩ = some nilP := fun _ => cell_old (cell_at hr3)
  have f2 : ∀ o : Obj, (w3.alloc o).frozen? ⟨rb, 2, none⟩ = false := fun o => (World.frozen?_of_block (w := w3) (a := ⟨rb, 2, none⟩) (Below.heap_alloc _ _ _ hlt3)).trans (frozen_of_heap hr3)
  have r3 : ∀ o : Obj, (w3.alloc o).cell? ⟨rb, 3, none⟩ = some nilP := fun _ => cell_old (cell_at hr3)
  have f3 : ∀ o : Obj, (w3.alloc o).frozen? ⟨rb, 3, none⟩ = false := fun o => (World.frozen?_of_block (w := w3) (a := ⟨rb, 3, none⟩) (Below.heap_alloc _ _ _ hlt3)).trans (frozen_of_heap hr3)
  have r4 : ∀ o : Obj, (w3.alloc o).cell? ⟨rb, 4, none⟩ = some nilP := fun _ => cell_old (cell_at hr3)
  have f4 : ∀ o : Obj, (w3.alloc o).frozen? ⟨rb, 4, none⟩ = false := fun o => (World.frozen?_of_block (w := w3) (a := ⟨rb, 4, none⟩) (Below.heap_alloc _ _ _ hlt3)).trans (frozen_of_heap hr3)
  have r5 : ∀ o : Obj, (w3.alloc o).cell? ⟨rb, 5, none⟩ = some nilP := fun _ => cell_old (cell_at hr3)
  have f5 : ∀ o : Obj, (w3.alloc o).frozen? ⟨rb, 5, none⟩ = false := fun o => (World.frozen?_of_block (w := w3) (a := ⟨rb, 5, none⟩) (Below.heap_alloc _ _ _ hlt3)).trans (frozen_of_heap hr3)
  have r6 : ∀ o : Obj, (w3.alloc o).cell? ⟨rb, 6, none⟩ = some nilP := fun _ => cell_old (cell_at hr3)
  have f6 : ∀ o : Obj, (w3.alloc o).frozen? ⟨rb, 6, none⟩ = false := fun o => (World.frozen?_of_block (w := w3) (a := ⟨rb, 6, none⟩) (Below.heap_alloc _ _ _ hlt3)).trans (frozen_of_heap hr3)
  have r7 : ∀ o : Obj, (w3.alloc o).cell? ⟨rb, 7, none⟩ = some nilP := fun _ => cell_old (cell_at hr3)
  have f7 : ∀ o : Obj, (w3.alloc o).frozen? ⟨rb, 7, none⟩ = false := fun o => (World.frozen?_of_block (w := w3) (a := ⟨rb, 7, none⟩) (Below.heap_alloc _ _ _ hlt3)).trans (frozen_of_heap hr3)
  have HRR := hide ((Below.heap_alloc w3 (.cells #[PN (lstP hd 0 X), PN (lstP hd 1 X), PN (lstP hd 2 X), PN (lstP hd 3 X), PN (lstP hd 4 X), PN (lstP hd 5 X), PN (lstP hd 6 X), PN (lstP hd 7 X)] 73) rb hlt3).trans hr3)
  have HBB := hide ((hbw3.alloc (by have := hbw3.size; omega) (.cells #[PN (lstP hd 0 X), PN (lstP hd 1 X), PN (lstP hd 2 X), PN (lstP hd 3 X), PN (lstP hd 4 X), PN (lstP hd 5 X), PN (lstP hd 6 X), PN (lstP hd 7 X)] 73)))
  clear hr3 hbw3 hb3 hlt3
  simp only [arr8]
  go_wp2
  obtain ⟨w4, hw4⟩ : ∃ w4, w3.alloc (.cells #[PN (lstP hd 0 X), PN (lstP hd 1 X), PN (lstP hd 2 X), PN (lstP hd 3 X), PN (lstP hd 4 X), PN (lstP hd 5 X), PN (lstP hd 6 X), PN (lstP hd 7 X)] 73) = w4 := ⟨_, rfl⟩
  rw [hw4] at HRR HBB ⊢
  clear hw4 r0 r1 r2 r3 r4 r5 r6 r7 f0 f1 f2 f3 f4 f5 f6 f7
  have hrow := setrow8 (g := fun lev => PN (lstP hd lev X)) (unhide HRR)
  have hup := updrow8 (w := w4) (b := rb) (S := fun k => k = rb) (N := w4.heap.size) (.inl rfl) (fun lev => PN (lstP hd lev X))
  obtain ⟨W9, hW9⟩ : ∃ W9, ((((((((w4.setCell ⟨rb, 0, none⟩ (PN (lstP hd 0 X))).setCell ⟨rb, 1, none⟩ (PN (lstP hd 1 X))).setCell ⟨rb, 2, none⟩ (PN (lstP hd 2 X))).setCell ⟨rb, 3, none⟩ (PN (lstP hd 3 X))).setCell ⟨rb, 4, none⟩ (PN (lstP hd 4 X))).setCell ⟨rb, 5, none⟩ (PN (lstP hd 5 X))).setCell ⟨rb, 6, none⟩ (PN (lstP hd 6 X))).setCell ⟨rb, 7, none⟩ (PN (lstP hd 7 X))) = W9 := ⟨_, rfl⟩
  rw [hW9] at hrow hup
  first | rw [hW9] | skip
  clear hW9
  refine bodyPost_ret (results_cell_row rfl _ _ rb 73 _ (0, 0) _ rfl hrow Tryd.underlying73 rfl (by kernel_rfl)) rfl ?_
  have hbb := unhide HBB
  exact ⟨rfl, hbb.trans ⟨hup.os, hup.tape, hup.output, hup.size, fun k hk => hup.block k (by have := hbb.size; omega) (by omega)⟩⟩

theorem ahead_any {w : World} {b0 sb hd : Nat} {L : List Nd} {luck : Int} (h : Sk w b0 sb hd L luck) (k0 k1 : Int) :
    Calls Tryd.prog 56 #[PN sb, .agg #[.int .i32 k0, .int .i64 k1]] w fun e w' => e = .returned (.agg (arr8 fun lev => PN (lstP hd lev (lo (k0, k1) L)))) ∧ Below w.heap.size w w' := by
  rcases List.eq_nil_or_concat L with rfl | ⟨A, n, hAn⟩
  · exact ahead_nil h k0 k1 _ rfl
  · have hAn : L = A ++ [n] := by rw [hAn]; simp
    by_cases hlt : ltK n.k (k0, k1)
    · rw [(h.rise.all_lo hAn hlt).1]
      exact ahead_end h k0 k1 hAn hlt
    · exact ahead_mid h k0 k1 hAn hlt _ rfl
end Go.Proofs.YtdcmkapfcmibeaaDoor
