/- keys and told of what tells nothing. -/
import Derived.Test.YtdcmkapfcmibeaaDoorMH
import Derived.Test.YtdcmkapfcmibeaaDoorLL
namespace Go.Proofs.YtdcmkapfcmibeaaDoor
open Go.RowKit Go.Shelf
attribute [local go_sem] Oper.semAt_some
set_option maxRecDepth 100000

set_option maxHeartbeats 1000000 in
theorem keys_none {w : World} (bx : Nat) (hc : w.cell? ⟨bx, 0, none⟩ = some (.slice none 0 0)) : Calls Tryd.prog 31 #[.func (.func 78) #[] #[PN bx], .slice none 0 0] w fun e w' => e = .returned (.bool true) ∧ Below w.heap.size w w' := by
  obtain ⟨n0, hn0⟩ : ∃ x, w.heap.size = x := ⟨_, rfl⟩
  obtain ⟨W1, hW1⟩ : ∃ W, (((w.alloc (.cells #[.slice none 0 0] 55)).alloc (.cells #[.bool false] 4)).alloc (.cells #[.int .i64 0] 3)) = W := ⟨_, rfl⟩
  have hb : Below n0 w W1 := by rw [← hW1, ← hn0]; exact ((((Below.refl _ _).alloc (Nat.le_refl _) _).alloc (by simp) _).alloc (by simp; omega) _)
  have hs1 : W1.heap.size = n0 + 3 := by rw [← hW1, ← hn0]; simp
  have k0 : W1.heap[n0]? = some (.cells #[.slice none 0 0] 55) := by rw [← hW1]; rw [Below.heap_alloc _ _ _ (by simp; omega)]; rw [Below.heap_alloc _ _ _ (by simp; omega)]; have := World.alloc_heap_new (w) (.cells #[.slice none 0 0] 55); rw [hn0] at this; exact this
  have k1 : W1.heap[n0 + 1]? = some (.cells #[.bool false] 4) := by rw [← hW1]; rw [Below.heap_alloc _ _ _ (by simp; omega)]; have := World.alloc_heap_new ((w.alloc (.cells #[.slice none 0 0] 55))) (.cells #[.bool false] 4); rw [World.size_alloc] at this; rw [hn0] at this; exact this
  have k2 : W1.heap[n0 + 1 + 1]? = some (.cells #[.int .i64 0] 3) := by rw [← hW1]; have := World.alloc_heap_new (((w.alloc (.cells #[.slice none 0 0] 55)).alloc (.cells #[.bool false] 4))) (.cells #[.int .i64 0] 3); rw [World.size_alloc, World.size_alloc] at this; rw [hn0] at this; exact this
  have hc1 : W1.cell? ⟨bx, 0, none⟩ = some (.slice none 0 0) := (hb.cell (p := ⟨bx, 0, none⟩) (by rw [← hn0]; exact World.block_lt_of_cell? w _ hc)).trans hc
  rw [hn0]
  refine (callsIn_wide (n := 3)).1 ?_
  refine callsIn_of_wp_marks Tryd.func31 rfl trivial ?_ rfl
  simp only [Tryd.ntmps31, List.size_toArray, List.length_cons, List.length_nil, Nat.reduceAdd, Nat.reduceSub, Array.replicate_succ, Array.replicate_zero, List.push_toArray, List.append_toArray, List.nil_append, List.cons_append]
  have HK := hide (And.intro k0 (And.intro k1 k2))
  have HC := hide (And.intro hc1 (And.intro hb hs1))
  clear hc hc1 hb hs1 k0 k1 k2
  have HW1 := hide hW1
  clear hW1
  gi_wp2
  try rw [hn0]
  rw [unhide HW1]
  clear HW1
  obtain ⟨hc1, hb, hs1⟩ := unhide HC
  obtain ⟨k0, k1, k2⟩ := unhide HK
  obtain ⟨gb, hgb, hseq⟩ := vk_seq (3 - 1) bx [] W1 _ hc1 (SeesL.nil _) (by simp)
  refine wpIn_range_as rfl (by decide) (gf := 78) (lb := #[PN bx]) rfl trivial (enters_of Tryd.func78 (by kernel_rfl) rfl) hseq
    keepb_t (fun W o o' => keepb_put (fun c => by have : W1.heap.size + 1 = gb := c; omega) W o o') (Below.refl _ _) (fun _ => by rfl)
    (fun _ W => ((W.heap[n0]? = some (.cells #[.slice none 0 0] 55) ∧ W.heap[n0 + 1]? = some (.cells #[.bool false] 4)) ∧ W.heap[n0 + 1 + 1]? = some (.cells #[.int .i64 0] 3)) ∧ Below n0 w W) (fun _ _ _ => False)
    (OwnFrom.and (OwnFrom.and (OwnFrom.and (ownFrom_blk _ _ (fun _ => .cells #[.slice none 0 0] 55) (by omega)) (ownFrom_blk _ _ (fun _ => .cells #[.bool false] 4) (by omega))) (ownFrom_blk _ _ (fun _ => .cells #[.int .i64 0] 3) (by omega))) (ownFrom_below (by omega) (by omega)))
    (fun _ => ownFrom_pure _ _) ⟨⟨⟨k0, k1⟩, k2⟩, hb⟩
    (fun x W => W.alloc (.cells #[.int .i32 x.1, .int .i64 x.2] 30)) (fun x q => { tmps := #[.func (.func 78) #[] #[PN bx], .slice none 0 0, undef, PN n0, PN (n0 + 1), PN (n0 + 1 + 1), PN q, .func (.func 78) #[] #[PN bx], .agg #[.int .i32 x.1, .int .i64 x.2], undef, undef, undef, undef, undef, undef, undef, undef, undef, undef, undef, undef, undef, undef, undef, undef, undef, undef], defers := [] }) (fun _ _ _ _ => False) (fun _ _ => ownFrom_pure _ _)
    (fun x W => (Below.refl _ _).alloc (Nat.le_refl _) _) (fun x W hs => ⟨by simp, fun k hk => Below.heap_alloc _ _ _ (by have : k = gb := hk; omega)⟩)
    (fun pre x W _ hOk _ => by obtain ⟨r, e⟩ := hOk; simp at e) ?assign ?body ?done ?stop
  case assign =>
    intro l x W K hK
    unfold encvk
    gi_wp2
    exact hK
  case body =>
    intro l pre x q W hI _
    exact hI.elim
  case stop =>
    intro D c pre W hD hX hK
    exact hX.elim
  case done =>
    intro D xs W hD hxs hI hK
    obtain ⟨⟨⟨kw, kr⟩, kn⟩, hBW⟩ := hI
    have c0 : W.cell? ⟨n0 + 1 + 1, 0, none⟩ = some (.int .i64 0) := cell_at kn
    have c1 : W.cell? ⟨n0, 0, none⟩ = some (.slice none 0 0) := cell_at kw
    have c2 : W.cell? ⟨n0 + 1, 0, none⟩ = some (.bool false) := cell_at kr
    have f2 : W.frozen? ⟨n0 + 1, 0, none⟩ = false := frozen_of_heap kr
    have hD' : n0 + 3 ≤ D := by omega
    have HM : Hid (Marks [{ target := .collected D, args := #[] }] W) := (Marks.nil W).cons hK (fun c => by cases c)
    have HB := hide (And.intro hBW kr)
    clear hK hxs hD hBW kw kr kn hseq hb hs1 hc1 k0 k1 k2 HK HC hgb
    gi_wp2
    obtain ⟨hBW, kr⟩ := unhide HB
    have hrl := (Array.getElem?_eq_some_iff.1 kr).1
    have hr9 : (W.setCell ⟨n0 + 1, 0, none⟩ (.bool true)).heap[n0 + 1]? = some (.cells #[.bool true] 4) := box_set _ kr
    have hMk : Marks [{ target := .collected D, args := #[] }] (W.setCell ⟨n0 + 1, 0, none⟩ (.bool true)) := (unhide HM).keep fun k hk => Below.heap_setCell _ _ _ _ (by
      rcases List.mem_cons.1 hk with e | e
      · simp only [Deferred.mk.injEq, Target.collected.injEq, and_true] at e; show k ≠ n0 + 1; omega
      · cases e)
    refine leave_marks (w := W.setCell ⟨n0 + 1, 0, none⟩ (.bool true)) hMk fun w' hw => ?_
    have hdm : ∀ k, isMark [{ target := .collected D, args := #[] }] k → n0 + 3 ≤ k := fun k c => by
      rcases List.mem_cons.1 c with e | e
      · simp only [Deferred.mk.injEq, Target.collected.injEq, and_true] at e; omega
      · cases e
    have sz : (W.setCell ⟨n0 + 1, 0, none⟩ (.bool true)).heap.size = W.heap.size := by simp [World.setCell]
    have hc9 : w'.cell? ⟨n0 + 1, 0, none⟩ = some (.bool true) := cell_at ((hw.block (n0 + 1) (by omega) fun c => by have := hdm _ c; omega).trans hr9)
    refine ⟨.bool true, by simp [results, Tryd.results31, go_sem, hc9], rfl, (hBW.setCell (p := ⟨n0 + 1, 0, none⟩) (by show n0 ≤ n0 + 1; omega) _).trans ⟨hw.os, hw.tape, hw.output, hw.size, fun k hk => hw.block k (by have := hBW.size; omega) fun c => by have := hdm k c; omega⟩⟩


set_option maxHeartbeats 1000000 in
theorem told_none {w : World} (bx : Nat) (hc : w.cell? ⟨bx, 0, none⟩ = some (.slice none 0 0)) (stop : Int) : Calls Tryd.prog 32 #[.func (.func 79) #[] #[PN bx], .slice none 0 0, .int .i64 stop] w fun e w' => e = .returned (.bool true) ∧ Below w.heap.size w w' := by
  obtain ⟨n0, hn0⟩ : ∃ x, w.heap.size = x := ⟨_, rfl⟩
  obtain ⟨W1, hW1⟩ : ∃ W, ((((w.alloc (.cells #[.slice none 0 0] 63)).alloc (.cells #[.int .i64 stop] 3)).alloc (.cells #[.bool false] 4)).alloc (.cells #[.int .i64 0] 3)) = W := ⟨_, rfl⟩
  have hb : Below n0 w W1 := by rw [← hW1, ← hn0]; exact (((((Below.refl _ _).alloc (Nat.le_refl _) _).alloc (by simp) _).alloc (by simp; omega) _).alloc (by simp; omega) _)
  have hs1 : W1.heap.size = n0 + 4 := by rw [← hW1, ← hn0]; simp
  have k0 : W1.heap[n0]? = some (.cells #[.slice none 0 0] 63) := by rw [← hW1]; rw [Below.heap_alloc _ _ _ (by simp; omega)]; rw [Below.heap_alloc _ _ _ (by simp; omega)]; rw [Below.heap_alloc _ _ _ (by simp; omega)]; have := World.alloc_heap_new (w) (.cells #[.slice none 0 0] 63); rw [hn0] at this; exact this
  have k1 : W1.heap[n0 + 1]? = some (.cells #[.int .i64 stop] 3) := by rw [← hW1]; rw [Below.heap_alloc _ _ _ (by simp; omega)]; rw [Below.heap_alloc _ _ _ (by simp; omega)]; have := World.alloc_heap_new ((w.alloc (.cells #[.slice none 0 0] 63))) (.cells #[.int .i64 stop] 3); rw [World.size_alloc] at this; rw [hn0] at this; exact this
  have k2 : W1.heap[n0 + 1 + 1]? = some (.cells #[.bool false] 4) := by rw [← hW1]; rw [Below.heap_alloc _ _ _ (by simp; omega)]; have := World.alloc_heap_new (((w.alloc (.cells #[.slice none 0 0] 63)).alloc (.cells #[.int .i64 stop] 3))) (.cells #[.bool false] 4); rw [World.size_alloc, World.size_alloc] at this; rw [hn0] at this; exact this
  have k3 : W1.heap[n0 + 1 + 1 + 1]? = some (.cells #[.int .i64 0] 3) := by rw [← hW1]; have := World.alloc_heap_new ((((w.alloc (.cells #[.slice none 0 0] 63)).alloc (.cells #[.int .i64 stop] 3)).alloc (.cells #[.bool false] 4))) (.cells #[.int .i64 0] 3); rw [World.size_alloc, World.size_alloc, World.size_alloc] at this; rw [hn0] at this; exact this
  have hc1 : W1.cell? ⟨bx, 0, none⟩ = some (.slice none 0 0) := (hb.cell (p := ⟨bx, 0, none⟩) (by rw [← hn0]; exact World.block_lt_of_cell? w _ hc)).trans hc
  rw [hn0]
  refine (callsIn_wide (n := 3)).1 ?_
  refine callsIn_of_wp_marks Tryd.func32 rfl trivial ?_ rfl
  simp only [Tryd.ntmps32, List.size_toArray, List.length_cons, List.length_nil, Nat.reduceAdd, Nat.reduceSub, Array.replicate_succ, Array.replicate_zero, List.push_toArray, List.append_toArray, List.nil_append, List.cons_append]
  have HK := hide (And.intro k0 (And.intro k1 (And.intro k2 k3)))
  have HC := hide (And.intro hc1 (And.intro hb hs1))
  clear hc hc1 hb hs1 k0 k1 k2 k3
  have HW1 := hide hW1
  clear hW1
  gi_wp2
  try rw [hn0]
  rw [unhide HW1]
  clear HW1
  obtain ⟨hc1, hb, hs1⟩ := unhide HC
  obtain ⟨k0, k1, k2, k3⟩ := unhide HK
  obtain ⟨gb, hgb, hseq⟩ := vc_seq (3 - 1) bx [] W1 _ hc1 (SeesL.nil _) (by simp)
  refine wpIn_range_as rfl (by decide) (gf := 79) (lb := #[PN bx]) rfl trivial (enters_of Tryd.func79 (by kernel_rfl) rfl) hseq
    keepb_t (fun W o o' => keepb_put (fun c => by have : W1.heap.size + 1 = gb := c; omega) W o o') (Below.refl _ _) (fun _ => by rfl)
    (fun _ W => ((W.heap[n0]? = some (.cells #[.slice none 0 0] 63) ∧ W.heap[n0 + 1 + 1]? = some (.cells #[.bool false] 4)) ∧ W.heap[n0 + 1 + 1 + 1]? = some (.cells #[.int .i64 0] 3)) ∧ Below n0 w W) (fun _ _ _ => False)
    (OwnFrom.and (OwnFrom.and (OwnFrom.and (ownFrom_blk _ _ (fun _ => .cells #[.slice none 0 0] 63) (by omega)) (ownFrom_blk _ _ (fun _ => .cells #[.bool false] 4) (by omega))) (ownFrom_blk _ _ (fun _ => .cells #[.int .i64 0] 3) (by omega))) (ownFrom_below (by omega) (by omega)))
    (fun _ => ownFrom_pure _ _) ⟨⟨⟨k0, k2⟩, k3⟩, hb⟩
    (fun x W => W.alloc (.cells #[.int .i32 x.1.1, .int .i64 x.1.2, .int .i64 x.2.1, .int .i64 x.2.2] 32)) (fun x q => { tmps := #[.func (.func 79) #[] #[PN bx], .slice none 0 0, .int .i64 stop, undef, PN n0, PN (n0 + 1), PN (n0 + 1 + 1), PN (n0 + 1 + 1 + 1), PN q, .func (.func 79) #[] #[PN bx], .agg #[.int .i32 x.1.1, .int .i64 x.1.2, .int .i64 x.2.1, .int .i64 x.2.2], undef, undef, undef, undef, undef, undef, undef, undef, undef, undef, undef, undef, undef, undef, undef, undef, undef, undef, undef, undef, undef], defers := [] }) (fun _ _ _ _ => False) (fun _ _ => ownFrom_pure _ _)
    (fun x W => (Below.refl _ _).alloc (Nat.le_refl _) _) (fun x W hs => ⟨by simp, fun k hk => Below.heap_alloc _ _ _ (by have : k = gb := hk; omega)⟩)
    (fun pre x W _ hOk _ => by obtain ⟨r, e⟩ := hOk; simp at e) ?assign ?body ?done ?stop
  case assign =>
    intro l x W K hK
    unfold encvc
    gi_wp2
    exact hK
  case body =>
    intro l pre x q W hI _
    exact hI.elim
  case stop =>
    intro D c pre W hD hX hK
    exact hX.elim
  case done =>
    intro D xs W hD hxs hI hK
    obtain ⟨⟨⟨kw, kr⟩, kn⟩, hBW⟩ := hI
    have c0 : W.cell? ⟨n0 + 1 + 1 + 1, 0, none⟩ = some (.int .i64 0) := cell_at kn
    have c1 : W.cell? ⟨n0, 0, none⟩ = some (.slice none 0 0) := cell_at kw
    have c2 : W.cell? ⟨n0 + 1 + 1, 0, none⟩ = some (.bool false) := cell_at kr
    have f2 : W.frozen? ⟨n0 + 1 + 1, 0, none⟩ = false := frozen_of_heap kr
    have hD' : n0 + 4 ≤ D := by omega
    have HM : Hid (Marks [{ target := .collected D, args := #[] }] W) := (Marks.nil W).cons hK (fun c => by cases c)
    have HB := hide (And.intro hBW kr)
    clear hK hxs hD hBW kw kr kn hseq hb hs1 hc1 k0 k1 k2 k3 HK HC hgb
    gi_wp2
    obtain ⟨hBW, kr⟩ := unhide HB
    have hrl := (Array.getElem?_eq_some_iff.1 kr).1
    have hr9 : (W.setCell ⟨n0 + 1 + 1, 0, none⟩ (.bool true)).heap[n0 + 1 + 1]? = some (.cells #[.bool true] 4) := box_set _ kr
    have hMk : Marks [{ target := .collected D, args := #[] }] (W.setCell ⟨n0 + 1 + 1, 0, none⟩ (.bool true)) := (unhide HM).keep fun k hk => Below.heap_setCell _ _ _ _ (by
      rcases List.mem_cons.1 hk with e | e
      · simp only [Deferred.mk.injEq, Target.collected.injEq, and_true] at e; show k ≠ n0 + 1 + 1; omega
      · cases e)
    refine leave_marks (w := W.setCell ⟨n0 + 1 + 1, 0, none⟩ (.bool true)) hMk fun w' hw => ?_
    have hdm : ∀ k, isMark [{ target := .collected D, args := #[] }] k → n0 + 4 ≤ k := fun k c => by
      rcases List.mem_cons.1 c with e | e
      · simp only [Deferred.mk.injEq, Target.collected.injEq, and_true] at e; omega
      · cases e
    have sz : (W.setCell ⟨n0 + 1 + 1, 0, none⟩ (.bool true)).heap.size = W.heap.size := by simp [World.setCell]
    have hc9 : w'.cell? ⟨n0 + 1 + 1, 0, none⟩ = some (.bool true) := cell_at ((hw.block (n0 + 1 + 1) (by omega) fun c => by have := hdm _ c; omega).trans hr9)
    refine ⟨.bool true, by simp [results, Tryd.results32, go_sem, hc9], rfl, (hBW.setCell (p := ⟨n0 + 1 + 1, 0, none⟩) (by show n0 ≤ n0 + 1 + 1; omega) _).trans ⟨hw.os, hw.tape, hw.output, hw.size, fun k hk => hw.block k (by have := hBW.size; omega) fun c => by have := hdm k c; omega⟩⟩

end Go.Proofs.YtdcmkapfcmibeaaDoor
