/- The document's Get. -/
import Derived.Test.YtdcmkapfcmibeaaDoorR1
namespace Go.Proofs.YtdcmkapfcmibeaaDoor
open Go.RowKit Go.Shelf
attribute [local go_sem] Oper.semAt_some
set_option maxRecDepth 100000

set_option maxHeartbeats 1000000 in
theorem rget_no {w : World} {base xb : Nat} {l : List Pr} {hs : List Int} {X : Int} (h : Rf w base xb l hs X) (k : Ky) (hno : isAt k l = false) :
    Calls Tryd.prog 37 #[PN xb, .agg #[.int .i32 k.1, .int .i64 k.2]] w fun e w' => e = .returned (.tuple #[.agg #[.int .i32 0, .int .i64 0, .int .i64 0, .int .i64 0], .bool false]) ∧ Below w.heap.size w w' := by
  obtain ⟨n0, hn0⟩ : ∃ x, w.heap.size = x := ⟨_, rfl⟩
  obtain ⟨rb, hrb⟩ : ∃ x, n0 + 1 = x := ⟨_, rfl⟩
  obtain ⟨W1, hW1⟩ : ∃ W, (w.alloc (.cells #[.int .i32 k.1, .int .i64 k.2] 30)).alloc (.cells #[.int .i32 0, .int .i64 0, .int .i64 0, .int .i64 0] 32) = W := ⟨_, rfl⟩
  have hb : Below n0 w W1 := by rw [← hW1, ← hn0]; exact ((Below.refl _ _).alloc (Nat.le_refl _) _).alloc (by simp) _
  have kr : W1.heap[rb]? = some (.cells #[.int .i32 0, .int .i64 0, .int .i64 0, .int .i64 0] 32) := by rw [← hW1, ← hrb, ← hn0]; exact heap_new2 _ _ _
  have kk : W1.heap[n0]? = some (.cells #[.int .i32 k.1, .int .i64 k.2] 30) := by rw [← hW1, Below.heap_alloc _ _ _ (by simp; omega), ← hn0]; exact heap_new1 _ _
  have kc0 : W1.cell? ⟨n0, 0, none⟩ = some (.int .i32 k.1) := cell_at kk
  have kc1 : W1.cell? ⟨n0, 1, none⟩ = some (.int .i64 k.2) := cell_at kk
  have HF := hide (rfind_any (h.below (w' := W1) (by rw [hn0]; exact hb)) k)
  rw [hno] at HF
  have HRR := hide kr
  have HBB := hide hb
  rw [hn0]
  obtain ⟨r, hr⟩ : ∃ r : Nat, fd k l = r := ⟨_, rfl⟩
  rw [hr] at HF
  clear kk h hb kr hr hno
  go_enter Tryd.func37, Tryd.ntmps37
  go_wp2_with fail
  try rw [hW1]
  refine (unhide HF).mono ?_
  rintro e w1 ⟨rfl, hb1⟩
  clear hW1
  have kr1 : w1.heap[rb]? = some (.cells #[.int .i32 0, .int .i64 0, .int .i64 0, .int .i64 0] 32) := (hb1.block rb (Array.getElem?_eq_some_iff.1 (unhide HRR)).1).trans (unhide HRR)
  have r0 : w1.cell? ⟨rb, 0, none⟩ = some (.int .i32 0) := cell_at kr1
  have r1 : w1.cell? ⟨rb, 1, none⟩ = some (.int .i64 0) := cell_at kr1
  have r2 : w1.cell? ⟨rb, 2, none⟩ = some (.int .i64 0) := cell_at kr1
  have r3 : w1.cell? ⟨rb, 3, none⟩ = some (.int .i64 0) := cell_at kr1
  have f0 : w1.frozen? ⟨rb, 0, none⟩ = false := frozen_of_heap kr1
  have f1 : w1.frozen? ⟨rb, 1, none⟩ = false := frozen_of_heap kr1
  have f2 : w1.frozen? ⟨rb, 2, none⟩ = false := frozen_of_heap kr1
  have f3 : w1.frozen? ⟨rb, 3, none⟩ = false := frozen_of_heap kr1
  have HK1 := hide kr1
  have HB1 : Hid (Below n0 w w1) := (unhide HBB).trans (hb1.mono (by have := (unhide HBB).size; omega))
  clear kr1 hb1
  try rw [hn0]
  try rw [hrb]
  go_wp2
  have hrow := setrow4 (a := .int .i32 0) (b := .int .i64 0) (c := .int .i64 0) (d := .int .i64 0) (unhide HK1)
  have hup := upd4 (w := w1) (p := rb) (S := fun k => k = rb) (N := w1.heap.size) (.inl rfl) (.int .i32 0) (.int .i64 0) (.int .i64 0) (.int .i64 0)
  obtain ⟨W9, hW9⟩ : ∃ W9, (((w1.setCell ⟨rb, 0, none⟩ (.int .i32 0)).setCell ⟨rb, 1, none⟩ (.int .i64 0)).setCell ⟨rb, 2, none⟩ (.int .i64 0)).setCell ⟨rb, 3, none⟩ (.int .i64 0) = W9 := ⟨_, rfl⟩
  rw [hW9] at hrow hup
  first | rw [hW9] | skip
  clear hW9
  refine bodyPost_ret (results_cell_row_tmp rfl _ _ rb 32 _ (0, 0) _ rfl hrow Tryd.underlying32 rfl (by kernel_rfl)) rfl ?_
  have hbb := unhide HB1
  exact ⟨rfl, hbb.trans ⟨hup.os, hup.tape, hup.output, hup.size, fun k hk => hup.block k (by have := hbb.size; omega) (by omega)⟩⟩

set_option maxHeartbeats 1000000 in
theorem rget_has {w : World} {base xb : Nat} {l : List Pr} {hs : List Int} {X : Int} (h : Rf w base xb l hs X) (k : Ky) {c : Pr} (hc : l[fd k l]? = some c) (hk : c.1 = k) :
    Calls Tryd.prog 37 #[PN xb, .agg #[.int .i32 k.1, .int .i64 k.2]] w fun e w' => e = .returned (.tuple #[.agg #[.int .i32 c.1.1, .int .i64 c.1.2, .int .i64 c.2.1, .int .i64 c.2.2], .bool true]) ∧ Below w.heap.size w w' := by
  have his : isAt k l = true := by unfold isAt; rw [hc]; simp [hk]
  obtain ⟨vl, vh, hx, hvl, _⟩ := h.at_
  obtain ⟨n0, hn0⟩ : ∃ x, w.heap.size = x := ⟨_, rfl⟩
  obtain ⟨rb, hrb⟩ : ∃ x, n0 + 1 = x := ⟨_, rfl⟩
  obtain ⟨W1, hW1⟩ : ∃ W, (w.alloc (.cells #[.int .i32 k.1, .int .i64 k.2] 30)).alloc (.cells #[.int .i32 0, .int .i64 0, .int .i64 0, .int .i64 0] 32) = W := ⟨_, rfl⟩
  have hb : Below n0 w W1 := by rw [← hW1, ← hn0]; exact ((Below.refl _ _).alloc (Nat.le_refl _) _).alloc (by simp) _
  have kr : W1.heap[rb]? = some (.cells #[.int .i32 0, .int .i64 0, .int .i64 0, .int .i64 0] 32) := by rw [← hW1, ← hrb, ← hn0]; exact heap_new2 _ _ _
  have kk : W1.heap[n0]? = some (.cells #[.int .i32 k.1, .int .i64 k.2] 30) := by rw [← hW1, Below.heap_alloc _ _ _ (by simp; omega), ← hn0]; exact heap_new1 _ _
  have kc0 : W1.cell? ⟨n0, 0, none⟩ = some (.int .i32 k.1) := cell_at kk
  have kc1 : W1.cell? ⟨n0, 1, none⟩ = some (.int .i64 k.2) := cell_at kk
  have HF := hide (rfind_any (h.below (w' := W1) (by rw [hn0]; exact hb)) k)
  rw [his] at HF
  have hxl := h.lt
  obtain ⟨ao, cap, gb, ob, hv, hcap, hmax, hao, hcl⟩ := (own_sees (l := l) pC_len (by decide) hvl).2.pair
  obtain ⟨r, hr⟩ : ∃ r : Nat, fd k l = r := ⟨_, rfl⟩
  rw [hr] at HF hc
  obtain ⟨hrl, hcr⟩ := List.getElem?_eq_some_iff.1 hc
  obtain rfl := hao (by omega)
  have hcc := hcl r hrl
  have hgd : l.getD r default = c := by rw [List.getD, hc]; rfl
  rw [hgd] at hcc
  obtain ⟨n, hn⟩ : ∃ n, l.length = n := ⟨_, rfl⟩
  rw [hn] at hv hrl hcap hmax
  subst hv
  have HX := hide (And.intro hx hcc)
  have HRR := hide kr
  have HBB := hide hb
  have hi0 : (0 : Int) ≤ (r : Int) := by omega
  have hi1 : (r : Int) < (n : Int) := by omega
  rw [hn0]
  rw [hn0] at hxl
  clear kk h hb kr hr his hx hvl hcl hcc hgd hn hcr hc hk hao
  go_enter Tryd.func37, Tryd.ntmps37
  go_wp2_with fail
  try rw [hW1]
  refine (unhide HF).mono ?_
  rintro e w1 ⟨rfl, hb1⟩
  clear hW1
  have HB1 : Hid (Below n0 w w1) := (unhide HBB).trans (hb1.mono (by have := (unhide HBB).size; omega))
  have kr1 : w1.heap[rb]? = some (.cells #[.int .i32 0, .int .i64 0, .int .i64 0, .int .i64 0] 32) := (hb1.block rb (Array.getElem?_eq_some_iff.1 (unhide HRR)).1).trans (unhide HRR)
  obtain ⟨hx, g0, g1, g2, g3⟩ := unhide HX
  have up : ∀ {p : Addr} {v : Value}, w.cell? p = some v → w1.cell? p = some v := fun {p v} h => ((unhide HB1).cell (p := p) (by rw [← hn0]; exact World.block_lt_of_cell? _ _ h)).trans h
  have x0 : w1.cell? ⟨xb, 0, none⟩ = some (.slice (some ⟨gb, ob, none⟩) n cap) := up (cell_at hx)
  have q0 := up g0
  have q1 := up g1
  have q2 := up g2
  have q3 := up g3
  have r0 : w1.cell? ⟨rb, 0, none⟩ = some (.int .i32 0) := cell_at kr1
  have r1 : w1.cell? ⟨rb, 1, none⟩ = some (.int .i64 0) := cell_at kr1
  have r2 : w1.cell? ⟨rb, 2, none⟩ = some (.int .i64 0) := cell_at kr1
  have r3 : w1.cell? ⟨rb, 3, none⟩ = some (.int .i64 0) := cell_at kr1
  have f0 : w1.frozen? ⟨rb, 0, none⟩ = false := frozen_of_heap kr1
  have f1 : w1.frozen? ⟨rb, 1, none⟩ = false := frozen_of_heap kr1
  have f2 : w1.frozen? ⟨rb, 2, none⟩ = false := frozen_of_heap kr1
  have f3 : w1.frozen? ⟨rb, 3, none⟩ = false := frozen_of_heap kr1
  have HK1 := hide kr1
  clear kr1 hb1 hx g0 g1 g2 g3 up
  try rw [hn0]
  try rw [hrb]
  go_wp2
  have hrow := setrow4 (a := .int .i32 c.1.1) (b := .int .i64 c.1.2) (c := .int .i64 c.2.1) (d := .int .i64 c.2.2) (unhide HK1)
  have hup := upd4 (w := w1) (p := rb) (S := fun k => k = rb) (N := w1.heap.size) (.inl rfl) (.int .i32 c.1.1) (.int .i64 c.1.2) (.int .i64 c.2.1) (.int .i64 c.2.2)
  obtain ⟨W9, hW9⟩ : ∃ W9, (((w1.setCell ⟨rb, 0, none⟩ (.int .i32 c.1.1)).setCell ⟨rb, 1, none⟩ (.int .i64 c.1.2)).setCell ⟨rb, 2, none⟩ (.int .i64 c.2.1)).setCell ⟨rb, 3, none⟩ (.int .i64 c.2.2) = W9 := ⟨_, rfl⟩
  rw [hW9] at hrow hup
  first | rw [hW9] | skip
  clear hW9
  refine bodyPost_ret (results_cell_row_tmp rfl _ _ rb 32 _ (0, 0) _ rfl hrow Tryd.underlying32 rfl (by kernel_rfl)) rfl ?_
  have hbb := unhide HB1
  exact ⟨rfl, hbb.trans ⟨hup.os, hup.tape, hup.output, hup.size, fun k hk => hup.block k (by have := hbb.size; omega) (by omega)⟩⟩
end Go.Proofs.YtdcmkapfcmibeaaDoor
