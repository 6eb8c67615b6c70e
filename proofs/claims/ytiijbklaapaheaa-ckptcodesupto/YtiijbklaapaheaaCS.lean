/- Load and Half. -/
import Derived.Test.YtiijbklaapaheaaCP
namespace Go.Proofs.Ytiijbklaapaheaa
open Go.RowKit
set_option maxRecDepth 100000

/-- What Load tells: a checkpoint, whether there is one, an error. -/
def lodB (F : Fl) (f n : Int) : Bst := if regE F.n f n ≠ 0 ∨ F.down = true then .none else nwk F f.toNat (n.toNat / 2) 2
def lodE (F : Fl) (f n : Int) : Int := if regE F.n f n ≠ 0 then regE F.n f n else if F.down = true then 7 else 0

set_option maxHeartbeats 1600000 in
theorem load_ok {w : World} {g h cap : Nat} {F : Fl} (H : IsFl w g h cap F) (hP : ∀ i j, (F.readB i j).length ≤ 256) (f n : Nat) (hfn : f + n ≤ F.n) (hr0 : regE F.n f n = 0) (hdn : F.down = false) :
    Calls Try.prog 27 #[P0 h, .agg #[.int .i64 f, .int .i64 n]] w fun e w' => ∃ dv, e = .returned (.tuple #[.agg #[.int .i64 (nwk F f (n / 2) 2).ck.slot, .int .i64 (nwk F f (n / 2) 2).ck.last, dv], .bool (decide (0 < (nwk F f (n / 2) 2).ck.num)), .int .i64 0]) ∧ w'.ownsRow w.heap.size 5 1 dv (nwk F f (n / 2) 2).ck.data.length (ints .u8 (nwk F f (n / 2) 2).ck.data) ∧ Below w.heap.size w w' := by
  have hle := H.le
  obtain ⟨B, hB⟩ : ∃ B, (w.alloc (.cells #[.int .i64 f, .int .i64 n] 26)).alloc (.cells #[.int .i64 0, .int .i64 0, .slice none 0 0] 24) = B := ⟨_, rfl⟩
  have HBB : Hid (Below w.heap.size w B) := hB ▸ ((Below.refl _ _).alloc (Nat.le_refl _) _).alloc (by simp) _
  have HSZ : Hid (B.heap.size = w.heap.size + 2) := by show _ = _; rw [← hB]; simp
  have HBX : Hid (∀ x, Below B.heap.size B x → (x.cell? ⟨w.heap.size, 0, none⟩ = some (.int .i64 f) ∧ x.cell? ⟨w.heap.size, 1, none⟩ = some (.int .i64 n)) ∧ (x.cell? ⟨w.heap.size + 1, 0, none⟩ = some (.int .i64 0) ∧ x.cell? ⟨w.heap.size + 1, 1, none⟩ = some (.int .i64 0) ∧ x.cell? ⟨w.heap.size + 1, 2, none⟩ = some (.slice none 0 0)) ∧ ∀ o, x.frozen? ⟨w.heap.size + 1, o, none⟩ = false) := fun x hx => by
    have hs := unhide HSZ
    have c : ∀ b o, b < w.heap.size + 2 → x.cell? ⟨b, o, none⟩ = B.cell? ⟨b, o, none⟩ := fun b o hb => hx.cell (p := ⟨b, o, none⟩) (by show b < _; omega)
    have d : ∀ b o, b < w.heap.size + 2 → x.frozen? ⟨b, o, none⟩ = B.frozen? ⟨b, o, none⟩ := fun b o hb => World.frozen?_of_block (w := B) (hx.block b (by omega))
    refine ⟨⟨?_, ?_⟩, ⟨?_, ?_, ?_⟩, fun o => ?_⟩
    · rw [c _ _ (by omega), ← hB]; simp [go_sem, World.cell?_alloc_old]
    · rw [c _ _ (by omega), ← hB]; simp [go_sem, World.cell?_alloc_old]
    · rw [c _ _ (by omega), ← hB]; simp [go_sem]
    · rw [c _ _ (by omega), ← hB]; simp [go_sem]
    · rw [c _ _ (by omega), ← hB]; simp [go_sem]
    · rw [d _ _ (by omega), ← hB]; simp [go_sem]
  obtain ⟨⟨q0, q1⟩, ⟨q2, q3, q4⟩, q5⟩ := unhide HBX B (Below.refl _ _)
  have HI := hide (H.below (unhide HBB))
  clear H
  go_enter Try.func27, Try.ntmps27
  go_wp2_with (rw [hB])
  refine (region_any (unhide HI) f n (by omega)).mono ?_
  rintro e w1 ⟨rfl, b1⟩
  rw [hr0]
  have HB1 := hide b1
  clear b1 q0 q1 q2 q3 q4 q5
  obtain ⟨⟨q0, q1⟩, ⟨q2, q3, q4⟩, q5⟩ := unhide HBX w1 (unhide HB1)
  have HI2 := hide ((unhide HI).below (unhide HB1))
  have HDN := hide (down_any (unhide HI2))
  rw [hdn] at HDN
  have HNW := hide (newest_any (unhide HI2) hP f n (by omega) (by omega))
  go_wp2_with (first | (go_at_call 43; refine (unhide HDN).mono ?_; rintro e w' ⟨rfl, rfl⟩) | fail)
  refine (unhide HNW).mono ?_
  rintro e w3 ⟨nv, rfl, ho3, b3⟩
  have HB3 := hide ((unhide HB1).trans (b3.mono (unhide HB1).size))
  have HO3 := hide ho3
  have hs1 := (unhide HB1).size
  have hsz := unhide HSZ
  clear q0 q1 q2 q3 q4 q5
  obtain ⟨⟨q0, q1⟩, ⟨q2, q3, q4⟩, q5⟩ := unhide HBX w3 (unhide HB3)
  obtain ⟨na, nc, rfl⟩ := own_shape ho3
  have hl3 : w.heap.size + 1 < w3.heap.size := by have := b3.size; omega
  clear b3 ho3
  generalize hgc : nwk F f (n / 2) 2 = c at HO3 ⊢
  have HBW := hide ((unhide HBB).trans ((unhide HB3).mono (unhide HBB).size))
  go_wp2
  obtain ⟨k0, k1, k2⟩ := st3_cells (v0 := .int .i64 c.ck.slot) (v1 := .int .i64 c.ck.last) (v2 := .slice na c.ck.data.length nc) q2 q3 q4
  have hbl := st3_below (unhide HBW) (show w.heap.size ≤ w.heap.size + 1 by omega) (.int .i64 c.ck.slot) (.int .i64 c.ck.last) (.slice na c.ck.data.length nc)
  have hor := own_set (own_set (own_set (unhide HO3) (p := ⟨w.heap.size + 1, 0, none⟩) (by show w.heap.size + 1 < _; omega) (.int .i64 c.ck.slot)) (p := ⟨w.heap.size + 1, 1, none⟩) (by show w.heap.size + 1 < _; omega) (.int .i64 c.ck.last)) (p := ⟨w.heap.size + 1, 2, none⟩) (by show w.heap.size + 1 < _; omega) (.slice na c.ck.data.length nc)
  have hysz : (((w3.setCell ⟨w.heap.size + 1, 0, none⟩ (.int .i64 c.ck.slot)).setCell ⟨w.heap.size + 1, 1, none⟩ (.int .i64 c.ck.last)).setCell ⟨w.heap.size + 1, 2, none⟩ (.slice na c.ck.data.length nc)).heap.size = w3.heap.size := by simp [World.setCell]
  generalize ((w3.setCell ⟨w.heap.size + 1, 0, none⟩ (.int .i64 c.ck.slot)).setCell ⟨w.heap.size + 1, 1, none⟩ (.int .i64 c.ck.last)).setCell ⟨w.heap.size + 1, 2, none⟩ (.slice na c.ck.data.length nc) = Y at *
  have ne : ∀ o, (⟨w.heap.size + 1, o, none⟩ : Addr).block ≠ Y.heap.size := fun o => by show w.heap.size + 1 ≠ _; omega
  have m0 := (World.cell?_alloc_old Y (.cells #[.int .i64 c.at', .int .i64 c.ck.num, .int .i64 c.ck.slot, .int .i64 c.ck.last, .slice na c.ck.data.length nc] 87) ⟨w.heap.size + 1, 0, none⟩ (ne 0)).trans k0
  have m1 := (World.cell?_alloc_old Y (.cells #[.int .i64 c.at', .int .i64 c.ck.num, .int .i64 c.ck.slot, .int .i64 c.ck.last, .slice na c.ck.data.length nc] 87) ⟨w.heap.size + 1, 1, none⟩ (ne 1)).trans k1
  have m2 := (World.cell?_alloc_old Y (.cells #[.int .i64 c.at', .int .i64 c.ck.num, .int .i64 c.ck.slot, .int .i64 c.ck.last, .slice na c.ck.data.length nc] 87) ⟨w.heap.size + 1, 2, none⟩ (ne 2)).trans k2
  refine bodyPost_ret (v := .tuple #[.agg #[.int .i64 c.ck.slot, .int .i64 c.ck.last, .slice na c.ck.data.length nc], .bool (decide (0 < c.ck.num)), .int .i64 0]) (by simp [results, Try.results27, go_sem, m0, m1, m2]) rfl ?_
  rw [hgc]
  exact ⟨_, rfl, own_lower (b := w1.heap.size) (hor.alloc _) (by omega), hbl.alloc (by have := hbl.size; omega) _⟩

set_option maxHeartbeats 1600000 in
theorem half_ok {w : World} {g h cap : Nat} {F : Fl} (H : IsFl w g h cap F) (hP : ∀ i j, (F.readB i j).length ≤ 256) (f n : Nat) (hfn : f + n ≤ F.n) (hr0 : regE F.n f n = 0) :
    Calls Try.prog 40 #[P0 h, .agg #[.int .i64 f, .int .i64 n]] w fun e w' => e = .returned (.tuple #[.int .i64 (nwk F f (n / 2) 2).at', .int .i64 (nwk F f (n / 2) 2).ck.num, .bool (decide (0 < (nwk F f (n / 2) 2).ck.num))]) ∧ Below w.heap.size w w' := by
  have hle := H.le
  obtain ⟨B, hB⟩ : ∃ B, w.alloc (.cells #[.int .i64 f, .int .i64 n] 26) = B := ⟨_, rfl⟩
  have HBB : Hid (Below w.heap.size w B) := hB ▸ (Below.refl _ _).alloc (Nat.le_refl _) _
  have HSZ : Hid (B.heap.size = w.heap.size + 1) := by show _ = _; rw [← hB]; simp
  have HBX : Hid (∀ x, Below B.heap.size B x → x.cell? ⟨w.heap.size, 0, none⟩ = some (.int .i64 f) ∧ x.cell? ⟨w.heap.size, 1, none⟩ = some (.int .i64 n)) := fun x hx => cells2 (by rw [hB, ← unhide HSZ]; exact hx)
  obtain ⟨q0, q1⟩ := unhide HBX B (Below.refl _ _)
  have HI := hide (H.below (unhide HBB))
  clear H
  go_enter Try.func40, Try.ntmps40
  go_wp2_with (rw [hB])
  refine (region_any (unhide HI) f n (by omega)).mono ?_
  rintro e w1 ⟨rfl, b1⟩
  rw [hr0]
  have HB1 := hide b1
  clear b1 q0 q1
  obtain ⟨q0, q1⟩ := unhide HBX w1 (unhide HB1)
  have HNW := hide (newest_any ((unhide HI).below (unhide HB1)) hP f n (by omega) (by omega))
  go_wp2_with fail
  refine (unhide HNW).mono ?_
  rintro e w3 ⟨nv, rfl, ho3, b3⟩
  have HB3 := hide (((unhide HBB).trans ((unhide HB1).mono (unhide HBB).size)).trans (b3.mono ((unhide HBB).trans ((unhide HB1).mono (unhide HBB).size)).size))
  obtain ⟨na, nc, rfl⟩ := own_shape ho3
  clear b3 ho3 q0 q1
  generalize hgc : nwk F f (n / 2) 2 = c at *
  go_wp2
  go_region
  go_wp2
  refine bodyPost_ret (v := .tuple #[.int .i64 c.at', .int .i64 c.ck.num, .bool (decide (0 < c.ck.num))]) (by simp [results, Try.results40, go_sem]) rfl ?_
  rw [hgc]
  exact ⟨rfl, ((unhide HB3).alloc (unhide HB3).size _).drew⟩

end Go.Proofs.Ytiijbklaapaheaa
