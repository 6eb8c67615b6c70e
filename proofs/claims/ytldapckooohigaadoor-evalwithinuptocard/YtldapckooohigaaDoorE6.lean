/- do: arg, load. -/
import Derived.Test.YtldapckooohigaaDoorJF
namespace Go.Proofs.YtldapckooohigaaDoor
open Go.RowKit
set_option maxRecDepth 100000
set_option maxHeartbeats 1600000 in
theorem do_arg {w0 w : World} {b : Nat} {E : Env} {P : Tp} {s : Mc} {ov : Value} (h : RunIs w0 b E P s ov w) (ho : RunOf w0 E P) (ad : Int) (I : Nat) (A B : Nat) (hA : A < 8) (hB : B < 8) (hI : I < P.ar.length) :
    Calls Tryd.prog 50 #[.pointer (some ⟨b, 0, none⟩), .agg #[.int .i64 ad, .int .i64 2, .int .i64 (A : Int), .int .i64 (B : Int), .int .i64 (I : Int)]] w fun e w' => e = .returned (.int .i64 0) ∧ RunIs w0 b E P { s with rg := s.rg.set A (P.ar.getD I 0) } ov w' := by
  have hp := ho.pll
  obtain ⟨W1, hW1⟩ : ∃ W, w.alloc (.cells #[.int .i64 ad, .int .i64 2, .int .i64 (A : Int), .int .i64 (B : Int), .int .i64 (I : Int)] 89) = W := ⟨_, rfl⟩
  have h1 : RunIs w0 b E P s ov W1 := hW1 ▸ h.grew (below_box _)
  have hx : W1.heap[w.heap.size]? = some (.cells #[.int .i64 ad, .int .i64 2, .int .i64 (A : Int), .int .i64 (B : Int), .int .i64 (I : Int)] 89) := hW1 ▸ heap_alloc_new w _
  have x1 : W1.cell? ⟨w.heap.size, 1, none⟩ = some (.int .i64 2) := cell_at hx
  have x2 : W1.cell? ⟨w.heap.size, 2, none⟩ = some (.int .i64 (A : Int)) := cell_at hx
  have x3 : W1.cell? ⟨w.heap.size, 3, none⟩ = some (.int .i64 (B : Int)) := cell_at hx
  have x4 : W1.cell? ⟨w.heap.size, 4, none⟩ = some (.int .i64 (I : Int)) := cell_at hx
  have ca : W1.cell? ⟨b, 521 + A, none⟩ = some (.int .i64 (s.rg.getD A 0)) := (h1.cell _).trans (rC_rg hp h.rgl hA)
  have cb : W1.cell? ⟨b, 521 + B, none⟩ = some (.int .i64 (s.rg.getD B 0)) := (h1.cell _).trans (rC_rg hp h.rgl hB)
  have hA0 : (A : Int) < 8 := by omega
  have hB0 : (B : Int) < 8 := by omega
  have hf : ∀ i, W1.frozen? ⟨b, i, none⟩ = false := fun i => frozen_of_heap h1.blk
  have hfa := hf (521 + A)
  have HR := hide fun v => h1.store (rC_setRg hp h.rgl hA v) h1.out rfl (by simp [h.rgl])
  obtain ⟨aa, ca', ga, oa, hav, _, _, _, hae, hac⟩ := ho.ars.below nC_len h1.bel
  have c3 : W1.cell? ⟨b, 3, none⟩ = some (.slice (some ⟨ga, oa, none⟩) P.ar.length ca') := (h1.cell _).trans ((rC_hd (by omega)).trans (by rw [← hae (by omega), ← hav]; rfl))
  have cI : W1.cell? ⟨ga, oa + I, none⟩ = some (.int .i64 (P.ar.getD I 0)) := by
    have := hac I _ (List.getElem?_eq_getElem hI) 0 (by decide)
    rw [Nat.mul_one, Nat.add_zero] at this
    rw [this, List.getD_eq_getElem?_getD, List.getElem?_eq_getElem hI]
    rfl
  have hI0 : (I : Int) < (P.ar.length : Int) := by omega
  obtain ⟨n, hn⟩ : ∃ n, P.ar.length = n := ⟨_, rfl⟩
  rw [hn] at c3 hI0
  obtain ⟨vi, hvi⟩ : ∃ v, P.ar.getD I 0 = v := ⟨_, rfl⟩
  rw [hvi] at cI
  have HW1 := hide hW1
  clear h h1 hx hA hB hp hW1 hf ho hav hae hac hn hI
  go_enter Tryd.func50, Tryd.ntmps50
  go_wp2_with (rw [unhide HW1])
  go_quiet (fail)
  go_wp2
  go_region
  go_wp2
  go_ret
  exact ⟨rfl, by rw [hvi]; exact ((unhide HR vi).drewN _).drew⟩

set_option maxHeartbeats 1600000 in
theorem do_load {w0 w : World} {b : Nat} {E : Env} {P : Tp} {s : Mc} {ov : Value} (h : RunIs w0 b E P s ov w) (ho : RunOf w0 E P) (ad : Int) (I : Nat) (A B : Nat) (hA : A < 8) (hB : B < 8) (hI : I < P.rs.length) :
    Calls Tryd.prog 50 #[.pointer (some ⟨b, 0, none⟩), .agg #[.int .i64 ad, .int .i64 3, .int .i64 (A : Int), .int .i64 (B : Int), .int .i64 (I : Int)]] w fun e w' => e = .returned (.int .i64 0) ∧ RunIs w0 b E P { s with rg := s.rg.set A ((valP P s (P.rs.getD I (0, 0))).getD 0) } ov w' := by
  have hp := ho.pll
  obtain ⟨W1, hW1⟩ : ∃ W, w.alloc (.cells #[.int .i64 ad, .int .i64 3, .int .i64 (A : Int), .int .i64 (B : Int), .int .i64 (I : Int)] 89) = W := ⟨_, rfl⟩
  have h1 : RunIs w0 b E P s ov W1 := hW1 ▸ h.grew (below_box _)
  have hx : W1.heap[w.heap.size]? = some (.cells #[.int .i64 ad, .int .i64 3, .int .i64 (A : Int), .int .i64 (B : Int), .int .i64 (I : Int)] 89) := hW1 ▸ heap_alloc_new w _
  have x1 : W1.cell? ⟨w.heap.size, 1, none⟩ = some (.int .i64 3) := cell_at hx
  have x2 : W1.cell? ⟨w.heap.size, 2, none⟩ = some (.int .i64 (A : Int)) := cell_at hx
  have x3 : W1.cell? ⟨w.heap.size, 3, none⟩ = some (.int .i64 (B : Int)) := cell_at hx
  have x4 : W1.cell? ⟨w.heap.size, 4, none⟩ = some (.int .i64 (I : Int)) := cell_at hx
  have ca : W1.cell? ⟨b, 521 + A, none⟩ = some (.int .i64 (s.rg.getD A 0)) := (h1.cell _).trans (rC_rg hp h.rgl hA)
  have cb : W1.cell? ⟨b, 521 + B, none⟩ = some (.int .i64 (s.rg.getD B 0)) := (h1.cell _).trans (rC_rg hp h.rgl hB)
  have hA0 : (A : Int) < 8 := by omega
  have hB0 : (B : Int) < 8 := by omega
  have hf : ∀ i, W1.frozen? ⟨b, i, none⟩ = false := fun i => frozen_of_heap h1.blk
  have hfa := hf (521 + A)
  have HR := hide fun v => h1.store (rC_setRg hp h.rgl hA v) h1.out rfl (by simp [h.rgl])
  obtain ⟨aa, ca', ga, oa, hav, _, _, _, hae, hac⟩ := ho.rss.below kC_len h1.bel
  have c3 : W1.cell? ⟨b, 4, none⟩ = some (.slice (some ⟨ga, oa, none⟩) P.rs.length ca') := (h1.cell _).trans ((rC_hd (by omega)).trans (by rw [← hae (by omega), ← hav]; rfl))
  obtain ⟨⟨k0, k1⟩, hkk⟩ : ∃ k, P.rs.getD I (0, 0) = k := ⟨_, rfl⟩
  have hkm : P.rs[I]? = some (k0, k1) := by
    rw [List.getElem?_eq_getElem hI, ← hkk, List.getD_eq_getElem?_getD, List.getElem?_eq_getElem hI]
    rfl
  have hok : OkK (k0, k1) := ho.okr _ (List.mem_of_getElem? hkm)
  have cI : W1.cell? ⟨ga, oa + I * 2, none⟩ = some (.int .i32 k0) := hac I _ hkm 0 (by decide)
  have cJ : W1.cell? ⟨ga, oa + I * 2 + 1, none⟩ = some (.int .i64 k1) := hac I _ hkm 1 (by decide)
  have hI0 : (I : Int) < (P.rs.length : Int) := by omega
  obtain ⟨n, hn⟩ : ∃ n, P.rs.length = n := ⟨_, rfl⟩
  rw [hn] at c3 hI0
  have HV := hide (fun z (hz : Below W1.heap.size W1 z) => value_any (h1.grew hz) ho (k0, k1) hok)
  have HCA := hide (fun (z : World) (hz : Below W1.heap.size W1 z) => (⟨(hz.cell (World.block_lt_of_cell? W1 _ ca)).trans ca, frozen_of_heap (h1.grew hz).blk⟩ : z.cell? ⟨b, 521 + A, none⟩ = some (.int .i64 (s.rg.getD A 0)) ∧ z.frozen? ⟨b, 521 + A, none⟩ = false))
  have HS := hide (fun (z : World) (v : Int) (hz : Below W1.heap.size W1 z) => (h1.grew hz).store (rC_setRg hp h.rgl hA v) (h1.grew hz).out rfl (by simp [h.rgl]))
  rw [hkk]
  obtain ⟨vo, hvo⟩ : ∃ v, valP P s (k0, k1) = v := ⟨_, rfl⟩
  rw [hvo] at HV ⊢
  have HW1 := hide hW1
  clear h h1 hx hA hB hp hW1 hf ho hav hae hac hkm hok hn hI
  go_enter Tryd.func50, Tryd.ntmps50
  go_wp2_with (rw [unhide HW1])
  go_quiet (fail)
  go_wp2
  go_region_with (go_at_call 62; refine (unhide HV _ (by first | exact (Below.refl _ _).drew | exact Below.drewN (Below.refl _ _) _ | exact (Below.drewN (Below.refl _ _) _).drew | exact Below.drewN ((Below.refl _ _).drew) _ | exact Below.refl _ _)).mono ?_; rintro e z1 ⟨rfl, hz1⟩; have hz2 : Below W1.heap.size W1 z1 := Below.trans (by first | exact (Below.refl _ _).drew | exact Below.drewN (Below.refl _ _) _ | exact (Below.drewN (Below.refl _ _) _).drew | exact Below.drewN ((Below.refl _ _).drew) _ | exact Below.refl _ _) (hz1.mono (by simp)); have hz3 := (unhide HCA z1 hz2).1; have hz4 := (unhide HCA z1 hz2).2; have HZ2 := hide hz2; clear hz1 hz2)
  all_goals
    go_wp2
    go_ret
    exact ⟨rfl, unhide HS z1 (vo.getD 0) (unhide HZ2)⟩
end Go.Proofs.YtldapckooohigaaDoor
