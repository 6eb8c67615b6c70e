/- Several texts as one. -/
import Derived.Test.YtldapckooohigaaDoorJE

/- do: halt, const, move. -/
namespace Go.Proofs.YtldapckooohigaaDoor
open Go.RowKit
set_option maxRecDepth 100000
theorem RunIs.drewN {w0 w : World} {b : Nat} {E : Env} {P : Tp} {s : Mc} {ov : Value} (h : RunIs w0 b E P s ov w) (n : Nat) : RunIs w0 b E P s ov (w.drewN n) := h.grew (Below.drewN (Below.refl _ _) n)
theorem RunIs.drew {w0 w : World} {b : Nat} {E : Env} {P : Tp} {s : Mc} {ov : Value} (h : RunIs w0 b E P s ov w) : RunIs w0 b E P s ov w.drew := h.grew (Below.refl _ _).drew
set_option maxHeartbeats 1600000 in
theorem do_halt {w0 w : World} {b : Nat} {E : Env} {P : Tp} {s : Mc} {ov : Value} (h : RunIs w0 b E P s ov w) (ho : RunOf w0 E P) (ad : Int) (im : Int) (A B : Nat) (hA : A < 8) (hB : B < 8) :
    Calls Tryd.prog 50 #[.pointer (some ⟨b, 0, none⟩), .agg #[.int .i64 ad, .int .i64 0, .int .i64 (A : Int), .int .i64 (B : Int), .int .i64 im]] w fun e w' => e = .returned (.int .i64 0) ∧ RunIs w0 b E P { s with pc := P.L.length } ov w' := by
  have hp := ho.pll
  obtain ⟨W1, hW1⟩ : ∃ W, w.alloc (.cells #[.int .i64 ad, .int .i64 0, .int .i64 (A : Int), .int .i64 (B : Int), .int .i64 im] 89) = W := ⟨_, rfl⟩
  have h1 : RunIs w0 b E P s ov W1 := hW1 ▸ h.grew (below_box _)
  have hx : W1.heap[w.heap.size]? = some (.cells #[.int .i64 ad, .int .i64 0, .int .i64 (A : Int), .int .i64 (B : Int), .int .i64 im] 89) := hW1 ▸ heap_alloc_new w _
  have x1 : W1.cell? ⟨w.heap.size, 1, none⟩ = some (.int .i64 0) := cell_at hx
  have x2 : W1.cell? ⟨w.heap.size, 2, none⟩ = some (.int .i64 (A : Int)) := cell_at hx
  have x3 : W1.cell? ⟨w.heap.size, 3, none⟩ = some (.int .i64 (B : Int)) := cell_at hx
  have x4 : W1.cell? ⟨w.heap.size, 4, none⟩ = some (.int .i64 im) := cell_at hx
  have ca : W1.cell? ⟨b, 521 + A, none⟩ = some (.int .i64 (s.rg.getD A 0)) := (h1.cell _).trans (rC_rg hp h.rgl hA)
  have cb : W1.cell? ⟨b, 521 + B, none⟩ = some (.int .i64 (s.rg.getD B 0)) := (h1.cell _).trans (rC_rg hp h.rgl hB)
  have hA0 : (A : Int) < 8 := by omega
  have hB0 : (B : Int) < 8 := by omega
  have hf : ∀ i, W1.frozen? ⟨b, i, none⟩ = false := fun i => frozen_of_heap h1.blk
  have hfa := hf (521 + A)
  have HR := hide fun v => h1.store (rC_setRg hp h.rgl hA v) h1.out rfl (by simp [h.rgl])
  obtain ⟨al, cl, hlv⟩ := own_shape h1.lst
  have c6 : W1.cell? ⟨b, 6, none⟩ = some (.slice al P.L.length cl) := (h1.cell _).trans ((rC_hd (by omega)).trans (by rw [← hlv]; rfl))
  have c519 : W1.cell? ⟨b, 519, none⟩ = some (.int .i64 s.pc) := (h1.cell _).trans (rC_pc hp)
  have hf5 := hf 519
  have HI := hide (h1.store (rC_setPc hp P.L.length) h1.out rfl h1.rgl)
  have HW1 := hide hW1
  clear h h1 hx hA hB hp hW1 hf ho
  go_enter Tryd.func50, Tryd.ntmps50
  go_wp2_with (rw [unhide HW1])
  go_quiet (fail)
  go_wp2
  go_ret
  exact ⟨rfl, (unhide HI).drewN _⟩

set_option maxHeartbeats 1600000 in
theorem do_const {w0 w : World} {b : Nat} {E : Env} {P : Tp} {s : Mc} {ov : Value} (h : RunIs w0 b E P s ov w) (ho : RunOf w0 E P) (ad : Int) (im : Int) (A B : Nat) (hA : A < 8) (hB : B < 8) :
    Calls Tryd.prog 50 #[.pointer (some ⟨b, 0, none⟩), .agg #[.int .i64 ad, .int .i64 1, .int .i64 (A : Int), .int .i64 (B : Int), .int .i64 im]] w fun e w' => e = .returned (.int .i64 0) ∧ RunIs w0 b E P { s with rg := s.rg.set A (im) } ov w' := by
  have hp := ho.pll
  obtain ⟨W1, hW1⟩ : ∃ W, w.alloc (.cells #[.int .i64 ad, .int .i64 1, .int .i64 (A : Int), .int .i64 (B : Int), .int .i64 im] 89) = W := ⟨_, rfl⟩
  have h1 : RunIs w0 b E P s ov W1 := hW1 ▸ h.grew (below_box _)
  have hx : W1.heap[w.heap.size]? = some (.cells #[.int .i64 ad, .int .i64 1, .int .i64 (A : Int), .int .i64 (B : Int), .int .i64 im] 89) := hW1 ▸ heap_alloc_new w _
  have x1 : W1.cell? ⟨w.heap.size, 1, none⟩ = some (.int .i64 1) := cell_at hx
  have x2 : W1.cell? ⟨w.heap.size, 2, none⟩ = some (.int .i64 (A : Int)) := cell_at hx
  have x3 : W1.cell? ⟨w.heap.size, 3, none⟩ = some (.int .i64 (B : Int)) := cell_at hx
  have x4 : W1.cell? ⟨w.heap.size, 4, none⟩ = some (.int .i64 im) := cell_at hx
  have ca : W1.cell? ⟨b, 521 + A, none⟩ = some (.int .i64 (s.rg.getD A 0)) := (h1.cell _).trans (rC_rg hp h.rgl hA)
  have cb : W1.cell? ⟨b, 521 + B, none⟩ = some (.int .i64 (s.rg.getD B 0)) := (h1.cell _).trans (rC_rg hp h.rgl hB)
  have hA0 : (A : Int) < 8 := by omega
  have hB0 : (B : Int) < 8 := by omega
  have hf : ∀ i, W1.frozen? ⟨b, i, none⟩ = false := fun i => frozen_of_heap h1.blk
  have hfa := hf (521 + A)
  have HR := hide fun v => h1.store (rC_setRg hp h.rgl hA v) h1.out rfl (by simp [h.rgl])
  have HW1 := hide hW1
  clear h h1 hx hA hB hp hW1 hf ho
  go_enter Tryd.func50, Tryd.ntmps50
  go_wp2_with (rw [unhide HW1])
  go_quiet (fail)
  go_wp2
  go_ret
  exact ⟨rfl, (unhide HR im).drewN _⟩

set_option maxHeartbeats 1600000 in
theorem do_move {w0 w : World} {b : Nat} {E : Env} {P : Tp} {s : Mc} {ov : Value} (h : RunIs w0 b E P s ov w) (ho : RunOf w0 E P) (ad : Int) (im : Int) (A B : Nat) (hA : A < 8) (hB : B < 8) :
    Calls Tryd.prog 50 #[.pointer (some ⟨b, 0, none⟩), .agg #[.int .i64 ad, .int .i64 7, .int .i64 (A : Int), .int .i64 (B : Int), .int .i64 im]] w fun e w' => e = .returned (.int .i64 0) ∧ RunIs w0 b E P { s with rg := s.rg.set A (s.rg.getD B 0) } ov w' := by
  have hp := ho.pll
  obtain ⟨W1, hW1⟩ : ∃ W, w.alloc (.cells #[.int .i64 ad, .int .i64 7, .int .i64 (A : Int), .int .i64 (B : Int), .int .i64 im] 89) = W := ⟨_, rfl⟩
  have h1 : RunIs w0 b E P s ov W1 := hW1 ▸ h.grew (below_box _)
  have hx : W1.heap[w.heap.size]? = some (.cells #[.int .i64 ad, .int .i64 7, .int .i64 (A : Int), .int .i64 (B : Int), .int .i64 im] 89) := hW1 ▸ heap_alloc_new w _
  have x1 : W1.cell? ⟨w.heap.size, 1, none⟩ = some (.int .i64 7) := cell_at hx
  have x2 : W1.cell? ⟨w.heap.size, 2, none⟩ = some (.int .i64 (A : Int)) := cell_at hx
  have x3 : W1.cell? ⟨w.heap.size, 3, none⟩ = some (.int .i64 (B : Int)) := cell_at hx
  have x4 : W1.cell? ⟨w.heap.size, 4, none⟩ = some (.int .i64 im) := cell_at hx
  have ca : W1.cell? ⟨b, 521 + A, none⟩ = some (.int .i64 (s.rg.getD A 0)) := (h1.cell _).trans (rC_rg hp h.rgl hA)
  have cb : W1.cell? ⟨b, 521 + B, none⟩ = some (.int .i64 (s.rg.getD B 0)) := (h1.cell _).trans (rC_rg hp h.rgl hB)
  have hA0 : (A : Int) < 8 := by omega
  have hB0 : (B : Int) < 8 := by omega
  have hf : ∀ i, W1.frozen? ⟨b, i, none⟩ = false := fun i => frozen_of_heap h1.blk
  have hfa := hf (521 + A)
  have HR := hide fun v => h1.store (rC_setRg hp h.rgl hA v) h1.out rfl (by simp [h.rgl])
  obtain ⟨vb, hvb⟩ : ∃ v, s.rg.getD B 0 = v := ⟨_, rfl⟩
  rw [hvb] at cb
  have HW1 := hide hW1
  clear h h1 hx hA hB hp hW1 hf ho
  go_enter Tryd.func50, Tryd.ntmps50
  go_wp2_with (rw [unhide HW1])
  go_quiet (fail)
  go_wp2
  go_ret
  exact ⟨rfl, by rw [hvb]; exact (unhide HR vb).drewN _⟩
end Go.Proofs.YtldapckooohigaaDoor

/- do: out, abort. -/
namespace Go.Proofs.YtldapckooohigaaDoor
open Go.RowKit
set_option maxRecDepth 100000
set_option maxHeartbeats 1600000 in
theorem do_out {w0 w : World} {b : Nat} {E : Env} {P : Tp} {s : Mc} {ov : Value} (h : RunIs w0 b E P s ov w) (ho : RunOf w0 E P) (ad : Int) (im : Int) (A B : Nat) (hA : A < 8) (hB : B < 8) (hl : s.out.length ≤ 8) :
    Calls Tryd.prog 50 #[.pointer (some ⟨b, 0, none⟩), .agg #[.int .i64 ad, .int .i64 24, .int .i64 (A : Int), .int .i64 (B : Int), .int .i64 im]] w fun e w' => e = .returned (.int .i64 (if s.out.length = 8 then 5 else 0)) ∧ ∃ ov', RunIs w0 b E P (if s.out.length = 8 then s else { s with out := s.out ++ [s.rg.getD A 0] }) ov' w' := by
  have hp := ho.pll
  obtain ⟨W1, hW1⟩ : ∃ W, w.alloc (.cells #[.int .i64 ad, .int .i64 24, .int .i64 (A : Int), .int .i64 (B : Int), .int .i64 im] 89) = W := ⟨_, rfl⟩
  have h1 : RunIs w0 b E P s ov W1 := hW1 ▸ h.grew (below_box _)
  have hx : W1.heap[w.heap.size]? = some (.cells #[.int .i64 ad, .int .i64 24, .int .i64 (A : Int), .int .i64 (B : Int), .int .i64 im] 89) := hW1 ▸ heap_alloc_new w _
  have x1 : W1.cell? ⟨w.heap.size, 1, none⟩ = some (.int .i64 24) := cell_at hx
  have x2 : W1.cell? ⟨w.heap.size, 2, none⟩ = some (.int .i64 (A : Int)) := cell_at hx
  have x3 : W1.cell? ⟨w.heap.size, 3, none⟩ = some (.int .i64 (B : Int)) := cell_at hx
  have x4 : W1.cell? ⟨w.heap.size, 4, none⟩ = some (.int .i64 im) := cell_at hx
  have ca : W1.cell? ⟨b, 521 + A, none⟩ = some (.int .i64 (s.rg.getD A 0)) := (h1.cell _).trans (rC_rg hp h.rgl hA)
  have cb : W1.cell? ⟨b, 521 + B, none⟩ = some (.int .i64 (s.rg.getD B 0)) := (h1.cell _).trans (rC_rg hp h.rgl hB)
  have hA0 : (A : Int) < 8 := by omega
  have hB0 : (B : Int) < 8 := by omega
  have hf : ∀ i, W1.frozen? ⟨b, i, none⟩ = false := fun i => frozen_of_heap h1.blk
  have hfa := hf (521 + A)
  have HR := hide fun v => h1.store (rC_setRg hp h.rgl hA v) h1.out rfl (by simp [h.rgl])
  obtain ⟨va, hva⟩ : ∃ v, s.rg.getD A 0 = v := ⟨_, rfl⟩
  rw [hva] at ca
  have HV := hide (fun z (hz : Below W1.heap.size W1 z) => answer_any (h1.grew hz) hp va hl)
  rw [hva]
  obtain ⟨r, hr⟩ : ∃ r : Int, (if s.out.length = 8 then 5 else 0) = r := ⟨_, rfl⟩
  rw [hr] at HV ⊢
  obtain ⟨s2, hs2⟩ : ∃ s2, (if s.out.length = 8 then s else { s with out := s.out ++ [va] }) = s2 := ⟨_, rfl⟩
  rw [hs2] at HV ⊢
  have HW1 := hide hW1
  clear h h1 hx hA hB hp hW1 hf ho hl
  go_enter Tryd.func50, Tryd.ntmps50
  go_wp2_with (rw [unhide HW1])
  go_quiet (fail)
  go_wp2_with (go_at_call 64; refine (unhide HV _ (by first | exact (Below.refl _ _).drew | exact Below.drewN (Below.refl _ _) _ | exact (Below.drewN (Below.refl _ _) _).drew | exact Below.drewN ((Below.refl _ _).drew) _ | exact Below.refl _ _)).mono ?_; rintro e z1 ⟨rfl, hz1⟩; have HZ := hide hz1; clear hz1)
  go_ret
  exact ⟨rfl, unhide HZ⟩

set_option maxHeartbeats 1600000 in
theorem do_abort {w0 w : World} {b : Nat} {E : Env} {P : Tp} {s : Mc} {ov : Value} (h : RunIs w0 b E P s ov w) (ho : RunOf w0 E P) (ad : Int) (im : Int) (A B : Nat) (hA : A < 8) (hB : B < 8) (h0 : 0 ≤ im) (h255 : im ≤ 65535) :
    Calls Tryd.prog 50 #[.pointer (some ⟨b, 0, none⟩), .agg #[.int .i64 ad, .int .i64 25, .int .i64 (A : Int), .int .i64 (B : Int), .int .i64 im]] w fun e w' => e = .returned (.int .i64 (100 + im)) ∧ RunIs w0 b E P s ov w' := by
  have hp := ho.pll
  obtain ⟨W1, hW1⟩ : ∃ W, w.alloc (.cells #[.int .i64 ad, .int .i64 25, .int .i64 (A : Int), .int .i64 (B : Int), .int .i64 im] 89) = W := ⟨_, rfl⟩
  have h1 : RunIs w0 b E P s ov W1 := hW1 ▸ h.grew (below_box _)
  have hx : W1.heap[w.heap.size]? = some (.cells #[.int .i64 ad, .int .i64 25, .int .i64 (A : Int), .int .i64 (B : Int), .int .i64 im] 89) := hW1 ▸ heap_alloc_new w _
  have x1 : W1.cell? ⟨w.heap.size, 1, none⟩ = some (.int .i64 25) := cell_at hx
  have x2 : W1.cell? ⟨w.heap.size, 2, none⟩ = some (.int .i64 (A : Int)) := cell_at hx
  have x3 : W1.cell? ⟨w.heap.size, 3, none⟩ = some (.int .i64 (B : Int)) := cell_at hx
  have x4 : W1.cell? ⟨w.heap.size, 4, none⟩ = some (.int .i64 im) := cell_at hx
  have ca : W1.cell? ⟨b, 521 + A, none⟩ = some (.int .i64 (s.rg.getD A 0)) := (h1.cell _).trans (rC_rg hp h.rgl hA)
  have cb : W1.cell? ⟨b, 521 + B, none⟩ = some (.int .i64 (s.rg.getD B 0)) := (h1.cell _).trans (rC_rg hp h.rgl hB)
  have hA0 : (A : Int) < 8 := by omega
  have hB0 : (B : Int) < 8 := by omega
  have hf : ∀ i, W1.frozen? ⟨b, i, none⟩ = false := fun i => frozen_of_heap h1.blk
  have hfa := hf (521 + A)
  have HR := hide fun v => h1.store (rC_setRg hp h.rgl hA v) h1.out rfl (by simp [h.rgl])
  have HN := hide h1
  have hw : wrap64 (100 + im) = 100 + im := by unfold wrap64; omega
  have HW1 := hide hW1
  clear h h1 hx hA hB hp hW1 hf ho h0 h255
  go_enter Tryd.func50, Tryd.ntmps50
  go_wp2_with (rw [unhide HW1])
  go_quiet (fail)
  go_wp2
  go_ret
  exact ⟨retInt (by first | rfl | exact hw | exact hw.symm), (unhide HN).drewN _⟩
end Go.Proofs.YtldapckooohigaaDoor

/- do: binary. -/
namespace Go.Proofs.YtldapckooohigaaDoor
open Go.RowKit
set_option maxRecDepth 100000
set_option maxHeartbeats 1600000 in
theorem do_binary {w0 w : World} {b : Nat} {E : Env} {P : Tp} {s : Mc} {ov : Value} (h : RunIs w0 b E P s ov w) (ho : RunOf w0 E P) (op : Int) (ad : Int) (im : Int) (A B : Nat) (hA : A < 8) (hB : B < 8) (n0 : ¬ op = 0) (n1 : ¬ op = 1) (n2 : ¬ op = 2) (n7 : ¬ op = 7) (n3 : ¬ op = 3) (n4 : ¬ op = 4) (n5 : ¬ op = 5) (n6 : ¬ op = 6) (n19 : ¬ op = 19) (n22 : ¬ op = 22) (n23 : ¬ op = 23) (n24 : ¬ op = 24) (n25 : ¬ op = 25) (n26 : ¬ op = 26) (n27 : ¬ op = 27) :
    Calls Tryd.prog 50 #[.pointer (some ⟨b, 0, none⟩), .agg #[.int .i64 ad, .int .i64 op, .int .i64 (A : Int), .int .i64 (B : Int), .int .i64 im]] w fun e w' => e = .returned (.int .i64 (binP op (s.rg.getD A 0) (s.rg.getD B 0)).2) ∧ RunIs w0 b E P { s with rg := s.rg.set A ((binP op (s.rg.getD A 0) (s.rg.getD B 0)).1) } ov w' := by
  have hp := ho.pll
  obtain ⟨W1, hW1⟩ : ∃ W, w.alloc (.cells #[.int .i64 ad, .int .i64 op, .int .i64 (A : Int), .int .i64 (B : Int), .int .i64 im] 89) = W := ⟨_, rfl⟩
  have h1 : RunIs w0 b E P s ov W1 := hW1 ▸ h.grew (below_box _)
  have hx : W1.heap[w.heap.size]? = some (.cells #[.int .i64 ad, .int .i64 op, .int .i64 (A : Int), .int .i64 (B : Int), .int .i64 im] 89) := hW1 ▸ heap_alloc_new w _
  have x1 : W1.cell? ⟨w.heap.size, 1, none⟩ = some (.int .i64 op) := cell_at hx
  have x2 : W1.cell? ⟨w.heap.size, 2, none⟩ = some (.int .i64 (A : Int)) := cell_at hx
  have x3 : W1.cell? ⟨w.heap.size, 3, none⟩ = some (.int .i64 (B : Int)) := cell_at hx
  have x4 : W1.cell? ⟨w.heap.size, 4, none⟩ = some (.int .i64 im) := cell_at hx
  have ca : W1.cell? ⟨b, 521 + A, none⟩ = some (.int .i64 (s.rg.getD A 0)) := (h1.cell _).trans (rC_rg hp h.rgl hA)
  have cb : W1.cell? ⟨b, 521 + B, none⟩ = some (.int .i64 (s.rg.getD B 0)) := (h1.cell _).trans (rC_rg hp h.rgl hB)
  have hA0 : (A : Int) < 8 := by omega
  have hB0 : (B : Int) < 8 := by omega
  have hf : ∀ i, W1.frozen? ⟨b, i, none⟩ = false := fun i => frozen_of_heap h1.blk
  have hfa := hf (521 + A)
  have HR := hide fun v => h1.store (rC_setRg hp h.rgl hA v) h1.out rfl (by simp [h.rgl])
  obtain ⟨va, hva⟩ : ∃ v, s.rg.getD A 0 = v := ⟨_, rfl⟩
  rw [hva] at ca
  obtain ⟨vb, hvb⟩ : ∃ v, s.rg.getD B 0 = v := ⟨_, rfl⟩
  rw [hvb] at cb
  rw [hva, hvb]
  obtain ⟨p, hpp⟩ : ∃ p, binP op va vb = p := ⟨_, rfl⟩
  have k0 : (op == 0) = false := by simpa using n0
  have k1 : (op == 1) = false := by simpa using n1
  have k2 : (op == 2) = false := by simpa using n2
  have k7 : (op == 7) = false := by simpa using n7
  have k3 : (op == 3) = false := by simpa using n3
  have k4 : (op == 4) = false := by simpa using n4
  have k5 : (op == 5) = false := by simpa using n5
  have k6 : (op == 6) = false := by simpa using n6
  have k19 : (op == 19) = false := by simpa using n19
  have k22 : (op == 22) = false := by simpa using n22
  have k23 : (op == 23) = false := by simpa using n23
  have k24 : (op == 24) = false := by simpa using n24
  have k25 : (op == 25) = false := by simpa using n25
  have k26 : (op == 26) = false := by simpa using n26
  have k27 : (op == 27) = false := by simpa using n27
  have HV := hide (fun z => binary_any op va vb z)
  rw [hpp] at HV ⊢
  have HCA := hide (fun (z : World) (hz : Below W1.heap.size W1 z) => (⟨(hz.cell (World.block_lt_of_cell? W1 _ ca)).trans ca, frozen_of_heap (h1.grew hz).blk⟩ : z.cell? ⟨b, 521 + A, none⟩ = some (.int .i64 va) ∧ z.frozen? ⟨b, 521 + A, none⟩ = false))
  have HS := hide (fun (z : World) (v : Int) (hz : Below W1.heap.size W1 z) => (h1.grew hz).store (rC_setRg hp h.rgl hA v) (h1.grew hz).out rfl (by simp [h.rgl]))
  have HW1 := hide hW1
  clear h h1 hx hA hB hp hW1 hf ho n0 n1 n2 n7 n3 n4 n5 n6 n19 n22 n23 n24 n25 n26 n27 hva hvb hpp
  go_enter Tryd.func50, Tryd.ntmps50
  go_wp2_with (rw [unhide HW1])
  go_quiet (fail)
  go_wp2
  go_region_with (go_at_call 8; refine (unhide HV _).mono ?_; rintro e z1 ⟨rfl, rfl⟩)
  all_goals
    go_wp2
    go_ret
    exact ⟨rfl, unhide HS _ p.1 (by first | exact (Below.refl _ _).drew | exact Below.drewN (Below.refl _ _) _ | exact (Below.drewN (Below.refl _ _) _).drew | exact Below.drewN ((Below.refl _ _).drew) _ | exact Below.refl _ _)⟩
end Go.Proofs.YtldapckooohigaaDoor
