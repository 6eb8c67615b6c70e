/- do: loadAt, storeAt. -/
import Derived.Test.YtldapckooohigaaDoorJF
namespace Go.Proofs.YtldapckooohigaaDoor
open Go.RowKit
set_option maxRecDepth 100000
set_option maxHeartbeats 1600000 in
theorem do_loadAt0 {w0 w : World} {b : Nat} {E : Env} {P : Tp} {s : Mc} {ov : Value} (h : RunIs w0 b E P s ov w) (ho : RunOf w0 E P) (ad : Int) (I : Nat) (A B : Nat) (hA : A < 8) (hB : B < 8) (hI : I ≤ 65535) (hin : ((I : Int), s.rg.getD B 0) ∉ P.rs) :
    Calls Tryd.prog 50 #[.pointer (some ⟨b, 0, none⟩), .agg #[.int .i64 ad, .int .i64 26, .int .i64 (A : Int), .int .i64 (B : Int), .int .i64 (I : Int)]] w fun e w' => e = .returned (.int .i64 4) ∧ RunIs w0 b E P s ov w' := by
  have hp := ho.pll
  obtain ⟨W1, hW1⟩ : ∃ W, w.alloc (.cells #[.int .i64 ad, .int .i64 26, .int .i64 (A : Int), .int .i64 (B : Int), .int .i64 (I : Int)] 89) = W := ⟨_, rfl⟩
  have h1 : RunIs w0 b E P s ov W1 := hW1 ▸ h.grew (below_box _)
  have hx : W1.heap[w.heap.size]? = some (.cells #[.int .i64 ad, .int .i64 26, .int .i64 (A : Int), .int .i64 (B : Int), .int .i64 (I : Int)] 89) := hW1 ▸ heap_alloc_new w _
  have x1 : W1.cell? ⟨w.heap.size, 1, none⟩ = some (.int .i64 26) := cell_at hx
  have x2 : W1.cell? ⟨w.heap.size, 2, none⟩ = some (.int .i64 (A : Int)) := cell_at hx
  have x3 : W1.cell? ⟨w.heap.size, 3, none⟩ = some (.int .i64 (B : Int)) := cell_at hx
  have x4 : W1.cell? ⟨w.heap.size, 4, none⟩ = some (.int .i64 (I : Int)) := cell_at hx
  have ca : W1.cell? ⟨b, 521 + A, none⟩ = some (.int .i64 (s.rg.getD A 0)) := (h1.cell _).trans (rC_rg hp h.rgl hA)
  have cb : W1.cell? ⟨b, 521 + B, none⟩ = some (.int .i64 (s.rg.getD B 0)) := (h1.cell _).trans (rC_rg hp h.rgl hB)
  have hA0 : (A : Int) < 8 := by omega
  have hB0 : (B : Int) < 8 := by omega
  have hf : ∀ i, W1.frozen? ⟨b, i, none⟩ = false := fun i => frozen_of_heap h1.blk
  have hfa := hf (521 + A)
  have HR := hide fun v => h1.store (rC_setRg hp h.rgl hA v) h1.out rfl (by simp [h.rgl])
  obtain ⟨va, hva⟩ : ∃ v, s.rg.getD A 0 = v := ⟨_, rfl⟩
  rw [hva] at ca
  obtain ⟨vb, hvb⟩ : ∃ v, s.rg.getD B 0 = v := ⟨_, rfl⟩
  rw [hvb] at cb
  rw [hvb] at hin
  try rw [hvb]
  have hw32 : wrap32 (I : Int) = (I : Int) := by unfold wrap32; omega
  have cs3 : W1.cell? ⟨b, 4, none⟩ = some E.rv := (h1.cell _).trans ((rC_hd (by omega)).trans rfl)
  have HX := hide (fun (z : World) (hz : Below W1.heap.size W1 z) => (⟨(hz.cell (World.block_lt_of_cell? W1 _ x1)).trans x1, (hz.cell (World.block_lt_of_cell? W1 _ x4)).trans x4, (hz.cell (World.block_lt_of_cell? W1 _ ca)).trans ca, (hz.cell (World.block_lt_of_cell? W1 _ cs3)).trans cs3, frozen_of_heap (h1.grew hz).blk⟩ : z.cell? ⟨w.heap.size, 1, none⟩ = some (.int .i64 26) ∧ z.cell? ⟨w.heap.size, 4, none⟩ = some (.int .i64 (I : Int)) ∧ z.cell? ⟨b, 521 + A, none⟩ = some (.int .i64 va) ∧ z.cell? ⟨b, 4, none⟩ = some E.rv ∧ z.frozen? ⟨b, 521 + A, none⟩ = false))
  have HH : Hid (∀ z, Below W1.heap.size W1 z → Calls Tryd.prog 65 #[E.rv, .agg #[.int .i32 (I : Int), .int .i64 vb]] z fun e z1 => e = .returned (.bool false) ∧ Below z.heap.size z z1) := fun z hz => by
    have := shas_any ((ho.rss.below kC_len h1.bel).below kC_len hz) (I : Int) vb
    rw [decide_eq_false hin] at this
    exact this.mono fun e z1 ⟨q1, q2⟩ => ⟨q1, q2.below⟩
  have HD := hide (fun (z : World) (hz : Below W1.heap.size W1 z) => h1.grew hz)
  have HW1 := hide hW1
  clear h h1 hx hA hB hp hW1 hf ho hI hin cs3
  go_enter Tryd.func50, Tryd.ntmps50
  go_wp2_with (rw [unhide HW1])
  go_quiet (fail)
  generalize hW2 : W1.drewN _ = W2
  have hb2 : Below W1.heap.size W1 W2 := hW2 ▸ Below.drewN (Below.refl _ _) _
  obtain ⟨y1, y4, ya, y3, yf⟩ := unhide HX W2 hb2
  have y3' : (W2.alloc (.cells #[.int .i32 (I : Int), .int .i64 vb] 38)).cell? ⟨b, 4, none⟩ = some E.rv := ((below_box _).cell (World.block_lt_of_cell? W2 _ y3)).trans y3
  have HB3 : Hid (Below W1.heap.size W1 (W2.alloc (.cells #[.int .i32 (I : Int), .int .i64 vb] 38))) := hb2.alloc hb2.size _
  have HK : Hid (∀ z, Below (W2.alloc (.cells #[.int .i32 (I : Int), .int .i64 vb] 38)).heap.size (W2.alloc (.cells #[.int .i32 (I : Int), .int .i64 vb] 38)) z → z.cell? ⟨W2.heap.size, 0, none⟩ = some (.int .i32 (I : Int)) ∧ z.cell? ⟨W2.heap.size, 1, none⟩ = some (.int .i64 vb)) := fun z hz => ⟨(hz.cell (by simp)).trans (cell_at (heap_alloc_new W2 _)), (hz.cell (by simp)).trans (cell_at (heap_alloc_new W2 _))⟩
  have HW2 := hide hW2
  clear hb2 hW2 y3 ya yf
  go_wp2
  go_region_with (go_at_call 65; refine (unhide HH _ (by first | exact (unhide HB3).drew | exact unhide HB3)).mono ?_; rintro e z1 ⟨rfl, hz⟩; have HZ1 : Hid (Below (W2.alloc (.cells #[.int .i32 (I : Int), .int .i64 vb] 38)).heap.size (W2.alloc (.cells #[.int .i32 (I : Int), .int .i64 vb] 38)) z1) := Below.trans (by first | exact (Below.refl _ _).drew | exact Below.refl _ _) (hz.mono (by simp)); clear hz)
  all_goals
    go_wp2
    go_ret
    exact ⟨rfl, unhide HD _ ((unhide HB3).trans ((unhide HZ1).mono (unhide HB3).size))⟩

set_option maxHeartbeats 1600000 in
theorem do_loadAt1 {w0 w : World} {b : Nat} {E : Env} {P : Tp} {s : Mc} {ov : Value} (h : RunIs w0 b E P s ov w) (ho : RunOf w0 E P) (ad : Int) (I : Nat) (A B : Nat) (hA : A < 8) (hB : B < 8) (hI : I ≤ 65535) (hin : ((I : Int), s.rg.getD B 0) ∈ P.rs) :
    Calls Tryd.prog 50 #[.pointer (some ⟨b, 0, none⟩), .agg #[.int .i64 ad, .int .i64 26, .int .i64 (A : Int), .int .i64 (B : Int), .int .i64 (I : Int)]] w fun e w' => e = .returned (.int .i64 0) ∧ RunIs w0 b E P { s with rg := s.rg.set A ((valP P s ((I : Int), s.rg.getD B 0)).getD 0) } ov w' := by
  have hp := ho.pll
  obtain ⟨W1, hW1⟩ : ∃ W, w.alloc (.cells #[.int .i64 ad, .int .i64 26, .int .i64 (A : Int), .int .i64 (B : Int), .int .i64 (I : Int)] 89) = W := ⟨_, rfl⟩
  have h1 : RunIs w0 b E P s ov W1 := hW1 ▸ h.grew (below_box _)
  have hx : W1.heap[w.heap.size]? = some (.cells #[.int .i64 ad, .int .i64 26, .int .i64 (A : Int), .int .i64 (B : Int), .int .i64 (I : Int)] 89) := hW1 ▸ heap_alloc_new w _
  have x1 : W1.cell? ⟨w.heap.size, 1, none⟩ = some (.int .i64 26) := cell_at hx
  have x2 : W1.cell? ⟨w.heap.size, 2, none⟩ = some (.int .i64 (A : Int)) := cell_at hx
  have x3 : W1.cell? ⟨w.heap.size, 3, none⟩ = some (.int .i64 (B : Int)) := cell_at hx
  have x4 : W1.cell? ⟨w.heap.size, 4, none⟩ = some (.int .i64 (I : Int)) := cell_at hx
  have ca : W1.cell? ⟨b, 521 + A, none⟩ = some (.int .i64 (s.rg.getD A 0)) := (h1.cell _).trans (rC_rg hp h.rgl hA)
  have cb : W1.cell? ⟨b, 521 + B, none⟩ = some (.int .i64 (s.rg.getD B 0)) := (h1.cell _).trans (rC_rg hp h.rgl hB)
  have hA0 : (A : Int) < 8 := by omega
  have hB0 : (B : Int) < 8 := by omega
  have hf : ∀ i, W1.frozen? ⟨b, i, none⟩ = false := fun i => frozen_of_heap h1.blk
  have hfa := hf (521 + A)
  have HR := hide fun v => h1.store (rC_setRg hp h.rgl hA v) h1.out rfl (by simp [h.rgl])
  obtain ⟨va, hva⟩ : ∃ v, s.rg.getD A 0 = v := ⟨_, rfl⟩
  rw [hva] at ca
  obtain ⟨vb, hvb⟩ : ∃ v, s.rg.getD B 0 = v := ⟨_, rfl⟩
  rw [hvb] at cb
  rw [hvb] at hin
  try rw [hvb]
  have hok : OkK ((I : Int), vb) := ho.okr _ hin
  have hw32 : wrap32 (I : Int) = (I : Int) := by unfold wrap32; omega
  have cs3 : W1.cell? ⟨b, 4, none⟩ = some E.rv := (h1.cell _).trans ((rC_hd (by omega)).trans rfl)
  have HX := hide (fun (z : World) (hz : Below W1.heap.size W1 z) => (⟨(hz.cell (World.block_lt_of_cell? W1 _ x1)).trans x1, (hz.cell (World.block_lt_of_cell? W1 _ x4)).trans x4, (hz.cell (World.block_lt_of_cell? W1 _ ca)).trans ca, (hz.cell (World.block_lt_of_cell? W1 _ cs3)).trans cs3, frozen_of_heap (h1.grew hz).blk⟩ : z.cell? ⟨w.heap.size, 1, none⟩ = some (.int .i64 26) ∧ z.cell? ⟨w.heap.size, 4, none⟩ = some (.int .i64 (I : Int)) ∧ z.cell? ⟨b, 521 + A, none⟩ = some (.int .i64 va) ∧ z.cell? ⟨b, 4, none⟩ = some E.rv ∧ z.frozen? ⟨b, 521 + A, none⟩ = false))
  have HH : Hid (∀ z, Below W1.heap.size W1 z → Calls Tryd.prog 65 #[E.rv, .agg #[.int .i32 (I : Int), .int .i64 vb]] z fun e z1 => e = .returned (.bool true) ∧ Below z.heap.size z z1) := fun z hz => by
    have := shas_any ((ho.rss.below kC_len h1.bel).below kC_len hz) (I : Int) vb
    rw [decide_eq_true hin] at this
    exact this.mono fun e z1 ⟨q1, q2⟩ => ⟨q1, q2.below⟩
  have HD := hide (fun (z : World) (hz : Below W1.heap.size W1 z) => h1.grew hz)
  have HV := hide (fun z (hz : Below W1.heap.size W1 z) => value_any (h1.grew hz) ho ((I : Int), vb) hok)
  obtain ⟨vo, hvo⟩ : ∃ v, valP P s ((I : Int), vb) = v := ⟨_, rfl⟩
  simp only [hvo] at HV ⊢
  have HCA := hide (fun (z : World) (hz : Below W1.heap.size W1 z) => (⟨(hz.cell (World.block_lt_of_cell? W1 _ ca)).trans ca, frozen_of_heap (h1.grew hz).blk⟩ : z.cell? ⟨b, 521 + A, none⟩ = some (.int .i64 va) ∧ z.frozen? ⟨b, 521 + A, none⟩ = false))
  have HS := hide (fun (z : World) (v : Int) (hz : Below W1.heap.size W1 z) => (h1.grew hz).store (rC_setRg hp h.rgl hA v) (h1.grew hz).out rfl (by simp [h.rgl]))
  have HW1 := hide hW1
  clear h h1 hx hA hB hp hW1 hf ho hI hin hok cs3
  go_enter Tryd.func50, Tryd.ntmps50
  go_wp2_with (rw [unhide HW1])
  go_quiet (fail)
  generalize hW2 : W1.drewN _ = W2
  have hb2 : Below W1.heap.size W1 W2 := hW2 ▸ Below.drewN (Below.refl _ _) _
  obtain ⟨y1, y4, ya, y3, yf⟩ := unhide HX W2 hb2
  have y3' : (W2.alloc (.cells #[.int .i32 (I : Int), .int .i64 vb] 38)).cell? ⟨b, 4, none⟩ = some E.rv := ((below_box _).cell (World.block_lt_of_cell? W2 _ y3)).trans y3
  have HB3 : Hid (Below W1.heap.size W1 (W2.alloc (.cells #[.int .i32 (I : Int), .int .i64 vb] 38))) := hb2.alloc hb2.size _
  have HK : Hid (∀ z, Below (W2.alloc (.cells #[.int .i32 (I : Int), .int .i64 vb] 38)).heap.size (W2.alloc (.cells #[.int .i32 (I : Int), .int .i64 vb] 38)) z → z.cell? ⟨W2.heap.size, 0, none⟩ = some (.int .i32 (I : Int)) ∧ z.cell? ⟨W2.heap.size, 1, none⟩ = some (.int .i64 vb)) := fun z hz => ⟨(hz.cell (by simp)).trans (cell_at (heap_alloc_new W2 _)), (hz.cell (by simp)).trans (cell_at (heap_alloc_new W2 _))⟩
  have HW2 := hide hW2
  clear hb2 hW2 y3 ya yf
  go_wp2
  go_region_with (go_at_call 65; refine (unhide HH _ (by first | exact (unhide HB3).drew | exact unhide HB3)).mono ?_; rintro e z1 ⟨rfl, hz⟩; have HZ1 : Hid (Below (W2.alloc (.cells #[.int .i32 (I : Int), .int .i64 vb] 38)).heap.size (W2.alloc (.cells #[.int .i32 (I : Int), .int .i64 vb] 38)) z1) := Below.trans (by first | exact (Below.refl _ _).drew | exact Below.refl _ _) (hz.mono (by simp)); clear hz)
  all_goals
    obtain ⟨u0, u1⟩ := unhide HK z1 (unhide HZ1)
    have HB4 : Hid (Below W1.heap.size W1 z1) := (unhide HB3).trans ((unhide HZ1).mono (unhide HB3).size)
    go_wp2_with (go_at_call 62; refine (unhide HV _ (unhide HB4)).mono ?_; rintro e z2 ⟨rfl, hz⟩; have hz2 : Below W1.heap.size W1 z2 := (unhide HB4).trans (hz.mono (unhide HB4).size); have hz3 := (unhide HCA z2 hz2).1; have hz4 := (unhide HCA z2 hz2).2; have HZ2 := hide hz2; clear hz hz2)
    go_ret
    exact ⟨rfl, unhide HS z2 (vo.getD 0) (unhide HZ2)⟩

set_option maxHeartbeats 1600000 in
theorem do_storeAt0 {w0 w : World} {b : Nat} {E : Env} {P : Tp} {s : Mc} {ov : Value} (h : RunIs w0 b E P s ov w) (ho : RunOf w0 E P) (ad : Int) (I : Nat) (A B : Nat) (hA : A < 8) (hB : B < 8) (hI : I ≤ 65535) (hin : ((I : Int), s.rg.getD B 0) ∉ P.ws) :
    Calls Tryd.prog 50 #[.pointer (some ⟨b, 0, none⟩), .agg #[.int .i64 ad, .int .i64 27, .int .i64 (A : Int), .int .i64 (B : Int), .int .i64 (I : Int)]] w fun e w' => e = .returned (.int .i64 4) ∧ RunIs w0 b E P s ov w' := by
  have hp := ho.pll
  obtain ⟨W1, hW1⟩ : ∃ W, w.alloc (.cells #[.int .i64 ad, .int .i64 27, .int .i64 (A : Int), .int .i64 (B : Int), .int .i64 (I : Int)] 89) = W := ⟨_, rfl⟩
  have h1 : RunIs w0 b E P s ov W1 := hW1 ▸ h.grew (below_box _)
  have hx : W1.heap[w.heap.size]? = some (.cells #[.int .i64 ad, .int .i64 27, .int .i64 (A : Int), .int .i64 (B : Int), .int .i64 (I : Int)] 89) := hW1 ▸ heap_alloc_new w _
  have x1 : W1.cell? ⟨w.heap.size, 1, none⟩ = some (.int .i64 27) := cell_at hx
  have x2 : W1.cell? ⟨w.heap.size, 2, none⟩ = some (.int .i64 (A : Int)) := cell_at hx
  have x3 : W1.cell? ⟨w.heap.size, 3, none⟩ = some (.int .i64 (B : Int)) := cell_at hx
  have x4 : W1.cell? ⟨w.heap.size, 4, none⟩ = some (.int .i64 (I : Int)) := cell_at hx
  have ca : W1.cell? ⟨b, 521 + A, none⟩ = some (.int .i64 (s.rg.getD A 0)) := (h1.cell _).trans (rC_rg hp h.rgl hA)
  have cb : W1.cell? ⟨b, 521 + B, none⟩ = some (.int .i64 (s.rg.getD B 0)) := (h1.cell _).trans (rC_rg hp h.rgl hB)
  have hA0 : (A : Int) < 8 := by omega
  have hB0 : (B : Int) < 8 := by omega
  have hf : ∀ i, W1.frozen? ⟨b, i, none⟩ = false := fun i => frozen_of_heap h1.blk
  have hfa := hf (521 + A)
  have HR := hide fun v => h1.store (rC_setRg hp h.rgl hA v) h1.out rfl (by simp [h.rgl])
  obtain ⟨va, hva⟩ : ∃ v, s.rg.getD A 0 = v := ⟨_, rfl⟩
  rw [hva] at ca
  obtain ⟨vb, hvb⟩ : ∃ v, s.rg.getD B 0 = v := ⟨_, rfl⟩
  rw [hvb] at cb
  rw [hvb] at hin
  try rw [hvb]
  have hw32 : wrap32 (I : Int) = (I : Int) := by unfold wrap32; omega
  have cs3 : W1.cell? ⟨b, 5, none⟩ = some E.wv := (h1.cell _).trans ((rC_hd (by omega)).trans rfl)
  have HX := hide (fun (z : World) (hz : Below W1.heap.size W1 z) => (⟨(hz.cell (World.block_lt_of_cell? W1 _ x1)).trans x1, (hz.cell (World.block_lt_of_cell? W1 _ x4)).trans x4, (hz.cell (World.block_lt_of_cell? W1 _ ca)).trans ca, (hz.cell (World.block_lt_of_cell? W1 _ cs3)).trans cs3, frozen_of_heap (h1.grew hz).blk⟩ : z.cell? ⟨w.heap.size, 1, none⟩ = some (.int .i64 27) ∧ z.cell? ⟨w.heap.size, 4, none⟩ = some (.int .i64 (I : Int)) ∧ z.cell? ⟨b, 521 + A, none⟩ = some (.int .i64 va) ∧ z.cell? ⟨b, 5, none⟩ = some E.wv ∧ z.frozen? ⟨b, 521 + A, none⟩ = false))
  have HH : Hid (∀ z, Below W1.heap.size W1 z → Calls Tryd.prog 65 #[E.wv, .agg #[.int .i32 (I : Int), .int .i64 vb]] z fun e z1 => e = .returned (.bool false) ∧ Below z.heap.size z z1) := fun z hz => by
    have := shas_any ((ho.wss.below kC_len h1.bel).below kC_len hz) (I : Int) vb
    rw [decide_eq_false hin] at this
    exact this.mono fun e z1 ⟨q1, q2⟩ => ⟨q1, q2.below⟩
  have HD := hide (fun (z : World) (hz : Below W1.heap.size W1 z) => h1.grew hz)
  have HW1 := hide hW1
  clear h h1 hx hA hB hp hW1 hf ho hI hin cs3
  go_enter Tryd.func50, Tryd.ntmps50
  go_wp2_with (rw [unhide HW1])
  go_quiet (fail)
  generalize hW2 : W1.drewN _ = W2
  have hb2 : Below W1.heap.size W1 W2 := hW2 ▸ Below.drewN (Below.refl _ _) _
  obtain ⟨y1, y4, ya, y3, yf⟩ := unhide HX W2 hb2
  have y3' : (W2.alloc (.cells #[.int .i32 (I : Int), .int .i64 vb] 38)).cell? ⟨b, 5, none⟩ = some E.wv := ((below_box _).cell (World.block_lt_of_cell? W2 _ y3)).trans y3
  have HB3 : Hid (Below W1.heap.size W1 (W2.alloc (.cells #[.int .i32 (I : Int), .int .i64 vb] 38))) := hb2.alloc hb2.size _
  have HK : Hid (∀ z, Below (W2.alloc (.cells #[.int .i32 (I : Int), .int .i64 vb] 38)).heap.size (W2.alloc (.cells #[.int .i32 (I : Int), .int .i64 vb] 38)) z → z.cell? ⟨W2.heap.size, 0, none⟩ = some (.int .i32 (I : Int)) ∧ z.cell? ⟨W2.heap.size, 1, none⟩ = some (.int .i64 vb)) := fun z hz => ⟨(hz.cell (by simp)).trans (cell_at (heap_alloc_new W2 _)), (hz.cell (by simp)).trans (cell_at (heap_alloc_new W2 _))⟩
  have HW2 := hide hW2
  clear hb2 hW2 y3 ya yf
  go_wp2
  go_region_with (go_at_call 65; refine (unhide HH _ (by first | exact (unhide HB3).drew | exact unhide HB3)).mono ?_; rintro e z1 ⟨rfl, hz⟩; have HZ1 : Hid (Below (W2.alloc (.cells #[.int .i32 (I : Int), .int .i64 vb] 38)).heap.size (W2.alloc (.cells #[.int .i32 (I : Int), .int .i64 vb] 38)) z1) := Below.trans (by first | exact (Below.refl _ _).drew | exact Below.refl _ _) (hz.mono (by simp)); clear hz)
  all_goals
    go_wp2
    go_ret
    exact ⟨rfl, unhide HD _ ((unhide HB3).trans ((unhide HZ1).mono (unhide HB3).size))⟩

set_option maxHeartbeats 1600000 in
theorem do_storeAt1 {w0 w : World} {b : Nat} {E : Env} {P : Tp} {s : Mc} {ov : Value} (h : RunIs w0 b E P s ov w) (ho : RunOf w0 E P) (ad : Int) (I : Nat) (A B : Nat) (hA : A < 8) (hB : B < 8) (hI : I ≤ 65535) (hin : ((I : Int), s.rg.getD B 0) ∈ P.ws) :
    Calls Tryd.prog 50 #[.pointer (some ⟨b, 0, none⟩), .agg #[.int .i64 ad, .int .i64 27, .int .i64 (A : Int), .int .i64 (B : Int), .int .i64 (I : Int)]] w fun e w' => e = .returned (.int .i64 0) ∧ RunIs w0 b E P (wrP s (((I : Int), s.rg.getD B 0), (s.rg.getD A 0, false))) ov w' := by
  have hp := ho.pll
  obtain ⟨W1, hW1⟩ : ∃ W, w.alloc (.cells #[.int .i64 ad, .int .i64 27, .int .i64 (A : Int), .int .i64 (B : Int), .int .i64 (I : Int)] 89) = W := ⟨_, rfl⟩
  have h1 : RunIs w0 b E P s ov W1 := hW1 ▸ h.grew (below_box _)
  have hx : W1.heap[w.heap.size]? = some (.cells #[.int .i64 ad, .int .i64 27, .int .i64 (A : Int), .int .i64 (B : Int), .int .i64 (I : Int)] 89) := hW1 ▸ heap_alloc_new w _
  have x1 : W1.cell? ⟨w.heap.size, 1, none⟩ = some (.int .i64 27) := cell_at hx
  have x2 : W1.cell? ⟨w.heap.size, 2, none⟩ = some (.int .i64 (A : Int)) := cell_at hx
  have x3 : W1.cell? ⟨w.heap.size, 3, none⟩ = some (.int .i64 (B : Int)) := cell_at hx
  have x4 : W1.cell? ⟨w.heap.size, 4, none⟩ = some (.int .i64 (I : Int)) := cell_at hx
  have ca : W1.cell? ⟨b, 521 + A, none⟩ = some (.int .i64 (s.rg.getD A 0)) := (h1.cell _).trans (rC_rg hp h.rgl hA)
  have cb : W1.cell? ⟨b, 521 + B, none⟩ = some (.int .i64 (s.rg.getD B 0)) := (h1.cell _).trans (rC_rg hp h.rgl hB)
  have hA0 : (A : Int) < 8 := by omega
  have hB0 : (B : Int) < 8 := by omega
  have hf : ∀ i, W1.frozen? ⟨b, i, none⟩ = false := fun i => frozen_of_heap h1.blk
  have hfa := hf (521 + A)
  have HR := hide fun v => h1.store (rC_setRg hp h.rgl hA v) h1.out rfl (by simp [h.rgl])
  obtain ⟨va, hva⟩ : ∃ v, s.rg.getD A 0 = v := ⟨_, rfl⟩
  rw [hva] at ca
  obtain ⟨vb, hvb⟩ : ∃ v, s.rg.getD B 0 = v := ⟨_, rfl⟩
  rw [hvb] at cb
  rw [hvb] at hin
  try rw [hvb]
  have hok : OkK ((I : Int), vb) := ho.okw _ hin
  have hw32 : wrap32 (I : Int) = (I : Int) := by unfold wrap32; omega
  have cs3 : W1.cell? ⟨b, 5, none⟩ = some E.wv := (h1.cell _).trans ((rC_hd (by omega)).trans rfl)
  have HX := hide (fun (z : World) (hz : Below W1.heap.size W1 z) => (⟨(hz.cell (World.block_lt_of_cell? W1 _ x1)).trans x1, (hz.cell (World.block_lt_of_cell? W1 _ x4)).trans x4, (hz.cell (World.block_lt_of_cell? W1 _ ca)).trans ca, (hz.cell (World.block_lt_of_cell? W1 _ cs3)).trans cs3, frozen_of_heap (h1.grew hz).blk⟩ : z.cell? ⟨w.heap.size, 1, none⟩ = some (.int .i64 27) ∧ z.cell? ⟨w.heap.size, 4, none⟩ = some (.int .i64 (I : Int)) ∧ z.cell? ⟨b, 521 + A, none⟩ = some (.int .i64 va) ∧ z.cell? ⟨b, 5, none⟩ = some E.wv ∧ z.frozen? ⟨b, 521 + A, none⟩ = false))
  have HH : Hid (∀ z, Below W1.heap.size W1 z → Calls Tryd.prog 65 #[E.wv, .agg #[.int .i32 (I : Int), .int .i64 vb]] z fun e z1 => e = .returned (.bool true) ∧ Below z.heap.size z z1) := fun z hz => by
    have := shas_any ((ho.wss.below kC_len h1.bel).below kC_len hz) (I : Int) vb
    rw [decide_eq_true hin] at this
    exact this.mono fun e z1 ⟨q1, q2⟩ => ⟨q1, q2.below⟩
  have HD := hide (fun (z : World) (hz : Below W1.heap.size W1 z) => h1.grew hz)
  have HV := hide (fun z (hz : Below W1.heap.size W1 z) => write_any (h1.grew hz) hp (((I : Int), vb), (va, false)) hok (by simp))
  rw [hva]
  have HW1 := hide hW1
  clear h h1 hx hA hB hp hW1 hf ho hI hin hok cs3
  go_enter Tryd.func50, Tryd.ntmps50
  go_wp2_with (rw [unhide HW1])
  go_quiet (fail)
  generalize hW2 : W1.drewN _ = W2
  have hb2 : Below W1.heap.size W1 W2 := hW2 ▸ Below.drewN (Below.refl _ _) _
  obtain ⟨y1, y4, ya, y3, yf⟩ := unhide HX W2 hb2
  have y3' : (W2.alloc (.cells #[.int .i32 (I : Int), .int .i64 vb] 38)).cell? ⟨b, 5, none⟩ = some E.wv := ((below_box _).cell (World.block_lt_of_cell? W2 _ y3)).trans y3
  have HB3 : Hid (Below W1.heap.size W1 (W2.alloc (.cells #[.int .i32 (I : Int), .int .i64 vb] 38))) := hb2.alloc hb2.size _
  have HK : Hid (∀ z, Below (W2.alloc (.cells #[.int .i32 (I : Int), .int .i64 vb] 38)).heap.size (W2.alloc (.cells #[.int .i32 (I : Int), .int .i64 vb] 38)) z → z.cell? ⟨W2.heap.size, 0, none⟩ = some (.int .i32 (I : Int)) ∧ z.cell? ⟨W2.heap.size, 1, none⟩ = some (.int .i64 vb)) := fun z hz => ⟨(hz.cell (by simp)).trans (cell_at (heap_alloc_new W2 _)), (hz.cell (by simp)).trans (cell_at (heap_alloc_new W2 _))⟩
  have HW2 := hide hW2
  clear hb2 hW2 y3 ya yf
  go_wp2
  go_region_with (go_at_call 65; refine (unhide HH _ (by first | exact (unhide HB3).drew | exact unhide HB3)).mono ?_; rintro e z1 ⟨rfl, hz⟩; have HZ1 : Hid (Below (W2.alloc (.cells #[.int .i32 (I : Int), .int .i64 vb] 38)).heap.size (W2.alloc (.cells #[.int .i32 (I : Int), .int .i64 vb] 38)) z1) := Below.trans (by first | exact (Below.refl _ _).drew | exact Below.refl _ _) (hz.mono (by simp)); clear hz)
  all_goals
    obtain ⟨u0, u1⟩ := unhide HK z1 (unhide HZ1)
    have HB4 : Hid (Below W1.heap.size W1 z1) := (unhide HB3).trans ((unhide HZ1).mono (unhide HB3).size)
    have ua := (unhide HX z1 (unhide HB4)).2.2.1
    go_wp2
    go_region_with (go_at_call 63; refine (unhide HV _ (by first | exact (unhide HB4).drew | exact unhide HB4)).mono ?_; rintro e z2 ⟨rfl, hz⟩; have HZ := hide hz; clear hz)
    all_goals
      go_wp2
      go_ret
      exact ⟨rfl, unhide HZ⟩
end Go.Proofs.YtldapckooohigaaDoor
