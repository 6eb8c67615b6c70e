/- Bytes: the program's and the document's. -/
import Derived.Test.YtbajggmpklajnabA2
import Derived.Laws.Bits64
namespace Go.Proofs.Ytbajggmpklajnab
open Go.RowKit
set_option maxRecDepth 100000

abbrev Z12 : Array Value := #[.int .u8 0, .int .u8 0, .int .u8 0, .int .u8 0, .int .u8 0, .int .u8 0, .int .u8 0, .int .u8 0, .int .u8 0, .int .u8 0, .int .u8 0, .int .u8 0]
def turnT (t : Int) : Int := bits .xor .u32 (IntKind.u32.wrap t) 2147483648
def turnR (r : Int) : Int := bits .xor .u64 (IntKind.u64.wrap r) 9223372036854775808
abbrev bytesV (T R : Int) : Array Value := #[.int .u8 (T / 256 / 256 / 256 % 256), .int .u8 (T / 256 / 256 % 256), .int .u8 (T / 256 % 256), .int .u8 (T % 256), .int .u8 (R / 256 / 256 / 256 / 256 / 256 / 256 / 256 % 256), .int .u8 (R / 256 / 256 / 256 / 256 / 256 / 256 % 256), .int .u8 (R / 256 / 256 / 256 / 256 / 256 % 256), .int .u8 (R / 256 / 256 / 256 / 256 % 256), .int .u8 (R / 256 / 256 / 256 % 256), .int .u8 (R / 256 / 256 % 256), .int .u8 (R / 256 % 256), .int .u8 (R % 256)]

set_option maxHeartbeats 1600000 in
theorem bytes_any (t r : Int) (w : World) : Calls Try.prog 15 #[.agg #[.int .i32 t, .int .i64 r]] w fun e w' => e = .returned (.agg (bytesV (turnT t) (turnR r))) ∧ Grew w w' := by
  obtain ⟨y, hy⟩ : ∃ y, w.alloc (.cells #[.int .i32 t, .int .i64 r] 27) = y := ⟨_, rfl⟩
  have hg : Grew w y := hy ▸ grew_alloc (grew_refl _) _
  have g0 : y.cell? ⟨w.heap.size, 0, none⟩ = some (.int .i32 t) := by rw [← hy]; exact cell_at (heap_alloc_new w _)
  have g1 : y.cell? ⟨w.heap.size, 1, none⟩ = some (.int .i64 r) := by rw [← hy]; exact cell_at (heap_alloc_new w _)
  have HG := hide hg
  have hlt : w.heap.size < y.heap.size := by rw [← hy]; simp
  have HS : Hid (((y.alloc (.cells Z12 44)).alloc (.cells Z12 44)).drew.cell? ⟨w.heap.size, 0, none⟩ = some (.int .i32 t) ∧ ((y.alloc (.cells Z12 44)).alloc (.cells Z12 44)).drew.cell? ⟨w.heap.size, 1, none⟩ = some (.int .i64 r)) := by
    have hb : Below y.heap.size y ((y.alloc (.cells Z12 44)).alloc (.cells Z12 44)).drew := ((Below.refl _ _).alloc (Nat.le_refl _) _ |>.alloc (by simp) _).drew
    exact ⟨(hb.cell (p := ⟨w.heap.size, 0, none⟩) hlt).trans g0, (hb.cell (p := ⟨w.heap.size, 1, none⟩) hlt).trans g1⟩
  obtain ⟨T, hT⟩ : ∃ T, turnT t = T := ⟨_, rfl⟩
  obtain ⟨R, hR⟩ : ∃ T, turnR r = T := ⟨_, rfl⟩
  rw [hT, hR]
  have HT := hide hT
  have HR := hide hR
  clear hg hlt hT hR
  go_enter Try.func15, Try.ntmps15
  go_wp2_with (rw [hy])
  refine wp_region_held_drew (S := fun x => x.cell? ⟨w.heap.size, 0, none⟩ = some (.int .i32 t) ∧ x.cell? ⟨w.heap.size, 1, none⟩ = some (.int .i64 r)) (by kernel_rfl) (unhide HS) (fun hHeld => ?_)
  refine wpAnyH_take (i := 0) (v := ?v1x0) rfl (by kernel_rfl) (by kernel_rfl) (by kernel_rfl) (fun _ _ _ h => h) (Or.inl ⟨by rfl, ?hy1x0⟩) (by assumption) ?rest1x0
  case hy1x0 => intro w hSw; obtain ⟨s0, s1⟩ := hSw; go_simp <;> with_reducible rfl
  simp only [Act.put, List.getElem_toArray, List.getElem_cons_zero, List.setIfInBounds_toArray, List.set_cons_zero, List.set_cons_succ]
  refine wpAnyH_take (i := 1) (v := (.int .i32 t)) rfl (by kernel_rfl) (by kernel_rfl) (by kernel_rfl) (fun _ _ _ h => h) (Or.inl ⟨by rfl, ?hy2x1⟩) (by assumption) ?rest2x1
  case hy2x1 => intro w hSw; obtain ⟨s0, s1⟩ := hSw; go_simp <;> with_reducible rfl
  simp only [Act.put, List.getElem_toArray, List.getElem_cons_zero, List.getElem_cons_succ, List.setIfInBounds_toArray, List.set_cons_zero, List.set_cons_succ]
  refine wpAnyH_take (i := 2) (v := ?v3x2) rfl (by kernel_rfl) (by kernel_rfl) (by kernel_rfl) (fun _ _ _ h => h) (Or.inl ⟨by rfl, ?hy3x2⟩) (by assumption) ?rest3x2
  case hy3x2 => intro w hSw; obtain ⟨s0, s1⟩ := hSw; go_simp <;> with_reducible rfl
  simp only [Act.put, List.getElem_toArray, List.getElem_cons_zero, List.getElem_cons_succ, List.setIfInBounds_toArray, List.set_cons_zero, List.set_cons_succ]
  refine wpAnyH_take (i := 3) (v := ?v4x3) rfl (by kernel_rfl) (by kernel_rfl) (by kernel_rfl) (fun _ _ _ h => h) (Or.inl ⟨by rfl, ?hy4x3⟩) (by assumption) ?rest4x3
  case hy4x3 => intro w hSw; obtain ⟨s0, s1⟩ := hSw; go_simp <;> with_reducible rfl
  simp only [Act.put, List.getElem_toArray, List.getElem_cons_zero, List.getElem_cons_succ, List.setIfInBounds_toArray, List.set_cons_zero, List.set_cons_succ]
  refine wpAnyH_take (i := 4) (v := ?v5x4) rfl (by kernel_rfl) (by kernel_rfl) (by kernel_rfl) (fun _ _ _ h => h) (Or.inl ⟨by rfl, ?hy5x4⟩) (by assumption) ?rest5x4
  case hy5x4 => intro w hSw; obtain ⟨s0, s1⟩ := hSw; go_simp <;> with_reducible rfl
  simp only [Act.put, List.getElem_toArray, List.getElem_cons_zero, List.getElem_cons_succ, List.setIfInBounds_toArray, List.set_cons_zero, List.set_cons_succ]
  refine wpAnyH_take (i := 5) (v := (.int .i64 r)) rfl (by kernel_rfl) (by kernel_rfl) (by kernel_rfl) (fun _ _ _ h => h) (Or.inl ⟨by rfl, ?hy6x5⟩) (by assumption) ?rest6x5
  case hy6x5 => intro w hSw; obtain ⟨s0, s1⟩ := hSw; go_simp <;> with_reducible rfl
  simp only [Act.put, List.getElem_toArray, List.getElem_cons_zero, List.getElem_cons_succ, List.setIfInBounds_toArray, List.set_cons_zero, List.set_cons_succ]
  refine wpAnyH_take (i := 6) (v := ?v7x6) rfl (by kernel_rfl) (by kernel_rfl) (by kernel_rfl) (fun _ _ _ h => h) (Or.inl ⟨by rfl, ?hy7x6⟩) (by assumption) ?rest7x6
  case hy7x6 => intro w hSw; obtain ⟨s0, s1⟩ := hSw; go_simp <;> with_reducible rfl
  simp only [Act.put, List.getElem_toArray, List.getElem_cons_zero, List.getElem_cons_succ, List.setIfInBounds_toArray, List.set_cons_zero, List.set_cons_succ]
  refine wpAnyH_take (i := 7) (v := ?v8x7) rfl (by kernel_rfl) (by kernel_rfl) (by kernel_rfl) (fun _ _ _ h => h) (Or.inl ⟨by rfl, ?hy8x7⟩) (by assumption) ?rest8x7
  case hy8x7 => intro w hSw; obtain ⟨s0, s1⟩ := hSw; go_simp <;> with_reducible rfl
  simp only [Act.put, List.getElem_toArray, List.getElem_cons_zero, List.getElem_cons_succ, List.setIfInBounds_toArray, List.set_cons_zero, List.set_cons_succ]
  refine wpAnyH_take (i := 8) (v := ?v9x8) rfl (by kernel_rfl) (by kernel_rfl) (by kernel_rfl) (fun _ _ _ h => h) (Or.inl ⟨by rfl, ?hy9x8⟩) (by assumption) ?rest9x8
  case hy9x8 => intro w hSw; obtain ⟨s0, s1⟩ := hSw; go_simp <;> with_reducible rfl
  simp only [Act.put, List.getElem_toArray, List.getElem_cons_zero, List.getElem_cons_succ, List.setIfInBounds_toArray, List.set_cons_zero, List.set_cons_succ]
  refine wpAnyH_take (i := 9) (v := ?v10x9) rfl (by kernel_rfl) (by kernel_rfl) (by kernel_rfl) (fun _ _ _ h => h) (Or.inl ⟨by rfl, ?hy10x9⟩) (by assumption) ?rest10x9
  case hy10x9 => intro w hSw; obtain ⟨s0, s1⟩ := hSw; go_simp <;> with_reducible rfl
  simp only [Act.put, List.getElem_toArray, List.getElem_cons_zero, List.getElem_cons_succ, List.setIfInBounds_toArray, List.set_cons_zero, List.set_cons_succ]
  refine wpAnyH_done (by kernel_rfl) ?_ _
  have hT : bits .xor .u32 (IntKind.u32.wrap t) 2147483648 = T := unhide HT
  have hR : bits .xor .u64 (IntKind.u64.wrap r) 9223372036854775808 = R := unhide HR
  rw [hT, hR]
  clear hT hR hHeld
  go_wp2
  refine wp_loop_rounds 5 ?_
  rw [rounds_succ]
  go_wp2
  rw [rounds_succ]
  go_wp2
  rw [rounds_succ]
  go_wp2
  rw [rounds_succ]
  go_wp2
  rw [rounds_succ]
  go_wp2
  refine wp_loop_rounds 9 ?_
  rw [rounds_succ]
  go_wp2
  rw [rounds_succ]
  go_wp2
  rw [rounds_succ]
  go_wp2
  rw [rounds_succ]
  go_wp2
  rw [rounds_succ]
  go_wp2
  rw [rounds_succ]
  go_wp2
  rw [rounds_succ]
  go_wp2
  rw [rounds_succ]
  go_wp2
  rw [rounds_succ]
  go_wp2
  refine bodyPost_ret (results_cell_row rfl _ _ y.heap.size 44 (bytesV T R) (0, 0) _ rfl ?_ Try.underlying44 rfl (by kernel_rfl)) rfl ?_
  · refine (Below.heap_alloc _ _ y.heap.size (by simp)).trans ?_
    exact heap_alloc_new y _
  · exact ⟨rfl, grew_drew (grew_alloc (grew_alloc (unhide HG) _) _)⟩
end Go.Proofs.Ytbajggmpklajnab
