/- Hash, many, Part: the program's and the document's. -/
import Derived.Test.YtibjhjkeflbghaaA1
namespace Go.Proofs.Ytibjhjkeflbghaa
open Go.RowKit
set_option maxRecDepth 100000

def mixA (x : Int) : Int := bits .xor .u64 x (IntKind.u64.wrap (x * 8192))
def mixB (x : Int) : Int := bits .xor .u64 x (x / 128)
def mixC (x : Int) : Int := bits .xor .u64 x (IntKind.u64.wrap (x * 131072))
def mixF (x : Int) : Int := mixC (mixB (mixA x))
theorem mix_any (x : Int) (w : World) : Calls Try.prog 69 #[.int .u64 x] w fun e w' => e = .returned (.int .u64 (mixF x)) ∧ w = w' := by
  go_enter Try.func69, Try.ntmps69
  go_wp2
  go_ret
  exact ⟨rfl, rfl⟩
theorem rmix_any (x : Int) (w : World) : Calls Try.prog 70 #[.int .u64 x] w fun e w' => e = .returned (.int .u64 (mixF x)) ∧ w = w' := by
  go_enter Try.func70, Try.ntmps70
  go_wp2
  go_ret
  exact ⟨rfl, rfl⟩
/-- How many partitions a number of them counts as. -/
def manyF (x : Int) : Int := if x < 1 then 1 else if 8 < x then 8 else x
theorem manyF_range (x : Int) : 1 ≤ manyF x ∧ manyF x ≤ 8 := by unfold manyF; (repeat' split) <;> omega
theorem many_any (x : Int) (w : World) : Calls Try.prog 59 #[.int .i64 x] w fun e w' => e = .returned (.int .i64 (manyF x)) ∧ w = w' := by
  unfold manyF
  go_enter Try.func59, Try.ntmps59
  go_wp2
  all_goals go_ret
  all_goals exact ⟨rfl, rfl⟩
theorem rmany_any (x : Int) (w : World) : Calls Try.prog 61 #[.int .i64 x] w fun e w' => e = .returned (.int .i64 (manyF x)) ∧ w = w' := by
  unfold manyF
  go_enter Try.func61, Try.ntmps61
  go_wp2
  all_goals go_ret
  all_goals exact ⟨rfl, rfl⟩

def t64 (t : Int) : Int := t % 4294967296
def r64 (r : Int) : Int := IntKind.u64.wrap r
def hashA (r : Int) : Int := mixF (IntKind.u64.wrap (r + 11400714819323198485))
def hashB (t r : Int) : Int := mixF (IntKind.u64.wrap (hashA r + t))
def hashC (t r : Int) : Int := mixF (IntKind.u64.wrap (IntKind.u64.wrap (hashB t r + r / 4294967296) + t * 4294967296))
def hashF (k : Int × Int) : Int := hashC (t64 k.1) (r64 k.2)
set_option maxHeartbeats 800000 in
theorem hash_any (t r : Int) (w : World) : Calls Try.prog 58 #[.agg #[.int .i32 t, .int .i64 r]] w fun e w' => e = .returned (.int .u64 (hashF (t, r))) ∧ Grew w w' := by
  obtain ⟨y, hy⟩ : ∃ y, w.alloc (.cells #[.int .i32 t, .int .i64 r] 37) = y := ⟨_, rfl⟩
  have hg : Grew w y := hy ▸ grew_alloc (grew_refl _) _
  have g0 : y.cell? ⟨w.heap.size, 0, none⟩ = some (.int .i32 t) := by rw [← hy]; exact cell_at (heap_alloc_new w _)
  have g1 : y.cell? ⟨w.heap.size, 1, none⟩ = some (.int .i64 r) := by rw [← hy]; exact cell_at (heap_alloc_new w _)
  have HG := hide hg
  clear hg
  go_enter Try.func58, Try.ntmps58
  go_wp2_with (rw [hy])
  refine wp_region_held_drew (S := fun x => x.cell? ⟨w.heap.size, 0, none⟩ = some (.int .i32 t) ∧ x.cell? ⟨w.heap.size, 1, none⟩ = some (.int .i64 r)) (by kernel_rfl) ⟨g0, g1⟩ (fun hHeld => ?_)
  refine wpAnyH_take (i := 0) (v := ?v1x0) rfl (by kernel_rfl) (by kernel_rfl) (by kernel_rfl) (fun _ _ _ h => h) (Or.inl ⟨by rfl, ?hy1x0⟩) (by assumption) ?rest1x0
  case hy1x0 => intro w hSw; obtain ⟨s0, s1⟩ := hSw; go_simp <;> with_reducible rfl
  simp only [Act.put, List.getElem_toArray, List.getElem_cons_zero, List.setIfInBounds_toArray, List.set_cons_zero, List.set_cons_succ]
  refine wpAnyH_take (i := 1) (v := (.int .i32 t)) rfl (by kernel_rfl) (by kernel_rfl) (by kernel_rfl) (fun _ _ _ h => h) (Or.inl ⟨by rfl, ?hy2x1⟩) (by assumption) ?rest2x1
  case hy2x1 => intro w hSw; obtain ⟨s0, s1⟩ := hSw; go_simp <;> with_reducible rfl
  simp only [Act.put, List.getElem_toArray, List.getElem_cons_zero, List.getElem_cons_succ, List.setIfInBounds_toArray, List.set_cons_zero, List.set_cons_succ]
  refine wpAnyH_take (i := 2) (v := ?v3x2) rfl (by kernel_rfl) (by kernel_rfl) (by kernel_rfl) (fun _ _ _ h => h) (Or.inl ⟨by rfl, ?hy3x2⟩) (by assumption) ?rest3x2
  case hy3x2 => intro w hSw; obtain ⟨s0, s1⟩ := hSw; go_simp <;> with_reducible rfl
  simp only [Act.put, List.getElem_toArray, List.getElem_cons_zero, List.getElem_cons_succ, List.setIfInBounds_toArray, List.set_cons_zero, List.set_cons_succ]
  refine wpAnyH_take (i := 3) (v := ?v4x3) rfl (by kernel_rfl) (by kernel_rfl) (by kernel_rfl) (fun _ _ _ h => h) (Or.inl ⟨by rfl, ?hy4x3⟩) (by assumption) ?rest4x3
  case hy4x3 => intro w hSw; obtain ⟨s0, s1⟩ := hSw; go_simp <;> with_reducible rfl
  simp only [Act.put, List.getElem_toArray, List.getElem_cons_zero, List.getElem_cons_succ, List.setIfInBounds_toArray, List.set_cons_zero, List.set_cons_succ]
  refine wpAnyH_take (i := 4) (v := ?v5x4) rfl (by kernel_rfl) (by kernel_rfl) (by kernel_rfl) (fun _ _ _ h => h) (Or.inl ⟨by rfl, ?hy5x4⟩) (by assumption) ?rest5x4
  case hy5x4 => intro w hSw; obtain ⟨s0, s1⟩ := hSw; go_simp <;> with_reducible rfl
  simp only [Act.put, List.getElem_toArray, List.getElem_cons_zero, List.getElem_cons_succ, List.setIfInBounds_toArray, List.set_cons_zero, List.set_cons_succ]
  refine wpAnyH_take (i := 5) (v := (.int .i64 r)) rfl (by kernel_rfl) (by kernel_rfl) (by kernel_rfl) (fun _ _ _ h => h) (Or.inl ⟨by rfl, ?hy6x5⟩) (by assumption) ?rest6x5
  case hy6x5 => intro w hSw; obtain ⟨s0, s1⟩ := hSw; go_simp <;> with_reducible rfl
  simp only [Act.put, List.getElem_toArray, List.getElem_cons_zero, List.getElem_cons_succ, List.setIfInBounds_toArray, List.set_cons_zero, List.set_cons_succ]
  refine wpAnyH_take (i := 6) (v := ?v7x6) rfl (by kernel_rfl) (by kernel_rfl) (by kernel_rfl) (fun _ _ _ h => h) (Or.inl ⟨by rfl, ?hy7x6⟩) (by assumption) ?rest7x6
  case hy7x6 => intro w hSw; obtain ⟨s0, s1⟩ := hSw; go_simp <;> with_reducible rfl
  simp only [Act.put, List.getElem_toArray, List.getElem_cons_zero, List.getElem_cons_succ, List.setIfInBounds_toArray, List.set_cons_zero, List.set_cons_succ]
  refine wpAnyH_take (i := 7) (v := ?v8x7) rfl (by kernel_rfl) (by kernel_rfl) (by kernel_rfl) (fun _ _ _ h => h) (Or.inl ⟨by rfl, ?hy8x7⟩) (by assumption) ?rest8x7
  case hy8x7 => intro w hSw; obtain ⟨s0, s1⟩ := hSw; go_simp <;> with_reducible rfl
  simp only [Act.put, List.getElem_toArray, List.getElem_cons_zero, List.getElem_cons_succ, List.setIfInBounds_toArray, List.set_cons_zero, List.set_cons_succ]
  refine wpAnyH_take (i := 8) (v := ?v9x8) rfl (by kernel_rfl) (by kernel_rfl) (by kernel_rfl) (fun _ _ _ h => h) (Or.inl ⟨by rfl, ?hy9x8⟩) (by assumption) ?rest9x8
  case hy9x8 => intro w hSw; obtain ⟨s0, s1⟩ := hSw; go_simp <;> with_reducible rfl
  simp only [Act.put, List.getElem_toArray, List.getElem_cons_zero, List.getElem_cons_succ, List.setIfInBounds_toArray, List.set_cons_zero, List.set_cons_succ]
  refine wpAnyH_done (by kernel_rfl) ?_ _
  go_wp2_with (go_at_call 69; refine (mix_any _ _).mono ?_; rintro e w1 ⟨rfl, rfl⟩)
  go_ret
  exact ⟨rfl, grew_drew (unhide HG)⟩
set_option maxHeartbeats 800000 in
theorem rhash_any (t r : Int) (w : World) : Calls Try.prog 60 #[.agg #[.int .i32 t, .int .i64 r]] w fun e w' => e = .returned (.int .u64 (hashF (t, r))) ∧ Grew w w' := by
  obtain ⟨y, hy⟩ : ∃ y, w.alloc (.cells #[.int .i32 t, .int .i64 r] 37) = y := ⟨_, rfl⟩
  have hg : Grew w y := hy ▸ grew_alloc (grew_refl _) _
  have g0 : y.cell? ⟨w.heap.size, 0, none⟩ = some (.int .i32 t) := by rw [← hy]; exact cell_at (heap_alloc_new w _)
  have g1 : y.cell? ⟨w.heap.size, 1, none⟩ = some (.int .i64 r) := by rw [← hy]; exact cell_at (heap_alloc_new w _)
  have HG := hide hg
  clear hg
  go_enter Try.func60, Try.ntmps60
  go_wp2_with (rw [hy])
  refine wp_region_held_drew (S := fun x => x.cell? ⟨w.heap.size, 0, none⟩ = some (.int .i32 t) ∧ x.cell? ⟨w.heap.size, 1, none⟩ = some (.int .i64 r)) (by kernel_rfl) ⟨g0, g1⟩ (fun hHeld => ?_)
  refine wpAnyH_take (i := 0) (v := ?v10x0) rfl (by kernel_rfl) (by kernel_rfl) (by kernel_rfl) (fun _ _ _ h => h) (Or.inl ⟨by rfl, ?hy10x0⟩) (by assumption) ?rest10x0
  case hy10x0 => intro w hSw; obtain ⟨s0, s1⟩ := hSw; go_simp <;> with_reducible rfl
  simp only [Act.put, List.getElem_toArray, List.getElem_cons_zero, List.setIfInBounds_toArray, List.set_cons_zero, List.set_cons_succ]
  refine wpAnyH_take (i := 1) (v := (.int .i32 t)) rfl (by kernel_rfl) (by kernel_rfl) (by kernel_rfl) (fun _ _ _ h => h) (Or.inl ⟨by rfl, ?hy11x1⟩) (by assumption) ?rest11x1
  case hy11x1 => intro w hSw; obtain ⟨s0, s1⟩ := hSw; go_simp <;> with_reducible rfl
  simp only [Act.put, List.getElem_toArray, List.getElem_cons_zero, List.getElem_cons_succ, List.setIfInBounds_toArray, List.set_cons_zero, List.set_cons_succ]
  refine wpAnyH_take (i := 2) (v := ?v12x2) rfl (by kernel_rfl) (by kernel_rfl) (by kernel_rfl) (fun _ _ _ h => h) (Or.inl ⟨by rfl, ?hy12x2⟩) (by assumption) ?rest12x2
  case hy12x2 => intro w hSw; obtain ⟨s0, s1⟩ := hSw; go_simp <;> with_reducible rfl
  simp only [Act.put, List.getElem_toArray, List.getElem_cons_zero, List.getElem_cons_succ, List.setIfInBounds_toArray, List.set_cons_zero, List.set_cons_succ]
  refine wpAnyH_take (i := 3) (v := ?v13x3) rfl (by kernel_rfl) (by kernel_rfl) (by kernel_rfl) (fun _ _ _ h => h) (Or.inl ⟨by rfl, ?hy13x3⟩) (by assumption) ?rest13x3
  case hy13x3 => intro w hSw; obtain ⟨s0, s1⟩ := hSw; go_simp <;> with_reducible rfl
  simp only [Act.put, List.getElem_toArray, List.getElem_cons_zero, List.getElem_cons_succ, List.setIfInBounds_toArray, List.set_cons_zero, List.set_cons_succ]
  refine wpAnyH_take (i := 4) (v := ?v14x4) rfl (by kernel_rfl) (by kernel_rfl) (by kernel_rfl) (fun _ _ _ h => h) (Or.inl ⟨by rfl, ?hy14x4⟩) (by assumption) ?rest14x4
  case hy14x4 => intro w hSw; obtain ⟨s0, s1⟩ := hSw; go_simp <;> with_reducible rfl
  simp only [Act.put, List.getElem_toArray, List.getElem_cons_zero, List.getElem_cons_succ, List.setIfInBounds_toArray, List.set_cons_zero, List.set_cons_succ]
  refine wpAnyH_take (i := 5) (v := (.int .i64 r)) rfl (by kernel_rfl) (by kernel_rfl) (by kernel_rfl) (fun _ _ _ h => h) (Or.inl ⟨by rfl, ?hy15x5⟩) (by assumption) ?rest15x5
  case hy15x5 => intro w hSw; obtain ⟨s0, s1⟩ := hSw; go_simp <;> with_reducible rfl
  simp only [Act.put, List.getElem_toArray, List.getElem_cons_zero, List.getElem_cons_succ, List.setIfInBounds_toArray, List.set_cons_zero, List.set_cons_succ]
  refine wpAnyH_take (i := 6) (v := ?v16x6) rfl (by kernel_rfl) (by kernel_rfl) (by kernel_rfl) (fun _ _ _ h => h) (Or.inl ⟨by rfl, ?hy16x6⟩) (by assumption) ?rest16x6
  case hy16x6 => intro w hSw; obtain ⟨s0, s1⟩ := hSw; go_simp <;> with_reducible rfl
  simp only [Act.put, List.getElem_toArray, List.getElem_cons_zero, List.getElem_cons_succ, List.setIfInBounds_toArray, List.set_cons_zero, List.set_cons_succ]
  refine wpAnyH_take (i := 7) (v := ?v17x7) rfl (by kernel_rfl) (by kernel_rfl) (by kernel_rfl) (fun _ _ _ h => h) (Or.inl ⟨by rfl, ?hy17x7⟩) (by assumption) ?rest17x7
  case hy17x7 => intro w hSw; obtain ⟨s0, s1⟩ := hSw; go_simp <;> with_reducible rfl
  simp only [Act.put, List.getElem_toArray, List.getElem_cons_zero, List.getElem_cons_succ, List.setIfInBounds_toArray, List.set_cons_zero, List.set_cons_succ]
  refine wpAnyH_take (i := 8) (v := ?v18x8) rfl (by kernel_rfl) (by kernel_rfl) (by kernel_rfl) (fun _ _ _ h => h) (Or.inl ⟨by rfl, ?hy18x8⟩) (by assumption) ?rest18x8
  case hy18x8 => intro w hSw; obtain ⟨s0, s1⟩ := hSw; go_simp <;> with_reducible rfl
  simp only [Act.put, List.getElem_toArray, List.getElem_cons_zero, List.getElem_cons_succ, List.setIfInBounds_toArray, List.set_cons_zero, List.set_cons_succ]
  refine wpAnyH_done (by kernel_rfl) ?_ _
  go_wp2_with (go_at_call 70; refine (rmix_any _ _).mono ?_; rintro e w1 ⟨rfl, rfl⟩)
  go_ret
  exact ⟨rfl, grew_drew (unhide HG)⟩

def partF (k : Int × Int) (n : Int) : Int := wrap64 (IntKind.u64.wrap (hashF k / 4294967296 * IntKind.u64.wrap (manyF n)) / 4294967296)
set_option maxHeartbeats 800000 in
theorem part_any (t r n : Int) (w : World) : Calls Try.prog 42 #[.agg #[.int .i32 t, .int .i64 r], .int .i64 n] w fun e w' => e = .returned (.int .i64 (partF (t, r) n)) ∧ Grew w w' := by
  obtain ⟨y, hy⟩ : ∃ y, w.alloc (.cells #[.int .i32 t, .int .i64 r] 37) = y := ⟨_, rfl⟩
  have hg : Grew w y := hy ▸ grew_alloc (grew_refl _) _
  have g0 : y.cell? ⟨w.heap.size, 0, none⟩ = some (.int .i32 t) := by rw [← hy]; exact cell_at (heap_alloc_new w _)
  have g1 : y.cell? ⟨w.heap.size, 1, none⟩ = some (.int .i64 r) := by rw [← hy]; exact cell_at (heap_alloc_new w _)
  have HG := hide hg
  unfold partF
  obtain ⟨hh, hhe⟩ : ∃ h, hashF (t, r) = h := ⟨_, rfl⟩
  obtain ⟨mm, hme⟩ : ∃ h, manyF n = h := ⟨_, rfl⟩
  have HH := hide (hhe ▸ hash_any t r y)
  have HM : Hid (∀ x, Calls Try.prog 59 #[.int .i64 n] x fun e w' => e = .returned (.int .i64 mm) ∧ x = w') := fun x => hme ▸ many_any n x
  rw [hhe, hme]
  clear hg hhe hme
  go_enter Try.func42, Try.ntmps42
  go_wp2_with (first | rw [hy] | (go_at_call 58; refine (unhide HH).mono ?_; rintro e w1 ⟨rfl, hg1⟩; have HG1 := hide hg1; clear hg1) | (go_at_call 59; refine (unhide HM _).mono ?_; rintro e w2 ⟨rfl, rfl⟩))
  go_ret
  exact ⟨rfl, grew_trans (unhide HG) (unhide HG1)⟩
set_option maxHeartbeats 800000 in
theorem rpart_any (t r n : Int) (w : World) : Calls Try.prog 43 #[.agg #[.int .i32 t, .int .i64 r], .int .i64 n] w fun e w' => e = .returned (.int .i64 (partF (t, r) n)) ∧ Grew w w' := by
  obtain ⟨y, hy⟩ : ∃ y, w.alloc (.cells #[.int .i32 t, .int .i64 r] 37) = y := ⟨_, rfl⟩
  have hg : Grew w y := hy ▸ grew_alloc (grew_refl _) _
  have g0 : y.cell? ⟨w.heap.size, 0, none⟩ = some (.int .i32 t) := by rw [← hy]; exact cell_at (heap_alloc_new w _)
  have g1 : y.cell? ⟨w.heap.size, 1, none⟩ = some (.int .i64 r) := by rw [← hy]; exact cell_at (heap_alloc_new w _)
  have HG := hide hg
  unfold partF
  obtain ⟨hh, hhe⟩ : ∃ h, hashF (t, r) = h := ⟨_, rfl⟩
  obtain ⟨mm, hme⟩ : ∃ h, manyF n = h := ⟨_, rfl⟩
  have HH := hide (hhe ▸ rhash_any t r y)
  have HM : Hid (∀ x, Calls Try.prog 61 #[.int .i64 n] x fun e w' => e = .returned (.int .i64 mm) ∧ x = w') := fun x => hme ▸ rmany_any n x
  rw [hhe, hme]
  clear hg hhe hme
  go_enter Try.func43, Try.ntmps43
  go_wp2_with (first | rw [hy] | (go_at_call 60; refine (unhide HH).mono ?_; rintro e w1 ⟨rfl, hg1⟩; have HG1 := hide hg1; clear hg1) | (go_at_call 61; refine (unhide HM _).mono ?_; rintro e w2 ⟨rfl, rfl⟩))
  go_ret
  exact ⟨rfl, grew_trans (unhide HG) (unhide HG1)⟩
end Go.Proofs.Ytibjhjkeflbghaa
