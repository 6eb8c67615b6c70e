/- Several texts as one. -/
import Derived.Test.YtiijbklaapaheaaGreatKA
import Derived.Test.YtiijbklaapaheaaGreatCO
import Derived.Test.YtiijbklaapaheaaGreatCJ

/- Checkpoints: what is wrong with a region. -/
namespace Go.Proofs.YtiijbklaapaheaaGreat
open Go.RowKit
set_option maxRecDepth 100000

/-- What is wrong with a region. -/
def regE (n : Nat) (f b : Int) : Int := if f < 0 ∨ b < 2 ∨ b % 2 ≠ 0 ∨ (n : Int) - f < b then 1 else 0

/-- A box of two. -/
theorem cells2 {w w1 : World} {x0 x1 : Value} {t : TypeId} (hb : Below (w.heap.size + 1) (w.alloc (.cells #[x0, x1] t)) w1) : w1.cell? ⟨w.heap.size, 0, none⟩ = some x0 ∧ w1.cell? ⟨w.heap.size, 1, none⟩ = some x1 := by
  have hh : w1.heap[w.heap.size]? = some (.cells #[x0, x1] t (0, 0)) := (hb.block _ (Nat.lt_succ_self _)).trans (heap_alloc_new _ _)
  unfold World.cell?
  simp [hh]

set_option maxHeartbeats 3200000 in
theorem region_any {w : World} {g h cap : Nat} {F : Fl} (H : IsFl w g h cap F) (f b : Int) (hf : f ≤ 9223372036854775807) :
    Calls Tryz.prog 35 #[P0 h, .agg #[.int .i64 f, .int .i64 b]] w fun e w' => e = .returned (.int .i64 (regE F.n f b)) ∧ Below w.heap.size w w' := by
  have HI := hide (H.alloc (.cells #[.int .i64 f, .int .i64 b] 32))
  have hp := H.pos; have hl := H.le
  have hn0 : ((F.n : Int) == 0) = false := by simp; omega
  obtain ⟨B, hB⟩ : ∃ B, w.alloc (.cells #[.int .i64 f, .int .i64 b] 32) = B := ⟨_, rfl⟩
  have HBX : Hid (∀ x, Below (w.heap.size + 1) B x → x.cell? ⟨w.heap.size, 0, none⟩ = some (.int .i64 f) ∧ x.cell? ⟨w.heap.size, 1, none⟩ = some (.int .i64 b)) := fun x hx => cells2 (by rw [hB]; exact hx)
  have HAL : Hid (Below w.heap.size w B) := hB ▸ (Below.refl _ _).alloc (Nat.le_refl _) _
  rw [hB] at HI
  unfold regE
  clear H
  by_cases c1 : f < 0
  · rw [if_pos (Or.inl c1)]
    have c1' : decide (f < 0) = true := by simp [c1]
    go_enter Tryz.func35, Tryz.ntmps35
    go_wp2_with (rw [hB])
    refine (blocks_any (unhide HI)).mono ?_
    rintro e w1 ⟨rfl, rfl⟩
    go_wp2
    refine wp_region_held_drew (S := fun x => x.cell? ⟨w.heap.size, 0, none⟩ = some (.int .i64 f) ∧ x.cell? ⟨w.heap.size, 1, none⟩ = some (.int .i64 b)) (by kernel_rfl) (unhide HBX _ (Below.refl _ _).drew) (fun hHeld => ?_)
    refine wpAnyH_take (i := 0) (v := ?v1x0) rfl (by kernel_rfl) (by kernel_rfl) (by kernel_rfl) (fun _ _ _ h => h) (Or.inl ⟨by rfl, ?hy1x0⟩) (by assumption) ?rest1x0
    case hy1x0 => intro w hSw; obtain ⟨s0, s1⟩ := hSw; go_simp <;> with_reducible rfl
    simp only [Act.put, List.getElem_toArray, List.getElem_cons_zero, List.setIfInBounds_toArray, List.set_cons_zero, List.set_cons_succ]
    refine wpAnyH_take (i := 1) (v := ?v2x1) rfl (by kernel_rfl) (by kernel_rfl) (by kernel_rfl) (fun _ _ _ h => h) (Or.inl ⟨by rfl, ?hy2x1⟩) (by assumption) ?rest2x1
    case hy2x1 => intro w hSw; obtain ⟨s0, s1⟩ := hSw; go_simp <;> with_reducible rfl
    simp only [Act.put, List.getElem_toArray, List.getElem_cons_zero, List.getElem_cons_succ, List.setIfInBounds_toArray, List.set_cons_zero, List.set_cons_succ]
    refine wpAnyH_take (i := 2) (v := (.bool true)) rfl (by kernel_rfl) (by kernel_rfl) (by kernel_rfl) (fun _ _ _ h => h) (Or.inl ⟨by rfl, ?hy3x2⟩) (by assumption) ?rest3x2
    case hy3x2 => intro w hSw; obtain ⟨s0, s1⟩ := hSw; go_simp <;> with_reducible rfl
    simp only [Act.put, List.getElem_toArray, List.getElem_cons_zero, List.getElem_cons_succ, List.setIfInBounds_toArray, List.set_cons_zero, List.set_cons_succ]
    refine wpAnyH_take (i := 3) (v := ?v4x3) rfl (by kernel_rfl) (by kernel_rfl) (by kernel_rfl) (fun _ _ _ h => h) (Or.inl ⟨by rfl, ?hy4x3⟩) (by assumption) ?rest4x3
    case hy4x3 => intro w hSw; obtain ⟨s0, s1⟩ := hSw; go_simp <;> with_reducible rfl
    simp only [Act.put, List.getElem_toArray, List.getElem_cons_zero, List.getElem_cons_succ, List.setIfInBounds_toArray, List.set_cons_zero, List.set_cons_succ]
    refine wpAnyH_take (i := 4) (v := undef) rfl (by kernel_rfl) (by kernel_rfl) (by kernel_rfl) (fun _ _ _ h => h) (Or.inr ⟨by rfl, rfl⟩) (by assumption) ?_
    simp only [Act.put, List.getElem_toArray, List.getElem_cons_zero, List.getElem_cons_succ, List.setIfInBounds_toArray, List.set_cons_zero, List.set_cons_succ]
    refine wpAnyH_take (i := 5) (v := undef) rfl (by kernel_rfl) (by kernel_rfl) (by kernel_rfl) (fun _ _ _ h => h) (Or.inr ⟨by rfl, rfl⟩) (by assumption) ?_
    simp only [Act.put, List.getElem_toArray, List.getElem_cons_zero, List.getElem_cons_succ, List.setIfInBounds_toArray, List.set_cons_zero, List.set_cons_succ]
    refine wpAnyH_take (i := 6) (v := undef) rfl (by kernel_rfl) (by kernel_rfl) (by kernel_rfl) (fun _ _ _ h => h) (Or.inr ⟨by rfl, rfl⟩) (by assumption) ?_
    simp only [Act.put, List.getElem_toArray, List.getElem_cons_zero, List.getElem_cons_succ, List.setIfInBounds_toArray, List.set_cons_zero, List.set_cons_succ]
    refine wpAnyH_take (i := 7) (v := ?v8x7) rfl (by kernel_rfl) (by kernel_rfl) (by kernel_rfl) (fun _ _ _ h => h) (Or.inl ⟨by rfl, ?hy8x7⟩) (by assumption) ?rest8x7
    case hy8x7 => intro w hSw; obtain ⟨s0, s1⟩ := hSw; go_simp <;> with_reducible rfl
    simp only [Act.put, List.getElem_toArray, List.getElem_cons_zero, List.getElem_cons_succ, List.setIfInBounds_toArray, List.set_cons_zero, List.set_cons_succ]
    refine wpAnyH_take (i := 8) (v := ?v9x8) rfl (by kernel_rfl) (by kernel_rfl) (by kernel_rfl) (fun _ _ _ h => h) (Or.inl ⟨by rfl, ?hy9x8⟩) (by assumption) ?rest9x8
    case hy9x8 => intro w hSw; obtain ⟨s0, s1⟩ := hSw; go_simp <;> with_reducible rfl
    simp only [Act.put, List.getElem_toArray, List.getElem_cons_zero, List.getElem_cons_succ, List.setIfInBounds_toArray, List.set_cons_zero, List.set_cons_succ]
    refine wpAnyH_take (i := 9) (v := undef) rfl (by kernel_rfl) (by kernel_rfl) (by kernel_rfl) (fun _ _ _ h => h) (Or.inr ⟨by rfl, rfl⟩) (by assumption) ?_
    simp only [Act.put, List.getElem_toArray, List.getElem_cons_zero, List.getElem_cons_succ, List.setIfInBounds_toArray, List.set_cons_zero, List.set_cons_succ]
    refine wpAnyH_take (i := 10) (v := undef) rfl (by kernel_rfl) (by kernel_rfl) (by kernel_rfl) (fun _ _ _ h => h) (Or.inr ⟨by rfl, rfl⟩) (by assumption) ?_
    simp only [Act.put, List.getElem_toArray, List.getElem_cons_zero, List.getElem_cons_succ, List.setIfInBounds_toArray, List.set_cons_zero, List.set_cons_succ]
    refine wpAnyH_take (i := 11) (v := undef) rfl (by kernel_rfl) (by kernel_rfl) (by kernel_rfl) (fun _ _ _ h => h) (Or.inr ⟨by rfl, rfl⟩) (by assumption) ?_
    simp only [Act.put, List.getElem_toArray, List.getElem_cons_zero, List.getElem_cons_succ, List.setIfInBounds_toArray, List.set_cons_zero, List.set_cons_succ]
    refine wpAnyH_take (i := 12) (v := undef) rfl (by kernel_rfl) (by kernel_rfl) (by kernel_rfl) (fun _ _ _ h => h) (Or.inr ⟨by rfl, rfl⟩) (by assumption) ?_
    simp only [Act.put, List.getElem_toArray, List.getElem_cons_zero, List.getElem_cons_succ, List.setIfInBounds_toArray, List.set_cons_zero, List.set_cons_succ]
    refine wpAnyH_take (i := 13) (v := ?v14x13) rfl (by kernel_rfl) (by kernel_rfl) (by kernel_rfl) (fun _ _ _ h => h) (Or.inl ⟨by rfl, ?hy14x13⟩) (by assumption) ?rest14x13
    case hy14x13 => intro w hSw; obtain ⟨s0, s1⟩ := hSw; go_simp <;> with_reducible rfl
    simp only [Act.put, List.getElem_toArray, List.getElem_cons_zero, List.getElem_cons_succ, List.setIfInBounds_toArray, List.set_cons_zero, List.set_cons_succ]
    refine wpAnyH_take (i := 14) (v := ?v15x14) rfl (by kernel_rfl) (by kernel_rfl) (by kernel_rfl) (fun _ _ _ h => h) (Or.inl ⟨by rfl, ?hy15x14⟩) (by assumption) ?rest15x14
    case hy15x14 => intro w hSw; obtain ⟨s0, s1⟩ := hSw; go_simp <;> with_reducible rfl
    simp only [Act.put, List.getElem_toArray, List.getElem_cons_zero, List.getElem_cons_succ, List.setIfInBounds_toArray, List.set_cons_zero, List.set_cons_succ]
    refine wpAnyH_take (i := 15) (v := undef) rfl (by kernel_rfl) (by kernel_rfl) (by kernel_rfl) (fun _ _ _ h => h) (Or.inr ⟨by rfl, rfl⟩) (by assumption) ?_
    simp only [Act.put, List.getElem_toArray, List.getElem_cons_zero, List.getElem_cons_succ, List.setIfInBounds_toArray, List.set_cons_zero, List.set_cons_succ]
    refine wpAnyH_take (i := 16) (v := undef) rfl (by kernel_rfl) (by kernel_rfl) (by kernel_rfl) (fun _ _ _ h => h) (Or.inr ⟨by rfl, rfl⟩) (by assumption) ?_
    simp only [Act.put, List.getElem_toArray, List.getElem_cons_zero, List.getElem_cons_succ, List.setIfInBounds_toArray, List.set_cons_zero, List.set_cons_succ]
    refine wpAnyH_take (i := 17) (v := undef) rfl (by kernel_rfl) (by kernel_rfl) (by kernel_rfl) (fun _ _ _ h => h) (Or.inr ⟨by rfl, rfl⟩) (by assumption) ?_
    simp only [Act.put, List.getElem_toArray, List.getElem_cons_zero, List.getElem_cons_succ, List.setIfInBounds_toArray, List.set_cons_zero, List.set_cons_succ]
    refine wpAnyH_take (i := 18) (v := undef) rfl (by kernel_rfl) (by kernel_rfl) (by kernel_rfl) (fun _ _ _ h => h) (Or.inr ⟨by rfl, rfl⟩) (by assumption) ?_
    simp only [Act.put, List.getElem_toArray, List.getElem_cons_zero, List.getElem_cons_succ, List.setIfInBounds_toArray, List.set_cons_zero, List.set_cons_succ]
    refine wpAnyH_take (i := 19) (v := undef) rfl (by kernel_rfl) (by kernel_rfl) (by kernel_rfl) (fun _ _ _ h => h) (Or.inr ⟨by rfl, rfl⟩) (by assumption) ?_
    simp only [Act.put, List.getElem_toArray, List.getElem_cons_zero, List.getElem_cons_succ, List.setIfInBounds_toArray, List.set_cons_zero, List.set_cons_succ]
    refine wpAnyH_take (i := 20) (v := undef) rfl (by kernel_rfl) (by kernel_rfl) (by kernel_rfl) (fun _ _ _ h => h) (Or.inr ⟨by rfl, rfl⟩) (by assumption) ?_
    simp only [Act.put, List.getElem_toArray, List.getElem_cons_zero, List.getElem_cons_succ, List.setIfInBounds_toArray, List.set_cons_zero, List.set_cons_succ]
    refine wpAnyH_take (i := 21) (v := undef) rfl (by kernel_rfl) (by kernel_rfl) (by kernel_rfl) (fun _ _ _ h => h) (Or.inr ⟨by rfl, rfl⟩) (by assumption) ?_
    simp only [Act.put, List.getElem_toArray, List.getElem_cons_zero, List.getElem_cons_succ, List.setIfInBounds_toArray, List.set_cons_zero, List.set_cons_succ]
    refine wpAnyH_take (i := 22) (v := undef) rfl (by kernel_rfl) (by kernel_rfl) (by kernel_rfl) (fun _ _ _ h => h) (Or.inr ⟨by rfl, rfl⟩) (by assumption) ?_
    simp only [Act.put, List.getElem_toArray, List.getElem_cons_zero, List.getElem_cons_succ, List.setIfInBounds_toArray, List.set_cons_zero, List.set_cons_succ]
    refine wpAnyH_take (i := 23) (v := ?v24x23) rfl (by kernel_rfl) (by kernel_rfl) (by kernel_rfl) (fun _ _ _ h => h) (Or.inl ⟨by rfl, ?hy24x23⟩) (by assumption) ?rest24x23
    case hy24x23 => intro w hSw; obtain ⟨s0, s1⟩ := hSw; go_simp <;> with_reducible rfl
    simp only [Act.put, List.getElem_toArray, List.getElem_cons_zero, List.getElem_cons_succ, List.setIfInBounds_toArray, List.set_cons_zero, List.set_cons_succ]
    refine wpAnyH_take (i := 24) (v := ?v25x24) rfl (by kernel_rfl) (by kernel_rfl) (by kernel_rfl) (fun _ _ _ h => h) (Or.inl ⟨by rfl, ?hy25x24⟩) (by assumption) ?rest25x24
    case hy25x24 => intro w hSw; obtain ⟨s0, s1⟩ := hSw; go_simp <;> with_reducible rfl
    simp only [Act.put, List.getElem_toArray, List.getElem_cons_zero, List.getElem_cons_succ, List.setIfInBounds_toArray, List.set_cons_zero, List.set_cons_succ]
    refine wpAnyH_done (by kernel_rfl) ?_ _
    go_wp2
    go_ret
    exact ⟨rfl, (unhide HAL).drew⟩
  · have c1' : decide (f < 0) = false := by simp [c1]
    obtain ⟨f, rfl⟩ := nat_of (Int.not_lt.1 c1)
    by_cases c2 : b < 2
    · rw [if_pos (Or.inr (Or.inl c2))]
      have c2' : decide (b < 2) = true := by simp [c2]
      go_enter Tryz.func35, Tryz.ntmps35
      go_wp2_with (rw [hB])
      refine (blocks_any (unhide HI)).mono ?_
      rintro e w1 ⟨rfl, rfl⟩
      go_wp2
      refine wp_region_held_drew (S := fun x => x.cell? ⟨w.heap.size, 0, none⟩ = some (.int .i64 f) ∧ x.cell? ⟨w.heap.size, 1, none⟩ = some (.int .i64 b)) (by kernel_rfl) (unhide HBX _ (Below.refl _ _).drew) (fun hHeld => ?_)
      refine wpAnyH_take (i := 0) (v := ?v26x0) rfl (by kernel_rfl) (by kernel_rfl) (by kernel_rfl) (fun _ _ _ h => h) (Or.inl ⟨by rfl, ?hy26x0⟩) (by assumption) ?rest26x0
      case hy26x0 => intro w hSw; obtain ⟨s0, s1⟩ := hSw; go_simp <;> with_reducible rfl
      simp only [Act.put, List.getElem_toArray, List.getElem_cons_zero, List.setIfInBounds_toArray, List.set_cons_zero, List.set_cons_succ]
      refine wpAnyH_take (i := 1) (v := ?v27x1) rfl (by kernel_rfl) (by kernel_rfl) (by kernel_rfl) (fun _ _ _ h => h) (Or.inl ⟨by rfl, ?hy27x1⟩) (by assumption) ?rest27x1
      case hy27x1 => intro w hSw; obtain ⟨s0, s1⟩ := hSw; go_simp <;> with_reducible rfl
      simp only [Act.put, List.getElem_toArray, List.getElem_cons_zero, List.getElem_cons_succ, List.setIfInBounds_toArray, List.set_cons_zero, List.set_cons_succ]
      refine wpAnyH_take (i := 2) (v := (.bool false)) rfl (by kernel_rfl) (by kernel_rfl) (by kernel_rfl) (fun _ _ _ h => h) (Or.inl ⟨by rfl, ?hy28x2⟩) (by assumption) ?rest28x2
      case hy28x2 => intro w hSw; obtain ⟨s0, s1⟩ := hSw; go_simp <;> with_reducible rfl
      simp only [Act.put, List.getElem_toArray, List.getElem_cons_zero, List.getElem_cons_succ, List.setIfInBounds_toArray, List.set_cons_zero, List.set_cons_succ]
      refine wpAnyH_take (i := 3) (v := ?v29x3) rfl (by kernel_rfl) (by kernel_rfl) (by kernel_rfl) (fun _ _ _ h => h) (Or.inl ⟨by rfl, ?hy29x3⟩) (by assumption) ?rest29x3
      case hy29x3 => intro w hSw; obtain ⟨s0, s1⟩ := hSw; go_simp <;> with_reducible rfl
      simp only [Act.put, List.getElem_toArray, List.getElem_cons_zero, List.getElem_cons_succ, List.setIfInBounds_toArray, List.set_cons_zero, List.set_cons_succ]
      refine wpAnyH_take (i := 4) (v := ?v30x4) rfl (by kernel_rfl) (by kernel_rfl) (by kernel_rfl) (fun _ _ _ h => h) (Or.inl ⟨by rfl, ?hy30x4⟩) (by assumption) ?rest30x4
      case hy30x4 => intro w hSw; obtain ⟨s0, s1⟩ := hSw; go_simp <;> with_reducible rfl
      simp only [Act.put, List.getElem_toArray, List.getElem_cons_zero, List.getElem_cons_succ, List.setIfInBounds_toArray, List.set_cons_zero, List.set_cons_succ]
      refine wpAnyH_take (i := 5) (v := ?v31x5) rfl (by kernel_rfl) (by kernel_rfl) (by kernel_rfl) (fun _ _ _ h => h) (Or.inl ⟨by rfl, ?hy31x5⟩) (by assumption) ?rest31x5
      case hy31x5 => intro w hSw; obtain ⟨s0, s1⟩ := hSw; go_simp <;> with_reducible rfl
      simp only [Act.put, List.getElem_toArray, List.getElem_cons_zero, List.getElem_cons_succ, List.setIfInBounds_toArray, List.set_cons_zero, List.set_cons_succ]
      refine wpAnyH_take (i := 6) (v := (.bool true)) rfl (by kernel_rfl) (by kernel_rfl) (by kernel_rfl) (fun _ _ _ h => h) (Or.inl ⟨by rfl, ?hy32x6⟩) (by assumption) ?rest32x6
      case hy32x6 => intro w hSw; obtain ⟨s0, s1⟩ := hSw; go_simp <;> with_reducible rfl
      simp only [Act.put, List.getElem_toArray, List.getElem_cons_zero, List.getElem_cons_succ, List.setIfInBounds_toArray, List.set_cons_zero, List.set_cons_succ]
      refine wpAnyH_take (i := 7) (v := ?v33x7) rfl (by kernel_rfl) (by kernel_rfl) (by kernel_rfl) (fun _ _ _ h => h) (Or.inl ⟨by rfl, ?hy33x7⟩) (by assumption) ?rest33x7
      case hy33x7 => intro w hSw; obtain ⟨s0, s1⟩ := hSw; go_simp <;> with_reducible rfl
      simp only [Act.put, List.getElem_toArray, List.getElem_cons_zero, List.getElem_cons_succ, List.setIfInBounds_toArray, List.set_cons_zero, List.set_cons_succ]
      refine wpAnyH_take (i := 8) (v := ?v34x8) rfl (by kernel_rfl) (by kernel_rfl) (by kernel_rfl) (fun _ _ _ h => h) (Or.inl ⟨by rfl, ?hy34x8⟩) (by assumption) ?rest34x8
      case hy34x8 => intro w hSw; obtain ⟨s0, s1⟩ := hSw; go_simp <;> with_reducible rfl
      simp only [Act.put, List.getElem_toArray, List.getElem_cons_zero, List.getElem_cons_succ, List.setIfInBounds_toArray, List.set_cons_zero, List.set_cons_succ]
      refine wpAnyH_take (i := 9) (v := undef) rfl (by kernel_rfl) (by kernel_rfl) (by kernel_rfl) (fun _ _ _ h => h) (Or.inr ⟨by rfl, rfl⟩) (by assumption) ?_
      simp only [Act.put, List.getElem_toArray, List.getElem_cons_zero, List.getElem_cons_succ, List.setIfInBounds_toArray, List.set_cons_zero, List.set_cons_succ]
      refine wpAnyH_take (i := 10) (v := undef) rfl (by kernel_rfl) (by kernel_rfl) (by kernel_rfl) (fun _ _ _ h => h) (Or.inr ⟨by rfl, rfl⟩) (by assumption) ?_
      simp only [Act.put, List.getElem_toArray, List.getElem_cons_zero, List.getElem_cons_succ, List.setIfInBounds_toArray, List.set_cons_zero, List.set_cons_succ]
      refine wpAnyH_take (i := 11) (v := undef) rfl (by kernel_rfl) (by kernel_rfl) (by kernel_rfl) (fun _ _ _ h => h) (Or.inr ⟨by rfl, rfl⟩) (by assumption) ?_
      simp only [Act.put, List.getElem_toArray, List.getElem_cons_zero, List.getElem_cons_succ, List.setIfInBounds_toArray, List.set_cons_zero, List.set_cons_succ]
      refine wpAnyH_take (i := 12) (v := undef) rfl (by kernel_rfl) (by kernel_rfl) (by kernel_rfl) (fun _ _ _ h => h) (Or.inr ⟨by rfl, rfl⟩) (by assumption) ?_
      simp only [Act.put, List.getElem_toArray, List.getElem_cons_zero, List.getElem_cons_succ, List.setIfInBounds_toArray, List.set_cons_zero, List.set_cons_succ]
      refine wpAnyH_take (i := 13) (v := ?v39x13) rfl (by kernel_rfl) (by kernel_rfl) (by kernel_rfl) (fun _ _ _ h => h) (Or.inl ⟨by rfl, ?hy39x13⟩) (by assumption) ?rest39x13
      case hy39x13 => intro w hSw; obtain ⟨s0, s1⟩ := hSw; go_simp <;> with_reducible rfl
      simp only [Act.put, List.getElem_toArray, List.getElem_cons_zero, List.getElem_cons_succ, List.setIfInBounds_toArray, List.set_cons_zero, List.set_cons_succ]
      refine wpAnyH_take (i := 14) (v := ?v40x14) rfl (by kernel_rfl) (by kernel_rfl) (by kernel_rfl) (fun _ _ _ h => h) (Or.inl ⟨by rfl, ?hy40x14⟩) (by assumption) ?rest40x14
      case hy40x14 => intro w hSw; obtain ⟨s0, s1⟩ := hSw; go_simp <;> with_reducible rfl
      simp only [Act.put, List.getElem_toArray, List.getElem_cons_zero, List.getElem_cons_succ, List.setIfInBounds_toArray, List.set_cons_zero, List.set_cons_succ]
      refine wpAnyH_take (i := 15) (v := undef) rfl (by kernel_rfl) (by kernel_rfl) (by kernel_rfl) (fun _ _ _ h => h) (Or.inr ⟨by rfl, rfl⟩) (by assumption) ?_
      simp only [Act.put, List.getElem_toArray, List.getElem_cons_zero, List.getElem_cons_succ, List.setIfInBounds_toArray, List.set_cons_zero, List.set_cons_succ]
      refine wpAnyH_take (i := 16) (v := undef) rfl (by kernel_rfl) (by kernel_rfl) (by kernel_rfl) (fun _ _ _ h => h) (Or.inr ⟨by rfl, rfl⟩) (by assumption) ?_
      simp only [Act.put, List.getElem_toArray, List.getElem_cons_zero, List.getElem_cons_succ, List.setIfInBounds_toArray, List.set_cons_zero, List.set_cons_succ]
      refine wpAnyH_take (i := 17) (v := undef) rfl (by kernel_rfl) (by kernel_rfl) (by kernel_rfl) (fun _ _ _ h => h) (Or.inr ⟨by rfl, rfl⟩) (by assumption) ?_
      simp only [Act.put, List.getElem_toArray, List.getElem_cons_zero, List.getElem_cons_succ, List.setIfInBounds_toArray, List.set_cons_zero, List.set_cons_succ]
      refine wpAnyH_take (i := 18) (v := undef) rfl (by kernel_rfl) (by kernel_rfl) (by kernel_rfl) (fun _ _ _ h => h) (Or.inr ⟨by rfl, rfl⟩) (by assumption) ?_
      simp only [Act.put, List.getElem_toArray, List.getElem_cons_zero, List.getElem_cons_succ, List.setIfInBounds_toArray, List.set_cons_zero, List.set_cons_succ]
      refine wpAnyH_take (i := 19) (v := undef) rfl (by kernel_rfl) (by kernel_rfl) (by kernel_rfl) (fun _ _ _ h => h) (Or.inr ⟨by rfl, rfl⟩) (by assumption) ?_
      simp only [Act.put, List.getElem_toArray, List.getElem_cons_zero, List.getElem_cons_succ, List.setIfInBounds_toArray, List.set_cons_zero, List.set_cons_succ]
      refine wpAnyH_take (i := 20) (v := undef) rfl (by kernel_rfl) (by kernel_rfl) (by kernel_rfl) (fun _ _ _ h => h) (Or.inr ⟨by rfl, rfl⟩) (by assumption) ?_
      simp only [Act.put, List.getElem_toArray, List.getElem_cons_zero, List.getElem_cons_succ, List.setIfInBounds_toArray, List.set_cons_zero, List.set_cons_succ]
      refine wpAnyH_take (i := 21) (v := undef) rfl (by kernel_rfl) (by kernel_rfl) (by kernel_rfl) (fun _ _ _ h => h) (Or.inr ⟨by rfl, rfl⟩) (by assumption) ?_
      simp only [Act.put, List.getElem_toArray, List.getElem_cons_zero, List.getElem_cons_succ, List.setIfInBounds_toArray, List.set_cons_zero, List.set_cons_succ]
      refine wpAnyH_take (i := 22) (v := undef) rfl (by kernel_rfl) (by kernel_rfl) (by kernel_rfl) (fun _ _ _ h => h) (Or.inr ⟨by rfl, rfl⟩) (by assumption) ?_
      simp only [Act.put, List.getElem_toArray, List.getElem_cons_zero, List.getElem_cons_succ, List.setIfInBounds_toArray, List.set_cons_zero, List.set_cons_succ]
      refine wpAnyH_take (i := 23) (v := ?v49x23) rfl (by kernel_rfl) (by kernel_rfl) (by kernel_rfl) (fun _ _ _ h => h) (Or.inl ⟨by rfl, ?hy49x23⟩) (by assumption) ?rest49x23
      case hy49x23 => intro w hSw; obtain ⟨s0, s1⟩ := hSw; go_simp <;> with_reducible rfl
      simp only [Act.put, List.getElem_toArray, List.getElem_cons_zero, List.getElem_cons_succ, List.setIfInBounds_toArray, List.set_cons_zero, List.set_cons_succ]
      refine wpAnyH_take (i := 24) (v := ?v50x24) rfl (by kernel_rfl) (by kernel_rfl) (by kernel_rfl) (fun _ _ _ h => h) (Or.inl ⟨by rfl, ?hy50x24⟩) (by assumption) ?rest50x24
      case hy50x24 => intro w hSw; obtain ⟨s0, s1⟩ := hSw; go_simp <;> with_reducible rfl
      simp only [Act.put, List.getElem_toArray, List.getElem_cons_zero, List.getElem_cons_succ, List.setIfInBounds_toArray, List.set_cons_zero, List.set_cons_succ]
      refine wpAnyH_done (by kernel_rfl) ?_ _
      go_wp2
      go_ret
      exact ⟨rfl, (unhide HAL).drew⟩
    · have c2' : decide (b < 2) = false := by simp [c2]
      obtain ⟨b, rfl⟩ := nat_of (show 0 ≤ b by omega)
      by_cases c3 : (b : Int) % 2 ≠ 0
      · rw [if_pos (Or.inr (Or.inr (Or.inl c3)))]
        have t1 : (b : Int).tmod 2 = 1 := by rw [Int.tmod_eq_emod_of_nonneg (by omega)]; omega
        go_enter Tryz.func35, Tryz.ntmps35
        go_wp2_with (rw [hB])
        refine (blocks_any (unhide HI)).mono ?_
        rintro e w1 ⟨rfl, rfl⟩
        go_wp2
        refine wp_region_held_drew (S := fun x => x.cell? ⟨w.heap.size, 0, none⟩ = some (.int .i64 f) ∧ x.cell? ⟨w.heap.size, 1, none⟩ = some (.int .i64 b)) (by kernel_rfl) (unhide HBX _ (Below.refl _ _).drew) (fun hHeld => ?_)
        refine wpAnyH_take (i := 0) (v := ?v51x0) rfl (by kernel_rfl) (by kernel_rfl) (by kernel_rfl) (fun _ _ _ h => h) (Or.inl ⟨by rfl, ?hy51x0⟩) (by assumption) ?rest51x0
        case hy51x0 => intro w hSw; obtain ⟨s0, s1⟩ := hSw; go_simp <;> with_reducible rfl
        simp only [Act.put, List.getElem_toArray, List.getElem_cons_zero, List.setIfInBounds_toArray, List.set_cons_zero, List.set_cons_succ]
        refine wpAnyH_take (i := 1) (v := ?v52x1) rfl (by kernel_rfl) (by kernel_rfl) (by kernel_rfl) (fun _ _ _ h => h) (Or.inl ⟨by rfl, ?hy52x1⟩) (by assumption) ?rest52x1
        case hy52x1 => intro w hSw; obtain ⟨s0, s1⟩ := hSw; go_simp <;> with_reducible rfl
        simp only [Act.put, List.getElem_toArray, List.getElem_cons_zero, List.getElem_cons_succ, List.setIfInBounds_toArray, List.set_cons_zero, List.set_cons_succ]
        refine wpAnyH_take (i := 2) (v := (.bool false)) rfl (by kernel_rfl) (by kernel_rfl) (by kernel_rfl) (fun _ _ _ h => h) (Or.inl ⟨by rfl, ?hy53x2⟩) (by assumption) ?rest53x2
        case hy53x2 => intro w hSw; obtain ⟨s0, s1⟩ := hSw; go_simp <;> with_reducible rfl
        simp only [Act.put, List.getElem_toArray, List.getElem_cons_zero, List.getElem_cons_succ, List.setIfInBounds_toArray, List.set_cons_zero, List.set_cons_succ]
        refine wpAnyH_take (i := 3) (v := ?v54x3) rfl (by kernel_rfl) (by kernel_rfl) (by kernel_rfl) (fun _ _ _ h => h) (Or.inl ⟨by rfl, ?hy54x3⟩) (by assumption) ?rest54x3
        case hy54x3 => intro w hSw; obtain ⟨s0, s1⟩ := hSw; go_simp <;> with_reducible rfl
        simp only [Act.put, List.getElem_toArray, List.getElem_cons_zero, List.getElem_cons_succ, List.setIfInBounds_toArray, List.set_cons_zero, List.set_cons_succ]
        refine wpAnyH_take (i := 4) (v := ?v55x4) rfl (by kernel_rfl) (by kernel_rfl) (by kernel_rfl) (fun _ _ _ h => h) (Or.inl ⟨by rfl, ?hy55x4⟩) (by assumption) ?rest55x4
        case hy55x4 => intro w hSw; obtain ⟨s0, s1⟩ := hSw; go_simp <;> with_reducible rfl
        simp only [Act.put, List.getElem_toArray, List.getElem_cons_zero, List.getElem_cons_succ, List.setIfInBounds_toArray, List.set_cons_zero, List.set_cons_succ]
        refine wpAnyH_take (i := 5) (v := ?v56x5) rfl (by kernel_rfl) (by kernel_rfl) (by kernel_rfl) (fun _ _ _ h => h) (Or.inl ⟨by rfl, ?hy56x5⟩) (by assumption) ?rest56x5
        case hy56x5 => intro w hSw; obtain ⟨s0, s1⟩ := hSw; go_simp <;> with_reducible rfl
        simp only [Act.put, List.getElem_toArray, List.getElem_cons_zero, List.getElem_cons_succ, List.setIfInBounds_toArray, List.set_cons_zero, List.set_cons_succ]
        refine wpAnyH_take (i := 6) (v := (.bool false)) rfl (by kernel_rfl) (by kernel_rfl) (by kernel_rfl) (fun _ _ _ h => h) (Or.inl ⟨by rfl, ?hy57x6⟩) (by assumption) ?rest57x6
        case hy57x6 => intro w hSw; obtain ⟨s0, s1⟩ := hSw; go_simp <;> with_reducible rfl
        simp only [Act.put, List.getElem_toArray, List.getElem_cons_zero, List.getElem_cons_succ, List.setIfInBounds_toArray, List.set_cons_zero, List.set_cons_succ]
        refine wpAnyH_take (i := 7) (v := ?v58x7) rfl (by kernel_rfl) (by kernel_rfl) (by kernel_rfl) (fun _ _ _ h => h) (Or.inl ⟨by rfl, ?hy58x7⟩) (by assumption) ?rest58x7
        case hy58x7 => intro w hSw; obtain ⟨s0, s1⟩ := hSw; go_simp <;> with_reducible rfl
        simp only [Act.put, List.getElem_toArray, List.getElem_cons_zero, List.getElem_cons_succ, List.setIfInBounds_toArray, List.set_cons_zero, List.set_cons_succ]
        refine wpAnyH_take (i := 8) (v := ?v59x8) rfl (by kernel_rfl) (by kernel_rfl) (by kernel_rfl) (fun _ _ _ h => h) (Or.inl ⟨by rfl, ?hy59x8⟩) (by assumption) ?rest59x8
        case hy59x8 => intro w hSw; obtain ⟨s0, s1⟩ := hSw; go_simp <;> with_reducible rfl
        simp only [Act.put, List.getElem_toArray, List.getElem_cons_zero, List.getElem_cons_succ, List.setIfInBounds_toArray, List.set_cons_zero, List.set_cons_succ]
        refine wpAnyH_take (i := 9) (v := ?v60x9) rfl (by kernel_rfl) (by kernel_rfl) (by kernel_rfl) (fun _ _ _ h => h) (Or.inl ⟨by rfl, ?hy60x9⟩) (by assumption) ?rest60x9
        case hy60x9 => intro w hSw; obtain ⟨s0, s1⟩ := hSw; go_simp <;> with_reducible rfl
        simp only [Act.put, List.getElem_toArray, List.getElem_cons_zero, List.getElem_cons_succ, List.setIfInBounds_toArray, List.set_cons_zero, List.set_cons_succ]
        refine wpAnyH_take (i := 10) (v := ?v61x10) rfl (by kernel_rfl) (by kernel_rfl) (by kernel_rfl) (fun _ _ _ h => h) (Or.inl ⟨by rfl, ?hy61x10⟩) (by assumption) ?rest61x10
        case hy61x10 => intro w hSw; obtain ⟨s0, s1⟩ := hSw; go_simp <;> with_reducible rfl
        simp only [Act.put, List.getElem_toArray, List.getElem_cons_zero, List.getElem_cons_succ, List.setIfInBounds_toArray, List.set_cons_zero, List.set_cons_succ]
        refine wpAnyH_take (i := 11) (v := ?v62x11) rfl (by kernel_rfl) (by kernel_rfl) (by kernel_rfl) (fun _ _ _ h => h) (Or.inl ⟨by rfl, ?hy62x11⟩) (by assumption) ?rest62x11
        case hy62x11 => intro w hSw; obtain ⟨s0, s1⟩ := hSw; go_simp <;> with_reducible rfl
        simp only [Act.put, List.getElem_toArray, List.getElem_cons_zero, List.getElem_cons_succ, List.setIfInBounds_toArray, List.set_cons_zero, List.set_cons_succ]
        refine wpAnyH_take (i := 12) (v := (.bool true)) rfl (by kernel_rfl) (by kernel_rfl) (by kernel_rfl) (fun _ _ _ h => h) (Or.inl ⟨by rfl, ?hy63x12⟩) (by assumption) ?rest63x12
        case hy63x12 => intro w hSw; go_simp
        simp only [Act.put, List.getElem_toArray, List.getElem_cons_zero, List.getElem_cons_succ, List.setIfInBounds_toArray, List.set_cons_zero, List.set_cons_succ]
        refine wpAnyH_take (i := 13) (v := ?v64x13) rfl (by kernel_rfl) (by kernel_rfl) (by kernel_rfl) (fun _ _ _ h => h) (Or.inl ⟨by rfl, ?hy64x13⟩) (by assumption) ?rest64x13
        case hy64x13 => intro w hSw; obtain ⟨s0, s1⟩ := hSw; go_simp <;> with_reducible rfl
        simp only [Act.put, List.getElem_toArray, List.getElem_cons_zero, List.getElem_cons_succ, List.setIfInBounds_toArray, List.set_cons_zero, List.set_cons_succ]
        refine wpAnyH_take (i := 14) (v := ?v65x14) rfl (by kernel_rfl) (by kernel_rfl) (by kernel_rfl) (fun _ _ _ h => h) (Or.inl ⟨by rfl, ?hy65x14⟩) (by assumption) ?rest65x14
        case hy65x14 => intro w hSw; obtain ⟨s0, s1⟩ := hSw; go_simp <;> with_reducible rfl
        simp only [Act.put, List.getElem_toArray, List.getElem_cons_zero, List.getElem_cons_succ, List.setIfInBounds_toArray, List.set_cons_zero, List.set_cons_succ]
        refine wpAnyH_take (i := 15) (v := undef) rfl (by kernel_rfl) (by kernel_rfl) (by kernel_rfl) (fun _ _ _ h => h) (Or.inr ⟨by rfl, rfl⟩) (by assumption) ?_
        simp only [Act.put, List.getElem_toArray, List.getElem_cons_zero, List.getElem_cons_succ, List.setIfInBounds_toArray, List.set_cons_zero, List.set_cons_succ]
        refine wpAnyH_take (i := 16) (v := undef) rfl (by kernel_rfl) (by kernel_rfl) (by kernel_rfl) (fun _ _ _ h => h) (Or.inr ⟨by rfl, rfl⟩) (by assumption) ?_
        simp only [Act.put, List.getElem_toArray, List.getElem_cons_zero, List.getElem_cons_succ, List.setIfInBounds_toArray, List.set_cons_zero, List.set_cons_succ]
        refine wpAnyH_take (i := 17) (v := undef) rfl (by kernel_rfl) (by kernel_rfl) (by kernel_rfl) (fun _ _ _ h => h) (Or.inr ⟨by rfl, rfl⟩) (by assumption) ?_
        simp only [Act.put, List.getElem_toArray, List.getElem_cons_zero, List.getElem_cons_succ, List.setIfInBounds_toArray, List.set_cons_zero, List.set_cons_succ]
        refine wpAnyH_take (i := 18) (v := undef) rfl (by kernel_rfl) (by kernel_rfl) (by kernel_rfl) (fun _ _ _ h => h) (Or.inr ⟨by rfl, rfl⟩) (by assumption) ?_
        simp only [Act.put, List.getElem_toArray, List.getElem_cons_zero, List.getElem_cons_succ, List.setIfInBounds_toArray, List.set_cons_zero, List.set_cons_succ]
        refine wpAnyH_take (i := 19) (v := undef) rfl (by kernel_rfl) (by kernel_rfl) (by kernel_rfl) (fun _ _ _ h => h) (Or.inr ⟨by rfl, rfl⟩) (by assumption) ?_
        simp only [Act.put, List.getElem_toArray, List.getElem_cons_zero, List.getElem_cons_succ, List.setIfInBounds_toArray, List.set_cons_zero, List.set_cons_succ]
        refine wpAnyH_take (i := 20) (v := undef) rfl (by kernel_rfl) (by kernel_rfl) (by kernel_rfl) (fun _ _ _ h => h) (Or.inr ⟨by rfl, rfl⟩) (by assumption) ?_
        simp only [Act.put, List.getElem_toArray, List.getElem_cons_zero, List.getElem_cons_succ, List.setIfInBounds_toArray, List.set_cons_zero, List.set_cons_succ]
        refine wpAnyH_take (i := 21) (v := undef) rfl (by kernel_rfl) (by kernel_rfl) (by kernel_rfl) (fun _ _ _ h => h) (Or.inr ⟨by rfl, rfl⟩) (by assumption) ?_
        simp only [Act.put, List.getElem_toArray, List.getElem_cons_zero, List.getElem_cons_succ, List.setIfInBounds_toArray, List.set_cons_zero, List.set_cons_succ]
        refine wpAnyH_take (i := 22) (v := undef) rfl (by kernel_rfl) (by kernel_rfl) (by kernel_rfl) (fun _ _ _ h => h) (Or.inr ⟨by rfl, rfl⟩) (by assumption) ?_
        simp only [Act.put, List.getElem_toArray, List.getElem_cons_zero, List.getElem_cons_succ, List.setIfInBounds_toArray, List.set_cons_zero, List.set_cons_succ]
        refine wpAnyH_take (i := 23) (v := ?v74x23) rfl (by kernel_rfl) (by kernel_rfl) (by kernel_rfl) (fun _ _ _ h => h) (Or.inl ⟨by rfl, ?hy74x23⟩) (by assumption) ?rest74x23
        case hy74x23 => intro w hSw; obtain ⟨s0, s1⟩ := hSw; go_simp <;> with_reducible rfl
        simp only [Act.put, List.getElem_toArray, List.getElem_cons_zero, List.getElem_cons_succ, List.setIfInBounds_toArray, List.set_cons_zero, List.set_cons_succ]
        refine wpAnyH_take (i := 24) (v := ?v75x24) rfl (by kernel_rfl) (by kernel_rfl) (by kernel_rfl) (fun _ _ _ h => h) (Or.inl ⟨by rfl, ?hy75x24⟩) (by assumption) ?rest75x24
        case hy75x24 => intro w hSw; obtain ⟨s0, s1⟩ := hSw; go_simp <;> with_reducible rfl
        simp only [Act.put, List.getElem_toArray, List.getElem_cons_zero, List.getElem_cons_succ, List.setIfInBounds_toArray, List.set_cons_zero, List.set_cons_succ]
        refine wpAnyH_done (by kernel_rfl) ?_ _
        go_wp2
        go_ret
        exact ⟨rfl, (unhide HAL).drew⟩
      · have t1 : (b : Int).tmod 2 = 0 := by rw [Int.tmod_eq_emod_of_nonneg (by omega)]; omega
        have t2 : IntKind.i64.wrap ((F.n : Int) - f) = F.n - f := by rw [IntKind.wrap_i64]; omega
        have HB2 : Hid (∀ x, IsFl x g h cap F → Calls Tryz.prog 60 #[P0 h] x fun e w' => e = .returned (.int .i64 F.n) ∧ x = w') := fun x hx => blocks_any hx
        by_cases c4 : (F.n : Int) - f < b
        · rw [if_pos (Or.inr (Or.inr (Or.inr c4)))]
          have c4' : decide ((F.n : Int) - f < b) = true := by simp; omega
          go_enter Tryz.func35, Tryz.ntmps35
          go_wp2_with (rw [hB])
          refine (blocks_any (unhide HI)).mono ?_
          rintro e w1 ⟨rfl, rfl⟩
          go_wp2
          refine wp_region_held_drew (S := fun x => x.cell? ⟨w.heap.size, 0, none⟩ = some (.int .i64 f) ∧ x.cell? ⟨w.heap.size, 1, none⟩ = some (.int .i64 b)) (by kernel_rfl) (unhide HBX _ (Below.refl _ _).drew) (fun hHeld => ?_)
          refine wpAnyH_take (i := 0) (v := ?v76x0) rfl (by kernel_rfl) (by kernel_rfl) (by kernel_rfl) (fun _ _ _ h => h) (Or.inl ⟨by rfl, ?hy76x0⟩) (by assumption) ?rest76x0
          case hy76x0 => intro w hSw; obtain ⟨s0, s1⟩ := hSw; go_simp <;> with_reducible rfl
          simp only [Act.put, List.getElem_toArray, List.getElem_cons_zero, List.setIfInBounds_toArray, List.set_cons_zero, List.set_cons_succ]
          refine wpAnyH_take (i := 1) (v := ?v77x1) rfl (by kernel_rfl) (by kernel_rfl) (by kernel_rfl) (fun _ _ _ h => h) (Or.inl ⟨by rfl, ?hy77x1⟩) (by assumption) ?rest77x1
          case hy77x1 => intro w hSw; obtain ⟨s0, s1⟩ := hSw; go_simp <;> with_reducible rfl
          simp only [Act.put, List.getElem_toArray, List.getElem_cons_zero, List.getElem_cons_succ, List.setIfInBounds_toArray, List.set_cons_zero, List.set_cons_succ]
          refine wpAnyH_take (i := 2) (v := (.bool false)) rfl (by kernel_rfl) (by kernel_rfl) (by kernel_rfl) (fun _ _ _ h => h) (Or.inl ⟨by rfl, ?hy78x2⟩) (by assumption) ?rest78x2
          case hy78x2 => intro w hSw; obtain ⟨s0, s1⟩ := hSw; go_simp <;> with_reducible rfl
          simp only [Act.put, List.getElem_toArray, List.getElem_cons_zero, List.getElem_cons_succ, List.setIfInBounds_toArray, List.set_cons_zero, List.set_cons_succ]
          refine wpAnyH_take (i := 3) (v := ?v79x3) rfl (by kernel_rfl) (by kernel_rfl) (by kernel_rfl) (fun _ _ _ h => h) (Or.inl ⟨by rfl, ?hy79x3⟩) (by assumption) ?rest79x3
          case hy79x3 => intro w hSw; obtain ⟨s0, s1⟩ := hSw; go_simp <;> with_reducible rfl
          simp only [Act.put, List.getElem_toArray, List.getElem_cons_zero, List.getElem_cons_succ, List.setIfInBounds_toArray, List.set_cons_zero, List.set_cons_succ]
          refine wpAnyH_take (i := 4) (v := ?v80x4) rfl (by kernel_rfl) (by kernel_rfl) (by kernel_rfl) (fun _ _ _ h => h) (Or.inl ⟨by rfl, ?hy80x4⟩) (by assumption) ?rest80x4
          case hy80x4 => intro w hSw; obtain ⟨s0, s1⟩ := hSw; go_simp <;> with_reducible rfl
          simp only [Act.put, List.getElem_toArray, List.getElem_cons_zero, List.getElem_cons_succ, List.setIfInBounds_toArray, List.set_cons_zero, List.set_cons_succ]
          refine wpAnyH_take (i := 5) (v := ?v81x5) rfl (by kernel_rfl) (by kernel_rfl) (by kernel_rfl) (fun _ _ _ h => h) (Or.inl ⟨by rfl, ?hy81x5⟩) (by assumption) ?rest81x5
          case hy81x5 => intro w hSw; obtain ⟨s0, s1⟩ := hSw; go_simp <;> with_reducible rfl
          simp only [Act.put, List.getElem_toArray, List.getElem_cons_zero, List.getElem_cons_succ, List.setIfInBounds_toArray, List.set_cons_zero, List.set_cons_succ]
          refine wpAnyH_take (i := 6) (v := (.bool false)) rfl (by kernel_rfl) (by kernel_rfl) (by kernel_rfl) (fun _ _ _ h => h) (Or.inl ⟨by rfl, ?hy82x6⟩) (by assumption) ?rest82x6
          case hy82x6 => intro w hSw; obtain ⟨s0, s1⟩ := hSw; go_simp <;> with_reducible rfl
          simp only [Act.put, List.getElem_toArray, List.getElem_cons_zero, List.getElem_cons_succ, List.setIfInBounds_toArray, List.set_cons_zero, List.set_cons_succ]
          refine wpAnyH_take (i := 7) (v := ?v83x7) rfl (by kernel_rfl) (by kernel_rfl) (by kernel_rfl) (fun _ _ _ h => h) (Or.inl ⟨by rfl, ?hy83x7⟩) (by assumption) ?rest83x7
          case hy83x7 => intro w hSw; obtain ⟨s0, s1⟩ := hSw; go_simp <;> with_reducible rfl
          simp only [Act.put, List.getElem_toArray, List.getElem_cons_zero, List.getElem_cons_succ, List.setIfInBounds_toArray, List.set_cons_zero, List.set_cons_succ]
          refine wpAnyH_take (i := 8) (v := ?v84x8) rfl (by kernel_rfl) (by kernel_rfl) (by kernel_rfl) (fun _ _ _ h => h) (Or.inl ⟨by rfl, ?hy84x8⟩) (by assumption) ?rest84x8
          case hy84x8 => intro w hSw; obtain ⟨s0, s1⟩ := hSw; go_simp <;> with_reducible rfl
          simp only [Act.put, List.getElem_toArray, List.getElem_cons_zero, List.getElem_cons_succ, List.setIfInBounds_toArray, List.set_cons_zero, List.set_cons_succ]
          refine wpAnyH_take (i := 9) (v := ?v85x9) rfl (by kernel_rfl) (by kernel_rfl) (by kernel_rfl) (fun _ _ _ h => h) (Or.inl ⟨by rfl, ?hy85x9⟩) (by assumption) ?rest85x9
          case hy85x9 => intro w hSw; obtain ⟨s0, s1⟩ := hSw; go_simp <;> with_reducible rfl
          simp only [Act.put, List.getElem_toArray, List.getElem_cons_zero, List.getElem_cons_succ, List.setIfInBounds_toArray, List.set_cons_zero, List.set_cons_succ]
          refine wpAnyH_take (i := 10) (v := ?v86x10) rfl (by kernel_rfl) (by kernel_rfl) (by kernel_rfl) (fun _ _ _ h => h) (Or.inl ⟨by rfl, ?hy86x10⟩) (by assumption) ?rest86x10
          case hy86x10 => intro w hSw; obtain ⟨s0, s1⟩ := hSw; go_simp <;> with_reducible rfl
          simp only [Act.put, List.getElem_toArray, List.getElem_cons_zero, List.getElem_cons_succ, List.setIfInBounds_toArray, List.set_cons_zero, List.set_cons_succ]
          refine wpAnyH_take (i := 11) (v := ?v87x11) rfl (by kernel_rfl) (by kernel_rfl) (by kernel_rfl) (fun _ _ _ h => h) (Or.inl ⟨by rfl, ?hy87x11⟩) (by assumption) ?rest87x11
          case hy87x11 => intro w hSw; obtain ⟨s0, s1⟩ := hSw; go_simp <;> with_reducible rfl
          simp only [Act.put, List.getElem_toArray, List.getElem_cons_zero, List.getElem_cons_succ, List.setIfInBounds_toArray, List.set_cons_zero, List.set_cons_succ]
          refine wpAnyH_take (i := 12) (v := (.bool false)) rfl (by kernel_rfl) (by kernel_rfl) (by kernel_rfl) (fun _ _ _ h => h) (Or.inl ⟨by rfl, ?hy88x12⟩) (by assumption) ?rest88x12
          case hy88x12 => intro w hSw; go_simp
          simp only [Act.put, List.getElem_toArray, List.getElem_cons_zero, List.getElem_cons_succ, List.setIfInBounds_toArray, List.set_cons_zero, List.set_cons_succ]
          refine wpAnyH_take (i := 13) (v := ?v89x13) rfl (by kernel_rfl) (by kernel_rfl) (by kernel_rfl) (fun _ _ _ h => h) (Or.inl ⟨by rfl, ?hy89x13⟩) (by assumption) ?rest89x13
          case hy89x13 => intro w hSw; obtain ⟨s0, s1⟩ := hSw; go_simp <;> with_reducible rfl
          simp only [Act.put, List.getElem_toArray, List.getElem_cons_zero, List.getElem_cons_succ, List.setIfInBounds_toArray, List.set_cons_zero, List.set_cons_succ]
          refine wpAnyH_take (i := 14) (v := ?v90x14) rfl (by kernel_rfl) (by kernel_rfl) (by kernel_rfl) (fun _ _ _ h => h) (Or.inl ⟨by rfl, ?hy90x14⟩) (by assumption) ?rest90x14
          case hy90x14 => intro w hSw; obtain ⟨s0, s1⟩ := hSw; go_simp <;> with_reducible rfl
          simp only [Act.put, List.getElem_toArray, List.getElem_cons_zero, List.getElem_cons_succ, List.setIfInBounds_toArray, List.set_cons_zero, List.set_cons_succ]
          refine wpAnyH_take (i := 15) (v := ?v91x15) rfl (by kernel_rfl) (by kernel_rfl) (by kernel_rfl) (fun _ _ _ h => h) (Or.inl ⟨by rfl, ?hy91x15⟩) (by assumption) ?rest91x15
          case hy91x15 => intro w hSw; obtain ⟨s0, s1⟩ := hSw; go_simp <;> with_reducible rfl
          simp only [Act.put, List.getElem_toArray, List.getElem_cons_zero, List.getElem_cons_succ, List.setIfInBounds_toArray, List.set_cons_zero, List.set_cons_succ]
          refine wpAnyH_take (i := 16) (v := ?v92x16) rfl (by kernel_rfl) (by kernel_rfl) (by kernel_rfl) (fun _ _ _ h => h) (Or.inl ⟨by rfl, ?hy92x16⟩) (by assumption) ?rest92x16
          case hy92x16 => intro w hSw; obtain ⟨s0, s1⟩ := hSw; go_simp <;> with_reducible rfl
          simp only [Act.put, List.getElem_toArray, List.getElem_cons_zero, List.getElem_cons_succ, List.setIfInBounds_toArray, List.set_cons_zero, List.set_cons_succ]
          refine wpAnyH_take (i := 17) (v := ?v93x17) rfl (by kernel_rfl) (by kernel_rfl) (by kernel_rfl) (fun _ _ _ h => h) (Or.inl ⟨by rfl, ?hy93x17⟩) (by assumption) ?rest93x17
          case hy93x17 => intro w hSw; obtain ⟨s0, s1⟩ := hSw; go_simp <;> with_reducible rfl
          simp only [Act.put, List.getElem_toArray, List.getElem_cons_zero, List.getElem_cons_succ, List.setIfInBounds_toArray, List.set_cons_zero, List.set_cons_succ]
          refine wpAnyH_take (i := 19) (v := ?v94x19) rfl (by kernel_rfl) (by kernel_rfl) (by kernel_rfl) (fun _ _ _ h => h) (Or.inl ⟨by rfl, ?hy94x19⟩) (by assumption) ?rest94x19
          case hy94x19 => intro w hSw; obtain ⟨s0, s1⟩ := hSw; go_simp <;> with_reducible rfl
          simp only [Act.put, List.getElem_toArray, List.getElem_cons_zero, List.getElem_cons_succ, List.setIfInBounds_toArray, List.set_cons_zero, List.set_cons_succ]
          refine wpAnyH_take (i := 20) (v := ?v95x20) rfl (by kernel_rfl) (by kernel_rfl) (by kernel_rfl) (fun _ _ _ h => h) (Or.inl ⟨by rfl, ?hy95x20⟩) (by assumption) ?rest95x20
          case hy95x20 => intro w hSw; obtain ⟨s0, s1⟩ := hSw; go_simp <;> with_reducible rfl
          simp only [Act.put, List.getElem_toArray, List.getElem_cons_zero, List.getElem_cons_succ, List.setIfInBounds_toArray, List.set_cons_zero, List.set_cons_succ]
          refine wpAnyH_ready (rs := [18]) (by kernel_rfl) (by simp) ?_
          refine AllReadyH.cons rfl (fun K hK => ?_) AllReadyH.nil
          go_simp
          refine (unhide HB2 _ (unhide HI).drew).mono ?_
          rintro e w5 ⟨rfl, rfl⟩
          refine hK _ _ (unhide HBX _ (Below.refl _ _).drew) ?_
          clear hK hHeld
          intro hHeld
          refine wpAnyH_take (i := 21) (v := ?v96x21) rfl (by kernel_rfl) (by kernel_rfl) (by kernel_rfl) (fun _ _ _ h => h) (Or.inl ⟨by rfl, ?hy96x21⟩) (by assumption) ?rest96x21
          case hy96x21 => intro w hSw; obtain ⟨s0, s1⟩ := hSw; go_simp <;> with_reducible rfl
          simp only [Act.put, List.getElem_toArray, List.getElem_cons_zero, List.getElem_cons_succ, List.setIfInBounds_toArray, List.set_cons_zero, List.set_cons_succ]
          refine wpAnyH_take (i := 22) (v := (.bool true)) rfl (by kernel_rfl) (by kernel_rfl) (by kernel_rfl) (fun _ _ _ h => h) (Or.inl ⟨by rfl, ?hy97x22⟩) (by assumption) ?rest97x22
          case hy97x22 => intro w hSw; go_simp
          simp only [Act.put, List.getElem_toArray, List.getElem_cons_zero, List.getElem_cons_succ, List.setIfInBounds_toArray, List.set_cons_zero, List.set_cons_succ]
          refine wpAnyH_take (i := 23) (v := ?v98x23) rfl (by kernel_rfl) (by kernel_rfl) (by kernel_rfl) (fun _ _ _ h => h) (Or.inl ⟨by rfl, ?hy98x23⟩) (by assumption) ?rest98x23
          case hy98x23 => intro w hSw; obtain ⟨s0, s1⟩ := hSw; go_simp <;> with_reducible rfl
          simp only [Act.put, List.getElem_toArray, List.getElem_cons_zero, List.getElem_cons_succ, List.setIfInBounds_toArray, List.set_cons_zero, List.set_cons_succ]
          refine wpAnyH_take (i := 24) (v := ?v99x24) rfl (by kernel_rfl) (by kernel_rfl) (by kernel_rfl) (fun _ _ _ h => h) (Or.inl ⟨by rfl, ?hy99x24⟩) (by assumption) ?rest99x24
          case hy99x24 => intro w hSw; obtain ⟨s0, s1⟩ := hSw; go_simp <;> with_reducible rfl
          simp only [Act.put, List.getElem_toArray, List.getElem_cons_zero, List.getElem_cons_succ, List.setIfInBounds_toArray, List.set_cons_zero, List.set_cons_succ]
          refine wpAnyH_done (by kernel_rfl) ?_ _
          go_wp2
          go_ret
          exact ⟨rfl, (unhide HAL).drew⟩
        · rw [if_neg (by omega)]
          have c4' : decide ((F.n : Int) - f < b) = false := by simp; omega
          go_enter Tryz.func35, Tryz.ntmps35
          go_wp2_with (rw [hB])
          refine (blocks_any (unhide HI)).mono ?_
          rintro e w1 ⟨rfl, rfl⟩
          go_wp2
          refine wp_region_held_drew (S := fun x => x.cell? ⟨w.heap.size, 0, none⟩ = some (.int .i64 f) ∧ x.cell? ⟨w.heap.size, 1, none⟩ = some (.int .i64 b)) (by kernel_rfl) (unhide HBX _ (Below.refl _ _).drew) (fun hHeld => ?_)
          refine wpAnyH_take (i := 0) (v := ?v100x0) rfl (by kernel_rfl) (by kernel_rfl) (by kernel_rfl) (fun _ _ _ h => h) (Or.inl ⟨by rfl, ?hy100x0⟩) (by assumption) ?rest100x0
          case hy100x0 => intro w hSw; obtain ⟨s0, s1⟩ := hSw; go_simp <;> with_reducible rfl
          simp only [Act.put, List.getElem_toArray, List.getElem_cons_zero, List.setIfInBounds_toArray, List.set_cons_zero, List.set_cons_succ]
          refine wpAnyH_take (i := 1) (v := ?v101x1) rfl (by kernel_rfl) (by kernel_rfl) (by kernel_rfl) (fun _ _ _ h => h) (Or.inl ⟨by rfl, ?hy101x1⟩) (by assumption) ?rest101x1
          case hy101x1 => intro w hSw; obtain ⟨s0, s1⟩ := hSw; go_simp <;> with_reducible rfl
          simp only [Act.put, List.getElem_toArray, List.getElem_cons_zero, List.getElem_cons_succ, List.setIfInBounds_toArray, List.set_cons_zero, List.set_cons_succ]
          refine wpAnyH_take (i := 2) (v := (.bool false)) rfl (by kernel_rfl) (by kernel_rfl) (by kernel_rfl) (fun _ _ _ h => h) (Or.inl ⟨by rfl, ?hy102x2⟩) (by assumption) ?rest102x2
          case hy102x2 => intro w hSw; obtain ⟨s0, s1⟩ := hSw; go_simp <;> with_reducible rfl
          simp only [Act.put, List.getElem_toArray, List.getElem_cons_zero, List.getElem_cons_succ, List.setIfInBounds_toArray, List.set_cons_zero, List.set_cons_succ]
          refine wpAnyH_take (i := 3) (v := ?v103x3) rfl (by kernel_rfl) (by kernel_rfl) (by kernel_rfl) (fun _ _ _ h => h) (Or.inl ⟨by rfl, ?hy103x3⟩) (by assumption) ?rest103x3
          case hy103x3 => intro w hSw; obtain ⟨s0, s1⟩ := hSw; go_simp <;> with_reducible rfl
          simp only [Act.put, List.getElem_toArray, List.getElem_cons_zero, List.getElem_cons_succ, List.setIfInBounds_toArray, List.set_cons_zero, List.set_cons_succ]
          refine wpAnyH_take (i := 4) (v := ?v104x4) rfl (by kernel_rfl) (by kernel_rfl) (by kernel_rfl) (fun _ _ _ h => h) (Or.inl ⟨by rfl, ?hy104x4⟩) (by assumption) ?rest104x4
          case hy104x4 => intro w hSw; obtain ⟨s0, s1⟩ := hSw; go_simp <;> with_reducible rfl
          simp only [Act.put, List.getElem_toArray, List.getElem_cons_zero, List.getElem_cons_succ, List.setIfInBounds_toArray, List.set_cons_zero, List.set_cons_succ]
          refine wpAnyH_take (i := 5) (v := ?v105x5) rfl (by kernel_rfl) (by kernel_rfl) (by kernel_rfl) (fun _ _ _ h => h) (Or.inl ⟨by rfl, ?hy105x5⟩) (by assumption) ?rest105x5
          case hy105x5 => intro w hSw; obtain ⟨s0, s1⟩ := hSw; go_simp <;> with_reducible rfl
          simp only [Act.put, List.getElem_toArray, List.getElem_cons_zero, List.getElem_cons_succ, List.setIfInBounds_toArray, List.set_cons_zero, List.set_cons_succ]
          refine wpAnyH_take (i := 6) (v := (.bool false)) rfl (by kernel_rfl) (by kernel_rfl) (by kernel_rfl) (fun _ _ _ h => h) (Or.inl ⟨by rfl, ?hy106x6⟩) (by assumption) ?rest106x6
          case hy106x6 => intro w hSw; obtain ⟨s0, s1⟩ := hSw; go_simp <;> with_reducible rfl
          simp only [Act.put, List.getElem_toArray, List.getElem_cons_zero, List.getElem_cons_succ, List.setIfInBounds_toArray, List.set_cons_zero, List.set_cons_succ]
          refine wpAnyH_take (i := 7) (v := ?v107x7) rfl (by kernel_rfl) (by kernel_rfl) (by kernel_rfl) (fun _ _ _ h => h) (Or.inl ⟨by rfl, ?hy107x7⟩) (by assumption) ?rest107x7
          case hy107x7 => intro w hSw; obtain ⟨s0, s1⟩ := hSw; go_simp <;> with_reducible rfl
          simp only [Act.put, List.getElem_toArray, List.getElem_cons_zero, List.getElem_cons_succ, List.setIfInBounds_toArray, List.set_cons_zero, List.set_cons_succ]
          refine wpAnyH_take (i := 8) (v := ?v108x8) rfl (by kernel_rfl) (by kernel_rfl) (by kernel_rfl) (fun _ _ _ h => h) (Or.inl ⟨by rfl, ?hy108x8⟩) (by assumption) ?rest108x8
          case hy108x8 => intro w hSw; obtain ⟨s0, s1⟩ := hSw; go_simp <;> with_reducible rfl
          simp only [Act.put, List.getElem_toArray, List.getElem_cons_zero, List.getElem_cons_succ, List.setIfInBounds_toArray, List.set_cons_zero, List.set_cons_succ]
          refine wpAnyH_take (i := 9) (v := ?v109x9) rfl (by kernel_rfl) (by kernel_rfl) (by kernel_rfl) (fun _ _ _ h => h) (Or.inl ⟨by rfl, ?hy109x9⟩) (by assumption) ?rest109x9
          case hy109x9 => intro w hSw; obtain ⟨s0, s1⟩ := hSw; go_simp <;> with_reducible rfl
          simp only [Act.put, List.getElem_toArray, List.getElem_cons_zero, List.getElem_cons_succ, List.setIfInBounds_toArray, List.set_cons_zero, List.set_cons_succ]
          refine wpAnyH_take (i := 10) (v := ?v110x10) rfl (by kernel_rfl) (by kernel_rfl) (by kernel_rfl) (fun _ _ _ h => h) (Or.inl ⟨by rfl, ?hy110x10⟩) (by assumption) ?rest110x10
          case hy110x10 => intro w hSw; obtain ⟨s0, s1⟩ := hSw; go_simp <;> with_reducible rfl
          simp only [Act.put, List.getElem_toArray, List.getElem_cons_zero, List.getElem_cons_succ, List.setIfInBounds_toArray, List.set_cons_zero, List.set_cons_succ]
          refine wpAnyH_take (i := 11) (v := ?v111x11) rfl (by kernel_rfl) (by kernel_rfl) (by kernel_rfl) (fun _ _ _ h => h) (Or.inl ⟨by rfl, ?hy111x11⟩) (by assumption) ?rest111x11
          case hy111x11 => intro w hSw; obtain ⟨s0, s1⟩ := hSw; go_simp <;> with_reducible rfl
          simp only [Act.put, List.getElem_toArray, List.getElem_cons_zero, List.getElem_cons_succ, List.setIfInBounds_toArray, List.set_cons_zero, List.set_cons_succ]
          refine wpAnyH_take (i := 12) (v := (.bool false)) rfl (by kernel_rfl) (by kernel_rfl) (by kernel_rfl) (fun _ _ _ h => h) (Or.inl ⟨by rfl, ?hy112x12⟩) (by assumption) ?rest112x12
          case hy112x12 => intro w hSw; go_simp
          simp only [Act.put, List.getElem_toArray, List.getElem_cons_zero, List.getElem_cons_succ, List.setIfInBounds_toArray, List.set_cons_zero, List.set_cons_succ]
          refine wpAnyH_take (i := 13) (v := ?v113x13) rfl (by kernel_rfl) (by kernel_rfl) (by kernel_rfl) (fun _ _ _ h => h) (Or.inl ⟨by rfl, ?hy113x13⟩) (by assumption) ?rest113x13
          case hy113x13 => intro w hSw; obtain ⟨s0, s1⟩ := hSw; go_simp <;> with_reducible rfl
          simp only [Act.put, List.getElem_toArray, List.getElem_cons_zero, List.getElem_cons_succ, List.setIfInBounds_toArray, List.set_cons_zero, List.set_cons_succ]
          refine wpAnyH_take (i := 14) (v := ?v114x14) rfl (by kernel_rfl) (by kernel_rfl) (by kernel_rfl) (fun _ _ _ h => h) (Or.inl ⟨by rfl, ?hy114x14⟩) (by assumption) ?rest114x14
          case hy114x14 => intro w hSw; obtain ⟨s0, s1⟩ := hSw; go_simp <;> with_reducible rfl
          simp only [Act.put, List.getElem_toArray, List.getElem_cons_zero, List.getElem_cons_succ, List.setIfInBounds_toArray, List.set_cons_zero, List.set_cons_succ]
          refine wpAnyH_take (i := 15) (v := ?v115x15) rfl (by kernel_rfl) (by kernel_rfl) (by kernel_rfl) (fun _ _ _ h => h) (Or.inl ⟨by rfl, ?hy115x15⟩) (by assumption) ?rest115x15
          case hy115x15 => intro w hSw; obtain ⟨s0, s1⟩ := hSw; go_simp <;> with_reducible rfl
          simp only [Act.put, List.getElem_toArray, List.getElem_cons_zero, List.getElem_cons_succ, List.setIfInBounds_toArray, List.set_cons_zero, List.set_cons_succ]
          refine wpAnyH_take (i := 16) (v := ?v116x16) rfl (by kernel_rfl) (by kernel_rfl) (by kernel_rfl) (fun _ _ _ h => h) (Or.inl ⟨by rfl, ?hy116x16⟩) (by assumption) ?rest116x16
          case hy116x16 => intro w hSw; obtain ⟨s0, s1⟩ := hSw; go_simp <;> with_reducible rfl
          simp only [Act.put, List.getElem_toArray, List.getElem_cons_zero, List.getElem_cons_succ, List.setIfInBounds_toArray, List.set_cons_zero, List.set_cons_succ]
          refine wpAnyH_take (i := 17) (v := ?v117x17) rfl (by kernel_rfl) (by kernel_rfl) (by kernel_rfl) (fun _ _ _ h => h) (Or.inl ⟨by rfl, ?hy117x17⟩) (by assumption) ?rest117x17
          case hy117x17 => intro w hSw; obtain ⟨s0, s1⟩ := hSw; go_simp <;> with_reducible rfl
          simp only [Act.put, List.getElem_toArray, List.getElem_cons_zero, List.getElem_cons_succ, List.setIfInBounds_toArray, List.set_cons_zero, List.set_cons_succ]
          refine wpAnyH_take (i := 19) (v := ?v118x19) rfl (by kernel_rfl) (by kernel_rfl) (by kernel_rfl) (fun _ _ _ h => h) (Or.inl ⟨by rfl, ?hy118x19⟩) (by assumption) ?rest118x19
          case hy118x19 => intro w hSw; obtain ⟨s0, s1⟩ := hSw; go_simp <;> with_reducible rfl
          simp only [Act.put, List.getElem_toArray, List.getElem_cons_zero, List.getElem_cons_succ, List.setIfInBounds_toArray, List.set_cons_zero, List.set_cons_succ]
          refine wpAnyH_take (i := 20) (v := ?v119x20) rfl (by kernel_rfl) (by kernel_rfl) (by kernel_rfl) (fun _ _ _ h => h) (Or.inl ⟨by rfl, ?hy119x20⟩) (by assumption) ?rest119x20
          case hy119x20 => intro w hSw; obtain ⟨s0, s1⟩ := hSw; go_simp <;> with_reducible rfl
          simp only [Act.put, List.getElem_toArray, List.getElem_cons_zero, List.getElem_cons_succ, List.setIfInBounds_toArray, List.set_cons_zero, List.set_cons_succ]
          refine wpAnyH_ready (rs := [18]) (by kernel_rfl) (by simp) ?_
          refine AllReadyH.cons rfl (fun K hK => ?_) AllReadyH.nil
          go_simp
          refine (unhide HB2 _ (unhide HI).drew).mono ?_
          rintro e w5 ⟨rfl, rfl⟩
          refine hK _ _ (unhide HBX _ (Below.refl _ _).drew) ?_
          clear hK hHeld
          intro hHeld
          refine wpAnyH_take (i := 21) (v := ?v120x21) rfl (by kernel_rfl) (by kernel_rfl) (by kernel_rfl) (fun _ _ _ h => h) (Or.inl ⟨by rfl, ?hy120x21⟩) (by assumption) ?rest120x21
          case hy120x21 => intro w hSw; obtain ⟨s0, s1⟩ := hSw; go_simp <;> with_reducible rfl
          simp only [Act.put, List.getElem_toArray, List.getElem_cons_zero, List.getElem_cons_succ, List.setIfInBounds_toArray, List.set_cons_zero, List.set_cons_succ]
          refine wpAnyH_take (i := 22) (v := (.bool false)) rfl (by kernel_rfl) (by kernel_rfl) (by kernel_rfl) (fun _ _ _ h => h) (Or.inl ⟨by rfl, ?hy121x22⟩) (by assumption) ?rest121x22
          case hy121x22 => intro w hSw; go_simp
          simp only [Act.put, List.getElem_toArray, List.getElem_cons_zero, List.getElem_cons_succ, List.setIfInBounds_toArray, List.set_cons_zero, List.set_cons_succ]
          refine wpAnyH_take (i := 23) (v := ?v122x23) rfl (by kernel_rfl) (by kernel_rfl) (by kernel_rfl) (fun _ _ _ h => h) (Or.inl ⟨by rfl, ?hy122x23⟩) (by assumption) ?rest122x23
          case hy122x23 => intro w hSw; obtain ⟨s0, s1⟩ := hSw; go_simp <;> with_reducible rfl
          simp only [Act.put, List.getElem_toArray, List.getElem_cons_zero, List.getElem_cons_succ, List.setIfInBounds_toArray, List.set_cons_zero, List.set_cons_succ]
          refine wpAnyH_take (i := 24) (v := ?v123x24) rfl (by kernel_rfl) (by kernel_rfl) (by kernel_rfl) (fun _ _ _ h => h) (Or.inl ⟨by rfl, ?hy123x24⟩) (by assumption) ?rest123x24
          case hy123x24 => intro w hSw; obtain ⟨s0, s1⟩ := hSw; go_simp <;> with_reducible rfl
          simp only [Act.put, List.getElem_toArray, List.getElem_cons_zero, List.getElem_cons_succ, List.setIfInBounds_toArray, List.set_cons_zero, List.set_cons_succ]
          refine wpAnyH_done (by kernel_rfl) ?_ _
          go_wp2
          go_ret
          exact ⟨rfl, (unhide HAL).drew⟩
end Go.Proofs.YtiijbklaapaheaaGreat

/- Save. -/
namespace Go.Proofs.YtiijbklaapaheaaGreat
open Go.RowKit
set_option maxRecDepth 100000

/-- Numbers that may be. -/
theorem dec_num (zs : List Int) : 0 ≤ (dec zs).num ∧ (dec zs).num ≤ 1099511627776 := by
  unfold dec
  split
  · exact ⟨by decide, by decide⟩
  split
  · exact ⟨by decide, by decide⟩
  split
  · exact ⟨by decide, by decide⟩
  split
  · exact ⟨by decide, by decide⟩
  · rename_i c
    simp only [Decidable.not_not] at c
    unfold faultE at c
    split at c
    · rename_i k
      exact ⟨Int.le_trans (by decide) k.1, k.2.1⟩
    · cases c
theorem nwk_num (F : Fl) (f m k : Nat) : 0 ≤ (nwk F f m k).ck.num ∧ (nwk F f m k).ck.num ≤ 1099511627776 ∧ (0 ≤ (nwk F f m k).at' ∧ ((nwk F f m k).at' < k ∨ (nwk F f m k).at' = 0)) := by
  induction k with
  | zero => exact ⟨Int.le_refl 0, (by decide : (0 : Int) ≤ 1099511627776), Int.le_refl 0, Or.inr rfl⟩
  | succ k ih =>
    rw [nwk]
    unfold Bst.step
    split
    · exact ⟨(dec_num _).1, (dec_num _).2, by show (0 : Int) ≤ (k : Int); omega, Or.inl (by show (k : Int) < ((k + 1 : Nat) : Int); omega)⟩
    · obtain ⟨h1, h2, h3, h4⟩ := ih
      exact ⟨h1, h2, h3, by rcases h4 with h | h; exact Or.inl (by omega); exact Or.inr h⟩

/-- To which half the next one is put. -/
def toH (c : Bst) : Nat := if 0 < c.ck.num then (1 - c.at').toNat else 0
def savW (F : Fl) (f m : Nat) (c : Bst) (slot last : Int) (ds : List Int) : Int × Fl :=
  if m * 4096 < (ckB (c.ck.num + 1) slot last ds).length then (3, F) else wrtH F (f + toH c * m) m (ckB (c.ck.num + 1) slot last ds)
/-- What Save does. -/
def sav (F : Fl) (f n : Int) (slot last : Int) (ds : List Int) : Int × Fl :=
  if regE F.n f n ≠ 0 then (regE F.n f n, F) else if faultE 1 slot last ds.length ≠ 0 then (faultE 1 slot last ds.length, F) else if F.down = true then (7, F)
  else if (nwk F f.toNat (n.toNat / 2) 2).ck.num = 1099511627776 then (6, F) else savW F f.toNat (n.toNat / 2) (nwk F f.toNat (n.toNat / 2) 2) slot last ds

theorem regE_is {n : Nat} {f b : Int} (h : regE n f b = 0) (hn : n ≤ 1024) : ∃ f' b' : Nat, f = f' ∧ b = b' ∧ 2 ≤ b' ∧ f' + b' ≤ n := by
  unfold regE at h
  split at h
  · cases h
  · rename_i c
    have c1 : ¬ f < 0 := fun e => c (Or.inl e)
    have c2 : ¬ b < 2 := fun e => c (Or.inr (Or.inl e))
    have c3 : ¬ ((n : Int) - f < b) := fun e => c (Or.inr (Or.inr (Or.inr e)))
    exact ⟨f.toNat, b.toNat, by omega, by omega, by omega, by omega⟩

theorem ckB_pos (a b c : Int) (ds : List Int) : 0 < (ckB a b c ds).length := by
  unfold ckB sealB
  rw [List.length_append, lowL_length]; omega
theorem ckB_le (a b c : Int) (ds : List Int) : (ckB a b c ds).length ≤ 53 + ds.length := by
  have h1 := bodyB_le a b c ds
  have h2 := sizeL_le [((bodyB a b c ds).length : Int)]
  unfold ckB sealB
  rw [List.length_append, List.length_append, lowL_length, putL_length]
  simp at h2
  omega
theorem row_of {y : World} {base : Nat} {v : Value} {zs : List Int} (h : y.ownsRow base 5 1 v zs.length (ints .u8 zs)) (h0 : 0 < zs.length) :
    ∃ gb cp, v = .slice (some ⟨gb, 0, none⟩) zs.length cp ∧ base ≤ gb ∧ gb < y.heap.size ∧ zs.length ≤ cp ∧ ∀ t, t < zs.length → y.cell? ⟨gb, t, none⟩ = some (.int .u8 (zs.getD t 0)) := by
  have h' := h
  rcases h.2 with ⟨_, hn⟩ | ⟨gb, cap, cur, rfl, hb, hg, hnc, _⟩
  · omega
  · refine ⟨gb, cap, rfl, hb, (Array.getElem?_eq_some_iff.1 hg).1, hnc, fun t ht => ?_⟩
    have := h'.cells (g := gb) rfl t (.int .u8 (zs.getD t 0)) (by simp [ints, List.getD, ht])
    have hadd : (⟨gb, 0, none⟩ : Addr).add t = ⟨gb, t, none⟩ := by unfold Addr.add; split <;> simp_all
    first | exact this | (rw [hadd] at this; exact this)
theorem ix_any (h f m ti fh : Nat) (ht : ti < 2) (hfh : f + ti * m = fh) (W : World) : Sem.run Tryz.prog (Instr.index 81 (.agg #[P0 h, .int .i64 f, .int .i64 m, P0 h, .int .i64 (f + m), .int .i64 m]) (.int .i64 ti)) W = .ok (.agg #[P0 h, .int .i64 fh, .int .i64 m]) W := by
  subst hfh
  rcases (show ti = 0 ∨ ti = 1 by omega) with rfl | rfl
  · have := ix0 h f m (f + m) m W
    simpa using this
  · have := ix1 h f m (f + m) m W
    simpa using this

end Go.Proofs.YtiijbklaapaheaaGreat

/- Load and Half. -/
namespace Go.Proofs.YtiijbklaapaheaaGreat
open Go.RowKit
set_option maxRecDepth 100000

/-- What Load tells: a checkpoint, whether there is one, an error. -/
def lodB (F : Fl) (f n : Int) : Bst := if regE F.n f n ≠ 0 ∨ F.down = true then .none else nwk F f.toNat (n.toNat / 2) 2
def lodE (F : Fl) (f n : Int) : Int := if regE F.n f n ≠ 0 then regE F.n f n else if F.down = true then 7 else 0

set_option maxHeartbeats 1600000 in
theorem load_ok {w : World} {g h cap : Nat} {F : Fl} (H : IsFl w g h cap F) (hP : ∀ i j, (F.readB i j).length ≤ 256) (f n : Nat) (hfn : f + n ≤ F.n) (hr0 : regE F.n f n = 0) (hdn : F.down = false) :
    Calls Tryz.prog 11 #[P0 h, .agg #[.int .i64 f, .int .i64 n]] w fun e w' => ∃ dv, e = .returned (.tuple #[.agg #[.int .i64 (nwk F f (n / 2) 2).ck.slot, .int .i64 (nwk F f (n / 2) 2).ck.last, dv], .bool (decide (0 < (nwk F f (n / 2) 2).ck.num)), .int .i64 0]) ∧ w'.ownsRow w.heap.size 5 1 dv (nwk F f (n / 2) 2).ck.data.length (ints .u8 (nwk F f (n / 2) 2).ck.data) ∧ Below w.heap.size w w' := by
  have hle := H.le
  obtain ⟨B, hB⟩ : ∃ B, (w.alloc (.cells #[.int .i64 f, .int .i64 n] 32)).alloc (.cells #[.int .i64 0, .int .i64 0, .slice none 0 0] 35) = B := ⟨_, rfl⟩
  have HBB : Hid (Below w.heap.size w B) := hB ▸ ((Below.refl _ _).alloc (Nat.le_refl _) _).alloc (by simp) _
  have HSZ : Hid (B.heap.size = w.heap.size + 2) := by show _ = _; rw [← hB]; simp
  have HBX : Hid (∀ x, Below B.heap.size B x → (x.cell? ⟨w.heap.size, 0, none⟩ = some (.int .i64 f) ∧ x.cell? ⟨w.heap.size, 1, none⟩ = some (.int .i64 n)) ∧ (x.cell? ⟨w.heap.size + 1, 0, none⟩ = some (.int .i64 0) ∧ x.cell? ⟨w.heap.size + 1, 1, none⟩ = some (.int .i64 0) ∧ x.cell? ⟨w.heap.size + 1, 2, none⟩ = some (.slice none 0 0)) ∧ ∀ o, x.frozen? ⟨w.heap.size + 1, o, none⟩ = false) := fun x hx => by
    have hs := unhide HSZ
    have c : ∀ b o, b < w.heap.size + 2 → x.cell? ⟨b, o, none⟩ = B.cell? ⟨b, o, none⟩ := fun b o hb => hx.cell (p := ⟨b, o, none⟩) (by show b < _; omega)
    have d : ∀ b o, b < w.heap.size + 2 → x.frozen? ⟨b, o, none⟩ = B.frozen? ⟨b, o, none⟩ := fun b o hb => World.frozen?_of_block (w := B) (hx.block b (by omega))
    refine ⟨⟨?_, ?_⟩, ⟨?_, ?_, ?_⟩, fun o => ?_⟩
    · rw [c _ _ (by omega), ← hB]; simp [go_sem, World.cell?_alloc_old]
    · rw [c _ _ (by omega), ← hB]; simp [go_sem, World.cell?_alloc_old]
    · rw [c _ _ (by omega), ← hB]; simp [go_sem]
    · rw [c _ _ (by omega), ← hB]; simp [go_sem]
    · rw [c _ _ (by omega), ← hB]; simp [go_sem]
    · rw [d _ _ (by omega), ← hB]; simp [go_sem]
  obtain ⟨⟨q0, q1⟩, ⟨q2, q3, q4⟩, q5⟩ := unhide HBX B (Below.refl _ _)
  have HI := hide (H.below (unhide HBB))
  clear H
  go_enter Tryz.func11, Tryz.ntmps11
  go_wp2_with (rw [hB])
  refine (region_any (unhide HI) f n (by omega)).mono ?_
  rintro e w1 ⟨rfl, b1⟩
  rw [hr0]
  have HB1 := hide b1
  clear b1 q0 q1 q2 q3 q4 q5
  obtain ⟨⟨q0, q1⟩, ⟨q2, q3, q4⟩, q5⟩ := unhide HBX w1 (unhide HB1)
  have HI2 := hide ((unhide HI).below (unhide HB1))
  have HDN := hide (down_any (unhide HI2))
  rw [hdn] at HDN
  have HNW := hide (newest_any (unhide HI2) hP f n (by omega) (by omega))
  go_wp2_with (first | (go_at_call 8; refine (unhide HDN).mono ?_; rintro e w' ⟨rfl, rfl⟩) | fail)
  refine (unhide HNW).mono ?_
  rintro e w3 ⟨nv, rfl, ho3, b3⟩
  have HB3 := hide ((unhide HB1).trans (b3.mono (unhide HB1).size))
  have HO3 := hide ho3
  have hs1 := (unhide HB1).size
  have hsz := unhide HSZ
  clear q0 q1 q2 q3 q4 q5
  obtain ⟨⟨q0, q1⟩, ⟨q2, q3, q4⟩, q5⟩ := unhide HBX w3 (unhide HB3)
  obtain ⟨na, nc, rfl⟩ := own_shape ho3
  have hl3 : w.heap.size + 1 < w3.heap.size := by have := b3.size; omega
  clear b3 ho3
  generalize hgc : nwk F f (n / 2) 2 = c at HO3 ⊢
  have HBW := hide ((unhide HBB).trans ((unhide HB3).mono (unhide HBB).size))
  go_wp2
  obtain ⟨k0, k1, k2⟩ := st3_cells (v0 := .int .i64 c.ck.slot) (v1 := .int .i64 c.ck.last) (v2 := .slice na c.ck.data.length nc) q2 q3 q4
  have hbl := st3_below (unhide HBW) (show w.heap.size ≤ w.heap.size + 1 by omega) (.int .i64 c.ck.slot) (.int .i64 c.ck.last) (.slice na c.ck.data.length nc)
  have hor := own_set (own_set (own_set (unhide HO3) (p := ⟨w.heap.size + 1, 0, none⟩) (by show w.heap.size + 1 < _; omega) (.int .i64 c.ck.slot)) (p := ⟨w.heap.size + 1, 1, none⟩) (by show w.heap.size + 1 < _; omega) (.int .i64 c.ck.last)) (p := ⟨w.heap.size + 1, 2, none⟩) (by show w.heap.size + 1 < _; omega) (.slice na c.ck.data.length nc)
  have hysz : (((w3.setCell ⟨w.heap.size + 1, 0, none⟩ (.int .i64 c.ck.slot)).setCell ⟨w.heap.size + 1, 1, none⟩ (.int .i64 c.ck.last)).setCell ⟨w.heap.size + 1, 2, none⟩ (.slice na c.ck.data.length nc)).heap.size = w3.heap.size := by simp [World.setCell]
  generalize ((w3.setCell ⟨w.heap.size + 1, 0, none⟩ (.int .i64 c.ck.slot)).setCell ⟨w.heap.size + 1, 1, none⟩ (.int .i64 c.ck.last)).setCell ⟨w.heap.size + 1, 2, none⟩ (.slice na c.ck.data.length nc) = Y at *
  have ne : ∀ o, (⟨w.heap.size + 1, o, none⟩ : Addr).block ≠ Y.heap.size := fun o => by show w.heap.size + 1 ≠ _; omega
  have m0 := (World.cell?_alloc_old Y (.cells #[.int .i64 c.at', .int .i64 c.ck.num, .int .i64 c.ck.slot, .int .i64 c.ck.last, .slice na c.ck.data.length nc] 75) ⟨w.heap.size + 1, 0, none⟩ (ne 0)).trans k0
  have m1 := (World.cell?_alloc_old Y (.cells #[.int .i64 c.at', .int .i64 c.ck.num, .int .i64 c.ck.slot, .int .i64 c.ck.last, .slice na c.ck.data.length nc] 75) ⟨w.heap.size + 1, 1, none⟩ (ne 1)).trans k1
  have m2 := (World.cell?_alloc_old Y (.cells #[.int .i64 c.at', .int .i64 c.ck.num, .int .i64 c.ck.slot, .int .i64 c.ck.last, .slice na c.ck.data.length nc] 75) ⟨w.heap.size + 1, 2, none⟩ (ne 2)).trans k2
  refine bodyPost_ret (v := .tuple #[.agg #[.int .i64 c.ck.slot, .int .i64 c.ck.last, .slice na c.ck.data.length nc], .bool (decide (0 < c.ck.num)), .int .i64 0]) (by simp [results, Tryz.results11, go_sem, m0, m1, m2]) rfl ?_
  rw [hgc]
  exact ⟨_, rfl, own_lower (b := w1.heap.size) (hor.alloc _) (by omega), hbl.alloc (by have := hbl.size; omega) _⟩

set_option maxHeartbeats 1600000 in
theorem half_ok {w : World} {g h cap : Nat} {F : Fl} (H : IsFl w g h cap F) (hP : ∀ i j, (F.readB i j).length ≤ 256) (f n : Nat) (hfn : f + n ≤ F.n) (hr0 : regE F.n f n = 0) :
    Calls Tryz.prog 12 #[P0 h, .agg #[.int .i64 f, .int .i64 n]] w fun e w' => e = .returned (.tuple #[.int .i64 (nwk F f (n / 2) 2).at', .int .i64 (nwk F f (n / 2) 2).ck.num, .bool (decide (0 < (nwk F f (n / 2) 2).ck.num))]) ∧ Below w.heap.size w w' := by
  have hle := H.le
  obtain ⟨B, hB⟩ : ∃ B, w.alloc (.cells #[.int .i64 f, .int .i64 n] 32) = B := ⟨_, rfl⟩
  have HBB : Hid (Below w.heap.size w B) := hB ▸ (Below.refl _ _).alloc (Nat.le_refl _) _
  have HSZ : Hid (B.heap.size = w.heap.size + 1) := by show _ = _; rw [← hB]; simp
  have HBX : Hid (∀ x, Below B.heap.size B x → x.cell? ⟨w.heap.size, 0, none⟩ = some (.int .i64 f) ∧ x.cell? ⟨w.heap.size, 1, none⟩ = some (.int .i64 n)) := fun x hx => cells2 (by rw [hB, ← unhide HSZ]; exact hx)
  obtain ⟨q0, q1⟩ := unhide HBX B (Below.refl _ _)
  have HI := hide (H.below (unhide HBB))
  clear H
  go_enter Tryz.func12, Tryz.ntmps12
  go_wp2_with (rw [hB])
  refine (region_any (unhide HI) f n (by omega)).mono ?_
  rintro e w1 ⟨rfl, b1⟩
  rw [hr0]
  have HB1 := hide b1
  clear b1 q0 q1
  obtain ⟨q0, q1⟩ := unhide HBX w1 (unhide HB1)
  have HNW := hide (newest_any ((unhide HI).below (unhide HB1)) hP f n (by omega) (by omega))
  go_wp2_with fail
  refine (unhide HNW).mono ?_
  rintro e w3 ⟨nv, rfl, ho3, b3⟩
  have HB3 := hide (((unhide HBB).trans ((unhide HB1).mono (unhide HBB).size)).trans (b3.mono ((unhide HBB).trans ((unhide HB1).mono (unhide HBB).size)).size))
  obtain ⟨na, nc, rfl⟩ := own_shape ho3
  clear b3 ho3 q0 q1
  generalize hgc : nwk F f (n / 2) 2 = c at *
  go_wp2
  go_region
  go_wp2
  refine bodyPost_ret (v := .tuple #[.int .i64 c.at', .int .i64 c.ck.num, .bool (decide (0 < c.ck.num))]) (by simp [results, Tryz.results12, go_sem]) rfl ?_
  rw [hgc]
  exact ⟨rfl, ((unhide HB3).alloc (unhide HB3).size _).drew⟩

end Go.Proofs.YtiijbklaapaheaaGreat

/- No page shows more than 256 bytes, whatever is done. -/
namespace Go.Proofs.YtiijbklaapaheaaGreat
open Go.RowKit
set_option maxRecDepth 100000

def Sm (F : Fl) : Prop := ∀ i j, (F.bs i j).size ≤ 256
theorem Sm.hP {F : Fl} (h : Sm F) (i j : Int) : (F.readB i j).length ≤ 256 := by
  unfold Fl.readB
  split
  · rw [bytesOf_length]; exact h _ _
  · exact Nat.zero_le _
theorem sm_blank (n : Nat) : Sm (Fl.blank n) := fun _ _ => Nat.zero_le _
theorem Sm.put {F : Fl} (h : Sm F) (i j : Nat) (s : Int) (b : ByteArray) (hb : b.size ≤ 256) : Sm (F.put i j s b) := by
  intro a c
  show (if a = i ∧ c = j then b else F.bs a c).size ≤ 256
  split
  · exact hb
  · exact h a c
theorem Sm.fill {F : Fl} (h : Sm F) (i k : Nat) (s : Int) (b : ByteArray) (hb : b.size ≤ 256) : Sm (F.fill i k s b) := by
  intro a c
  unfold Fl.fill
  show (if _ then b else F.bs a c).size ≤ 256
  split
  · exact hb
  · exact h a c
theorem Sm.burnt {F : Fl} (h : Sm F) : Sm F.burnt := by unfold Fl.burnt; split <;> exact h
theorem Sm.changed {F : Fl} (h : Sm F) {act : Fl → Int → ByteArray → Fl} (ha : ∀ G s b, Sm G → b.size ≤ 256 → Sm (act G s b)) (s : Int) (b : ByteArray) (hb : b.size ≤ 256) : Sm (F.changed act s b) := by
  unfold Fl.changed
  split
  · show Sm (Fl.fall _)
    split
    · exact ha _ _ _ h.burnt hb
    · split
      · exact ha _ _ _ h.burnt (Nat.zero_le _)
      · exact h.burnt
  · exact ha _ _ _ h.burnt hb
theorem strOf_size (l : List Int) : (strOf l).size = l.length := by unfold strOf; simp [ByteArray.size]
theorem pageL_len {zs : List Int} (h : zs.length ≤ 256) : (pageL zs).length = 256 := by unfold pageL; simp; omega
theorem Sm.prog {F : Fl} (h : Sm F) (i j : Int) (zs : List Int) : Sm (F.prog i j zs).2 := by
  unfold Fl.prog
  split
  · exact h
  split
  · exact h
  split
  · exact h
  split
  · exact h
  · rename_i hl _
    exact h.changed (fun G s b hG hb => hG.put _ _ s b hb) _ _ (by rw [strOf_size, pageL_len (by omega)]; exact Nat.le_refl _)
theorem Sm.erase {F : Fl} (h : Sm F) (i : Int) : Sm (F.erase i).2 := by
  unfold Fl.erase
  split
  · exact h
  split
  · exact h
  · exact h.changed (fun G s b hG hb => by show Sm (Fl.setWear _ _ _); exact hG.fill _ _ s b hb) _ _ (Nat.zero_le _)
theorem Sm.clr (k : Nat) : ∀ {F : Fl} (_ : Sm F) (b : Nat), Sm (clr F b k).2 := by
  induction k with
  | zero => intro F h b; exact h
  | succ k ih =>
    intro F h b
    rw [clr_succ]
    split
    · exact ih h _
    · split
      · exact h.erase _
      · exact ih (h.erase _) _
theorem Sm.wrt (cs : List (List Int)) : ∀ {F : Fl} (_ : Sm F) (f i : Nat), Sm (wrt F f i cs).2 := by
  induction cs with
  | nil => intro F h f i; exact h
  | cons c cs ih =>
    intro F h f i
    rw [wrt_cons]
    split
    · exact h.prog _ _ _
    · exact ih (h.prog _ _ _) _ _
theorem Sm.wrtH {F : Fl} (h : Sm F) (f n : Nat) (zs : List Int) : Sm (wrtH F f n zs).2 := by
  unfold Proofs.YtiijbklaapaheaaGreat.wrtH
  split
  · exact Sm.clr n h f
  · exact Sm.wrt _ (Sm.clr n h f) _ _
theorem Sm.sav {F : Fl} (h : Sm F) (f n slot last : Int) (ds : List Int) : Sm (sav F f n slot last ds).2 := by
  unfold Proofs.YtiijbklaapaheaaGreat.sav savW
  (repeat' split) <;> first | exact h | exact h.wrtH _ _ _
theorem wrt_cnt (cs : List (List Int)) : ∀ (F : Fl) (f i : Nat), 0 ≤ F.cnt → F.cnt ≤ 9223372036854775807 → 0 ≤ (wrt F f i cs).2.cnt ∧ (wrt F f i cs).2.cnt ≤ 9223372036854775807 := by
  induction cs with
  | nil => intro F f i h0 h1; exact ⟨h0, h1⟩
  | cons c cs ih =>
    intro F f i h0 h1
    have hp := prog_cnt F ((f + i / 16 : Nat) : Int) ((i % 16 : Nat) : Int) c h0 h1
    rw [wrt_cons]
    split
    · exact hp
    · exact ih _ _ _ hp.1 hp.2
theorem sav_cnt (F : Fl) (f n slot last : Int) (ds : List Int) (h0 : 0 ≤ F.cnt) (h1 : F.cnt ≤ 9223372036854775807) : 0 ≤ (sav F f n slot last ds).2.cnt ∧ (sav F f n slot last ds).2.cnt ≤ 9223372036854775807 := by
  unfold sav savW wrtH
  have hc := fun b k => clr_cnt k F b h0 h1
  (repeat' split) <;> first | exact ⟨h0, h1⟩ | exact ⟨(hc _ _).1, (hc _ _).2.1⟩ | exact wrt_cnt _ _ _ _ (hc _ _).1 (hc _ _).2.1

end Go.Proofs.YtiijbklaapaheaaGreat
