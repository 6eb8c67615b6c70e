/- ShardOrder's walk. -/
import Derived.Test.YtbajggmpklajnaaD0
namespace Go.Proofs.Ytbajggmpklajnaa
open Go.RowKit
set_option maxRecDepth 100000

/-- A key in a box, as long as nothing below turns. -/
theorem box_cells {y : World} {g : Nat} {a b : Int} (h : y.heap[g]? = some (.cells #[.int .i32 a, .int .i64 b] 23)) {x : World} (hb : Below y.heap.size y x) : x.cell? ⟨g, 0, none⟩ = some (.int .i32 a) ∧ x.cell? ⟨g, 1, none⟩ = some (.int .i64 b) := by
  have := (hb.block g (Array.getElem?_eq_some_iff.1 h).1).trans h
  exact ⟨cell_at this, cell_at this⟩
theorem cmp_from {y : World} {a b : Ky} {r : Int} (hr : cmpK a b = r) {x : World} (hb : Below y.heap.size y x) : Calls Try.prog 10 #[.agg #[.int .i32 a.1, .int .i64 a.2], .agg #[.int .i32 b.1, .int .i64 b.2]] x fun e w' => e = .returned (.int .i64 r) ∧ Below y.heap.size y w' := by
  subst hr
  exact (compare_any a.1 a.2 b.1 b.2 x).mono fun _ _ ⟨h1, h2⟩ => ⟨h1, hb.trans (h2.below.mono hb.size)⟩
theorem live_from {y x : World} (hb : Below y.heap.size y x) : Calls Try.prog 9 #[] x fun e w' => e = .returned (.bool true) ∧ Below y.heap.size y w' :=
  (live_any x).mono fun _ _ ⟨h1, h2⟩ => ⟨h1, hb.trans (h2.mono hb.size)⟩
theorem cmpK_trans {a b c : Ky} (h1 : cmpK a b ≤ 0) (h2 : cmpK b c ≤ 0) : cmpK a c ≤ 0 := by
  have e : ∀ x y : Ky, cmpK x y ≤ 0 ↔ ¬ ltK y x := fun x y => by
    rw [← cmpK_neg y x, cmpK_anti x y]
    omega
  rw [e] at *
  unfold ltK at *
  omega
set_option maxHeartbeats 6400000 in
theorem order_walk (a0 a1 b0 b1 c0 c1 : Int) (w : World) :
    Calls Try.prog 7 #[.agg #[.int .i32 a0, .int .i64 a1], .agg #[.int .i32 b0, .int .i64 b1], .agg #[.int .i32 c0, .int .i64 c1]] w fun e w' => e = .returned (.bool true) ∧ Below w.heap.size w w' := by
  obtain ⟨y, hy⟩ : ∃ y, ((w.alloc (.cells #[.int .i32 a0, .int .i64 a1] 23)).alloc (.cells #[.int .i32 b0, .int .i64 b1] 23)).alloc (.cells #[.int .i32 c0, .int .i64 c1] 23) = y := ⟨_, rfl⟩
  have hwy : Below w.heap.size w y := by rw [← hy]; exact (((Below.refl _ _).alloc (Nat.le_refl _) _).alloc (by simp) _).alloc (by simp; omega) _
  have xa : y.heap[w.heap.size]? = some (.cells #[.int .i32 a0, .int .i64 a1] 23) := by
    rw [← hy, Below.heap_alloc _ _ _ (by simp; omega), Below.heap_alloc _ _ _ (by simp)]; exact heap_alloc_new w _
  have xb : y.heap[w.heap.size + 1]? = some (.cells #[.int .i32 b0, .int .i64 b1] 23) := by
    rw [← hy, Below.heap_alloc _ _ _ (by simp)]
    have := heap_alloc_new (w.alloc (.cells #[.int .i32 a0, .int .i64 a1] 23)) (.cells #[.int .i32 b0, .int .i64 b1] 23)
    simpa using this
  have xc : y.heap[w.heap.size + 1 + 1]? = some (.cells #[.int .i32 c0, .int .i64 c1] 23) := by
    rw [← hy]
    have := heap_alloc_new ((w.alloc (.cells #[.int .i32 a0, .int .i64 a1] 23)).alloc (.cells #[.int .i32 b0, .int .i64 b1] 23)) (.cells #[.int .i32 c0, .int .i64 c1] 23)
    simpa using this
  have HA : Hid (∀ x, Below y.heap.size y x → x.cell? ⟨w.heap.size, 0, none⟩ = some (.int .i32 a0) ∧ x.cell? ⟨w.heap.size, 1, none⟩ = some (.int .i64 a1)) := fun x hb => box_cells xa hb
  have HB : Hid (∀ x, Below y.heap.size y x → x.cell? ⟨w.heap.size + 1, 0, none⟩ = some (.int .i32 b0) ∧ x.cell? ⟨w.heap.size + 1, 1, none⟩ = some (.int .i64 b1)) := fun x hb => box_cells xb hb
  have HC : Hid (∀ x, Below y.heap.size y x → x.cell? ⟨w.heap.size + 1 + 1, 0, none⟩ = some (.int .i32 c0) ∧ x.cell? ⟨w.heap.size + 1 + 1, 1, none⟩ = some (.int .i64 c1)) := fun x hb => box_cells xc hb
  have HW := hide hwy
  clear hwy xa xb xc
  rcases cmpK_range (a0, a1) (b0, b1) with h1 | h1 | h1
  · have h2 : cmpK (b0, b1) (a0, a1) = 1 := (cmpK_anti _ _).trans (by rw [h1] <;> decide)
    have HAB : Hid (∀ x, Below y.heap.size y x → Calls Try.prog 10 #[.agg #[.int .i32 a0, .int .i64 a1], .agg #[.int .i32 b0, .int .i64 b1]] x fun e w' => e = .returned (.int .i64 (-1)) ∧ Below y.heap.size y w') := fun x hb => cmp_from (a := (a0, a1)) (b := (b0, b1)) h1 hb
    have HBA : Hid (∀ x, Below y.heap.size y x → Calls Try.prog 10 #[.agg #[.int .i32 b0, .int .i64 b1], .agg #[.int .i32 a0, .int .i64 a1]] x fun e w' => e = .returned (.int .i64 1) ∧ Below y.heap.size y w') := fun x hb => cmp_from (a := (b0, b1)) (b := (a0, a1)) h2 hb
    have hq : decide ((a0, a1) = (b0, b1)) = false := by exact decide_eq_false fun e => by rw [(cmpK_zero _ _).2 e] at h1; cases h1
    have hE : ∀ x, (binOp .eql 23 (.agg #[.int .i32 a0, .int .i64 a1]) (.agg #[.int .i32 b0, .int .i64 b1])).run Try.prog x = .ok (.bool false) x := fun x => by rw [eql_key, hq]
    clear hq
    obtain ⟨rbc, hrbc⟩ : ∃ r, cmpK (b0, b1) (c0, c1) = r := ⟨_, rfl⟩
    have HRBC := hide hrbc
    have HBC : Hid (∀ x, Below y.heap.size y x → Calls Try.prog 10 #[.agg #[.int .i32 b0, .int .i64 b1], .agg #[.int .i32 c0, .int .i64 c1]] x fun e w' => e = .returned (.int .i64 rbc) ∧ Below y.heap.size y w') := fun x hb => cmp_from (a := (b0, b1)) (b := (c0, c1)) hrbc hb
    clear hrbc
    have HH1 := hide h1
    clear h1 h2
    go_enter Try.func7, Try.ntmps7
    go_wp2_with (rw [hy])
    refine wp_region_held_drew (S := fun x => Below y.heap.size y x) (by kernel_rfl) ((Below.refl _ _).drew) (fun hHeld => ?_)
    refine wpAnyH_take (i := 0) (v := (.agg #[.int .i32 a0, .int .i64 a1])) rfl (by kernel_rfl) (by kernel_rfl) (by kernel_rfl) (fun _ _ _ h => h) (Or.inl ⟨by rfl, ?hy1x0⟩) (by assumption) ?rest1x0
    case hy1x0 => intro w hSw; obtain ⟨s1, s2⟩ := unhide HA _ hSw; go_simp <;> with_reducible rfl
    simp only [Act.put, List.getElem_toArray, List.getElem_cons_zero, List.setIfInBounds_toArray, List.set_cons_zero, List.set_cons_succ]
    refine wpAnyH_take (i := 1) (v := (.agg #[.int .i32 b0, .int .i64 b1])) rfl (by kernel_rfl) (by kernel_rfl) (by kernel_rfl) (fun _ _ _ h => h) (Or.inl ⟨by rfl, ?hy2x1⟩) (by assumption) ?rest2x1
    case hy2x1 => intro w hSw; obtain ⟨s1, s2⟩ := unhide HB _ hSw; go_simp <;> with_reducible rfl
    simp only [Act.put, List.getElem_toArray, List.getElem_cons_zero, List.getElem_cons_succ, List.setIfInBounds_toArray, List.set_cons_zero, List.set_cons_succ]
    refine wpAnyH_take (i := 3) (v := (.agg #[.int .i32 b0, .int .i64 b1])) rfl (by kernel_rfl) (by kernel_rfl) (by kernel_rfl) (fun _ _ _ h => h) (Or.inl ⟨by rfl, ?hy3x3⟩) (by assumption) ?rest3x3
    case hy3x3 => intro w hSw; obtain ⟨s1, s2⟩ := unhide HB _ hSw; go_simp <;> with_reducible rfl
    simp only [Act.put, List.getElem_toArray, List.getElem_cons_zero, List.getElem_cons_succ, List.setIfInBounds_toArray, List.set_cons_zero, List.set_cons_succ]
    refine wpAnyH_take (i := 4) (v := (.agg #[.int .i32 a0, .int .i64 a1])) rfl (by kernel_rfl) (by kernel_rfl) (by kernel_rfl) (fun _ _ _ h => h) (Or.inl ⟨by rfl, ?hy4x4⟩) (by assumption) ?rest4x4
    case hy4x4 => intro w hSw; obtain ⟨s1, s2⟩ := unhide HA _ hSw; go_simp <;> with_reducible rfl
    simp only [Act.put, List.getElem_toArray, List.getElem_cons_zero, List.getElem_cons_succ, List.setIfInBounds_toArray, List.set_cons_zero, List.set_cons_succ]
    refine wpAnyH_ready (rs := [2]) (by kernel_rfl) (by simp) ?_
    refine AllReadyH.cons rfl (fun K hK => ?_) AllReadyH.nil
    go_simp
    refine (unhide HAB _ (by assumption)).mono ?_
    rintro e wq ⟨rfl, hb1⟩
    refine hK _ _ hb1 ?_
    clear hK hHeld
    intro hHeld
    refine wpAnyH_ready (rs := [5]) (by kernel_rfl) (by simp) ?_
    refine AllReadyH.cons rfl (fun K hK => ?_) AllReadyH.nil
    go_simp
    refine (unhide HBA _ (by assumption)).mono ?_
    rintro e wq ⟨rfl, hb2⟩
    refine hK _ _ hb2 ?_
    clear hK hHeld
    intro hHeld
    refine wpAnyH_take (i := 6) (v := (.int .i64 (-1))) rfl (by kernel_rfl) (by kernel_rfl) (by kernel_rfl) (fun _ _ _ h => h) (Or.inl ⟨by rfl, ?hy5x6⟩) (by assumption) ?rest5x6
    case hy5x6 => intro w hSw; have hw : IntKind.i64.wrap (-1) = (-1) := (by decide); go_simp <;> with_reducible rfl
    simp only [Act.put, List.getElem_toArray, List.getElem_cons_zero, List.getElem_cons_succ, List.setIfInBounds_toArray, List.set_cons_zero, List.set_cons_succ]
    refine wpAnyH_take (i := 7) (v := (.bool false)) rfl (by kernel_rfl) (by kernel_rfl) (by kernel_rfl) (fun _ _ _ h => h) (Or.inl ⟨by rfl, ?hy6x7⟩) (by assumption) ?rest6x7
    case hy6x7 => intro w hSw; go_simp <;> with_reducible rfl
    simp only [Act.put, List.getElem_toArray, List.getElem_cons_zero, List.getElem_cons_succ, List.setIfInBounds_toArray, List.set_cons_zero, List.set_cons_succ]
    refine wpAnyH_take (i := 8) (v := ?v7x8) rfl (by kernel_rfl) (by kernel_rfl) (by kernel_rfl) (fun _ _ _ h => h) (Or.inl ⟨by rfl, ?hy7x8⟩) (by assumption) ?rest7x8
    case hy7x8 => intro w hSw; go_simp <;> with_reducible rfl
    simp only [Act.put, List.getElem_toArray, List.getElem_cons_zero, List.getElem_cons_succ, List.setIfInBounds_toArray, List.set_cons_zero, List.set_cons_succ]
    refine wpAnyH_take (i := 9) (v := (.agg #[.int .i32 a0, .int .i64 a1])) rfl (by kernel_rfl) (by kernel_rfl) (by kernel_rfl) (fun _ _ _ h => h) (Or.inl ⟨by rfl, ?hy8x9⟩) (by assumption) ?rest8x9
    case hy8x9 => intro w hSw; obtain ⟨s1, s2⟩ := unhide HA _ hSw; go_simp <;> with_reducible rfl
    simp only [Act.put, List.getElem_toArray, List.getElem_cons_zero, List.getElem_cons_succ, List.setIfInBounds_toArray, List.set_cons_zero, List.set_cons_succ]
    refine wpAnyH_take (i := 10) (v := (.agg #[.int .i32 b0, .int .i64 b1])) rfl (by kernel_rfl) (by kernel_rfl) (by kernel_rfl) (fun _ _ _ h => h) (Or.inl ⟨by rfl, ?hy9x10⟩) (by assumption) ?rest9x10
    case hy9x10 => intro w hSw; obtain ⟨s1, s2⟩ := unhide HB _ hSw; go_simp <;> with_reducible rfl
    simp only [Act.put, List.getElem_toArray, List.getElem_cons_zero, List.getElem_cons_succ, List.setIfInBounds_toArray, List.set_cons_zero, List.set_cons_succ]
    refine wpAnyH_take (i := 13) (v := (.agg #[.int .i32 a0, .int .i64 a1])) rfl (by kernel_rfl) (by kernel_rfl) (by kernel_rfl) (fun _ _ _ h => h) (Or.inl ⟨by rfl, ?hy10x13⟩) (by assumption) ?rest10x13
    case hy10x13 => intro w hSw; obtain ⟨s1, s2⟩ := unhide HA _ hSw; go_simp <;> with_reducible rfl
    simp only [Act.put, List.getElem_toArray, List.getElem_cons_zero, List.getElem_cons_succ, List.setIfInBounds_toArray, List.set_cons_zero, List.set_cons_succ]
    refine wpAnyH_take (i := 14) (v := (.agg #[.int .i32 b0, .int .i64 b1])) rfl (by kernel_rfl) (by kernel_rfl) (by kernel_rfl) (fun _ _ _ h => h) (Or.inl ⟨by rfl, ?hy11x14⟩) (by assumption) ?rest11x14
    case hy11x14 => intro w hSw; obtain ⟨s1, s2⟩ := unhide HB _ hSw; go_simp <;> with_reducible rfl
    simp only [Act.put, List.getElem_toArray, List.getElem_cons_zero, List.getElem_cons_succ, List.setIfInBounds_toArray, List.set_cons_zero, List.set_cons_succ]
    refine wpAnyH_take (i := 15) (v := (.bool false)) rfl (by kernel_rfl) (by kernel_rfl) (by kernel_rfl) (fun _ _ _ h => h) (Or.inl ⟨by rfl, ?hy12x15⟩) (by assumption) ?rest12x15
    case hy12x15 => intro w hSw; go_simp <;> with_reducible rfl
    simp only [Act.put, List.getElem_toArray, List.getElem_cons_zero, List.getElem_cons_succ, List.setIfInBounds_toArray, List.set_cons_zero, List.set_cons_succ]
    refine wpAnyH_ready (rs := [11]) (by kernel_rfl) (by simp) ?_
    refine AllReadyH.cons rfl (fun K hK => ?_) AllReadyH.nil
    go_simp
    refine (unhide HAB _ (by assumption)).mono ?_
    rintro e wq ⟨rfl, hb3⟩
    refine hK _ _ hb3 ?_
    clear hK hHeld
    intro hHeld
    refine wpAnyH_take (i := 12) (v := (.bool false)) rfl (by kernel_rfl) (by kernel_rfl) (by kernel_rfl) (fun _ _ _ h => h) (Or.inl ⟨by rfl, ?hy13x12⟩) (by assumption) ?rest13x12
    case hy13x12 => intro w hSw; go_simp <;> with_reducible rfl
    simp only [Act.put, List.getElem_toArray, List.getElem_cons_zero, List.getElem_cons_succ, List.setIfInBounds_toArray, List.set_cons_zero, List.set_cons_succ]
    refine wpAnyH_take (i := 16) (v := (.bool false)) rfl (by kernel_rfl) (by kernel_rfl) (by kernel_rfl) (fun _ _ _ h => h) (Or.inl ⟨by rfl, ?hy14x16⟩) (by assumption) ?rest14x16
    case hy14x16 => intro w hSw; go_simp <;> with_reducible rfl
    simp only [Act.put, List.getElem_toArray, List.getElem_cons_zero, List.getElem_cons_succ, List.setIfInBounds_toArray, List.set_cons_zero, List.set_cons_succ]
    refine wpAnyH_take (i := 17) (v := (.bool false)) rfl (by kernel_rfl) (by kernel_rfl) (by kernel_rfl) (fun _ _ _ h => h) (Or.inl ⟨by rfl, ?hy15x17⟩) (by assumption) ?rest15x17
    case hy15x17 => intro w hSw; go_simp <;> with_reducible rfl
    simp only [Act.put, List.getElem_toArray, List.getElem_cons_zero, List.getElem_cons_succ, List.setIfInBounds_toArray, List.set_cons_zero, List.set_cons_succ]
    refine wpAnyH_done (by kernel_rfl) ?_ _
    clear hE
    go_wp2_with fail
    refine (live_from (by assumption)).mono ?_
    rintro e w4 ⟨rfl, hb4⟩
    obtain ⟨s1, s2⟩ := unhide HA _ hb4
    obtain ⟨s3, s4⟩ := unhide HB _ hb4
    clear hb1 hb2 hb3 hHeld
    go_wp2_with fail
    refine (unhide HAB _ hb4).mono ?_
    rintro e w5 ⟨rfl, hb5⟩
    clear s1 s2 s3 s4
    obtain ⟨s1, s2⟩ := unhide HB _ hb5
    obtain ⟨s3, s4⟩ := unhide HC _ hb5
    go_wp2_with fail
    refine (unhide HBC _ hb5).mono ?_
    rintro e w6 ⟨rfl, hb6⟩
    clear s1 s2 s3 s4
    by_cases hp : 0 < rbc
    · have hpd : decide (rbc > 0) = true := decide_eq_true hp
      go_wp2
      go_ret
      exact ⟨rfl, (unhide HW).trans (hb6.mono (unhide HW).size)⟩
    · have hpd : decide (rbc > 0) = false := decide_eq_false hp
      have hac := cmpK_trans (a := (a0, a1)) (b := (b0, b1)) (c := (c0, c1)) (by rw [unhide HH1]; decide) (by rw [unhide HRBC]; omega)
      obtain ⟨rac, hrac⟩ : ∃ r, cmpK (a0, a1) (c0, c1) = r := ⟨_, rfl⟩
      rw [hrac] at hac
      have HAC := hide (cmp_from hrac hb6)
      have hqd : decide (rac ≤ 0) = true := decide_eq_true hac
      obtain ⟨s1, s2⟩ := unhide HA _ hb6
      obtain ⟨s3, s4⟩ := unhide HC _ hb6
      clear hrac
      go_wp2_with fail
      refine (unhide HAC).mono ?_
      rintro e w7 ⟨rfl, hb7⟩
      go_wp2
      go_ret
      exact ⟨rfl, (unhide HW).trans (hb7.mono (unhide HW).size)⟩
  · have h2 : cmpK (b0, b1) (a0, a1) = 0 := (cmpK_anti _ _).trans (by rw [h1] <;> decide)
    have HAB : Hid (∀ x, Below y.heap.size y x → Calls Try.prog 10 #[.agg #[.int .i32 a0, .int .i64 a1], .agg #[.int .i32 b0, .int .i64 b1]] x fun e w' => e = .returned (.int .i64 0) ∧ Below y.heap.size y w') := fun x hb => cmp_from (a := (a0, a1)) (b := (b0, b1)) h1 hb
    have HBA : Hid (∀ x, Below y.heap.size y x → Calls Try.prog 10 #[.agg #[.int .i32 b0, .int .i64 b1], .agg #[.int .i32 a0, .int .i64 a1]] x fun e w' => e = .returned (.int .i64 0) ∧ Below y.heap.size y w') := fun x hb => cmp_from (a := (b0, b1)) (b := (a0, a1)) h2 hb
    have hq : decide ((a0, a1) = (b0, b1)) = true := by simp [(cmpK_zero _ _).1 h1]
    have hE : ∀ x, (binOp .eql 23 (.agg #[.int .i32 a0, .int .i64 a1]) (.agg #[.int .i32 b0, .int .i64 b1])).run Try.prog x = .ok (.bool true) x := fun x => by rw [eql_key, hq]
    clear hq
    obtain ⟨rbc, hrbc⟩ : ∃ r, cmpK (b0, b1) (c0, c1) = r := ⟨_, rfl⟩
    have HRBC := hide hrbc
    have HBC : Hid (∀ x, Below y.heap.size y x → Calls Try.prog 10 #[.agg #[.int .i32 b0, .int .i64 b1], .agg #[.int .i32 c0, .int .i64 c1]] x fun e w' => e = .returned (.int .i64 rbc) ∧ Below y.heap.size y w') := fun x hb => cmp_from (a := (b0, b1)) (b := (c0, c1)) hrbc hb
    clear hrbc
    have HH1 := hide h1
    clear h1 h2
    go_enter Try.func7, Try.ntmps7
    go_wp2_with (rw [hy])
    refine wp_region_held_drew (S := fun x => Below y.heap.size y x) (by kernel_rfl) ((Below.refl _ _).drew) (fun hHeld => ?_)
    refine wpAnyH_take (i := 0) (v := (.agg #[.int .i32 a0, .int .i64 a1])) rfl (by kernel_rfl) (by kernel_rfl) (by kernel_rfl) (fun _ _ _ h => h) (Or.inl ⟨by rfl, ?hy16x0⟩) (by assumption) ?rest16x0
    case hy16x0 => intro w hSw; obtain ⟨s1, s2⟩ := unhide HA _ hSw; go_simp <;> with_reducible rfl
    simp only [Act.put, List.getElem_toArray, List.getElem_cons_zero, List.setIfInBounds_toArray, List.set_cons_zero, List.set_cons_succ]
    refine wpAnyH_take (i := 1) (v := (.agg #[.int .i32 b0, .int .i64 b1])) rfl (by kernel_rfl) (by kernel_rfl) (by kernel_rfl) (fun _ _ _ h => h) (Or.inl ⟨by rfl, ?hy17x1⟩) (by assumption) ?rest17x1
    case hy17x1 => intro w hSw; obtain ⟨s1, s2⟩ := unhide HB _ hSw; go_simp <;> with_reducible rfl
    simp only [Act.put, List.getElem_toArray, List.getElem_cons_zero, List.getElem_cons_succ, List.setIfInBounds_toArray, List.set_cons_zero, List.set_cons_succ]
    refine wpAnyH_take (i := 3) (v := (.agg #[.int .i32 b0, .int .i64 b1])) rfl (by kernel_rfl) (by kernel_rfl) (by kernel_rfl) (fun _ _ _ h => h) (Or.inl ⟨by rfl, ?hy18x3⟩) (by assumption) ?rest18x3
    case hy18x3 => intro w hSw; obtain ⟨s1, s2⟩ := unhide HB _ hSw; go_simp <;> with_reducible rfl
    simp only [Act.put, List.getElem_toArray, List.getElem_cons_zero, List.getElem_cons_succ, List.setIfInBounds_toArray, List.set_cons_zero, List.set_cons_succ]
    refine wpAnyH_take (i := 4) (v := (.agg #[.int .i32 a0, .int .i64 a1])) rfl (by kernel_rfl) (by kernel_rfl) (by kernel_rfl) (fun _ _ _ h => h) (Or.inl ⟨by rfl, ?hy19x4⟩) (by assumption) ?rest19x4
    case hy19x4 => intro w hSw; obtain ⟨s1, s2⟩ := unhide HA _ hSw; go_simp <;> with_reducible rfl
    simp only [Act.put, List.getElem_toArray, List.getElem_cons_zero, List.getElem_cons_succ, List.setIfInBounds_toArray, List.set_cons_zero, List.set_cons_succ]
    refine wpAnyH_ready (rs := [2]) (by kernel_rfl) (by simp) ?_
    refine AllReadyH.cons rfl (fun K hK => ?_) AllReadyH.nil
    go_simp
    refine (unhide HAB _ (by assumption)).mono ?_
    rintro e wq ⟨rfl, hb1⟩
    refine hK _ _ hb1 ?_
    clear hK hHeld
    intro hHeld
    refine wpAnyH_ready (rs := [5]) (by kernel_rfl) (by simp) ?_
    refine AllReadyH.cons rfl (fun K hK => ?_) AllReadyH.nil
    go_simp
    refine (unhide HBA _ (by assumption)).mono ?_
    rintro e wq ⟨rfl, hb2⟩
    refine hK _ _ hb2 ?_
    clear hK hHeld
    intro hHeld
    refine wpAnyH_take (i := 6) (v := (.int .i64 0)) rfl (by kernel_rfl) (by kernel_rfl) (by kernel_rfl) (fun _ _ _ h => h) (Or.inl ⟨by rfl, ?hy20x6⟩) (by assumption) ?rest20x6
    case hy20x6 => intro w hSw; have hw : IntKind.i64.wrap 0 = 0 := (by decide); go_simp <;> with_reducible rfl
    simp only [Act.put, List.getElem_toArray, List.getElem_cons_zero, List.getElem_cons_succ, List.setIfInBounds_toArray, List.set_cons_zero, List.set_cons_succ]
    refine wpAnyH_take (i := 7) (v := (.bool false)) rfl (by kernel_rfl) (by kernel_rfl) (by kernel_rfl) (fun _ _ _ h => h) (Or.inl ⟨by rfl, ?hy21x7⟩) (by assumption) ?rest21x7
    case hy21x7 => intro w hSw; go_simp <;> with_reducible rfl
    simp only [Act.put, List.getElem_toArray, List.getElem_cons_zero, List.getElem_cons_succ, List.setIfInBounds_toArray, List.set_cons_zero, List.set_cons_succ]
    refine wpAnyH_take (i := 8) (v := ?v22x8) rfl (by kernel_rfl) (by kernel_rfl) (by kernel_rfl) (fun _ _ _ h => h) (Or.inl ⟨by rfl, ?hy22x8⟩) (by assumption) ?rest22x8
    case hy22x8 => intro w hSw; go_simp <;> with_reducible rfl
    simp only [Act.put, List.getElem_toArray, List.getElem_cons_zero, List.getElem_cons_succ, List.setIfInBounds_toArray, List.set_cons_zero, List.set_cons_succ]
    refine wpAnyH_take (i := 9) (v := (.agg #[.int .i32 a0, .int .i64 a1])) rfl (by kernel_rfl) (by kernel_rfl) (by kernel_rfl) (fun _ _ _ h => h) (Or.inl ⟨by rfl, ?hy23x9⟩) (by assumption) ?rest23x9
    case hy23x9 => intro w hSw; obtain ⟨s1, s2⟩ := unhide HA _ hSw; go_simp <;> with_reducible rfl
    simp only [Act.put, List.getElem_toArray, List.getElem_cons_zero, List.getElem_cons_succ, List.setIfInBounds_toArray, List.set_cons_zero, List.set_cons_succ]
    refine wpAnyH_take (i := 10) (v := (.agg #[.int .i32 b0, .int .i64 b1])) rfl (by kernel_rfl) (by kernel_rfl) (by kernel_rfl) (fun _ _ _ h => h) (Or.inl ⟨by rfl, ?hy24x10⟩) (by assumption) ?rest24x10
    case hy24x10 => intro w hSw; obtain ⟨s1, s2⟩ := unhide HB _ hSw; go_simp <;> with_reducible rfl
    simp only [Act.put, List.getElem_toArray, List.getElem_cons_zero, List.getElem_cons_succ, List.setIfInBounds_toArray, List.set_cons_zero, List.set_cons_succ]
    refine wpAnyH_take (i := 13) (v := (.agg #[.int .i32 a0, .int .i64 a1])) rfl (by kernel_rfl) (by kernel_rfl) (by kernel_rfl) (fun _ _ _ h => h) (Or.inl ⟨by rfl, ?hy25x13⟩) (by assumption) ?rest25x13
    case hy25x13 => intro w hSw; obtain ⟨s1, s2⟩ := unhide HA _ hSw; go_simp <;> with_reducible rfl
    simp only [Act.put, List.getElem_toArray, List.getElem_cons_zero, List.getElem_cons_succ, List.setIfInBounds_toArray, List.set_cons_zero, List.set_cons_succ]
    refine wpAnyH_take (i := 14) (v := (.agg #[.int .i32 b0, .int .i64 b1])) rfl (by kernel_rfl) (by kernel_rfl) (by kernel_rfl) (fun _ _ _ h => h) (Or.inl ⟨by rfl, ?hy26x14⟩) (by assumption) ?rest26x14
    case hy26x14 => intro w hSw; obtain ⟨s1, s2⟩ := unhide HB _ hSw; go_simp <;> with_reducible rfl
    simp only [Act.put, List.getElem_toArray, List.getElem_cons_zero, List.getElem_cons_succ, List.setIfInBounds_toArray, List.set_cons_zero, List.set_cons_succ]
    refine wpAnyH_take (i := 15) (v := (.bool true)) rfl (by kernel_rfl) (by kernel_rfl) (by kernel_rfl) (fun _ _ _ h => h) (Or.inl ⟨by rfl, ?hy27x15⟩) (by assumption) ?rest27x15
    case hy27x15 => intro w hSw; go_simp <;> with_reducible rfl
    simp only [Act.put, List.getElem_toArray, List.getElem_cons_zero, List.getElem_cons_succ, List.setIfInBounds_toArray, List.set_cons_zero, List.set_cons_succ]
    refine wpAnyH_ready (rs := [11]) (by kernel_rfl) (by simp) ?_
    refine AllReadyH.cons rfl (fun K hK => ?_) AllReadyH.nil
    go_simp
    refine (unhide HAB _ (by assumption)).mono ?_
    rintro e wq ⟨rfl, hb3⟩
    refine hK _ _ hb3 ?_
    clear hK hHeld
    intro hHeld
    refine wpAnyH_take (i := 12) (v := (.bool true)) rfl (by kernel_rfl) (by kernel_rfl) (by kernel_rfl) (fun _ _ _ h => h) (Or.inl ⟨by rfl, ?hy28x12⟩) (by assumption) ?rest28x12
    case hy28x12 => intro w hSw; go_simp <;> with_reducible rfl
    simp only [Act.put, List.getElem_toArray, List.getElem_cons_zero, List.getElem_cons_succ, List.setIfInBounds_toArray, List.set_cons_zero, List.set_cons_succ]
    refine wpAnyH_take (i := 16) (v := (.bool false)) rfl (by kernel_rfl) (by kernel_rfl) (by kernel_rfl) (fun _ _ _ h => h) (Or.inl ⟨by rfl, ?hy29x16⟩) (by assumption) ?rest29x16
    case hy29x16 => intro w hSw; go_simp <;> with_reducible rfl
    simp only [Act.put, List.getElem_toArray, List.getElem_cons_zero, List.getElem_cons_succ, List.setIfInBounds_toArray, List.set_cons_zero, List.set_cons_succ]
    refine wpAnyH_take (i := 17) (v := (.bool false)) rfl (by kernel_rfl) (by kernel_rfl) (by kernel_rfl) (fun _ _ _ h => h) (Or.inl ⟨by rfl, ?hy30x17⟩) (by assumption) ?rest30x17
    case hy30x17 => intro w hSw; go_simp <;> with_reducible rfl
    simp only [Act.put, List.getElem_toArray, List.getElem_cons_zero, List.getElem_cons_succ, List.setIfInBounds_toArray, List.set_cons_zero, List.set_cons_succ]
    refine wpAnyH_done (by kernel_rfl) ?_ _
    clear hE
    go_wp2_with fail
    refine (live_from (by assumption)).mono ?_
    rintro e w4 ⟨rfl, hb4⟩
    obtain ⟨s1, s2⟩ := unhide HA _ hb4
    obtain ⟨s3, s4⟩ := unhide HB _ hb4
    clear hb1 hb2 hb3 hHeld
    go_wp2_with fail
    refine (unhide HAB _ hb4).mono ?_
    rintro e w5 ⟨rfl, hb5⟩
    clear s1 s2 s3 s4
    obtain ⟨s1, s2⟩ := unhide HB _ hb5
    obtain ⟨s3, s4⟩ := unhide HC _ hb5
    go_wp2_with fail
    refine (unhide HBC _ hb5).mono ?_
    rintro e w6 ⟨rfl, hb6⟩
    clear s1 s2 s3 s4
    by_cases hp : 0 < rbc
    · have hpd : decide (rbc > 0) = true := decide_eq_true hp
      go_wp2
      go_ret
      exact ⟨rfl, (unhide HW).trans (hb6.mono (unhide HW).size)⟩
    · have hpd : decide (rbc > 0) = false := decide_eq_false hp
      have hac := cmpK_trans (a := (a0, a1)) (b := (b0, b1)) (c := (c0, c1)) (by rw [unhide HH1]; decide) (by rw [unhide HRBC]; omega)
      obtain ⟨rac, hrac⟩ : ∃ r, cmpK (a0, a1) (c0, c1) = r := ⟨_, rfl⟩
      rw [hrac] at hac
      have HAC := hide (cmp_from hrac hb6)
      have hqd : decide (rac ≤ 0) = true := decide_eq_true hac
      obtain ⟨s1, s2⟩ := unhide HA _ hb6
      obtain ⟨s3, s4⟩ := unhide HC _ hb6
      clear hrac
      go_wp2_with fail
      refine (unhide HAC).mono ?_
      rintro e w7 ⟨rfl, hb7⟩
      go_wp2
      go_ret
      exact ⟨rfl, (unhide HW).trans (hb7.mono (unhide HW).size)⟩
  · have h2 : cmpK (b0, b1) (a0, a1) = (-1) := (cmpK_anti _ _).trans (by rw [h1] <;> decide)
    have HAB : Hid (∀ x, Below y.heap.size y x → Calls Try.prog 10 #[.agg #[.int .i32 a0, .int .i64 a1], .agg #[.int .i32 b0, .int .i64 b1]] x fun e w' => e = .returned (.int .i64 1) ∧ Below y.heap.size y w') := fun x hb => cmp_from (a := (a0, a1)) (b := (b0, b1)) h1 hb
    have HBA : Hid (∀ x, Below y.heap.size y x → Calls Try.prog 10 #[.agg #[.int .i32 b0, .int .i64 b1], .agg #[.int .i32 a0, .int .i64 a1]] x fun e w' => e = .returned (.int .i64 (-1)) ∧ Below y.heap.size y w') := fun x hb => cmp_from (a := (b0, b1)) (b := (a0, a1)) h2 hb
    have hq : decide ((a0, a1) = (b0, b1)) = false := by exact decide_eq_false fun e => by rw [(cmpK_zero _ _).2 e] at h1; cases h1
    have hE : ∀ x, (binOp .eql 23 (.agg #[.int .i32 a0, .int .i64 a1]) (.agg #[.int .i32 b0, .int .i64 b1])).run Try.prog x = .ok (.bool false) x := fun x => by rw [eql_key, hq]
    clear hq
    skip
    have HH1 := hide h1
    clear h1 h2
    go_enter Try.func7, Try.ntmps7
    go_wp2_with (rw [hy])
    refine wp_region_held_drew (S := fun x => Below y.heap.size y x) (by kernel_rfl) ((Below.refl _ _).drew) (fun hHeld => ?_)
    refine wpAnyH_take (i := 0) (v := (.agg #[.int .i32 a0, .int .i64 a1])) rfl (by kernel_rfl) (by kernel_rfl) (by kernel_rfl) (fun _ _ _ h => h) (Or.inl ⟨by rfl, ?hy31x0⟩) (by assumption) ?rest31x0
    case hy31x0 => intro w hSw; obtain ⟨s1, s2⟩ := unhide HA _ hSw; go_simp <;> with_reducible rfl
    simp only [Act.put, List.getElem_toArray, List.getElem_cons_zero, List.setIfInBounds_toArray, List.set_cons_zero, List.set_cons_succ]
    refine wpAnyH_take (i := 1) (v := (.agg #[.int .i32 b0, .int .i64 b1])) rfl (by kernel_rfl) (by kernel_rfl) (by kernel_rfl) (fun _ _ _ h => h) (Or.inl ⟨by rfl, ?hy32x1⟩) (by assumption) ?rest32x1
    case hy32x1 => intro w hSw; obtain ⟨s1, s2⟩ := unhide HB _ hSw; go_simp <;> with_reducible rfl
    simp only [Act.put, List.getElem_toArray, List.getElem_cons_zero, List.getElem_cons_succ, List.setIfInBounds_toArray, List.set_cons_zero, List.set_cons_succ]
    refine wpAnyH_take (i := 3) (v := (.agg #[.int .i32 b0, .int .i64 b1])) rfl (by kernel_rfl) (by kernel_rfl) (by kernel_rfl) (fun _ _ _ h => h) (Or.inl ⟨by rfl, ?hy33x3⟩) (by assumption) ?rest33x3
    case hy33x3 => intro w hSw; obtain ⟨s1, s2⟩ := unhide HB _ hSw; go_simp <;> with_reducible rfl
    simp only [Act.put, List.getElem_toArray, List.getElem_cons_zero, List.getElem_cons_succ, List.setIfInBounds_toArray, List.set_cons_zero, List.set_cons_succ]
    refine wpAnyH_take (i := 4) (v := (.agg #[.int .i32 a0, .int .i64 a1])) rfl (by kernel_rfl) (by kernel_rfl) (by kernel_rfl) (fun _ _ _ h => h) (Or.inl ⟨by rfl, ?hy34x4⟩) (by assumption) ?rest34x4
    case hy34x4 => intro w hSw; obtain ⟨s1, s2⟩ := unhide HA _ hSw; go_simp <;> with_reducible rfl
    simp only [Act.put, List.getElem_toArray, List.getElem_cons_zero, List.getElem_cons_succ, List.setIfInBounds_toArray, List.set_cons_zero, List.set_cons_succ]
    refine wpAnyH_ready (rs := [2]) (by kernel_rfl) (by simp) ?_
    refine AllReadyH.cons rfl (fun K hK => ?_) AllReadyH.nil
    go_simp
    refine (unhide HAB _ (by assumption)).mono ?_
    rintro e wq ⟨rfl, hb1⟩
    refine hK _ _ hb1 ?_
    clear hK hHeld
    intro hHeld
    refine wpAnyH_ready (rs := [5]) (by kernel_rfl) (by simp) ?_
    refine AllReadyH.cons rfl (fun K hK => ?_) AllReadyH.nil
    go_simp
    refine (unhide HBA _ (by assumption)).mono ?_
    rintro e wq ⟨rfl, hb2⟩
    refine hK _ _ hb2 ?_
    clear hK hHeld
    intro hHeld
    refine wpAnyH_take (i := 6) (v := (.int .i64 1)) rfl (by kernel_rfl) (by kernel_rfl) (by kernel_rfl) (fun _ _ _ h => h) (Or.inl ⟨by rfl, ?hy35x6⟩) (by assumption) ?rest35x6
    case hy35x6 => intro w hSw; have hw : IntKind.i64.wrap 1 = 1 := (by decide); go_simp <;> with_reducible rfl
    simp only [Act.put, List.getElem_toArray, List.getElem_cons_zero, List.getElem_cons_succ, List.setIfInBounds_toArray, List.set_cons_zero, List.set_cons_succ]
    refine wpAnyH_take (i := 7) (v := (.bool false)) rfl (by kernel_rfl) (by kernel_rfl) (by kernel_rfl) (fun _ _ _ h => h) (Or.inl ⟨by rfl, ?hy36x7⟩) (by assumption) ?rest36x7
    case hy36x7 => intro w hSw; go_simp <;> with_reducible rfl
    simp only [Act.put, List.getElem_toArray, List.getElem_cons_zero, List.getElem_cons_succ, List.setIfInBounds_toArray, List.set_cons_zero, List.set_cons_succ]
    refine wpAnyH_take (i := 8) (v := ?v37x8) rfl (by kernel_rfl) (by kernel_rfl) (by kernel_rfl) (fun _ _ _ h => h) (Or.inl ⟨by rfl, ?hy37x8⟩) (by assumption) ?rest37x8
    case hy37x8 => intro w hSw; go_simp <;> with_reducible rfl
    simp only [Act.put, List.getElem_toArray, List.getElem_cons_zero, List.getElem_cons_succ, List.setIfInBounds_toArray, List.set_cons_zero, List.set_cons_succ]
    refine wpAnyH_take (i := 9) (v := (.agg #[.int .i32 a0, .int .i64 a1])) rfl (by kernel_rfl) (by kernel_rfl) (by kernel_rfl) (fun _ _ _ h => h) (Or.inl ⟨by rfl, ?hy38x9⟩) (by assumption) ?rest38x9
    case hy38x9 => intro w hSw; obtain ⟨s1, s2⟩ := unhide HA _ hSw; go_simp <;> with_reducible rfl
    simp only [Act.put, List.getElem_toArray, List.getElem_cons_zero, List.getElem_cons_succ, List.setIfInBounds_toArray, List.set_cons_zero, List.set_cons_succ]
    refine wpAnyH_take (i := 10) (v := (.agg #[.int .i32 b0, .int .i64 b1])) rfl (by kernel_rfl) (by kernel_rfl) (by kernel_rfl) (fun _ _ _ h => h) (Or.inl ⟨by rfl, ?hy39x10⟩) (by assumption) ?rest39x10
    case hy39x10 => intro w hSw; obtain ⟨s1, s2⟩ := unhide HB _ hSw; go_simp <;> with_reducible rfl
    simp only [Act.put, List.getElem_toArray, List.getElem_cons_zero, List.getElem_cons_succ, List.setIfInBounds_toArray, List.set_cons_zero, List.set_cons_succ]
    refine wpAnyH_take (i := 13) (v := (.agg #[.int .i32 a0, .int .i64 a1])) rfl (by kernel_rfl) (by kernel_rfl) (by kernel_rfl) (fun _ _ _ h => h) (Or.inl ⟨by rfl, ?hy40x13⟩) (by assumption) ?rest40x13
    case hy40x13 => intro w hSw; obtain ⟨s1, s2⟩ := unhide HA _ hSw; go_simp <;> with_reducible rfl
    simp only [Act.put, List.getElem_toArray, List.getElem_cons_zero, List.getElem_cons_succ, List.setIfInBounds_toArray, List.set_cons_zero, List.set_cons_succ]
    refine wpAnyH_take (i := 14) (v := (.agg #[.int .i32 b0, .int .i64 b1])) rfl (by kernel_rfl) (by kernel_rfl) (by kernel_rfl) (fun _ _ _ h => h) (Or.inl ⟨by rfl, ?hy41x14⟩) (by assumption) ?rest41x14
    case hy41x14 => intro w hSw; obtain ⟨s1, s2⟩ := unhide HB _ hSw; go_simp <;> with_reducible rfl
    simp only [Act.put, List.getElem_toArray, List.getElem_cons_zero, List.getElem_cons_succ, List.setIfInBounds_toArray, List.set_cons_zero, List.set_cons_succ]
    refine wpAnyH_take (i := 15) (v := (.bool false)) rfl (by kernel_rfl) (by kernel_rfl) (by kernel_rfl) (fun _ _ _ h => h) (Or.inl ⟨by rfl, ?hy42x15⟩) (by assumption) ?rest42x15
    case hy42x15 => intro w hSw; go_simp <;> with_reducible rfl
    simp only [Act.put, List.getElem_toArray, List.getElem_cons_zero, List.getElem_cons_succ, List.setIfInBounds_toArray, List.set_cons_zero, List.set_cons_succ]
    refine wpAnyH_ready (rs := [11]) (by kernel_rfl) (by simp) ?_
    refine AllReadyH.cons rfl (fun K hK => ?_) AllReadyH.nil
    go_simp
    refine (unhide HAB _ (by assumption)).mono ?_
    rintro e wq ⟨rfl, hb3⟩
    refine hK _ _ hb3 ?_
    clear hK hHeld
    intro hHeld
    refine wpAnyH_take (i := 12) (v := (.bool false)) rfl (by kernel_rfl) (by kernel_rfl) (by kernel_rfl) (fun _ _ _ h => h) (Or.inl ⟨by rfl, ?hy43x12⟩) (by assumption) ?rest43x12
    case hy43x12 => intro w hSw; go_simp <;> with_reducible rfl
    simp only [Act.put, List.getElem_toArray, List.getElem_cons_zero, List.getElem_cons_succ, List.setIfInBounds_toArray, List.set_cons_zero, List.set_cons_succ]
    refine wpAnyH_take (i := 16) (v := (.bool false)) rfl (by kernel_rfl) (by kernel_rfl) (by kernel_rfl) (fun _ _ _ h => h) (Or.inl ⟨by rfl, ?hy44x16⟩) (by assumption) ?rest44x16
    case hy44x16 => intro w hSw; go_simp <;> with_reducible rfl
    simp only [Act.put, List.getElem_toArray, List.getElem_cons_zero, List.getElem_cons_succ, List.setIfInBounds_toArray, List.set_cons_zero, List.set_cons_succ]
    refine wpAnyH_take (i := 17) (v := (.bool false)) rfl (by kernel_rfl) (by kernel_rfl) (by kernel_rfl) (fun _ _ _ h => h) (Or.inl ⟨by rfl, ?hy45x17⟩) (by assumption) ?rest45x17
    case hy45x17 => intro w hSw; go_simp <;> with_reducible rfl
    simp only [Act.put, List.getElem_toArray, List.getElem_cons_zero, List.getElem_cons_succ, List.setIfInBounds_toArray, List.set_cons_zero, List.set_cons_succ]
    refine wpAnyH_done (by kernel_rfl) ?_ _
    clear hE
    go_wp2_with fail
    refine (live_from (by assumption)).mono ?_
    rintro e w4 ⟨rfl, hb4⟩
    obtain ⟨s1, s2⟩ := unhide HA _ hb4
    obtain ⟨s3, s4⟩ := unhide HB _ hb4
    clear hb1 hb2 hb3 hHeld
    go_wp2_with fail
    refine (unhide HAB _ hb4).mono ?_
    rintro e w5 ⟨rfl, hb5⟩
    clear s1 s2 s3 s4
    go_wp2
    go_ret
    exact ⟨rfl, (unhide HW).trans (hb5.mono (unhide HW).size)⟩
end Go.Proofs.Ytbajggmpklajnaa
