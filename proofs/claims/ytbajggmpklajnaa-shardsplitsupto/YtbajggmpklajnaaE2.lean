/- ShardAsks' walk. -/
import Derived.Test.YtbajggmpklajnaaE0
import Derived.Test.YtbajggmpklajnaaE1
namespace Go.Proofs.Ytbajggmpklajnaa
open Go.RowKit
set_option maxRecDepth 100000

/-- A call that only makes blocks, from a world above y. -/
theorem grew_from {y x : World} {f : Nat} {args : Array Value} {r : Ending} (hb : Below y.heap.size y x) (h : Calls Try.prog f args x fun e w' => e = r ∧ Grew x w') : Calls Try.prog f args x fun e w' => e = r ∧ Below y.heap.size y w' :=
  h.mono fun _ _ ⟨h1, h2⟩ => ⟨h1, hb.trans (h2.below.mono hb.size)⟩
set_option maxHeartbeats 6400000 in
theorem asks_walk (a0 a1 b0 b1 n : Int) (w : World) :
    Calls Try.prog 3 #[.agg #[.int .i32 a0, .int .i64 a1], .agg #[.int .i32 b0, .int .i64 b1], .int .i64 n] w fun e w' => e = .returned (.bool true) ∧ Below w.heap.size w w' := by
  obtain ⟨y, hy⟩ : ∃ y, (w.alloc (.cells #[.int .i32 a0, .int .i64 a1] 23)).alloc (.cells #[.int .i32 b0, .int .i64 b1] 23) = y := ⟨_, rfl⟩
  have hwy : Below w.heap.size w y := by rw [← hy]; exact ((Below.refl _ _).alloc (Nat.le_refl _) _).alloc (by simp) _
  have xa : y.heap[w.heap.size]? = some (.cells #[.int .i32 a0, .int .i64 a1] 23) := by
    rw [← hy, Below.heap_alloc _ _ _ (by simp)]; exact heap_alloc_new w _
  have xb : y.heap[w.heap.size + 1]? = some (.cells #[.int .i32 b0, .int .i64 b1] 23) := by
    rw [← hy]
    have := heap_alloc_new (w.alloc (.cells #[.int .i32 a0, .int .i64 a1] 23)) (.cells #[.int .i32 b0, .int .i64 b1] 23)
    simpa using this
  have HA : Hid (∀ x, Below y.heap.size y x → x.cell? ⟨w.heap.size, 0, none⟩ = some (.int .i32 a0) ∧ x.cell? ⟨w.heap.size, 1, none⟩ = some (.int .i64 a1)) := fun x hb => box_cells xa hb
  have HB : Hid (∀ x, Below y.heap.size y x → x.cell? ⟨w.heap.size + 1, 0, none⟩ = some (.int .i32 b0) ∧ x.cell? ⟨w.heap.size + 1, 1, none⟩ = some (.int .i64 b1)) := fun x hb => box_cells xb hb
  have HW := hide hwy
  obtain ⟨r, hr⟩ : ∃ r, cmpK (a0, a1) (b0, b1) = r := ⟨_, rfl⟩
  obtain ⟨h, hh⟩ : ∃ r, hashF (a0, a1) = r := ⟨_, rfl⟩
  obtain ⟨q, hq⟩ : ∃ r, partF (a0, a1) n = r := ⟨_, rfl⟩
  obtain ⟨bs, hbs⟩ : ∃ r, bytesV (turnT a0) (turnR a1) = r := ⟨_, rfl⟩
  have HC1 : Hid (∀ x, Below y.heap.size y x → Calls Try.prog 10 #[.agg #[.int .i32 a0, .int .i64 a1], .agg #[.int .i32 b0, .int .i64 b1]] x fun e w' => e = .returned (.int .i64 r) ∧ Below y.heap.size y w') := fun x hb => grew_from hb (hr ▸ compare_any a0 a1 b0 b1 x)
  have HC2 : Hid (∀ x, Below y.heap.size y x → Calls Try.prog 11 #[.agg #[.int .i32 a0, .int .i64 a1], .agg #[.int .i32 b0, .int .i64 b1]] x fun e w' => e = .returned (.int .i64 r) ∧ Below y.heap.size y w') := fun x hb => grew_from hb (hr ▸ rcompare_any a0 a1 b0 b1 x)
  have HC3 : Hid (∀ x, Below y.heap.size y x → Calls Try.prog 12 #[.agg #[.int .i32 a0, .int .i64 a1]] x fun e w' => e = .returned (.agg bs) ∧ Below y.heap.size y w') := fun x hb => grew_from hb (hbs ▸ bytes_any a0 a1 x)
  have HC4 : Hid (∀ x, Below y.heap.size y x → Calls Try.prog 13 #[.agg #[.int .i32 a0, .int .i64 a1]] x fun e w' => e = .returned (.agg bs) ∧ Below y.heap.size y w') := fun x hb => grew_from hb (hbs ▸ rbytes_any a0 a1 x)
  have HC5 : Hid (∀ x, Below y.heap.size y x → Calls Try.prog 14 #[.agg #[.int .i32 a0, .int .i64 a1]] x fun e w' => e = .returned (.int .u64 h) ∧ Below y.heap.size y w') := fun x hb => grew_from hb (hh ▸ hash_any a0 a1 x)
  have HC6 : Hid (∀ x, Below y.heap.size y x → Calls Try.prog 15 #[.agg #[.int .i32 a0, .int .i64 a1]] x fun e w' => e = .returned (.int .u64 h) ∧ Below y.heap.size y w') := fun x hb => grew_from hb (hh ▸ rhash_any a0 a1 x)
  have HC7 : Hid (∀ x, Below y.heap.size y x → Calls Try.prog 16 #[.agg #[.int .i32 a0, .int .i64 a1], .int .i64 n] x fun e w' => e = .returned (.int .i64 q) ∧ Below y.heap.size y w') := fun x hb => grew_from hb (hq ▸ part_any a0 a1 n x)
  have HC8 : Hid (∀ x, Below y.heap.size y x → Calls Try.prog 17 #[.agg #[.int .i32 a0, .int .i64 a1], .int .i64 n] x fun e w' => e = .returned (.int .i64 q) ∧ Below y.heap.size y w') := fun x hb => grew_from hb (hq ▸ rpart_any a0 a1 n x)
  have hE : ∀ x, (binOp .eql 26 (.agg bs) (.agg bs)).run Try.prog x = .ok (.bool true) x := fun x => eql_arr12 (hbs ▸ bytesV_at (turnT a0) (turnR a1)) x
  clear hwy xa xb hr hh hq hbs
  go_enter Try.func3, Try.ntmps3
  go_wp2_with (rw [hy])
  refine wp_region_held_drew (S := fun x => Below y.heap.size y x) (by kernel_rfl) ((Below.refl _ _).drew) (fun hHeld => ?_)
  refine wpAnyH_ready (rs := [0]) (by as_aux_lemma => kernel_rfl) (by simp) ?_
  refine AllReadyH.cons rfl (fun K hK => ?_) AllReadyH.nil
  go_simp
  refine (live_from (by assumption)).mono ?_
  rintro e wq ⟨rfl, hb1⟩
  refine hK _ _ hb1 ?_
  clear hK hHeld
  intro hHeld
  refine wpAnyH_take (i := 1) (v := ?v1x1) rfl (by as_aux_lemma => kernel_rfl) (by as_aux_lemma => kernel_rfl) (by as_aux_lemma => kernel_rfl) (fun _ _ _ h => h) (Or.inl ⟨by rfl, ?hy1x1⟩) (by assumption) ?rest1x1
  case hy1x1 => intro w hSw; go_simp <;> with_reducible rfl
  simp only [Act.put, List.getElem_toArray, List.getElem_cons_zero, List.getElem_cons_succ, List.setIfInBounds_toArray, List.set_cons_zero, List.set_cons_succ]
  refine wpAnyH_take (i := 2) (v := (.agg #[.int .i32 a0, .int .i64 a1])) rfl (by as_aux_lemma => kernel_rfl) (by as_aux_lemma => kernel_rfl) (by as_aux_lemma => kernel_rfl) (fun _ _ _ h => h) (Or.inl ⟨by rfl, ?hy2x2⟩) (by assumption) ?rest2x2
  case hy2x2 => intro w hSw; obtain ⟨s1, s2⟩ := unhide HA _ hSw; go_simp <;> with_reducible rfl
  simp only [Act.put, List.getElem_toArray, List.getElem_cons_zero, List.getElem_cons_succ, List.setIfInBounds_toArray, List.set_cons_zero, List.set_cons_succ]
  refine wpAnyH_take (i := 3) (v := (.agg #[.int .i32 b0, .int .i64 b1])) rfl (by as_aux_lemma => kernel_rfl) (by as_aux_lemma => kernel_rfl) (by as_aux_lemma => kernel_rfl) (fun _ _ _ h => h) (Or.inl ⟨by rfl, ?hy3x3⟩) (by assumption) ?rest3x3
  case hy3x3 => intro w hSw; obtain ⟨s1, s2⟩ := unhide HB _ hSw; go_simp <;> with_reducible rfl
  simp only [Act.put, List.getElem_toArray, List.getElem_cons_zero, List.getElem_cons_succ, List.setIfInBounds_toArray, List.set_cons_zero, List.set_cons_succ]
  refine wpAnyH_take (i := 5) (v := (.agg #[.int .i32 a0, .int .i64 a1])) rfl (by as_aux_lemma => kernel_rfl) (by as_aux_lemma => kernel_rfl) (by as_aux_lemma => kernel_rfl) (fun _ _ _ h => h) (Or.inl ⟨by rfl, ?hy4x5⟩) (by assumption) ?rest4x5
  case hy4x5 => intro w hSw; obtain ⟨s1, s2⟩ := unhide HA _ hSw; go_simp <;> with_reducible rfl
  simp only [Act.put, List.getElem_toArray, List.getElem_cons_zero, List.getElem_cons_succ, List.setIfInBounds_toArray, List.set_cons_zero, List.set_cons_succ]
  refine wpAnyH_take (i := 6) (v := (.agg #[.int .i32 b0, .int .i64 b1])) rfl (by as_aux_lemma => kernel_rfl) (by as_aux_lemma => kernel_rfl) (by as_aux_lemma => kernel_rfl) (fun _ _ _ h => h) (Or.inl ⟨by rfl, ?hy5x6⟩) (by assumption) ?rest5x6
  case hy5x6 => intro w hSw; obtain ⟨s1, s2⟩ := unhide HB _ hSw; go_simp <;> with_reducible rfl
  simp only [Act.put, List.getElem_toArray, List.getElem_cons_zero, List.getElem_cons_succ, List.setIfInBounds_toArray, List.set_cons_zero, List.set_cons_succ]
  refine wpAnyH_ready (rs := [4]) (by as_aux_lemma => kernel_rfl) (by simp) ?_
  refine AllReadyH.cons rfl (fun K hK => ?_) AllReadyH.nil
  go_simp
  refine (unhide HC1 _ (by assumption)).mono ?_
  rintro e wq ⟨rfl, hb1⟩
  refine hK _ _ hb1 ?_
  clear hK hHeld
  intro hHeld
  refine wpAnyH_ready (rs := [7]) (by as_aux_lemma => kernel_rfl) (by simp) ?_
  refine AllReadyH.cons rfl (fun K hK => ?_) AllReadyH.nil
  go_simp
  refine (unhide HC2 _ (by assumption)).mono ?_
  rintro e wq ⟨rfl, hb1⟩
  refine hK _ _ hb1 ?_
  clear hK hHeld
  intro hHeld
  refine wpAnyH_take (i := 8) (v := (.bool true)) rfl (by as_aux_lemma => kernel_rfl) (by as_aux_lemma => kernel_rfl) (by as_aux_lemma => kernel_rfl) (fun _ _ _ h => h) (Or.inl ⟨by rfl, ?hy6x8⟩) (by assumption) ?rest6x8
  case hy6x8 => intro w hSw; go_simp <;> with_reducible rfl
  simp only [Act.put, List.getElem_toArray, List.getElem_cons_zero, List.getElem_cons_succ, List.setIfInBounds_toArray, List.set_cons_zero, List.set_cons_succ]
  refine wpAnyH_take (i := 9) (v := (.bool true)) rfl (by as_aux_lemma => kernel_rfl) (by as_aux_lemma => kernel_rfl) (by as_aux_lemma => kernel_rfl) (fun _ _ _ h => h) (Or.inl ⟨by rfl, ?hy7x9⟩) (by assumption) ?rest7x9
  case hy7x9 => intro w hSw; go_simp <;> with_reducible rfl
  simp only [Act.put, List.getElem_toArray, List.getElem_cons_zero, List.getElem_cons_succ, List.setIfInBounds_toArray, List.set_cons_zero, List.set_cons_succ]
  refine wpAnyH_take (i := 10) (v := ?v8x10) rfl (by as_aux_lemma => kernel_rfl) (by as_aux_lemma => kernel_rfl) (by as_aux_lemma => kernel_rfl) (fun _ _ _ h => h) (Or.inl ⟨by rfl, ?hy8x10⟩) (by assumption) ?rest8x10
  case hy8x10 => intro w hSw; go_simp <;> with_reducible rfl
  simp only [Act.put, List.getElem_toArray, List.getElem_cons_zero, List.getElem_cons_succ, List.setIfInBounds_toArray, List.set_cons_zero, List.set_cons_succ]
  refine wpAnyH_take (i := 11) (v := (.agg #[.int .i32 a0, .int .i64 a1])) rfl (by as_aux_lemma => kernel_rfl) (by as_aux_lemma => kernel_rfl) (by as_aux_lemma => kernel_rfl) (fun _ _ _ h => h) (Or.inl ⟨by rfl, ?hy9x11⟩) (by assumption) ?rest9x11
  case hy9x11 => intro w hSw; obtain ⟨s1, s2⟩ := unhide HA _ hSw; go_simp <;> with_reducible rfl
  simp only [Act.put, List.getElem_toArray, List.getElem_cons_zero, List.getElem_cons_succ, List.setIfInBounds_toArray, List.set_cons_zero, List.set_cons_succ]
  refine wpAnyH_take (i := 13) (v := (.agg #[.int .i32 a0, .int .i64 a1])) rfl (by as_aux_lemma => kernel_rfl) (by as_aux_lemma => kernel_rfl) (by as_aux_lemma => kernel_rfl) (fun _ _ _ h => h) (Or.inl ⟨by rfl, ?hy10x13⟩) (by assumption) ?rest10x13
  case hy10x13 => intro w hSw; obtain ⟨s1, s2⟩ := unhide HA _ hSw; go_simp <;> with_reducible rfl
  simp only [Act.put, List.getElem_toArray, List.getElem_cons_zero, List.getElem_cons_succ, List.setIfInBounds_toArray, List.set_cons_zero, List.set_cons_succ]
  refine wpAnyH_ready (rs := [12]) (by as_aux_lemma => kernel_rfl) (by simp) ?_
  refine AllReadyH.cons rfl (fun K hK => ?_) AllReadyH.nil
  go_simp
  refine (unhide HC3 _ (by assumption)).mono ?_
  rintro e wq ⟨rfl, hb1⟩
  refine hK _ _ hb1 ?_
  clear hK hHeld
  intro hHeld
  refine wpAnyH_ready (rs := [14]) (by as_aux_lemma => kernel_rfl) (by simp) ?_
  refine AllReadyH.cons rfl (fun K hK => ?_) AllReadyH.nil
  go_simp
  refine (unhide HC4 _ (by assumption)).mono ?_
  rintro e wq ⟨rfl, hb1⟩
  refine hK _ _ hb1 ?_
  clear hK hHeld
  intro hHeld
  refine wpAnyH_take (i := 15) (v := (.bool true)) rfl (by as_aux_lemma => kernel_rfl) (by as_aux_lemma => kernel_rfl) (by as_aux_lemma => kernel_rfl) (fun _ _ _ h => h) (Or.inl ⟨by rfl, ?hy11x15⟩) (by assumption) ?rest11x15
  case hy11x15 => intro w hSw; go_simp <;> with_reducible rfl
  simp only [Act.put, List.getElem_toArray, List.getElem_cons_zero, List.getElem_cons_succ, List.setIfInBounds_toArray, List.set_cons_zero, List.set_cons_succ]
  refine wpAnyH_take (i := 16) (v := (.bool true)) rfl (by as_aux_lemma => kernel_rfl) (by as_aux_lemma => kernel_rfl) (by as_aux_lemma => kernel_rfl) (fun _ _ _ h => h) (Or.inl ⟨by rfl, ?hy12x16⟩) (by assumption) ?rest12x16
  case hy12x16 => intro w hSw; go_simp <;> with_reducible rfl
  simp only [Act.put, List.getElem_toArray, List.getElem_cons_zero, List.getElem_cons_succ, List.setIfInBounds_toArray, List.set_cons_zero, List.set_cons_succ]
  refine wpAnyH_take (i := 17) (v := ?v13x17) rfl (by as_aux_lemma => kernel_rfl) (by as_aux_lemma => kernel_rfl) (by as_aux_lemma => kernel_rfl) (fun _ _ _ h => h) (Or.inl ⟨by rfl, ?hy13x17⟩) (by assumption) ?rest13x17
  case hy13x17 => intro w hSw; go_simp <;> with_reducible rfl
  simp only [Act.put, List.getElem_toArray, List.getElem_cons_zero, List.getElem_cons_succ, List.setIfInBounds_toArray, List.set_cons_zero, List.set_cons_succ]
  refine wpAnyH_take (i := 18) (v := (.agg #[.int .i32 a0, .int .i64 a1])) rfl (by as_aux_lemma => kernel_rfl) (by as_aux_lemma => kernel_rfl) (by as_aux_lemma => kernel_rfl) (fun _ _ _ h => h) (Or.inl ⟨by rfl, ?hy14x18⟩) (by assumption) ?rest14x18
  case hy14x18 => intro w hSw; obtain ⟨s1, s2⟩ := unhide HA _ hSw; go_simp <;> with_reducible rfl
  simp only [Act.put, List.getElem_toArray, List.getElem_cons_zero, List.getElem_cons_succ, List.setIfInBounds_toArray, List.set_cons_zero, List.set_cons_succ]
  refine wpAnyH_take (i := 20) (v := (.agg #[.int .i32 a0, .int .i64 a1])) rfl (by as_aux_lemma => kernel_rfl) (by as_aux_lemma => kernel_rfl) (by as_aux_lemma => kernel_rfl) (fun _ _ _ h => h) (Or.inl ⟨by rfl, ?hy15x20⟩) (by assumption) ?rest15x20
  case hy15x20 => intro w hSw; obtain ⟨s1, s2⟩ := unhide HA _ hSw; go_simp <;> with_reducible rfl
  simp only [Act.put, List.getElem_toArray, List.getElem_cons_zero, List.getElem_cons_succ, List.setIfInBounds_toArray, List.set_cons_zero, List.set_cons_succ]
  refine wpAnyH_ready (rs := [19]) (by as_aux_lemma => kernel_rfl) (by simp) ?_
  refine AllReadyH.cons rfl (fun K hK => ?_) AllReadyH.nil
  go_simp
  refine (unhide HC5 _ (by assumption)).mono ?_
  rintro e wq ⟨rfl, hb1⟩
  refine hK _ _ hb1 ?_
  clear hK hHeld
  intro hHeld
  refine wpAnyH_ready (rs := [21]) (by as_aux_lemma => kernel_rfl) (by simp) ?_
  refine AllReadyH.cons rfl (fun K hK => ?_) AllReadyH.nil
  go_simp
  refine (unhide HC6 _ (by assumption)).mono ?_
  rintro e wq ⟨rfl, hb1⟩
  refine hK _ _ hb1 ?_
  clear hK hHeld
  intro hHeld
  refine wpAnyH_take (i := 22) (v := (.bool true)) rfl (by as_aux_lemma => kernel_rfl) (by as_aux_lemma => kernel_rfl) (by as_aux_lemma => kernel_rfl) (fun _ _ _ h => h) (Or.inl ⟨by rfl, ?hy16x22⟩) (by assumption) ?rest16x22
  case hy16x22 => intro w hSw; go_simp <;> with_reducible rfl
  simp only [Act.put, List.getElem_toArray, List.getElem_cons_zero, List.getElem_cons_succ, List.setIfInBounds_toArray, List.set_cons_zero, List.set_cons_succ]
  refine wpAnyH_take (i := 23) (v := (.bool true)) rfl (by as_aux_lemma => kernel_rfl) (by as_aux_lemma => kernel_rfl) (by as_aux_lemma => kernel_rfl) (fun _ _ _ h => h) (Or.inl ⟨by rfl, ?hy17x23⟩) (by assumption) ?rest17x23
  case hy17x23 => intro w hSw; go_simp <;> with_reducible rfl
  simp only [Act.put, List.getElem_toArray, List.getElem_cons_zero, List.getElem_cons_succ, List.setIfInBounds_toArray, List.set_cons_zero, List.set_cons_succ]
  refine wpAnyH_take (i := 24) (v := ?v18x24) rfl (by as_aux_lemma => kernel_rfl) (by as_aux_lemma => kernel_rfl) (by as_aux_lemma => kernel_rfl) (fun _ _ _ h => h) (Or.inl ⟨by rfl, ?hy18x24⟩) (by assumption) ?rest18x24
  case hy18x24 => intro w hSw; go_simp <;> with_reducible rfl
  simp only [Act.put, List.getElem_toArray, List.getElem_cons_zero, List.getElem_cons_succ, List.setIfInBounds_toArray, List.set_cons_zero, List.set_cons_succ]
  refine wpAnyH_take (i := 25) (v := (.agg #[.int .i32 a0, .int .i64 a1])) rfl (by as_aux_lemma => kernel_rfl) (by as_aux_lemma => kernel_rfl) (by as_aux_lemma => kernel_rfl) (fun _ _ _ h => h) (Or.inl ⟨by rfl, ?hy19x25⟩) (by assumption) ?rest19x25
  case hy19x25 => intro w hSw; obtain ⟨s1, s2⟩ := unhide HA _ hSw; go_simp <;> with_reducible rfl
  simp only [Act.put, List.getElem_toArray, List.getElem_cons_zero, List.getElem_cons_succ, List.setIfInBounds_toArray, List.set_cons_zero, List.set_cons_succ]
  refine wpAnyH_take (i := 28) (v := (.agg #[.int .i32 a0, .int .i64 a1])) rfl (by as_aux_lemma => kernel_rfl) (by as_aux_lemma => kernel_rfl) (by as_aux_lemma => kernel_rfl) (fun _ _ _ h => h) (Or.inl ⟨by rfl, ?hy20x28⟩) (by assumption) ?rest20x28
  case hy20x28 => intro w hSw; obtain ⟨s1, s2⟩ := unhide HA _ hSw; go_simp <;> with_reducible rfl
  simp only [Act.put, List.getElem_toArray, List.getElem_cons_zero, List.getElem_cons_succ, List.setIfInBounds_toArray, List.set_cons_zero, List.set_cons_succ]
  refine wpAnyH_take (i := 26) (v := ?v21x26) rfl (by as_aux_lemma => kernel_rfl) (by as_aux_lemma => kernel_rfl) (by as_aux_lemma => kernel_rfl) (fun _ _ _ h => h) (Or.inl ⟨by rfl, ?hy21x26⟩) (by assumption) ?rest21x26
  case hy21x26 => intro w hSw; go_simp <;> with_reducible rfl
  simp only [Act.put, List.getElem_toArray, List.getElem_cons_zero, List.getElem_cons_succ, List.setIfInBounds_toArray, List.set_cons_zero, List.set_cons_succ]
  refine wpAnyH_take (i := 29) (v := ?v22x29) rfl (by as_aux_lemma => kernel_rfl) (by as_aux_lemma => kernel_rfl) (by as_aux_lemma => kernel_rfl) (fun _ _ _ h => h) (Or.inl ⟨by rfl, ?hy22x29⟩) (by assumption) ?rest22x29
  case hy22x29 => intro w hSw; go_simp <;> with_reducible rfl
  simp only [Act.put, List.getElem_toArray, List.getElem_cons_zero, List.getElem_cons_succ, List.setIfInBounds_toArray, List.set_cons_zero, List.set_cons_succ]
  refine wpAnyH_ready (rs := [27]) (by as_aux_lemma => kernel_rfl) (by simp) ?_
  refine AllReadyH.cons rfl (fun K hK => ?_) AllReadyH.nil
  go_simp
  refine (unhide HC7 _ (by assumption)).mono ?_
  rintro e wq ⟨rfl, hb1⟩
  refine hK _ _ hb1 ?_
  clear hK hHeld
  intro hHeld
  refine wpAnyH_ready (rs := [30]) (by as_aux_lemma => kernel_rfl) (by simp) ?_
  refine AllReadyH.cons rfl (fun K hK => ?_) AllReadyH.nil
  go_simp
  refine (unhide HC8 _ (by assumption)).mono ?_
  rintro e wq ⟨rfl, hb1⟩
  refine hK _ _ hb1 ?_
  clear hK hHeld
  intro hHeld
  refine wpAnyH_take (i := 31) (v := (.bool true)) rfl (by as_aux_lemma => kernel_rfl) (by as_aux_lemma => kernel_rfl) (by as_aux_lemma => kernel_rfl) (fun _ _ _ h => h) (Or.inl ⟨by rfl, ?hy23x31⟩) (by assumption) ?rest23x31
  case hy23x31 => intro w hSw; go_simp <;> with_reducible rfl
  simp only [Act.put, List.getElem_toArray, List.getElem_cons_zero, List.getElem_cons_succ, List.setIfInBounds_toArray, List.set_cons_zero, List.set_cons_succ]
  refine wpAnyH_take (i := 32) (v := (.bool true)) rfl (by as_aux_lemma => kernel_rfl) (by as_aux_lemma => kernel_rfl) (by as_aux_lemma => kernel_rfl) (fun _ _ _ h => h) (Or.inl ⟨by rfl, ?hy24x32⟩) (by assumption) ?rest24x32
  case hy24x32 => intro w hSw; go_simp <;> with_reducible rfl
  simp only [Act.put, List.getElem_toArray, List.getElem_cons_zero, List.getElem_cons_succ, List.setIfInBounds_toArray, List.set_cons_zero, List.set_cons_succ]
  refine wpAnyH_take (i := 33) (v := ?v25x33) rfl (by as_aux_lemma => kernel_rfl) (by as_aux_lemma => kernel_rfl) (by as_aux_lemma => kernel_rfl) (fun _ _ _ h => h) (Or.inl ⟨by rfl, ?hy25x33⟩) (by assumption) ?rest25x33
  case hy25x33 => intro w hSw; go_simp <;> with_reducible rfl
  simp only [Act.put, List.getElem_toArray, List.getElem_cons_zero, List.getElem_cons_succ, List.setIfInBounds_toArray, List.set_cons_zero, List.set_cons_succ]
  refine wpAnyH_done (by as_aux_lemma => kernel_rfl) ?_ _
  go_wp2
  go_ret
  exact ⟨rfl, (unhide HW).trans (hb1.mono (unhide HW).size)⟩
end Go.Proofs.Ytbajggmpklajnaa
