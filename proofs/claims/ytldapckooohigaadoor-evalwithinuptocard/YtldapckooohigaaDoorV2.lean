/- read, where an instruction is whole and names 2 registers. -/
import Derived.Test.YtldapckooohigaaDoorJW
namespace Go.Proofs.YtldapckooohigaaDoor
open Go.RowKit
set_option maxRecDepth 100000


set_option maxHeartbeats 1600000 in
theorem read2_ok (w : World) (ga oa n cap p cb k : Nat) (op s m : Int) (g q : Nat) (x1 x2 : Int) (v3 : Value) (hT : Tab w) (hop0 : 0 ≤ op) (hop1 : op < 28) (hr : (rg op : Int) = 2) (hs : sz op = s) (hs0 : 1 ≤ s) (hs1 : s ≤ 4) (hn : n ≤ 4611686018427387904) (hp : (p : Int) + s ≤ n) (hc : w.cell? ⟨ga, oa + p, none⟩ = some (.int .u8 op))
    (hS1 : ∀ w, (Instr.slice 31 (.slice (some ⟨ga, oa, none⟩) n cap) (some (.int .i64 ((p : Int) + 1))) (some (.int .i64 ((p : Int) + s))) none).run Tryd.prog w = .ok (.slice (some ⟨g, q, none⟩) k cb) w)
    (hS2 : ∀ w, (Instr.slice 31 (.slice (some ⟨g, q, none⟩) k cb) none (some (.int .i64 2)) none).run Tryd.prog w = .ok (.slice (some ⟨g, q, none⟩) 2 cb) w)
    (hS3 : ∀ w, (Instr.slice 31 (.slice (some ⟨g, q, none⟩) k cb) (some (.int .i64 2)) none none).run Tryd.prog w = .ok v3 w) (hx1 : 0 ≤ x1 ∧ x1 ≤ 255) (k1 : w.cell? ⟨g, q, none⟩ = some (.int .u8 x1)) (hx2 : 0 ≤ x2 ∧ x2 ≤ 255) (k2 : w.cell? ⟨g, q + 1, none⟩ = some (.int .u8 x2))
    (hN : ∀ w', Below w.heap.size w w' → Calls Tryd.prog 86 #[.int .i64 op, v3] w' fun e w'' => e = .returned (.int .i64 m) ∧ w' = w'') (hd : sd ⟨p, op, x1, x2, m⟩ = true) :
    Calls Tryd.prog 69 #[.slice (some ⟨ga, oa, none⟩) n cap, .int .i64 p] w fun e w' => e = .returned (iV p op x1 x2 m) ∧ Below w.heap.size w w' := by
  have HR : Hid (∀ w, Calls Tryd.prog 85 #[.int .i64 op] w fun e w' => e = .returned (.int .i64 2) ∧ w = w') := fun w => by rw [← hr]; exact reg_any op w hop0 hop1
  have hb0 : Below w.heap.size w (w.alloc (.cells #[.int .i64 0, .int .i64 0, .int .i64 0, .int .i64 0, .int .i64 0] 89)) := below_box _
  have HZ : Hid (∀ w', Below w.heap.size w w' → Calls Tryd.prog 84 #[.int .i64 op] w' fun e w'' => e = .returned (.tuple #[.int .i64 s, .bool true]) ∧ w' = w'') := fun w' hb => by rw [← hs]; exact size_yes op w' (hT.below hb hT.pos) hop0 hop1
  have HD : Hid (∀ w', Calls Tryd.prog 87 #[iV p op x1 x2 m] w' fun e w'' => e = .returned (.bool true) ∧ Grew w' w'') := fun w' => by rw [← hd]; exact sound_any _ _ _ _ _ w'
  have HS1 := hide hS1
  have HS2 := hide hS2
  have HS3 := hide hS3
  have HN := hide hN
  have HT := hide hT
  have hp0 : (p : Int) < n := by omega
  have hq : decide (s ≤ (n : Int) - (p : Int)) = true := by simp; omega
  have e1 : IntKind.i64.wrap ((p : Int) + 1) = (p : Int) + 1 := wrap_i64 _ (by omega) (by omega)
  have e2 : IntKind.i64.wrap ((p : Int) + s) = (p : Int) + s := wrap_i64 _ (by omega) (by omega)
  have hge : decide ((p : Int) ≥ 0) = true := by simp
  have hc' : (w.alloc (.cells #[.int .i64 0, .int .i64 0, .int .i64 0, .int .i64 0, .int .i64 0] 89)).cell? ⟨ga, oa + p, none⟩ = some (.int .u8 op) := (hb0.cell (World.block_lt_of_cell? w _ hc)).trans hc
  clear hS1 hS2 hS3 hN hT hr hs hd hc
  go_enter Tryd.func69, Tryd.ntmps69
  go_wp2_with (first
    | (go_at_call_of 67 (Value.bool true); refine (must_ok _ _).mono ?_; rintro e w2 ⟨rfl, rfl⟩)
    | (go_at_call 84; refine (unhide HZ _ (below_box _)).mono ?_; rintro e w2 ⟨rfl, rfl⟩))
  refine wp_region_held_drew (S := fun _ => True) (by kernel_rfl) trivial (fun hHeld => ?_)
  refine wpAnyH_take (i := 0) (v := ?v1x0) rfl (by kernel_rfl) (by kernel_rfl) (by kernel_rfl) (fun _ _ _ h => h) (Or.inl ⟨by rfl, ?hy1x0⟩) (by assumption) ?rest1x0
  case hy1x0 => intro w hSw; go_simp <;> with_reducible rfl
  simp only [Act.put, List.getElem_toArray, List.getElem_cons_zero, List.setIfInBounds_toArray, List.set_cons_zero, List.set_cons_succ]
  refine wpAnyH_take (i := 1) (v := ?v2x1) rfl (by kernel_rfl) (by kernel_rfl) (by kernel_rfl) (fun _ _ _ h => h) (Or.inl ⟨by rfl, ?hy2x1⟩) (by assumption) ?rest2x1
  case hy2x1 => intro w hSw; go_simp <;> with_reducible rfl
  simp only [Act.put, List.getElem_toArray, List.getElem_cons_zero, List.getElem_cons_succ, List.setIfInBounds_toArray, List.set_cons_zero, List.set_cons_succ]
  refine wpAnyH_take (i := 2) (v := (.int .i64 ((p : Int) + 1))) rfl (by kernel_rfl) (by kernel_rfl) (by kernel_rfl) (fun _ _ _ h => h) (Or.inl ⟨by rfl, ?hy3x2⟩) (by assumption) ?rest3x2
  case hy3x2 => intro w hSw; go_simp <;> with_reducible rfl
  simp only [Act.put, List.getElem_toArray, List.getElem_cons_zero, List.getElem_cons_succ, List.setIfInBounds_toArray, List.set_cons_zero, List.set_cons_succ]
  refine wpAnyH_take (i := 3) (v := ?v4x3) rfl (by kernel_rfl) (by kernel_rfl) (by kernel_rfl) (fun _ _ _ h => h) (Or.inl ⟨by rfl, ?hy4x3⟩) (by assumption) ?rest4x3
  case hy4x3 => intro w hSw; go_simp <;> with_reducible rfl
  simp only [Act.put, List.getElem_toArray, List.getElem_cons_zero, List.getElem_cons_succ, List.setIfInBounds_toArray, List.set_cons_zero, List.set_cons_succ]
  refine wpAnyH_take (i := 4) (v := ?v5x4) rfl (by kernel_rfl) (by kernel_rfl) (by kernel_rfl) (fun _ _ _ h => h) (Or.inl ⟨by rfl, ?hy5x4⟩) (by assumption) ?rest5x4
  case hy5x4 => intro w hSw; go_simp <;> with_reducible rfl
  simp only [Act.put, List.getElem_toArray, List.getElem_cons_zero, List.getElem_cons_succ, List.setIfInBounds_toArray, List.set_cons_zero, List.set_cons_succ]
  refine wpAnyH_take (i := 5) (v := (.int .i64 ((p : Int) + s))) rfl (by kernel_rfl) (by kernel_rfl) (by kernel_rfl) (fun _ _ _ h => h) (Or.inl ⟨by rfl, ?hy6x5⟩) (by assumption) ?rest6x5
  case hy6x5 => intro w hSw; go_simp <;> with_reducible rfl
  simp only [Act.put, List.getElem_toArray, List.getElem_cons_zero, List.getElem_cons_succ, List.setIfInBounds_toArray, List.set_cons_zero, List.set_cons_succ]
  refine wpAnyH_take (i := 6) (v := (.slice (some ⟨g, q, none⟩) k cb)) rfl (by kernel_rfl) (by kernel_rfl) (by kernel_rfl) (fun _ _ _ h => h) (Or.inl ⟨by rfl, ?hy7x6⟩) (by assumption) ?rest7x6
  case hy7x6 => intro w hSw; exact run_sliceE Tryd.underlying31 rfl rfl (unhide HS1 w)
  simp only [Act.put, List.getElem_toArray, List.getElem_cons_zero, List.getElem_cons_succ, List.setIfInBounds_toArray, List.set_cons_zero, List.set_cons_succ]
  refine wpAnyH_take (i := 7) (v := ?v8x7) rfl (by kernel_rfl) (by kernel_rfl) (by kernel_rfl) (fun _ _ _ h => h) (Or.inl ⟨by rfl, ?hy8x7⟩) (by assumption) ?rest8x7
  case hy8x7 => intro w hSw; go_simp <;> with_reducible rfl
  simp only [Act.put, List.getElem_toArray, List.getElem_cons_zero, List.getElem_cons_succ, List.setIfInBounds_toArray, List.set_cons_zero, List.set_cons_succ]
  refine wpAnyH_ready (rs := [8]) (by kernel_rfl) (by simp) ?_
  refine AllReadyH.cons rfl (fun K hK => ?_) AllReadyH.nil
  go_simp
  refine (unhide HR _).mono ?_
  rintro e wq ⟨rfl, rfl⟩
  refine hK _ _ trivial ?_
  clear hK hHeld
  intro hHeld
  refine wpAnyH_take (i := 9) (v := ?v9x9) rfl (by kernel_rfl) (by kernel_rfl) (by kernel_rfl) (fun _ _ _ h => h) (Or.inl ⟨by rfl, ?hy9x9⟩) (by assumption) ?rest9x9
  case hy9x9 => intro w hSw; go_simp <;> with_reducible rfl
  simp only [Act.put, List.getElem_toArray, List.getElem_cons_zero, List.getElem_cons_succ, List.setIfInBounds_toArray, List.set_cons_zero, List.set_cons_succ]
  refine wpAnyH_take (i := 10) (v := ?v10x10) rfl (by kernel_rfl) (by kernel_rfl) (by kernel_rfl) (fun _ _ _ h => h) (Or.inl ⟨by rfl, ?hy10x10⟩) (by assumption) ?rest10x10
  case hy10x10 => intro w hSw; go_simp <;> with_reducible rfl
  simp only [Act.put, List.getElem_toArray, List.getElem_cons_zero, List.getElem_cons_succ, List.setIfInBounds_toArray, List.set_cons_zero, List.set_cons_succ]
  refine wpAnyH_done (by kernel_rfl) ?_ _
  have hB := (hide hb0.drew)
  have hRz : Hid ((w.alloc (.cells #[.int .i64 0, .int .i64 0, .int .i64 0, .int .i64 0, .int .i64 0] 89)).drew.heap[w.heap.size]? = some (.cells #[.int .i64 0, .int .i64 0, .int .i64 0, .int .i64 0, .int .i64 0] 89)) := heap_alloc_new w _
  clear hc' hb0
  generalize (w.alloc (.cells #[.int .i64 0, .int .i64 0, .int .i64 0, .int .i64 0, .int .i64 0] 89)).drew = y at *
  have hys : w.heap.size < y.heap.size := (Array.getElem?_eq_some_iff.1 (unhide hRz)).1
  have K1 : ∀ o, (y.alloc o).cell? ⟨g, q, none⟩ = some (.int .u8 x1) := fun o => by
    have h1 := World.block_lt_of_cell? w _ k1
    exact ((below_box o).cell (Nat.lt_trans h1 hys)).trans (((unhide hB).cell h1).trans k1)
  have K2 : ∀ o, (y.alloc o).cell? ⟨g, q + 1, none⟩ = some (.int .u8 x2) := fun o => by
    have h1 := World.block_lt_of_cell? w _ k2
    exact ((below_box o).cell (Nat.lt_trans h1 hys)).trans (((unhide hB).cell h1).trans k2)
  go_wp2_with ((with_reducible show wpList _ _ _ (_ :: _) _ _); refine wpList_slice_wanted (by rfl) Tryd.underlying31 rfl rfl (unhide HS2 _) ?_)
  refine wp_loop_rounds 3 ?_
  rw [rounds_succ]
  go_wp2
  rw [rounds_succ]
  go_wp2
  rw [rounds_succ]
  go_wp2
  have HY : Hid (∀ x, Below (y.heap.size + 1) (y.alloc (.cells #[.int .i64 x1, .int .i64 x2] 137)) x → x.cell? ⟨y.heap.size, 0, none⟩ = some (.int .i64 x1) ∧ x.cell? ⟨y.heap.size, 1, none⟩ = some (.int .i64 x2)) := fun x hx => by
    have h1 : x.heap[y.heap.size]? = some (.cells #[.int .i64 x1, .int .i64 x2] 137) := (hx.block _ (by omega)).trans (heap_alloc_new y _)
    exact ⟨cell_at h1, cell_at h1⟩
  have HNy := hide fun x (hx : Below y.heap.size y x) => unhide HN x ((unhide hB).trans (hx.mono (by omega)))
  have HB2 : Hid (∀ c x, Below (y.heap.size + 2) ((y.alloc (.cells #[.int .i64 x1, .int .i64 x2] 137)).alloc (.cells c 89)) x → Below w.heap.size w x ∧ x.heap[y.heap.size + 1]? = some (.cells c 89) ∧ x.heap[w.heap.size]? = some (.cells #[.int .i64 0, .int .i64 0, .int .i64 0, .int .i64 0, .int .i64 0] 89)) := fun c x hx => by
    have b1 : Below y.heap.size y x := ((below_box _).alloc (by simp) _).trans (hx.mono (by omega))
    refine ⟨(unhide hB).trans (b1.mono (by omega)), ?_, (b1.block _ hys).trans (unhide hRz)⟩
    have := heap_alloc_new (y.alloc (.cells #[.int .i64 x1, .int .i64 x2] 137)) (.cells c 89)
    simp only [World.size_alloc] at this
    exact (hx.block _ (by omega)).trans this
  refine wp_region_held_drew (S := fun x => x.cell? ⟨y.heap.size, 0, none⟩ = some (.int .i64 x1) ∧ x.cell? ⟨y.heap.size, 1, none⟩ = some (.int .i64 x2)) (by kernel_rfl) (unhide HY _ (Below.refl _ _).drew) (fun hHeld => ?_)
  refine wpAnyH_take (i := 0) (v := ?v11x0) rfl (by kernel_rfl) (by kernel_rfl) (by kernel_rfl) (fun _ _ _ h => h) (Or.inl ⟨by rfl, ?hy11x0⟩) (by assumption) ?rest11x0
  case hy11x0 => intro w hSw; obtain ⟨s1, s2⟩ := hSw; go_simp <;> with_reducible rfl
  simp only [Act.put, List.getElem_toArray, List.getElem_cons_zero, List.setIfInBounds_toArray, List.set_cons_zero, List.set_cons_succ]
  refine wpAnyH_take (i := 1) (v := ?v12x1) rfl (by kernel_rfl) (by kernel_rfl) (by kernel_rfl) (fun _ _ _ h => h) (Or.inl ⟨by rfl, ?hy12x1⟩) (by assumption) ?rest12x1
  case hy12x1 => intro w hSw; obtain ⟨s1, s2⟩ := hSw; go_simp <;> with_reducible rfl
  simp only [Act.put, List.getElem_toArray, List.getElem_cons_zero, List.getElem_cons_succ, List.setIfInBounds_toArray, List.set_cons_zero, List.set_cons_succ]
  refine wpAnyH_take (i := 2) (v := ?v13x2) rfl (by kernel_rfl) (by kernel_rfl) (by kernel_rfl) (fun _ _ _ h => h) (Or.inl ⟨by rfl, ?hy13x2⟩) (by assumption) ?rest13x2
  case hy13x2 => intro w hSw; obtain ⟨s1, s2⟩ := hSw; go_simp <;> with_reducible rfl
  simp only [Act.put, List.getElem_toArray, List.getElem_cons_zero, List.getElem_cons_succ, List.setIfInBounds_toArray, List.set_cons_zero, List.set_cons_succ]
  refine wpAnyH_take (i := 3) (v := (.int .i64 x1)) rfl (by kernel_rfl) (by kernel_rfl) (by kernel_rfl) (fun _ _ _ h => h) (Or.inl ⟨by rfl, ?hy14x3⟩) (by assumption) ?rest14x3
  case hy14x3 => intro w hSw; obtain ⟨s1, s2⟩ := hSw; go_simp <;> with_reducible rfl
  simp only [Act.put, List.getElem_toArray, List.getElem_cons_zero, List.getElem_cons_succ, List.setIfInBounds_toArray, List.set_cons_zero, List.set_cons_succ]
  refine wpAnyH_take (i := 4) (v := ?v15x4) rfl (by kernel_rfl) (by kernel_rfl) (by kernel_rfl) (fun _ _ _ h => h) (Or.inl ⟨by rfl, ?hy15x4⟩) (by assumption) ?rest15x4
  case hy15x4 => intro w hSw; obtain ⟨s1, s2⟩ := hSw; go_simp <;> with_reducible rfl
  simp only [Act.put, List.getElem_toArray, List.getElem_cons_zero, List.getElem_cons_succ, List.setIfInBounds_toArray, List.set_cons_zero, List.set_cons_succ]
  refine wpAnyH_take (i := 5) (v := (.int .i64 x2)) rfl (by kernel_rfl) (by kernel_rfl) (by kernel_rfl) (fun _ _ _ h => h) (Or.inl ⟨by rfl, ?hy16x5⟩) (by assumption) ?rest16x5
  case hy16x5 => intro w hSw; obtain ⟨s1, s2⟩ := hSw; go_simp <;> with_reducible rfl
  simp only [Act.put, List.getElem_toArray, List.getElem_cons_zero, List.getElem_cons_succ, List.setIfInBounds_toArray, List.set_cons_zero, List.set_cons_succ]
  refine wpAnyH_take (i := 6) (v := ?v17x6) rfl (by kernel_rfl) (by kernel_rfl) (by kernel_rfl) (fun _ _ _ h => h) (Or.inl ⟨by rfl, ?hy17x6⟩) (by assumption) ?rest17x6
  case hy17x6 => intro w hSw; obtain ⟨s1, s2⟩ := hSw; go_simp <;> with_reducible rfl
  simp only [Act.put, List.getElem_toArray, List.getElem_cons_zero, List.getElem_cons_succ, List.setIfInBounds_toArray, List.set_cons_zero, List.set_cons_succ]
  refine wpAnyH_take (i := 7) (v := ?v18x7) rfl (by kernel_rfl) (by kernel_rfl) (by kernel_rfl) (fun _ _ _ h => h) (Or.inl ⟨by rfl, ?hy18x7⟩) (by assumption) ?rest18x7
  case hy18x7 => intro w hSw; obtain ⟨s1, s2⟩ := hSw; go_simp <;> with_reducible rfl
  simp only [Act.put, List.getElem_toArray, List.getElem_cons_zero, List.getElem_cons_succ, List.setIfInBounds_toArray, List.set_cons_zero, List.set_cons_succ]
  refine wpAnyH_take (i := 8) (v := ?v19x8) rfl (by kernel_rfl) (by kernel_rfl) (by kernel_rfl) (fun _ _ _ h => h) (Or.inl ⟨by rfl, ?hy19x8⟩) (by assumption) ?rest19x8
  case hy19x8 => intro w hSw; obtain ⟨s1, s2⟩ := hSw; go_simp <;> with_reducible rfl
  simp only [Act.put, List.getElem_toArray, List.getElem_cons_zero, List.getElem_cons_succ, List.setIfInBounds_toArray, List.set_cons_zero, List.set_cons_succ]
  refine wpAnyH_take (i := 9) (v := (v3)) rfl (by kernel_rfl) (by kernel_rfl) (by kernel_rfl) (fun _ _ _ h => h) (Or.inl ⟨by rfl, ?hy20x9⟩) (by assumption) ?rest20x9
  case hy20x9 => intro w hSw; exact run_sliceE Tryd.underlying31 rfl rfl (unhide HS3 w)
  simp only [Act.put, List.getElem_toArray, List.getElem_cons_zero, List.getElem_cons_succ, List.setIfInBounds_toArray, List.set_cons_zero, List.set_cons_succ]
  refine wpAnyH_ready (rs := [10, 12]) (by kernel_rfl) (by simp) ?_
  refine AllReadyH.cons rfl (fun K hK => ?_) (AllReadyH.cons rfl (fun K hK => ?_) AllReadyH.nil)
  · skip
    go_simp
    refine (unhide HNy _ (below_box _).drew).mono ?_
    rintro e wq ⟨rfl, rfl⟩
    refine hK _ _ (by assumption) ?_
    clear hK hHeld
    intro hHeld
    refine wpAnyH_take (i := 11) (v := (iV p op x1 x2 m)) rfl (by kernel_rfl) (by kernel_rfl) (by kernel_rfl) (fun _ _ _ h => h) (Or.inl ⟨by rfl, ?hy21x11⟩) (by assumption) ?rest21x11
    case hy21x11 => intro w hSw; obtain ⟨s1, s2⟩ := hSw; go_simp <;> with_reducible rfl
    simp only [Act.put, List.getElem_toArray, List.getElem_cons_zero, List.getElem_cons_succ, List.setIfInBounds_toArray, List.set_cons_zero, List.set_cons_succ]
    refine wpAnyH_ready (rs := [12]) (by kernel_rfl) (by simp) ?_
    refine AllReadyH.cons rfl (fun K hK => ?_) AllReadyH.nil
    go_simp
    refine hK _ _ (unhide HY _ (((Below.refl _ _).alloc (by simp) _).drew)) ?_
    clear hK hHeld
    intro hHeld
    refine wpAnyH_ready (rs := [13]) (by kernel_rfl) (by simp) ?_
    refine AllReadyH.cons rfl (fun K hK => ?_) AllReadyH.nil
    go_simp
    refine hK _ _ (unhide HY _ (((Below.refl _ _).alloc (by simp) _).drew)) ?_
    clear hK hHeld
    intro hHeld
    refine wpAnyH_done (by kernel_rfl) ?_ _
    obtain ⟨Z, hZ⟩ : ∃ Z, ((y.alloc (.cells #[.int .i64 x1, .int .i64 x2] 137)).alloc (.cells #[.int .i64 p, .int .i64 op, .int .i64 x1, .int .i64 x2, .int .i64 m] 89)).drew = Z := ⟨_, rfl⟩
    rw [hZ]
    obtain ⟨q1, q2, q3⟩ := unhide HB2 _ Z (hZ ▸ ((Below.refl _ _).drew))
    obtain ⟨c0, c1, c2, c3, c4⟩ := cells5 q2
    have HQ1 := hide q1
    have HQ2 := hide q2
    have HQ3 := hide q3
    clear hZ q1 q2 q3 HY HB2 HNy HN hRz hB HS1 HS2 HS3 HZ HR e1 e2 hp hp0 hn hs0 hs1 K1 K2
    go_wp2_with fail
    refine (unhide HD _).mono ?_
    rintro e Z2 ⟨rfl, hg⟩
    have g2 := (hg.below.block _ (Array.getElem?_eq_some_iff.1 (unhide HQ2)).1).trans (unhide HQ2)
    have g3 := (hg.below.block _ (Array.getElem?_eq_some_iff.1 (unhide HQ3)).1).trans (unhide HQ3)
    have HG : Hid (Below w.heap.size w Z2) := (unhide HQ1).trans (hg.below.mono (unhide HQ1).size)
    clear c0 c1 c2 c3 c4 HQ1 HQ2 HQ3 hg HD
    obtain ⟨c0, c1, c2, c3, c4⟩ := cells5 g2
    have fz : ∀ o, Z2.frozen? ⟨w.heap.size, o, none⟩ = false := fun o => frozen_of_heap g3
    obtain ⟨z0, z1, z2, z3, z4⟩ := cells5 g3
    have HG3 := hide g3
    clear g2 g3
    go_wp2_with (go_at_call 67; refine (must_ok _ _).mono ?_; rintro e w2 ⟨rfl, rfl⟩)
    refine bodyPost_ret (results_cell_row rfl _ _ w.heap.size 89 _ (0, 0) _ rfl (set5 (unhide HG3) _ _ _ _ _) Tryd.underlying89 rfl (by kernel_rfl)) rfl ?_
    exact ⟨rfl, set5b (unhide HG) (Nat.le_refl _) _ _ _ _ _⟩
  · skip
    go_simp
    refine hK _ _ (unhide HY _ (((Below.refl _ _).alloc (by simp) _).drew)) ?_
    clear hK hHeld
    intro hHeld
    refine wpAnyH_ready (rs := [10]) (by kernel_rfl) (by simp) ?_
    refine AllReadyH.cons rfl (fun K hK => ?_) AllReadyH.nil
    go_simp
    refine (unhide HNy _ (((below_box _).alloc (by simp) _).drew)).mono ?_
    rintro e wq ⟨rfl, rfl⟩
    refine hK _ _ (by assumption) ?_
    clear hK hHeld
    intro hHeld
    refine wpAnyH_take (i := 11) (v := (iV p op x1 x2 m)) rfl (by kernel_rfl) (by kernel_rfl) (by kernel_rfl) (fun _ _ _ h => h) (Or.inl ⟨by rfl, ?hy22x11⟩) (by assumption) ?rest22x11
    case hy22x11 => intro w hSw; obtain ⟨s1, s2⟩ := hSw; go_simp <;> with_reducible rfl
    simp only [Act.put, List.getElem_toArray, List.getElem_cons_zero, List.getElem_cons_succ, List.setIfInBounds_toArray, List.set_cons_zero, List.set_cons_succ]
    refine wpAnyH_ready (rs := [13]) (by kernel_rfl) (by simp) ?_
    refine AllReadyH.cons rfl (fun K hK => ?_) AllReadyH.nil
    go_simp
    refine hK _ _ (unhide HY _ (((Below.refl _ _).alloc (by simp) _).drew)) ?_
    clear hK hHeld
    intro hHeld
    refine wpAnyH_done (by kernel_rfl) ?_ _
    obtain ⟨Z, hZ⟩ : ∃ Z, ((y.alloc (.cells #[.int .i64 x1, .int .i64 x2] 137)).alloc (.cells #[.int .i64 p, .int .i64 op, .int .i64 x1, .int .i64 x2, .int .i64 m] 89)).drew = Z := ⟨_, rfl⟩
    rw [hZ]
    obtain ⟨q1, q2, q3⟩ := unhide HB2 _ Z (hZ ▸ ((Below.refl _ _).drew))
    obtain ⟨c0, c1, c2, c3, c4⟩ := cells5 q2
    have HQ1 := hide q1
    have HQ2 := hide q2
    have HQ3 := hide q3
    clear hZ q1 q2 q3 HY HB2 HNy HN hRz hB HS1 HS2 HS3 HZ HR e1 e2 hp hp0 hn hs0 hs1 K1 K2
    go_wp2_with fail
    refine (unhide HD _).mono ?_
    rintro e Z2 ⟨rfl, hg⟩
    have g2 := (hg.below.block _ (Array.getElem?_eq_some_iff.1 (unhide HQ2)).1).trans (unhide HQ2)
    have g3 := (hg.below.block _ (Array.getElem?_eq_some_iff.1 (unhide HQ3)).1).trans (unhide HQ3)
    have HG : Hid (Below w.heap.size w Z2) := (unhide HQ1).trans (hg.below.mono (unhide HQ1).size)
    clear c0 c1 c2 c3 c4 HQ1 HQ2 HQ3 hg HD
    obtain ⟨c0, c1, c2, c3, c4⟩ := cells5 g2
    have fz : ∀ o, Z2.frozen? ⟨w.heap.size, o, none⟩ = false := fun o => frozen_of_heap g3
    obtain ⟨z0, z1, z2, z3, z4⟩ := cells5 g3
    have HG3 := hide g3
    clear g2 g3
    go_wp2_with (go_at_call 67; refine (must_ok _ _).mono ?_; rintro e w2 ⟨rfl, rfl⟩)
    refine bodyPost_ret (results_cell_row rfl _ _ w.heap.size 89 _ (0, 0) _ rfl (set5 (unhide HG3) _ _ _ _ _) Tryd.underlying89 rfl (by kernel_rfl)) rfl ?_
    exact ⟨rfl, set5b (unhide HG) (Nat.le_refl _) _ _ _ _ _⟩

set_option maxHeartbeats 1600000 in
theorem read2_no (w : World) (ga oa n cap p cb k : Nat) (op s m : Int) (g q : Nat) (x1 x2 : Int) (v3 : Value) (hT : Tab w) (hop0 : 0 ≤ op) (hop1 : op < 28) (hr : (rg op : Int) = 2) (hs : sz op = s) (hs0 : 1 ≤ s) (hs1 : s ≤ 4) (hn : n ≤ 4611686018427387904) (hp : (p : Int) + s ≤ n) (hc : w.cell? ⟨ga, oa + p, none⟩ = some (.int .u8 op))
    (hS1 : ∀ w, (Instr.slice 31 (.slice (some ⟨ga, oa, none⟩) n cap) (some (.int .i64 ((p : Int) + 1))) (some (.int .i64 ((p : Int) + s))) none).run Tryd.prog w = .ok (.slice (some ⟨g, q, none⟩) k cb) w)
    (hS2 : ∀ w, (Instr.slice 31 (.slice (some ⟨g, q, none⟩) k cb) none (some (.int .i64 2)) none).run Tryd.prog w = .ok (.slice (some ⟨g, q, none⟩) 2 cb) w)
    (hS3 : ∀ w, (Instr.slice 31 (.slice (some ⟨g, q, none⟩) k cb) (some (.int .i64 2)) none none).run Tryd.prog w = .ok v3 w) (hx1 : 0 ≤ x1 ∧ x1 ≤ 255) (k1 : w.cell? ⟨g, q, none⟩ = some (.int .u8 x1)) (hx2 : 0 ≤ x2 ∧ x2 ≤ 255) (k2 : w.cell? ⟨g, q + 1, none⟩ = some (.int .u8 x2))
    (hN : ∀ w', Below w.heap.size w w' → Calls Tryd.prog 86 #[.int .i64 op, v3] w' fun e w'' => e = .returned (.int .i64 m) ∧ w' = w'') (hd : sd ⟨p, op, x1, x2, m⟩ = false) :
    Calls Tryd.prog 69 #[.slice (some ⟨ga, oa, none⟩) n cap, .int .i64 p] w fun e w' => e = GiveUp 132 ∧ Below w.heap.size w w' := by
  have HR : Hid (∀ w, Calls Tryd.prog 85 #[.int .i64 op] w fun e w' => e = .returned (.int .i64 2) ∧ w = w') := fun w => by rw [← hr]; exact reg_any op w hop0 hop1
  have hb0 : Below w.heap.size w (w.alloc (.cells #[.int .i64 0, .int .i64 0, .int .i64 0, .int .i64 0, .int .i64 0] 89)) := below_box _
  have HZ : Hid (∀ w', Below w.heap.size w w' → Calls Tryd.prog 84 #[.int .i64 op] w' fun e w'' => e = .returned (.tuple #[.int .i64 s, .bool true]) ∧ w' = w'') := fun w' hb => by rw [← hs]; exact size_yes op w' (hT.below hb hT.pos) hop0 hop1
  have HD : Hid (∀ w', Calls Tryd.prog 87 #[iV p op x1 x2 m] w' fun e w'' => e = .returned (.bool false) ∧ Grew w' w'') := fun w' => by rw [← hd]; exact sound_any _ _ _ _ _ w'
  have HS1 := hide hS1
  have HS2 := hide hS2
  have HS3 := hide hS3
  have HN := hide hN
  have HT := hide hT
  have hp0 : (p : Int) < n := by omega
  have hq : decide (s ≤ (n : Int) - (p : Int)) = true := by simp; omega
  have e1 : IntKind.i64.wrap ((p : Int) + 1) = (p : Int) + 1 := wrap_i64 _ (by omega) (by omega)
  have e2 : IntKind.i64.wrap ((p : Int) + s) = (p : Int) + s := wrap_i64 _ (by omega) (by omega)
  have hge : decide ((p : Int) ≥ 0) = true := by simp
  have hc' : (w.alloc (.cells #[.int .i64 0, .int .i64 0, .int .i64 0, .int .i64 0, .int .i64 0] 89)).cell? ⟨ga, oa + p, none⟩ = some (.int .u8 op) := (hb0.cell (World.block_lt_of_cell? w _ hc)).trans hc
  clear hS1 hS2 hS3 hN hT hr hs hd hc
  go_enter Tryd.func69, Tryd.ntmps69
  go_wp2_with (first
    | (go_at_call_of 67 (Value.bool true); refine (must_ok _ _).mono ?_; rintro e w2 ⟨rfl, rfl⟩)
    | (go_at_call 84; refine (unhide HZ _ (below_box _)).mono ?_; rintro e w2 ⟨rfl, rfl⟩))
  refine wp_region_held_drew (S := fun _ => True) (by kernel_rfl) trivial (fun hHeld => ?_)
  refine wpAnyH_take (i := 0) (v := ?v23x0) rfl (by kernel_rfl) (by kernel_rfl) (by kernel_rfl) (fun _ _ _ h => h) (Or.inl ⟨by rfl, ?hy23x0⟩) (by assumption) ?rest23x0
  case hy23x0 => intro w hSw; go_simp <;> with_reducible rfl
  simp only [Act.put, List.getElem_toArray, List.getElem_cons_zero, List.setIfInBounds_toArray, List.set_cons_zero, List.set_cons_succ]
  refine wpAnyH_take (i := 1) (v := ?v24x1) rfl (by kernel_rfl) (by kernel_rfl) (by kernel_rfl) (fun _ _ _ h => h) (Or.inl ⟨by rfl, ?hy24x1⟩) (by assumption) ?rest24x1
  case hy24x1 => intro w hSw; go_simp <;> with_reducible rfl
  simp only [Act.put, List.getElem_toArray, List.getElem_cons_zero, List.getElem_cons_succ, List.setIfInBounds_toArray, List.set_cons_zero, List.set_cons_succ]
  refine wpAnyH_take (i := 2) (v := (.int .i64 ((p : Int) + 1))) rfl (by kernel_rfl) (by kernel_rfl) (by kernel_rfl) (fun _ _ _ h => h) (Or.inl ⟨by rfl, ?hy25x2⟩) (by assumption) ?rest25x2
  case hy25x2 => intro w hSw; go_simp <;> with_reducible rfl
  simp only [Act.put, List.getElem_toArray, List.getElem_cons_zero, List.getElem_cons_succ, List.setIfInBounds_toArray, List.set_cons_zero, List.set_cons_succ]
  refine wpAnyH_take (i := 3) (v := ?v26x3) rfl (by kernel_rfl) (by kernel_rfl) (by kernel_rfl) (fun _ _ _ h => h) (Or.inl ⟨by rfl, ?hy26x3⟩) (by assumption) ?rest26x3
  case hy26x3 => intro w hSw; go_simp <;> with_reducible rfl
  simp only [Act.put, List.getElem_toArray, List.getElem_cons_zero, List.getElem_cons_succ, List.setIfInBounds_toArray, List.set_cons_zero, List.set_cons_succ]
  refine wpAnyH_take (i := 4) (v := ?v27x4) rfl (by kernel_rfl) (by kernel_rfl) (by kernel_rfl) (fun _ _ _ h => h) (Or.inl ⟨by rfl, ?hy27x4⟩) (by assumption) ?rest27x4
  case hy27x4 => intro w hSw; go_simp <;> with_reducible rfl
  simp only [Act.put, List.getElem_toArray, List.getElem_cons_zero, List.getElem_cons_succ, List.setIfInBounds_toArray, List.set_cons_zero, List.set_cons_succ]
  refine wpAnyH_take (i := 5) (v := (.int .i64 ((p : Int) + s))) rfl (by kernel_rfl) (by kernel_rfl) (by kernel_rfl) (fun _ _ _ h => h) (Or.inl ⟨by rfl, ?hy28x5⟩) (by assumption) ?rest28x5
  case hy28x5 => intro w hSw; go_simp <;> with_reducible rfl
  simp only [Act.put, List.getElem_toArray, List.getElem_cons_zero, List.getElem_cons_succ, List.setIfInBounds_toArray, List.set_cons_zero, List.set_cons_succ]
  refine wpAnyH_take (i := 6) (v := (.slice (some ⟨g, q, none⟩) k cb)) rfl (by kernel_rfl) (by kernel_rfl) (by kernel_rfl) (fun _ _ _ h => h) (Or.inl ⟨by rfl, ?hy29x6⟩) (by assumption) ?rest29x6
  case hy29x6 => intro w hSw; exact run_sliceE Tryd.underlying31 rfl rfl (unhide HS1 w)
  simp only [Act.put, List.getElem_toArray, List.getElem_cons_zero, List.getElem_cons_succ, List.setIfInBounds_toArray, List.set_cons_zero, List.set_cons_succ]
  refine wpAnyH_take (i := 7) (v := ?v30x7) rfl (by kernel_rfl) (by kernel_rfl) (by kernel_rfl) (fun _ _ _ h => h) (Or.inl ⟨by rfl, ?hy30x7⟩) (by assumption) ?rest30x7
  case hy30x7 => intro w hSw; go_simp <;> with_reducible rfl
  simp only [Act.put, List.getElem_toArray, List.getElem_cons_zero, List.getElem_cons_succ, List.setIfInBounds_toArray, List.set_cons_zero, List.set_cons_succ]
  refine wpAnyH_ready (rs := [8]) (by kernel_rfl) (by simp) ?_
  refine AllReadyH.cons rfl (fun K hK => ?_) AllReadyH.nil
  go_simp
  refine (unhide HR _).mono ?_
  rintro e wq ⟨rfl, rfl⟩
  refine hK _ _ trivial ?_
  clear hK hHeld
  intro hHeld
  refine wpAnyH_take (i := 9) (v := ?v31x9) rfl (by kernel_rfl) (by kernel_rfl) (by kernel_rfl) (fun _ _ _ h => h) (Or.inl ⟨by rfl, ?hy31x9⟩) (by assumption) ?rest31x9
  case hy31x9 => intro w hSw; go_simp <;> with_reducible rfl
  simp only [Act.put, List.getElem_toArray, List.getElem_cons_zero, List.getElem_cons_succ, List.setIfInBounds_toArray, List.set_cons_zero, List.set_cons_succ]
  refine wpAnyH_take (i := 10) (v := ?v32x10) rfl (by kernel_rfl) (by kernel_rfl) (by kernel_rfl) (fun _ _ _ h => h) (Or.inl ⟨by rfl, ?hy32x10⟩) (by assumption) ?rest32x10
  case hy32x10 => intro w hSw; go_simp <;> with_reducible rfl
  simp only [Act.put, List.getElem_toArray, List.getElem_cons_zero, List.getElem_cons_succ, List.setIfInBounds_toArray, List.set_cons_zero, List.set_cons_succ]
  refine wpAnyH_done (by kernel_rfl) ?_ _
  have hB := (hide hb0.drew)
  have hRz : Hid ((w.alloc (.cells #[.int .i64 0, .int .i64 0, .int .i64 0, .int .i64 0, .int .i64 0] 89)).drew.heap[w.heap.size]? = some (.cells #[.int .i64 0, .int .i64 0, .int .i64 0, .int .i64 0, .int .i64 0] 89)) := heap_alloc_new w _
  clear hc' hb0
  generalize (w.alloc (.cells #[.int .i64 0, .int .i64 0, .int .i64 0, .int .i64 0, .int .i64 0] 89)).drew = y at *
  have hys : w.heap.size < y.heap.size := (Array.getElem?_eq_some_iff.1 (unhide hRz)).1
  have K1 : ∀ o, (y.alloc o).cell? ⟨g, q, none⟩ = some (.int .u8 x1) := fun o => by
    have h1 := World.block_lt_of_cell? w _ k1
    exact ((below_box o).cell (Nat.lt_trans h1 hys)).trans (((unhide hB).cell h1).trans k1)
  have K2 : ∀ o, (y.alloc o).cell? ⟨g, q + 1, none⟩ = some (.int .u8 x2) := fun o => by
    have h1 := World.block_lt_of_cell? w _ k2
    exact ((below_box o).cell (Nat.lt_trans h1 hys)).trans (((unhide hB).cell h1).trans k2)
  go_wp2_with ((with_reducible show wpList _ _ _ (_ :: _) _ _); refine wpList_slice_wanted (by rfl) Tryd.underlying31 rfl rfl (unhide HS2 _) ?_)
  refine wp_loop_rounds 3 ?_
  rw [rounds_succ]
  go_wp2
  rw [rounds_succ]
  go_wp2
  rw [rounds_succ]
  go_wp2
  have HY : Hid (∀ x, Below (y.heap.size + 1) (y.alloc (.cells #[.int .i64 x1, .int .i64 x2] 137)) x → x.cell? ⟨y.heap.size, 0, none⟩ = some (.int .i64 x1) ∧ x.cell? ⟨y.heap.size, 1, none⟩ = some (.int .i64 x2)) := fun x hx => by
    have h1 : x.heap[y.heap.size]? = some (.cells #[.int .i64 x1, .int .i64 x2] 137) := (hx.block _ (by omega)).trans (heap_alloc_new y _)
    exact ⟨cell_at h1, cell_at h1⟩
  have HNy := hide fun x (hx : Below y.heap.size y x) => unhide HN x ((unhide hB).trans (hx.mono (by omega)))
  have HB2 : Hid (∀ c x, Below (y.heap.size + 2) ((y.alloc (.cells #[.int .i64 x1, .int .i64 x2] 137)).alloc (.cells c 89)) x → Below w.heap.size w x ∧ x.heap[y.heap.size + 1]? = some (.cells c 89) ∧ x.heap[w.heap.size]? = some (.cells #[.int .i64 0, .int .i64 0, .int .i64 0, .int .i64 0, .int .i64 0] 89)) := fun c x hx => by
    have b1 : Below y.heap.size y x := ((below_box _).alloc (by simp) _).trans (hx.mono (by omega))
    refine ⟨(unhide hB).trans (b1.mono (by omega)), ?_, (b1.block _ hys).trans (unhide hRz)⟩
    have := heap_alloc_new (y.alloc (.cells #[.int .i64 x1, .int .i64 x2] 137)) (.cells c 89)
    simp only [World.size_alloc] at this
    exact (hx.block _ (by omega)).trans this
  refine wp_region_held_drew (S := fun x => x.cell? ⟨y.heap.size, 0, none⟩ = some (.int .i64 x1) ∧ x.cell? ⟨y.heap.size, 1, none⟩ = some (.int .i64 x2)) (by kernel_rfl) (unhide HY _ (Below.refl _ _).drew) (fun hHeld => ?_)
  refine wpAnyH_take (i := 0) (v := ?v33x0) rfl (by kernel_rfl) (by kernel_rfl) (by kernel_rfl) (fun _ _ _ h => h) (Or.inl ⟨by rfl, ?hy33x0⟩) (by assumption) ?rest33x0
  case hy33x0 => intro w hSw; obtain ⟨s1, s2⟩ := hSw; go_simp <;> with_reducible rfl
  simp only [Act.put, List.getElem_toArray, List.getElem_cons_zero, List.setIfInBounds_toArray, List.set_cons_zero, List.set_cons_succ]
  refine wpAnyH_take (i := 1) (v := ?v34x1) rfl (by kernel_rfl) (by kernel_rfl) (by kernel_rfl) (fun _ _ _ h => h) (Or.inl ⟨by rfl, ?hy34x1⟩) (by assumption) ?rest34x1
  case hy34x1 => intro w hSw; obtain ⟨s1, s2⟩ := hSw; go_simp <;> with_reducible rfl
  simp only [Act.put, List.getElem_toArray, List.getElem_cons_zero, List.getElem_cons_succ, List.setIfInBounds_toArray, List.set_cons_zero, List.set_cons_succ]
  refine wpAnyH_take (i := 2) (v := ?v35x2) rfl (by kernel_rfl) (by kernel_rfl) (by kernel_rfl) (fun _ _ _ h => h) (Or.inl ⟨by rfl, ?hy35x2⟩) (by assumption) ?rest35x2
  case hy35x2 => intro w hSw; obtain ⟨s1, s2⟩ := hSw; go_simp <;> with_reducible rfl
  simp only [Act.put, List.getElem_toArray, List.getElem_cons_zero, List.getElem_cons_succ, List.setIfInBounds_toArray, List.set_cons_zero, List.set_cons_succ]
  refine wpAnyH_take (i := 3) (v := (.int .i64 x1)) rfl (by kernel_rfl) (by kernel_rfl) (by kernel_rfl) (fun _ _ _ h => h) (Or.inl ⟨by rfl, ?hy36x3⟩) (by assumption) ?rest36x3
  case hy36x3 => intro w hSw; obtain ⟨s1, s2⟩ := hSw; go_simp <;> with_reducible rfl
  simp only [Act.put, List.getElem_toArray, List.getElem_cons_zero, List.getElem_cons_succ, List.setIfInBounds_toArray, List.set_cons_zero, List.set_cons_succ]
  refine wpAnyH_take (i := 4) (v := ?v37x4) rfl (by kernel_rfl) (by kernel_rfl) (by kernel_rfl) (fun _ _ _ h => h) (Or.inl ⟨by rfl, ?hy37x4⟩) (by assumption) ?rest37x4
  case hy37x4 => intro w hSw; obtain ⟨s1, s2⟩ := hSw; go_simp <;> with_reducible rfl
  simp only [Act.put, List.getElem_toArray, List.getElem_cons_zero, List.getElem_cons_succ, List.setIfInBounds_toArray, List.set_cons_zero, List.set_cons_succ]
  refine wpAnyH_take (i := 5) (v := (.int .i64 x2)) rfl (by kernel_rfl) (by kernel_rfl) (by kernel_rfl) (fun _ _ _ h => h) (Or.inl ⟨by rfl, ?hy38x5⟩) (by assumption) ?rest38x5
  case hy38x5 => intro w hSw; obtain ⟨s1, s2⟩ := hSw; go_simp <;> with_reducible rfl
  simp only [Act.put, List.getElem_toArray, List.getElem_cons_zero, List.getElem_cons_succ, List.setIfInBounds_toArray, List.set_cons_zero, List.set_cons_succ]
  refine wpAnyH_take (i := 6) (v := ?v39x6) rfl (by kernel_rfl) (by kernel_rfl) (by kernel_rfl) (fun _ _ _ h => h) (Or.inl ⟨by rfl, ?hy39x6⟩) (by assumption) ?rest39x6
  case hy39x6 => intro w hSw; obtain ⟨s1, s2⟩ := hSw; go_simp <;> with_reducible rfl
  simp only [Act.put, List.getElem_toArray, List.getElem_cons_zero, List.getElem_cons_succ, List.setIfInBounds_toArray, List.set_cons_zero, List.set_cons_succ]
  refine wpAnyH_take (i := 7) (v := ?v40x7) rfl (by kernel_rfl) (by kernel_rfl) (by kernel_rfl) (fun _ _ _ h => h) (Or.inl ⟨by rfl, ?hy40x7⟩) (by assumption) ?rest40x7
  case hy40x7 => intro w hSw; obtain ⟨s1, s2⟩ := hSw; go_simp <;> with_reducible rfl
  simp only [Act.put, List.getElem_toArray, List.getElem_cons_zero, List.getElem_cons_succ, List.setIfInBounds_toArray, List.set_cons_zero, List.set_cons_succ]
  refine wpAnyH_take (i := 8) (v := ?v41x8) rfl (by kernel_rfl) (by kernel_rfl) (by kernel_rfl) (fun _ _ _ h => h) (Or.inl ⟨by rfl, ?hy41x8⟩) (by assumption) ?rest41x8
  case hy41x8 => intro w hSw; obtain ⟨s1, s2⟩ := hSw; go_simp <;> with_reducible rfl
  simp only [Act.put, List.getElem_toArray, List.getElem_cons_zero, List.getElem_cons_succ, List.setIfInBounds_toArray, List.set_cons_zero, List.set_cons_succ]
  refine wpAnyH_take (i := 9) (v := (v3)) rfl (by kernel_rfl) (by kernel_rfl) (by kernel_rfl) (fun _ _ _ h => h) (Or.inl ⟨by rfl, ?hy42x9⟩) (by assumption) ?rest42x9
  case hy42x9 => intro w hSw; exact run_sliceE Tryd.underlying31 rfl rfl (unhide HS3 w)
  simp only [Act.put, List.getElem_toArray, List.getElem_cons_zero, List.getElem_cons_succ, List.setIfInBounds_toArray, List.set_cons_zero, List.set_cons_succ]
  refine wpAnyH_ready (rs := [10, 12]) (by kernel_rfl) (by simp) ?_
  refine AllReadyH.cons rfl (fun K hK => ?_) (AllReadyH.cons rfl (fun K hK => ?_) AllReadyH.nil)
  · skip
    go_simp
    refine (unhide HNy _ (below_box _).drew).mono ?_
    rintro e wq ⟨rfl, rfl⟩
    refine hK _ _ (by assumption) ?_
    clear hK hHeld
    intro hHeld
    refine wpAnyH_take (i := 11) (v := (iV p op x1 x2 m)) rfl (by kernel_rfl) (by kernel_rfl) (by kernel_rfl) (fun _ _ _ h => h) (Or.inl ⟨by rfl, ?hy43x11⟩) (by assumption) ?rest43x11
    case hy43x11 => intro w hSw; obtain ⟨s1, s2⟩ := hSw; go_simp <;> with_reducible rfl
    simp only [Act.put, List.getElem_toArray, List.getElem_cons_zero, List.getElem_cons_succ, List.setIfInBounds_toArray, List.set_cons_zero, List.set_cons_succ]
    refine wpAnyH_ready (rs := [12]) (by kernel_rfl) (by simp) ?_
    refine AllReadyH.cons rfl (fun K hK => ?_) AllReadyH.nil
    go_simp
    refine hK _ _ (unhide HY _ (((Below.refl _ _).alloc (by simp) _).drew)) ?_
    clear hK hHeld
    intro hHeld
    refine wpAnyH_ready (rs := [13]) (by kernel_rfl) (by simp) ?_
    refine AllReadyH.cons rfl (fun K hK => ?_) AllReadyH.nil
    go_simp
    refine hK _ _ (unhide HY _ (((Below.refl _ _).alloc (by simp) _).drew)) ?_
    clear hK hHeld
    intro hHeld
    refine wpAnyH_done (by kernel_rfl) ?_ _
    obtain ⟨Z, hZ⟩ : ∃ Z, ((y.alloc (.cells #[.int .i64 x1, .int .i64 x2] 137)).alloc (.cells #[.int .i64 p, .int .i64 op, .int .i64 x1, .int .i64 x2, .int .i64 m] 89)).drew = Z := ⟨_, rfl⟩
    rw [hZ]
    obtain ⟨q1, q2, q3⟩ := unhide HB2 _ Z (hZ ▸ ((Below.refl _ _).drew))
    obtain ⟨c0, c1, c2, c3, c4⟩ := cells5 q2
    have HQ1 := hide q1
    have HQ2 := hide q2
    have HQ3 := hide q3
    clear hZ q1 q2 q3 HY HB2 HNy HN hRz hB HS1 HS2 HS3 HZ HR e1 e2 hp hp0 hn hs0 hs1 K1 K2
    go_wp2_with fail
    refine (unhide HD _).mono ?_
    rintro e Z2 ⟨rfl, hg⟩
    have g2 := (hg.below.block _ (Array.getElem?_eq_some_iff.1 (unhide HQ2)).1).trans (unhide HQ2)
    have g3 := (hg.below.block _ (Array.getElem?_eq_some_iff.1 (unhide HQ3)).1).trans (unhide HQ3)
    have HG : Hid (Below w.heap.size w Z2) := (unhide HQ1).trans (hg.below.mono (unhide HQ1).size)
    clear c0 c1 c2 c3 c4 HQ1 HQ2 HQ3 hg HD
    go_wp2_with fail
    refine (must_no _ _).mono ?_
    rintro e w2 ⟨rfl, rfl⟩
    exact ⟨rfl, rfl, unhide HG⟩
  · skip
    go_simp
    refine hK _ _ (unhide HY _ (((Below.refl _ _).alloc (by simp) _).drew)) ?_
    clear hK hHeld
    intro hHeld
    refine wpAnyH_ready (rs := [10]) (by kernel_rfl) (by simp) ?_
    refine AllReadyH.cons rfl (fun K hK => ?_) AllReadyH.nil
    go_simp
    refine (unhide HNy _ (((below_box _).alloc (by simp) _).drew)).mono ?_
    rintro e wq ⟨rfl, rfl⟩
    refine hK _ _ (by assumption) ?_
    clear hK hHeld
    intro hHeld
    refine wpAnyH_take (i := 11) (v := (iV p op x1 x2 m)) rfl (by kernel_rfl) (by kernel_rfl) (by kernel_rfl) (fun _ _ _ h => h) (Or.inl ⟨by rfl, ?hy44x11⟩) (by assumption) ?rest44x11
    case hy44x11 => intro w hSw; obtain ⟨s1, s2⟩ := hSw; go_simp <;> with_reducible rfl
    simp only [Act.put, List.getElem_toArray, List.getElem_cons_zero, List.getElem_cons_succ, List.setIfInBounds_toArray, List.set_cons_zero, List.set_cons_succ]
    refine wpAnyH_ready (rs := [13]) (by kernel_rfl) (by simp) ?_
    refine AllReadyH.cons rfl (fun K hK => ?_) AllReadyH.nil
    go_simp
    refine hK _ _ (unhide HY _ (((Below.refl _ _).alloc (by simp) _).drew)) ?_
    clear hK hHeld
    intro hHeld
    refine wpAnyH_done (by kernel_rfl) ?_ _
    obtain ⟨Z, hZ⟩ : ∃ Z, ((y.alloc (.cells #[.int .i64 x1, .int .i64 x2] 137)).alloc (.cells #[.int .i64 p, .int .i64 op, .int .i64 x1, .int .i64 x2, .int .i64 m] 89)).drew = Z := ⟨_, rfl⟩
    rw [hZ]
    obtain ⟨q1, q2, q3⟩ := unhide HB2 _ Z (hZ ▸ ((Below.refl _ _).drew))
    obtain ⟨c0, c1, c2, c3, c4⟩ := cells5 q2
    have HQ1 := hide q1
    have HQ2 := hide q2
    have HQ3 := hide q3
    clear hZ q1 q2 q3 HY HB2 HNy HN hRz hB HS1 HS2 HS3 HZ HR e1 e2 hp hp0 hn hs0 hs1 K1 K2
    go_wp2_with fail
    refine (unhide HD _).mono ?_
    rintro e Z2 ⟨rfl, hg⟩
    have g2 := (hg.below.block _ (Array.getElem?_eq_some_iff.1 (unhide HQ2)).1).trans (unhide HQ2)
    have g3 := (hg.below.block _ (Array.getElem?_eq_some_iff.1 (unhide HQ3)).1).trans (unhide HQ3)
    have HG : Hid (Below w.heap.size w Z2) := (unhide HQ1).trans (hg.below.mono (unhide HQ1).size)
    clear c0 c1 c2 c3 c4 HQ1 HQ2 HQ3 hg HD
    go_wp2_with fail
    refine (must_no _ _).mono ?_
    rintro e w2 ⟨rfl, rfl⟩
    exact ⟨rfl, rfl, unhide HG⟩
end Go.Proofs.YtldapckooohigaaDoor
