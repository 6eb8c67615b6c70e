/- same. -/
import Derived.Test.YtpadbbkklmgimaaW0
namespace Go.Proofs.Ytpadbbkklmgimaa
open Go.RowKit
set_option maxRecDepth 100000

set_option maxHeartbeats 3200000 in
theorem same_any {w : World} {h r b cap : Nat} {V : Vt} (I : IsV w h V) (R : IsR w r b cap V) (O : V.Ok) :
    Calls Try.prog 10 #[P0 h, P0 r] w fun e w' => e = .returned (.bool true) ∧ Below w.heap.size w w' := by
  have HI : Hid (∀ x, Below w.heap.size w x → IsV x h V) := fun x hx => I.below hx
  have HR : Hid (∀ x, Below w.heap.size w x → IsR x r b cap V) := fun x hx => R.below O.pos hx
  have HO := hide O
  have HS : Hid (∀ x, Below w.heap.size w x → x.cell? ⟨r, 2, none⟩ = some (.int .i64 V.term) ∧ x.cell? ⟨r, 3, none⟩ = some (.int .i64 V.voted) ∧ x.cell? ⟨r, 4, none⟩ = some (.bool (V.vt V.self))) := fun x hx => ⟨(unhide HR x hx).c2, (unhide HR x hx).c3, (unhide HR x hx).c4⟩
  have HVo := hide (voted_yes I O)
  have hv0 := O.v0
  clear I R O
  by_cases cv : V.voted = -1
  · rw [cv] at HVo HS
    simp only [ne_eq, not_true_eq_false, decide_false] at HVo
    go_enter Try.func10, Try.ntmps10
    go_wp2_with fail
    refine (unhide HVo).mono ?_
    rintro e wq ⟨rfl, rfl⟩
    go_wp2
    refine wp_region_held_drew (S := fun x => x.cell? ⟨r, 2, none⟩ = some (.int .i64 V.term) ∧ x.cell? ⟨r, 3, none⟩ = some (.int .i64 (-1)) ∧ x.cell? ⟨r, 4, none⟩ = some (.bool (V.vt V.self))) (by kernel_rfl) (unhide HS _ (Below.refl _ _).drew) (fun hHeld => ?_)
    refine wpAnyH_take (i := 0) (v := ?v1x0) rfl (by kernel_rfl) (by kernel_rfl) (by kernel_rfl) (fun _ _ _ h => h) (Or.inl ⟨by rfl, ?hy1x0⟩) (by assumption) ?rest1x0
    case hy1x0 => intro w hSw; obtain ⟨s1, s2, s3⟩ := hSw; go_simp <;> with_reducible rfl
    simp only [Act.put, List.getElem_toArray, List.getElem_cons_zero, List.setIfInBounds_toArray, List.set_cons_zero, List.set_cons_succ]
    refine wpAnyH_take (i := 2) (v := ?v2x2) rfl (by kernel_rfl) (by kernel_rfl) (by kernel_rfl) (fun _ _ _ h => h) (Or.inl ⟨by rfl, ?hy2x2⟩) (by assumption) ?rest2x2
    case hy2x2 => intro w hSw; obtain ⟨s1, s2, s3⟩ := hSw; go_simp <;> with_reducible rfl
    simp only [Act.put, List.getElem_toArray, List.getElem_cons_zero, List.getElem_cons_succ, List.setIfInBounds_toArray, List.set_cons_zero, List.set_cons_succ]
    refine wpAnyH_take (i := 3) (v := ?v3x3) rfl (by kernel_rfl) (by kernel_rfl) (by kernel_rfl) (fun _ _ _ h => h) (Or.inl ⟨by rfl, ?hy3x3⟩) (by assumption) ?rest3x3
    case hy3x3 => intro w hSw; obtain ⟨s1, s2, s3⟩ := hSw; go_simp <;> with_reducible rfl
    simp only [Act.put, List.getElem_toArray, List.getElem_cons_zero, List.getElem_cons_succ, List.setIfInBounds_toArray, List.set_cons_zero, List.set_cons_succ]
    refine wpAnyH_take (i := 4) (v := ?v4x4) rfl (by kernel_rfl) (by kernel_rfl) (by kernel_rfl) (fun _ _ _ h => h) (Or.inl ⟨by rfl, ?hy4x4⟩) (by assumption) ?rest4x4
    case hy4x4 => intro w hSw; obtain ⟨s1, s2, s3⟩ := hSw; go_simp <;> with_reducible rfl
    simp only [Act.put, List.getElem_toArray, List.getElem_cons_zero, List.getElem_cons_succ, List.setIfInBounds_toArray, List.set_cons_zero, List.set_cons_succ]
    refine wpAnyH_take (i := 5) (v := ?v5x5) rfl (by kernel_rfl) (by kernel_rfl) (by kernel_rfl) (fun _ _ _ h => h) (Or.inl ⟨by rfl, ?hy5x5⟩) (by assumption) ?rest5x5
    case hy5x5 => intro w hSw; obtain ⟨s1, s2, s3⟩ := hSw; go_simp <;> with_reducible rfl
    simp only [Act.put, List.getElem_toArray, List.getElem_cons_zero, List.getElem_cons_succ, List.setIfInBounds_toArray, List.set_cons_zero, List.set_cons_succ]
    refine wpAnyH_ready (rs := [1]) (by kernel_rfl) (by simp) ?_
    refine AllReadyH.cons rfl (fun K hK => ?_) AllReadyH.nil
    go_simp
    refine (term_yes (unhide HI _ (Below.refl _ _).drew) (unhide HO)).mono ?_
    rintro e wq ⟨rfl, rfl⟩
    refine hK _ _ (unhide HS _ (Below.refl _ _).drew) ?_
    clear hK hHeld
    intro hHeld
    refine wpAnyH_take (i := 6) (v := (.bool true)) rfl (by kernel_rfl) (by kernel_rfl) (by kernel_rfl) (fun _ _ _ h => h) (Or.inl ⟨by rfl, ?hy6x6⟩) (by assumption) ?rest6x6
    case hy6x6 => intro w hSw; obtain ⟨s1, s2, s3⟩ := hSw; go_simp <;> with_reducible rfl
    simp only [Act.put, List.getElem_toArray, List.getElem_cons_zero, List.getElem_cons_succ, List.setIfInBounds_toArray, List.set_cons_zero, List.set_cons_succ]
    refine wpAnyH_take (i := 7) (v := ?v7x7) rfl (by kernel_rfl) (by kernel_rfl) (by kernel_rfl) (fun _ _ _ h => h) (Or.inl ⟨by rfl, ?hy7x7⟩) (by assumption) ?rest7x7
    case hy7x7 => intro w hSw; obtain ⟨s1, s2, s3⟩ := hSw; go_simp <;> with_reducible rfl
    simp only [Act.put, List.getElem_toArray, List.getElem_cons_zero, List.getElem_cons_succ, List.setIfInBounds_toArray, List.set_cons_zero, List.set_cons_succ]
    refine wpAnyH_take (i := 8) (v := ?v8x8) rfl (by kernel_rfl) (by kernel_rfl) (by kernel_rfl) (fun _ _ _ h => h) (Or.inl ⟨by rfl, ?hy8x8⟩) (by assumption) ?rest8x8
    case hy8x8 => intro w hSw; obtain ⟨s1, s2, s3⟩ := hSw; go_simp <;> with_reducible rfl
    simp only [Act.put, List.getElem_toArray, List.getElem_cons_zero, List.getElem_cons_succ, List.setIfInBounds_toArray, List.set_cons_zero, List.set_cons_succ]
    refine wpAnyH_take (i := 9) (v := ?v9x9) rfl (by kernel_rfl) (by kernel_rfl) (by kernel_rfl) (fun _ _ _ h => h) (Or.inl ⟨by rfl, ?hy9x9⟩) (by assumption) ?rest9x9
    case hy9x9 => intro w hSw; obtain ⟨s1, s2, s3⟩ := hSw; go_simp <;> with_reducible rfl
    simp only [Act.put, List.getElem_toArray, List.getElem_cons_zero, List.getElem_cons_succ, List.setIfInBounds_toArray, List.set_cons_zero, List.set_cons_succ]
    refine wpAnyH_take (i := 10) (v := ?v10x10) rfl (by kernel_rfl) (by kernel_rfl) (by kernel_rfl) (fun _ _ _ h => h) (Or.inl ⟨by rfl, ?hy10x10⟩) (by assumption) ?rest10x10
    case hy10x10 => intro w hSw; obtain ⟨s1, s2, s3⟩ := hSw; go_simp <;> with_reducible rfl
    simp only [Act.put, List.getElem_toArray, List.getElem_cons_zero, List.getElem_cons_succ, List.setIfInBounds_toArray, List.set_cons_zero, List.set_cons_succ]
    refine wpAnyH_take (i := 11) (v := ?v11x11) rfl (by kernel_rfl) (by kernel_rfl) (by kernel_rfl) (fun _ _ _ h => h) (Or.inl ⟨by rfl, ?hy11x11⟩) (by assumption) ?rest11x11
    case hy11x11 => intro w hSw; obtain ⟨s1, s2, s3⟩ := hSw; go_simp <;> with_reducible rfl
    simp only [Act.put, List.getElem_toArray, List.getElem_cons_zero, List.getElem_cons_succ, List.setIfInBounds_toArray, List.set_cons_zero, List.set_cons_succ]
    refine wpAnyH_take (i := 12) (v := ?v12x12) rfl (by kernel_rfl) (by kernel_rfl) (by kernel_rfl) (fun _ _ _ h => h) (Or.inl ⟨by rfl, ?hy12x12⟩) (by assumption) ?rest12x12
    case hy12x12 => intro w hSw; obtain ⟨s1, s2, s3⟩ := hSw; go_simp <;> with_reducible rfl
    simp only [Act.put, List.getElem_toArray, List.getElem_cons_zero, List.getElem_cons_succ, List.setIfInBounds_toArray, List.set_cons_zero, List.set_cons_succ]
    refine wpAnyH_take (i := 13) (v := (.bool false)) rfl (by kernel_rfl) (by kernel_rfl) (by kernel_rfl) (fun _ _ _ h => h) (Or.inl ⟨by rfl, ?hy13x13⟩) (by assumption) ?rest13x13
    case hy13x13 => intro w hSw; obtain ⟨s1, s2, s3⟩ := hSw; go_simp <;> with_reducible rfl
    simp only [Act.put, List.getElem_toArray, List.getElem_cons_zero, List.getElem_cons_succ, List.setIfInBounds_toArray, List.set_cons_zero, List.set_cons_succ]
    refine wpAnyH_take (i := 14) (v := (.bool true)) rfl (by kernel_rfl) (by kernel_rfl) (by kernel_rfl) (fun _ _ _ h => h) (Or.inl ⟨by rfl, ?hy14x14⟩) (by assumption) ?rest14x14
    case hy14x14 => intro w hSw; obtain ⟨s1, s2, s3⟩ := hSw; go_simp <;> with_reducible rfl
    simp only [Act.put, List.getElem_toArray, List.getElem_cons_zero, List.getElem_cons_succ, List.setIfInBounds_toArray, List.set_cons_zero, List.set_cons_succ]
    refine wpAnyH_take (i := 15) (v := ?v15x15) rfl (by kernel_rfl) (by kernel_rfl) (by kernel_rfl) (fun _ _ _ h => h) (Or.inl ⟨by rfl, ?hy15x15⟩) (by assumption) ?rest15x15
    case hy15x15 => intro w hSw; obtain ⟨s1, s2, s3⟩ := hSw; go_simp <;> with_reducible rfl
    simp only [Act.put, List.getElem_toArray, List.getElem_cons_zero, List.getElem_cons_succ, List.setIfInBounds_toArray, List.set_cons_zero, List.set_cons_succ]
    refine wpAnyH_take (i := 16) (v := ?v16x16) rfl (by kernel_rfl) (by kernel_rfl) (by kernel_rfl) (fun _ _ _ h => h) (Or.inl ⟨by rfl, ?hy16x16⟩) (by assumption) ?rest16x16
    case hy16x16 => intro w hSw; obtain ⟨s1, s2, s3⟩ := hSw; go_simp <;> with_reducible rfl
    simp only [Act.put, List.getElem_toArray, List.getElem_cons_zero, List.getElem_cons_succ, List.setIfInBounds_toArray, List.set_cons_zero, List.set_cons_succ]
    refine wpAnyH_take (i := 17) (v := ?v17x17) rfl (by kernel_rfl) (by kernel_rfl) (by kernel_rfl) (fun _ _ _ h => h) (Or.inl ⟨by rfl, ?hy17x17⟩) (by assumption) ?rest17x17
    case hy17x17 => intro w hSw; obtain ⟨s1, s2, s3⟩ := hSw; go_simp <;> with_reducible rfl
    simp only [Act.put, List.getElem_toArray, List.getElem_cons_zero, List.getElem_cons_succ, List.setIfInBounds_toArray, List.set_cons_zero, List.set_cons_succ]
    refine wpAnyH_take (i := 18) (v := ?v18x18) rfl (by kernel_rfl) (by kernel_rfl) (by kernel_rfl) (fun _ _ _ h => h) (Or.inl ⟨by rfl, ?hy18x18⟩) (by assumption) ?rest18x18
    case hy18x18 => intro w hSw; obtain ⟨s1, s2, s3⟩ := hSw; go_simp <;> with_reducible rfl
    simp only [Act.put, List.getElem_toArray, List.getElem_cons_zero, List.getElem_cons_succ, List.setIfInBounds_toArray, List.set_cons_zero, List.set_cons_succ]
    refine wpAnyH_take (i := 19) (v := ?v19x19) rfl (by kernel_rfl) (by kernel_rfl) (by kernel_rfl) (fun _ _ _ h => h) (Or.inl ⟨by rfl, ?hy19x19⟩) (by assumption) ?rest19x19
    case hy19x19 => intro w hSw; obtain ⟨s1, s2, s3⟩ := hSw; go_simp <;> with_reducible rfl
    simp only [Act.put, List.getElem_toArray, List.getElem_cons_zero, List.getElem_cons_succ, List.setIfInBounds_toArray, List.set_cons_zero, List.set_cons_succ]
    refine wpAnyH_take (i := 20) (v := undef) rfl (by kernel_rfl) (by kernel_rfl) (by kernel_rfl) (fun _ _ _ h => h) (Or.inr ⟨by rfl, rfl⟩) (by assumption) ?_
    simp only [Act.put, List.getElem_toArray, List.getElem_cons_zero, List.getElem_cons_succ, List.setIfInBounds_toArray, List.set_cons_zero, List.set_cons_succ]
    refine wpAnyH_take (i := 21) (v := undef) rfl (by kernel_rfl) (by kernel_rfl) (by kernel_rfl) (fun _ _ _ h => h) (Or.inr ⟨by rfl, rfl⟩) (by assumption) ?_
    simp only [Act.put, List.getElem_toArray, List.getElem_cons_zero, List.getElem_cons_succ, List.setIfInBounds_toArray, List.set_cons_zero, List.set_cons_succ]
    refine wpAnyH_take (i := 22) (v := undef) rfl (by kernel_rfl) (by kernel_rfl) (by kernel_rfl) (fun _ _ _ h => h) (Or.inr ⟨by rfl, rfl⟩) (by assumption) ?_
    simp only [Act.put, List.getElem_toArray, List.getElem_cons_zero, List.getElem_cons_succ, List.setIfInBounds_toArray, List.set_cons_zero, List.set_cons_succ]
    refine wpAnyH_take (i := 23) (v := undef) rfl (by kernel_rfl) (by kernel_rfl) (by kernel_rfl) (fun _ _ _ h => h) (Or.inr ⟨by rfl, rfl⟩) (by assumption) ?_
    simp only [Act.put, List.getElem_toArray, List.getElem_cons_zero, List.getElem_cons_succ, List.setIfInBounds_toArray, List.set_cons_zero, List.set_cons_succ]
    refine wpAnyH_take (i := 24) (v := undef) rfl (by kernel_rfl) (by kernel_rfl) (by kernel_rfl) (fun _ _ _ h => h) (Or.inr ⟨by rfl, rfl⟩) (by assumption) ?_
    simp only [Act.put, List.getElem_toArray, List.getElem_cons_zero, List.getElem_cons_succ, List.setIfInBounds_toArray, List.set_cons_zero, List.set_cons_succ]
    refine wpAnyH_take (i := 25) (v := undef) rfl (by kernel_rfl) (by kernel_rfl) (by kernel_rfl) (fun _ _ _ h => h) (Or.inr ⟨by rfl, rfl⟩) (by assumption) ?_
    simp only [Act.put, List.getElem_toArray, List.getElem_cons_zero, List.getElem_cons_succ, List.setIfInBounds_toArray, List.set_cons_zero, List.set_cons_succ]
    refine wpAnyH_take (i := 26) (v := ?v26x26) rfl (by kernel_rfl) (by kernel_rfl) (by kernel_rfl) (fun _ _ _ h => h) (Or.inl ⟨by rfl, ?hy26x26⟩) (by assumption) ?rest26x26
    case hy26x26 => intro w hSw; obtain ⟨s1, s2, s3⟩ := hSw; go_simp <;> with_reducible rfl
    simp only [Act.put, List.getElem_toArray, List.getElem_cons_zero, List.getElem_cons_succ, List.setIfInBounds_toArray, List.set_cons_zero, List.set_cons_succ]
    refine wpAnyH_take (i := 27) (v := ?v27x27) rfl (by kernel_rfl) (by kernel_rfl) (by kernel_rfl) (fun _ _ _ h => h) (Or.inl ⟨by rfl, ?hy27x27⟩) (by assumption) ?rest27x27
    case hy27x27 => intro w hSw; obtain ⟨s1, s2, s3⟩ := hSw; go_simp <;> with_reducible rfl
    simp only [Act.put, List.getElem_toArray, List.getElem_cons_zero, List.getElem_cons_succ, List.setIfInBounds_toArray, List.set_cons_zero, List.set_cons_succ]
    refine wpAnyH_take (i := 28) (v := ?v28x28) rfl (by kernel_rfl) (by kernel_rfl) (by kernel_rfl) (fun _ _ _ h => h) (Or.inl ⟨by rfl, ?hy28x28⟩) (by assumption) ?rest28x28
    case hy28x28 => intro w hSw; obtain ⟨s1, s2, s3⟩ := hSw; go_simp <;> with_reducible rfl
    simp only [Act.put, List.getElem_toArray, List.getElem_cons_zero, List.getElem_cons_succ, List.setIfInBounds_toArray, List.set_cons_zero, List.set_cons_succ]
    refine wpAnyH_take (i := 29) (v := ?v29x29) rfl (by kernel_rfl) (by kernel_rfl) (by kernel_rfl) (fun _ _ _ h => h) (Or.inl ⟨by rfl, ?hy29x29⟩) (by assumption) ?rest29x29
    case hy29x29 => intro w hSw; obtain ⟨s1, s2, s3⟩ := hSw; go_simp <;> with_reducible rfl
    simp only [Act.put, List.getElem_toArray, List.getElem_cons_zero, List.getElem_cons_succ, List.setIfInBounds_toArray, List.set_cons_zero, List.set_cons_succ]
    refine wpAnyH_take (i := 31) (v := ?v30x31) rfl (by kernel_rfl) (by kernel_rfl) (by kernel_rfl) (fun _ _ _ h => h) (Or.inl ⟨by rfl, ?hy30x31⟩) (by assumption) ?rest30x31
    case hy30x31 => intro w hSw; obtain ⟨s1, s2, s3⟩ := hSw; go_simp <;> with_reducible rfl
    simp only [Act.put, List.getElem_toArray, List.getElem_cons_zero, List.getElem_cons_succ, List.setIfInBounds_toArray, List.set_cons_zero, List.set_cons_succ]
    refine wpAnyH_take (i := 32) (v := ?v31x32) rfl (by kernel_rfl) (by kernel_rfl) (by kernel_rfl) (fun _ _ _ h => h) (Or.inl ⟨by rfl, ?hy31x32⟩) (by assumption) ?rest31x32
    case hy31x32 => intro w hSw; obtain ⟨s1, s2, s3⟩ := hSw; go_simp <;> with_reducible rfl
    simp only [Act.put, List.getElem_toArray, List.getElem_cons_zero, List.getElem_cons_succ, List.setIfInBounds_toArray, List.set_cons_zero, List.set_cons_succ]
    refine wpAnyH_take (i := 33) (v := ?v32x33) rfl (by kernel_rfl) (by kernel_rfl) (by kernel_rfl) (fun _ _ _ h => h) (Or.inl ⟨by rfl, ?hy32x33⟩) (by assumption) ?rest32x33
    case hy32x33 => intro w hSw; obtain ⟨s1, s2, s3⟩ := hSw; go_simp <;> with_reducible rfl
    simp only [Act.put, List.getElem_toArray, List.getElem_cons_zero, List.getElem_cons_succ, List.setIfInBounds_toArray, List.set_cons_zero, List.set_cons_succ]
    refine wpAnyH_take (i := 34) (v := ?v33x34) rfl (by kernel_rfl) (by kernel_rfl) (by kernel_rfl) (fun _ _ _ h => h) (Or.inl ⟨by rfl, ?hy33x34⟩) (by assumption) ?rest33x34
    case hy33x34 => intro w hSw; obtain ⟨s1, s2, s3⟩ := hSw; go_simp <;> with_reducible rfl
    simp only [Act.put, List.getElem_toArray, List.getElem_cons_zero, List.getElem_cons_succ, List.setIfInBounds_toArray, List.set_cons_zero, List.set_cons_succ]
    have HB0 : Hid (Below w.heap.size w w.drew) := (Below.refl _ _).drew
    refine wpAnyH_ready (rs := [30]) (by kernel_rfl) (by simp) ?_
    refine AllReadyH.cons rfl (fun K hK => ?_) AllReadyH.nil
    go_simp
    refine (standing_yes (unhide HI _ (unhide HB0)) (unhide HO)).mono ?_
    rintro e y1 ⟨rfl, hb1⟩
    refine hK _ _ (unhide HS _ ((unhide HB0).trans hb1)) ?_
    clear hK hHeld
    have HB1 : Hid (Below w.heap.size w y1) := (unhide HB0).trans hb1
    clear hb1
    intro hHeld
    refine wpAnyH_take (i := 35) (v := (.bool true)) rfl (by kernel_rfl) (by kernel_rfl) (by kernel_rfl) (fun _ _ _ h => h) (Or.inl ⟨by rfl, ?hy34x35⟩) (by assumption) ?rest34x35
    case hy34x35 => intro w hSw; obtain ⟨s1, s2, s3⟩ := hSw; go_simp <;> with_reducible rfl
    simp only [Act.put, List.getElem_toArray, List.getElem_cons_zero, List.getElem_cons_succ, List.setIfInBounds_toArray, List.set_cons_zero, List.set_cons_succ]
    refine wpAnyH_take (i := 36) (v := ?v35x36) rfl (by kernel_rfl) (by kernel_rfl) (by kernel_rfl) (fun _ _ _ h => h) (Or.inl ⟨by rfl, ?hy35x36⟩) (by assumption) ?rest35x36
    case hy35x36 => intro w hSw; obtain ⟨s1, s2, s3⟩ := hSw; go_simp <;> with_reducible rfl
    simp only [Act.put, List.getElem_toArray, List.getElem_cons_zero, List.getElem_cons_succ, List.setIfInBounds_toArray, List.set_cons_zero, List.set_cons_succ]
    refine wpAnyH_take (i := 37) (v := ?v36x37) rfl (by kernel_rfl) (by kernel_rfl) (by kernel_rfl) (fun _ _ _ h => h) (Or.inl ⟨by rfl, ?hy36x37⟩) (by assumption) ?rest36x37
    case hy36x37 => intro w hSw; obtain ⟨s1, s2, s3⟩ := hSw; go_simp <;> with_reducible rfl
    simp only [Act.put, List.getElem_toArray, List.getElem_cons_zero, List.getElem_cons_succ, List.setIfInBounds_toArray, List.set_cons_zero, List.set_cons_succ]
    refine wpAnyH_take (i := 38) (v := ?v37x38) rfl (by kernel_rfl) (by kernel_rfl) (by kernel_rfl) (fun _ _ _ h => h) (Or.inl ⟨by rfl, ?hy37x38⟩) (by assumption) ?rest37x38
    case hy37x38 => intro w hSw; obtain ⟨s1, s2, s3⟩ := hSw; go_simp <;> with_reducible rfl
    simp only [Act.put, List.getElem_toArray, List.getElem_cons_zero, List.getElem_cons_succ, List.setIfInBounds_toArray, List.set_cons_zero, List.set_cons_succ]
    refine wpAnyH_take (i := 40) (v := ?v38x40) rfl (by kernel_rfl) (by kernel_rfl) (by kernel_rfl) (fun _ _ _ h => h) (Or.inl ⟨by rfl, ?hy38x40⟩) (by assumption) ?rest38x40
    case hy38x40 => intro w hSw; obtain ⟨s1, s2, s3⟩ := hSw; go_simp <;> with_reducible rfl
    simp only [Act.put, List.getElem_toArray, List.getElem_cons_zero, List.getElem_cons_succ, List.setIfInBounds_toArray, List.set_cons_zero, List.set_cons_succ]
    refine wpAnyH_ready (rs := [39]) (by kernel_rfl) (by simp) ?_
    refine AllReadyH.cons rfl (fun K hK => ?_) AllReadyH.nil
    go_simp
    refine (won_any (unhide HI _ (unhide HB1)) (unhide HO)).mono ?_
    rintro e y2 ⟨rfl, hb2⟩
    refine hK _ _ (unhide HS _ ((unhide HB1).trans (hb2.mono (unhide HB1).size))) ?_
    clear hK hHeld
    have HB2 : Hid (Below w.heap.size w y2) := (unhide HB1).trans (hb2.mono (unhide HB1).size)
    clear hb2
    intro hHeld
    refine wpAnyH_ready (rs := [41]) (by kernel_rfl) (by simp) ?_
    refine AllReadyH.cons rfl (fun K hK => ?_) AllReadyH.nil
    go_simp
    refine (rwon_any (unhide HR _ (unhide HB2)) (unhide HO)).mono ?_
    rintro e y3 ⟨rfl, hb3⟩
    refine hK _ _ (unhide HS _ ((unhide HB2).trans (hb3.mono (unhide HB2).size))) ?_
    clear hK hHeld
    have HB3 : Hid (Below w.heap.size w y3) := (unhide HB2).trans (hb3.mono (unhide HB2).size)
    clear hb3
    intro hHeld
    refine wpAnyH_take (i := 42) (v := (.bool true)) rfl (by kernel_rfl) (by kernel_rfl) (by kernel_rfl) (fun _ _ _ h => h) (Or.inl ⟨by rfl, ?hy39x42⟩) (by assumption) ?rest39x42
    case hy39x42 => intro w hSw; obtain ⟨s1, s2, s3⟩ := hSw; go_simp <;> with_reducible rfl
    simp only [Act.put, List.getElem_toArray, List.getElem_cons_zero, List.getElem_cons_succ, List.setIfInBounds_toArray, List.set_cons_zero, List.set_cons_succ]
    refine wpAnyH_take (i := 43) (v := ?v40x43) rfl (by kernel_rfl) (by kernel_rfl) (by kernel_rfl) (fun _ _ _ h => h) (Or.inl ⟨by rfl, ?hy40x43⟩) (by assumption) ?rest40x43
    case hy40x43 => intro w hSw; obtain ⟨s1, s2, s3⟩ := hSw; go_simp <;> with_reducible rfl
    simp only [Act.put, List.getElem_toArray, List.getElem_cons_zero, List.getElem_cons_succ, List.setIfInBounds_toArray, List.set_cons_zero, List.set_cons_succ]
    refine wpAnyH_take (i := 44) (v := ?v41x44) rfl (by kernel_rfl) (by kernel_rfl) (by kernel_rfl) (fun _ _ _ h => h) (Or.inl ⟨by rfl, ?hy41x44⟩) (by assumption) ?rest41x44
    case hy41x44 => intro w hSw; obtain ⟨s1, s2, s3⟩ := hSw; go_simp <;> with_reducible rfl
    simp only [Act.put, List.getElem_toArray, List.getElem_cons_zero, List.getElem_cons_succ, List.setIfInBounds_toArray, List.set_cons_zero, List.set_cons_succ]
    refine wpAnyH_take (i := 45) (v := ?v42x45) rfl (by kernel_rfl) (by kernel_rfl) (by kernel_rfl) (fun _ _ _ h => h) (Or.inl ⟨by rfl, ?hy42x45⟩) (by assumption) ?rest42x45
    case hy42x45 => intro w hSw; obtain ⟨s1, s2, s3⟩ := hSw; go_simp <;> with_reducible rfl
    simp only [Act.put, List.getElem_toArray, List.getElem_cons_zero, List.getElem_cons_succ, List.setIfInBounds_toArray, List.set_cons_zero, List.set_cons_succ]
    refine wpAnyH_take (i := 47) (v := ?v43x47) rfl (by kernel_rfl) (by kernel_rfl) (by kernel_rfl) (fun _ _ _ h => h) (Or.inl ⟨by rfl, ?hy43x47⟩) (by assumption) ?rest43x47
    case hy43x47 => intro w hSw; obtain ⟨s1, s2, s3⟩ := hSw; go_simp <;> with_reducible rfl
    simp only [Act.put, List.getElem_toArray, List.getElem_cons_zero, List.getElem_cons_succ, List.setIfInBounds_toArray, List.set_cons_zero, List.set_cons_succ]
    refine wpAnyH_ready (rs := [46]) (by kernel_rfl) (by simp) ?_
    refine AllReadyH.cons rfl (fun K hK => ?_) AllReadyH.nil
    go_simp
    refine (votes_any (unhide HI _ (unhide HB3))).mono ?_
    rintro e y4 ⟨rfl, J4, hb4⟩
    refine hK _ _ (unhide HS _ ((unhide HB3).trans (hb4.mono (unhide HB3).size))) ?_
    clear hK hHeld
    have HB4 : Hid (Below w.heap.size w y4) := (unhide HB3).trans (hb4.mono (unhide HB3).size)
    have HJ4 := hide J4
    clear hb4 J4
    intro hHeld
    refine wpAnyH_ready (rs := [48]) (by kernel_rfl) (by simp) ?_
    refine AllReadyH.cons rfl (fun K hK => ?_) AllReadyH.nil
    go_simp
    refine (list_any (unhide HR _ (unhide HB4)) (unhide HO)).mono ?_
    rintro e y5 ⟨v5, rfl, o5, hb5⟩
    refine hK _ _ (unhide HS _ ((unhide HB4).trans (hb5.mono (unhide HB4).size))) ?_
    clear hK hHeld
    have HB5 : Hid (Below w.heap.size w y5) := (unhide HB4).trans (hb5.mono (unhide HB4).size)
    have HW5 := hide (want_of_own o5)
    have HJ5 := hide ((unhide HJ4).below hb5)
    clear hb5 o5
    intro hHeld
    refine wpAnyH_ready (rs := [49]) (by kernel_rfl) (by simp) ?_
    refine AllReadyH.cons rfl (fun K hK => ?_) AllReadyH.nil
    go_simp
    refine (tells_any (unhide HJ5) (unhide HO).le v5 (unhide HW5) 0).mono ?_
    rintro e y6 ⟨rfl, hb6⟩
    refine hK _ _ (unhide HS _ ((unhide HB5).trans (hb6.mono (unhide HB5).size))) ?_
    clear hK hHeld
    have HB6 : Hid (Below w.heap.size w y6) := (unhide HB5).trans (hb6.mono (unhide HB5).size)
    clear hb6
    intro hHeld
    refine wpAnyH_take (i := 50) (v := ?v44x50) rfl (by kernel_rfl) (by kernel_rfl) (by kernel_rfl) (fun _ _ _ h => h) (Or.inl ⟨by rfl, ?hy44x50⟩) (by assumption) ?rest44x50
    case hy44x50 => intro w hSw; obtain ⟨s1, s2, s3⟩ := hSw; go_simp <;> with_reducible rfl
    simp only [Act.put, List.getElem_toArray, List.getElem_cons_zero, List.getElem_cons_succ, List.setIfInBounds_toArray, List.set_cons_zero, List.set_cons_succ]
    refine wpAnyH_take (i := 51) (v := ?v45x51) rfl (by kernel_rfl) (by kernel_rfl) (by kernel_rfl) (fun _ _ _ h => h) (Or.inl ⟨by rfl, ?hy45x51⟩) (by assumption) ?rest45x51
    case hy45x51 => intro w hSw; obtain ⟨s1, s2, s3⟩ := hSw; go_simp <;> with_reducible rfl
    simp only [Act.put, List.getElem_toArray, List.getElem_cons_zero, List.getElem_cons_succ, List.setIfInBounds_toArray, List.set_cons_zero, List.set_cons_succ]
    refine wpAnyH_take (i := 52) (v := ?v46x52) rfl (by kernel_rfl) (by kernel_rfl) (by kernel_rfl) (fun _ _ _ h => h) (Or.inl ⟨by rfl, ?hy46x52⟩) (by assumption) ?rest46x52
    case hy46x52 => intro w hSw; obtain ⟨s1, s2, s3⟩ := hSw; go_simp <;> with_reducible rfl
    simp only [Act.put, List.getElem_toArray, List.getElem_cons_zero, List.getElem_cons_succ, List.setIfInBounds_toArray, List.set_cons_zero, List.set_cons_succ]
    refine wpAnyH_take (i := 54) (v := ?v47x54) rfl (by kernel_rfl) (by kernel_rfl) (by kernel_rfl) (fun _ _ _ h => h) (Or.inl ⟨by rfl, ?hy47x54⟩) (by assumption) ?rest47x54
    case hy47x54 => intro w hSw; obtain ⟨s1, s2, s3⟩ := hSw; go_simp <;> with_reducible rfl
    simp only [Act.put, List.getElem_toArray, List.getElem_cons_zero, List.getElem_cons_succ, List.setIfInBounds_toArray, List.set_cons_zero, List.set_cons_succ]
    refine wpAnyH_ready (rs := [53]) (by kernel_rfl) (by simp) ?_
    refine AllReadyH.cons rfl (fun K hK => ?_) AllReadyH.nil
    go_simp
    refine (votes_any (unhide HI _ (unhide HB6))).mono ?_
    rintro e y7 ⟨rfl, J7, hb7⟩
    refine hK _ _ (unhide HS _ ((unhide HB6).trans (hb7.mono (unhide HB6).size))) ?_
    clear hK hHeld
    have HB7 : Hid (Below w.heap.size w y7) := (unhide HB6).trans (hb7.mono (unhide HB6).size)
    have HJ7 := hide J7
    clear hb7 J7
    intro hHeld
    refine wpAnyH_ready (rs := [55]) (by kernel_rfl) (by simp) ?_
    refine AllReadyH.cons rfl (fun K hK => ?_) AllReadyH.nil
    go_simp
    refine (list_any (unhide HR _ (unhide HB7)) (unhide HO)).mono ?_
    rintro e y8 ⟨v8, rfl, o8, hb8⟩
    refine hK _ _ (unhide HS _ ((unhide HB7).trans (hb8.mono (unhide HB7).size))) ?_
    clear hK hHeld
    have HB8 : Hid (Below w.heap.size w y8) := (unhide HB7).trans (hb8.mono (unhide HB7).size)
    have HW8 := hide (want_of_own o8)
    have HJ8 := hide ((unhide HJ7).below hb8)
    clear hb8 o8
    intro hHeld
    refine wpAnyH_ready (rs := [56]) (by kernel_rfl) (by simp) ?_
    refine AllReadyH.cons rfl (fun K hK => ?_) AllReadyH.nil
    go_simp
    refine (tells_any (unhide HJ8) (unhide HO).le v8 (unhide HW8) 1).mono ?_
    rintro e y9 ⟨rfl, hb9⟩
    refine hK _ _ (unhide HS _ ((unhide HB8).trans (hb9.mono (unhide HB8).size))) ?_
    clear hK hHeld
    have HB9 : Hid (Below w.heap.size w y9) := (unhide HB8).trans (hb9.mono (unhide HB8).size)
    clear hb9
    intro hHeld
    refine wpAnyH_take (i := 57) (v := ?v48x57) rfl (by kernel_rfl) (by kernel_rfl) (by kernel_rfl) (fun _ _ _ h => h) (Or.inl ⟨by rfl, ?hy48x57⟩) (by assumption) ?rest48x57
    case hy48x57 => intro w hSw; obtain ⟨s1, s2, s3⟩ := hSw; go_simp <;> with_reducible rfl
    simp only [Act.put, List.getElem_toArray, List.getElem_cons_zero, List.getElem_cons_succ, List.setIfInBounds_toArray, List.set_cons_zero, List.set_cons_succ]
    refine wpAnyH_take (i := 58) (v := ?v49x58) rfl (by kernel_rfl) (by kernel_rfl) (by kernel_rfl) (fun _ _ _ h => h) (Or.inl ⟨by rfl, ?hy49x58⟩) (by assumption) ?rest49x58
    case hy49x58 => intro w hSw; obtain ⟨s1, s2, s3⟩ := hSw; go_simp <;> with_reducible rfl
    simp only [Act.put, List.getElem_toArray, List.getElem_cons_zero, List.getElem_cons_succ, List.setIfInBounds_toArray, List.set_cons_zero, List.set_cons_succ]
    refine wpAnyH_done (by kernel_rfl) ?_ _
    go_wp2
    go_ret
    exact ⟨rfl, unhide HB9⟩
  · have cv' : 0 ≤ V.voted := by omega
    simp only [ne_eq, cv, not_false_eq_true, decide_true] at HVo
    go_enter Try.func10, Try.ntmps10
    go_wp2_with fail
    refine (unhide HVo).mono ?_
    rintro e wq ⟨rfl, rfl⟩
    go_wp2
    refine wp_region_held_drew (S := fun x => x.cell? ⟨r, 2, none⟩ = some (.int .i64 V.term) ∧ x.cell? ⟨r, 3, none⟩ = some (.int .i64 V.voted) ∧ x.cell? ⟨r, 4, none⟩ = some (.bool (V.vt V.self))) (by kernel_rfl) (unhide HS _ (Below.refl _ _).drew) (fun hHeld => ?_)
    refine wpAnyH_take (i := 0) (v := ?v50x0) rfl (by kernel_rfl) (by kernel_rfl) (by kernel_rfl) (fun _ _ _ h => h) (Or.inl ⟨by rfl, ?hy50x0⟩) (by assumption) ?rest50x0
    case hy50x0 => intro w hSw; obtain ⟨s1, s2, s3⟩ := hSw; go_simp <;> with_reducible rfl
    simp only [Act.put, List.getElem_toArray, List.getElem_cons_zero, List.setIfInBounds_toArray, List.set_cons_zero, List.set_cons_succ]
    refine wpAnyH_take (i := 2) (v := ?v51x2) rfl (by kernel_rfl) (by kernel_rfl) (by kernel_rfl) (fun _ _ _ h => h) (Or.inl ⟨by rfl, ?hy51x2⟩) (by assumption) ?rest51x2
    case hy51x2 => intro w hSw; obtain ⟨s1, s2, s3⟩ := hSw; go_simp <;> with_reducible rfl
    simp only [Act.put, List.getElem_toArray, List.getElem_cons_zero, List.getElem_cons_succ, List.setIfInBounds_toArray, List.set_cons_zero, List.set_cons_succ]
    refine wpAnyH_take (i := 3) (v := ?v52x3) rfl (by kernel_rfl) (by kernel_rfl) (by kernel_rfl) (fun _ _ _ h => h) (Or.inl ⟨by rfl, ?hy52x3⟩) (by assumption) ?rest52x3
    case hy52x3 => intro w hSw; obtain ⟨s1, s2, s3⟩ := hSw; go_simp <;> with_reducible rfl
    simp only [Act.put, List.getElem_toArray, List.getElem_cons_zero, List.getElem_cons_succ, List.setIfInBounds_toArray, List.set_cons_zero, List.set_cons_succ]
    refine wpAnyH_take (i := 4) (v := ?v53x4) rfl (by kernel_rfl) (by kernel_rfl) (by kernel_rfl) (fun _ _ _ h => h) (Or.inl ⟨by rfl, ?hy53x4⟩) (by assumption) ?rest53x4
    case hy53x4 => intro w hSw; obtain ⟨s1, s2, s3⟩ := hSw; go_simp <;> with_reducible rfl
    simp only [Act.put, List.getElem_toArray, List.getElem_cons_zero, List.getElem_cons_succ, List.setIfInBounds_toArray, List.set_cons_zero, List.set_cons_succ]
    refine wpAnyH_take (i := 5) (v := ?v54x5) rfl (by kernel_rfl) (by kernel_rfl) (by kernel_rfl) (fun _ _ _ h => h) (Or.inl ⟨by rfl, ?hy54x5⟩) (by assumption) ?rest54x5
    case hy54x5 => intro w hSw; obtain ⟨s1, s2, s3⟩ := hSw; go_simp <;> with_reducible rfl
    simp only [Act.put, List.getElem_toArray, List.getElem_cons_zero, List.getElem_cons_succ, List.setIfInBounds_toArray, List.set_cons_zero, List.set_cons_succ]
    refine wpAnyH_ready (rs := [1]) (by kernel_rfl) (by simp) ?_
    refine AllReadyH.cons rfl (fun K hK => ?_) AllReadyH.nil
    go_simp
    refine (term_yes (unhide HI _ (Below.refl _ _).drew) (unhide HO)).mono ?_
    rintro e wq ⟨rfl, rfl⟩
    refine hK _ _ (unhide HS _ (Below.refl _ _).drew) ?_
    clear hK hHeld
    intro hHeld
    refine wpAnyH_take (i := 6) (v := (.bool true)) rfl (by kernel_rfl) (by kernel_rfl) (by kernel_rfl) (fun _ _ _ h => h) (Or.inl ⟨by rfl, ?hy55x6⟩) (by assumption) ?rest55x6
    case hy55x6 => intro w hSw; obtain ⟨s1, s2, s3⟩ := hSw; go_simp <;> with_reducible rfl
    simp only [Act.put, List.getElem_toArray, List.getElem_cons_zero, List.getElem_cons_succ, List.setIfInBounds_toArray, List.set_cons_zero, List.set_cons_succ]
    refine wpAnyH_take (i := 7) (v := ?v56x7) rfl (by kernel_rfl) (by kernel_rfl) (by kernel_rfl) (fun _ _ _ h => h) (Or.inl ⟨by rfl, ?hy56x7⟩) (by assumption) ?rest56x7
    case hy56x7 => intro w hSw; obtain ⟨s1, s2, s3⟩ := hSw; go_simp <;> with_reducible rfl
    simp only [Act.put, List.getElem_toArray, List.getElem_cons_zero, List.getElem_cons_succ, List.setIfInBounds_toArray, List.set_cons_zero, List.set_cons_succ]
    refine wpAnyH_take (i := 8) (v := ?v57x8) rfl (by kernel_rfl) (by kernel_rfl) (by kernel_rfl) (fun _ _ _ h => h) (Or.inl ⟨by rfl, ?hy57x8⟩) (by assumption) ?rest57x8
    case hy57x8 => intro w hSw; obtain ⟨s1, s2, s3⟩ := hSw; go_simp <;> with_reducible rfl
    simp only [Act.put, List.getElem_toArray, List.getElem_cons_zero, List.getElem_cons_succ, List.setIfInBounds_toArray, List.set_cons_zero, List.set_cons_succ]
    refine wpAnyH_take (i := 9) (v := ?v58x9) rfl (by kernel_rfl) (by kernel_rfl) (by kernel_rfl) (fun _ _ _ h => h) (Or.inl ⟨by rfl, ?hy58x9⟩) (by assumption) ?rest58x9
    case hy58x9 => intro w hSw; obtain ⟨s1, s2, s3⟩ := hSw; go_simp <;> with_reducible rfl
    simp only [Act.put, List.getElem_toArray, List.getElem_cons_zero, List.getElem_cons_succ, List.setIfInBounds_toArray, List.set_cons_zero, List.set_cons_succ]
    refine wpAnyH_take (i := 10) (v := ?v59x10) rfl (by kernel_rfl) (by kernel_rfl) (by kernel_rfl) (fun _ _ _ h => h) (Or.inl ⟨by rfl, ?hy59x10⟩) (by assumption) ?rest59x10
    case hy59x10 => intro w hSw; obtain ⟨s1, s2, s3⟩ := hSw; go_simp <;> with_reducible rfl
    simp only [Act.put, List.getElem_toArray, List.getElem_cons_zero, List.getElem_cons_succ, List.setIfInBounds_toArray, List.set_cons_zero, List.set_cons_succ]
    refine wpAnyH_take (i := 11) (v := ?v60x11) rfl (by kernel_rfl) (by kernel_rfl) (by kernel_rfl) (fun _ _ _ h => h) (Or.inl ⟨by rfl, ?hy60x11⟩) (by assumption) ?rest60x11
    case hy60x11 => intro w hSw; obtain ⟨s1, s2, s3⟩ := hSw; go_simp <;> with_reducible rfl
    simp only [Act.put, List.getElem_toArray, List.getElem_cons_zero, List.getElem_cons_succ, List.setIfInBounds_toArray, List.set_cons_zero, List.set_cons_succ]
    refine wpAnyH_take (i := 12) (v := ?v61x12) rfl (by kernel_rfl) (by kernel_rfl) (by kernel_rfl) (fun _ _ _ h => h) (Or.inl ⟨by rfl, ?hy61x12⟩) (by assumption) ?rest61x12
    case hy61x12 => intro w hSw; obtain ⟨s1, s2, s3⟩ := hSw; go_simp <;> with_reducible rfl
    simp only [Act.put, List.getElem_toArray, List.getElem_cons_zero, List.getElem_cons_succ, List.setIfInBounds_toArray, List.set_cons_zero, List.set_cons_succ]
    refine wpAnyH_take (i := 13) (v := (.bool true)) rfl (by kernel_rfl) (by kernel_rfl) (by kernel_rfl) (fun _ _ _ h => h) (Or.inl ⟨by rfl, ?hy62x13⟩) (by assumption) ?rest62x13
    case hy62x13 => intro w hSw; obtain ⟨s1, s2, s3⟩ := hSw; go_simp <;> with_reducible rfl
    simp only [Act.put, List.getElem_toArray, List.getElem_cons_zero, List.getElem_cons_succ, List.setIfInBounds_toArray, List.set_cons_zero, List.set_cons_succ]
    refine wpAnyH_take (i := 14) (v := (.bool true)) rfl (by kernel_rfl) (by kernel_rfl) (by kernel_rfl) (fun _ _ _ h => h) (Or.inl ⟨by rfl, ?hy63x14⟩) (by assumption) ?rest63x14
    case hy63x14 => intro w hSw; obtain ⟨s1, s2, s3⟩ := hSw; go_simp <;> with_reducible rfl
    simp only [Act.put, List.getElem_toArray, List.getElem_cons_zero, List.getElem_cons_succ, List.setIfInBounds_toArray, List.set_cons_zero, List.set_cons_succ]
    refine wpAnyH_take (i := 15) (v := ?v64x15) rfl (by kernel_rfl) (by kernel_rfl) (by kernel_rfl) (fun _ _ _ h => h) (Or.inl ⟨by rfl, ?hy64x15⟩) (by assumption) ?rest64x15
    case hy64x15 => intro w hSw; obtain ⟨s1, s2, s3⟩ := hSw; go_simp <;> with_reducible rfl
    simp only [Act.put, List.getElem_toArray, List.getElem_cons_zero, List.getElem_cons_succ, List.setIfInBounds_toArray, List.set_cons_zero, List.set_cons_succ]
    refine wpAnyH_take (i := 16) (v := ?v65x16) rfl (by kernel_rfl) (by kernel_rfl) (by kernel_rfl) (fun _ _ _ h => h) (Or.inl ⟨by rfl, ?hy65x16⟩) (by assumption) ?rest65x16
    case hy65x16 => intro w hSw; obtain ⟨s1, s2, s3⟩ := hSw; go_simp <;> with_reducible rfl
    simp only [Act.put, List.getElem_toArray, List.getElem_cons_zero, List.getElem_cons_succ, List.setIfInBounds_toArray, List.set_cons_zero, List.set_cons_succ]
    refine wpAnyH_take (i := 17) (v := ?v66x17) rfl (by kernel_rfl) (by kernel_rfl) (by kernel_rfl) (fun _ _ _ h => h) (Or.inl ⟨by rfl, ?hy66x17⟩) (by assumption) ?rest66x17
    case hy66x17 => intro w hSw; obtain ⟨s1, s2, s3⟩ := hSw; go_simp <;> with_reducible rfl
    simp only [Act.put, List.getElem_toArray, List.getElem_cons_zero, List.getElem_cons_succ, List.setIfInBounds_toArray, List.set_cons_zero, List.set_cons_succ]
    refine wpAnyH_take (i := 18) (v := ?v67x18) rfl (by kernel_rfl) (by kernel_rfl) (by kernel_rfl) (fun _ _ _ h => h) (Or.inl ⟨by rfl, ?hy67x18⟩) (by assumption) ?rest67x18
    case hy67x18 => intro w hSw; obtain ⟨s1, s2, s3⟩ := hSw; go_simp <;> with_reducible rfl
    simp only [Act.put, List.getElem_toArray, List.getElem_cons_zero, List.getElem_cons_succ, List.setIfInBounds_toArray, List.set_cons_zero, List.set_cons_succ]
    refine wpAnyH_take (i := 19) (v := ?v68x19) rfl (by kernel_rfl) (by kernel_rfl) (by kernel_rfl) (fun _ _ _ h => h) (Or.inl ⟨by rfl, ?hy68x19⟩) (by assumption) ?rest68x19
    case hy68x19 => intro w hSw; obtain ⟨s1, s2, s3⟩ := hSw; go_simp <;> with_reducible rfl
    simp only [Act.put, List.getElem_toArray, List.getElem_cons_zero, List.getElem_cons_succ, List.setIfInBounds_toArray, List.set_cons_zero, List.set_cons_succ]
    refine wpAnyH_take (i := 20) (v := ?v69x20) rfl (by kernel_rfl) (by kernel_rfl) (by kernel_rfl) (fun _ _ _ h => h) (Or.inl ⟨by rfl, ?hy69x20⟩) (by assumption) ?rest69x20
    case hy69x20 => intro w hSw; obtain ⟨s1, s2, s3⟩ := hSw; go_simp <;> with_reducible rfl
    simp only [Act.put, List.getElem_toArray, List.getElem_cons_zero, List.getElem_cons_succ, List.setIfInBounds_toArray, List.set_cons_zero, List.set_cons_succ]
    refine wpAnyH_take (i := 21) (v := ?v70x21) rfl (by kernel_rfl) (by kernel_rfl) (by kernel_rfl) (fun _ _ _ h => h) (Or.inl ⟨by rfl, ?hy70x21⟩) (by assumption) ?rest70x21
    case hy70x21 => intro w hSw; obtain ⟨s1, s2, s3⟩ := hSw; go_simp <;> with_reducible rfl
    simp only [Act.put, List.getElem_toArray, List.getElem_cons_zero, List.getElem_cons_succ, List.setIfInBounds_toArray, List.set_cons_zero, List.set_cons_succ]
    refine wpAnyH_take (i := 22) (v := ?v71x22) rfl (by kernel_rfl) (by kernel_rfl) (by kernel_rfl) (fun _ _ _ h => h) (Or.inl ⟨by rfl, ?hy71x22⟩) (by assumption) ?rest71x22
    case hy71x22 => intro w hSw; obtain ⟨s1, s2, s3⟩ := hSw; go_simp <;> with_reducible rfl
    simp only [Act.put, List.getElem_toArray, List.getElem_cons_zero, List.getElem_cons_succ, List.setIfInBounds_toArray, List.set_cons_zero, List.set_cons_succ]
    refine wpAnyH_take (i := 23) (v := ?v72x23) rfl (by kernel_rfl) (by kernel_rfl) (by kernel_rfl) (fun _ _ _ h => h) (Or.inl ⟨by rfl, ?hy72x23⟩) (by assumption) ?rest72x23
    case hy72x23 => intro w hSw; obtain ⟨s1, s2, s3⟩ := hSw; go_simp <;> with_reducible rfl
    simp only [Act.put, List.getElem_toArray, List.getElem_cons_zero, List.getElem_cons_succ, List.setIfInBounds_toArray, List.set_cons_zero, List.set_cons_succ]
    refine wpAnyH_take (i := 24) (v := ?v73x24) rfl (by kernel_rfl) (by kernel_rfl) (by kernel_rfl) (fun _ _ _ h => h) (Or.inl ⟨by rfl, ?hy73x24⟩) (by assumption) ?rest73x24
    case hy73x24 => intro w hSw; obtain ⟨s1, s2, s3⟩ := hSw; go_simp <;> with_reducible rfl
    simp only [Act.put, List.getElem_toArray, List.getElem_cons_zero, List.getElem_cons_succ, List.setIfInBounds_toArray, List.set_cons_zero, List.set_cons_succ]
    refine wpAnyH_take (i := 25) (v := (.bool true)) rfl (by kernel_rfl) (by kernel_rfl) (by kernel_rfl) (fun _ _ _ h => h) (Or.inl ⟨by rfl, ?hy74x25⟩) (by assumption) ?rest74x25
    case hy74x25 => intro w hSw; obtain ⟨s1, s2, s3⟩ := hSw; go_simp <;> with_reducible rfl
    simp only [Act.put, List.getElem_toArray, List.getElem_cons_zero, List.getElem_cons_succ, List.setIfInBounds_toArray, List.set_cons_zero, List.set_cons_succ]
    refine wpAnyH_take (i := 26) (v := ?v75x26) rfl (by kernel_rfl) (by kernel_rfl) (by kernel_rfl) (fun _ _ _ h => h) (Or.inl ⟨by rfl, ?hy75x26⟩) (by assumption) ?rest75x26
    case hy75x26 => intro w hSw; obtain ⟨s1, s2, s3⟩ := hSw; go_simp <;> with_reducible rfl
    simp only [Act.put, List.getElem_toArray, List.getElem_cons_zero, List.getElem_cons_succ, List.setIfInBounds_toArray, List.set_cons_zero, List.set_cons_succ]
    refine wpAnyH_take (i := 27) (v := ?v76x27) rfl (by kernel_rfl) (by kernel_rfl) (by kernel_rfl) (fun _ _ _ h => h) (Or.inl ⟨by rfl, ?hy76x27⟩) (by assumption) ?rest76x27
    case hy76x27 => intro w hSw; obtain ⟨s1, s2, s3⟩ := hSw; go_simp <;> with_reducible rfl
    simp only [Act.put, List.getElem_toArray, List.getElem_cons_zero, List.getElem_cons_succ, List.setIfInBounds_toArray, List.set_cons_zero, List.set_cons_succ]
    refine wpAnyH_take (i := 28) (v := ?v77x28) rfl (by kernel_rfl) (by kernel_rfl) (by kernel_rfl) (fun _ _ _ h => h) (Or.inl ⟨by rfl, ?hy77x28⟩) (by assumption) ?rest77x28
    case hy77x28 => intro w hSw; obtain ⟨s1, s2, s3⟩ := hSw; go_simp <;> with_reducible rfl
    simp only [Act.put, List.getElem_toArray, List.getElem_cons_zero, List.getElem_cons_succ, List.setIfInBounds_toArray, List.set_cons_zero, List.set_cons_succ]
    refine wpAnyH_take (i := 29) (v := ?v78x29) rfl (by kernel_rfl) (by kernel_rfl) (by kernel_rfl) (fun _ _ _ h => h) (Or.inl ⟨by rfl, ?hy78x29⟩) (by assumption) ?rest78x29
    case hy78x29 => intro w hSw; obtain ⟨s1, s2, s3⟩ := hSw; go_simp <;> with_reducible rfl
    simp only [Act.put, List.getElem_toArray, List.getElem_cons_zero, List.getElem_cons_succ, List.setIfInBounds_toArray, List.set_cons_zero, List.set_cons_succ]
    refine wpAnyH_take (i := 31) (v := ?v79x31) rfl (by kernel_rfl) (by kernel_rfl) (by kernel_rfl) (fun _ _ _ h => h) (Or.inl ⟨by rfl, ?hy79x31⟩) (by assumption) ?rest79x31
    case hy79x31 => intro w hSw; obtain ⟨s1, s2, s3⟩ := hSw; go_simp <;> with_reducible rfl
    simp only [Act.put, List.getElem_toArray, List.getElem_cons_zero, List.getElem_cons_succ, List.setIfInBounds_toArray, List.set_cons_zero, List.set_cons_succ]
    refine wpAnyH_take (i := 32) (v := ?v80x32) rfl (by kernel_rfl) (by kernel_rfl) (by kernel_rfl) (fun _ _ _ h => h) (Or.inl ⟨by rfl, ?hy80x32⟩) (by assumption) ?rest80x32
    case hy80x32 => intro w hSw; obtain ⟨s1, s2, s3⟩ := hSw; go_simp <;> with_reducible rfl
    simp only [Act.put, List.getElem_toArray, List.getElem_cons_zero, List.getElem_cons_succ, List.setIfInBounds_toArray, List.set_cons_zero, List.set_cons_succ]
    refine wpAnyH_take (i := 33) (v := ?v81x33) rfl (by kernel_rfl) (by kernel_rfl) (by kernel_rfl) (fun _ _ _ h => h) (Or.inl ⟨by rfl, ?hy81x33⟩) (by assumption) ?rest81x33
    case hy81x33 => intro w hSw; obtain ⟨s1, s2, s3⟩ := hSw; go_simp <;> with_reducible rfl
    simp only [Act.put, List.getElem_toArray, List.getElem_cons_zero, List.getElem_cons_succ, List.setIfInBounds_toArray, List.set_cons_zero, List.set_cons_succ]
    refine wpAnyH_take (i := 34) (v := ?v82x34) rfl (by kernel_rfl) (by kernel_rfl) (by kernel_rfl) (fun _ _ _ h => h) (Or.inl ⟨by rfl, ?hy82x34⟩) (by assumption) ?rest82x34
    case hy82x34 => intro w hSw; obtain ⟨s1, s2, s3⟩ := hSw; go_simp <;> with_reducible rfl
    simp only [Act.put, List.getElem_toArray, List.getElem_cons_zero, List.getElem_cons_succ, List.setIfInBounds_toArray, List.set_cons_zero, List.set_cons_succ]
    have HB0 : Hid (Below w.heap.size w w.drew) := (Below.refl _ _).drew
    refine wpAnyH_ready (rs := [30]) (by kernel_rfl) (by simp) ?_
    refine AllReadyH.cons rfl (fun K hK => ?_) AllReadyH.nil
    go_simp
    refine (standing_yes (unhide HI _ (unhide HB0)) (unhide HO)).mono ?_
    rintro e y1 ⟨rfl, hb1⟩
    refine hK _ _ (unhide HS _ ((unhide HB0).trans hb1)) ?_
    clear hK hHeld
    have HB1 : Hid (Below w.heap.size w y1) := (unhide HB0).trans hb1
    clear hb1
    intro hHeld
    refine wpAnyH_take (i := 35) (v := (.bool true)) rfl (by kernel_rfl) (by kernel_rfl) (by kernel_rfl) (fun _ _ _ h => h) (Or.inl ⟨by rfl, ?hy83x35⟩) (by assumption) ?rest83x35
    case hy83x35 => intro w hSw; obtain ⟨s1, s2, s3⟩ := hSw; go_simp <;> with_reducible rfl
    simp only [Act.put, List.getElem_toArray, List.getElem_cons_zero, List.getElem_cons_succ, List.setIfInBounds_toArray, List.set_cons_zero, List.set_cons_succ]
    refine wpAnyH_take (i := 36) (v := ?v84x36) rfl (by kernel_rfl) (by kernel_rfl) (by kernel_rfl) (fun _ _ _ h => h) (Or.inl ⟨by rfl, ?hy84x36⟩) (by assumption) ?rest84x36
    case hy84x36 => intro w hSw; obtain ⟨s1, s2, s3⟩ := hSw; go_simp <;> with_reducible rfl
    simp only [Act.put, List.getElem_toArray, List.getElem_cons_zero, List.getElem_cons_succ, List.setIfInBounds_toArray, List.set_cons_zero, List.set_cons_succ]
    refine wpAnyH_take (i := 37) (v := ?v85x37) rfl (by kernel_rfl) (by kernel_rfl) (by kernel_rfl) (fun _ _ _ h => h) (Or.inl ⟨by rfl, ?hy85x37⟩) (by assumption) ?rest85x37
    case hy85x37 => intro w hSw; obtain ⟨s1, s2, s3⟩ := hSw; go_simp <;> with_reducible rfl
    simp only [Act.put, List.getElem_toArray, List.getElem_cons_zero, List.getElem_cons_succ, List.setIfInBounds_toArray, List.set_cons_zero, List.set_cons_succ]
    refine wpAnyH_take (i := 38) (v := ?v86x38) rfl (by kernel_rfl) (by kernel_rfl) (by kernel_rfl) (fun _ _ _ h => h) (Or.inl ⟨by rfl, ?hy86x38⟩) (by assumption) ?rest86x38
    case hy86x38 => intro w hSw; obtain ⟨s1, s2, s3⟩ := hSw; go_simp <;> with_reducible rfl
    simp only [Act.put, List.getElem_toArray, List.getElem_cons_zero, List.getElem_cons_succ, List.setIfInBounds_toArray, List.set_cons_zero, List.set_cons_succ]
    refine wpAnyH_take (i := 40) (v := ?v87x40) rfl (by kernel_rfl) (by kernel_rfl) (by kernel_rfl) (fun _ _ _ h => h) (Or.inl ⟨by rfl, ?hy87x40⟩) (by assumption) ?rest87x40
    case hy87x40 => intro w hSw; obtain ⟨s1, s2, s3⟩ := hSw; go_simp <;> with_reducible rfl
    simp only [Act.put, List.getElem_toArray, List.getElem_cons_zero, List.getElem_cons_succ, List.setIfInBounds_toArray, List.set_cons_zero, List.set_cons_succ]
    refine wpAnyH_ready (rs := [39]) (by kernel_rfl) (by simp) ?_
    refine AllReadyH.cons rfl (fun K hK => ?_) AllReadyH.nil
    go_simp
    refine (won_any (unhide HI _ (unhide HB1)) (unhide HO)).mono ?_
    rintro e y2 ⟨rfl, hb2⟩
    refine hK _ _ (unhide HS _ ((unhide HB1).trans (hb2.mono (unhide HB1).size))) ?_
    clear hK hHeld
    have HB2 : Hid (Below w.heap.size w y2) := (unhide HB1).trans (hb2.mono (unhide HB1).size)
    clear hb2
    intro hHeld
    refine wpAnyH_ready (rs := [41]) (by kernel_rfl) (by simp) ?_
    refine AllReadyH.cons rfl (fun K hK => ?_) AllReadyH.nil
    go_simp
    refine (rwon_any (unhide HR _ (unhide HB2)) (unhide HO)).mono ?_
    rintro e y3 ⟨rfl, hb3⟩
    refine hK _ _ (unhide HS _ ((unhide HB2).trans (hb3.mono (unhide HB2).size))) ?_
    clear hK hHeld
    have HB3 : Hid (Below w.heap.size w y3) := (unhide HB2).trans (hb3.mono (unhide HB2).size)
    clear hb3
    intro hHeld
    refine wpAnyH_take (i := 42) (v := (.bool true)) rfl (by kernel_rfl) (by kernel_rfl) (by kernel_rfl) (fun _ _ _ h => h) (Or.inl ⟨by rfl, ?hy88x42⟩) (by assumption) ?rest88x42
    case hy88x42 => intro w hSw; obtain ⟨s1, s2, s3⟩ := hSw; go_simp <;> with_reducible rfl
    simp only [Act.put, List.getElem_toArray, List.getElem_cons_zero, List.getElem_cons_succ, List.setIfInBounds_toArray, List.set_cons_zero, List.set_cons_succ]
    refine wpAnyH_take (i := 43) (v := ?v89x43) rfl (by kernel_rfl) (by kernel_rfl) (by kernel_rfl) (fun _ _ _ h => h) (Or.inl ⟨by rfl, ?hy89x43⟩) (by assumption) ?rest89x43
    case hy89x43 => intro w hSw; obtain ⟨s1, s2, s3⟩ := hSw; go_simp <;> with_reducible rfl
    simp only [Act.put, List.getElem_toArray, List.getElem_cons_zero, List.getElem_cons_succ, List.setIfInBounds_toArray, List.set_cons_zero, List.set_cons_succ]
    refine wpAnyH_take (i := 44) (v := ?v90x44) rfl (by kernel_rfl) (by kernel_rfl) (by kernel_rfl) (fun _ _ _ h => h) (Or.inl ⟨by rfl, ?hy90x44⟩) (by assumption) ?rest90x44
    case hy90x44 => intro w hSw; obtain ⟨s1, s2, s3⟩ := hSw; go_simp <;> with_reducible rfl
    simp only [Act.put, List.getElem_toArray, List.getElem_cons_zero, List.getElem_cons_succ, List.setIfInBounds_toArray, List.set_cons_zero, List.set_cons_succ]
    refine wpAnyH_take (i := 45) (v := ?v91x45) rfl (by kernel_rfl) (by kernel_rfl) (by kernel_rfl) (fun _ _ _ h => h) (Or.inl ⟨by rfl, ?hy91x45⟩) (by assumption) ?rest91x45
    case hy91x45 => intro w hSw; obtain ⟨s1, s2, s3⟩ := hSw; go_simp <;> with_reducible rfl
    simp only [Act.put, List.getElem_toArray, List.getElem_cons_zero, List.getElem_cons_succ, List.setIfInBounds_toArray, List.set_cons_zero, List.set_cons_succ]
    refine wpAnyH_take (i := 47) (v := ?v92x47) rfl (by kernel_rfl) (by kernel_rfl) (by kernel_rfl) (fun _ _ _ h => h) (Or.inl ⟨by rfl, ?hy92x47⟩) (by assumption) ?rest92x47
    case hy92x47 => intro w hSw; obtain ⟨s1, s2, s3⟩ := hSw; go_simp <;> with_reducible rfl
    simp only [Act.put, List.getElem_toArray, List.getElem_cons_zero, List.getElem_cons_succ, List.setIfInBounds_toArray, List.set_cons_zero, List.set_cons_succ]
    refine wpAnyH_ready (rs := [46]) (by kernel_rfl) (by simp) ?_
    refine AllReadyH.cons rfl (fun K hK => ?_) AllReadyH.nil
    go_simp
    refine (votes_any (unhide HI _ (unhide HB3))).mono ?_
    rintro e y4 ⟨rfl, J4, hb4⟩
    refine hK _ _ (unhide HS _ ((unhide HB3).trans (hb4.mono (unhide HB3).size))) ?_
    clear hK hHeld
    have HB4 : Hid (Below w.heap.size w y4) := (unhide HB3).trans (hb4.mono (unhide HB3).size)
    have HJ4 := hide J4
    clear hb4 J4
    intro hHeld
    refine wpAnyH_ready (rs := [48]) (by kernel_rfl) (by simp) ?_
    refine AllReadyH.cons rfl (fun K hK => ?_) AllReadyH.nil
    go_simp
    refine (list_any (unhide HR _ (unhide HB4)) (unhide HO)).mono ?_
    rintro e y5 ⟨v5, rfl, o5, hb5⟩
    refine hK _ _ (unhide HS _ ((unhide HB4).trans (hb5.mono (unhide HB4).size))) ?_
    clear hK hHeld
    have HB5 : Hid (Below w.heap.size w y5) := (unhide HB4).trans (hb5.mono (unhide HB4).size)
    have HW5 := hide (want_of_own o5)
    have HJ5 := hide ((unhide HJ4).below hb5)
    clear hb5 o5
    intro hHeld
    refine wpAnyH_ready (rs := [49]) (by kernel_rfl) (by simp) ?_
    refine AllReadyH.cons rfl (fun K hK => ?_) AllReadyH.nil
    go_simp
    refine (tells_any (unhide HJ5) (unhide HO).le v5 (unhide HW5) 0).mono ?_
    rintro e y6 ⟨rfl, hb6⟩
    refine hK _ _ (unhide HS _ ((unhide HB5).trans (hb6.mono (unhide HB5).size))) ?_
    clear hK hHeld
    have HB6 : Hid (Below w.heap.size w y6) := (unhide HB5).trans (hb6.mono (unhide HB5).size)
    clear hb6
    intro hHeld
    refine wpAnyH_take (i := 50) (v := ?v93x50) rfl (by kernel_rfl) (by kernel_rfl) (by kernel_rfl) (fun _ _ _ h => h) (Or.inl ⟨by rfl, ?hy93x50⟩) (by assumption) ?rest93x50
    case hy93x50 => intro w hSw; obtain ⟨s1, s2, s3⟩ := hSw; go_simp <;> with_reducible rfl
    simp only [Act.put, List.getElem_toArray, List.getElem_cons_zero, List.getElem_cons_succ, List.setIfInBounds_toArray, List.set_cons_zero, List.set_cons_succ]
    refine wpAnyH_take (i := 51) (v := ?v94x51) rfl (by kernel_rfl) (by kernel_rfl) (by kernel_rfl) (fun _ _ _ h => h) (Or.inl ⟨by rfl, ?hy94x51⟩) (by assumption) ?rest94x51
    case hy94x51 => intro w hSw; obtain ⟨s1, s2, s3⟩ := hSw; go_simp <;> with_reducible rfl
    simp only [Act.put, List.getElem_toArray, List.getElem_cons_zero, List.getElem_cons_succ, List.setIfInBounds_toArray, List.set_cons_zero, List.set_cons_succ]
    refine wpAnyH_take (i := 52) (v := ?v95x52) rfl (by kernel_rfl) (by kernel_rfl) (by kernel_rfl) (fun _ _ _ h => h) (Or.inl ⟨by rfl, ?hy95x52⟩) (by assumption) ?rest95x52
    case hy95x52 => intro w hSw; obtain ⟨s1, s2, s3⟩ := hSw; go_simp <;> with_reducible rfl
    simp only [Act.put, List.getElem_toArray, List.getElem_cons_zero, List.getElem_cons_succ, List.setIfInBounds_toArray, List.set_cons_zero, List.set_cons_succ]
    refine wpAnyH_take (i := 54) (v := ?v96x54) rfl (by kernel_rfl) (by kernel_rfl) (by kernel_rfl) (fun _ _ _ h => h) (Or.inl ⟨by rfl, ?hy96x54⟩) (by assumption) ?rest96x54
    case hy96x54 => intro w hSw; obtain ⟨s1, s2, s3⟩ := hSw; go_simp <;> with_reducible rfl
    simp only [Act.put, List.getElem_toArray, List.getElem_cons_zero, List.getElem_cons_succ, List.setIfInBounds_toArray, List.set_cons_zero, List.set_cons_succ]
    refine wpAnyH_ready (rs := [53]) (by kernel_rfl) (by simp) ?_
    refine AllReadyH.cons rfl (fun K hK => ?_) AllReadyH.nil
    go_simp
    refine (votes_any (unhide HI _ (unhide HB6))).mono ?_
    rintro e y7 ⟨rfl, J7, hb7⟩
    refine hK _ _ (unhide HS _ ((unhide HB6).trans (hb7.mono (unhide HB6).size))) ?_
    clear hK hHeld
    have HB7 : Hid (Below w.heap.size w y7) := (unhide HB6).trans (hb7.mono (unhide HB6).size)
    have HJ7 := hide J7
    clear hb7 J7
    intro hHeld
    refine wpAnyH_ready (rs := [55]) (by kernel_rfl) (by simp) ?_
    refine AllReadyH.cons rfl (fun K hK => ?_) AllReadyH.nil
    go_simp
    refine (list_any (unhide HR _ (unhide HB7)) (unhide HO)).mono ?_
    rintro e y8 ⟨v8, rfl, o8, hb8⟩
    refine hK _ _ (unhide HS _ ((unhide HB7).trans (hb8.mono (unhide HB7).size))) ?_
    clear hK hHeld
    have HB8 : Hid (Below w.heap.size w y8) := (unhide HB7).trans (hb8.mono (unhide HB7).size)
    have HW8 := hide (want_of_own o8)
    have HJ8 := hide ((unhide HJ7).below hb8)
    clear hb8 o8
    intro hHeld
    refine wpAnyH_ready (rs := [56]) (by kernel_rfl) (by simp) ?_
    refine AllReadyH.cons rfl (fun K hK => ?_) AllReadyH.nil
    go_simp
    refine (tells_any (unhide HJ8) (unhide HO).le v8 (unhide HW8) 1).mono ?_
    rintro e y9 ⟨rfl, hb9⟩
    refine hK _ _ (unhide HS _ ((unhide HB8).trans (hb9.mono (unhide HB8).size))) ?_
    clear hK hHeld
    have HB9 : Hid (Below w.heap.size w y9) := (unhide HB8).trans (hb9.mono (unhide HB8).size)
    clear hb9
    intro hHeld
    refine wpAnyH_take (i := 57) (v := ?v97x57) rfl (by kernel_rfl) (by kernel_rfl) (by kernel_rfl) (fun _ _ _ h => h) (Or.inl ⟨by rfl, ?hy97x57⟩) (by assumption) ?rest97x57
    case hy97x57 => intro w hSw; obtain ⟨s1, s2, s3⟩ := hSw; go_simp <;> with_reducible rfl
    simp only [Act.put, List.getElem_toArray, List.getElem_cons_zero, List.getElem_cons_succ, List.setIfInBounds_toArray, List.set_cons_zero, List.set_cons_succ]
    refine wpAnyH_take (i := 58) (v := ?v98x58) rfl (by kernel_rfl) (by kernel_rfl) (by kernel_rfl) (fun _ _ _ h => h) (Or.inl ⟨by rfl, ?hy98x58⟩) (by assumption) ?rest98x58
    case hy98x58 => intro w hSw; obtain ⟨s1, s2, s3⟩ := hSw; go_simp <;> with_reducible rfl
    simp only [Act.put, List.getElem_toArray, List.getElem_cons_zero, List.getElem_cons_succ, List.setIfInBounds_toArray, List.set_cons_zero, List.set_cons_succ]
    refine wpAnyH_done (by kernel_rfl) ?_ _
    go_wp2
    go_ret
    exact ⟨rfl, unhide HB9⟩
end Go.Proofs.Ytpadbbkklmgimaa
