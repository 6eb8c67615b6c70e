/- Checkpoints: sealed, Encode. -/
import Derived.Test.YtiijbklaapaheaaCA
import Derived.Test.YtiijbklaapaheaaKJ
import Derived.Test.YtiijbklaapaheaaKI
namespace Go.Proofs.Ytiijbklaapaheaa
open Go.RowKit
set_option maxRecDepth 100000

theorem putL_byt (l : List Int) : Byt (putL l) := by
  induction l with
  | nil => intro b hb; cases hb
  | cons x r ih => exact Byt.append (numB_byte x) ih
theorem bodyB_byt {number slot last : Int} {ds : List Int} (hd : Byt ds) : Byt (bodyB number slot last ds) := ((putL_byt _).append (putL_byt _)).append hd

theorem own_lower {w : World} {b b' e size : Nat} {v : Value} {n : Nat} {xs : List Value} (h : w.ownsRow b e size v n xs) (hb : b' ≤ b) : w.ownsRow b' e size v n xs := by
  refine ⟨h.1, ?_⟩
  rcases h.2 with hn | ⟨g, cap, cur, hv, hg, r⟩
  · exact .inl hn
  · exact .inr ⟨g, cap, cur, hv, Nat.le_trans hb hg, r⟩
theorem faultE_ok {number slot last : Int} {len : Nat} (h : faultE number slot last len = 0) : len ≤ 524288 ∧ I64 [number, slot, last] := by
  unfold faultE at h
  by_cases c : 1 ≤ number ∧ number ≤ 1099511627776 ∧ isC slot = true ∧ isC last = true
  · rw [if_pos c] at h
    by_cases c2 : len ≤ 524288
    · refine ⟨c2, fun x hx => ?_⟩
      have h1 := isC_iff.1 c.2.2.1
      have h2 := isC_iff.1 c.2.2.2
      have h3 := c.1
      have h4 := c.2.1
      have hx3 : x < 3 := hx
      rcases (show x = 0 ∨ x = 1 ∨ x = 2 by omega) with rfl | rfl | rfl <;> simp <;> omega
    · rw [if_neg c2] at h; simp at h
  · rw [if_neg c] at h; simp at h

/-- A box of a checkpoint. -/
theorem box3 {w w1 : World} {x0 x1 x2 : Value} {t : TypeId} (hb : Below (w.heap.size + 1) (w.alloc (.cells #[x0, x1, x2] t)) w1) :
    w1.cell? ⟨w.heap.size, 0, none⟩ = some x0 ∧ w1.cell? ⟨w.heap.size, 1, none⟩ = some x1 ∧ w1.cell? ⟨w.heap.size, 2, none⟩ = some x2 := by
  have c : ∀ k, w1.cell? ⟨w.heap.size, k, none⟩ = (#[x0, x1, x2] : Array Value)[k]? := fun k => (hb.cell (p := ⟨w.heap.size, k, none⟩) (Nat.lt_succ_self _)).trans (World.cell?_alloc_mark w _ t (0, 0) k)
  exact ⟨c 0, c 1, c 2⟩

set_option maxHeartbeats 1600000 in
theorem sealed_any (number slot last : Int) (dv : Value) (ds : List Int) (w : World) (hd : Sees w .u8 dv ds) (hby : Byt ds) (hl : ds.length ≤ 524288) (hI : I64 [number, slot, last]) :
    Calls Try.prog 29 #[.int .i64 number, .agg #[.int .i64 slot, .int .i64 last, dv]] w fun e w' => ∃ v, e = .returned v ∧ w'.ownsRow w.heap.size 5 1 v (ckB number slot last ds).length (ints .u8 (ckB number slot last ds)) ∧ Below w.heap.size w w' := by
  obtain ⟨ao, cap, rfl, hlc, hnil, hc⟩ := id hd
  obtain ⟨B, hB⟩ : ∃ B, w.alloc (.cells #[.int .i64 slot, .int .i64 last, .slice ao ds.length cap] 24) = B := ⟨_, rfl⟩
  have hb0 : Below w.heap.size w B := hB ▸ (Below.refl _ _).alloc (Nat.le_refl _) _
  have hsz : B.heap.size = w.heap.size + 1 := by rw [← hB]; simp
  have HBX : Hid (∀ x, Below B.heap.size B x → x.cell? ⟨w.heap.size, 0, none⟩ = some (.int .i64 slot) ∧ x.cell? ⟨w.heap.size, 1, none⟩ = some (.int .i64 last) ∧ x.cell? ⟨w.heap.size, 2, none⟩ = some (.slice ao ds.length cap)) := fun x hx => box3 (by rw [hB, ← hsz]; exact hx)
  have HD : Hid (∀ x, Below w.heap.size w x → Sees x .u8 (.slice ao ds.length cap) ds) := fun x hx => hd.below hx
  have HB0 := hide hb0
  have HSZ := hide hsz
  have hbl := bodyB_le number slot last ds
  have hn0 := num_any (.slice none 0 0) (.slice (some ⟨B.drew.heap.size, 0, none⟩) 3 3) [] [number, slot, last] _ (Sees.nil _ _) (sees_new B.drew .i64 [number, slot, last] 2 3 rfl) (by simp) hI (by have := sizeL_le [number, slot, last]; simp at this ⊢; omega)
  have HN : Hid (Calls Try.prog 60 #[.slice none 0 0, .slice (some ⟨B.heap.size, 0, none⟩) 3 3] (B.drew.alloc (.cells #[.int .i64 number, .int .i64 slot, .int .i64 last] 2)) fun e w' => ∃ v', e = .returned v' ∧ w'.ownsRow (B.heap.size + 1) 5 1 v' (sizeL [number, slot, last]) (ints .u8 (putL [number, slot, last])) ∧ Below (B.heap.size + 1) (B.drew.alloc (.cells #[.int .i64 number, .int .i64 slot, .int .i64 last] 2)) w') := by
    refine hn0.mono ?_
    rintro e w' ⟨v', he, ho, hb⟩
    have hz : (B.drew.alloc (.cells (ints .i64 [number, slot, last]).toArray 2)).heap.size = B.heap.size + 1 := by rw [World.size_alloc]; rfl
    rw [hz] at ho hb
    refine ⟨v', he, ?_, hb⟩
    simpa using ho
  clear hn0
  clear hb0 hsz hd hc
  go_enter Try.func29, Try.ntmps29
  go_wp2_with (rw [hB])
  refine wp_region_held_drew (S := fun x => x.cell? ⟨w.heap.size, 0, none⟩ = some (.int .i64 slot) ∧ x.cell? ⟨w.heap.size, 1, none⟩ = some (.int .i64 last) ∧ x.cell? ⟨w.heap.size, 2, none⟩ = some (.slice ao ds.length cap)) (by kernel_rfl) (unhide HBX _ (Below.refl _ _).drew) (fun hHeld => ?_)
  refine wpAnyH_take (i := 0) (v := ?v1x0) rfl (by kernel_rfl) (by kernel_rfl) (by kernel_rfl) (fun _ _ _ h => h) (Or.inl ⟨by rfl, ?hy1x0⟩) (by assumption) ?rest1x0
  case hy1x0 => intro w hSw; obtain ⟨s0, s1, s2⟩ := hSw; go_simp <;> with_reducible rfl
  simp only [Act.put, List.getElem_toArray, List.getElem_cons_zero, List.setIfInBounds_toArray, List.set_cons_zero, List.set_cons_succ]
  refine wpAnyH_take (i := 1) (v := ?v2x1) rfl (by kernel_rfl) (by kernel_rfl) (by kernel_rfl) (fun _ _ _ h => h) (Or.inl ⟨by rfl, ?hy2x1⟩) (by assumption) ?rest2x1
  case hy2x1 => intro w hSw; obtain ⟨s0, s1, s2⟩ := hSw; go_simp <;> with_reducible rfl
  simp only [Act.put, List.getElem_toArray, List.getElem_cons_zero, List.getElem_cons_succ, List.setIfInBounds_toArray, List.set_cons_zero, List.set_cons_succ]
  refine wpAnyH_take (i := 2) (v := ?v3x2) rfl (by kernel_rfl) (by kernel_rfl) (by kernel_rfl) (fun _ _ _ h => h) (Or.inl ⟨by rfl, ?hy3x2⟩) (by assumption) ?rest3x2
  case hy3x2 => intro w hSw; obtain ⟨s0, s1, s2⟩ := hSw; go_simp <;> with_reducible rfl
  simp only [Act.put, List.getElem_toArray, List.getElem_cons_zero, List.getElem_cons_succ, List.setIfInBounds_toArray, List.set_cons_zero, List.set_cons_succ]
  refine wpAnyH_take (i := 3) (v := ?v4x3) rfl (by kernel_rfl) (by kernel_rfl) (by kernel_rfl) (fun _ _ _ h => h) (Or.inl ⟨by rfl, ?hy4x3⟩) (by assumption) ?rest4x3
  case hy4x3 => intro w hSw; obtain ⟨s0, s1, s2⟩ := hSw; go_simp <;> with_reducible rfl
  simp only [Act.put, List.getElem_toArray, List.getElem_cons_zero, List.getElem_cons_succ, List.setIfInBounds_toArray, List.set_cons_zero, List.set_cons_succ]
  refine wpAnyH_take (i := 4) (v := ?v5x4) rfl (by kernel_rfl) (by kernel_rfl) (by kernel_rfl) (fun _ _ _ h => h) (Or.inl ⟨by rfl, ?hy5x4⟩) (by assumption) ?rest5x4
  case hy5x4 => intro w hSw; obtain ⟨s0, s1, s2⟩ := hSw; go_simp <;> with_reducible rfl
  simp only [Act.put, List.getElem_toArray, List.getElem_cons_zero, List.getElem_cons_succ, List.setIfInBounds_toArray, List.set_cons_zero, List.set_cons_succ]
  refine wpAnyH_take (i := 7) (v := ?v6x7) rfl (by kernel_rfl) (by kernel_rfl) (by kernel_rfl) (fun _ _ _ h => h) (Or.inl ⟨by rfl, ?hy6x7⟩) (by assumption) ?rest6x7
  case hy6x7 => intro w hSw; obtain ⟨s0, s1, s2⟩ := hSw; go_simp <;> with_reducible rfl
  simp only [Act.put, List.getElem_toArray, List.getElem_cons_zero, List.getElem_cons_succ, List.setIfInBounds_toArray, List.set_cons_zero, List.set_cons_succ]
  refine wpAnyH_take (i := 8) (v := ?v7x8) rfl (by kernel_rfl) (by kernel_rfl) (by kernel_rfl) (fun _ _ _ h => h) (Or.inl ⟨by rfl, ?hy7x8⟩) (by assumption) ?rest7x8
  case hy7x8 => intro w hSw; obtain ⟨s0, s1, s2⟩ := hSw; go_simp <;> with_reducible rfl
  simp only [Act.put, List.getElem_toArray, List.getElem_cons_zero, List.getElem_cons_succ, List.setIfInBounds_toArray, List.set_cons_zero, List.set_cons_succ]
  refine wpAnyH_ready (rs := [5]) (by kernel_rfl) (by simp) ?_
  refine AllReadyH.cons rfl (fun K hK => ?_) AllReadyH.nil
  go_simp
  refine hK _ _ (unhide HBX _ ((Below.refl _ _).drew.alloc (Nat.le_refl _) _)) ?_
  clear hK hHeld
  intro hHeld
  refine wpAnyH_ready (rs := [6]) (by kernel_rfl) (by simp) ?_
  refine AllReadyH.cons rfl (fun K hK => ?_) AllReadyH.nil
  go_simp
  refine (unhide HN).mono ?_
  rintro e y1 ⟨v1, rfl, o1, hb1⟩
  refine hK _ _ (unhide HBX _ (((Below.refl _ _).drew.alloc (Nat.le_refl _) _).trans (hb1.mono (Nat.le_succ _)))) ?_
  clear hK hHeld
  obtain ⟨a1, c1, rfl⟩ := own_shape o1
  have HS1 := hide (sees_of_own o1).2
  have HB1 : Hid (Below B.heap.size B y1) := ((Below.refl _ _).drew.alloc (Nat.le_refl _) _).trans (hb1.mono (Nat.le_succ _))
  have HF1 : Hid (Below w.heap.size w y1) := (unhide HB0).trans ((unhide HB1).mono (unhide HB0).size)
  have HBl := hide (blob_any _ _ _ ds y1 (unhide HS1) (unhide HD y1 (unhide HF1)) (by have := sizeL_le [number, slot, last]; rw [putL_length]; simp at this; omega))
  clear o1 hb1
  intro hHeld
  refine wpAnyH_ready (rs := [9]) (by kernel_rfl) (by simp) ?_
  refine AllReadyH.cons rfl (fun K hK => ?_) AllReadyH.nil
  go_simp
  refine (unhide HBl).mono ?_
  rintro e y2 ⟨v2, rfl, o2, hb2⟩
  refine hK _ _ (unhide HBX _ ((unhide HB1).trans (hb2.mono (unhide HB1).size))) ?_
  clear hK hHeld
  obtain ⟨a2, c2, rfl⟩ := own_shape o2
  have HS2 := hide (sees_of_own o2).2
  have HB2 : Hid (Below B.heap.size B y2) := (unhide HB1).trans (hb2.mono (unhide HB1).size)
  have HF2 : Hid (Below w.heap.size w y2) := (unhide HB0).trans ((unhide HB2).mono (unhide HB0).size)
  have HSl := hide (seal_ok _ (bodyB number slot last ds) y2 (unhide HS2) (bodyB_byt hby) (by omega))
  clear o2 hb2
  intro hHeld
  refine wpAnyH_ready (rs := [10]) (by kernel_rfl) (by simp) ?_
  refine AllReadyH.cons rfl (fun K hK => ?_) AllReadyH.nil
  go_simp
  refine (unhide HSl).mono ?_
  rintro e y3 ⟨v3, rfl, o3, hb3⟩
  refine hK _ _ (unhide HBX _ ((unhide HB2).trans (hb3.mono (unhide HB2).size))) ?_
  clear hK hHeld
  obtain ⟨a3, c3, rfl⟩ := own_shape o3
  have HF3 : Hid (Below w.heap.size w y3) := (unhide HF2).trans (hb3.mono (unhide HF2).size)
  have HO3 := hide (own_lower o3 (unhide HF2).size)
  clear o3 hb3
  intro hHeld
  refine wpAnyH_take (i := 11) (v := ?v8x11) rfl (by kernel_rfl) (by kernel_rfl) (by kernel_rfl) (fun _ _ _ h => h) (Or.inl ⟨by rfl, ?hy8x11⟩) (by assumption) ?rest8x11
  case hy8x11 => intro w hSw; obtain ⟨s0, s1, s2⟩ := hSw; go_simp <;> with_reducible rfl
  simp only [Act.put, List.getElem_toArray, List.getElem_cons_zero, List.getElem_cons_succ, List.setIfInBounds_toArray, List.set_cons_zero, List.set_cons_succ]
  refine wpAnyH_take (i := 12) (v := ?v9x12) rfl (by kernel_rfl) (by kernel_rfl) (by kernel_rfl) (fun _ _ _ h => h) (Or.inl ⟨by rfl, ?hy9x12⟩) (by assumption) ?rest9x12
  case hy9x12 => intro w hSw; obtain ⟨s0, s1, s2⟩ := hSw; go_simp <;> with_reducible rfl
  simp only [Act.put, List.getElem_toArray, List.getElem_cons_zero, List.getElem_cons_succ, List.setIfInBounds_toArray, List.set_cons_zero, List.set_cons_succ]
  refine wpAnyH_take (i := 13) (v := ?v10x13) rfl (by kernel_rfl) (by kernel_rfl) (by kernel_rfl) (fun _ _ _ h => h) (Or.inl ⟨by rfl, ?hy10x13⟩) (by assumption) ?rest10x13
  case hy10x13 => intro w hSw; obtain ⟨s0, s1, s2⟩ := hSw; go_simp <;> with_reducible rfl
  simp only [Act.put, List.getElem_toArray, List.getElem_cons_zero, List.getElem_cons_succ, List.setIfInBounds_toArray, List.set_cons_zero, List.set_cons_succ]
  refine wpAnyH_take (i := 14) (v := ?v11x14) rfl (by kernel_rfl) (by kernel_rfl) (by kernel_rfl) (fun _ _ _ h => h) (Or.inl ⟨by rfl, ?hy11x14⟩) (by assumption) ?rest11x14
  case hy11x14 => intro w hSw; obtain ⟨s0, s1, s2⟩ := hSw; go_simp <;> with_reducible rfl
  simp only [Act.put, List.getElem_toArray, List.getElem_cons_zero, List.getElem_cons_succ, List.setIfInBounds_toArray, List.set_cons_zero, List.set_cons_succ]
  refine wpAnyH_take (i := 15) (v := ?v12x15) rfl (by kernel_rfl) (by kernel_rfl) (by kernel_rfl) (fun _ _ _ h => h) (Or.inl ⟨by rfl, ?hy12x15⟩) (by assumption) ?rest12x15
  case hy12x15 => intro w hSw; obtain ⟨s0, s1, s2⟩ := hSw; go_simp <;> with_reducible rfl
  simp only [Act.put, List.getElem_toArray, List.getElem_cons_zero, List.getElem_cons_succ, List.setIfInBounds_toArray, List.set_cons_zero, List.set_cons_succ]
  refine wpAnyH_done (by kernel_rfl) ?_ _
  go_wp2
  go_ret
  exact ⟨_, rfl, unhide HO3, unhide HF3⟩

set_option maxHeartbeats 800000 in
theorem encode_ok (number slot last : Int) (dv : Value) (ds : List Int) (w : World) (hd : Sees w .u8 dv ds) (hby : Byt ds) (hf : faultE number slot last ds.length = 0) :
    Calls Try.prog 8 #[.int .i64 number, .agg #[.int .i64 slot, .int .i64 last, dv]] w fun e w' => ∃ v, e = .returned (.tuple #[v, .int .i64 0]) ∧ w'.ownsRow w.heap.size 5 1 v (ckB number slot last ds).length (ints .u8 (ckB number slot last ds)) ∧ Below w.heap.size w w' := by
  have hfi := faultE_ok hf
  have hI : I64 [number, slot, last] := hfi.2
  obtain ⟨ao, cap, rfl, hlc, hnil, hc⟩ := id hd
  obtain ⟨B, hB⟩ : ∃ B, w.alloc (.cells #[.int .i64 slot, .int .i64 last, .slice ao ds.length cap] 24) = B := ⟨_, rfl⟩
  have hb0 : Below w.heap.size w B := hB ▸ (Below.refl _ _).alloc (Nat.le_refl _) _
  have hsz : B.heap.size = w.heap.size + 1 := by rw [← hB]; simp
  have HBX : Hid (∀ x, Below B.heap.size B x → x.cell? ⟨w.heap.size, 0, none⟩ = some (.int .i64 slot) ∧ x.cell? ⟨w.heap.size, 1, none⟩ = some (.int .i64 last) ∧ x.cell? ⟨w.heap.size, 2, none⟩ = some (.slice ao ds.length cap)) := fun x hx => box3 (by rw [hB, ← hsz]; exact hx)
  have HB0 := hide hb0
  have HFt := hide (fault_any number slot last ao ds.length cap B (by have := hfi.1; omega))
  rw [hf] at HFt
  obtain ⟨q0, q1, q2⟩ := unhide HBX B (Below.refl _ _)
  have HD : Hid (∀ x, Below w.heap.size w x → Sees x .u8 (.slice ao ds.length cap) ds) := fun x hx => hd.below hx
  clear hb0 hsz hd hc
  go_enter Try.func8, Try.ntmps8
  go_wp2_with (rw [hB])
  refine (unhide HFt).mono ?_
  rintro e w1 ⟨rfl, hb1⟩
  have HF1 := hide ((unhide HB0).trans (hb1.mono (unhide HB0).size))
  clear q0 q1 q2
  obtain ⟨q0, q1, q2⟩ := unhide HBX w1 hb1
  have HSe := hide (sealed_any number slot last _ ds w1 (unhide HD w1 (unhide HF1)) hby hfi.1 hI)
  clear hb1
  go_wp2_with fail
  refine (unhide HSe).mono ?_
  rintro e w2 ⟨v2, rfl, o2, hb2⟩
  obtain ⟨a2, c2, rfl⟩ := own_shape o2
  have HO2 := hide (own_lower o2 (unhide HF1).size)
  have HF2 := hide ((unhide HF1).trans (hb2.mono (unhide HF1).size))
  clear o2 hb2
  go_wp2
  go_ret2
  exact ⟨_, rfl, unhide HO2, unhide HF2⟩

set_option maxHeartbeats 800000 in
theorem encode_err (number slot last : Int) (ao : Option Addr) (len cap : Nat) (w : World) (hl : len ≤ 9223372036854775807) (hf : faultE number slot last len ≠ 0) :
    Calls Try.prog 8 #[.int .i64 number, .agg #[.int .i64 slot, .int .i64 last, .slice ao len cap]] w fun e w' => e = .returned (.tuple #[.slice none 0 0, .int .i64 (faultE number slot last len)]) ∧ Below w.heap.size w w' := by
  obtain ⟨B, hB⟩ : ∃ B, w.alloc (.cells #[.int .i64 slot, .int .i64 last, .slice ao len cap] 24) = B := ⟨_, rfl⟩
  have hb0 : Below w.heap.size w B := hB ▸ (Below.refl _ _).alloc (Nat.le_refl _) _
  have hsz : B.heap.size = w.heap.size + 1 := by rw [← hB]; simp
  obtain ⟨q0, q1, q2⟩ : B.cell? ⟨w.heap.size, 0, none⟩ = some (.int .i64 slot) ∧ B.cell? ⟨w.heap.size, 1, none⟩ = some (.int .i64 last) ∧ B.cell? ⟨w.heap.size, 2, none⟩ = some (.slice ao len cap) := box3 (by rw [hB]; exact Below.refl _ _)
  have HB0 := hide hb0
  have HFt := hide (fault_any number slot last ao len cap B hl)
  obtain ⟨er, her⟩ : ∃ er, faultE number slot last len = er := ⟨_, rfl⟩
  rw [her] at HFt hf ⊢
  clear hb0 hsz her
  go_enter Try.func8, Try.ntmps8
  go_wp2_with (rw [hB])
  refine (unhide HFt).mono ?_
  rintro e w1 ⟨rfl, hb1⟩
  have HF1 := hide ((unhide HB0).trans (hb1.mono (unhide HB0).size))
  clear hb1 q0 q1 q2
  go_wp2
  go_ret2
  exact ⟨rfl, unhide HF1⟩
end Go.Proofs.Ytiijbklaapaheaa
