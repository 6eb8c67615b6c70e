/- Most, and the document's; same; the document's count and Encode. -/
import Derived.Test.YtiijbklaapaheaaKE
import Derived.Test.YtiijbklaapaheaaKA
import Derived.Test.YtiijbklaapaheaaKB
namespace Go.Proofs.Ytiijbklaapaheaa
open Go.RowKit
set_option maxRecDepth 100000

theorem ret_i {k : IntKind} {a b : Int} (h : a = b) : Ending.returned (.int k a) = .returned (.int k b) := by rw [h]
def mst (b : Int) : Int := if b < 2 ∨ 1024 < b then 0 else min 524288 (b / 2 * 4096 - 64)

set_option maxHeartbeats 800000 in
theorem hsize_nil (n : Nat) (w : World) (hn : n ≤ 1099511627776) :
    Calls Try.prog 41 #[.agg #[.pointer none, .int .i64 0, .int .i64 n]] w fun e w' => e = .returned (.int .i64 ((n * 4096 : Nat) : Int)) ∧ Below w.heap.size w w' := by
  go_enter Try.func41, Try.ntmps41
  go_wp2
  go_ret
  exact ⟨by show Ending.returned (.int .i64 ((n : Int) * 16 * 256)) = _; rw [show ((n : Int) * 16 * 256) = ((n * 4096 : Nat) : Int) by omega], (Below.refl _ _).alloc (Nat.le_refl _) _⟩

set_option maxHeartbeats 800000 in
theorem most_any (f b : Int) (w : World) :
    Calls Try.prog 15 #[.agg #[.int .i64 f, .int .i64 b]] w fun e w' => e = .returned (.int .i64 (mst b)) ∧ Below w.heap.size w w' := by
  by_cases c : b < 2
  · rw [show mst b = 0 by rw [mst, if_pos (Or.inl c)]]
    go_enter Try.func15, Try.ntmps15
    go_wp2
    go_ret
    exact ⟨rfl, (Below.refl _ _).alloc (Nat.le_refl _) _⟩
  · by_cases c1 : 1024 < b
    · rw [show mst b = 0 by rw [mst, if_pos (Or.inr c1)]]
      go_enter Try.func15, Try.ntmps15
      go_wp2
      go_ret
      exact ⟨rfl, (Below.refl _ _).alloc (Nat.le_refl _) _⟩
    · obtain ⟨m, hm⟩ : ∃ m : Nat, b / 2 = (m : Int) := ⟨(b / 2).toNat, by omega⟩
      have hm2 : m ≤ 512 := by omega
      have hq : IntKind.i64.wrap (b.tdiv 2) = (m : Int) := by rw [Int.tdiv_eq_ediv_of_nonneg (by omega), hm, IntKind.wrap_i64]; omega
      have HR : Hid (mst b = min 524288 ((m : Int) * 4096 - 64)) := by show _ = _; rw [mst, if_neg (by omega), hm]
      have HH := hide (fun x => hsize_nil m x (by omega))
      have hb0 : 2 ≤ b := by omega
      have hb1 : b ≤ 1024 := by omega
      go_enter Try.func15, Try.ntmps15
      go_wp2_with (first | rw [hm] | (go_at_call 41; refine (unhide HH _).mono ?_; rintro e w1 ⟨rfl, b1⟩; have HB1 := hide b1; clear b1))
      go_ret
      exact ⟨ret_i (unhide HR).symm, (((Below.refl _ _).alloc (Nat.le_refl _) _).alloc (by simp) _).trans ((unhide HB1).mono (by simp; omega))⟩

set_option maxHeartbeats 800000 in
theorem rmost_any (f b : Int) (w : World) :
    Calls Try.prog 16 #[.agg #[.int .i64 f, .int .i64 b]] w fun e w' => e = .returned (.int .i64 (mst b)) ∧ Below w.heap.size w w' := by
  by_cases c : b < 2
  · rw [show mst b = 0 by rw [mst, if_pos (Or.inl c)]]
    go_enter Try.func16, Try.ntmps16
    go_wp2
    go_ret
    exact ⟨rfl, (Below.refl _ _).alloc (Nat.le_refl _) _⟩
  · by_cases c1 : 1024 < b
    · rw [show mst b = 0 by rw [mst, if_pos (Or.inr c1)]]
      go_enter Try.func16, Try.ntmps16
      go_wp2
      go_ret
      exact ⟨rfl, (Below.refl _ _).alloc (Nat.le_refl _) _⟩
    · obtain ⟨m, hm⟩ : ∃ m : Nat, b / 2 = (m : Int) := ⟨(b / 2).toNat, by omega⟩
      have hm2 : m ≤ 512 := by omega
      have hm1 : 1 ≤ m := by omega
      have HR : Hid (mst b = min 524288 ((m : Int) * 4096 - 64)) := by show _ = _; rw [mst, if_neg (by omega), hm]
      have hb0 : 2 ≤ b := by omega
      have hb1 : b ≤ 1024 := by omega
      go_enter Try.func16, Try.ntmps16
      go_wp2_with (first | rw [hm])
      go_ret
      refine ⟨ret_i ?_, (Below.refl _ _).alloc (Nat.le_refl _) _⟩
      rw [unhide HR]
      omega

set_option maxHeartbeats 400000 in
theorem count_any (x : Int) (w : World) : Calls Try.prog 30 #[.int .i64 x] w fun e w' => e = .returned (.bool (isC x)) ∧ w = w' := by
  by_cases c : 0 ≤ x
  · go_enter Try.func30, Try.ntmps30
    go_wp2
    go_ret
    exact ⟨by simp [isC, c], rfl⟩
  · go_enter Try.func30, Try.ntmps30
    go_wp2
    go_ret
    exact ⟨by simp [isC]; omega, rfl⟩

set_option maxHeartbeats 800000 in
theorem same_any (s1 l1 s2 l2 : Int) (av bv : Value) (xs ys : List Int) (w : World) (ha : Sees w .u8 av xs) (hb : Sees w .u8 bv ys) (hx : Byt xs) (hy : Byt ys) :
    Calls Try.prog 14 #[.agg #[.int .i64 s1, .int .i64 l1, av], .agg #[.int .i64 s2, .int .i64 l2, bv]] w fun e w' => e = .returned (.bool (decide (s1 = s2) && decide (l1 = l2) && decide (xs = ys))) ∧ Below w.heap.size w w' := by
  obtain ⟨ao, ac, rfl, _, _, _⟩ := id ha
  obtain ⟨bo, bc, rfl, _, _, _⟩ := id hb
  obtain ⟨B, hB⟩ : ∃ B, (w.alloc (.cells #[.int .i64 s1, .int .i64 l1, .slice ao xs.length ac] 24)).alloc (.cells #[.int .i64 s2, .int .i64 l2, .slice bo ys.length bc] 24) = B := ⟨_, rfl⟩
  have HBB : Hid (Below w.heap.size w B) := hB ▸ ((Below.refl _ _).alloc (Nat.le_refl _) _).alloc (by simp) _
  have HE := hide (equal_any _ _ xs ys B (ha.below (unhide HBB)) (hb.below (unhide HBB)) hx hy)
  have q0 : B.cell? ⟨w.heap.size, 0, none⟩ = some (.int .i64 s1) := by rw [← hB]; simp [go_sem, World.cell?_alloc_old]
  have q1 : B.cell? ⟨w.heap.size, 1, none⟩ = some (.int .i64 l1) := by rw [← hB]; simp [go_sem, World.cell?_alloc_old]
  have q2 : B.cell? ⟨w.heap.size, 2, none⟩ = some (.slice ao xs.length ac) := by rw [← hB]; simp [go_sem, World.cell?_alloc_old]
  have p0 : B.cell? ⟨w.heap.size + 1, 0, none⟩ = some (.int .i64 s2) := by rw [← hB]; simp [go_sem]
  have p1 : B.cell? ⟨w.heap.size + 1, 1, none⟩ = some (.int .i64 l2) := by rw [← hB]; simp [go_sem]
  have p2 : B.cell? ⟨w.heap.size + 1, 2, none⟩ = some (.slice bo ys.length bc) := by rw [← hB]; simp [go_sem]
  clear ha hb
  by_cases c0 : s1 = s2
  · subst c0
    by_cases c1 : l1 = l2
    · subst c1
      go_enter Try.func14, Try.ntmps14
      go_wp2_with (first | rw [hB] | fail)
      refine (unhide HE).mono ?_
      rintro e w1 ⟨rfl, rfl⟩
      go_wp2
      go_ret
      exact ⟨by simp, unhide HBB⟩
    · have c1' : (l1 == l2) = false := by simp [c1]
      go_enter Try.func14, Try.ntmps14
      go_wp2_with (first | rw [hB])
      go_ret
      exact ⟨by simp [c1], unhide HBB⟩
  · have c0' : (s1 == s2) = false := by simp [c0]
    go_enter Try.func14, Try.ntmps14
    go_wp2_with (first | rw [hB])
    go_ret
    exact ⟨by simp [c0], unhide HBB⟩

set_option maxHeartbeats 1600000 in
theorem rencode_ok (number slot last : Int) (dv : Value) (ds : List Int) (w : World) (hd : Sees w .u8 dv ds) (hby : Byt ds) (hf : faultE number slot last ds.length = 0) :
    Calls Try.prog 9 #[.int .i64 number, .agg #[.int .i64 slot, .int .i64 last, dv]] w fun e w' => ∃ v, e = .returned (.tuple #[v, .int .i64 0]) ∧ w'.ownsRow w.heap.size 5 1 v (ckB number slot last ds).length (ints .u8 (ckB number slot last ds)) ∧ Below w.heap.size w w' := by
  obtain ⟨hl, hI⟩ := faultE_ok hf
  have hC : (1 ≤ number ∧ number ≤ 1099511627776) ∧ isC number = true ∧ isC slot = true ∧ isC last = true := by
    unfold faultE at hf
    split at hf
    · rename_i k; exact ⟨⟨k.1, k.2.1⟩, isC_iff.2 ⟨by have := k.1; omega, k.2.1⟩, k.2.2⟩
    · cases hf
  obtain ⟨⟨hn1, _⟩, hi0, hi1, hi2⟩ := hC
  obtain ⟨ao, cap, rfl, hlc, hnil, hc⟩ := id hd
  obtain ⟨B, hB⟩ : ∃ B, w.alloc (.cells #[.int .i64 slot, .int .i64 last, .slice ao ds.length cap] 24) = B := ⟨_, rfl⟩
  have HBB : Hid (Below w.heap.size w B) := hB ▸ (Below.refl _ _).alloc (Nat.le_refl _) _
  have HSZ : Hid (B.heap.size = w.heap.size + 1) := by show _ = _; rw [← hB]; simp
  have HBX : Hid (∀ x, Below B.heap.size B x → x.cell? ⟨w.heap.size, 0, none⟩ = some (.int .i64 slot) ∧ x.cell? ⟨w.heap.size, 1, none⟩ = some (.int .i64 last) ∧ x.cell? ⟨w.heap.size, 2, none⟩ = some (.slice ao ds.length cap)) := fun x hx => box3 (by rw [hB, ← unhide HSZ]; exact hx)
  have HSE : Hid (∀ x, Below B.heap.size B x → Sees x .u8 (.slice ao ds.length cap) ds ∧ Below w.heap.size w x) := fun x hx => by
    have b := (unhide HBB).trans (hx.mono (unhide HBB).size)
    exact ⟨hd.below b, b⟩
  obtain ⟨q0, q1, q2⟩ := unhide HBX B (Below.refl _ _)
  have HC0 := hide (count_any number B)
  have HC1 := hide (count_any slot B)
  have HC2 := hide (count_any last B)
  rw [hi0] at HC0
  rw [hi1] at HC1
  rw [hi2] at HC2
  have h9 := sizeL_le [number, slot, last]
  simp at h9
  have h8 := sizeL_le [(ds.length : Int)]
  simp at h8
  clear hd hnil hc
  go_enter Try.func9, Try.ntmps9
  go_wp2_with (first | rw [hB] | fail)
  refine (unhide HC0).mono ?_
  rintro e w1 ⟨rfl, rfl⟩
  go_wp2_with fail
  refine (unhide HC1).mono ?_
  rintro e w1 ⟨rfl, rfl⟩
  go_wp2_with fail
  refine (unhide HC2).mono ?_
  rintro e w1 ⟨rfl, rfl⟩
  go_wp2
  have HD : Hid (∀ x, Below B.drew.heap.size B.drew x → Below B.heap.size B x) := fun x hx => (Below.refl _ _).drew.trans hx
  have HX : Hid (Below B.heap.size B (B.drew.alloc (.cells #[.int .i64 number, .int .i64 slot, .int .i64 last] 2))) := unhide HD _ ((Below.refl B.drew.heap.size B.drew).alloc (Nat.le_refl _) _)
  have HSN : Hid (Sees (B.drew.alloc (.cells #[.int .i64 number, .int .i64 slot, .int .i64 last] 2)) .i64 (.slice (some ⟨B.heap.size, 0, none⟩) 3 3) [number, slot, last]) := sees_new B.drew .i64 [number, slot, last] 2 3 rfl
  have HPT := hide (refPut_any (.slice none 0 0) (.slice (some ⟨B.heap.size, 0, none⟩) 3 3) [] [number, slot, last] (B.drew.alloc (.cells #[.int .i64 number, .int .i64 slot, .int .i64 last] 2)) (Sees.nil _ _) (unhide HSN) (by simp) hI (by simp; omega))
  have HLE : Hid (([] ++ putL [number, slot, last] : List Int).length + ds.length + 64 ≤ 140737488355328) := by show _ ≤ _; simp [putL_length]; omega
  have p0 : B.drew.cell? ⟨w.heap.size, 0, none⟩ = some (.int .i64 slot) := q0
  have p1 : B.drew.cell? ⟨w.heap.size, 1, none⟩ = some (.int .i64 last) := q1
  have p2 : B.drew.cell? ⟨w.heap.size, 2, none⟩ = some (.slice ao ds.length cap) := q2
  clear h8 h9
  refine wp_region_held_drew (S := fun x => x.cell? ⟨w.heap.size, 0, none⟩ = some (.int .i64 slot) ∧ x.cell? ⟨w.heap.size, 1, none⟩ = some (.int .i64 last) ∧ x.cell? ⟨w.heap.size, 2, none⟩ = some (.slice ao ds.length cap)) (by kernel_rfl) ⟨p0, p1, p2⟩ (fun hHeld => ?_)
  refine wpAnyH_take (i := 0) (v := ?v1x0) rfl (by kernel_rfl) (by kernel_rfl) (by kernel_rfl) (fun _ _ _ h => h) (Or.inl ⟨by rfl, ?hy1x0⟩) (by assumption) ?rest1x0
  case hy1x0 => intro w hSw; obtain ⟨s0, s1, s2⟩ := hSw; go_simp <;> with_reducible rfl
  simp only [Act.put, List.getElem_toArray, List.getElem_cons_zero, List.setIfInBounds_toArray, List.set_cons_zero, List.set_cons_succ]
  refine wpAnyH_take (i := 1) (v := ?v2x1) rfl (by kernel_rfl) (by kernel_rfl) (by kernel_rfl) (fun _ _ _ h => h) (Or.inl ⟨by rfl, ?hy2x1⟩) (by assumption) ?rest2x1
  case hy2x1 => intro w hSw; obtain ⟨s0, s1, s2⟩ := hSw; go_simp <;> with_reducible rfl
  simp only [Act.put, List.getElem_toArray, List.getElem_cons_zero, List.getElem_cons_succ, List.setIfInBounds_toArray, List.set_cons_zero, List.set_cons_succ]
  refine wpAnyH_take (i := 2) (v := ?v3x2) rfl (by kernel_rfl) (by kernel_rfl) (by kernel_rfl) (fun _ _ _ h => h) (Or.inl ⟨by rfl, ?hy3x2⟩) (by assumption) ?rest3x2
  case hy3x2 => intro w hSw; obtain ⟨s0, s1, s2⟩ := hSw; go_simp <;> with_reducible rfl
  simp only [Act.put, List.getElem_toArray, List.getElem_cons_zero, List.getElem_cons_succ, List.setIfInBounds_toArray, List.set_cons_zero, List.set_cons_succ]
  refine wpAnyH_take (i := 3) (v := ?v4x3) rfl (by kernel_rfl) (by kernel_rfl) (by kernel_rfl) (fun _ _ _ h => h) (Or.inl ⟨by rfl, ?hy4x3⟩) (by assumption) ?rest4x3
  case hy4x3 => intro w hSw; obtain ⟨s0, s1, s2⟩ := hSw; go_simp <;> with_reducible rfl
  simp only [Act.put, List.getElem_toArray, List.getElem_cons_zero, List.getElem_cons_succ, List.setIfInBounds_toArray, List.set_cons_zero, List.set_cons_succ]
  refine wpAnyH_take (i := 4) (v := ?v5x4) rfl (by kernel_rfl) (by kernel_rfl) (by kernel_rfl) (fun _ _ _ h => h) (Or.inl ⟨by rfl, ?hy5x4⟩) (by assumption) ?rest5x4
  case hy5x4 => intro w hSw; obtain ⟨s0, s1, s2⟩ := hSw; go_simp <;> with_reducible rfl
  simp only [Act.put, List.getElem_toArray, List.getElem_cons_zero, List.getElem_cons_succ, List.setIfInBounds_toArray, List.set_cons_zero, List.set_cons_succ]
  refine wpAnyH_take (i := 7) (v := ?v6x7) rfl (by kernel_rfl) (by kernel_rfl) (by kernel_rfl) (fun _ _ _ h => h) (Or.inl ⟨by rfl, ?hy6x7⟩) (by assumption) ?rest6x7
  case hy6x7 => intro w hSw; obtain ⟨s0, s1, s2⟩ := hSw; go_simp <;> with_reducible rfl
  simp only [Act.put, List.getElem_toArray, List.getElem_cons_zero, List.getElem_cons_succ, List.setIfInBounds_toArray, List.set_cons_zero, List.set_cons_succ]
  refine wpAnyH_take (i := 8) (v := ?v7x8) rfl (by kernel_rfl) (by kernel_rfl) (by kernel_rfl) (fun _ _ _ h => h) (Or.inl ⟨by rfl, ?hy7x8⟩) (by assumption) ?rest7x8
  case hy7x8 => intro w hSw; obtain ⟨s0, s1, s2⟩ := hSw; go_simp <;> with_reducible rfl
  simp only [Act.put, List.getElem_toArray, List.getElem_cons_zero, List.getElem_cons_succ, List.setIfInBounds_toArray, List.set_cons_zero, List.set_cons_succ]
  refine wpAnyH_ready (rs := [5]) (by kernel_rfl) (by simp) ?_
  refine AllReadyH.cons rfl (fun K hK => ?_) AllReadyH.nil
  go_simp
  refine hK _ _ (unhide HBX _ (unhide HX)) ?_
  clear hK hHeld
  intro hHeld
  refine wpAnyH_ready (rs := [6]) (by kernel_rfl) (by simp) ?_
  refine AllReadyH.cons rfl (fun K hK => ?_) AllReadyH.nil
  go_simp
  refine (unhide HPT).mono ?_
  rintro e y1 ⟨v1, rfl, o1, b1⟩
  refine hK _ _ (unhide HBX _ ((unhide HX).trans (b1.mono (unhide HX).size))) ?_
  clear hK hHeld
  have HB1 := hide ((unhide HX).trans (b1.mono (unhide HX).size))
  have HS1 := hide (sees_of_own (by simpa [putL_length] using o1 : y1.ownsRow _ 5 1 v1 (putL [number, slot, last]).length (ints .u8 (putL [number, slot, last])))).2
  clear b1 o1
  intro hHeld
  have HPB := hide (refBlob_any v1 (.slice ao ds.length cap) (putL [number, slot, last]) ds y1 (unhide HS1) (unhide HSE _ (unhide HB1)).1 (unhide HLE))
  refine wpAnyH_ready (rs := [9]) (by kernel_rfl) (by simp) ?_
  refine AllReadyH.cons rfl (fun K hK => ?_) AllReadyH.nil
  go_simp
  refine (unhide HPB).mono ?_
  rintro e y2 ⟨v2, rfl, o2, b2⟩
  refine hK _ _ (unhide HBX _ ((unhide HB1).trans (b2.mono (unhide HB1).size))) ?_
  clear hK hHeld
  have HB2 := hide ((unhide HB1).trans (b2.mono (unhide HB1).size))
  have HS2 : Hid (Sees y2 .u8 v2 (bodyB number slot last ds)) := (sees_of_own o2).2
  clear b2 o2
  intro hHeld
  have HPS := hide (refSeal_ok v2 (bodyB number slot last ds) y2 (unhide HS2) (bodyB_byt hby) (by have := bodyB_le number slot last ds; omega))
  refine wpAnyH_ready (rs := [10]) (by kernel_rfl) (by simp) ?_
  refine AllReadyH.cons rfl (fun K hK => ?_) AllReadyH.nil
  go_simp
  refine (unhide HPS).mono ?_
  rintro e y3 ⟨v3, rfl, o3, b3⟩
  refine hK _ _ (unhide HBX _ ((unhide HB2).trans (b3.mono (unhide HB2).size))) ?_
  clear hK hHeld
  have HB3 := hide ((unhide HB2).trans (b3.mono (unhide HB2).size))
  have HO3 : Hid (y3.ownsRow w.heap.size 5 1 v3 (ckB number slot last ds).length (ints .u8 (ckB number slot last ds))) := own_lower o3 (Nat.le_trans (unhide HBB).size (unhide HB2).size)
  clear b3 o3
  intro hHeld
  refine wpAnyH_take (i := 11) (v := ?v8x11) rfl (by kernel_rfl) (by kernel_rfl) (by kernel_rfl) (fun _ _ _ h => h) (Or.inl ⟨by rfl, ?hy8x11⟩) (by assumption) ?rest8x11
  case hy8x11 => intro w hSw; obtain ⟨s0, s1, s2⟩ := hSw; go_simp <;> with_reducible rfl
  simp only [Act.put, List.getElem_toArray, List.getElem_cons_zero, List.getElem_cons_succ, List.setIfInBounds_toArray, List.set_cons_zero, List.set_cons_succ]
  refine wpAnyH_take (i := 12) (v := ?v9x12) rfl (by kernel_rfl) (by kernel_rfl) (by kernel_rfl) (fun _ _ _ h => h) (Or.inl ⟨by rfl, ?hy9x12⟩) (by assumption) ?rest9x12
  case hy9x12 => intro w hSw; obtain ⟨s0, s1, s2⟩ := hSw; go_simp <;> with_reducible rfl
  simp only [Act.put, List.getElem_toArray, List.getElem_cons_zero, List.getElem_cons_succ, List.setIfInBounds_toArray, List.set_cons_zero, List.set_cons_succ]
  refine wpAnyH_take (i := 13) (v := ?v10x13) rfl (by kernel_rfl) (by kernel_rfl) (by kernel_rfl) (fun _ _ _ h => h) (Or.inl ⟨by rfl, ?hy10x13⟩) (by assumption) ?rest10x13
  case hy10x13 => intro w hSw; obtain ⟨s0, s1, s2⟩ := hSw; go_simp <;> with_reducible rfl
  simp only [Act.put, List.getElem_toArray, List.getElem_cons_zero, List.getElem_cons_succ, List.setIfInBounds_toArray, List.set_cons_zero, List.set_cons_succ]
  refine wpAnyH_take (i := 14) (v := ?v11x14) rfl (by kernel_rfl) (by kernel_rfl) (by kernel_rfl) (fun _ _ _ h => h) (Or.inl ⟨by rfl, ?hy11x14⟩) (by assumption) ?rest11x14
  case hy11x14 => intro w hSw; obtain ⟨s0, s1, s2⟩ := hSw; go_simp <;> with_reducible rfl
  simp only [Act.put, List.getElem_toArray, List.getElem_cons_zero, List.getElem_cons_succ, List.setIfInBounds_toArray, List.set_cons_zero, List.set_cons_succ]
  refine wpAnyH_done (by kernel_rfl) ?_ _
  go_wp2
  go_ret2
  exact ⟨_, rfl, unhide HO3, (unhide HSE _ (unhide HB3)).2⟩
end Go.Proofs.Ytiijbklaapaheaa
