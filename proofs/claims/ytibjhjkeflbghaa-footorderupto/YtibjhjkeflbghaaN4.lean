/- Answers that the document fixes. -/
import Derived.Test.YtibjhjkeflbghaaN2
namespace Go.Proofs.Ytibjhjkeflbghaa
open Go.RowKit
set_option maxRecDepth 100000

/-- The transaction that live asks for: it reads two keys, and writes the second. -/
def liveT (n : Nat) : Tx := ⟨0, 0, .slice none 0 0, .slice none 0 0, .slice (some ⟨n + 1 + 1, 0, none⟩) 2 2, .slice (some ⟨n + 1 + 1 + 1, 0, none⟩) 1 1, [(0, 1), (0, 2)], [(0, 2)]⟩
def liveL : List Lk := [((0, 1), false), ((0, 2), true)]
theorem live_lks (n : Nat) : lkX (liveT n) = liveL := by
  show lks [(0, 1), (0, 2)] [(0, 2)] = liveL
  decide +kernel
theorem live_lev (n : Nat) : levelsP [liveT n, liveT n, liveT n] = [0, 1, 2] := by
  have h : ∀ g, stepP g (liveT n) = (raiseP g.1 (levelP g.1 liveL + 1) liveL, g.2 ++ [levelP g.1 liveL]) := fun g => by unfold stepP; rw [live_lks]
  unfold levelsP runP
  simp only [List.foldl_cons, List.foldl_nil, h]
  decide +kernel
def liveX : Tx := ⟨0, 0, .slice none 0 0, .slice none 0 0, .slice none 0 0, .slice none 0 0, [], []⟩
theorem live_pts : ptsL (fun p => (inP 4 (srt ([] : List Ky)) p).length) (fun p => (inP 4 (srt ([] : List Ky)) p).length) = [0] := by rfl
theorem seesX_nil (w : World) : SeesX w liveX := ⟨SeesL.nil w, SeesL.nil w, by simp [liveX], by simp [liveX], by simp [liveX], by simp [liveX], ⟨_, _, _, rfl⟩, ⟨_, _, _, rfl⟩⟩
theorem ok01 : OkK (0, 1) := by unfold OkK; decide
theorem ok02 : OkK (0, 2) := by unfold OkK; decide
theorem short_live (n : Nat) : Short (liveT n) := by show 2 + 1 ≤ 4398046511104; omega
theorem seesX_live {w z : World} (h2 : z.heap[w.heap.size + 1 + 1]? = some (.cells #[.int .i32 0, .int .i64 1, .int .i32 0, .int .i64 2] 37)) (h3 : z.heap[w.heap.size + 1 + 1 + 1]? = some (.cells #[.int .i32 0, .int .i64 2] 37)) : SeesX z (liveT w.heap.size) := by
  refine ⟨⟨_, 2, w.heap.size + 1 + 1, 0, rfl, by simp [liveT], by simp [liveT], (fun h => by cases h), fun _ => rfl, fun t x hx j hj => ?_⟩, ⟨_, 1, w.heap.size + 1 + 1 + 1, 0, rfl, by simp [liveT], by simp [liveT], (fun h => by cases h), fun _ => rfl, fun t x hx j hj => ?_⟩, fun k hk => ?_, fun k hk => ?_, by simp [liveT], by simp [liveT], ⟨_, _, _, rfl⟩, ⟨_, _, _, rfl⟩⟩
  · obtain ⟨ht, hx'⟩ := List.getElem?_eq_some_iff.1 hx
    have ht2 : t < 2 := ht
    rw [cell_at h2]
    rcases (by omega : t = 0 ∨ t = 1) with rfl | rfl <;> rcases (by omega : j = 0 ∨ j = 1) with rfl | rfl <;> (rw [← hx']; rfl)
  · obtain ⟨ht, hx'⟩ := List.getElem?_eq_some_iff.1 hx
    have ht2 : t < 1 := ht
    rw [cell_at h3]
    obtain rfl : t = 0 := by omega
    rcases (by omega : j = 0 ∨ j = 1) with rfl | rfl <;> (rw [← hx']; rfl)
  · have : k = (0, 1) ∨ k = (0, 2) := by simpa [liveT] using hk
    rcases this with rfl | rfl
    · exact ok01
    · exact ok02
  · have : k = (0, 2) := by simpa [liveT] using hk
    rw [this]; exact ok02
theorem sees_block {α : Type} {c : α → List Value} {k : Nat} {z : World} {g : Nat} {T : TypeId} (hk : ∀ x, (c x).length = k) (l : List α) (hl : l.length ≤ 1000) (hl0 : 0 < l.length) (h : z.heap[g]? = some (.cells (l.flatMap c).toArray T)) : SeesL c k z (.slice (some ⟨g, 0, none⟩) l.length l.length) l := by
  refine ⟨_, l.length, g, 0, rfl, Nat.le_refl _, by omega, (fun h => by cases h), fun _ => rfl, fun t x hx j hj => ?_⟩
  rw [cell_at h, List.getElem?_toArray, Nat.zero_add, flat_at hk l t x hx j hj]
theorem live_levels {w z : World} {g : Nat} (hz : z.heap[g]? = some (.cells #[.int .i64 0, .int .i64 0, .slice none 0 0, .slice none 0 0, .slice (some ⟨w.heap.size + 1 + 1, 0, none⟩) 2 2, .slice (some ⟨w.heap.size + 1 + 1 + 1, 0, none⟩) 1 1, .int .i64 0, .int .i64 0, .slice none 0 0, .slice none 0 0, .slice (some ⟨w.heap.size + 1 + 1, 0, none⟩) 2 2, .slice (some ⟨w.heap.size + 1 + 1 + 1, 0, none⟩) 1 1, .int .i64 0, .int .i64 0, .slice none 0 0, .slice none 0 0, .slice (some ⟨w.heap.size + 1 + 1, 0, none⟩) 2 2, .slice (some ⟨w.heap.size + 1 + 1 + 1, 0, none⟩) 1 1] 26)) (hx : SeesX z (liveT w.heap.size)) : Calls Try.prog 26 #[.slice (some ⟨g, 0, none⟩) 3 3] z fun e w' => ∃ r, e = .returned r ∧ w'.ownsRow z.heap.size 3 1 r 3 (([0, 1, 2] : List Int).flatMap nC) ∧ Below z.heap.size z w' := by
  have h := levels_any (sees_block xC_len [liveT w.heap.size, liveT w.heap.size, liveT w.heap.size] (Nat.le_of_ble_eq_true rfl) (Nat.lt_of_lt_of_le Nat.zero_lt_one (Nat.le_of_ble_eq_true rfl)) hz) (fun x hm => by
    have e : x = liveT w.heap.size := by simpa using hm
    rw [e]
    exact hx) (fun x hm => by
    have e : x = liveT w.heap.size := by simpa using hm
    rw [e]
    exact short_live _) (by show 3 ≤ 1099511627776; omega)
  rw [live_lev] at h
  exact h
theorem eqTrue {f : Nat} {args : Array Value} {w : World} {b : Bool} (hb : b = true) (h : Calls Try.prog f args w fun e w' => e = .returned (.bool b) ∧ Below w.heap.size w w') : Calls Try.prog f args w fun e w' => e = .returned (.bool true) ∧ Below w.heap.size w w' := hb ▸ h

theorem five (w : World) (o0 o1 o2 o3 o4 : Obj) : (((((w.alloc o0).alloc o1).alloc o2).alloc o3).alloc o4).heap[w.heap.size]? = some o0 ∧ (((((w.alloc o0).alloc o1).alloc o2).alloc o3).alloc o4).heap[w.heap.size + 1]? = some o1 ∧ (((((w.alloc o0).alloc o1).alloc o2).alloc o3).alloc o4).heap[w.heap.size + 1 + 1]? = some o2 ∧ (((((w.alloc o0).alloc o1).alloc o2).alloc o3).alloc o4).heap[w.heap.size + 1 + 1 + 1]? = some o3 ∧ (((((w.alloc o0).alloc o1).alloc o2).alloc o3).alloc o4).heap[w.heap.size + 1 + 1 + 1 + 1]? = some o4 ∧ Below w.heap.size w (((((w.alloc o0).alloc o1).alloc o2).alloc o3).alloc o4) := by
  have n1 := heap_alloc_new (w.alloc o0) o1
  have n2 := heap_alloc_new ((w.alloc o0).alloc o1) o2
  have n3 := heap_alloc_new (((w.alloc o0).alloc o1).alloc o2) o3
  have n4 := heap_alloc_new ((((w.alloc o0).alloc o1).alloc o2).alloc o3) o4
  have s1 : (w.alloc o0).heap.size = w.heap.size + 1 := by simp
  have s2 : ((w.alloc o0).alloc o1).heap.size = w.heap.size + 1 + 1 := by simp
  have s3 : (((w.alloc o0).alloc o1).alloc o2).heap.size = w.heap.size + 1 + 1 + 1 := by simp
  have s4 : ((((w.alloc o0).alloc o1).alloc o2).alloc o3).heap.size = w.heap.size + 1 + 1 + 1 + 1 := by simp
  rw [s1] at n1
  rw [s2] at n2
  rw [s3] at n3
  rw [s4] at n4
  refine ⟨?_, ?_, ?_, ?_, n4, ((((((Below.refl _ _).alloc (Nat.le_refl _) _).alloc (by omega) _).alloc (by omega) _).alloc (by omega) _).alloc (by omega) _)⟩
  · rw [Below.heap_alloc _ _ _ (by omega), Below.heap_alloc _ _ _ (by omega), Below.heap_alloc _ _ _ (by omega), Below.heap_alloc _ _ _ (by omega)]; exact heap_alloc_new w o0
  · rw [Below.heap_alloc _ _ _ (by omega), Below.heap_alloc _ _ _ (by omega), Below.heap_alloc _ _ _ (by omega)]; exact n1
  · rw [Below.heap_alloc _ _ _ (by omega), Below.heap_alloc _ _ _ (by omega)]; exact n2
  · rw [Below.heap_alloc _ _ _ (by omega)]; exact n3

set_option maxHeartbeats 16000000 in
theorem live_any (w : World) : Calls Try.prog 9 #[] w fun e w' => e = .returned (.bool true) ∧ Below w.heap.size w w' := by
  obtain ⟨W5, hW5⟩ : ∃ z, (((((w.alloc (.cells #[.int .i32 0, .int .i64 1] 37)).alloc (.cells #[.int .i32 0, .int .i64 2] 37)).alloc (.cells #[.int .i32 0, .int .i64 1, .int .i32 0, .int .i64 2] 37)).alloc (.cells #[.int .i32 0, .int .i64 2] 37)).alloc (.cells #[.int .i64 0, .int .i64 0, .slice none 0 0, .slice none 0 0, .slice (some ⟨w.heap.size + 1 + 1, 0, none⟩) 2 2, .slice (some ⟨w.heap.size + 1 + 1 + 1, 0, none⟩) 1 1] 26)) = z := ⟨_, rfl⟩
  have H5 := hide (hW5 ▸ five w _ _ _ _ _ : W5.heap[w.heap.size]? = some (.cells #[.int .i32 0, .int .i64 1] 37) ∧ W5.heap[w.heap.size + 1]? = some (.cells #[.int .i32 0, .int .i64 2] 37) ∧ W5.heap[w.heap.size + 1 + 1]? = some (.cells #[.int .i32 0, .int .i64 1, .int .i32 0, .int .i64 2] 37) ∧ W5.heap[w.heap.size + 1 + 1 + 1]? = some (.cells #[.int .i32 0, .int .i64 2] 37) ∧ W5.heap[w.heap.size + 1 + 1 + 1 + 1]? = some (.cells #[.int .i64 0, .int .i64 0, .slice none 0 0, .slice none 0 0, .slice (some ⟨w.heap.size + 1 + 1, 0, none⟩) 2 2, .slice (some ⟨w.heap.size + 1 + 1 + 1, 0, none⟩) 1 1] 26) ∧ Below w.heap.size w W5)
  have HOF := hide (of_any (x := liveX) (w := W5) 4 (seesX_nil W5))
  have HW5 := hide hW5
  clear hW5
  unfold xV liveX at HOF
  go_enter Try.func9, Try.ntmps9
  go_wp2_with (first | (go_at_call 11; rw [show (((((w.alloc (.cells #[.int .i32 0, .int .i64 1] 37)).alloc (.cells #[.int .i32 0, .int .i64 2] 37)).alloc (.cells #[.int .i32 0, .int .i64 1, .int .i32 0, .int .i64 2] 37)).alloc (.cells #[.int .i32 0, .int .i64 2] 37)).alloc (.cells #[.int .i64 0, .int .i64 0, .slice none 0 0, .slice none 0 0, .slice (some ⟨w.heap.size + 1 + 1, 0, none⟩) 2 2, .slice (some ⟨w.heap.size + 1 + 1 + 1, 0, none⟩) 1 1] 26)) = W5 from unhide HW5]; refine (unhide HOF).mono ?_; rintro e w1 ⟨a, c, a', c', pv, tv, rfl, hV, hB⟩; have HV := hide (And.intro hV hB); obtain ⟨y0, hy0⟩ : ∃ z, w1.alloc (.cells nil18 32) = z := ⟨_, rfl⟩; have hx0 := (hy0 ▸ heap_alloc_new w1 (.cells nil18 32) : y0.heap[w1.heap.size]? = some (.cells nil18 32)); obtain ⟨pa, pc, hpv⟩ := own_shape hV.ps; obtain ⟨ta, tc, htv⟩ := own_shape hV.ts; have HX0 := hide (And.intro hx0 (And.intro hpv htv)); have HY0 := hide hy0; clear hV hB hx0 hpv htv hy0 HOF) | rw [show w1.alloc (.cells #[.slice none 0 0, .slice none 0 0, .slice none 0 0, .slice none 0 0, .slice none 0 0, .slice none 0 0, .slice none 0 0, .slice none 0 0, .slice none 0 0, .slice none 0 0, .slice none 0 0, .slice none 0 0, .slice none 0 0, .slice none 0 0, .slice none 0 0, .slice none 0 0, .slice none 0 0, .slice none 0 0] 32) = y0 from unhide HY0] | (refine wpList_store_row rfl 32 _ _ rfl w1.heap.size nil18 (ftC a _ c a' _ c' pv tv) rfl rfl 32 (unhide HX0).1 Try.info32 rfl (by rw [(unhide HX0).2.1, (unhide HX0).2.2]; exact ft_one _ _ _ _ _ _) ?_))
  obtain ⟨y, hy⟩ : ∃ z, y0.setRow w1.heap.size (ftC a (fun p => (inP 4 (srt []) p).length) c a' (fun p => (inP 4 (srt []) p).length) c' pv tv) = z := ⟨_, rfl⟩
  rw [hy]
  simp only [Act.put]
  have HY : Hid (Below w.heap.size w y ∧ ∀ x, Below y.heap.size y x → (x.cell? ⟨w.heap.size, 0, none⟩ = some (.int .i32 0) ∧ x.cell? ⟨w.heap.size, 1, none⟩ = some (.int .i64 1) ∧ x.cell? ⟨w.heap.size + 1, 0, none⟩ = some (.int .i32 0) ∧ x.cell? ⟨w.heap.size + 1, 1, none⟩ = some (.int .i64 2)) ∧ x.heap[w.heap.size + 1 + 1 + 1 + 1]? = some (.cells #[.int .i64 0, .int .i64 0, .slice none 0 0, .slice none 0 0, .slice (some ⟨w.heap.size + 1 + 1, 0, none⟩) 2 2, .slice (some ⟨w.heap.size + 1 + 1 + 1, 0, none⟩) 1 1] 26) ∧ SeesX x (liveT w.heap.size) ∧ x.cell? ⟨w1.heap.size, 16, none⟩ = some (.slice pa 1 pc) ∧ SeesL nC 1 x (.slice pa 1 pc) [0]) := by
    obtain ⟨h0, h1, h2, h3, h4, hb5⟩ := unhide H5
    obtain ⟨hV, hB⟩ := unhide HV
    obtain ⟨hx0, hpv, htv⟩ := unhide HX0
    have hb0 : Below w1.heap.size w1 y0 := unhide HY0 ▸ below_box _
    have h51 : Below W5.heap.size W5 y := (hB.trans (hb0.mono hB.size)).trans (hy ▸ below_setRow (Below.refl _ _) hB.size)
    have hps : SeesL nC 1 y pv [0] := by
      have hw1 := own_below hV.ps hb0
      have := own_setRow (cs := (ftC a (fun p => (inP 4 (srt []) p).length) c a' (fun p => (inP 4 (srt []) p).length) c' pv tv)) (g := w1.heap.size) (w := y0) (own_mono hw1 (Nat.zero_le _)) 
      exact (own_sees nC_len (by decide) (show y.ownsRow 0 3 1 pv [0].length ([0].flatMap nC) from hy ▸ own_box hx0 (by decide) (fun j hj => setRow_other _ _ _ _ hj) (own_mono hw1 (Nat.zero_le _)))).2
    have hlen : pv = .slice pa 1 pc := hpv
    have hbx : y.heap[w1.heap.size]? = some (.cells (ftC a (fun p => (inP 4 (srt []) p).length) c a' (fun p => (inP 4 (srt []) p).length) c' pv tv) 32) := by rw [← hy, setRow_heap y0 w1.heap.size _ _ 32 (0, 0) hx0]
    refine ⟨hb5.trans (h51.mono hb5.size), fun x hx => ?_⟩
    have e : ∀ (b : Nat) (o : Obj), W5.heap[b]? = some o → x.heap[b]? = some o := fun b o ho => by
      have hlt := (Array.getElem?_eq_some_iff.1 ho).1
      exact (hx.block _ (Nat.lt_of_lt_of_le hlt h51.size)).trans ((h51.block _ hlt).trans ho)
    have hbx' := (hx.block _ (Array.getElem?_eq_some_iff.1 hbx).1).trans hbx
    refine ⟨⟨cell_at (e _ _ h0), cell_at (e _ _ h0), cell_at (e _ _ h1), cell_at (e _ _ h1)⟩, e _ _ h4, seesX_live (e _ _ h2) (e _ _ h3), ?_, ?_⟩
    · rw [cell_at hbx', ← hlen]; rfl
    · rw [← hlen]; exact hps.below nC_len hx
  clear H5 HW5 HV HX0 HY0 hy
  refine wp_region_held_drew (S := fun x => Below y.heap.size y x) (by kernel_rfl) ((Below.refl _ _).drew) (fun hHeld => ?_)
  refine wpAnyH_take (i := 0) (v := (.agg #[.int .i64 0, .int .i64 0, .slice none 0 0, .slice none 0 0, .slice (some ⟨w.heap.size + 1 + 1, 0, none⟩) 2 2, .slice (some ⟨w.heap.size + 1 + 1 + 1, 0, none⟩) 1 1])) rfl (by as_aux_lemma => kernel_rfl) (by as_aux_lemma => kernel_rfl) (by as_aux_lemma => kernel_rfl) (fun _ _ _ h => h) (Or.inl ⟨by rfl, ?hy1x0⟩) (by assumption) ?rest1x0
  case hy1x0 => intro w hSw; have ht := ((unhide HY).2 _ hSw).2.1; have s0 := cell_at (o := 0) ht; have s1 := cell_at (o := 1) ht; have s2 := cell_at (o := 2) ht; have s3 := cell_at (o := 3) ht; have s4 := cell_at (o := 4) ht; have s5 := cell_at (o := 5) ht; go_simp <;> with_reducible rfl
  simp only [Act.put, List.getElem_toArray, List.getElem_cons_zero, List.setIfInBounds_toArray, List.set_cons_zero, List.set_cons_succ]
  refine wpAnyH_take (i := 2) (v := (.agg #[.int .i32 0, .int .i64 1])) rfl (by as_aux_lemma => kernel_rfl) (by as_aux_lemma => kernel_rfl) (by as_aux_lemma => kernel_rfl) (fun _ _ _ h => h) (Or.inl ⟨by rfl, ?hy2x2⟩) (by assumption) ?rest2x2
  case hy2x2 => intro w hSw; obtain ⟨s1, s2, s3, s4⟩ := ((unhide HY).2 _ hSw).1; go_simp <;> with_reducible rfl
  simp only [Act.put, List.getElem_toArray, List.getElem_cons_zero, List.getElem_cons_succ, List.setIfInBounds_toArray, List.set_cons_zero, List.set_cons_succ]
  refine wpAnyH_take (i := 3) (v := ?v3x3) rfl (by as_aux_lemma => kernel_rfl) (by as_aux_lemma => kernel_rfl) (by as_aux_lemma => kernel_rfl) (fun _ _ _ h => h) (Or.inl ⟨by rfl, ?hy3x3⟩) (by assumption) ?rest3x3
  case hy3x3 => intro w hSw; go_simp <;> with_reducible rfl
  simp only [Act.put, List.getElem_toArray, List.getElem_cons_zero, List.getElem_cons_succ, List.setIfInBounds_toArray, List.set_cons_zero, List.set_cons_succ]
  refine wpAnyH_take (i := 4) (v := (.agg #[.int .i32 0, .int .i64 2])) rfl (by as_aux_lemma => kernel_rfl) (by as_aux_lemma => kernel_rfl) (by as_aux_lemma => kernel_rfl) (fun _ _ _ h => h) (Or.inl ⟨by rfl, ?hy4x4⟩) (by assumption) ?rest4x4
  case hy4x4 => intro w hSw; obtain ⟨s1, s2, s3, s4⟩ := ((unhide HY).2 _ hSw).1; go_simp <;> with_reducible rfl
  simp only [Act.put, List.getElem_toArray, List.getElem_cons_zero, List.getElem_cons_succ, List.setIfInBounds_toArray, List.set_cons_zero, List.set_cons_succ]
  refine wpAnyH_take (i := 5) (v := ?v5x5) rfl (by as_aux_lemma => kernel_rfl) (by as_aux_lemma => kernel_rfl) (by as_aux_lemma => kernel_rfl) (fun _ _ _ h => h) (Or.inl ⟨by rfl, ?hy5x5⟩) (by assumption) ?rest5x5
  case hy5x5 => intro w hSw; go_simp <;> with_reducible rfl
  simp only [Act.put, List.getElem_toArray, List.getElem_cons_zero, List.getElem_cons_succ, List.setIfInBounds_toArray, List.set_cons_zero, List.set_cons_succ]
  refine wpAnyH_ready (rs := [1, 6]) (by kernel_rfl) (by simp) ?_
  refine AllReadyH.cons rfl (fun K hK => ?_) (AllReadyH.cons rfl (fun K hK => ?_) AllReadyH.nil)
  · skip
    have h14 := lkX_any (x := liveT w.heap.size) (((unhide HY).2 _ (((Below.refl _ _).drew : Below y.heap.size y y.drew))).2.2.1 : SeesX (y.drew) _) (short_live _)
    rw [live_lks] at h14
    unfold xV liveT at h14
    go_simp
    refine Calls.mono h14 ?_
    rintro e w2 ⟨v1, rfl, ho1, hb1⟩
    have H1 := hide ho1
    obtain ⟨a1, k1, e1⟩ := own_shape ho1
    clear ho1
    subst e1
    have q1 : Below y.heap.size y w2 := (((Below.refl _ _).drew : Below y.heap.size y y.drew)).trans (hb1.mono (((Below.refl _ _).drew : Below y.heap.size y y.drew)).size)
    clear h14
    refine hK _ _ (q1) ?_
    clear hK hHeld
    intro hHeld
    refine wpAnyH_ready (rs := [6]) (by kernel_rfl) (by simp) ?_
    refine AllReadyH.cons rfl (fun K hK => ?_) AllReadyH.nil
    go_simp
    refine hK _ _ (q1.alloc q1.size _) ?_
    clear hK hHeld
    intro hHeld
    have p2 : Below y.heap.size y (w2.alloc (.cells #[.int .i32 0, .int .i64 1, .bool false, .int .i32 0, .int .i64 2, .bool true] 39)) := q1.alloc q1.size _
    refine wpAnyH_ready (rs := [7]) (by kernel_rfl) (by simp) ?_
    refine AllReadyH.cons rfl (fun K hK => ?_) AllReadyH.nil
    go_simp
    refine Calls.mono (eqTrue (by decide) (locks_any (w := w2.alloc (.cells #[.int .i32 0, .int .i64 1, .bool false, .int .i32 0, .int .i64 2, .bool true] 39)) (A := liveL) (B := liveL) (((own_sees lC_len (by decide) (unhide H1)).2).below lC_len (below_box _)) (sees_block lC_len liveL (by decide) (by decide) (heap_alloc_new w2 _)))) ?_
    rintro e w3 ⟨rfl, hb3⟩
    have q3 : Below y.heap.size y w3 := (p2).trans (hb3.mono (p2).size)
    refine hK _ _ (q3) ?_
    clear hK hHeld
    intro hHeld
    refine wpAnyH_take (i := 8) (v := ?v6x8) rfl (by as_aux_lemma => kernel_rfl) (by as_aux_lemma => kernel_rfl) (by as_aux_lemma => kernel_rfl) (fun _ _ _ h => h) (Or.inl ⟨by rfl, ?hy6x8⟩) (by assumption) ?rest6x8
    case hy6x8 => intro w hSw; go_simp <;> with_reducible rfl
    simp only [Act.put, List.getElem_toArray, List.getElem_cons_zero, List.getElem_cons_succ, List.setIfInBounds_toArray, List.set_cons_zero, List.set_cons_succ]
    refine wpAnyH_take (i := 9) (v := ?v7x9) rfl (by as_aux_lemma => kernel_rfl) (by as_aux_lemma => kernel_rfl) (by as_aux_lemma => kernel_rfl) (fun _ _ _ h => h) (Or.inl ⟨by rfl, ?hy7x9⟩) (by assumption) ?rest7x9
    case hy7x9 => intro w hSw; go_simp <;> with_reducible rfl
    simp only [Act.put, List.getElem_toArray, List.getElem_cons_zero, List.getElem_cons_succ, List.setIfInBounds_toArray, List.set_cons_zero, List.set_cons_succ]
    refine wpAnyH_take (i := 10) (v := (.slice pa 1 pc)) rfl (by as_aux_lemma => kernel_rfl) (by as_aux_lemma => kernel_rfl) (by as_aux_lemma => kernel_rfl) (fun _ _ _ h => h) (Or.inl ⟨by rfl, ?hy8x10⟩) (by assumption) ?rest8x10
    case hy8x10 => intro w hSw; have s1 := ((unhide HY).2 _ hSw).2.2.2.1; go_simp <;> with_reducible rfl
    simp only [Act.put, List.getElem_toArray, List.getElem_cons_zero, List.getElem_cons_succ, List.setIfInBounds_toArray, List.set_cons_zero, List.set_cons_succ]
    refine wpAnyH_ready (rs := [11]) (by kernel_rfl) (by simp) ?_
    refine AllReadyH.cons rfl (fun K hK => ?_) AllReadyH.nil
    go_simp
    refine hK _ _ (((q3).alloc (q3).size _)) ?_
    clear hK hHeld
    intro hHeld
    have p1 : Below y.heap.size y (w3.alloc (.cells #[.int .i64 0] 3)) := ((q3).alloc (q3).size _)
    refine wpAnyH_ready (rs := [12]) (by kernel_rfl) (by simp) ?_
    refine AllReadyH.cons rfl (fun K hK => ?_) AllReadyH.nil
    go_simp
    refine Calls.mono (eqTrue (by decide) (ints_any (A := [0]) (B := [0]) (((unhide HY).2 _ p1).2.2.2.2) (sees_block nC_len [0] (by decide) (by decide) (heap_alloc_new w3 _)))) ?_
    rintro e w4 ⟨rfl, hb4⟩
    have q4 : Below y.heap.size y w4 := p1.trans (hb4.mono p1.size)
    refine hK _ _ (q4) ?_
    clear hK hHeld
    intro hHeld
    refine wpAnyH_take (i := 13) (v := ?v9x13) rfl (by as_aux_lemma => kernel_rfl) (by as_aux_lemma => kernel_rfl) (by as_aux_lemma => kernel_rfl) (fun _ _ _ h => h) (Or.inl ⟨by rfl, ?hy9x13⟩) (by assumption) ?rest9x13
    case hy9x13 => intro w hSw; go_simp <;> with_reducible rfl
    simp only [Act.put, List.getElem_toArray, List.getElem_cons_zero, List.getElem_cons_succ, List.setIfInBounds_toArray, List.set_cons_zero, List.set_cons_succ]
    refine wpAnyH_take (i := 14) (v := ?v10x14) rfl (by as_aux_lemma => kernel_rfl) (by as_aux_lemma => kernel_rfl) (by as_aux_lemma => kernel_rfl) (fun _ _ _ h => h) (Or.inl ⟨by rfl, ?hy10x14⟩) (by assumption) ?rest10x14
    case hy10x14 => intro w hSw; go_simp <;> with_reducible rfl
    simp only [Act.put, List.getElem_toArray, List.getElem_cons_zero, List.getElem_cons_succ, List.setIfInBounds_toArray, List.set_cons_zero, List.set_cons_succ]
    refine wpAnyH_take (i := 15) (v := (.agg #[.int .i64 0, .int .i64 0, .slice none 0 0, .slice none 0 0, .slice (some ⟨w.heap.size + 1 + 1, 0, none⟩) 2 2, .slice (some ⟨w.heap.size + 1 + 1 + 1, 0, none⟩) 1 1])) rfl (by as_aux_lemma => kernel_rfl) (by as_aux_lemma => kernel_rfl) (by as_aux_lemma => kernel_rfl) (fun _ _ _ h => h) (Or.inl ⟨by rfl, ?hy11x15⟩) (by assumption) ?rest11x15
    case hy11x15 => intro w hSw; have ht := ((unhide HY).2 _ hSw).2.1; have s0 := cell_at (o := 0) ht; have s1 := cell_at (o := 1) ht; have s2 := cell_at (o := 2) ht; have s3 := cell_at (o := 3) ht; have s4 := cell_at (o := 4) ht; have s5 := cell_at (o := 5) ht; go_simp <;> with_reducible rfl
    simp only [Act.put, List.getElem_toArray, List.getElem_cons_zero, List.getElem_cons_succ, List.setIfInBounds_toArray, List.set_cons_zero, List.set_cons_succ]
    refine wpAnyH_take (i := 16) (v := (.agg #[.int .i64 0, .int .i64 0, .slice none 0 0, .slice none 0 0, .slice (some ⟨w.heap.size + 1 + 1, 0, none⟩) 2 2, .slice (some ⟨w.heap.size + 1 + 1 + 1, 0, none⟩) 1 1])) rfl (by as_aux_lemma => kernel_rfl) (by as_aux_lemma => kernel_rfl) (by as_aux_lemma => kernel_rfl) (fun _ _ _ h => h) (Or.inl ⟨by rfl, ?hy12x16⟩) (by assumption) ?rest12x16
    case hy12x16 => intro w hSw; have ht := ((unhide HY).2 _ hSw).2.1; have s0 := cell_at (o := 0) ht; have s1 := cell_at (o := 1) ht; have s2 := cell_at (o := 2) ht; have s3 := cell_at (o := 3) ht; have s4 := cell_at (o := 4) ht; have s5 := cell_at (o := 5) ht; go_simp <;> with_reducible rfl
    simp only [Act.put, List.getElem_toArray, List.getElem_cons_zero, List.getElem_cons_succ, List.setIfInBounds_toArray, List.set_cons_zero, List.set_cons_succ]
    refine wpAnyH_take (i := 17) (v := (.agg #[.int .i64 0, .int .i64 0, .slice none 0 0, .slice none 0 0, .slice (some ⟨w.heap.size + 1 + 1, 0, none⟩) 2 2, .slice (some ⟨w.heap.size + 1 + 1 + 1, 0, none⟩) 1 1])) rfl (by as_aux_lemma => kernel_rfl) (by as_aux_lemma => kernel_rfl) (by as_aux_lemma => kernel_rfl) (fun _ _ _ h => h) (Or.inl ⟨by rfl, ?hy13x17⟩) (by assumption) ?rest13x17
    case hy13x17 => intro w hSw; have ht := ((unhide HY).2 _ hSw).2.1; have s0 := cell_at (o := 0) ht; have s1 := cell_at (o := 1) ht; have s2 := cell_at (o := 2) ht; have s3 := cell_at (o := 3) ht; have s4 := cell_at (o := 4) ht; have s5 := cell_at (o := 5) ht; go_simp <;> with_reducible rfl
    simp only [Act.put, List.getElem_toArray, List.getElem_cons_zero, List.getElem_cons_succ, List.setIfInBounds_toArray, List.set_cons_zero, List.set_cons_succ]
    have q4s := q4.size
    refine wpAnyH_ready (rs := [18, 20]) (by kernel_rfl) (by simp) ?_
    refine AllReadyH.cons rfl (fun K hK => ?_) (AllReadyH.cons rfl (fun K hK => ?_) AllReadyH.nil)
    · skip
      go_simp
      refine hK _ _ (q4.alloc q4.size _) ?_
      clear hK hHeld
      intro hHeld
      have pA : Below y.heap.size y (w4.alloc (.cells #[.int .i64 0, .int .i64 0, .slice none 0 0, .slice none 0 0, .slice (some ⟨w.heap.size + 1 + 1, 0, none⟩) 2 2, .slice (some ⟨w.heap.size + 1 + 1 + 1, 0, none⟩) 1 1, .int .i64 0, .int .i64 0, .slice none 0 0, .slice none 0 0, .slice (some ⟨w.heap.size + 1 + 1, 0, none⟩) 2 2, .slice (some ⟨w.heap.size + 1 + 1 + 1, 0, none⟩) 1 1, .int .i64 0, .int .i64 0, .slice none 0 0, .slice none 0 0, .slice (some ⟨w.heap.size + 1 + 1, 0, none⟩) 2 2, .slice (some ⟨w.heap.size + 1 + 1 + 1, 0, none⟩) 1 1] 26)) := q4.alloc q4.size _
      refine wpAnyH_ready (rs := [19, 20]) (by kernel_rfl) (by simp) ?_
      refine AllReadyH.cons rfl (fun K hK => ?_) (AllReadyH.cons rfl (fun K hK => ?_) AllReadyH.nil)
      · skip
        have h19 := live_levels (w := w) (z := (w4.alloc (.cells #[.int .i64 0, .int .i64 0, .slice none 0 0, .slice none 0 0, .slice (some ⟨w.heap.size + 1 + 1, 0, none⟩) 2 2, .slice (some ⟨w.heap.size + 1 + 1 + 1, 0, none⟩) 1 1, .int .i64 0, .int .i64 0, .slice none 0 0, .slice none 0 0, .slice (some ⟨w.heap.size + 1 + 1, 0, none⟩) 2 2, .slice (some ⟨w.heap.size + 1 + 1 + 1, 0, none⟩) 1 1, .int .i64 0, .int .i64 0, .slice none 0 0, .slice none 0 0, .slice (some ⟨w.heap.size + 1 + 1, 0, none⟩) 2 2, .slice (some ⟨w.heap.size + 1 + 1 + 1, 0, none⟩) 1 1] 26))) (heap_alloc_new w4 _) (((unhide HY).2 _ (pA)).2.2.1)
        go_simp
        refine Calls.mono h19 ?_
        rintro e w5 ⟨v5, rfl, ho5, hb5⟩
        have H5 := hide ho5
        obtain ⟨a5, k5, e5⟩ := own_shape ho5
        clear ho5
        subst e5
        have q5 : Below y.heap.size y w5 := (pA).trans (hb5.mono (pA).size)
        clear h19
        refine hK _ _ (q5) ?_
        clear hK hHeld
        intro hHeld
        refine wpAnyH_ready (rs := [20]) (by kernel_rfl) (by simp) ?_
        refine AllReadyH.cons rfl (fun K hK => ?_) AllReadyH.nil
        go_simp
        refine hK _ _ (q5.alloc q5.size _) ?_
        clear hK hHeld
        intro hHeld
        have pC : Below y.heap.size y (w5.alloc (.cells #[.int .i64 0, .int .i64 1, .int .i64 2] 3)) := q5.alloc q5.size _
        refine wpAnyH_ready (rs := [21]) (by kernel_rfl) (by simp) ?_
        refine AllReadyH.cons rfl (fun K hK => ?_) AllReadyH.nil
        go_simp
        refine Calls.mono (eqTrue (by decide) (ints_any (w := w5.alloc (.cells #[.int .i64 0, .int .i64 1, .int .i64 2] 3)) (A := [0, 1, 2]) (B := [0, 1, 2]) (((own_sees nC_len (by decide) (unhide H5)).2).below nC_len (below_box _)) (sees_block nC_len [0, 1, 2] (by decide) (by decide) (heap_alloc_new w5 _)))) ?_
        rintro e w6 ⟨rfl, hb6⟩
        have q6 : Below y.heap.size y w6 := (pC).trans (hb6.mono (pC).size)
        refine hK _ _ (q6) ?_
        clear hK hHeld
        intro hHeld
        refine wpAnyH_take (i := 22) (v := ?v14x22) rfl (by as_aux_lemma => kernel_rfl) (by as_aux_lemma => kernel_rfl) (by as_aux_lemma => kernel_rfl) (fun _ _ _ h => h) (Or.inl ⟨by rfl, ?hy14x22⟩) (by assumption) ?rest14x22
        case hy14x22 => intro w hSw; go_simp <;> with_reducible rfl
        simp only [Act.put, List.getElem_toArray, List.getElem_cons_zero, List.getElem_cons_succ, List.setIfInBounds_toArray, List.set_cons_zero, List.set_cons_succ]
        refine wpAnyH_take (i := 23) (v := ?v15x23) rfl (by as_aux_lemma => kernel_rfl) (by as_aux_lemma => kernel_rfl) (by as_aux_lemma => kernel_rfl) (fun _ _ _ h => h) (Or.inl ⟨by rfl, ?hy15x23⟩) (by assumption) ?rest15x23
        case hy15x23 => intro w hSw; go_simp <;> with_reducible rfl
        simp only [Act.put, List.getElem_toArray, List.getElem_cons_zero, List.getElem_cons_succ, List.setIfInBounds_toArray, List.set_cons_zero]
        refine wpAnyH_done (by as_aux_lemma => kernel_rfl) ?_ _
        go_wp2
        go_ret
        exact ⟨rfl, (unhide HY).1.trans (q6.mono (unhide HY).1.size)⟩
      · skip
        go_simp
        refine hK _ _ (pA.alloc pA.size _) ?_
        clear hK hHeld
        intro hHeld
        have pB : Below y.heap.size y ((w4.alloc (.cells #[.int .i64 0, .int .i64 0, .slice none 0 0, .slice none 0 0, .slice (some ⟨w.heap.size + 1 + 1, 0, none⟩) 2 2, .slice (some ⟨w.heap.size + 1 + 1 + 1, 0, none⟩) 1 1, .int .i64 0, .int .i64 0, .slice none 0 0, .slice none 0 0, .slice (some ⟨w.heap.size + 1 + 1, 0, none⟩) 2 2, .slice (some ⟨w.heap.size + 1 + 1 + 1, 0, none⟩) 1 1, .int .i64 0, .int .i64 0, .slice none 0 0, .slice none 0 0, .slice (some ⟨w.heap.size + 1 + 1, 0, none⟩) 2 2, .slice (some ⟨w.heap.size + 1 + 1 + 1, 0, none⟩) 1 1] 26)).alloc (.cells #[.int .i64 0, .int .i64 1, .int .i64 2] 3)) := pA.alloc pA.size _
        refine wpAnyH_ready (rs := [19]) (by kernel_rfl) (by simp) ?_
        refine AllReadyH.cons rfl (fun K hK => ?_) AllReadyH.nil
        have hI : ((w4.alloc (.cells #[.int .i64 0, .int .i64 0, .slice none 0 0, .slice none 0 0, .slice (some ⟨w.heap.size + 1 + 1, 0, none⟩) 2 2, .slice (some ⟨w.heap.size + 1 + 1 + 1, 0, none⟩) 1 1, .int .i64 0, .int .i64 0, .slice none 0 0, .slice none 0 0, .slice (some ⟨w.heap.size + 1 + 1, 0, none⟩) 2 2, .slice (some ⟨w.heap.size + 1 + 1 + 1, 0, none⟩) 1 1, .int .i64 0, .int .i64 0, .slice none 0 0, .slice none 0 0, .slice (some ⟨w.heap.size + 1 + 1, 0, none⟩) 2 2, .slice (some ⟨w.heap.size + 1 + 1 + 1, 0, none⟩) 1 1] 26)).alloc (.cells #[.int .i64 0, .int .i64 1, .int .i64 2] 3)).heap[w4.heap.size + 1]? = some (.cells #[.int .i64 0, .int .i64 1, .int .i64 2] 3) := by have h := heap_alloc_new (w4.alloc (.cells #[.int .i64 0, .int .i64 0, .slice none 0 0, .slice none 0 0, .slice (some ⟨w.heap.size + 1 + 1, 0, none⟩) 2 2, .slice (some ⟨w.heap.size + 1 + 1 + 1, 0, none⟩) 1 1, .int .i64 0, .int .i64 0, .slice none 0 0, .slice none 0 0, .slice (some ⟨w.heap.size + 1 + 1, 0, none⟩) 2 2, .slice (some ⟨w.heap.size + 1 + 1 + 1, 0, none⟩) 1 1, .int .i64 0, .int .i64 0, .slice none 0 0, .slice none 0 0, .slice (some ⟨w.heap.size + 1 + 1, 0, none⟩) 2 2, .slice (some ⟨w.heap.size + 1 + 1 + 1, 0, none⟩) 1 1] 26)) (.cells #[.int .i64 0, .int .i64 1, .int .i64 2] 3); rwa [show (w4.alloc (.cells #[.int .i64 0, .int .i64 0, .slice none 0 0, .slice none 0 0, .slice (some ⟨w.heap.size + 1 + 1, 0, none⟩) 2 2, .slice (some ⟨w.heap.size + 1 + 1 + 1, 0, none⟩) 1 1, .int .i64 0, .int .i64 0, .slice none 0 0, .slice none 0 0, .slice (some ⟨w.heap.size + 1 + 1, 0, none⟩) 2 2, .slice (some ⟨w.heap.size + 1 + 1 + 1, 0, none⟩) 1 1, .int .i64 0, .int .i64 0, .slice none 0 0, .slice none 0 0, .slice (some ⟨w.heap.size + 1 + 1, 0, none⟩) 2 2, .slice (some ⟨w.heap.size + 1 + 1 + 1, 0, none⟩) 1 1] 26)).heap.size = w4.heap.size + 1 by simp] at h
        have hA : ((w4.alloc (.cells #[.int .i64 0, .int .i64 0, .slice none 0 0, .slice none 0 0, .slice (some ⟨w.heap.size + 1 + 1, 0, none⟩) 2 2, .slice (some ⟨w.heap.size + 1 + 1 + 1, 0, none⟩) 1 1, .int .i64 0, .int .i64 0, .slice none 0 0, .slice none 0 0, .slice (some ⟨w.heap.size + 1 + 1, 0, none⟩) 2 2, .slice (some ⟨w.heap.size + 1 + 1 + 1, 0, none⟩) 1 1, .int .i64 0, .int .i64 0, .slice none 0 0, .slice none 0 0, .slice (some ⟨w.heap.size + 1 + 1, 0, none⟩) 2 2, .slice (some ⟨w.heap.size + 1 + 1 + 1, 0, none⟩) 1 1] 26)).alloc (.cells #[.int .i64 0, .int .i64 1, .int .i64 2] 3)).heap[w4.heap.size]? = some (.cells #[.int .i64 0, .int .i64 0, .slice none 0 0, .slice none 0 0, .slice (some ⟨w.heap.size + 1 + 1, 0, none⟩) 2 2, .slice (some ⟨w.heap.size + 1 + 1 + 1, 0, none⟩) 1 1, .int .i64 0, .int .i64 0, .slice none 0 0, .slice none 0 0, .slice (some ⟨w.heap.size + 1 + 1, 0, none⟩) 2 2, .slice (some ⟨w.heap.size + 1 + 1 + 1, 0, none⟩) 1 1, .int .i64 0, .int .i64 0, .slice none 0 0, .slice none 0 0, .slice (some ⟨w.heap.size + 1 + 1, 0, none⟩) 2 2, .slice (some ⟨w.heap.size + 1 + 1 + 1, 0, none⟩) 1 1] 26) := (Below.heap_alloc (w4.alloc (.cells #[.int .i64 0, .int .i64 0, .slice none 0 0, .slice none 0 0, .slice (some ⟨w.heap.size + 1 + 1, 0, none⟩) 2 2, .slice (some ⟨w.heap.size + 1 + 1 + 1, 0, none⟩) 1 1, .int .i64 0, .int .i64 0, .slice none 0 0, .slice none 0 0, .slice (some ⟨w.heap.size + 1 + 1, 0, none⟩) 2 2, .slice (some ⟨w.heap.size + 1 + 1 + 1, 0, none⟩) 1 1, .int .i64 0, .int .i64 0, .slice none 0 0, .slice none 0 0, .slice (some ⟨w.heap.size + 1 + 1, 0, none⟩) 2 2, .slice (some ⟨w.heap.size + 1 + 1 + 1, 0, none⟩) 1 1] 26)) _ _ (Array.getElem?_eq_some_iff.1 (heap_alloc_new w4 (.cells #[.int .i64 0, .int .i64 0, .slice none 0 0, .slice none 0 0, .slice (some ⟨w.heap.size + 1 + 1, 0, none⟩) 2 2, .slice (some ⟨w.heap.size + 1 + 1 + 1, 0, none⟩) 1 1, .int .i64 0, .int .i64 0, .slice none 0 0, .slice none 0 0, .slice (some ⟨w.heap.size + 1 + 1, 0, none⟩) 2 2, .slice (some ⟨w.heap.size + 1 + 1 + 1, 0, none⟩) 1 1, .int .i64 0, .int .i64 0, .slice none 0 0, .slice none 0 0, .slice (some ⟨w.heap.size + 1 + 1, 0, none⟩) 2 2, .slice (some ⟨w.heap.size + 1 + 1 + 1, 0, none⟩) 1 1] 26))).1).trans (heap_alloc_new w4 _)
        have h19 := live_levels (w := w) (z := ((w4.alloc (.cells #[.int .i64 0, .int .i64 0, .slice none 0 0, .slice none 0 0, .slice (some ⟨w.heap.size + 1 + 1, 0, none⟩) 2 2, .slice (some ⟨w.heap.size + 1 + 1 + 1, 0, none⟩) 1 1, .int .i64 0, .int .i64 0, .slice none 0 0, .slice none 0 0, .slice (some ⟨w.heap.size + 1 + 1, 0, none⟩) 2 2, .slice (some ⟨w.heap.size + 1 + 1 + 1, 0, none⟩) 1 1, .int .i64 0, .int .i64 0, .slice none 0 0, .slice none 0 0, .slice (some ⟨w.heap.size + 1 + 1, 0, none⟩) 2 2, .slice (some ⟨w.heap.size + 1 + 1 + 1, 0, none⟩) 1 1] 26)).alloc (.cells #[.int .i64 0, .int .i64 1, .int .i64 2] 3))) hA (((unhide HY).2 _ (pB)).2.2.1)
        go_simp
        refine Calls.mono h19 ?_
        rintro e w5 ⟨v5, rfl, ho5, hb5⟩
        have H5 := hide ho5
        obtain ⟨a5, k5, e5⟩ := own_shape ho5
        clear ho5
        subst e5
        have q5 : Below y.heap.size y w5 := (pB).trans (hb5.mono (pB).size)
        clear h19
        refine hK _ _ (q5) ?_
        clear hK hHeld
        intro hHeld
        refine wpAnyH_ready (rs := [21]) (by kernel_rfl) (by simp) ?_
        refine AllReadyH.cons rfl (fun K hK => ?_) AllReadyH.nil
        go_simp
        refine Calls.mono (eqTrue (by decide) (ints_any (w := w5) (A := [0, 1, 2]) (B := [0, 1, 2]) ((own_sees nC_len (by decide) (unhide H5)).2) ((sees_block nC_len [0, 1, 2] (by decide) (by decide) hI).below nC_len hb5))) ?_
        rintro e w6 ⟨rfl, hb6⟩
        have q6 : Below y.heap.size y w6 := (q5).trans (hb6.mono (q5).size)
        refine hK _ _ (q6) ?_
        clear hK hHeld
        intro hHeld
        refine wpAnyH_take (i := 22) (v := ?v16x22) rfl (by as_aux_lemma => kernel_rfl) (by as_aux_lemma => kernel_rfl) (by as_aux_lemma => kernel_rfl) (fun _ _ _ h => h) (Or.inl ⟨by rfl, ?hy16x22⟩) (by assumption) ?rest16x22
        case hy16x22 => intro w hSw; go_simp <;> with_reducible rfl
        simp only [Act.put, List.getElem_toArray, List.getElem_cons_zero, List.getElem_cons_succ, List.setIfInBounds_toArray, List.set_cons_zero, List.set_cons_succ]
        refine wpAnyH_take (i := 23) (v := ?v17x23) rfl (by as_aux_lemma => kernel_rfl) (by as_aux_lemma => kernel_rfl) (by as_aux_lemma => kernel_rfl) (fun _ _ _ h => h) (Or.inl ⟨by rfl, ?hy17x23⟩) (by assumption) ?rest17x23
        case hy17x23 => intro w hSw; go_simp <;> with_reducible rfl
        simp only [Act.put, List.getElem_toArray, List.getElem_cons_zero, List.getElem_cons_succ, List.setIfInBounds_toArray, List.set_cons_zero]
        refine wpAnyH_done (by as_aux_lemma => kernel_rfl) ?_ _
        go_wp2
        go_ret
        exact ⟨rfl, (unhide HY).1.trans (q6.mono (unhide HY).1.size)⟩
    · skip
      go_simp
      refine hK _ _ (q4.alloc q4.size _) ?_
      clear hK hHeld
      intro hHeld
      have pA : Below y.heap.size y (w4.alloc (.cells #[.int .i64 0, .int .i64 1, .int .i64 2] 3)) := q4.alloc q4.size _
      refine wpAnyH_ready (rs := [18]) (by kernel_rfl) (by simp) ?_
      refine AllReadyH.cons rfl (fun K hK => ?_) AllReadyH.nil
      go_simp
      refine hK _ _ (pA.alloc pA.size _) ?_
      clear hK hHeld
      intro hHeld
      have pB : Below y.heap.size y ((w4.alloc (.cells #[.int .i64 0, .int .i64 1, .int .i64 2] 3)).alloc (.cells #[.int .i64 0, .int .i64 0, .slice none 0 0, .slice none 0 0, .slice (some ⟨w.heap.size + 1 + 1, 0, none⟩) 2 2, .slice (some ⟨w.heap.size + 1 + 1 + 1, 0, none⟩) 1 1, .int .i64 0, .int .i64 0, .slice none 0 0, .slice none 0 0, .slice (some ⟨w.heap.size + 1 + 1, 0, none⟩) 2 2, .slice (some ⟨w.heap.size + 1 + 1 + 1, 0, none⟩) 1 1, .int .i64 0, .int .i64 0, .slice none 0 0, .slice none 0 0, .slice (some ⟨w.heap.size + 1 + 1, 0, none⟩) 2 2, .slice (some ⟨w.heap.size + 1 + 1 + 1, 0, none⟩) 1 1] 26)) := pA.alloc pA.size _
      refine wpAnyH_ready (rs := [19]) (by kernel_rfl) (by simp) ?_
      refine AllReadyH.cons rfl (fun K hK => ?_) AllReadyH.nil
      have hT : ((w4.alloc (.cells #[.int .i64 0, .int .i64 1, .int .i64 2] 3)).alloc (.cells #[.int .i64 0, .int .i64 0, .slice none 0 0, .slice none 0 0, .slice (some ⟨w.heap.size + 1 + 1, 0, none⟩) 2 2, .slice (some ⟨w.heap.size + 1 + 1 + 1, 0, none⟩) 1 1, .int .i64 0, .int .i64 0, .slice none 0 0, .slice none 0 0, .slice (some ⟨w.heap.size + 1 + 1, 0, none⟩) 2 2, .slice (some ⟨w.heap.size + 1 + 1 + 1, 0, none⟩) 1 1, .int .i64 0, .int .i64 0, .slice none 0 0, .slice none 0 0, .slice (some ⟨w.heap.size + 1 + 1, 0, none⟩) 2 2, .slice (some ⟨w.heap.size + 1 + 1 + 1, 0, none⟩) 1 1] 26)).heap[w4.heap.size + 1]? = some (.cells #[.int .i64 0, .int .i64 0, .slice none 0 0, .slice none 0 0, .slice (some ⟨w.heap.size + 1 + 1, 0, none⟩) 2 2, .slice (some ⟨w.heap.size + 1 + 1 + 1, 0, none⟩) 1 1, .int .i64 0, .int .i64 0, .slice none 0 0, .slice none 0 0, .slice (some ⟨w.heap.size + 1 + 1, 0, none⟩) 2 2, .slice (some ⟨w.heap.size + 1 + 1 + 1, 0, none⟩) 1 1, .int .i64 0, .int .i64 0, .slice none 0 0, .slice none 0 0, .slice (some ⟨w.heap.size + 1 + 1, 0, none⟩) 2 2, .slice (some ⟨w.heap.size + 1 + 1 + 1, 0, none⟩) 1 1] 26) := by have h := heap_alloc_new (w4.alloc (.cells #[.int .i64 0, .int .i64 1, .int .i64 2] 3)) (.cells #[.int .i64 0, .int .i64 0, .slice none 0 0, .slice none 0 0, .slice (some ⟨w.heap.size + 1 + 1, 0, none⟩) 2 2, .slice (some ⟨w.heap.size + 1 + 1 + 1, 0, none⟩) 1 1, .int .i64 0, .int .i64 0, .slice none 0 0, .slice none 0 0, .slice (some ⟨w.heap.size + 1 + 1, 0, none⟩) 2 2, .slice (some ⟨w.heap.size + 1 + 1 + 1, 0, none⟩) 1 1, .int .i64 0, .int .i64 0, .slice none 0 0, .slice none 0 0, .slice (some ⟨w.heap.size + 1 + 1, 0, none⟩) 2 2, .slice (some ⟨w.heap.size + 1 + 1 + 1, 0, none⟩) 1 1] 26); rwa [show (w4.alloc (.cells #[.int .i64 0, .int .i64 1, .int .i64 2] 3)).heap.size = w4.heap.size + 1 by simp] at h
      have h19 := live_levels (w := w) (z := ((w4.alloc (.cells #[.int .i64 0, .int .i64 1, .int .i64 2] 3)).alloc (.cells #[.int .i64 0, .int .i64 0, .slice none 0 0, .slice none 0 0, .slice (some ⟨w.heap.size + 1 + 1, 0, none⟩) 2 2, .slice (some ⟨w.heap.size + 1 + 1 + 1, 0, none⟩) 1 1, .int .i64 0, .int .i64 0, .slice none 0 0, .slice none 0 0, .slice (some ⟨w.heap.size + 1 + 1, 0, none⟩) 2 2, .slice (some ⟨w.heap.size + 1 + 1 + 1, 0, none⟩) 1 1, .int .i64 0, .int .i64 0, .slice none 0 0, .slice none 0 0, .slice (some ⟨w.heap.size + 1 + 1, 0, none⟩) 2 2, .slice (some ⟨w.heap.size + 1 + 1 + 1, 0, none⟩) 1 1] 26))) hT (((unhide HY).2 _ (pB)).2.2.1)
      go_simp
      refine Calls.mono h19 ?_
      rintro e w5 ⟨v5, rfl, ho5, hb5⟩
      have H5 := hide ho5
      obtain ⟨a5, k5, e5⟩ := own_shape ho5
      clear ho5
      subst e5
      have q5 : Below y.heap.size y w5 := (pB).trans (hb5.mono (pB).size)
      clear h19
      refine hK _ _ (q5) ?_
      clear hK hHeld
      intro hHeld
      refine wpAnyH_ready (rs := [21]) (by kernel_rfl) (by simp) ?_
      refine AllReadyH.cons rfl (fun K hK => ?_) AllReadyH.nil
      go_simp
      refine Calls.mono (eqTrue (by decide) (ints_any (w := w5) (A := [0, 1, 2]) (B := [0, 1, 2]) ((own_sees nC_len (by decide) (unhide H5)).2) (((sees_block nC_len [0, 1, 2] (by decide) (by decide) (heap_alloc_new w4 (.cells #[.int .i64 0, .int .i64 1, .int .i64 2] 3))).below nC_len (below_box (.cells #[.int .i64 0, .int .i64 0, .slice none 0 0, .slice none 0 0, .slice (some ⟨w.heap.size + 1 + 1, 0, none⟩) 2 2, .slice (some ⟨w.heap.size + 1 + 1 + 1, 0, none⟩) 1 1, .int .i64 0, .int .i64 0, .slice none 0 0, .slice none 0 0, .slice (some ⟨w.heap.size + 1 + 1, 0, none⟩) 2 2, .slice (some ⟨w.heap.size + 1 + 1 + 1, 0, none⟩) 1 1, .int .i64 0, .int .i64 0, .slice none 0 0, .slice none 0 0, .slice (some ⟨w.heap.size + 1 + 1, 0, none⟩) 2 2, .slice (some ⟨w.heap.size + 1 + 1 + 1, 0, none⟩) 1 1] 26))).below nC_len hb5))) ?_
      rintro e w6 ⟨rfl, hb6⟩
      have q6 : Below y.heap.size y w6 := (q5).trans (hb6.mono (q5).size)
      refine hK _ _ (q6) ?_
      clear hK hHeld
      intro hHeld
      refine wpAnyH_take (i := 22) (v := ?v18x22) rfl (by as_aux_lemma => kernel_rfl) (by as_aux_lemma => kernel_rfl) (by as_aux_lemma => kernel_rfl) (fun _ _ _ h => h) (Or.inl ⟨by rfl, ?hy18x22⟩) (by assumption) ?rest18x22
      case hy18x22 => intro w hSw; go_simp <;> with_reducible rfl
      simp only [Act.put, List.getElem_toArray, List.getElem_cons_zero, List.getElem_cons_succ, List.setIfInBounds_toArray, List.set_cons_zero, List.set_cons_succ]
      refine wpAnyH_take (i := 23) (v := ?v19x23) rfl (by as_aux_lemma => kernel_rfl) (by as_aux_lemma => kernel_rfl) (by as_aux_lemma => kernel_rfl) (fun _ _ _ h => h) (Or.inl ⟨by rfl, ?hy19x23⟩) (by assumption) ?rest19x23
      case hy19x23 => intro w hSw; go_simp <;> with_reducible rfl
      simp only [Act.put, List.getElem_toArray, List.getElem_cons_zero, List.getElem_cons_succ, List.setIfInBounds_toArray, List.set_cons_zero]
      refine wpAnyH_done (by as_aux_lemma => kernel_rfl) ?_ _
      go_wp2
      go_ret
      exact ⟨rfl, (unhide HY).1.trans (q6.mono (unhide HY).1.size)⟩
  · skip
    go_simp
    refine hK _ _ (((Below.refl _ _).drew : Below y.heap.size y y.drew).alloc ((Below.refl _ _).drew : Below y.heap.size y y.drew).size _) ?_
    clear hK hHeld
    intro hHeld
    have p0 : Below y.heap.size y (y.drew.alloc (.cells #[.int .i32 0, .int .i64 1, .bool false, .int .i32 0, .int .i64 2, .bool true] 39)) := ((Below.refl _ _).drew : Below y.heap.size y y.drew).alloc ((Below.refl _ _).drew : Below y.heap.size y y.drew).size _
    refine wpAnyH_ready (rs := [1]) (by kernel_rfl) (by simp) ?_
    refine AllReadyH.cons rfl (fun K hK => ?_) AllReadyH.nil
    have h14 := lkX_any (x := liveT w.heap.size) (((unhide HY).2 _ (p0)).2.2.1 : SeesX (y.drew.alloc (.cells #[.int .i32 0, .int .i64 1, .bool false, .int .i32 0, .int .i64 2, .bool true] 39)) _) (short_live _)
    rw [live_lks] at h14
    unfold xV liveT at h14
    go_simp
    refine Calls.mono h14 ?_
    rintro e w2 ⟨v1, rfl, ho1, hb1⟩
    have H1 := hide ho1
    obtain ⟨a1, k1, e1⟩ := own_shape ho1
    clear ho1
    subst e1
    have q1 : Below y.heap.size y w2 := (p0).trans (hb1.mono (p0).size)
    clear h14
    refine hK _ _ (q1) ?_
    clear hK hHeld
    intro hHeld
    refine wpAnyH_ready (rs := [7]) (by kernel_rfl) (by simp) ?_
    refine AllReadyH.cons rfl (fun K hK => ?_) AllReadyH.nil
    go_simp
    refine Calls.mono (eqTrue (by decide) (locks_any (w := w2) (A := liveL) (B := liveL) ((own_sees lC_len (by decide) (unhide H1)).2) ((sees_block lC_len liveL (by decide) (by decide) (heap_alloc_new y.drew (.cells #[.int .i32 0, .int .i64 1, .bool false, .int .i32 0, .int .i64 2, .bool true] 39))).below lC_len hb1))) ?_
    rintro e w3 ⟨rfl, hb3⟩
    have q3 : Below y.heap.size y w3 := (q1).trans (hb3.mono (q1).size)
    refine hK _ _ (q3) ?_
    clear hK hHeld
    intro hHeld
    refine wpAnyH_take (i := 8) (v := ?v20x8) rfl (by as_aux_lemma => kernel_rfl) (by as_aux_lemma => kernel_rfl) (by as_aux_lemma => kernel_rfl) (fun _ _ _ h => h) (Or.inl ⟨by rfl, ?hy20x8⟩) (by assumption) ?rest20x8
    case hy20x8 => intro w hSw; go_simp <;> with_reducible rfl
    simp only [Act.put, List.getElem_toArray, List.getElem_cons_zero, List.getElem_cons_succ, List.setIfInBounds_toArray, List.set_cons_zero, List.set_cons_succ]
    refine wpAnyH_take (i := 9) (v := ?v21x9) rfl (by as_aux_lemma => kernel_rfl) (by as_aux_lemma => kernel_rfl) (by as_aux_lemma => kernel_rfl) (fun _ _ _ h => h) (Or.inl ⟨by rfl, ?hy21x9⟩) (by assumption) ?rest21x9
    case hy21x9 => intro w hSw; go_simp <;> with_reducible rfl
    simp only [Act.put, List.getElem_toArray, List.getElem_cons_zero, List.getElem_cons_succ, List.setIfInBounds_toArray, List.set_cons_zero, List.set_cons_succ]
    refine wpAnyH_take (i := 10) (v := (.slice pa 1 pc)) rfl (by as_aux_lemma => kernel_rfl) (by as_aux_lemma => kernel_rfl) (by as_aux_lemma => kernel_rfl) (fun _ _ _ h => h) (Or.inl ⟨by rfl, ?hy22x10⟩) (by assumption) ?rest22x10
    case hy22x10 => intro w hSw; have s1 := ((unhide HY).2 _ hSw).2.2.2.1; go_simp <;> with_reducible rfl
    simp only [Act.put, List.getElem_toArray, List.getElem_cons_zero, List.getElem_cons_succ, List.setIfInBounds_toArray, List.set_cons_zero, List.set_cons_succ]
    refine wpAnyH_ready (rs := [11]) (by kernel_rfl) (by simp) ?_
    refine AllReadyH.cons rfl (fun K hK => ?_) AllReadyH.nil
    go_simp
    refine hK _ _ (((q3).alloc (q3).size _)) ?_
    clear hK hHeld
    intro hHeld
    have p1 : Below y.heap.size y (w3.alloc (.cells #[.int .i64 0] 3)) := ((q3).alloc (q3).size _)
    refine wpAnyH_ready (rs := [12]) (by kernel_rfl) (by simp) ?_
    refine AllReadyH.cons rfl (fun K hK => ?_) AllReadyH.nil
    go_simp
    refine Calls.mono (eqTrue (by decide) (ints_any (A := [0]) (B := [0]) (((unhide HY).2 _ p1).2.2.2.2) (sees_block nC_len [0] (by decide) (by decide) (heap_alloc_new w3 _)))) ?_
    rintro e w4 ⟨rfl, hb4⟩
    have q4 : Below y.heap.size y w4 := p1.trans (hb4.mono p1.size)
    refine hK _ _ (q4) ?_
    clear hK hHeld
    intro hHeld
    refine wpAnyH_take (i := 13) (v := ?v23x13) rfl (by as_aux_lemma => kernel_rfl) (by as_aux_lemma => kernel_rfl) (by as_aux_lemma => kernel_rfl) (fun _ _ _ h => h) (Or.inl ⟨by rfl, ?hy23x13⟩) (by assumption) ?rest23x13
    case hy23x13 => intro w hSw; go_simp <;> with_reducible rfl
    simp only [Act.put, List.getElem_toArray, List.getElem_cons_zero, List.getElem_cons_succ, List.setIfInBounds_toArray, List.set_cons_zero, List.set_cons_succ]
    refine wpAnyH_take (i := 14) (v := ?v24x14) rfl (by as_aux_lemma => kernel_rfl) (by as_aux_lemma => kernel_rfl) (by as_aux_lemma => kernel_rfl) (fun _ _ _ h => h) (Or.inl ⟨by rfl, ?hy24x14⟩) (by assumption) ?rest24x14
    case hy24x14 => intro w hSw; go_simp <;> with_reducible rfl
    simp only [Act.put, List.getElem_toArray, List.getElem_cons_zero, List.getElem_cons_succ, List.setIfInBounds_toArray, List.set_cons_zero, List.set_cons_succ]
    refine wpAnyH_take (i := 15) (v := (.agg #[.int .i64 0, .int .i64 0, .slice none 0 0, .slice none 0 0, .slice (some ⟨w.heap.size + 1 + 1, 0, none⟩) 2 2, .slice (some ⟨w.heap.size + 1 + 1 + 1, 0, none⟩) 1 1])) rfl (by as_aux_lemma => kernel_rfl) (by as_aux_lemma => kernel_rfl) (by as_aux_lemma => kernel_rfl) (fun _ _ _ h => h) (Or.inl ⟨by rfl, ?hy25x15⟩) (by assumption) ?rest25x15
    case hy25x15 => intro w hSw; have ht := ((unhide HY).2 _ hSw).2.1; have s0 := cell_at (o := 0) ht; have s1 := cell_at (o := 1) ht; have s2 := cell_at (o := 2) ht; have s3 := cell_at (o := 3) ht; have s4 := cell_at (o := 4) ht; have s5 := cell_at (o := 5) ht; go_simp <;> with_reducible rfl
    simp only [Act.put, List.getElem_toArray, List.getElem_cons_zero, List.getElem_cons_succ, List.setIfInBounds_toArray, List.set_cons_zero, List.set_cons_succ]
    refine wpAnyH_take (i := 16) (v := (.agg #[.int .i64 0, .int .i64 0, .slice none 0 0, .slice none 0 0, .slice (some ⟨w.heap.size + 1 + 1, 0, none⟩) 2 2, .slice (some ⟨w.heap.size + 1 + 1 + 1, 0, none⟩) 1 1])) rfl (by as_aux_lemma => kernel_rfl) (by as_aux_lemma => kernel_rfl) (by as_aux_lemma => kernel_rfl) (fun _ _ _ h => h) (Or.inl ⟨by rfl, ?hy26x16⟩) (by assumption) ?rest26x16
    case hy26x16 => intro w hSw; have ht := ((unhide HY).2 _ hSw).2.1; have s0 := cell_at (o := 0) ht; have s1 := cell_at (o := 1) ht; have s2 := cell_at (o := 2) ht; have s3 := cell_at (o := 3) ht; have s4 := cell_at (o := 4) ht; have s5 := cell_at (o := 5) ht; go_simp <;> with_reducible rfl
    simp only [Act.put, List.getElem_toArray, List.getElem_cons_zero, List.getElem_cons_succ, List.setIfInBounds_toArray, List.set_cons_zero, List.set_cons_succ]
    refine wpAnyH_take (i := 17) (v := (.agg #[.int .i64 0, .int .i64 0, .slice none 0 0, .slice none 0 0, .slice (some ⟨w.heap.size + 1 + 1, 0, none⟩) 2 2, .slice (some ⟨w.heap.size + 1 + 1 + 1, 0, none⟩) 1 1])) rfl (by as_aux_lemma => kernel_rfl) (by as_aux_lemma => kernel_rfl) (by as_aux_lemma => kernel_rfl) (fun _ _ _ h => h) (Or.inl ⟨by rfl, ?hy27x17⟩) (by assumption) ?rest27x17
    case hy27x17 => intro w hSw; have ht := ((unhide HY).2 _ hSw).2.1; have s0 := cell_at (o := 0) ht; have s1 := cell_at (o := 1) ht; have s2 := cell_at (o := 2) ht; have s3 := cell_at (o := 3) ht; have s4 := cell_at (o := 4) ht; have s5 := cell_at (o := 5) ht; go_simp <;> with_reducible rfl
    simp only [Act.put, List.getElem_toArray, List.getElem_cons_zero, List.getElem_cons_succ, List.setIfInBounds_toArray, List.set_cons_zero, List.set_cons_succ]
    have q4s := q4.size
    refine wpAnyH_ready (rs := [18, 20]) (by kernel_rfl) (by simp) ?_
    refine AllReadyH.cons rfl (fun K hK => ?_) (AllReadyH.cons rfl (fun K hK => ?_) AllReadyH.nil)
    · skip
      go_simp
      refine hK _ _ (q4.alloc q4.size _) ?_
      clear hK hHeld
      intro hHeld
      have pA : Below y.heap.size y (w4.alloc (.cells #[.int .i64 0, .int .i64 0, .slice none 0 0, .slice none 0 0, .slice (some ⟨w.heap.size + 1 + 1, 0, none⟩) 2 2, .slice (some ⟨w.heap.size + 1 + 1 + 1, 0, none⟩) 1 1, .int .i64 0, .int .i64 0, .slice none 0 0, .slice none 0 0, .slice (some ⟨w.heap.size + 1 + 1, 0, none⟩) 2 2, .slice (some ⟨w.heap.size + 1 + 1 + 1, 0, none⟩) 1 1, .int .i64 0, .int .i64 0, .slice none 0 0, .slice none 0 0, .slice (some ⟨w.heap.size + 1 + 1, 0, none⟩) 2 2, .slice (some ⟨w.heap.size + 1 + 1 + 1, 0, none⟩) 1 1] 26)) := q4.alloc q4.size _
      refine wpAnyH_ready (rs := [19, 20]) (by kernel_rfl) (by simp) ?_
      refine AllReadyH.cons rfl (fun K hK => ?_) (AllReadyH.cons rfl (fun K hK => ?_) AllReadyH.nil)
      · skip
        have h19 := live_levels (w := w) (z := (w4.alloc (.cells #[.int .i64 0, .int .i64 0, .slice none 0 0, .slice none 0 0, .slice (some ⟨w.heap.size + 1 + 1, 0, none⟩) 2 2, .slice (some ⟨w.heap.size + 1 + 1 + 1, 0, none⟩) 1 1, .int .i64 0, .int .i64 0, .slice none 0 0, .slice none 0 0, .slice (some ⟨w.heap.size + 1 + 1, 0, none⟩) 2 2, .slice (some ⟨w.heap.size + 1 + 1 + 1, 0, none⟩) 1 1, .int .i64 0, .int .i64 0, .slice none 0 0, .slice none 0 0, .slice (some ⟨w.heap.size + 1 + 1, 0, none⟩) 2 2, .slice (some ⟨w.heap.size + 1 + 1 + 1, 0, none⟩) 1 1] 26))) (heap_alloc_new w4 _) (((unhide HY).2 _ (pA)).2.2.1)
        go_simp
        refine Calls.mono h19 ?_
        rintro e w5 ⟨v5, rfl, ho5, hb5⟩
        have H5 := hide ho5
        obtain ⟨a5, k5, e5⟩ := own_shape ho5
        clear ho5
        subst e5
        have q5 : Below y.heap.size y w5 := (pA).trans (hb5.mono (pA).size)
        clear h19
        refine hK _ _ (q5) ?_
        clear hK hHeld
        intro hHeld
        refine wpAnyH_ready (rs := [20]) (by kernel_rfl) (by simp) ?_
        refine AllReadyH.cons rfl (fun K hK => ?_) AllReadyH.nil
        go_simp
        refine hK _ _ (q5.alloc q5.size _) ?_
        clear hK hHeld
        intro hHeld
        have pC : Below y.heap.size y (w5.alloc (.cells #[.int .i64 0, .int .i64 1, .int .i64 2] 3)) := q5.alloc q5.size _
        refine wpAnyH_ready (rs := [21]) (by kernel_rfl) (by simp) ?_
        refine AllReadyH.cons rfl (fun K hK => ?_) AllReadyH.nil
        go_simp
        refine Calls.mono (eqTrue (by decide) (ints_any (w := w5.alloc (.cells #[.int .i64 0, .int .i64 1, .int .i64 2] 3)) (A := [0, 1, 2]) (B := [0, 1, 2]) (((own_sees nC_len (by decide) (unhide H5)).2).below nC_len (below_box _)) (sees_block nC_len [0, 1, 2] (by decide) (by decide) (heap_alloc_new w5 _)))) ?_
        rintro e w6 ⟨rfl, hb6⟩
        have q6 : Below y.heap.size y w6 := (pC).trans (hb6.mono (pC).size)
        refine hK _ _ (q6) ?_
        clear hK hHeld
        intro hHeld
        refine wpAnyH_take (i := 22) (v := ?v28x22) rfl (by as_aux_lemma => kernel_rfl) (by as_aux_lemma => kernel_rfl) (by as_aux_lemma => kernel_rfl) (fun _ _ _ h => h) (Or.inl ⟨by rfl, ?hy28x22⟩) (by assumption) ?rest28x22
        case hy28x22 => intro w hSw; go_simp <;> with_reducible rfl
        simp only [Act.put, List.getElem_toArray, List.getElem_cons_zero, List.getElem_cons_succ, List.setIfInBounds_toArray, List.set_cons_zero, List.set_cons_succ]
        refine wpAnyH_take (i := 23) (v := ?v29x23) rfl (by as_aux_lemma => kernel_rfl) (by as_aux_lemma => kernel_rfl) (by as_aux_lemma => kernel_rfl) (fun _ _ _ h => h) (Or.inl ⟨by rfl, ?hy29x23⟩) (by assumption) ?rest29x23
        case hy29x23 => intro w hSw; go_simp <;> with_reducible rfl
        simp only [Act.put, List.getElem_toArray, List.getElem_cons_zero, List.getElem_cons_succ, List.setIfInBounds_toArray, List.set_cons_zero]
        refine wpAnyH_done (by as_aux_lemma => kernel_rfl) ?_ _
        go_wp2
        go_ret
        exact ⟨rfl, (unhide HY).1.trans (q6.mono (unhide HY).1.size)⟩
      · skip
        go_simp
        refine hK _ _ (pA.alloc pA.size _) ?_
        clear hK hHeld
        intro hHeld
        have pB : Below y.heap.size y ((w4.alloc (.cells #[.int .i64 0, .int .i64 0, .slice none 0 0, .slice none 0 0, .slice (some ⟨w.heap.size + 1 + 1, 0, none⟩) 2 2, .slice (some ⟨w.heap.size + 1 + 1 + 1, 0, none⟩) 1 1, .int .i64 0, .int .i64 0, .slice none 0 0, .slice none 0 0, .slice (some ⟨w.heap.size + 1 + 1, 0, none⟩) 2 2, .slice (some ⟨w.heap.size + 1 + 1 + 1, 0, none⟩) 1 1, .int .i64 0, .int .i64 0, .slice none 0 0, .slice none 0 0, .slice (some ⟨w.heap.size + 1 + 1, 0, none⟩) 2 2, .slice (some ⟨w.heap.size + 1 + 1 + 1, 0, none⟩) 1 1] 26)).alloc (.cells #[.int .i64 0, .int .i64 1, .int .i64 2] 3)) := pA.alloc pA.size _
        refine wpAnyH_ready (rs := [19]) (by kernel_rfl) (by simp) ?_
        refine AllReadyH.cons rfl (fun K hK => ?_) AllReadyH.nil
        have hI : ((w4.alloc (.cells #[.int .i64 0, .int .i64 0, .slice none 0 0, .slice none 0 0, .slice (some ⟨w.heap.size + 1 + 1, 0, none⟩) 2 2, .slice (some ⟨w.heap.size + 1 + 1 + 1, 0, none⟩) 1 1, .int .i64 0, .int .i64 0, .slice none 0 0, .slice none 0 0, .slice (some ⟨w.heap.size + 1 + 1, 0, none⟩) 2 2, .slice (some ⟨w.heap.size + 1 + 1 + 1, 0, none⟩) 1 1, .int .i64 0, .int .i64 0, .slice none 0 0, .slice none 0 0, .slice (some ⟨w.heap.size + 1 + 1, 0, none⟩) 2 2, .slice (some ⟨w.heap.size + 1 + 1 + 1, 0, none⟩) 1 1] 26)).alloc (.cells #[.int .i64 0, .int .i64 1, .int .i64 2] 3)).heap[w4.heap.size + 1]? = some (.cells #[.int .i64 0, .int .i64 1, .int .i64 2] 3) := by have h := heap_alloc_new (w4.alloc (.cells #[.int .i64 0, .int .i64 0, .slice none 0 0, .slice none 0 0, .slice (some ⟨w.heap.size + 1 + 1, 0, none⟩) 2 2, .slice (some ⟨w.heap.size + 1 + 1 + 1, 0, none⟩) 1 1, .int .i64 0, .int .i64 0, .slice none 0 0, .slice none 0 0, .slice (some ⟨w.heap.size + 1 + 1, 0, none⟩) 2 2, .slice (some ⟨w.heap.size + 1 + 1 + 1, 0, none⟩) 1 1, .int .i64 0, .int .i64 0, .slice none 0 0, .slice none 0 0, .slice (some ⟨w.heap.size + 1 + 1, 0, none⟩) 2 2, .slice (some ⟨w.heap.size + 1 + 1 + 1, 0, none⟩) 1 1] 26)) (.cells #[.int .i64 0, .int .i64 1, .int .i64 2] 3); rwa [show (w4.alloc (.cells #[.int .i64 0, .int .i64 0, .slice none 0 0, .slice none 0 0, .slice (some ⟨w.heap.size + 1 + 1, 0, none⟩) 2 2, .slice (some ⟨w.heap.size + 1 + 1 + 1, 0, none⟩) 1 1, .int .i64 0, .int .i64 0, .slice none 0 0, .slice none 0 0, .slice (some ⟨w.heap.size + 1 + 1, 0, none⟩) 2 2, .slice (some ⟨w.heap.size + 1 + 1 + 1, 0, none⟩) 1 1, .int .i64 0, .int .i64 0, .slice none 0 0, .slice none 0 0, .slice (some ⟨w.heap.size + 1 + 1, 0, none⟩) 2 2, .slice (some ⟨w.heap.size + 1 + 1 + 1, 0, none⟩) 1 1] 26)).heap.size = w4.heap.size + 1 by simp] at h
        have hA : ((w4.alloc (.cells #[.int .i64 0, .int .i64 0, .slice none 0 0, .slice none 0 0, .slice (some ⟨w.heap.size + 1 + 1, 0, none⟩) 2 2, .slice (some ⟨w.heap.size + 1 + 1 + 1, 0, none⟩) 1 1, .int .i64 0, .int .i64 0, .slice none 0 0, .slice none 0 0, .slice (some ⟨w.heap.size + 1 + 1, 0, none⟩) 2 2, .slice (some ⟨w.heap.size + 1 + 1 + 1, 0, none⟩) 1 1, .int .i64 0, .int .i64 0, .slice none 0 0, .slice none 0 0, .slice (some ⟨w.heap.size + 1 + 1, 0, none⟩) 2 2, .slice (some ⟨w.heap.size + 1 + 1 + 1, 0, none⟩) 1 1] 26)).alloc (.cells #[.int .i64 0, .int .i64 1, .int .i64 2] 3)).heap[w4.heap.size]? = some (.cells #[.int .i64 0, .int .i64 0, .slice none 0 0, .slice none 0 0, .slice (some ⟨w.heap.size + 1 + 1, 0, none⟩) 2 2, .slice (some ⟨w.heap.size + 1 + 1 + 1, 0, none⟩) 1 1, .int .i64 0, .int .i64 0, .slice none 0 0, .slice none 0 0, .slice (some ⟨w.heap.size + 1 + 1, 0, none⟩) 2 2, .slice (some ⟨w.heap.size + 1 + 1 + 1, 0, none⟩) 1 1, .int .i64 0, .int .i64 0, .slice none 0 0, .slice none 0 0, .slice (some ⟨w.heap.size + 1 + 1, 0, none⟩) 2 2, .slice (some ⟨w.heap.size + 1 + 1 + 1, 0, none⟩) 1 1] 26) := (Below.heap_alloc (w4.alloc (.cells #[.int .i64 0, .int .i64 0, .slice none 0 0, .slice none 0 0, .slice (some ⟨w.heap.size + 1 + 1, 0, none⟩) 2 2, .slice (some ⟨w.heap.size + 1 + 1 + 1, 0, none⟩) 1 1, .int .i64 0, .int .i64 0, .slice none 0 0, .slice none 0 0, .slice (some ⟨w.heap.size + 1 + 1, 0, none⟩) 2 2, .slice (some ⟨w.heap.size + 1 + 1 + 1, 0, none⟩) 1 1, .int .i64 0, .int .i64 0, .slice none 0 0, .slice none 0 0, .slice (some ⟨w.heap.size + 1 + 1, 0, none⟩) 2 2, .slice (some ⟨w.heap.size + 1 + 1 + 1, 0, none⟩) 1 1] 26)) _ _ (Array.getElem?_eq_some_iff.1 (heap_alloc_new w4 (.cells #[.int .i64 0, .int .i64 0, .slice none 0 0, .slice none 0 0, .slice (some ⟨w.heap.size + 1 + 1, 0, none⟩) 2 2, .slice (some ⟨w.heap.size + 1 + 1 + 1, 0, none⟩) 1 1, .int .i64 0, .int .i64 0, .slice none 0 0, .slice none 0 0, .slice (some ⟨w.heap.size + 1 + 1, 0, none⟩) 2 2, .slice (some ⟨w.heap.size + 1 + 1 + 1, 0, none⟩) 1 1, .int .i64 0, .int .i64 0, .slice none 0 0, .slice none 0 0, .slice (some ⟨w.heap.size + 1 + 1, 0, none⟩) 2 2, .slice (some ⟨w.heap.size + 1 + 1 + 1, 0, none⟩) 1 1] 26))).1).trans (heap_alloc_new w4 _)
        have h19 := live_levels (w := w) (z := ((w4.alloc (.cells #[.int .i64 0, .int .i64 0, .slice none 0 0, .slice none 0 0, .slice (some ⟨w.heap.size + 1 + 1, 0, none⟩) 2 2, .slice (some ⟨w.heap.size + 1 + 1 + 1, 0, none⟩) 1 1, .int .i64 0, .int .i64 0, .slice none 0 0, .slice none 0 0, .slice (some ⟨w.heap.size + 1 + 1, 0, none⟩) 2 2, .slice (some ⟨w.heap.size + 1 + 1 + 1, 0, none⟩) 1 1, .int .i64 0, .int .i64 0, .slice none 0 0, .slice none 0 0, .slice (some ⟨w.heap.size + 1 + 1, 0, none⟩) 2 2, .slice (some ⟨w.heap.size + 1 + 1 + 1, 0, none⟩) 1 1] 26)).alloc (.cells #[.int .i64 0, .int .i64 1, .int .i64 2] 3))) hA (((unhide HY).2 _ (pB)).2.2.1)
        go_simp
        refine Calls.mono h19 ?_
        rintro e w5 ⟨v5, rfl, ho5, hb5⟩
        have H5 := hide ho5
        obtain ⟨a5, k5, e5⟩ := own_shape ho5
        clear ho5
        subst e5
        have q5 : Below y.heap.size y w5 := (pB).trans (hb5.mono (pB).size)
        clear h19
        refine hK _ _ (q5) ?_
        clear hK hHeld
        intro hHeld
        refine wpAnyH_ready (rs := [21]) (by kernel_rfl) (by simp) ?_
        refine AllReadyH.cons rfl (fun K hK => ?_) AllReadyH.nil
        go_simp
        refine Calls.mono (eqTrue (by decide) (ints_any (w := w5) (A := [0, 1, 2]) (B := [0, 1, 2]) ((own_sees nC_len (by decide) (unhide H5)).2) ((sees_block nC_len [0, 1, 2] (by decide) (by decide) hI).below nC_len hb5))) ?_
        rintro e w6 ⟨rfl, hb6⟩
        have q6 : Below y.heap.size y w6 := (q5).trans (hb6.mono (q5).size)
        refine hK _ _ (q6) ?_
        clear hK hHeld
        intro hHeld
        refine wpAnyH_take (i := 22) (v := ?v30x22) rfl (by as_aux_lemma => kernel_rfl) (by as_aux_lemma => kernel_rfl) (by as_aux_lemma => kernel_rfl) (fun _ _ _ h => h) (Or.inl ⟨by rfl, ?hy30x22⟩) (by assumption) ?rest30x22
        case hy30x22 => intro w hSw; go_simp <;> with_reducible rfl
        simp only [Act.put, List.getElem_toArray, List.getElem_cons_zero, List.getElem_cons_succ, List.setIfInBounds_toArray, List.set_cons_zero, List.set_cons_succ]
        refine wpAnyH_take (i := 23) (v := ?v31x23) rfl (by as_aux_lemma => kernel_rfl) (by as_aux_lemma => kernel_rfl) (by as_aux_lemma => kernel_rfl) (fun _ _ _ h => h) (Or.inl ⟨by rfl, ?hy31x23⟩) (by assumption) ?rest31x23
        case hy31x23 => intro w hSw; go_simp <;> with_reducible rfl
        simp only [Act.put, List.getElem_toArray, List.getElem_cons_zero, List.getElem_cons_succ, List.setIfInBounds_toArray, List.set_cons_zero]
        refine wpAnyH_done (by as_aux_lemma => kernel_rfl) ?_ _
        go_wp2
        go_ret
        exact ⟨rfl, (unhide HY).1.trans (q6.mono (unhide HY).1.size)⟩
    · skip
      go_simp
      refine hK _ _ (q4.alloc q4.size _) ?_
      clear hK hHeld
      intro hHeld
      have pA : Below y.heap.size y (w4.alloc (.cells #[.int .i64 0, .int .i64 1, .int .i64 2] 3)) := q4.alloc q4.size _
      refine wpAnyH_ready (rs := [18]) (by kernel_rfl) (by simp) ?_
      refine AllReadyH.cons rfl (fun K hK => ?_) AllReadyH.nil
      go_simp
      refine hK _ _ (pA.alloc pA.size _) ?_
      clear hK hHeld
      intro hHeld
      have pB : Below y.heap.size y ((w4.alloc (.cells #[.int .i64 0, .int .i64 1, .int .i64 2] 3)).alloc (.cells #[.int .i64 0, .int .i64 0, .slice none 0 0, .slice none 0 0, .slice (some ⟨w.heap.size + 1 + 1, 0, none⟩) 2 2, .slice (some ⟨w.heap.size + 1 + 1 + 1, 0, none⟩) 1 1, .int .i64 0, .int .i64 0, .slice none 0 0, .slice none 0 0, .slice (some ⟨w.heap.size + 1 + 1, 0, none⟩) 2 2, .slice (some ⟨w.heap.size + 1 + 1 + 1, 0, none⟩) 1 1, .int .i64 0, .int .i64 0, .slice none 0 0, .slice none 0 0, .slice (some ⟨w.heap.size + 1 + 1, 0, none⟩) 2 2, .slice (some ⟨w.heap.size + 1 + 1 + 1, 0, none⟩) 1 1] 26)) := pA.alloc pA.size _
      refine wpAnyH_ready (rs := [19]) (by kernel_rfl) (by simp) ?_
      refine AllReadyH.cons rfl (fun K hK => ?_) AllReadyH.nil
      have hT : ((w4.alloc (.cells #[.int .i64 0, .int .i64 1, .int .i64 2] 3)).alloc (.cells #[.int .i64 0, .int .i64 0, .slice none 0 0, .slice none 0 0, .slice (some ⟨w.heap.size + 1 + 1, 0, none⟩) 2 2, .slice (some ⟨w.heap.size + 1 + 1 + 1, 0, none⟩) 1 1, .int .i64 0, .int .i64 0, .slice none 0 0, .slice none 0 0, .slice (some ⟨w.heap.size + 1 + 1, 0, none⟩) 2 2, .slice (some ⟨w.heap.size + 1 + 1 + 1, 0, none⟩) 1 1, .int .i64 0, .int .i64 0, .slice none 0 0, .slice none 0 0, .slice (some ⟨w.heap.size + 1 + 1, 0, none⟩) 2 2, .slice (some ⟨w.heap.size + 1 + 1 + 1, 0, none⟩) 1 1] 26)).heap[w4.heap.size + 1]? = some (.cells #[.int .i64 0, .int .i64 0, .slice none 0 0, .slice none 0 0, .slice (some ⟨w.heap.size + 1 + 1, 0, none⟩) 2 2, .slice (some ⟨w.heap.size + 1 + 1 + 1, 0, none⟩) 1 1, .int .i64 0, .int .i64 0, .slice none 0 0, .slice none 0 0, .slice (some ⟨w.heap.size + 1 + 1, 0, none⟩) 2 2, .slice (some ⟨w.heap.size + 1 + 1 + 1, 0, none⟩) 1 1, .int .i64 0, .int .i64 0, .slice none 0 0, .slice none 0 0, .slice (some ⟨w.heap.size + 1 + 1, 0, none⟩) 2 2, .slice (some ⟨w.heap.size + 1 + 1 + 1, 0, none⟩) 1 1] 26) := by have h := heap_alloc_new (w4.alloc (.cells #[.int .i64 0, .int .i64 1, .int .i64 2] 3)) (.cells #[.int .i64 0, .int .i64 0, .slice none 0 0, .slice none 0 0, .slice (some ⟨w.heap.size + 1 + 1, 0, none⟩) 2 2, .slice (some ⟨w.heap.size + 1 + 1 + 1, 0, none⟩) 1 1, .int .i64 0, .int .i64 0, .slice none 0 0, .slice none 0 0, .slice (some ⟨w.heap.size + 1 + 1, 0, none⟩) 2 2, .slice (some ⟨w.heap.size + 1 + 1 + 1, 0, none⟩) 1 1, .int .i64 0, .int .i64 0, .slice none 0 0, .slice none 0 0, .slice (some ⟨w.heap.size + 1 + 1, 0, none⟩) 2 2, .slice (some ⟨w.heap.size + 1 + 1 + 1, 0, none⟩) 1 1] 26); rwa [show (w4.alloc (.cells #[.int .i64 0, .int .i64 1, .int .i64 2] 3)).heap.size = w4.heap.size + 1 by simp] at h
      have h19 := live_levels (w := w) (z := ((w4.alloc (.cells #[.int .i64 0, .int .i64 1, .int .i64 2] 3)).alloc (.cells #[.int .i64 0, .int .i64 0, .slice none 0 0, .slice none 0 0, .slice (some ⟨w.heap.size + 1 + 1, 0, none⟩) 2 2, .slice (some ⟨w.heap.size + 1 + 1 + 1, 0, none⟩) 1 1, .int .i64 0, .int .i64 0, .slice none 0 0, .slice none 0 0, .slice (some ⟨w.heap.size + 1 + 1, 0, none⟩) 2 2, .slice (some ⟨w.heap.size + 1 + 1 + 1, 0, none⟩) 1 1, .int .i64 0, .int .i64 0, .slice none 0 0, .slice none 0 0, .slice (some ⟨w.heap.size + 1 + 1, 0, none⟩) 2 2, .slice (some ⟨w.heap.size + 1 + 1 + 1, 0, none⟩) 1 1] 26))) hT (((unhide HY).2 _ (pB)).2.2.1)
      go_simp
      refine Calls.mono h19 ?_
      rintro e w5 ⟨v5, rfl, ho5, hb5⟩
      have H5 := hide ho5
      obtain ⟨a5, k5, e5⟩ := own_shape ho5
      clear ho5
      subst e5
      have q5 : Below y.heap.size y w5 := (pB).trans (hb5.mono (pB).size)
      clear h19
      refine hK _ _ (q5) ?_
      clear hK hHeld
      intro hHeld
      refine wpAnyH_ready (rs := [21]) (by kernel_rfl) (by simp) ?_
      refine AllReadyH.cons rfl (fun K hK => ?_) AllReadyH.nil
      go_simp
      refine Calls.mono (eqTrue (by decide) (ints_any (w := w5) (A := [0, 1, 2]) (B := [0, 1, 2]) ((own_sees nC_len (by decide) (unhide H5)).2) (((sees_block nC_len [0, 1, 2] (by decide) (by decide) (heap_alloc_new w4 (.cells #[.int .i64 0, .int .i64 1, .int .i64 2] 3))).below nC_len (below_box (.cells #[.int .i64 0, .int .i64 0, .slice none 0 0, .slice none 0 0, .slice (some ⟨w.heap.size + 1 + 1, 0, none⟩) 2 2, .slice (some ⟨w.heap.size + 1 + 1 + 1, 0, none⟩) 1 1, .int .i64 0, .int .i64 0, .slice none 0 0, .slice none 0 0, .slice (some ⟨w.heap.size + 1 + 1, 0, none⟩) 2 2, .slice (some ⟨w.heap.size + 1 + 1 + 1, 0, none⟩) 1 1, .int .i64 0, .int .i64 0, .slice none 0 0, .slice none 0 0, .slice (some ⟨w.heap.size + 1 + 1, 0, none⟩) 2 2, .slice (some ⟨w.heap.size + 1 + 1 + 1, 0, none⟩) 1 1] 26))).below nC_len hb5))) ?_
      rintro e w6 ⟨rfl, hb6⟩
      have q6 : Below y.heap.size y w6 := (q5).trans (hb6.mono (q5).size)
      refine hK _ _ (q6) ?_
      clear hK hHeld
      intro hHeld
      refine wpAnyH_take (i := 22) (v := ?v32x22) rfl (by as_aux_lemma => kernel_rfl) (by as_aux_lemma => kernel_rfl) (by as_aux_lemma => kernel_rfl) (fun _ _ _ h => h) (Or.inl ⟨by rfl, ?hy32x22⟩) (by assumption) ?rest32x22
      case hy32x22 => intro w hSw; go_simp <;> with_reducible rfl
      simp only [Act.put, List.getElem_toArray, List.getElem_cons_zero, List.getElem_cons_succ, List.setIfInBounds_toArray, List.set_cons_zero, List.set_cons_succ]
      refine wpAnyH_take (i := 23) (v := ?v33x23) rfl (by as_aux_lemma => kernel_rfl) (by as_aux_lemma => kernel_rfl) (by as_aux_lemma => kernel_rfl) (fun _ _ _ h => h) (Or.inl ⟨by rfl, ?hy33x23⟩) (by assumption) ?rest33x23
      case hy33x23 => intro w hSw; go_simp <;> with_reducible rfl
      simp only [Act.put, List.getElem_toArray, List.getElem_cons_zero, List.getElem_cons_succ, List.setIfInBounds_toArray, List.set_cons_zero]
      refine wpAnyH_done (by as_aux_lemma => kernel_rfl) ?_ _
      go_wp2
      go_ret
      exact ⟨rfl, (unhide HY).1.trans (q6.mono (unhide HY).1.size)⟩
end Go.Proofs.Ytibjhjkeflbghaa
