/- Same of two made stores; of one and none. -/
import Derived.Test.YtdcmkapfcmibeaaDoorMM
import Derived.Test.YtdcmkapfcmibeaaDoorMJ
namespace Go.Proofs.YtdcmkapfcmibeaaDoor
open Go.RowKit Go.Shelf
attribute [local go_sem] Oper.semAt_some
set_option maxRecDepth 100000

/-- A region walked as outside of a fence, where nothing dies. -/
def NoP (Q : Exit → Act → World → Prop) : Exit → Act → World → Prop
  | .panic _, _, _ => False
  | e, a, w => Q e a w
theorem noP_le {Q : Exit → Act → World → Prop} (e : Exit) (a : Act) (w : World) (h : NoP Q e a w) : Q e a w := by
  cases e <;> first | exact h | exact h.elim
theorem noP_normal {Q : Exit → Act → World → Prop} {a : Act} {w : World} (h : Q .normal a w) : NoP Q .normal a w := h
theorem region_plain {P : Program} {n : Nat} {c : Code} {Q : Exit → Act → World → Prop} {a : Act} {w : World} (h : c.wp P (NoP Q) a w) : c.wpIn Fence.wide n P Q a w := wpIn_wide.2 (wp_mono h noP_le)
/-- Where the other store's next node stands. -/
theorem next_at {w : World} {b0 sb hd : Nat} {M : List Nd} {luck : Int} (h : Sk w b0 sb hd M luck) {j : Nat} {m : Nd} (hm : M[j]? = some m) :
    w.cell? ⟨lstP hd 0 (M.take j), 5, none⟩ = some (PN m.p) ∧ On hd M (lstP hd 0 (M.take j)) ∧ lstP hd 0 (M.take (j + 1)) = m.p := by
  obtain ⟨N, hs, hlk⟩ := h.mem
  obtain ⟨hj, hmj⟩ := List.getElem?_eq_some_iff.1 hm
  have hsplit : M.take j ++ M.drop j = M := List.take_append_drop j M
  have hon : On hd M (lstP hd 0 (M.take j)) := by have := lstP_on (A := M.take j) (B := M.drop j) hd 0; rwa [hsplit] at this
  have h0 := hlk 0 (by decide)
  rw [← hsplit] at h0
  have hf := h0.rest.first
  have hd0 : M.drop j = m :: M.drop (j + 1) := by rw [List.drop_eq_getElem_cons hj, hmj]
  have hmm : m ∈ M := by rw [← hmj]; exact List.getElem_mem hj
  have hh := (h.ok m hmm).h
  rw [hd0, fstP, if_pos (by omega)] at hf
  refine ⟨?_, hon, ?_⟩
  · have := hs.next hon (lev := 0) (by decide)
    rw [hf] at this
    exact this
  · rw [List.take_succ_eq_append_getElem hj, lstP_append, hmj, lstP, lstP, if_pos (by omega)]
def SmI (te rb ob B : Nat) (W2 : World) (M : List Nd) (pre : List Nd) (W : World) : Prop := ((W.heap[rb]? = some (.cells #[.bool false] 4) ∧ W.heap[ob]? = some (.cells #[PN (lstP te 0 (M.take pre.length))] 71)) ∧ Upd (fun k => k = rb ∨ k = ob) B W2 W) ∧ pre.map cl = (M.take pre.length).map cl
def SmX (rb B : Nat) (W2 : World) (L M : List Nd) (ob : Nat) (c : Code) (_ : List Nd) (W : World) : Prop := (W.heap[rb]? = some (.cells #[.bool false] 4) ∧ Upd (fun k => k = rb ∨ k = ob) B W2 W) ∧ c = .ret ∧ L.map cl ≠ M.map cl
theorem smI_own (te rb ob B : Nat) (W2 : World) (M : List Nd) (hr : rb < B) (ho : ob < B) (hB : B ≤ W2.heap.size) : OwnFrom B (SmI te rb ob B W2 M) :=
  OwnFrom.and (OwnFrom.and (OwnFrom.and (ownFrom_blk _ _ (fun _ => .cells #[.bool false] 4) hr) (ownFrom_blk _ _ (fun pre : List Nd => .cells #[PN (lstP te 0 (M.take pre.length))] 71) ho)) (ownFrom_upd hB)) (ownFrom_pure _ _)
theorem smX_own (rb B : Nat) (W2 : World) (L M : List Nd) (ob : Nat) (c : Code) (hr : rb < B) (hB : B ≤ W2.heap.size) : OwnFrom B (SmX rb B W2 L M ob c) :=
  OwnFrom.and (OwnFrom.and (ownFrom_blk _ _ (fun _ => .cells #[.bool false] 4) hr) (ownFrom_upd hB)) (ownFrom_pure _ _)

set_option maxHeartbeats 1000000 in
theorem same_none2 {w : World} {b0 sb hd : Nat} {L : List Nd} {luck : Int} (ha : Sk w b0 sb hd L luck) : Calls Tryd.prog 28 #[PN sb, nilP] w fun e w' => e = .returned (.bool false) ∧ Below w.heap.size w w' := by
  obtain ⟨n0, hn0⟩ : ∃ x, w.heap.size = x := ⟨_, rfl⟩
  obtain ⟨W1, hW1⟩ : ∃ W, w.alloc (.cells #[.bool false] 4) = W := ⟨_, rfl⟩
  have hb1 : Below n0 w W1 := by rw [← hW1, ← hn0]; exact (Below.refl _ _).alloc (Nat.le_refl _) _
  have kr : W1.heap[n0]? = some (.cells #[.bool false] 4) := by rw [← hW1, ← hn0]; exact heap_new1 _ _
  have hs1 : W1.heap.size = n0 + 1 := by rw [← hW1, ← hn0]; simp
  have HMA : Hid (Calls Tryd.prog 53 #[PN sb] W1.drew fun e w' => e = .returned (.bool true) ∧ W1.drew = w') := made_yes sb hd W1.drew (by obtain ⟨N, hm, _⟩ := (ha.below (by rw [hn0]; exact hb1.drew) : Sk W1.drew b0 sb hd L luck).mem; exact cell_at hm.sk)
  have HMN := hide (made_no (w := W1.drew) (.inl rfl))
  clear ha
  have HK := hide (And.intro hb1 kr)
  rw [hn0]
  clear hb1 kr hs1
  go_enter Tryd.func28, Tryd.ntmps28
  go_wp2
  try rw [hW1]
  clear hW1
  refine wp_region_held_drew (S := fun x => x = W1.drew) (by kernel_rfl) rfl (fun hHeld => ?_)
  refine wpAnyH_take (i := 0) (v := ?v1x0) rfl (by kernel_rfl) (by kernel_rfl) (by kernel_rfl) (fun _ _ _ h => h) (Or.inl ⟨by rfl, ?hy1x0⟩) (by assumption) ?rest1x0
  case hy1x0 => intro w hSw; go_simp <;> with_reducible rfl
  simp only [Act.put, List.getElem_toArray, List.getElem_cons_zero, List.setIfInBounds_toArray, List.set_cons_zero, List.set_cons_succ]
  refine wpAnyH_ready (rs := [1]) (by kernel_rfl) (by simp) ?_
  refine AllReadyH.cons rfl (fun K hK => ?_) AllReadyH.nil
  go_simp
  refine (unhide HMA).mono ?_
  rintro e wq ⟨rfl, rfl⟩
  refine hK _ _ rfl ?_
  clear hK hHeld
  intro hHeld
  refine wpAnyH_take (i := 2) (v := ?v2x2) rfl (by kernel_rfl) (by kernel_rfl) (by kernel_rfl) (fun _ _ _ h => h) (Or.inl ⟨by rfl, ?hy2x2⟩) (by assumption) ?rest2x2
  case hy2x2 => intro w hSw; go_simp <;> with_reducible rfl
  simp only [Act.put, List.getElem_toArray, List.getElem_cons_zero, List.getElem_cons_succ, List.setIfInBounds_toArray, List.set_cons_zero, List.set_cons_succ]
  refine wpAnyH_take (i := 3) (v := (.bool false)) rfl (by kernel_rfl) (by kernel_rfl) (by kernel_rfl) (fun _ _ _ h => h) (Or.inl ⟨by rfl, ?hy3x3⟩) (by assumption) ?rest3x3
  case hy3x3 => intro w hSw; go_simp <;> with_reducible rfl
  simp only [Act.put, List.getElem_toArray, List.getElem_cons_zero, List.getElem_cons_succ, List.setIfInBounds_toArray, List.set_cons_zero, List.set_cons_succ]
  refine wpAnyH_take (i := 4) (v := ?v4x4) rfl (by kernel_rfl) (by kernel_rfl) (by kernel_rfl) (fun _ _ _ h => h) (Or.inl ⟨by rfl, ?hy4x4⟩) (by assumption) ?rest4x4
  case hy4x4 => intro w hSw; go_simp <;> with_reducible rfl
  simp only [Act.put, List.getElem_toArray, List.getElem_cons_zero, List.getElem_cons_succ, List.setIfInBounds_toArray, List.set_cons_zero, List.set_cons_succ]
  refine wpAnyH_ready (rs := [5]) (by kernel_rfl) (by simp) ?_
  refine AllReadyH.cons rfl (fun K hK => ?_) AllReadyH.nil
  go_simp
  refine (unhide HMN).mono ?_
  rintro e wq ⟨rfl, rfl⟩
  refine hK _ _ rfl ?_
  clear hK hHeld
  intro hHeld
  refine wpAnyH_take (i := 6) (v := ?v5x6) rfl (by kernel_rfl) (by kernel_rfl) (by kernel_rfl) (fun _ _ _ h => h) (Or.inl ⟨by rfl, ?hy5x6⟩) (by assumption) ?rest5x6
  case hy5x6 => intro w hSw; go_simp <;> with_reducible rfl
  simp only [Act.put, List.getElem_toArray, List.getElem_cons_zero, List.getElem_cons_succ, List.setIfInBounds_toArray, List.set_cons_zero, List.set_cons_succ]
  refine wpAnyH_take (i := 7) (v := (.bool true)) rfl (by kernel_rfl) (by kernel_rfl) (by kernel_rfl) (fun _ _ _ h => h) (Or.inl ⟨by rfl, ?hy6x7⟩) (by assumption) ?rest6x7
  case hy6x7 => intro w hSw; go_simp <;> with_reducible rfl
  simp only [Act.put, List.getElem_toArray, List.getElem_cons_zero, List.getElem_cons_succ, List.setIfInBounds_toArray, List.set_cons_zero, List.set_cons_succ]
  refine wpAnyH_take (i := 8) (v := (.bool true)) rfl (by kernel_rfl) (by kernel_rfl) (by kernel_rfl) (fun _ _ _ h => h) (Or.inl ⟨by rfl, ?hy7x8⟩) (by assumption) ?rest7x8
  case hy7x8 => intro w hSw; go_simp <;> with_reducible rfl
  simp only [Act.put, List.getElem_toArray, List.getElem_cons_zero, List.getElem_cons_succ, List.setIfInBounds_toArray, List.set_cons_zero, List.set_cons_succ]
  refine wpAnyH_take (i := 9) (v := undef) rfl (by kernel_rfl) (by kernel_rfl) (by kernel_rfl) (fun _ _ _ h => h) (Or.inr ⟨by rfl, rfl⟩) (by assumption) ?_
  simp only [Act.put, List.getElem_toArray, List.getElem_cons_zero, List.getElem_cons_succ, List.setIfInBounds_toArray, List.set_cons_zero, List.set_cons_succ]
  refine wpAnyH_take (i := 10) (v := undef) rfl (by kernel_rfl) (by kernel_rfl) (by kernel_rfl) (fun _ _ _ h => h) (Or.inr ⟨by rfl, rfl⟩) (by assumption) ?_
  simp only [Act.put, List.getElem_toArray, List.getElem_cons_zero, List.getElem_cons_succ, List.setIfInBounds_toArray, List.set_cons_zero, List.set_cons_succ]
  refine wpAnyH_take (i := 11) (v := undef) rfl (by kernel_rfl) (by kernel_rfl) (by kernel_rfl) (fun _ _ _ h => h) (Or.inr ⟨by rfl, rfl⟩) (by assumption) ?_
  simp only [Act.put, List.getElem_toArray, List.getElem_cons_zero, List.getElem_cons_succ, List.setIfInBounds_toArray, List.set_cons_zero, List.set_cons_succ]
  refine wpAnyH_take (i := 12) (v := undef) rfl (by kernel_rfl) (by kernel_rfl) (by kernel_rfl) (fun _ _ _ h => h) (Or.inr ⟨by rfl, rfl⟩) (by assumption) ?_
  simp only [Act.put, List.getElem_toArray, List.getElem_cons_zero, List.getElem_cons_succ, List.setIfInBounds_toArray, List.set_cons_zero, List.set_cons_succ]
  refine wpAnyH_take (i := 13) (v := undef) rfl (by kernel_rfl) (by kernel_rfl) (by kernel_rfl) (fun _ _ _ h => h) (Or.inr ⟨by rfl, rfl⟩) (by assumption) ?_
  simp only [Act.put, List.getElem_toArray, List.getElem_cons_zero, List.getElem_cons_succ, List.setIfInBounds_toArray, List.set_cons_zero, List.set_cons_succ]
  refine wpAnyH_take (i := 14) (v := undef) rfl (by kernel_rfl) (by kernel_rfl) (by kernel_rfl) (fun _ _ _ h => h) (Or.inr ⟨by rfl, rfl⟩) (by assumption) ?_
  simp only [Act.put, List.getElem_toArray, List.getElem_cons_zero, List.getElem_cons_succ, List.setIfInBounds_toArray, List.set_cons_zero, List.set_cons_succ]
  refine wpAnyH_take (i := 15) (v := undef) rfl (by kernel_rfl) (by kernel_rfl) (by kernel_rfl) (fun _ _ _ h => h) (Or.inr ⟨by rfl, rfl⟩) (by assumption) ?_
  simp only [Act.put, List.getElem_toArray, List.getElem_cons_zero, List.getElem_cons_succ, List.setIfInBounds_toArray, List.set_cons_zero, List.set_cons_succ]
  refine wpAnyH_take (i := 16) (v := undef) rfl (by kernel_rfl) (by kernel_rfl) (by kernel_rfl) (fun _ _ _ h => h) (Or.inr ⟨by rfl, rfl⟩) (by assumption) ?_
  simp only [Act.put, List.getElem_toArray, List.getElem_cons_zero, List.getElem_cons_succ, List.setIfInBounds_toArray, List.set_cons_zero, List.set_cons_succ]
  refine wpAnyH_take (i := 17) (v := undef) rfl (by kernel_rfl) (by kernel_rfl) (by kernel_rfl) (fun _ _ _ h => h) (Or.inr ⟨by rfl, rfl⟩) (by assumption) ?_
  simp only [Act.put, List.getElem_toArray, List.getElem_cons_zero, List.getElem_cons_succ, List.setIfInBounds_toArray, List.set_cons_zero, List.set_cons_succ]
  refine wpAnyH_take (i := 18) (v := (.bool true)) rfl (by kernel_rfl) (by kernel_rfl) (by kernel_rfl) (fun _ _ _ h => h) (Or.inl ⟨by rfl, ?hy17x18⟩) (by assumption) ?rest17x18
  case hy17x18 => intro w hSw; go_simp <;> with_reducible rfl
  simp only [Act.put, List.getElem_toArray, List.getElem_cons_zero, List.getElem_cons_succ, List.setIfInBounds_toArray, List.set_cons_zero, List.set_cons_succ]
  refine wpAnyH_done (by kernel_rfl) ?_ _
  have c0 : W1.drew.cell? ⟨n0, 0, none⟩ = some (.bool false) := cell_at (unhide HK).2
  have f0 : W1.drew.frozen? ⟨n0, 0, none⟩ = false := frozen_of_heap (w := W1.drew) (unhide HK).2
  go_wp2
  refine bodyPost_ret ?_ rfl ⟨rfl, ((unhide HK).1.drew.setCell (p := ⟨n0, 0, none⟩) (Nat.le_refl _) _)⟩
  have := box_set (W := W1) (.bool false) (unhide HK).2
  have c1 : (W1.setCell ⟨n0, 0, none⟩ (.bool false)).cell? ⟨n0, 0, none⟩ = some (.bool false) := cell_at this
  simp [results, Tryd.results28, go_sem, c1]

set_option maxHeartbeats 1000000 in
theorem same_none1 {w : World} (sb : Nat) : Calls Tryd.prog 28 #[nilP, PN sb] w fun e w' => e = .returned (.bool false) ∧ Below w.heap.size w w' := by
  obtain ⟨n0, hn0⟩ : ∃ x, w.heap.size = x := ⟨_, rfl⟩
  obtain ⟨W1, hW1⟩ : ∃ W, w.alloc (.cells #[.bool false] 4) = W := ⟨_, rfl⟩
  have hb1 : Below n0 w W1 := by rw [← hW1, ← hn0]; exact (Below.refl _ _).alloc (Nat.le_refl _) _
  have kr : W1.heap[n0]? = some (.cells #[.bool false] 4) := by rw [← hW1, ← hn0]; exact heap_new1 _ _
  have hs1 : W1.heap.size = n0 + 1 := by rw [← hW1, ← hn0]; simp
  have HMN := hide (made_no (w := W1.drew) (.inl rfl))
  have HK := hide (And.intro hb1 kr)
  rw [hn0]
  clear hb1 kr hs1
  go_enter Tryd.func28, Tryd.ntmps28
  go_wp2
  try rw [hW1]
  clear hW1
  refine wp_region_held_drew (S := fun x => x = W1.drew) (by kernel_rfl) rfl (fun hHeld => ?_)
  refine wpAnyH_take (i := 0) (v := ?v18x0) rfl (by kernel_rfl) (by kernel_rfl) (by kernel_rfl) (fun _ _ _ h => h) (Or.inl ⟨by rfl, ?hy18x0⟩) (by assumption) ?rest18x0
  case hy18x0 => intro w hSw; go_simp <;> with_reducible rfl
  simp only [Act.put, List.getElem_toArray, List.getElem_cons_zero, List.setIfInBounds_toArray, List.set_cons_zero, List.set_cons_succ]
  refine wpAnyH_ready (rs := [1]) (by kernel_rfl) (by simp) ?_
  refine AllReadyH.cons rfl (fun K hK => ?_) AllReadyH.nil
  go_simp
  refine (unhide HMN).mono ?_
  rintro e wq ⟨rfl, rfl⟩
  refine hK _ _ rfl ?_
  clear hK hHeld
  intro hHeld
  refine wpAnyH_take (i := 2) (v := ?v19x2) rfl (by kernel_rfl) (by kernel_rfl) (by kernel_rfl) (fun _ _ _ h => h) (Or.inl ⟨by rfl, ?hy19x2⟩) (by assumption) ?rest19x2
  case hy19x2 => intro w hSw; go_simp <;> with_reducible rfl
  simp only [Act.put, List.getElem_toArray, List.getElem_cons_zero, List.getElem_cons_succ, List.setIfInBounds_toArray, List.set_cons_zero, List.set_cons_succ]
  refine wpAnyH_take (i := 3) (v := (.bool true)) rfl (by kernel_rfl) (by kernel_rfl) (by kernel_rfl) (fun _ _ _ h => h) (Or.inl ⟨by rfl, ?hy20x3⟩) (by assumption) ?rest20x3
  case hy20x3 => intro w hSw; go_simp <;> with_reducible rfl
  simp only [Act.put, List.getElem_toArray, List.getElem_cons_zero, List.getElem_cons_succ, List.setIfInBounds_toArray, List.set_cons_zero, List.set_cons_succ]
  refine wpAnyH_take (i := 4) (v := undef) rfl (by kernel_rfl) (by kernel_rfl) (by kernel_rfl) (fun _ _ _ h => h) (Or.inr ⟨by rfl, rfl⟩) (by assumption) ?_
  simp only [Act.put, List.getElem_toArray, List.getElem_cons_zero, List.getElem_cons_succ, List.setIfInBounds_toArray, List.set_cons_zero, List.set_cons_succ]
  refine wpAnyH_take (i := 5) (v := undef) rfl (by kernel_rfl) (by kernel_rfl) (by kernel_rfl) (fun _ _ _ h => h) (Or.inr ⟨by rfl, rfl⟩) (by assumption) ?_
  simp only [Act.put, List.getElem_toArray, List.getElem_cons_zero, List.getElem_cons_succ, List.setIfInBounds_toArray, List.set_cons_zero, List.set_cons_succ]
  refine wpAnyH_take (i := 6) (v := undef) rfl (by kernel_rfl) (by kernel_rfl) (by kernel_rfl) (fun _ _ _ h => h) (Or.inr ⟨by rfl, rfl⟩) (by assumption) ?_
  simp only [Act.put, List.getElem_toArray, List.getElem_cons_zero, List.getElem_cons_succ, List.setIfInBounds_toArray, List.set_cons_zero, List.set_cons_succ]
  refine wpAnyH_take (i := 7) (v := (.bool true)) rfl (by kernel_rfl) (by kernel_rfl) (by kernel_rfl) (fun _ _ _ h => h) (Or.inl ⟨by rfl, ?hy24x7⟩) (by assumption) ?rest24x7
  case hy24x7 => intro w hSw; go_simp <;> with_reducible rfl
  simp only [Act.put, List.getElem_toArray, List.getElem_cons_zero, List.getElem_cons_succ, List.setIfInBounds_toArray, List.set_cons_zero, List.set_cons_succ]
  refine wpAnyH_take (i := 8) (v := (.bool true)) rfl (by kernel_rfl) (by kernel_rfl) (by kernel_rfl) (fun _ _ _ h => h) (Or.inl ⟨by rfl, ?hy25x8⟩) (by assumption) ?rest25x8
  case hy25x8 => intro w hSw; go_simp <;> with_reducible rfl
  simp only [Act.put, List.getElem_toArray, List.getElem_cons_zero, List.getElem_cons_succ, List.setIfInBounds_toArray, List.set_cons_zero, List.set_cons_succ]
  refine wpAnyH_take (i := 9) (v := undef) rfl (by kernel_rfl) (by kernel_rfl) (by kernel_rfl) (fun _ _ _ h => h) (Or.inr ⟨by rfl, rfl⟩) (by assumption) ?_
  simp only [Act.put, List.getElem_toArray, List.getElem_cons_zero, List.getElem_cons_succ, List.setIfInBounds_toArray, List.set_cons_zero, List.set_cons_succ]
  refine wpAnyH_take (i := 10) (v := undef) rfl (by kernel_rfl) (by kernel_rfl) (by kernel_rfl) (fun _ _ _ h => h) (Or.inr ⟨by rfl, rfl⟩) (by assumption) ?_
  simp only [Act.put, List.getElem_toArray, List.getElem_cons_zero, List.getElem_cons_succ, List.setIfInBounds_toArray, List.set_cons_zero, List.set_cons_succ]
  refine wpAnyH_take (i := 11) (v := undef) rfl (by kernel_rfl) (by kernel_rfl) (by kernel_rfl) (fun _ _ _ h => h) (Or.inr ⟨by rfl, rfl⟩) (by assumption) ?_
  simp only [Act.put, List.getElem_toArray, List.getElem_cons_zero, List.getElem_cons_succ, List.setIfInBounds_toArray, List.set_cons_zero, List.set_cons_succ]
  refine wpAnyH_take (i := 12) (v := undef) rfl (by kernel_rfl) (by kernel_rfl) (by kernel_rfl) (fun _ _ _ h => h) (Or.inr ⟨by rfl, rfl⟩) (by assumption) ?_
  simp only [Act.put, List.getElem_toArray, List.getElem_cons_zero, List.getElem_cons_succ, List.setIfInBounds_toArray, List.set_cons_zero, List.set_cons_succ]
  refine wpAnyH_take (i := 13) (v := undef) rfl (by kernel_rfl) (by kernel_rfl) (by kernel_rfl) (fun _ _ _ h => h) (Or.inr ⟨by rfl, rfl⟩) (by assumption) ?_
  simp only [Act.put, List.getElem_toArray, List.getElem_cons_zero, List.getElem_cons_succ, List.setIfInBounds_toArray, List.set_cons_zero, List.set_cons_succ]
  refine wpAnyH_take (i := 14) (v := undef) rfl (by kernel_rfl) (by kernel_rfl) (by kernel_rfl) (fun _ _ _ h => h) (Or.inr ⟨by rfl, rfl⟩) (by assumption) ?_
  simp only [Act.put, List.getElem_toArray, List.getElem_cons_zero, List.getElem_cons_succ, List.setIfInBounds_toArray, List.set_cons_zero, List.set_cons_succ]
  refine wpAnyH_take (i := 15) (v := undef) rfl (by kernel_rfl) (by kernel_rfl) (by kernel_rfl) (fun _ _ _ h => h) (Or.inr ⟨by rfl, rfl⟩) (by assumption) ?_
  simp only [Act.put, List.getElem_toArray, List.getElem_cons_zero, List.getElem_cons_succ, List.setIfInBounds_toArray, List.set_cons_zero, List.set_cons_succ]
  refine wpAnyH_take (i := 16) (v := undef) rfl (by kernel_rfl) (by kernel_rfl) (by kernel_rfl) (fun _ _ _ h => h) (Or.inr ⟨by rfl, rfl⟩) (by assumption) ?_
  simp only [Act.put, List.getElem_toArray, List.getElem_cons_zero, List.getElem_cons_succ, List.setIfInBounds_toArray, List.set_cons_zero, List.set_cons_succ]
  refine wpAnyH_take (i := 17) (v := undef) rfl (by kernel_rfl) (by kernel_rfl) (by kernel_rfl) (fun _ _ _ h => h) (Or.inr ⟨by rfl, rfl⟩) (by assumption) ?_
  simp only [Act.put, List.getElem_toArray, List.getElem_cons_zero, List.getElem_cons_succ, List.setIfInBounds_toArray, List.set_cons_zero, List.set_cons_succ]
  refine wpAnyH_take (i := 18) (v := (.bool true)) rfl (by kernel_rfl) (by kernel_rfl) (by kernel_rfl) (fun _ _ _ h => h) (Or.inl ⟨by rfl, ?hy35x18⟩) (by assumption) ?rest35x18
  case hy35x18 => intro w hSw; go_simp <;> with_reducible rfl
  simp only [Act.put, List.getElem_toArray, List.getElem_cons_zero, List.getElem_cons_succ, List.setIfInBounds_toArray, List.set_cons_zero, List.set_cons_succ]
  refine wpAnyH_done (by kernel_rfl) ?_ _
  have c0 : W1.drew.cell? ⟨n0, 0, none⟩ = some (.bool false) := cell_at (unhide HK).2
  have f0 : W1.drew.frozen? ⟨n0, 0, none⟩ = false := frozen_of_heap (w := W1.drew) (unhide HK).2
  go_wp2
  refine bodyPost_ret ?_ rfl ⟨rfl, ((unhide HK).1.drew.setCell (p := ⟨n0, 0, none⟩) (Nat.le_refl _) _)⟩
  have := box_set (W := W1) (.bool false) (unhide HK).2
  have c1 : (W1.setCell ⟨n0, 0, none⟩ (.bool false)).cell? ⟨n0, 0, none⟩ = some (.bool false) := cell_at this
  simp [results, Tryd.results28, go_sem, c1]

set_option maxHeartbeats 1000000 in
theorem same_len {w : World} {b0 sb hd : Nat} {L : List Nd} {luck : Int} (ha : Sk w b0 sb hd L luck) {b1 tb te : Nat} {M : List Nd} {luck2 : Int} (hb : Sk w b1 tb te M luck2) (hlen : L.length ≠ M.length) : Calls Tryd.prog 28 #[PN sb, PN tb] w fun e w' => e = .returned (.bool false) ∧ Below w.heap.size w w' := by
  obtain ⟨n0, hn0⟩ : ∃ x, w.heap.size = x := ⟨_, rfl⟩
  obtain ⟨W1, hW1⟩ : ∃ W, w.alloc (.cells #[.bool false] 4) = W := ⟨_, rfl⟩
  have hb1 : Below n0 w W1 := by rw [← hW1, ← hn0]; exact (Below.refl _ _).alloc (Nat.le_refl _) _
  have kr : W1.heap[n0]? = some (.cells #[.bool false] 4) := by rw [← hW1, ← hn0]; exact heap_new1 _ _
  have hs1 : W1.heap.size = n0 + 1 := by rw [← hW1, ← hn0]; simp
  have HMA : Hid (Calls Tryd.prog 53 #[PN sb] W1.drew fun e w' => e = .returned (.bool true) ∧ W1.drew = w') := made_yes sb hd W1.drew (by obtain ⟨N, hm, _⟩ := (ha.below (by rw [hn0]; exact hb1.drew) : Sk W1.drew b0 sb hd L luck).mem; exact cell_at hm.sk)
  have HMB : Hid (Calls Tryd.prog 53 #[PN tb] W1.drew fun e w' => e = .returned (.bool true) ∧ W1.drew = w') := made_yes tb te W1.drew (by obtain ⟨N, hm, _⟩ := (hb.below (by rw [hn0]; exact hb1.drew) : Sk W1.drew b1 tb te M luck2).mem; exact cell_at hm.sk)
  obtain ⟨nl, hnl⟩ : ∃ n : Int, ((L.length : Nat) : Int) = n := ⟨_, rfl⟩
  obtain ⟨nm, hnm⟩ : ∃ n : Int, ((M.length : Nat) : Int) = n := ⟨_, rfl⟩
  have HLA : Hid (W1.drew.cell? ⟨sb, 9, none⟩ = some (.int .i64 nl)) := by obtain ⟨N, hm, _⟩ := (ha.below (by rw [hn0]; exact hb1.drew) : Sk W1.drew b0 sb hd L luck).mem; rw [← hnl]; exact cell_at hm.sk
  have HLB : Hid (W1.drew.cell? ⟨tb, 9, none⟩ = some (.int .i64 nm)) := by obtain ⟨N, hm, _⟩ := (hb.below (by rw [hn0]; exact hb1.drew) : Sk W1.drew b1 tb te M luck2).mem; rw [← hnm]; exact cell_at hm.sk
  have hne : (nl != nm) = true := by simp; omega
  clear ha hb hlen hnl hnm
  have HK := hide (And.intro hb1 kr)
  rw [hn0]
  clear hb1 kr hs1
  go_enter Tryd.func28, Tryd.ntmps28
  go_wp2
  try rw [hW1]
  clear hW1
  refine wp_region_held_drew (S := fun x => x = W1.drew) (by kernel_rfl) rfl (fun hHeld => ?_)
  refine wpAnyH_take (i := 0) (v := ?v36x0) rfl (by kernel_rfl) (by kernel_rfl) (by kernel_rfl) (fun _ _ _ h => h) (Or.inl ⟨by rfl, ?hy36x0⟩) (by assumption) ?rest36x0
  case hy36x0 => intro w hSw; go_simp <;> with_reducible rfl
  simp only [Act.put, List.getElem_toArray, List.getElem_cons_zero, List.setIfInBounds_toArray, List.set_cons_zero, List.set_cons_succ]
  refine wpAnyH_ready (rs := [1]) (by kernel_rfl) (by simp) ?_
  refine AllReadyH.cons rfl (fun K hK => ?_) AllReadyH.nil
  go_simp
  refine (unhide HMA).mono ?_
  rintro e wq ⟨rfl, rfl⟩
  refine hK _ _ rfl ?_
  clear hK hHeld
  intro hHeld
  refine wpAnyH_take (i := 2) (v := ?v37x2) rfl (by kernel_rfl) (by kernel_rfl) (by kernel_rfl) (fun _ _ _ h => h) (Or.inl ⟨by rfl, ?hy37x2⟩) (by assumption) ?rest37x2
  case hy37x2 => intro w hSw; go_simp <;> with_reducible rfl
  simp only [Act.put, List.getElem_toArray, List.getElem_cons_zero, List.getElem_cons_succ, List.setIfInBounds_toArray, List.set_cons_zero, List.set_cons_succ]
  refine wpAnyH_take (i := 3) (v := (.bool false)) rfl (by kernel_rfl) (by kernel_rfl) (by kernel_rfl) (fun _ _ _ h => h) (Or.inl ⟨by rfl, ?hy38x3⟩) (by assumption) ?rest38x3
  case hy38x3 => intro w hSw; go_simp <;> with_reducible rfl
  simp only [Act.put, List.getElem_toArray, List.getElem_cons_zero, List.getElem_cons_succ, List.setIfInBounds_toArray, List.set_cons_zero, List.set_cons_succ]
  refine wpAnyH_take (i := 4) (v := ?v39x4) rfl (by kernel_rfl) (by kernel_rfl) (by kernel_rfl) (fun _ _ _ h => h) (Or.inl ⟨by rfl, ?hy39x4⟩) (by assumption) ?rest39x4
  case hy39x4 => intro w hSw; go_simp <;> with_reducible rfl
  simp only [Act.put, List.getElem_toArray, List.getElem_cons_zero, List.getElem_cons_succ, List.setIfInBounds_toArray, List.set_cons_zero, List.set_cons_succ]
  refine wpAnyH_ready (rs := [5]) (by kernel_rfl) (by simp) ?_
  refine AllReadyH.cons rfl (fun K hK => ?_) AllReadyH.nil
  go_simp
  refine (unhide HMB).mono ?_
  rintro e wq ⟨rfl, rfl⟩
  refine hK _ _ rfl ?_
  clear hK hHeld
  intro hHeld
  refine wpAnyH_take (i := 6) (v := ?v40x6) rfl (by kernel_rfl) (by kernel_rfl) (by kernel_rfl) (fun _ _ _ h => h) (Or.inl ⟨by rfl, ?hy40x6⟩) (by assumption) ?rest40x6
  case hy40x6 => intro w hSw; go_simp <;> with_reducible rfl
  simp only [Act.put, List.getElem_toArray, List.getElem_cons_zero, List.getElem_cons_succ, List.setIfInBounds_toArray, List.set_cons_zero, List.set_cons_succ]
  refine wpAnyH_take (i := 7) (v := (.bool false)) rfl (by kernel_rfl) (by kernel_rfl) (by kernel_rfl) (fun _ _ _ h => h) (Or.inl ⟨by rfl, ?hy41x7⟩) (by assumption) ?rest41x7
  case hy41x7 => intro w hSw; go_simp <;> with_reducible rfl
  simp only [Act.put, List.getElem_toArray, List.getElem_cons_zero, List.getElem_cons_succ, List.setIfInBounds_toArray, List.set_cons_zero, List.set_cons_succ]
  refine wpAnyH_take (i := 8) (v := (.bool false)) rfl (by kernel_rfl) (by kernel_rfl) (by kernel_rfl) (fun _ _ _ h => h) (Or.inl ⟨by rfl, ?hy42x8⟩) (by assumption) ?rest42x8
  case hy42x8 => intro w hSw; go_simp <;> with_reducible rfl
  simp only [Act.put, List.getElem_toArray, List.getElem_cons_zero, List.getElem_cons_succ, List.setIfInBounds_toArray, List.set_cons_zero, List.set_cons_succ]
  refine wpAnyH_take (i := 9) (v := ?v43x9) rfl (by kernel_rfl) (by kernel_rfl) (by kernel_rfl) (fun _ _ _ h => h) (Or.inl ⟨by rfl, ?hy43x9⟩) (by assumption) ?rest43x9
  case hy43x9 => intro w hSw; go_simp <;> with_reducible rfl
  simp only [Act.put, List.getElem_toArray, List.getElem_cons_zero, List.getElem_cons_succ, List.setIfInBounds_toArray, List.set_cons_zero, List.set_cons_succ]
  refine wpAnyH_take (i := 10) (v := ?v44x10) rfl (by kernel_rfl) (by kernel_rfl) (by kernel_rfl) (fun _ _ _ h => h) (Or.inl ⟨by rfl, ?hy44x10⟩) (by assumption) ?rest44x10
  case hy44x10 => intro w hSw; go_simp <;> with_reducible rfl
  simp only [Act.put, List.getElem_toArray, List.getElem_cons_zero, List.getElem_cons_succ, List.setIfInBounds_toArray, List.set_cons_zero, List.set_cons_succ]
  refine wpAnyH_take (i := 11) (v := ?v45x11) rfl (by kernel_rfl) (by kernel_rfl) (by kernel_rfl) (fun _ _ _ h => h) (Or.inl ⟨by rfl, ?hy45x11⟩) (by assumption) ?rest45x11
  case hy45x11 => intro w hSw; go_simp <;> with_reducible rfl
  simp only [Act.put, List.getElem_toArray, List.getElem_cons_zero, List.getElem_cons_succ, List.setIfInBounds_toArray, List.set_cons_zero, List.set_cons_succ]
  refine wpAnyH_take (i := 12) (v := (.int .i64 nl)) rfl (by kernel_rfl) (by kernel_rfl) (by kernel_rfl) (fun _ _ _ h => h) (Or.inl ⟨by rfl, ?hy46x12⟩) (by assumption) ?rest46x12
  case hy46x12 => intro w hSw; subst hSw; have q := unhide HLA; go_simp <;> with_reducible rfl
  simp only [Act.put, List.getElem_toArray, List.getElem_cons_zero, List.getElem_cons_succ, List.setIfInBounds_toArray, List.set_cons_zero, List.set_cons_succ]
  refine wpAnyH_take (i := 13) (v := ?v47x13) rfl (by kernel_rfl) (by kernel_rfl) (by kernel_rfl) (fun _ _ _ h => h) (Or.inl ⟨by rfl, ?hy47x13⟩) (by assumption) ?rest47x13
  case hy47x13 => intro w hSw; go_simp <;> with_reducible rfl
  simp only [Act.put, List.getElem_toArray, List.getElem_cons_zero, List.getElem_cons_succ, List.setIfInBounds_toArray, List.set_cons_zero, List.set_cons_succ]
  refine wpAnyH_take (i := 14) (v := ?v48x14) rfl (by kernel_rfl) (by kernel_rfl) (by kernel_rfl) (fun _ _ _ h => h) (Or.inl ⟨by rfl, ?hy48x14⟩) (by assumption) ?rest48x14
  case hy48x14 => intro w hSw; go_simp <;> with_reducible rfl
  simp only [Act.put, List.getElem_toArray, List.getElem_cons_zero, List.getElem_cons_succ, List.setIfInBounds_toArray, List.set_cons_zero, List.set_cons_succ]
  refine wpAnyH_take (i := 15) (v := ?v49x15) rfl (by kernel_rfl) (by kernel_rfl) (by kernel_rfl) (fun _ _ _ h => h) (Or.inl ⟨by rfl, ?hy49x15⟩) (by assumption) ?rest49x15
  case hy49x15 => intro w hSw; go_simp <;> with_reducible rfl
  simp only [Act.put, List.getElem_toArray, List.getElem_cons_zero, List.getElem_cons_succ, List.setIfInBounds_toArray, List.set_cons_zero, List.set_cons_succ]
  refine wpAnyH_take (i := 16) (v := (.int .i64 nm)) rfl (by kernel_rfl) (by kernel_rfl) (by kernel_rfl) (fun _ _ _ h => h) (Or.inl ⟨by rfl, ?hy50x16⟩) (by assumption) ?rest50x16
  case hy50x16 => intro w hSw; subst hSw; have q := unhide HLB; go_simp <;> with_reducible rfl
  simp only [Act.put, List.getElem_toArray, List.getElem_cons_zero, List.getElem_cons_succ, List.setIfInBounds_toArray, List.set_cons_zero, List.set_cons_succ]
  refine wpAnyH_take (i := 17) (v := (.bool true)) rfl (by kernel_rfl) (by kernel_rfl) (by kernel_rfl) (fun _ _ _ h => h) (Or.inl ⟨by rfl, ?hy51x17⟩) (by assumption) ?rest51x17
  case hy51x17 => intro w hSw; go_simp <;> with_reducible rfl
  simp only [Act.put, List.getElem_toArray, List.getElem_cons_zero, List.getElem_cons_succ, List.setIfInBounds_toArray, List.set_cons_zero, List.set_cons_succ]
  refine wpAnyH_take (i := 18) (v := (.bool true)) rfl (by kernel_rfl) (by kernel_rfl) (by kernel_rfl) (fun _ _ _ h => h) (Or.inl ⟨by rfl, ?hy52x18⟩) (by assumption) ?rest52x18
  case hy52x18 => intro w hSw; go_simp <;> with_reducible rfl
  simp only [Act.put, List.getElem_toArray, List.getElem_cons_zero, List.getElem_cons_succ, List.setIfInBounds_toArray, List.set_cons_zero, List.set_cons_succ]
  refine wpAnyH_done (by kernel_rfl) ?_ _
  have c0 : W1.drew.cell? ⟨n0, 0, none⟩ = some (.bool false) := cell_at (unhide HK).2
  have f0 : W1.drew.frozen? ⟨n0, 0, none⟩ = false := frozen_of_heap (w := W1.drew) (unhide HK).2
  go_wp2
  refine bodyPost_ret ?_ rfl ⟨rfl, ((unhide HK).1.drew.setCell (p := ⟨n0, 0, none⟩) (Nat.le_refl _) _)⟩
  have := box_set (W := W1) (.bool false) (unhide HK).2
  have c1 : (W1.setCell ⟨n0, 0, none⟩ (.bool false)).cell? ⟨n0, 0, none⟩ = some (.bool false) := cell_at this
  simp [results, Tryd.results28, go_sem, c1]

set_option maxHeartbeats 2000000 in
theorem same_eqlen {w : World} {b0 sb hd : Nat} {L : List Nd} {luck : Int} (ha : Sk w b0 sb hd L luck) {b1 tb te : Nat} {M : List Nd} {luck2 : Int} (hb : Sk w b1 tb te M luck2) (hlen : L.length = M.length) : Calls Tryd.prog 28 #[PN sb, PN tb] w fun e w' => e = .returned (.bool (decide (L.map cl = M.map cl))) ∧ Below w.heap.size w w' := by
  obtain ⟨n0, hn0⟩ : ∃ x, w.heap.size = x := ⟨_, rfl⟩
  obtain ⟨W1, hW1⟩ : ∃ W, w.alloc (.cells #[.bool false] 4) = W := ⟨_, rfl⟩
  have hb1 : Below n0 w W1 := by rw [← hW1, ← hn0]; exact (Below.refl _ _).alloc (Nat.le_refl _) _
  have kr : W1.heap[n0]? = some (.cells #[.bool false] 4) := by rw [← hW1, ← hn0]; exact heap_new1 _ _
  have hs1 : W1.heap.size = n0 + 1 := by rw [← hW1, ← hn0]; simp
  have HMA : Hid (Calls Tryd.prog 53 #[PN sb] W1.drew fun e w' => e = .returned (.bool true) ∧ W1.drew = w') := made_yes sb hd W1.drew (by obtain ⟨N, hm, _⟩ := (ha.below (by rw [hn0]; exact hb1.drew) : Sk W1.drew b0 sb hd L luck).mem; exact cell_at hm.sk)
  have HMB : Hid (Calls Tryd.prog 53 #[PN tb] W1.drew fun e w' => e = .returned (.bool true) ∧ W1.drew = w') := made_yes tb te W1.drew (by obtain ⟨N, hm, _⟩ := (hb.below (by rw [hn0]; exact hb1.drew) : Sk W1.drew b1 tb te M luck2).mem; exact cell_at hm.sk)
  obtain ⟨nl, hnl⟩ : ∃ n : Int, ((L.length : Nat) : Int) = n := ⟨_, rfl⟩
  obtain ⟨nm, hnm⟩ : ∃ n : Int, ((M.length : Nat) : Int) = n := ⟨_, rfl⟩
  have HLA : Hid (W1.drew.cell? ⟨sb, 9, none⟩ = some (.int .i64 nl)) := by obtain ⟨N, hm, _⟩ := (ha.below (by rw [hn0]; exact hb1.drew) : Sk W1.drew b0 sb hd L luck).mem; rw [← hnl]; exact cell_at hm.sk
  have HLB : Hid (W1.drew.cell? ⟨tb, 9, none⟩ = some (.int .i64 nm)) := by obtain ⟨N, hm, _⟩ := (hb.below (by rw [hn0]; exact hb1.drew) : Sk W1.drew b1 tb te M luck2).mem; rw [← hnm]; exact cell_at hm.sk
  have hne : (nl != nm) = false := by simp; omega
  obtain ⟨ob, hob⟩ : ∃ x, n0 + 1 = x := ⟨_, rfl⟩
  obtain ⟨W3, hW3⟩ : ∃ W, (W1.alloc (.cells #[PN te] 71)).drew = W := ⟨_, rfl⟩
  have hb3 : Below W1.heap.size W1 W3 := by rw [← hW3]; exact ((Below.refl _ W1).alloc (Nat.le_refl _) _).drew
  have k3r : W3.heap[n0]? = some (.cells #[.bool false] 4) := (hb3.block n0 (by omega)).trans kr
  have k3o : W3.heap[ob]? = some (.cells #[PN te] 71) := by rw [← hW3, ← hob, ← hs1]; exact heap_new1 W1 _
  have hbw3 : Below n0 w W3 := hb1.trans (hb3.mono (by omega))
  have ha3 : Sk W3 b0 sb hd L luck := ha.below (by rw [hn0]; exact hbw3)
  have hb3' : Sk W3 b1 tb te M luck2 := hb.below (by rw [hn0]; exact hbw3)
  have HF := hide (level_yes ha3 0 (by decide))
  have t0 : W1.drew.cell? ⟨tb, 0, none⟩ = some (PN te) := by obtain ⟨N, hm, _⟩ := (hb.below (by rw [hn0]; exact hb1.drew) : Sk W1.drew b1 tb te M luck2).mem; exact cell_at hm.sk
  have HH := hide (And.intro ha3 (And.intro hb3' (And.intro hbw3 (And.intro k3r k3o))))
  have HAB := hide (And.intro ha hb)
  obtain ⟨res, hres⟩ : ∃ r, decide (L.map cl = M.map cl) = r := ⟨_, rfl⟩
  rw [hn0, hres]
  have HRES := hide hres
  have HLEN := hide hlen
  have HW3 := hide hW3
  clear ha hb ha3 hb3' hbw3 k3r k3o hb1 kr hb3 hnl hnm hres hlen hW3
  refine (callsIn_wide (n := 3)).1 ?_
  refine callsIn_of_wp_marks Tryd.func28 rfl trivial ?_ rfl
  simp only [Tryd.ntmps28, List.size_toArray, List.length_cons, List.length_nil, Nat.reduceAdd, Nat.reduceSub, Array.replicate_succ, Array.replicate_zero, List.push_toArray, List.append_toArray, List.nil_append, List.cons_append]
  gi_wp2_with fail
  try rw [hW1]
  try rw [hn0]
  refine region_plain ?_
  refine wp_region_held_drew (S := fun x => x = W1.drew) (by kernel_rfl) rfl (fun hHeld => ?_)
  refine wpAnyH_take (i := 0) (v := ?v53x0) rfl (by kernel_rfl) (by kernel_rfl) (by kernel_rfl) (fun _ _ _ h => h) (Or.inl ⟨by rfl, ?hy53x0⟩) (by assumption) ?rest53x0
  case hy53x0 => intro w hSw; go_simp <;> with_reducible rfl
  simp only [Act.put, List.getElem_toArray, List.getElem_cons_zero, List.setIfInBounds_toArray, List.set_cons_zero, List.set_cons_succ]
  refine wpAnyH_ready (rs := [1]) (by kernel_rfl) (by simp) ?_
  refine AllReadyH.cons rfl (fun K hK => ?_) AllReadyH.nil
  go_simp
  refine (unhide HMA).mono ?_
  rintro e wq ⟨rfl, rfl⟩
  refine hK _ _ rfl ?_
  clear hK hHeld
  intro hHeld
  refine wpAnyH_take (i := 2) (v := ?v54x2) rfl (by kernel_rfl) (by kernel_rfl) (by kernel_rfl) (fun _ _ _ h => h) (Or.inl ⟨by rfl, ?hy54x2⟩) (by assumption) ?rest54x2
  case hy54x2 => intro w hSw; go_simp <;> with_reducible rfl
  simp only [Act.put, List.getElem_toArray, List.getElem_cons_zero, List.getElem_cons_succ, List.setIfInBounds_toArray, List.set_cons_zero, List.set_cons_succ]
  refine wpAnyH_take (i := 3) (v := (.bool false)) rfl (by kernel_rfl) (by kernel_rfl) (by kernel_rfl) (fun _ _ _ h => h) (Or.inl ⟨by rfl, ?hy55x3⟩) (by assumption) ?rest55x3
  case hy55x3 => intro w hSw; go_simp <;> with_reducible rfl
  simp only [Act.put, List.getElem_toArray, List.getElem_cons_zero, List.getElem_cons_succ, List.setIfInBounds_toArray, List.set_cons_zero, List.set_cons_succ]
  refine wpAnyH_take (i := 4) (v := ?v56x4) rfl (by kernel_rfl) (by kernel_rfl) (by kernel_rfl) (fun _ _ _ h => h) (Or.inl ⟨by rfl, ?hy56x4⟩) (by assumption) ?rest56x4
  case hy56x4 => intro w hSw; go_simp <;> with_reducible rfl
  simp only [Act.put, List.getElem_toArray, List.getElem_cons_zero, List.getElem_cons_succ, List.setIfInBounds_toArray, List.set_cons_zero, List.set_cons_succ]
  refine wpAnyH_ready (rs := [5]) (by kernel_rfl) (by simp) ?_
  refine AllReadyH.cons rfl (fun K hK => ?_) AllReadyH.nil
  go_simp
  refine (unhide HMB).mono ?_
  rintro e wq ⟨rfl, rfl⟩
  refine hK _ _ rfl ?_
  clear hK hHeld
  intro hHeld
  refine wpAnyH_take (i := 6) (v := ?v57x6) rfl (by kernel_rfl) (by kernel_rfl) (by kernel_rfl) (fun _ _ _ h => h) (Or.inl ⟨by rfl, ?hy57x6⟩) (by assumption) ?rest57x6
  case hy57x6 => intro w hSw; go_simp <;> with_reducible rfl
  simp only [Act.put, List.getElem_toArray, List.getElem_cons_zero, List.getElem_cons_succ, List.setIfInBounds_toArray, List.set_cons_zero, List.set_cons_succ]
  refine wpAnyH_take (i := 7) (v := (.bool false)) rfl (by kernel_rfl) (by kernel_rfl) (by kernel_rfl) (fun _ _ _ h => h) (Or.inl ⟨by rfl, ?hy58x7⟩) (by assumption) ?rest58x7
  case hy58x7 => intro w hSw; go_simp <;> with_reducible rfl
  simp only [Act.put, List.getElem_toArray, List.getElem_cons_zero, List.getElem_cons_succ, List.setIfInBounds_toArray, List.set_cons_zero, List.set_cons_succ]
  refine wpAnyH_take (i := 8) (v := (.bool false)) rfl (by kernel_rfl) (by kernel_rfl) (by kernel_rfl) (fun _ _ _ h => h) (Or.inl ⟨by rfl, ?hy59x8⟩) (by assumption) ?rest59x8
  case hy59x8 => intro w hSw; go_simp <;> with_reducible rfl
  simp only [Act.put, List.getElem_toArray, List.getElem_cons_zero, List.getElem_cons_succ, List.setIfInBounds_toArray, List.set_cons_zero, List.set_cons_succ]
  refine wpAnyH_take (i := 9) (v := ?v60x9) rfl (by kernel_rfl) (by kernel_rfl) (by kernel_rfl) (fun _ _ _ h => h) (Or.inl ⟨by rfl, ?hy60x9⟩) (by assumption) ?rest60x9
  case hy60x9 => intro w hSw; go_simp <;> with_reducible rfl
  simp only [Act.put, List.getElem_toArray, List.getElem_cons_zero, List.getElem_cons_succ, List.setIfInBounds_toArray, List.set_cons_zero, List.set_cons_succ]
  refine wpAnyH_take (i := 10) (v := ?v61x10) rfl (by kernel_rfl) (by kernel_rfl) (by kernel_rfl) (fun _ _ _ h => h) (Or.inl ⟨by rfl, ?hy61x10⟩) (by assumption) ?rest61x10
  case hy61x10 => intro w hSw; go_simp <;> with_reducible rfl
  simp only [Act.put, List.getElem_toArray, List.getElem_cons_zero, List.getElem_cons_succ, List.setIfInBounds_toArray, List.set_cons_zero, List.set_cons_succ]
  refine wpAnyH_take (i := 11) (v := ?v62x11) rfl (by kernel_rfl) (by kernel_rfl) (by kernel_rfl) (fun _ _ _ h => h) (Or.inl ⟨by rfl, ?hy62x11⟩) (by assumption) ?rest62x11
  case hy62x11 => intro w hSw; go_simp <;> with_reducible rfl
  simp only [Act.put, List.getElem_toArray, List.getElem_cons_zero, List.getElem_cons_succ, List.setIfInBounds_toArray, List.set_cons_zero, List.set_cons_succ]
  refine wpAnyH_take (i := 12) (v := (.int .i64 nl)) rfl (by kernel_rfl) (by kernel_rfl) (by kernel_rfl) (fun _ _ _ h => h) (Or.inl ⟨by rfl, ?hy63x12⟩) (by assumption) ?rest63x12
  case hy63x12 => intro w hSw; subst hSw; have q := unhide HLA; go_simp <;> with_reducible rfl
  simp only [Act.put, List.getElem_toArray, List.getElem_cons_zero, List.getElem_cons_succ, List.setIfInBounds_toArray, List.set_cons_zero, List.set_cons_succ]
  refine wpAnyH_take (i := 13) (v := ?v64x13) rfl (by kernel_rfl) (by kernel_rfl) (by kernel_rfl) (fun _ _ _ h => h) (Or.inl ⟨by rfl, ?hy64x13⟩) (by assumption) ?rest64x13
  case hy64x13 => intro w hSw; go_simp <;> with_reducible rfl
  simp only [Act.put, List.getElem_toArray, List.getElem_cons_zero, List.getElem_cons_succ, List.setIfInBounds_toArray, List.set_cons_zero, List.set_cons_succ]
  refine wpAnyH_take (i := 14) (v := ?v65x14) rfl (by kernel_rfl) (by kernel_rfl) (by kernel_rfl) (fun _ _ _ h => h) (Or.inl ⟨by rfl, ?hy65x14⟩) (by assumption) ?rest65x14
  case hy65x14 => intro w hSw; go_simp <;> with_reducible rfl
  simp only [Act.put, List.getElem_toArray, List.getElem_cons_zero, List.getElem_cons_succ, List.setIfInBounds_toArray, List.set_cons_zero, List.set_cons_succ]
  refine wpAnyH_take (i := 15) (v := ?v66x15) rfl (by kernel_rfl) (by kernel_rfl) (by kernel_rfl) (fun _ _ _ h => h) (Or.inl ⟨by rfl, ?hy66x15⟩) (by assumption) ?rest66x15
  case hy66x15 => intro w hSw; go_simp <;> with_reducible rfl
  simp only [Act.put, List.getElem_toArray, List.getElem_cons_zero, List.getElem_cons_succ, List.setIfInBounds_toArray, List.set_cons_zero, List.set_cons_succ]
  refine wpAnyH_take (i := 16) (v := (.int .i64 nm)) rfl (by kernel_rfl) (by kernel_rfl) (by kernel_rfl) (fun _ _ _ h => h) (Or.inl ⟨by rfl, ?hy67x16⟩) (by assumption) ?rest67x16
  case hy67x16 => intro w hSw; subst hSw; have q := unhide HLB; go_simp <;> with_reducible rfl
  simp only [Act.put, List.getElem_toArray, List.getElem_cons_zero, List.getElem_cons_succ, List.setIfInBounds_toArray, List.set_cons_zero, List.set_cons_succ]
  refine wpAnyH_take (i := 17) (v := (.bool false)) rfl (by kernel_rfl) (by kernel_rfl) (by kernel_rfl) (fun _ _ _ h => h) (Or.inl ⟨by rfl, ?hy68x17⟩) (by assumption) ?rest68x17
  case hy68x17 => intro w hSw; go_simp <;> with_reducible rfl
  simp only [Act.put, List.getElem_toArray, List.getElem_cons_zero, List.getElem_cons_succ, List.setIfInBounds_toArray, List.set_cons_zero, List.set_cons_succ]
  refine wpAnyH_take (i := 18) (v := (.bool false)) rfl (by kernel_rfl) (by kernel_rfl) (by kernel_rfl) (fun _ _ _ h => h) (Or.inl ⟨by rfl, ?hy69x18⟩) (by assumption) ?rest69x18
  case hy69x18 => intro w hSw; go_simp <;> with_reducible rfl
  simp only [Act.put, List.getElem_toArray, List.getElem_cons_zero, List.getElem_cons_succ, List.setIfInBounds_toArray, List.set_cons_zero, List.set_cons_succ]
  refine wpAnyH_done (by kernel_rfl) ?_ _
  refine noP_normal ?_
  gi_wp2_with fail
  rw [unhide HW3]
  refine ⟨trivial, ((callsIn_wide).2 (unhide HF)).mono ?_⟩
  rintro e W2 ⟨bx, rfl, hit, hb2, hbx⟩
  obtain ⟨ha3, hb3, hbw3, k3r, k3o⟩ := unhide HH
  obtain ⟨ha0, hb0⟩ := unhide HAB
  have hs3 : ob < W3.heap.size := (Array.getElem?_eq_some_iff.1 k3o).1
  have ha2 : Sk W2 b0 sb hd L luck := ha3.below hb2
  have hb2' : Sk W2 b1 tb te M luck2 := hb3.below hb2
  have k2r : W2.heap[n0]? = some (.cells #[.bool false] 4) := (hb2.block n0 (by omega)).trans k3r
  have k2o : W2.heap[ob]? = some (.cells #[PN te] 71) := (hb2.block ob hs3).trans k3o
  have hW2 : Below n0 w W2 := hbw3.trans (hb2.mono (by omega))
  obtain ⟨B, hB⟩ : ∃ B, W2.heap.size = B := ⟨_, rfl⟩
  have hoB : ob < B := by rw [← hB]; exact (Array.getElem?_eq_some_iff.1 k2o).1
  have hbxB : bx + 1 < B := by rw [← hB]; exact World.block_lt_of_cell? W2 _ hit.2
  obtain ⟨N, hm, hlk⟩ := ha2.mem
  have hlk0 := hlk 0 (by decide)
  have hAp := ha2.apart
  have hqon : On hd L hd := .inl rfl
  have hblt : ∀ k, Bl sb hd L k → k < n0 := fun k hk => by rw [← hn0]; exact ha0.lt hk
  have hblM : ∀ k, Bl tb te M k → k < n0 := fun k hk => by rw [← hn0]; exact hb0.lt hk
  have i0 : SmI te n0 ob B W2 M [] W2 := ⟨⟨⟨k2r, k2o⟩, Upd.refl _ _ _⟩, rfl⟩
  have honL : onL 0 L = L := List.filter_eq_self.2 fun m hm => by have := (ha2.ok m hm).h; simp; omega
  gi_wp2
  refine wpIn_range_ok rfl (by decide) (gf := 84) (lb := #[PN bx, PN (bx + 1)]) rfl trivial (enters_of Tryd.func84 (by kernel_rfl) rfl)
    (behind_seq (3 - 1) bx 0 hd (by decide) L N (fun k => k < B ∧ k ≠ n0 ∧ k ≠ ob) W2 (List.nodup_cons.1 hAp).2 hlk0 hit.1 hit.2 (hm.next hqon (by decide)) (fun m hm' => hm.next (.inr ⟨m, hm', rfl⟩) (by decide)) ⟨by omega, by omega, by omega⟩ (fun m hm' => by have := hblt m.p (.inr (.inr ⟨m, hm', rfl⟩)); exact ⟨by omega, by omega, by omega⟩))
    keepb_t (fun W o o' => keepb_put (fun c => by have := c.1; omega) W o o') (Below.refl _ _) (fun _ => rfl)
    (SmI te n0 ob B W2 M) (SmX n0 B W2 L M ob)
    (by rw [hB]; exact smI_own te n0 ob B W2 M (by omega) hoB (by omega))
    (fun cd => by rw [hB]; exact smX_own n0 B W2 L M ob cd (by omega) (by omega)) i0
    (fun x => { tmps := #[PN sb, PN tb, undef, undef, PN n0, PN ob, PN x.p, PN sb, .bool true, .bool false, .bool false, PN tb, .bool true, .bool false, .bool false, .bool false, PN sb, PN sb, .pointer (some ⟨sb, 9, none⟩), .int .i64 nl, PN tb, PN tb, .pointer (some ⟨tb, 9, none⟩), .int .i64 nm, .bool false, .bool false, PN tb, PN tb, PN tb, PN te, PN sb, It bx, PN x.p, undef, undef, undef, undef, undef, undef, undef, undef, undef, undef, undef, undef, undef, undef], defers := [] }) ?assign ?body ?done ?stop
  case assign =>
    intro l x W K hK
    clear hlk0 hAp hm hlk ha2 hb2' ha3 hb3 ha0 hb0 i0 k2r k2o hit k3r k3o hb2 hW2 hbw3 hblt hblM honL
    gi_wp2
    exact hK
  case body =>
    intro l pre x W hI hOk
    obtain ⟨⟨⟨kr, ko⟩, hU⟩, hpre⟩ := hI
    obtain ⟨r, hr⟩ := hOk
    rw [honL] at hr
    have hlen := unhide HLEN
    have hj : pre.length < M.length := by rw [← hlen, ← hr]; simp
    obtain ⟨j, hjj⟩ : ∃ j, pre.length = j := ⟨_, rfl⟩
    rw [hjj] at ko hj hpre
    obtain ⟨m, hmj⟩ : ∃ m, M[j]? = some m := ⟨_, List.getElem?_eq_getElem hj⟩
    obtain ⟨hnx, hon, hlst⟩ := next_at hb2' hmj
    have hmM : m ∈ M := List.mem_of_getElem? hmj
    obtain ⟨q, hq⟩ : ∃ q, lstP te 0 (M.take j) = q := ⟨_, rfl⟩
    rw [hq] at hnx hon ko
    have hxL : x ∈ L := by rw [← hr]; simp
    have hxb : x.p < n0 := hblt x.p (.inr (.inr ⟨x, hxL, rfl⟩))
    have hmb : m.p < n0 := hblM m.p (.inr (.inr ⟨m, hmM, rfl⟩))
    have hqb : q < n0 := by
      rcases hon with e | ⟨y, hy, e⟩
      · exact hblM q (.inr (.inl e))
      · exact hblM q (.inr (.inr ⟨y, hy, e⟩))
    obtain ⟨N2, hm2, _⟩ := hb2'.mem
    have hne : ∀ k, k < n0 → W.heap[k]? = W2.heap[k]? := fun k hk => hU.block k (by omega) (by omega)
    have hxn : W.heap[x.p]? = some (.cells (nodeC x (N x.p)) 85) := (hne _ hxb).trans (hm.node x hxL)
    have hmn : W.heap[m.p]? = some (.cells (nodeC m (N2 m.p)) 85) := (hne _ hmb).trans (hm2.node m hmM)
    have hqc : W.cell? ⟨q, 5, none⟩ = some (PN m.p) := (World.cell?_of_block (w := W2) (a := ⟨q, 5, none⟩) (hne _ hqb)).trans hnx
    have o0 : W.cell? ⟨ob, 0, none⟩ = some (PN q) := cell_at ko
    have of0 : W.frozen? ⟨ob, 0, none⟩ = false := frozen_of_heap ko
    obtain ⟨W5, hW5⟩ : ∃ W5, W.setCell ⟨ob, 0, none⟩ (PN m.p) = W5 := ⟨_, rfl⟩
    have hU5 : Upd (fun k => k = n0 ∨ k = ob) W.heap.size W W5 := by rw [← hW5]; exact (Upd.refl _ _ _).setCell (p := ⟨ob, 0, none⟩) (.inl (.inr rfl)) _
    have k5o : W5.heap[ob]? = some (.cells #[PN m.p] 71) := by rw [← hW5]; exact box_set _ ko
    have k5r : W5.heap[n0]? = some (.cells #[.bool false] 4) := by rw [← hW5, Below.heap_setCell _ _ _ _ (show n0 ≠ ob by omega)]; exact kr
    have k5x : W5.heap[x.p]? = some (.cells (nodeC x (N x.p)) 85) := by rw [← hW5, Below.heap_setCell _ _ _ _ (show x.p ≠ ob by omega)]; exact hxn
    have k5m : W5.heap[m.p]? = some (.cells (nodeC m (N2 m.p)) 85) := by rw [← hW5, Below.heap_setCell _ _ _ _ (show m.p ≠ ob by omega)]; exact hmn
    have x0 : W5.cell? ⟨x.p, 0, none⟩ = some (.int .i32 x.k.1) := cell_at k5x
    have x1 : W5.cell? ⟨x.p, 1, none⟩ = some (.int .i64 x.k.2) := cell_at k5x
    have x2 : W5.cell? ⟨x.p, 2, none⟩ = some (.int .i64 x.v) := cell_at k5x
    have x3 : W5.cell? ⟨x.p, 3, none⟩ = some (.int .i64 x.s) := cell_at k5x
    have m0 : W5.cell? ⟨m.p, 0, none⟩ = some (.int .i32 m.k.1) := cell_at k5m
    have m1 : W5.cell? ⟨m.p, 1, none⟩ = some (.int .i64 m.k.2) := cell_at k5m
    have m2 : W5.cell? ⟨m.p, 2, none⟩ = some (.int .i64 m.v) := cell_at k5m
    have m3 : W5.cell? ⟨m.p, 3, none⟩ = some (.int .i64 m.s) := cell_at k5m
    have p0 : W5.cell? ⟨ob, 0, none⟩ = some (PN m.p) := cell_at k5o
    have hsW : B ≤ W.heap.size := by have := hU.size; omega
    have hLx : L[j]? = some x := by rw [← hr, ← hjj]; simp
    have htk : (M.take (j + 1)).map cl = (M.take j).map cl ++ [cl m] := by
      obtain ⟨hj2, hmj2⟩ := List.getElem?_eq_some_iff.1 hmj
      rw [List.take_succ_eq_append_getElem hj2, hmj2]; simp
    obtain ⟨rr, hrr⟩ : ∃ r, (!decide ((((x.k.1, x.k.2), x.v, x.s) : Pr) = ((m.k.1, m.k.2), m.v, m.s))) = r := ⟨_, rfl⟩
    have hneq := neq_cell x.k.1 x.k.2 x.v x.s m.k.1 m.k.2 m.v m.s
    rw [hrr] at hneq
    have HW5 := hide hW5
    have HRR := hide hrr
    have HFA : Hid (rr = false → KeepsFrom W2.heap.size W W5.drew ∧ Keepb (fun k => k < B ∧ k ≠ n0 ∧ k ≠ ob) W W5.drew ∧ SmI te n0 ob B W2 M (pre ++ [x]) W5.drew) := fun hf => by
      have heq : cl x = cl m := by rw [hf] at hrr; simp only [Bool.not_eq_false', decide_eq_true_eq] at hrr; exact hrr
      rw [hB]
      refine ⟨?_, ⟨hU5.size, fun k hk => hU5.block k (by have := hk.1; omega) (by have := hk.2; omega)⟩, ⟨⟨⟨k5r, ?_⟩, (hU.trans (hU5.less hsW)).drew⟩, ?_⟩⟩
      · exact keepsFrom_upd hU5.drew (fun k hk => by omega)
      · rw [List.length_append, hjj, List.length_singleton, hlst]; exact k5o
      · rw [List.length_append, hjj, List.length_singleton, htk, List.map_append, hpre, List.map_singleton, heq]
    have r0 : W5.drew.cell? ⟨n0, 0, none⟩ = some (.bool false) := cell_at (w := W5.drew) k5r
    have rf0 : W5.drew.frozen? ⟨n0, 0, none⟩ = false := frozen_of_heap (w := W5.drew) k5r
    have HFB : Hid (rr = true → KeepsFrom W2.heap.size W (W5.drew.setCell ⟨n0, 0, none⟩ (.bool false)) ∧ SmX n0 B W2 L M ob .ret (pre ++ [x]) (W5.drew.setCell ⟨n0, 0, none⟩ (.bool false))) := fun hf => by
      have heq : ¬ cl x = cl m := by rw [hf] at hrr; simp only [Bool.not_eq_true', decide_eq_false_iff_not] at hrr; exact hrr
      have hne2 : L.map cl ≠ M.map cl := fun e => by
        have h1 : (L.map cl)[j]? = some (cl x) := by rw [List.getElem?_map, hLx]; rfl
        have h2 : (M.map cl)[j]? = some (cl m) := by rw [List.getElem?_map, hmj]; rfl
        rw [e, h2] at h1
        exact heq (Option.some.inj h1).symm
      have hU6 : Upd (fun k => k = n0 ∨ k = ob) W.heap.size W (W5.drew.setCell ⟨n0, 0, none⟩ (.bool false)) := hU5.drew.setCell (p := ⟨n0, 0, none⟩) (.inl (.inl rfl)) _
      rw [hB]
      exact ⟨keepsFrom_upd hU6 (fun k hk => by omega), ⟨box_set (W := W5.drew) _ k5r, hU.trans (hU6.less hsW)⟩, rfl, hne2⟩
    clear hlk0 hAp hm hlk ha2 hb2' ha3 hb3 ha0 hb0 i0 k2r k2o hit k3r k3o hb2 hW2 hbw3 hblt hblM honL hU5 k5o k5r k5x k5m hW5 hU kr ko hxn hmn hm2 hne hon hpre hLx htk hr hmM hxL hnx hlst hrr hmj hj hjj
    gi_wp2_with (rw [unhide HW5])
    refine wpIn_mono (Q := fun e a' W' => e = .normal ∧ a' = { tmps := #[PN sb, PN tb, undef, undef, PN n0, PN ob, PN x.p, PN sb, .bool true, .bool false, .bool false, PN tb, .bool true, .bool false, .bool false, .bool false, PN sb, PN sb, .pointer (some ⟨sb, 9, none⟩), .int .i64 nl, PN tb, PN tb, .pointer (some ⟨tb, 9, none⟩), .int .i64 nm, .bool false, .bool false, PN tb, PN tb, PN tb, PN te, PN sb, It bx, PN x.p, PN q, PN q, .pointer (some ⟨q, 5, none⟩), .pointer (some ⟨q, 5, none⟩), PN m.p, PN x.p, PN x.p, PN x.p, .agg #[.int .i32 x.k.1, .int .i64 x.k.2, .int .i64 x.v, .int .i64 x.s], PN m.p, PN m.p, PN m.p, .agg #[.int .i32 m.k.1, .int .i64 m.k.2, .int .i64 m.v, .int .i64 m.s], .bool rr], defers := [] } ∧ W' = W5.drew) ?reg ?rest
    case reg =>
      gi_region
      all_goals exact ⟨rfl, rfl, rfl⟩
    case rest =>
      rintro e a' W' ⟨rfl, rfl, rfl⟩
      cases rr with
      | false =>
        have hfin := unhide HFA rfl
        clear HFA HFB
        gi_wp2
        exact hfin
      | true =>
        have hfin := unhide HFB rfl
        clear HFA HFB
        gi_wp2
        exact hfin
  case stop =>
    intro D c pre W hD hX hK
    obtain ⟨⟨kr, hU⟩, rfl, hne⟩ := hX
    have hD' : B ≤ D := by rw [← hB]; exact hD
    have HM : Hid (Marks [{ target := .collected D, args := #[] }] W) := (Marks.nil W).cons hK (fun c => by cases c)
    have HB := hide (And.intro hW2 (And.intro hU (And.intro kr hne)))
    clear hne hU kr
    clear hlk0 hAp hm hlk ha2 hb2' ha3 hb3 ha0 hb0 i0 k2r k2o hit k3r k3o hb2 hW2 hbw3 hblt hblM honL hK
    gi_wp2
    obtain ⟨hbw, hU, kr, hne⟩ := unhide HB
    have hdm : ∀ k, isMark [{ target := .collected D, args := #[] }] k → B ≤ k := fun k c => by
      rcases List.mem_cons.1 c with e | e
      · simp only [Deferred.mk.injEq, Target.collected.injEq, and_true] at e; omega
      · cases e
    refine leave_marks (w := W) (unhide HM) fun w' hw => ?_
    have hlt : n0 < W.heap.size := (Array.getElem?_eq_some_iff.1 kr).1
    have hc9 : w'.cell? ⟨n0, 0, none⟩ = some (.bool false) := cell_at ((hw.block n0 hlt fun c => by have := hdm _ c; omega).trans kr)
    have hsU := hU.size
    have hU2 : Upd (fun k => k = n0 ∨ k = ob) B W2 w' := by
      refine ⟨hw.os.trans hU.os, hw.tape.trans hU.tape, hw.output.trans hU.output, Nat.le_trans hU.size hw.size, fun k hk hn => ?_⟩
      rw [hw.block k (by omega) (fun c => by have := hdm k c; omega)]
      exact hU.block k hk hn
    refine ⟨.bool false, by simp [results, Tryd.results28, go_sem, hc9], retBool ?_, hbw.trans ⟨hU2.os, hU2.tape, hU2.output, hU2.size, fun k hk => hU2.block k (by omega) (by omega)⟩⟩
    rw [← unhide HRES]
    exact (decide_eq_false hne).symm
  case done =>
    intro D xs W hD hxs hI hK
    subst hxs
    obtain ⟨⟨⟨kr, ko⟩, hU⟩, hpre⟩ := hI
    rw [honL] at hpre ko
    have heq : L.map cl = M.map cl := by rw [hpre, unhide HLEN, List.take_length]
    have hD' : B ≤ D := by rw [← hB]; exact hD
    have HM : Hid (Marks [{ target := .collected D, args := #[] }] W) := (Marks.nil W).cons hK (fun c => by cases c)
    have HB := hide (And.intro hW2 (And.intro hU (And.intro kr heq)))
    have c2 : W.cell? ⟨n0, 0, none⟩ = some (.bool false) := cell_at kr
    have f2 : W.frozen? ⟨n0, 0, none⟩ = false := frozen_of_heap kr
    clear hU kr heq ko hpre
    clear hlk0 hAp hm hlk ha2 hb2' ha3 hb3 ha0 hb0 i0 k2r k2o hit k3r k3o hb2 hW2 hbw3 hblt hblM honL hK
    gi_wp2
    obtain ⟨hbw, hU, kr, heq⟩ := unhide HB
    have hsU := hU.size
    have hr9 : (W.setCell ⟨n0, 0, none⟩ (.bool true)).heap[n0]? = some (.cells #[.bool true] 4) := box_set _ kr
    have hdm : ∀ k, isMark [{ target := .collected D, args := #[] }] k → B ≤ k := fun k c => by
      rcases List.mem_cons.1 c with e | e
      · simp only [Deferred.mk.injEq, Target.collected.injEq, and_true] at e; omega
      · cases e
    have hMk : Marks [{ target := .collected D, args := #[] }] (W.setCell ⟨n0, 0, none⟩ (.bool true)) := (unhide HM).keep fun k hk => Below.heap_setCell _ _ _ _ (by have := hdm k hk; show k ≠ n0; omega)
    refine leave_marks (w := W.setCell ⟨n0, 0, none⟩ (.bool true)) hMk fun w' hw => ?_
    have sz : (W.setCell ⟨n0, 0, none⟩ (.bool true)).heap.size = W.heap.size := by simp [World.setCell]
    have hc9 : w'.cell? ⟨n0, 0, none⟩ = some (.bool true) := cell_at ((hw.block n0 (by omega) fun c => by have := hdm _ c; omega).trans hr9)
    have hU2 : Upd (fun k => k = n0 ∨ k = ob) B W2 w' := by
      refine ⟨hw.os.trans hU.os, hw.tape.trans hU.tape, hw.output.trans hU.output, Nat.le_trans hU.size (by have := hw.size; omega), fun k hk hn => ?_⟩
      rw [hw.block k (by omega) (fun c => by have := hdm k c; omega), Below.heap_setCell _ _ _ _ (show k ≠ n0 from fun e => hn (.inl e))]
      exact hU.block k (by omega) hn
    refine ⟨.bool true, by simp [results, Tryd.results28, go_sem, hc9], retBool ?_, hbw.trans ⟨hU2.os, hU2.tape, hU2.output, hU2.size, fun k hk => hU2.block k (by omega) (by omega)⟩⟩
    rw [← unhide HRES]
    exact (decide_eq_true heq).symm

theorem same_any {w : World} {b0 sb hd : Nat} {L : List Nd} {luck : Int} (ha : Sk w b0 sb hd L luck) {b1 tb te : Nat} {M : List Nd} {luck2 : Int} (hb : Sk w b1 tb te M luck2) : Calls Tryd.prog 28 #[PN sb, PN tb] w fun e w' => e = .returned (.bool (decide (L.map cl = M.map cl))) ∧ Below w.heap.size w w' := by
  by_cases hlen : L.length = M.length
  · exact same_eqlen ha hb hlen
  · rw [decide_eq_false (show ¬ L.map cl = M.map cl from fun e => hlen (by have := congrArg List.length e; simpa using this))]
    exact same_len ha hb hlen

end Go.Proofs.YtdcmkapfcmibeaaDoor
