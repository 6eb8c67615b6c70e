/- Get, Len. -/
import Derived.Test.YtdcmkapfcmibeaaDoorMB
namespace Go.Proofs.YtdcmkapfcmibeaaDoor
open Go.RowKit Go.Shelf
attribute [local go_sem] Oper.semAt_some
set_option maxRecDepth 100000

theorem setrow4 {w : World} {p : Nat} {a0 b0 c0 d0 a b c d : Value} {t : TypeId} (h : w.heap[p]? = some (.cells #[a0, b0, c0, d0] t)) : ((((w.setCell ⟨p, 0, none⟩ a).setCell ⟨p, 1, none⟩ b).setCell ⟨p, 2, none⟩ c).setCell ⟨p, 3, none⟩ d).heap[p]? = some (.cells #[a, b, c, d] t) := by
  have s0 := heap_setCell_same w p 0 _ t a h
  have s1 := heap_setCell_same _ p 1 _ t b s0
  have s2 := heap_setCell_same _ p 2 _ t c s1
  have s3 := heap_setCell_same _ p 3 _ t d s2
  rw [s3]
  simp

set_option maxHeartbeats 1000000 in
theorem get_no {w : World} {b0 sb hd : Nat} {L T R : List Nd} {luck : Int} (h : Sk w b0 sb hd L luck) (k : Int × Int) (hT : lo k L = T) (hR : hi k L = R) (hnk : ∀ n ∈ R, n.k ≠ k) :
    Calls Tryd.prog 20 #[PN sb, .agg #[.int .i32 k.1, .int .i64 k.2]] w fun e w' => e = .returned (.tuple #[.agg #[.int .i32 0, .int .i64 0, .int .i64 0, .int .i64 0], .bool false]) ∧ Below w.heap.size w w' := by
  have HR := hide hR
  have HNK := hide hnk
  clear hR hnk
  obtain ⟨n0, hn0⟩ : ∃ x, w.heap.size = x := ⟨_, rfl⟩
  obtain ⟨rb, hrb⟩ : ∃ x, n0 + 1 = x := ⟨_, rfl⟩
  obtain ⟨W1, hW1⟩ : ∃ W, (w.alloc (.cells #[.int .i32 k.1, .int .i64 k.2] 30)).alloc (.cells #[.int .i32 0, .int .i64 0, .int .i64 0, .int .i64 0] 32) = W := ⟨_, rfl⟩
  have hs1 : W1.heap.size = rb + 1 := by rw [← hW1, ← hrb, ← hn0]; simp
  have hB1 : Below n0 w W1 := by rw [← hW1, ← hn0]; exact ((Below.refl _ _).alloc (Nat.le_refl _) _).alloc (by simp) _
  have h1 : Sk W1 b0 sb hd L luck := h.below (by rw [hn0]; exact hB1)
  have kc : W1.heap[n0]? = some (.cells #[.int .i32 k.1, .int .i64 k.2] 30) := by rw [← hW1, Below.heap_alloc _ _ _ (by simp; omega), ← hn0]; exact heap_new1 _ _
  have kr : W1.heap[rb]? = some (.cells #[.int .i32 0, .int .i64 0, .int .i64 0, .int .i64 0] 32) := by rw [← hW1, ← hrb, ← hn0]; exact heap_new2 _ _ _
  have c0 : W1.cell? ⟨sb, 0, none⟩ = some (PN hd) := by obtain ⟨N, hm, _⟩ := h1.mem; exact cell_at hm.sk
  have HMd := hide (made_yes sb hd W1 c0)
  have HAh := hide (ahead_any h1.drew k.1 k.2)
  rw [show lo (k.1, k.2) L = T from hT] at HAh
  have H1 := hide (And.intro h1 (And.intro hB1 (And.intro kc (And.intro kr hs1))))
  have HT := hide hT
  clear h1 hB1 kc c0 hT hs1 kr h
  rw [hn0]
  go_enter Tryd.func20, Tryd.ntmps20
  go_wp2_with fail
  try rw [hW1]
  refine (unhide HMd).mono ?_
  rintro e w9 ⟨rfl, rfl⟩
  clear hW1
  go_wp2_with fail
  refine wp_region_held_drew (S := fun w' => w'.heap[n0]? = some (.cells #[.int .i32 k.1, .int .i64 k.2] 30) ∧ True) (by kernel_rfl) ⟨(unhide H1).2.2.1, trivial⟩ (fun hHeld => ?_)
  refine wpAnyH_take (i := 0) (v := ?v1x0) rfl (by kernel_rfl) (by kernel_rfl) (by kernel_rfl) (fun _ _ _ h => h) (Or.inl ⟨by rfl, ?hy1x0⟩) (by assumption) ?rest1x0
  case hy1x0 => intro w hSw; go_simp <;> with_reducible rfl
  simp only [Act.put, List.getElem_toArray, List.getElem_cons_zero, List.setIfInBounds_toArray, List.set_cons_zero, List.set_cons_succ]
  refine wpAnyH_take (i := 1) (v := (.agg #[.int .i32 k.1, .int .i64 k.2])) rfl (by kernel_rfl) (by kernel_rfl) (by kernel_rfl) (fun _ _ _ h => h) (Or.inl ⟨by rfl, ?hy2x1⟩) (by assumption) ?rest2x1
  case hy2x1 => intro w hSw; have q0 : w.cell? ⟨n0, 0, none⟩ = some (.int .i32 k.1) := cell_at hSw.1; have q1 : w.cell? ⟨n0, 1, none⟩ = some (.int .i64 k.2) := cell_at hSw.1; go_simp <;> with_reducible rfl
  simp only [Act.put, List.getElem_toArray, List.getElem_cons_zero, List.getElem_cons_succ, List.setIfInBounds_toArray, List.set_cons_zero, List.set_cons_succ]
  refine wpAnyH_take (i := 3) (v := (.agg #[.int .i32 k.1, .int .i64 k.2])) rfl (by kernel_rfl) (by kernel_rfl) (by kernel_rfl) (fun _ _ _ h => h) (Or.inl ⟨by rfl, ?hy3x3⟩) (by assumption) ?rest3x3
  case hy3x3 => intro w hSw; have q0 : w.cell? ⟨n0, 0, none⟩ = some (.int .i32 k.1) := cell_at hSw.1; have q1 : w.cell? ⟨n0, 1, none⟩ = some (.int .i64 k.2) := cell_at hSw.1; go_simp <;> with_reducible rfl
  simp only [Act.put, List.getElem_toArray, List.getElem_cons_zero, List.getElem_cons_succ, List.setIfInBounds_toArray, List.set_cons_zero, List.set_cons_succ]
  refine wpAnyH_ready (rs := [2]) (by kernel_rfl) (by simp) ?_
  refine AllReadyH.cons rfl (fun K hK => ?_) AllReadyH.nil
  go_simp
  refine (unhide HAh).mono ?_
  rintro e w2 ⟨rfl, hb2⟩
  refine hK _ _ ⟨(hb2.block n0 (by have := (unhide H1).2.2.2.2; show n0 < W1.heap.size; omega)).trans (unhide H1).2.2.1, trivial⟩ ?_
  clear hK hHeld
  have HB2 : Hid (Below W1.heap.size W1 w2) := (Below.refl W1.heap.size W1).drew.trans hb2
  clear hb2
  simp only [arr8]
  intro hHeld
  have HHo : Hid (Calls Tryd.prog 57 #[.agg #[PN (lstP hd 0 T), PN (lstP hd 1 T), PN (lstP hd 2 T), PN (lstP hd 3 T), PN (lstP hd 4 T), PN (lstP hd 5 T), PN (lstP hd 6 T), PN (lstP hd 7 T)], .agg #[.int .i32 k.1, .int .i64 k.2]] w2 fun e w' => e = .returned nilP ∧ Grew w2 w') := by
    have h3 := (unhide H1).1.below (unhide HB2)
    obtain ⟨N, hm, hlk⟩ := h3.mem
    have hAB : L = T ++ R := by rw [← unhide HT, ← unhide HR]; exact h3.rise.split _
    have hfst := (hlk 0 (by decide))
    rw [hAB] at hfst
    have hnx : N (lstP hd 0 T) 0 = fstP 0 R := hfst.rest.first
    have hcell := hm.next (q := lstP hd 0 T) (lev := 0) (by rw [hAB]; exact lstP_on _ _) (by decide)
    rw [hnx] at hcell
    cases hRR : R with
    | nil =>
      rw [hRR] at hcell
      exact holder_none (fun j => PN (lstP hd j T)) rfl _ _ hcell
    | cons n r =>
      have hn : n ∈ L := by rw [hAB, hRR]; simp
      rw [hRR, fstP, if_pos (by have := (h3.ok n hn).h; omega)] at hcell
      have := holder_some (fun j => PN (lstP hd j T)) rfl k.1 k.2 n (N n.p) hcell (hm.node n hn)
      rw [if_neg (unhide HNK n (by rw [hRR]; simp))] at this
      exact this
  refine wpAnyH_ready (rs := [4]) (by kernel_rfl) (by simp) ?_
  refine AllReadyH.cons rfl (fun K hK => ?_) AllReadyH.nil
  go_simp
  refine (unhide HHo).mono ?_
  rintro e w3 ⟨rfl, hg3⟩
  refine hK _ _ ⟨(((unhide HB2).trans (hg3.below.mono (unhide HB2).size)).block n0 (by have := (unhide H1).2.2.2.2; omega)).trans (unhide H1).2.2.1, trivial⟩ ?_
  clear hK hHeld
  have HB3 : Hid (Below W1.heap.size W1 w3) := (unhide HB2).trans (hg3.below.mono (unhide HB2).size)
  clear hg3
  intro hHeld
  refine wpAnyH_take (i := 5) (v := ?v4x5) rfl (by kernel_rfl) (by kernel_rfl) (by kernel_rfl) (fun _ _ _ h => h) (Or.inl ⟨by rfl, ?hy4x5⟩) (by assumption) ?rest4x5
  case hy4x5 => intro w hSw; go_simp <;> with_reducible rfl
  simp only [Act.put, List.getElem_toArray, List.getElem_cons_zero, List.getElem_cons_succ, List.setIfInBounds_toArray, List.set_cons_zero, List.set_cons_succ]
  refine wpAnyH_done (by kernel_rfl) ?_ _
  obtain ⟨h1, hB1, kc, kr, hs1⟩ := unhide H1
  have hb3 := unhide HB3
  have h3 := h1.below hb3
  have kr3 : w3.heap[rb]? = some (.cells #[.int .i32 0, .int .i64 0, .int .i64 0, .int .i64 0] 32) := (hb3.block rb (by omega)).trans kr
  have hW3 : Below n0 w w3 := hB1.trans (hb3.mono (by omega))
  have r0 : w3.cell? ⟨rb, 0, none⟩ = some (.int .i32 0) := cell_at kr3
  have r1 : w3.cell? ⟨rb, 1, none⟩ = some (.int .i64 0) := cell_at kr3
  have r2 : w3.cell? ⟨rb, 2, none⟩ = some (.int .i64 0) := cell_at kr3
  have r3 : w3.cell? ⟨rb, 3, none⟩ = some (.int .i64 0) := cell_at kr3
  have f0 : w3.frozen? ⟨rb, 0, none⟩ = false := frozen_of_heap kr3
  have f1 : w3.frozen? ⟨rb, 1, none⟩ = false := frozen_of_heap kr3
  have f2 : w3.frozen? ⟨rb, 2, none⟩ = false := frozen_of_heap kr3
  have f3 : w3.frozen? ⟨rb, 3, none⟩ = false := frozen_of_heap kr3
  have HRR := hide kr3
  have HBB := hide hW3
  clear h1 hB1 kc kr hs1 hb3 h3 kr3 hW3 hHeld
  go_wp2
  have hrow := setrow4 (a := .int .i32 0) (b := .int .i64 0) (c := .int .i64 0) (d := .int .i64 0) (unhide HRR)
  have hup := upd4 (w := w3) (p := rb) (S := fun k => k = rb) (N := w3.heap.size) (.inl rfl) (.int .i32 0) (.int .i64 0) (.int .i64 0) (.int .i64 0)
  obtain ⟨W9, hW9⟩ : ∃ W9, (((w3.setCell ⟨rb, 0, none⟩ (.int .i32 0)).setCell ⟨rb, 1, none⟩ (.int .i64 0)).setCell ⟨rb, 2, none⟩ (.int .i64 0)).setCell ⟨rb, 3, none⟩ (.int .i64 0) = W9 := ⟨_, rfl⟩
  rw [hW9] at hrow hup
  first | rw [hW9] | skip
  clear hW9
  refine bodyPost_ret (results_cell_row_tmp rfl _ _ rb 32 _ (0, 0) _ rfl hrow Tryd.underlying32 rfl (by kernel_rfl)) rfl ?_
  have hbb := unhide HBB
  exact ⟨rfl, hbb.trans ⟨hup.os, hup.tape, hup.output, hup.size, fun k hk => hup.block k (by have := hbb.size; omega) (by omega)⟩⟩

set_option maxHeartbeats 1000000 in
theorem get_has {w : World} {b0 sb hd : Nat} {L T R : List Nd} {luck : Int} {n : Nd} (h : Sk w b0 sb hd L luck) (k : Int × Int) (hT : lo k L = T) (hR : hi k L = n :: R) (hnk : n.k = k) :
    Calls Tryd.prog 20 #[PN sb, .agg #[.int .i32 k.1, .int .i64 k.2]] w fun e w' => e = .returned (.tuple #[.agg #[.int .i32 n.k.1, .int .i64 n.k.2, .int .i64 n.v, .int .i64 n.s], .bool true]) ∧ Below w.heap.size w w' := by
  have hAB : L = T ++ n :: R := by rw [← hT, ← hR]; exact h.rise.split _
  have hn : n ∈ L := by rw [hAB]; simp
  have HX := hide (And.intro hAB (And.intro hn hnk))
  clear hR hnk hAB hn
  obtain ⟨n0, hn0⟩ : ∃ x, w.heap.size = x := ⟨_, rfl⟩
  obtain ⟨rb, hrb⟩ : ∃ x, n0 + 1 = x := ⟨_, rfl⟩
  obtain ⟨W1, hW1⟩ : ∃ W, (w.alloc (.cells #[.int .i32 k.1, .int .i64 k.2] 30)).alloc (.cells #[.int .i32 0, .int .i64 0, .int .i64 0, .int .i64 0] 32) = W := ⟨_, rfl⟩
  have hs1 : W1.heap.size = rb + 1 := by rw [← hW1, ← hrb, ← hn0]; simp
  have hB1 : Below n0 w W1 := by rw [← hW1, ← hn0]; exact ((Below.refl _ _).alloc (Nat.le_refl _) _).alloc (by simp) _
  have h1 : Sk W1 b0 sb hd L luck := h.below (by rw [hn0]; exact hB1)
  have kc : W1.heap[n0]? = some (.cells #[.int .i32 k.1, .int .i64 k.2] 30) := by rw [← hW1, Below.heap_alloc _ _ _ (by simp; omega), ← hn0]; exact heap_new1 _ _
  have kr : W1.heap[rb]? = some (.cells #[.int .i32 0, .int .i64 0, .int .i64 0, .int .i64 0] 32) := by rw [← hW1, ← hrb, ← hn0]; exact heap_new2 _ _ _
  have c0 : W1.cell? ⟨sb, 0, none⟩ = some (PN hd) := by obtain ⟨N, hm, _⟩ := h1.mem; exact cell_at hm.sk
  have HMd := hide (made_yes sb hd W1 c0)
  have HAh := hide (ahead_any h1.drew k.1 k.2)
  rw [show lo (k.1, k.2) L = T from hT] at HAh
  have H1 := hide (And.intro h1 (And.intro hB1 (And.intro kc (And.intro kr hs1))))
  have HT := hide hT
  clear h1 hB1 kc c0 hT hs1 kr h
  rw [hn0]
  go_enter Tryd.func20, Tryd.ntmps20
  go_wp2_with fail
  try rw [hW1]
  refine (unhide HMd).mono ?_
  rintro e w9 ⟨rfl, rfl⟩
  clear hW1
  go_wp2_with fail
  refine wp_region_held_drew (S := fun w' => w'.heap[n0]? = some (.cells #[.int .i32 k.1, .int .i64 k.2] 30) ∧ True) (by kernel_rfl) ⟨(unhide H1).2.2.1, trivial⟩ (fun hHeld => ?_)
  refine wpAnyH_take (i := 0) (v := ?v5x0) rfl (by kernel_rfl) (by kernel_rfl) (by kernel_rfl) (fun _ _ _ h => h) (Or.inl ⟨by rfl, ?hy5x0⟩) (by assumption) ?rest5x0
  case hy5x0 => intro w hSw; go_simp <;> with_reducible rfl
  simp only [Act.put, List.getElem_toArray, List.getElem_cons_zero, List.setIfInBounds_toArray, List.set_cons_zero, List.set_cons_succ]
  refine wpAnyH_take (i := 1) (v := (.agg #[.int .i32 k.1, .int .i64 k.2])) rfl (by kernel_rfl) (by kernel_rfl) (by kernel_rfl) (fun _ _ _ h => h) (Or.inl ⟨by rfl, ?hy6x1⟩) (by assumption) ?rest6x1
  case hy6x1 => intro w hSw; have q0 : w.cell? ⟨n0, 0, none⟩ = some (.int .i32 k.1) := cell_at hSw.1; have q1 : w.cell? ⟨n0, 1, none⟩ = some (.int .i64 k.2) := cell_at hSw.1; go_simp <;> with_reducible rfl
  simp only [Act.put, List.getElem_toArray, List.getElem_cons_zero, List.getElem_cons_succ, List.setIfInBounds_toArray, List.set_cons_zero, List.set_cons_succ]
  refine wpAnyH_take (i := 3) (v := (.agg #[.int .i32 k.1, .int .i64 k.2])) rfl (by kernel_rfl) (by kernel_rfl) (by kernel_rfl) (fun _ _ _ h => h) (Or.inl ⟨by rfl, ?hy7x3⟩) (by assumption) ?rest7x3
  case hy7x3 => intro w hSw; have q0 : w.cell? ⟨n0, 0, none⟩ = some (.int .i32 k.1) := cell_at hSw.1; have q1 : w.cell? ⟨n0, 1, none⟩ = some (.int .i64 k.2) := cell_at hSw.1; go_simp <;> with_reducible rfl
  simp only [Act.put, List.getElem_toArray, List.getElem_cons_zero, List.getElem_cons_succ, List.setIfInBounds_toArray, List.set_cons_zero, List.set_cons_succ]
  refine wpAnyH_ready (rs := [2]) (by kernel_rfl) (by simp) ?_
  refine AllReadyH.cons rfl (fun K hK => ?_) AllReadyH.nil
  go_simp
  refine (unhide HAh).mono ?_
  rintro e w2 ⟨rfl, hb2⟩
  refine hK _ _ ⟨(hb2.block n0 (by have := (unhide H1).2.2.2.2; show n0 < W1.heap.size; omega)).trans (unhide H1).2.2.1, trivial⟩ ?_
  clear hK hHeld
  have HB2 : Hid (Below W1.heap.size W1 w2) := (Below.refl W1.heap.size W1).drew.trans hb2
  clear hb2
  simp only [arr8]
  intro hHeld
  have HHo : Hid (Calls Tryd.prog 57 #[.agg #[PN (lstP hd 0 T), PN (lstP hd 1 T), PN (lstP hd 2 T), PN (lstP hd 3 T), PN (lstP hd 4 T), PN (lstP hd 5 T), PN (lstP hd 6 T), PN (lstP hd 7 T)], .agg #[.int .i32 k.1, .int .i64 k.2]] w2 fun e w' => e = .returned (PN n.p) ∧ Grew w2 w') := by
    have h3 := (unhide H1).1.below (unhide HB2)
    obtain ⟨hAB, hn, hk⟩ := unhide HX
    obtain ⟨N, hm, hlk⟩ := h3.mem
    have hfst := (hlk 0 (by decide))
    rw [hAB] at hfst
    have hnx : N (lstP hd 0 T) 0 = fstP 0 (n :: R) := hfst.rest.first
    have hcell := hm.next (q := lstP hd 0 T) (lev := 0) (by rw [hAB]; exact lstP_on _ _) (by decide)
    rw [hnx, fstP, if_pos (by have := (h3.ok n hn).h; omega)] at hcell
    have := holder_some (fun j => PN (lstP hd j T)) rfl k.1 k.2 n (N n.p) hcell (hm.node n hn)
    rw [if_pos hk] at this
    exact this
  refine wpAnyH_ready (rs := [4]) (by kernel_rfl) (by simp) ?_
  refine AllReadyH.cons rfl (fun K hK => ?_) AllReadyH.nil
  go_simp
  refine (unhide HHo).mono ?_
  rintro e w3 ⟨rfl, hg3⟩
  refine hK _ _ ⟨(((unhide HB2).trans (hg3.below.mono (unhide HB2).size)).block n0 (by have := (unhide H1).2.2.2.2; omega)).trans (unhide H1).2.2.1, trivial⟩ ?_
  clear hK hHeld
  have HB3 : Hid (Below W1.heap.size W1 w3) := (unhide HB2).trans (hg3.below.mono (unhide HB2).size)
  clear hg3
  intro hHeld
  refine wpAnyH_take (i := 5) (v := ?v8x5) rfl (by kernel_rfl) (by kernel_rfl) (by kernel_rfl) (fun _ _ _ h => h) (Or.inl ⟨by rfl, ?hy8x5⟩) (by assumption) ?rest8x5
  case hy8x5 => intro w hSw; go_simp <;> with_reducible rfl
  simp only [Act.put, List.getElem_toArray, List.getElem_cons_zero, List.getElem_cons_succ, List.setIfInBounds_toArray, List.set_cons_zero, List.set_cons_succ]
  refine wpAnyH_done (by kernel_rfl) ?_ _
  obtain ⟨h1, hB1, kc, kr, hs1⟩ := unhide H1
  have hb3 := unhide HB3
  have h3 := h1.below hb3
  have kr3 : w3.heap[rb]? = some (.cells #[.int .i32 0, .int .i64 0, .int .i64 0, .int .i64 0] 32) := (hb3.block rb (by omega)).trans kr
  have hW3 : Below n0 w w3 := hB1.trans (hb3.mono (by omega))
  have r0 : w3.cell? ⟨rb, 0, none⟩ = some (.int .i32 0) := cell_at kr3
  have r1 : w3.cell? ⟨rb, 1, none⟩ = some (.int .i64 0) := cell_at kr3
  have r2 : w3.cell? ⟨rb, 2, none⟩ = some (.int .i64 0) := cell_at kr3
  have r3 : w3.cell? ⟨rb, 3, none⟩ = some (.int .i64 0) := cell_at kr3
  have f0 : w3.frozen? ⟨rb, 0, none⟩ = false := frozen_of_heap kr3
  have f1 : w3.frozen? ⟨rb, 1, none⟩ = false := frozen_of_heap kr3
  have f2 : w3.frozen? ⟨rb, 2, none⟩ = false := frozen_of_heap kr3
  have f3 : w3.frozen? ⟨rb, 3, none⟩ = false := frozen_of_heap kr3
  obtain ⟨N, hm, _⟩ := h3.mem
  have hn3 := hm.node n (unhide HX).2.1
  have e0 : w3.cell? ⟨n.p, 0, none⟩ = some (.int .i32 n.k.1) := cell_at hn3
  have e1 : w3.cell? ⟨n.p, 1, none⟩ = some (.int .i64 n.k.2) := cell_at hn3
  have e2 : w3.cell? ⟨n.p, 2, none⟩ = some (.int .i64 n.v) := cell_at hn3
  have e3 : w3.cell? ⟨n.p, 3, none⟩ = some (.int .i64 n.s) := cell_at hn3
  have HRR := hide kr3
  have HBB := hide hW3
  clear h1 hB1 kc kr hs1 hb3 h3 kr3 hW3 hm hn3 hHeld
  go_wp2
  have hrow := setrow4 (a := .int .i32 n.k.1) (b := .int .i64 n.k.2) (c := .int .i64 n.v) (d := .int .i64 n.s) (unhide HRR)
  have hup := upd4 (w := w3) (p := rb) (S := fun k => k = rb) (N := w3.heap.size) (.inl rfl) (.int .i32 n.k.1) (.int .i64 n.k.2) (.int .i64 n.v) (.int .i64 n.s)
  obtain ⟨W9, hW9⟩ : ∃ W9, (((w3.setCell ⟨rb, 0, none⟩ (.int .i32 n.k.1)).setCell ⟨rb, 1, none⟩ (.int .i64 n.k.2)).setCell ⟨rb, 2, none⟩ (.int .i64 n.v)).setCell ⟨rb, 3, none⟩ (.int .i64 n.s) = W9 := ⟨_, rfl⟩
  rw [hW9] at hrow hup
  first | rw [hW9] | skip
  clear hW9
  refine bodyPost_ret (results_cell_row_tmp rfl _ _ rb 32 _ (0, 0) _ rfl hrow Tryd.underlying32 rfl (by kernel_rfl)) rfl ?_
  have hbb := unhide HBB
  exact ⟨rfl, hbb.trans ⟨hup.os, hup.tape, hup.output, hup.size, fun k hk => hup.block k (by have := hbb.size; omega) (by omega)⟩⟩

theorem len_any {w : World} {b0 sb hd : Nat} {L : List Nd} {luck : Int} (h : Sk w b0 sb hd L luck) : Calls Tryd.prog 21 #[PN sb] w fun e w' => e = .returned (.int .i64 (L.length : Int)) ∧ w = w' := by
  obtain ⟨N, hm, _⟩ := h.mem
  have c0 : w.cell? ⟨sb, 0, none⟩ = some (PN hd) := cell_at hm.sk
  have c9 : w.cell? ⟨sb, 9, none⟩ = some (.int .i64 (L.length : Int)) := cell_at hm.sk
  obtain ⟨c, hc⟩ : ∃ c : Int, (L.length : Int) = c := ⟨_, rfl⟩
  rw [hc] at c9 ⊢
  have HM := hide (made_yes sb hd w c0)
  clear h hm hc
  go_enter Tryd.func21, Tryd.ntmps21
  go_wp2_with fail
  refine (unhide HM).mono ?_
  rintro e w9 ⟨rfl, rfl⟩
  go_wp2
  go_ret
  exact ⟨rfl, rfl⟩
end Go.Proofs.YtdcmkapfcmibeaaDoor
