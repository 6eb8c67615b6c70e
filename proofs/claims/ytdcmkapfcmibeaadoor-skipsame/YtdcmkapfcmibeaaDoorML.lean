/- Erase. -/
import Derived.Test.YtdcmkapfcmibeaaDoorMK
namespace Go.Proofs.YtdcmkapfcmibeaaDoor
open Go.RowKit Go.Shelf
attribute [local go_sem] Oper.semAt_some
set_option maxRecDepth 100000

set_option maxHeartbeats 1000000 in
theorem erase_none {w : World} {b0 sb hd : Nat} {L T R : List Nd} {luck : Int} (h : Sk w b0 sb hd L luck) (k : Int × Int) (hT : lo k L = T) (hR : hi k L = R) (hnk : ∀ n ∈ R, n.k ≠ k) :
    Calls Tryd.prog 18 #[PN sb, .agg #[.int .i32 k.1, .int .i64 k.2]] w fun e w' => e = .returned (.int .i64 4) ∧ Below w.heap.size w w' := by
  have HR := hide hR
  have HNK := hide hnk
  clear hR hnk
  obtain ⟨W1, hW1⟩ : ∃ W, w.alloc (.cells #[.int .i32 k.1, .int .i64 k.2] 30) = W := ⟨_, rfl⟩
  obtain ⟨n0, hn0⟩ : ∃ x, w.heap.size = x := ⟨_, rfl⟩
  have hs1 : W1.heap.size = n0 + 1 := by rw [← hW1, ← hn0]; simp
  have hB1 : Below n0 w W1 := by rw [← hW1, ← hn0]; exact (Below.refl _ _).alloc (Nat.le_refl _) _
  have h1 : Sk W1 b0 sb hd L luck := h.below (by rw [hn0]; exact hB1)
  have kc : W1.heap[n0]? = some (.cells #[.int .i32 k.1, .int .i64 k.2] 30) := by rw [← hW1, ← hn0]; exact heap_new1 _ _
  have c0 : W1.cell? ⟨sb, 0, none⟩ = some (PN hd) := by obtain ⟨N, hm, _⟩ := h1.mem; exact cell_at hm.sk
  have kc0 : W1.cell? ⟨n0, 0, none⟩ = some (.int .i32 k.1) := cell_at kc
  have kc1 : W1.cell? ⟨n0, 1, none⟩ = some (.int .i64 k.2) := cell_at kc
  have HMd := hide (made_yes sb hd W1 c0)
  have HAh := hide (ahead_any h1 k.1 k.2)
  rw [show lo (k.1, k.2) L = T from hT] at HAh
  have H1 := hide (And.intro h1 (And.intro hB1 (And.intro kc hs1)))
  have HT := hide hT
  clear h1 hB1 kc c0 hT hs1
  rw [hn0]
  have H0 := hide h
  clear h
  go_enter Tryd.func18, Tryd.ntmps18
  go_wp2_with fail
  try rw [hW1]
  refine (unhide HMd).mono ?_
  rintro e w9 ⟨rfl, rfl⟩
  clear hW1
  go_wp2_with fail
  refine (unhide HAh).mono ?_
  rintro e w2 ⟨rfl, hb2⟩
  obtain ⟨h1, hB1, kc, hs1⟩ := unhide H1
  have hW2 : Below n0 w w2 := hB1.trans (hb2.mono (by omega))
  have kc2 : w2.heap[n0]? = some (.cells #[.int .i32 k.1, .int .i64 k.2] 30) := (hb2.block n0 (by omega)).trans kc
  have h2 : Sk w2 b0 sb hd L luck := h1.below hb2
  obtain ⟨w3, hw3⟩ : ∃ W, w2.alloc (.cells #[PN (lstP hd 0 T), PN (lstP hd 1 T), PN (lstP hd 2 T), PN (lstP hd 3 T), PN (lstP hd 4 T), PN (lstP hd 5 T), PN (lstP hd 6 T), PN (lstP hd 7 T)] 73) = W := ⟨_, rfl⟩
  obtain ⟨ab, hab⟩ : ∃ x, w2.heap.size = x := ⟨_, rfl⟩
  have hB3 : Below ab w2 w3 := by rw [← hw3, ← hab]; exact (Below.refl _ _).alloc (Nat.le_refl _) _
  have hs3 : w3.heap.size = ab + 1 := by rw [← hw3, ← hab]; simp
  have hn2 : n0 < ab := by rw [← hab]; exact (Array.getElem?_eq_some_iff.1 kc2).1
  have kc3' : w3.heap[n0]? = some (.cells #[.int .i32 k.1, .int .i64 k.2] 30) := (hB3.block n0 hn2).trans kc2
  have ka3 : w3.heap[ab]? = some (.cells (arr8 fun lev => PN (lstP hd lev T)) 73) := by rw [← hw3, ← hab]; exact heap_new1 _ _
  have h3 : Sk w3 b0 sb hd L luck := h2.below (by rw [hab]; exact hB3)
  have hW3 : Below n0 w w3 := hW2.trans (hB3.mono (by omega))
  have d0 : w3.cell? ⟨n0, 0, none⟩ = some (.int .i32 k.1) := cell_at kc3'
  have d1 : w3.cell? ⟨n0, 1, none⟩ = some (.int .i64 k.2) := cell_at kc3'
  have a0 : w3.cell? ⟨ab, 0, none⟩ = some (PN (lstP hd 0 T)) := cell_at ka3
  have a1 : w3.cell? ⟨ab, 1, none⟩ = some (PN (lstP hd 1 T)) := cell_at ka3
  have a2 : w3.cell? ⟨ab, 2, none⟩ = some (PN (lstP hd 2 T)) := cell_at ka3
  have a3 : w3.cell? ⟨ab, 3, none⟩ = some (PN (lstP hd 3 T)) := cell_at ka3
  have a4 : w3.cell? ⟨ab, 4, none⟩ = some (PN (lstP hd 4 T)) := cell_at ka3
  have a5 : w3.cell? ⟨ab, 5, none⟩ = some (PN (lstP hd 5 T)) := cell_at ka3
  have a6 : w3.cell? ⟨ab, 6, none⟩ = some (PN (lstP hd 6 T)) := cell_at ka3
  have a7 : w3.cell? ⟨ab, 7, none⟩ = some (PN (lstP hd 7 T)) := cell_at ka3
  have H3 := hide (And.intro h3 (And.intro hW3 (And.intro kc3' (And.intro ka3 (And.intro hs3 hn2)))))
  clear h1 hB1 kc hs1 hW2 kc2 h2 hB3 hn2 hb2 kc0 kc1
  simp only [arr8]
  -- none holds the key
  have HHo : Hid (Calls Tryd.prog 57 #[.agg #[PN (lstP hd 0 T), PN (lstP hd 1 T), PN (lstP hd 2 T), PN (lstP hd 3 T), PN (lstP hd 4 T), PN (lstP hd 5 T), PN (lstP hd 6 T), PN (lstP hd 7 T)], .agg #[.int .i32 k.1, .int .i64 k.2]] w3 fun e w' => e = .returned nilP ∧ Grew w3 w') := by
    obtain ⟨N, hm, hlk⟩ := h3.mem
    have hAB : L = T ++ R := by rw [← unhide HT, ← unhide HR]; exact h3.rise.split _
    have hfst := (hlk 0 (by decide))
    rw [hAB] at hfst
    have hnx : N (lstP hd 0 T) 0 = fstP 0 R := hfst.rest.first
    have hcell := hm.next (q := lstP hd 0 T) (lev := 0) (by rw [hAB]; exact lstP_on _ _) (by decide)
    rw [hnx] at hcell
    cases hRR : R with
    | nil =>
      rw [hRR] at hcell
      exact holder_none (fun j => PN (lstP hd j T)) rfl _ _ hcell
    | cons n r =>
      have hn : n ∈ L := by rw [hAB, hRR]; simp
      rw [hRR, fstP, if_pos (by have := (h3.ok n hn).h; omega)] at hcell
      have := holder_some (fun j => PN (lstP hd j T)) rfl k.1 k.2 n (N n.p) hcell (hm.node n hn)
      rw [if_neg (unhide HNK n (by rw [hRR]; simp))] at this
      exact this
  clear h3 hW3 kc3' ka3 hs3
  go_wp2_with fail
  refine (unhide HHo).mono ?_
  rintro e w4 ⟨rfl, hg4⟩
  obtain ⟨h3, hW3, kc3', ka3, hs3, hn2⟩ := unhide H3
  have hb4 := hg4.below
  have h4 : Sk w4 b0 sb hd L luck := h3.below hb4
  have hW4 : Below n0 w w4 := hW3.trans (hb4.mono (by omega))
  have kc4 : w4.heap[n0]? = some (.cells #[.int .i32 k.1, .int .i64 k.2] 30) := (hb4.block n0 (by omega)).trans kc3'
  have ka4 : w4.heap[ab]? = some (.cells (arr8 fun lev => PN (lstP hd lev T)) 73) := (hb4.block ab (by omega)).trans ka3
  clear h3 hW3 kc3' ka3 hs3 hg4 hb4 d0 d1 a0 a1 a2 a3 a4 a5 a6 a7
  have HW := hide hW4
  clear h4 hW4 kc4 ka4
  go_wp2
  go_ret
  exact ⟨rfl, unhide HW⟩

set_option maxHeartbeats 1000000 in
theorem erase_has {w : World} {b0 sb hd : Nat} {L T R : List Nd} {luck : Int} {n : Nd} (h : Sk w b0 sb hd L luck) (k : Int × Int) (hT : lo k L = T) (hR : hi k L = n :: R) (hnk : n.k = k) :
    Calls Tryd.prog 18 #[PN sb, .agg #[.int .i32 k.1, .int .i64 k.2]] w fun e w' => e = .returned (.int .i64 0) ∧ Sk w' b0 sb hd (T ++ R) luck ∧ Upd (Bl sb hd L) w.heap.size w w' := by
  have hAB : L = T ++ n :: R := by rw [← hT, ← hR]; exact h.rise.split _
  have hn : n ∈ L := by rw [hAB]; simp
  have HX := hide (And.intro hAB (And.intro hn hnk))
  clear hR hAB hn hnk
  obtain ⟨W1, hW1⟩ : ∃ W, w.alloc (.cells #[.int .i32 k.1, .int .i64 k.2] 30) = W := ⟨_, rfl⟩
  obtain ⟨n0, hn0⟩ : ∃ x, w.heap.size = x := ⟨_, rfl⟩
  have hs1 : W1.heap.size = n0 + 1 := by rw [← hW1, ← hn0]; simp
  have hB1 : Below n0 w W1 := by rw [← hW1, ← hn0]; exact (Below.refl _ _).alloc (Nat.le_refl _) _
  have h1 : Sk W1 b0 sb hd L luck := h.below (by rw [hn0]; exact hB1)
  have kc : W1.heap[n0]? = some (.cells #[.int .i32 k.1, .int .i64 k.2] 30) := by rw [← hW1, ← hn0]; exact heap_new1 _ _
  have c0 : W1.cell? ⟨sb, 0, none⟩ = some (PN hd) := by obtain ⟨N, hm, _⟩ := h1.mem; exact cell_at hm.sk
  have kc0 : W1.cell? ⟨n0, 0, none⟩ = some (.int .i32 k.1) := cell_at kc
  have kc1 : W1.cell? ⟨n0, 1, none⟩ = some (.int .i64 k.2) := cell_at kc
  have HMd := hide (made_yes sb hd W1 c0)
  have HAh := hide (ahead_any h1 k.1 k.2)
  rw [show lo (k.1, k.2) L = T from hT] at HAh
  have H1 := hide (And.intro h1 (And.intro hB1 (And.intro kc hs1)))
  have HT := hide hT
  clear h1 hB1 kc c0 hT hs1
  rw [hn0]
  have H0 := hide h
  clear h
  go_enter Tryd.func18, Tryd.ntmps18
  go_wp2_with fail
  try rw [hW1]
  refine (unhide HMd).mono ?_
  rintro e w9 ⟨rfl, rfl⟩
  clear hW1
  go_wp2_with fail
  refine (unhide HAh).mono ?_
  rintro e w2 ⟨rfl, hb2⟩
  obtain ⟨h1, hB1, kc, hs1⟩ := unhide H1
  have hW2 : Below n0 w w2 := hB1.trans (hb2.mono (by omega))
  have kc2 : w2.heap[n0]? = some (.cells #[.int .i32 k.1, .int .i64 k.2] 30) := (hb2.block n0 (by omega)).trans kc
  have h2 : Sk w2 b0 sb hd L luck := h1.below hb2
  obtain ⟨w3, hw3⟩ : ∃ W, w2.alloc (.cells #[PN (lstP hd 0 T), PN (lstP hd 1 T), PN (lstP hd 2 T), PN (lstP hd 3 T), PN (lstP hd 4 T), PN (lstP hd 5 T), PN (lstP hd 6 T), PN (lstP hd 7 T)] 73) = W := ⟨_, rfl⟩
  obtain ⟨ab, hab⟩ : ∃ x, w2.heap.size = x := ⟨_, rfl⟩
  have hB3 : Below ab w2 w3 := by rw [← hw3, ← hab]; exact (Below.refl _ _).alloc (Nat.le_refl _) _
  have hs3 : w3.heap.size = ab + 1 := by rw [← hw3, ← hab]; simp
  have hn2 : n0 < ab := by rw [← hab]; exact (Array.getElem?_eq_some_iff.1 kc2).1
  have kc3' : w3.heap[n0]? = some (.cells #[.int .i32 k.1, .int .i64 k.2] 30) := (hB3.block n0 hn2).trans kc2
  have ka3 : w3.heap[ab]? = some (.cells (arr8 fun lev => PN (lstP hd lev T)) 73) := by rw [← hw3, ← hab]; exact heap_new1 _ _
  have h3 : Sk w3 b0 sb hd L luck := h2.below (by rw [hab]; exact hB3)
  have hW3 : Below n0 w w3 := hW2.trans (hB3.mono (by omega))
  have d0 : w3.cell? ⟨n0, 0, none⟩ = some (.int .i32 k.1) := cell_at kc3'
  have d1 : w3.cell? ⟨n0, 1, none⟩ = some (.int .i64 k.2) := cell_at kc3'
  have a0 : w3.cell? ⟨ab, 0, none⟩ = some (PN (lstP hd 0 T)) := cell_at ka3
  have a1 : w3.cell? ⟨ab, 1, none⟩ = some (PN (lstP hd 1 T)) := cell_at ka3
  have a2 : w3.cell? ⟨ab, 2, none⟩ = some (PN (lstP hd 2 T)) := cell_at ka3
  have a3 : w3.cell? ⟨ab, 3, none⟩ = some (PN (lstP hd 3 T)) := cell_at ka3
  have a4 : w3.cell? ⟨ab, 4, none⟩ = some (PN (lstP hd 4 T)) := cell_at ka3
  have a5 : w3.cell? ⟨ab, 5, none⟩ = some (PN (lstP hd 5 T)) := cell_at ka3
  have a6 : w3.cell? ⟨ab, 6, none⟩ = some (PN (lstP hd 6 T)) := cell_at ka3
  have a7 : w3.cell? ⟨ab, 7, none⟩ = some (PN (lstP hd 7 T)) := cell_at ka3
  have H3 := hide (And.intro h3 (And.intro hW3 (And.intro kc3' (And.intro ka3 (And.intro hs3 hn2)))))
  clear h1 hB1 kc hs1 hW2 kc2 h2 hB3 hn2 hb2 kc0 kc1
  simp only [arr8]
  have HHo : Hid (Calls Tryd.prog 57 #[.agg #[PN (lstP hd 0 T), PN (lstP hd 1 T), PN (lstP hd 2 T), PN (lstP hd 3 T), PN (lstP hd 4 T), PN (lstP hd 5 T), PN (lstP hd 6 T), PN (lstP hd 7 T)], .agg #[.int .i32 k.1, .int .i64 k.2]] w3 fun e w' => e = .returned (PN n.p) ∧ Grew w3 w') := by
    obtain ⟨hAB, hn, hk⟩ := unhide HX
    obtain ⟨N, hm, hlk⟩ := h3.mem
    have hfst := (hlk 0 (by decide))
    rw [hAB] at hfst
    have hnx : N (lstP hd 0 T) 0 = fstP 0 (n :: R) := hfst.rest.first
    have hcell := hm.next (q := lstP hd 0 T) (lev := 0) (by rw [hAB]; exact lstP_on _ _) (by decide)
    rw [hnx, fstP, if_pos (by have := (h3.ok n hn).h; omega)] at hcell
    have := holder_some (fun j => PN (lstP hd j T)) rfl k.1 k.2 n (N n.p) hcell (hm.node n hn)
    rw [if_pos hk] at this
    exact this
  clear h3 hW3 kc3' ka3 hs3
  go_wp2_with fail
  refine (unhide HHo).mono ?_
  rintro e w4 ⟨rfl, hg4⟩
  obtain ⟨h3, hW3, kc3', ka3, hs3, hn2⟩ := unhide H3
  have hb4 := hg4.below
  have h4 : Sk w4 b0 sb hd L luck := h3.below hb4
  have hW4 : Below n0 w w4 := hW3.trans (hb4.mono (by omega))
  have kc4 : w4.heap[n0]? = some (.cells #[.int .i32 k.1, .int .i64 k.2] 30) := (hb4.block n0 (by omega)).trans kc3'
  have ka4 : w4.heap[ab]? = some (.cells (arr8 fun lev => PN (lstP hd lev T)) 73) := (hb4.block ab (by omega)).trans ka3
  clear h3 hW3 kc3' ka3 hs3 hg4 hb4 d0 d1 a0 a1 a2 a3 a4 a5 a6 a7
  have HRM : Hid (Calls Tryd.prog 58 #[PN sb, .agg #[PN (lstP hd 0 T), PN (lstP hd 1 T), PN (lstP hd 2 T), PN (lstP hd 3 T), PN (lstP hd 4 T), PN (lstP hd 5 T), PN (lstP hd 6 T), PN (lstP hd 7 T)], PN n.p] w4 fun e w' => e = .returned (.tuple #[]) ∧ Sk w' b0 sb hd (T ++ R) luck ∧ Upd (Bl sb hd L) w4.heap.size w4 w') := by
    have hAB := (unhide HX).1
    rw [hAB] at h4 ⊢
    exact remove_any h4
  have a0 : w4.cell? ⟨ab, 0, none⟩ = some (PN (lstP hd 0 T)) := cell_at ka4
  have a1 : w4.cell? ⟨ab, 1, none⟩ = some (PN (lstP hd 1 T)) := cell_at ka4
  have a2 : w4.cell? ⟨ab, 2, none⟩ = some (PN (lstP hd 2 T)) := cell_at ka4
  have a3 : w4.cell? ⟨ab, 3, none⟩ = some (PN (lstP hd 3 T)) := cell_at ka4
  have a4 : w4.cell? ⟨ab, 4, none⟩ = some (PN (lstP hd 4 T)) := cell_at ka4
  have a5 : w4.cell? ⟨ab, 5, none⟩ = some (PN (lstP hd 5 T)) := cell_at ka4
  have a6 : w4.cell? ⟨ab, 6, none⟩ = some (PN (lstP hd 6 T)) := cell_at ka4
  have a7 : w4.cell? ⟨ab, 7, none⟩ = some (PN (lstP hd 7 T)) := cell_at ka4
  have H4 := hide (And.intro hW4 (And.intro hn2 ka4))
  clear h4 hW4 kc4 ka4 hn2
  go_wp2_with fail
  refine (unhide HRM).mono ?_
  rintro e w5 ⟨rfl, h5, hU5⟩
  have H5 := hide (And.intro h5 hU5)
  clear h5 hU5 a0 a1 a2 a3 a4 a5 a6 a7
  go_wp2
  go_ret
  obtain ⟨h5, hU5⟩ := unhide H5
  obtain ⟨hW4, hn2, ka4⟩ := unhide H4
  have hl4 := (Array.getElem?_eq_some_iff.1 ka4).1
  exact ⟨rfl, h5, (Upd.of hW4).trans (hU5.less (by omega))⟩
end Go.Proofs.YtdcmkapfcmibeaaDoor
