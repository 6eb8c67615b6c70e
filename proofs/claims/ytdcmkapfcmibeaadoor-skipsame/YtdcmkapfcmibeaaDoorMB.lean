/- Put of a key that is there, and of one that is not. -/
import Derived.Test.YtdcmkapfcmibeaaDoorMA
namespace Go.Proofs.YtdcmkapfcmibeaaDoor
open Go.RowKit Go.Shelf
attribute [local go_sem] Oper.semAt_some
set_option maxRecDepth 100000

theorem lstP_re (q lev : Nat) (A B : List Nd) {n n' : Nd} (hp : n'.p = n.p) (hh : n'.h = n.h) : lstP q lev (A ++ n' :: B) = lstP q lev (A ++ n :: B) := by
  rw [lstP_append, lstP_append, lstP, lstP, hp, hh]
theorem Lk.re {N : Nat → Nat → Value} {lev q : Nat} {A B : List Nd} {n n' : Nd} (hp : n'.p = n.p) (hh : n'.h = n.h) (h : Lk N lev q (A ++ n :: B)) : Lk N lev q (A ++ n' :: B) := by
  induction A generalizing q with
  | nil =>
    rw [List.nil_append, Lk] at h ⊢
    rw [hp, hh]; exact h
  | cons a r ih =>
    rw [List.cons_append, Lk] at h ⊢
    by_cases c : lev < a.h
    · rw [if_pos c] at h ⊢; exact ⟨h.1, ih h.2⟩
    · rw [if_neg c] at h ⊢; exact ⟨h.1, ih h.2⟩
theorem set4 {w : World} {p : Nat} {n : Nd} {N : Nat → Value} (v s : Int) (h : w.heap[p]? = some (.cells (nodeC n N) 85)) : ((((w.setCell ⟨p, 0, none⟩ (.int .i32 n.k.1)).setCell ⟨p, 1, none⟩ (.int .i64 n.k.2)).setCell ⟨p, 2, none⟩ (.int .i64 v)).setCell ⟨p, 3, none⟩ (.int .i64 s)).heap[p]? = some (.cells (nodeC ⟨n.p, n.k, v, s, n.h⟩ N) 85) := by
  have s0 := heap_setCell_same w p 0 _ 85 (.int .i32 n.k.1) h
  have s1 := heap_setCell_same _ p 1 _ 85 (.int .i64 n.k.2) s0
  have s2 := heap_setCell_same _ p 2 _ 85 (.int .i64 v) s1
  have s3 := heap_setCell_same _ p 3 _ 85 (.int .i64 s) s2
  rw [s3]
  simp [nodeC]
theorem upd4 {w : World} {p : Nat} {S : Nat → Prop} {N : Nat} (hS : S p ∨ N ≤ p) (a b c d : Value) : Upd S N w ((((w.setCell ⟨p, 0, none⟩ a).setCell ⟨p, 1, none⟩ b).setCell ⟨p, 2, none⟩ c).setCell ⟨p, 3, none⟩ d) :=
  ((((Upd.refl S N w).setCell (p := ⟨p, 0, none⟩) hS _).setCell (p := ⟨p, 1, none⟩) hS _).setCell (p := ⟨p, 2, none⟩) hS _).setCell (p := ⟨p, 3, none⟩) hS _
/-- A node has another value and another slot. -/
theorem Sk.re {w w' : World} {b0 sb hd : Nat} {A B : List Nd} {n : Nd} {luck : Int} (h : Sk w b0 sb hd (A ++ n :: B) luck) {v s : Int} (hok : OkN ⟨n.p, n.k, v, s, n.h⟩) (hU : Upd (fun k => k = n.p) w.heap.size w w')
    (hn : ∀ N, w.heap[n.p]? = some (.cells (nodeC n N) 85) → w'.heap[n.p]? = some (.cells (nodeC ⟨n.p, n.k, v, s, n.h⟩ N) 85)) : Sk w' b0 sb hd (A ++ ⟨n.p, n.k, v, s, n.h⟩ :: B) luck := by
  obtain ⟨N, hm, hlk⟩ := h.mem
  have hmem : ∀ m ∈ A ++ (⟨n.p, n.k, v, s, n.h⟩ : Nd) :: B, m = ⟨n.p, n.k, v, s, n.h⟩ ∨ (m ∈ A ++ n :: B ∧ m.p ≠ n.p) := fun m hm' => by
    have hnd := h.apart.rest (lev := 0)
    rcases List.mem_append.1 hm' with h1 | h1
    · refine .inr ⟨List.mem_append_left _ h1, fun e => ?_⟩
      have := h.apart
      unfold Apart at this
      rw [List.map_append, ← List.cons_append] at this
      exact (List.nodup_append.1 this).2.2 m.p (List.mem_cons_of_mem _ (List.mem_map.2 ⟨m, h1, rfl⟩)) n.p (by simp) e
    · rcases List.mem_cons.1 h1 with h1 | h1
      · exact .inl h1
      · exact .inr ⟨List.mem_append_right _ (List.mem_cons_of_mem _ h1), hnd.tail.ne h1⟩
  have hnn : n ∈ A ++ n :: B := by simp
  have hlt : ∀ {k}, Bl sb hd (A ++ n :: B) k → k < w.heap.size := fun hk => hm.lt hk
  refine ⟨⟨N, ⟨?_, ?_, fun m hm' => ?_⟩, fun lev hl => Lk.re (n := n) rfl rfl (hlk lev hl)⟩, ?_, ?_, fun m hm' => ?_, by have := h.most; simpa using this, ?_, h.lk⟩
  · have e1 : (fun lev => lstP hd lev (A ++ (⟨n.p, n.k, v, s, n.h⟩ : Nd) :: B)) = fun lev => lstP hd lev (A ++ n :: B) := by funext lev; exact lstP_re hd lev A B rfl rfl
    have e2 : (A ++ (⟨n.p, n.k, v, s, n.h⟩ : Nd) :: B).length = (A ++ n :: B).length := by simp
    rw [e1, e2, hU.block sb (hlt (.inl rfl)) (fun e => hm.ne (.inr ⟨n, hnn, rfl⟩) e.symm)]
    exact hm.sk
  · rw [hU.block hd (hlt (.inr (.inl rfl))) (fun e => h.apart.ne hnn e.symm)]; exact hm.head
  · rcases hmem m hm' with rfl | ⟨h1, h2⟩
    · exact hn _ (hm.node n hnn)
    · rw [hU.block m.p (hlt (.inr (.inr ⟨m, h1, rfl⟩))) h2]; exact hm.node m h1
  · have hr := h.rise
    unfold Rising at hr ⊢
    rw [List.pairwise_append, List.pairwise_cons] at hr ⊢
    exact ⟨hr.1, hr.2.1, fun a ha b hb => by rcases List.mem_cons.1 hb with rfl | hb; exact hr.2.2 a ha n (by simp); exact hr.2.2 a ha b (List.mem_cons_of_mem _ hb)⟩
  · have := h.apart
    unfold Apart at this ⊢
    simpa using this
  · rcases hmem m hm' with rfl | ⟨h1, _⟩
    · exact hok
    · exact h.ok m h1
  · rintro k (rfl | rfl | ⟨m, hm', rfl⟩)
    · exact h.from_ _ (.inl rfl)
    · exact h.from_ _ (.inr (.inl rfl))
    · rcases hmem m hm' with rfl | ⟨h1, _⟩
      · exact h.from_ _ (.inr (.inr ⟨n, hnn, rfl⟩))
      · exact h.from_ _ (.inr (.inr ⟨m, h1, rfl⟩))

set_option maxHeartbeats 1000000 in
theorem put_has {w : World} {b0 sb hd : Nat} {L T R : List Nd} {luck : Int} {n : Nd} (h : Sk w b0 sb hd L luck) (k : Int × Int) (v s : Int) (hs0 : 0 ≤ s) (hs1 : s ≤ 1099511627776) (hv : -9223372036854775808 ≤ v ∧ v ≤ 9223372036854775807) (hT : lo k L = T) (hR : hi k L = n :: R) (hnk : n.k = k) :
    Calls Tryd.prog 19 #[PN sb, .agg #[.int .i32 k.1, .int .i64 k.2, .int .i64 v, .int .i64 s]] w fun e w' => e = .returned (.int .i64 0) ∧ Sk w' b0 sb hd (T ++ ⟨n.p, n.k, v, s, n.h⟩ :: R) luck ∧ Upd (Bl sb hd L) w.heap.size w w' := by
  have hAB : L = T ++ n :: R := by rw [← hT, ← hR]; exact h.rise.split _
  have hn : n ∈ L := by rw [hAB]; simp
  have hokn := h.ok n hn
  have HOK : Hid (OkN ⟨n.p, n.k, v, s, n.h⟩) := ⟨hokn.t, hokn.r, hv, ⟨hs0, hs1⟩, hokn.h⟩
  have hBl : Bl sb hd L n.p := .inr (.inr ⟨n, hn, rfl⟩)
  have hlt : n.p < w.heap.size := h.lt hBl
  subst hnk
  obtain ⟨k, hk⟩ : ∃ k, n.k = k := ⟨_, rfl⟩
  rw [hk] at hT ⊢
  have HR := hide hR
  have HX := hide (And.intro hAB (And.intro hn (And.intro hBl (And.intro hlt hk))))
  have hsa : decide (s < 0) = false := by simp; omega
  have hsb : decide (s > 1099511627776) = false := by simp; omega
  have hsc : decide (1099511627776 < s) = false := by simp; omega
  clear hR hs0 hs1 hAB hn hokn hBl hlt hv hk
  obtain ⟨W1, hW1⟩ : ∃ W, w.alloc (.cells #[.int .i32 k.1, .int .i64 k.2, .int .i64 v, .int .i64 s] 32) = W := ⟨_, rfl⟩
  obtain ⟨n0, hn0⟩ : ∃ x, w.heap.size = x := ⟨_, rfl⟩
  have hs1 : W1.heap.size = n0 + 1 := by rw [← hW1, ← hn0]; simp
  have hB1 : Below n0 w W1 := by rw [← hW1, ← hn0]; exact (Below.refl _ _).alloc (Nat.le_refl _) _
  have h1 : Sk W1 b0 sb hd L luck := h.below (by rw [hn0]; exact hB1)
  have kc : W1.heap[n0]? = some (.cells #[.int .i32 k.1, .int .i64 k.2, .int .i64 v, .int .i64 s] 32) := by rw [← hW1, ← hn0]; exact heap_new1 _ _
  have c0 : W1.cell? ⟨sb, 0, none⟩ = some (PN hd) := by obtain ⟨N, hm, _⟩ := h1.mem; exact cell_at hm.sk
  have kc0 : W1.cell? ⟨n0, 0, none⟩ = some (.int .i32 k.1) := cell_at kc
  have kc1 : W1.cell? ⟨n0, 1, none⟩ = some (.int .i64 k.2) := cell_at kc
  have kc3 : W1.cell? ⟨n0, 3, none⟩ = some (.int .i64 s) := cell_at kc
  have HMd := hide (made_yes sb hd W1 c0)
  have HAh := hide (ahead_any h1 k.1 k.2)
  rw [show lo (k.1, k.2) L = T from hT] at HAh
  have H1 := hide (And.intro h1 (And.intro hB1 (And.intro kc hs1)))
  have HT := hide hT
  clear h1 hB1 kc c0 hT hs1
  rw [hn0]
  have H0 := hide h
  clear h
  go_enter Tryd.func19, Tryd.ntmps19
  go_wp2_with fail
  try rw [hW1]
  refine (unhide HMd).mono ?_
  rintro e w9 ⟨rfl, rfl⟩
  clear hW1
  go_wp2_with fail
  refine (unhide HAh).mono ?_
  rintro e w2 ⟨rfl, hb2⟩
  obtain ⟨h1, hB1, kc, hs1⟩ := unhide H1
  have hW2 : Below n0 w w2 := hB1.trans (hb2.mono (by omega))
  have kc2 : w2.heap[n0]? = some (.cells #[.int .i32 k.1, .int .i64 k.2, .int .i64 v, .int .i64 s] 32) := (hb2.block n0 (by omega)).trans kc
  have h2 : Sk w2 b0 sb hd L luck := h1.below hb2
  obtain ⟨w3, hw3⟩ : ∃ W, w2.alloc (.cells #[PN (lstP hd 0 T), PN (lstP hd 1 T), PN (lstP hd 2 T), PN (lstP hd 3 T), PN (lstP hd 4 T), PN (lstP hd 5 T), PN (lstP hd 6 T), PN (lstP hd 7 T)] 73) = W := ⟨_, rfl⟩
  obtain ⟨ab, hab⟩ : ∃ x, w2.heap.size = x := ⟨_, rfl⟩
  have hB3 : Below ab w2 w3 := by rw [← hw3, ← hab]; exact (Below.refl _ _).alloc (Nat.le_refl _) _
  have hs3 : w3.heap.size = ab + 1 := by rw [← hw3, ← hab]; simp
  have hn2 : n0 < ab := by rw [← hab]; exact (Array.getElem?_eq_some_iff.1 kc2).1
  have kc3' : w3.heap[n0]? = some (.cells #[.int .i32 k.1, .int .i64 k.2, .int .i64 v, .int .i64 s] 32) := (hB3.block n0 hn2).trans kc2
  have ka3 : w3.heap[ab]? = some (.cells (arr8 fun lev => PN (lstP hd lev T)) 73) := by rw [← hw3, ← hab]; exact heap_new1 _ _
  have h3 : Sk w3 b0 sb hd L luck := h2.below (by rw [hab]; exact hB3)
  have hW3 : Below n0 w w3 := hW2.trans (hB3.mono (by omega))
  have d0 : w3.cell? ⟨n0, 0, none⟩ = some (.int .i32 k.1) := cell_at kc3'
  have d1 : w3.cell? ⟨n0, 1, none⟩ = some (.int .i64 k.2) := cell_at kc3'
  have a0 : w3.cell? ⟨ab, 0, none⟩ = some (PN (lstP hd 0 T)) := cell_at ka3
  have a1 : w3.cell? ⟨ab, 1, none⟩ = some (PN (lstP hd 1 T)) := cell_at ka3
  have a2 : w3.cell? ⟨ab, 2, none⟩ = some (PN (lstP hd 2 T)) := cell_at ka3
  have a3 : w3.cell? ⟨ab, 3, none⟩ = some (PN (lstP hd 3 T)) := cell_at ka3
  have a4 : w3.cell? ⟨ab, 4, none⟩ = some (PN (lstP hd 4 T)) := cell_at ka3
  have a5 : w3.cell? ⟨ab, 5, none⟩ = some (PN (lstP hd 5 T)) := cell_at ka3
  have a6 : w3.cell? ⟨ab, 6, none⟩ = some (PN (lstP hd 6 T)) := cell_at ka3
  have a7 : w3.cell? ⟨ab, 7, none⟩ = some (PN (lstP hd 7 T)) := cell_at ka3
  have H3 := hide (And.intro h3 (And.intro hW3 (And.intro kc3' (And.intro ka3 (And.intro hs3 hn2)))))
  clear h1 hB1 kc hs1 hW2 kc2 h2 hB3 hn2 hb2 kc0 kc1 kc3
  simp only [arr8]
  have HHo : Hid (Calls Tryd.prog 57 #[.agg #[PN (lstP hd 0 T), PN (lstP hd 1 T), PN (lstP hd 2 T), PN (lstP hd 3 T), PN (lstP hd 4 T), PN (lstP hd 5 T), PN (lstP hd 6 T), PN (lstP hd 7 T)], .agg #[.int .i32 k.1, .int .i64 k.2]] w3 fun e w' => e = .returned (PN n.p) ∧ Grew w3 w') := by
    obtain ⟨hAB, hn, hBl, hlt, hk⟩ := unhide HX
    obtain ⟨N, hm, hlk⟩ := h3.mem
    have hfst := (hlk 0 (by decide))
    rw [hAB] at hfst
    have hnx : N (lstP hd 0 T) 0 = fstP 0 (n :: R) := hfst.rest.first
    have hcell := hm.next (q := lstP hd 0 T) (lev := 0) (by rw [hAB]; exact lstP_on _ _) (by decide)
    rw [hnx, fstP, if_pos (by have := (h3.ok n hn).h; omega)] at hcell
    have := holder_some (fun j => PN (lstP hd j T)) rfl k.1 k.2 n (N n.p) hcell (hm.node n hn)
    rw [if_pos hk] at this
    exact this
  clear h3 hW3 kc3' ka3 hs3
  go_wp2_with fail
  refine (unhide HHo).mono ?_
  rintro e w4 ⟨rfl, hg4⟩
  obtain ⟨h3, hW3, kc3', ka3, hs3, hn2⟩ := unhide H3
  have hb4 := hg4.below
  have h4 : Sk w4 b0 sb hd L luck := h3.below hb4
  have hW4 : Below n0 w w4 := hW3.trans (hb4.mono (by omega))
  have kc4 : w4.heap[n0]? = some (.cells #[.int .i32 k.1, .int .i64 k.2, .int .i64 v, .int .i64 s] 32) := (hb4.block n0 (by omega)).trans kc3'
  have ka4 : w4.heap[ab]? = some (.cells (arr8 fun lev => PN (lstP hd lev T)) 73) := (hb4.block ab (by omega)).trans ka3
  clear h3 hW3 kc3' ka3 hs3 hg4 hb4 d0 d1 a0 a1 a2 a3 a4 a5 a6 a7
  have HAB := (unhide HX).1
  have hn4 : ∃ N, w4.heap[n.p]? = some (.cells (nodeC n N) 85) := by obtain ⟨N, hm, _⟩ := h4.mem; exact ⟨_, hm.node n (unhide HX).2.1⟩
  obtain ⟨N4, hn4⟩ := hn4
  have e0 : w4.cell? ⟨n.p, 0, none⟩ = some (.int .i32 n.k.1) := cell_at hn4
  have e1 : w4.cell? ⟨n.p, 1, none⟩ = some (.int .i64 n.k.2) := cell_at hn4
  have e2 : w4.cell? ⟨n.p, 2, none⟩ = some (.int .i64 n.v) := cell_at hn4
  have e3 : w4.cell? ⟨n.p, 3, none⟩ = some (.int .i64 n.s) := cell_at hn4
  have g0 : w4.frozen? ⟨n.p, 0, none⟩ = false := frozen_of_heap hn4
  have g1 : w4.frozen? ⟨n.p, 1, none⟩ = false := frozen_of_heap hn4
  have g2 : w4.frozen? ⟨n.p, 2, none⟩ = false := frozen_of_heap hn4
  have g3 : w4.frozen? ⟨n.p, 3, none⟩ = false := frozen_of_heap hn4
  have i0 : w4.cell? ⟨n0, 0, none⟩ = some (.int .i32 k.1) := cell_at kc4
  have i1 : w4.cell? ⟨n0, 1, none⟩ = some (.int .i64 k.2) := cell_at kc4
  have i2 : w4.cell? ⟨n0, 2, none⟩ = some (.int .i64 v) := cell_at kc4
  have i3 : w4.cell? ⟨n0, 3, none⟩ = some (.int .i64 s) := cell_at kc4
  have H4 := hide (And.intro h4 hW4)
  clear h4 hW4 kc4 ka4 HAB
  go_wp2
  go_ret
  obtain ⟨h4, hW4⟩ := unhide H4
  obtain ⟨hAB, hn, hBl, hlt, hk⟩ := unhide HX
  subst hk
  have hu := upd4 (w := w4) (p := n.p) (S := fun k => k = n.p) (N := w4.heap.size) (.inl rfl) (.int .i32 n.k.1) (.int .i64 n.k.2) (.int .i64 v) (.int .i64 s)
  rw [hAB] at h4
  refine ⟨rfl, h4.re (unhide HOK) hu fun N hN => set4 v s hN, ?_⟩
  have hsz := hW4.size
  refine (Upd.of hW4).trans (hu.mono (by omega) fun k _ e => ?_)
  rw [e]; exact hBl

set_option maxHeartbeats 1000000 in
theorem put_new {w : World} {b0 sb hd : Nat} {L T R : List Nd} {luck : Int} (h : Sk w b0 sb hd L luck) (hTab : Tab w) (hb0 : 0 < b0) (k : Int × Int) (v s : Int) (hok : ∀ p h, 1 ≤ h ∧ h ≤ 8 → OkN ⟨p, k, v, s, h⟩) (hT : lo k L = T) (hR : hi k L = R) (hnk : ∀ n ∈ R, n.k ≠ k) (hlen : L.length < 1048576) :
    Calls Tryd.prog 19 #[PN sb, .agg #[.int .i32 k.1, .int .i64 k.2, .int .i64 v, .int .i64 s]] w fun e w' => e = .returned (.int .i64 0) ∧ (∃ p, w.heap.size ≤ p ∧ Sk w' b0 sb hd (T ++ ⟨p, k, v, s, (hgt (nextX luck)).toNat⟩ :: R) (nextX luck)) ∧ Upd (Bl sb hd L) w.heap.size w w' := by
  have hs0 := (hok 0 1 (by omega)).s.1
  have hs1 := (hok 0 1 (by omega)).s.2
  have hs0 : 0 ≤ s := hs0
  have hs1 : s ≤ 1099511627776 := hs1
  have hr := hgt_range (nextX luck)
  obtain ⟨hh, hhh⟩ : ∃ z : Nat, (hgt (nextX luck)).toNat = z := ⟨_, rfl⟩
  have hh' : hgt (nextX luck) = (hh : Int) := by omega
  rw [hhh]
  have HOK := hide (fun p => hok p hh (by omega))
  have HR := hide hR
  have HNK := hide hnk
  have HLE := hide hlen
  have hlt0 : b0 ≤ w.heap.size := by have := h.from_ _ (.inl rfl); have := h.lt (.inl rfl); omega
  have HTB := hide (And.intro hTab (And.intro hb0 hlt0))
  have hsa : decide (s < 0) = false := by simp; omega
  have hsb : decide (s > 1099511627776) = false := by simp; omega
  have hsc : decide (1099511627776 < s) = false := by simp; omega
  clear hR hnk hlen hs0 hs1 hok hTab hb0 hlt0 hr hhh
  obtain ⟨W1, hW1⟩ : ∃ W, w.alloc (.cells #[.int .i32 k.1, .int .i64 k.2, .int .i64 v, .int .i64 s] 32) = W := ⟨_, rfl⟩
  obtain ⟨n0, hn0⟩ : ∃ x, w.heap.size = x := ⟨_, rfl⟩
  have hs1 : W1.heap.size = n0 + 1 := by rw [← hW1, ← hn0]; simp
  have hB1 : Below n0 w W1 := by rw [← hW1, ← hn0]; exact (Below.refl _ _).alloc (Nat.le_refl _) _
  have h1 : Sk W1 b0 sb hd L luck := h.below (by rw [hn0]; exact hB1)
  have kc : W1.heap[n0]? = some (.cells #[.int .i32 k.1, .int .i64 k.2, .int .i64 v, .int .i64 s] 32) := by rw [← hW1, ← hn0]; exact heap_new1 _ _
  have c0 : W1.cell? ⟨sb, 0, none⟩ = some (PN hd) := by obtain ⟨N, hm, _⟩ := h1.mem; exact cell_at hm.sk
  have kc0 : W1.cell? ⟨n0, 0, none⟩ = some (.int .i32 k.1) := cell_at kc
  have kc1 : W1.cell? ⟨n0, 1, none⟩ = some (.int .i64 k.2) := cell_at kc
  have kc3 : W1.cell? ⟨n0, 3, none⟩ = some (.int .i64 s) := cell_at kc
  have HMd := hide (made_yes sb hd W1 c0)
  have HAh := hide (ahead_any h1 k.1 k.2)
  rw [show lo (k.1, k.2) L = T from hT] at HAh
  have H1 := hide (And.intro h1 (And.intro hB1 (And.intro kc hs1)))
  have HT := hide hT
  clear h1 hB1 kc c0 hT hs1
  rw [hn0]
  have H0 := hide h
  clear h
  go_enter Tryd.func19, Tryd.ntmps19
  go_wp2_with fail
  try rw [hW1]
  refine (unhide HMd).mono ?_
  rintro e w9 ⟨rfl, rfl⟩
  clear hW1
  go_wp2_with fail
  refine (unhide HAh).mono ?_
  rintro e w2 ⟨rfl, hb2⟩
  obtain ⟨h1, hB1, kc, hs1⟩ := unhide H1
  have hW2 : Below n0 w w2 := hB1.trans (hb2.mono (by omega))
  have kc2 : w2.heap[n0]? = some (.cells #[.int .i32 k.1, .int .i64 k.2, .int .i64 v, .int .i64 s] 32) := (hb2.block n0 (by omega)).trans kc
  have h2 : Sk w2 b0 sb hd L luck := h1.below hb2
  obtain ⟨w3, hw3⟩ : ∃ W, w2.alloc (.cells #[PN (lstP hd 0 T), PN (lstP hd 1 T), PN (lstP hd 2 T), PN (lstP hd 3 T), PN (lstP hd 4 T), PN (lstP hd 5 T), PN (lstP hd 6 T), PN (lstP hd 7 T)] 73) = W := ⟨_, rfl⟩
  obtain ⟨ab, hab⟩ : ∃ x, w2.heap.size = x := ⟨_, rfl⟩
  have hB3 : Below ab w2 w3 := by rw [← hw3, ← hab]; exact (Below.refl _ _).alloc (Nat.le_refl _) _
  have hs3 : w3.heap.size = ab + 1 := by rw [← hw3, ← hab]; simp
  have hn2 : n0 < ab := by rw [← hab]; exact (Array.getElem?_eq_some_iff.1 kc2).1
  have kc3' : w3.heap[n0]? = some (.cells #[.int .i32 k.1, .int .i64 k.2, .int .i64 v, .int .i64 s] 32) := (hB3.block n0 hn2).trans kc2
  have ka3 : w3.heap[ab]? = some (.cells (arr8 fun lev => PN (lstP hd lev T)) 73) := by rw [← hw3, ← hab]; exact heap_new1 _ _
  have h3 : Sk w3 b0 sb hd L luck := h2.below (by rw [hab]; exact hB3)
  have hW3 : Below n0 w w3 := hW2.trans (hB3.mono (by omega))
  have d0 : w3.cell? ⟨n0, 0, none⟩ = some (.int .i32 k.1) := cell_at kc3'
  have d1 : w3.cell? ⟨n0, 1, none⟩ = some (.int .i64 k.2) := cell_at kc3'
  have a0 : w3.cell? ⟨ab, 0, none⟩ = some (PN (lstP hd 0 T)) := cell_at ka3
  have a1 : w3.cell? ⟨ab, 1, none⟩ = some (PN (lstP hd 1 T)) := cell_at ka3
  have a2 : w3.cell? ⟨ab, 2, none⟩ = some (PN (lstP hd 2 T)) := cell_at ka3
  have a3 : w3.cell? ⟨ab, 3, none⟩ = some (PN (lstP hd 3 T)) := cell_at ka3
  have a4 : w3.cell? ⟨ab, 4, none⟩ = some (PN (lstP hd 4 T)) := cell_at ka3
  have a5 : w3.cell? ⟨ab, 5, none⟩ = some (PN (lstP hd 5 T)) := cell_at ka3
  have a6 : w3.cell? ⟨ab, 6, none⟩ = some (PN (lstP hd 6 T)) := cell_at ka3
  have a7 : w3.cell? ⟨ab, 7, none⟩ = some (PN (lstP hd 7 T)) := cell_at ka3
  have H3 := hide (And.intro h3 (And.intro hW3 (And.intro kc3' (And.intro ka3 (And.intro hs3 hn2)))))
  clear h1 hB1 kc hs1 hW2 kc2 h2 hB3 hn2 hb2 kc0 kc1 kc3
  simp only [arr8]
  -- none holds the key
  have HHo : Hid (Calls Tryd.prog 57 #[.agg #[PN (lstP hd 0 T), PN (lstP hd 1 T), PN (lstP hd 2 T), PN (lstP hd 3 T), PN (lstP hd 4 T), PN (lstP hd 5 T), PN (lstP hd 6 T), PN (lstP hd 7 T)], .agg #[.int .i32 k.1, .int .i64 k.2]] w3 fun e w' => e = .returned nilP ∧ Grew w3 w') := by
    obtain ⟨N, hm, hlk⟩ := h3.mem
    have hAB : L = T ++ R := by rw [← unhide HT, ← unhide HR]; exact h3.rise.split _
    have hfst := (hlk 0 (by decide))
    rw [hAB] at hfst
    have hnx : N (lstP hd 0 T) 0 = fstP 0 R := hfst.rest.first
    have hcell := hm.next (q := lstP hd 0 T) (lev := 0) (by rw [hAB]; exact lstP_on _ _) (by decide)
    rw [hnx] at hcell
    cases hRR : R with
    | nil =>
      rw [hRR] at hcell
      exact holder_none (fun j => PN (lstP hd j T)) rfl _ _ hcell
    | cons n r =>
      have hn : n ∈ L := by rw [hAB, hRR]; simp
      rw [hRR, fstP, if_pos (by have := (h3.ok n hn).h; omega)] at hcell
      have := holder_some (fun j => PN (lstP hd j T)) rfl k.1 k.2 n (N n.p) hcell (hm.node n hn)
      rw [if_neg (unhide HNK n (by rw [hRR]; simp))] at this
      exact this
  clear h3 hW3 kc3' ka3 hs3
  go_wp2_with fail
  refine (unhide HHo).mono ?_
  rintro e w4 ⟨rfl, hg4⟩
  obtain ⟨h3, hW3, kc3', ka3, hs3, hn2⟩ := unhide H3
  have hb4 := hg4.below
  have h4 : Sk w4 b0 sb hd L luck := h3.below hb4
  have hW4 : Below n0 w w4 := hW3.trans (hb4.mono (by omega))
  have kc4 : w4.heap[n0]? = some (.cells #[.int .i32 k.1, .int .i64 k.2, .int .i64 v, .int .i64 s] 32) := (hb4.block n0 (by omega)).trans kc3'
  have ka4 : w4.heap[ab]? = some (.cells (arr8 fun lev => PN (lstP hd lev T)) 73) := (hb4.block ab (by omega)).trans ka3
  clear h3 hW3 kc3' ka3 hs3 hg4 hb4 d0 d1 a0 a1 a2 a3 a4 a5 a6 a7
  obtain ⟨hTab, hb0, hlt0⟩ := unhide HTB
  have hlt1 : 0 < n0 := by omega
  have m9 : ∃ c : Int, w4.cell? ⟨sb, 9, none⟩ = some (.int .i64 c) ∧ (c == 1048576) = false := by
    obtain ⟨N, hm, _⟩ := h4.mem
    exact ⟨_, cell_at (o := 9) hm.sk, by have := unhide HLE; simp; omega⟩
  obtain ⟨c9, m9, hc9⟩ := m9
  have hTab4 : Tab w4.drew := hTab.keep (hW4.block 0 hlt1)
  have HDR := hide (draw_any h4.drew hTab4 hb0)
  rw [hh'] at HDR
  have HS : Hid (w4.heap[ab]? = some (.cells (arr8 fun lev => PN (lstP hd lev T)) 73) ∧ w4.heap[n0]? = some (.cells #[.int .i32 k.1, .int .i64 k.2, .int .i64 v, .int .i64 s] 32)) := ⟨ka4, kc4⟩
  have hablt : ab < w4.heap.size := (Array.getElem?_eq_some_iff.1 ka4).1
  have hBllt : ∀ k, Bl sb hd L k → k < n0 := fun k hk => by rw [← hn0]; exact (unhide H0).lt hk
  have H4 := hide (And.intro h4 (And.intro hW4 (And.intro hn2 (And.intro hablt hBllt))))
  clear h4 hW4 kc4 ka4 hTab hb0 hlt0 hlt1 hTab4 hn2 hablt hBllt
  go_wp2
  clear m9 hc9
  refine wp_region_held_drew (S := fun w' => w'.heap[ab]? = some (.cells (arr8 fun lev => PN (lstP hd lev T)) 73) ∧ w'.heap[n0]? = some (.cells #[.int .i32 k.1, .int .i64 k.2, .int .i64 v, .int .i64 s] 32)) (by kernel_rfl) (unhide HS) (fun hHeld => ?_)
  refine wpAnyH_take (i := 0) (v := ?v1x0) rfl (by kernel_rfl) (by kernel_rfl) (by kernel_rfl) (fun _ _ _ h => h) (Or.inl ⟨by rfl, ?hy1x0⟩) (by assumption) ?rest1x0
  case hy1x0 => intro w hSw; go_simp <;> with_reducible rfl
  simp only [Act.put, List.getElem_toArray, List.getElem_cons_zero, List.setIfInBounds_toArray, List.set_cons_zero, List.set_cons_succ]
  refine wpAnyH_take (i := 1) (v := (.agg #[PN (lstP hd 0 T), PN (lstP hd 1 T), PN (lstP hd 2 T), PN (lstP hd 3 T), PN (lstP hd 4 T), PN (lstP hd 5 T), PN (lstP hd 6 T), PN (lstP hd 7 T)])) rfl (by kernel_rfl) (by kernel_rfl) (by kernel_rfl) (fun _ _ _ h => h) (Or.inl ⟨by rfl, ?hy2x1⟩) (by assumption) ?rest2x1
  case hy2x1 => intro w hSw; have q0 : w.cell? ⟨ab, 0, none⟩ = some (PN (lstP hd 0 T)) := cell_at hSw.1; have q1 : w.cell? ⟨ab, 1, none⟩ = some (PN (lstP hd 1 T)) := cell_at hSw.1; have q2 : w.cell? ⟨ab, 2, none⟩ = some (PN (lstP hd 2 T)) := cell_at hSw.1; have q3 : w.cell? ⟨ab, 3, none⟩ = some (PN (lstP hd 3 T)) := cell_at hSw.1; have q4 : w.cell? ⟨ab, 4, none⟩ = some (PN (lstP hd 4 T)) := cell_at hSw.1; have q5 : w.cell? ⟨ab, 5, none⟩ = some (PN (lstP hd 5 T)) := cell_at hSw.1; have q6 : w.cell? ⟨ab, 6, none⟩ = some (PN (lstP hd 6 T)) := cell_at hSw.1; have q7 : w.cell? ⟨ab, 7, none⟩ = some (PN (lstP hd 7 T)) := cell_at hSw.1; go_simp <;> with_reducible rfl
  simp only [Act.put, List.getElem_toArray, List.getElem_cons_zero, List.getElem_cons_succ, List.setIfInBounds_toArray, List.set_cons_zero, List.set_cons_succ]
  refine wpAnyH_take (i := 2) (v := (.agg #[.int .i32 k.1, .int .i64 k.2, .int .i64 v, .int .i64 s])) rfl (by kernel_rfl) (by kernel_rfl) (by kernel_rfl) (fun _ _ _ h => h) (Or.inl ⟨by rfl, ?hy3x2⟩) (by assumption) ?rest3x2
  case hy3x2 => intro w hSw; have q0 : w.cell? ⟨n0, 0, none⟩ = some (.int .i32 k.1) := cell_at hSw.2; have q1 : w.cell? ⟨n0, 1, none⟩ = some (.int .i64 k.2) := cell_at hSw.2; have q2 : w.cell? ⟨n0, 2, none⟩ = some (.int .i64 v) := cell_at hSw.2; have q3 : w.cell? ⟨n0, 3, none⟩ = some (.int .i64 s) := cell_at hSw.2; go_simp <;> with_reducible rfl
  simp only [Act.put, List.getElem_toArray, List.getElem_cons_zero, List.getElem_cons_succ, List.setIfInBounds_toArray, List.set_cons_zero, List.set_cons_succ]
  refine wpAnyH_take (i := 3) (v := ?v4x3) rfl (by kernel_rfl) (by kernel_rfl) (by kernel_rfl) (fun _ _ _ h => h) (Or.inl ⟨by rfl, ?hy4x3⟩) (by assumption) ?rest4x3
  case hy4x3 => intro w hSw; go_simp <;> with_reducible rfl
  simp only [Act.put, List.getElem_toArray, List.getElem_cons_zero, List.getElem_cons_succ, List.setIfInBounds_toArray, List.set_cons_zero, List.set_cons_succ]
  refine wpAnyH_ready (rs := [4]) (by kernel_rfl) (by simp) ?_
  refine AllReadyH.cons rfl (fun K hK => ?_) AllReadyH.nil
  go_simp
  refine (unhide HDR).mono ?_
  rintro e w5 ⟨rfl, h5, hU5⟩
  refine hK _ _ (by obtain ⟨_, _, hn2, hablt, hBllt⟩ := unhide H4; have := hBllt sb (.inl rfl); exact ⟨(hU5.block ab hablt (by omega)).trans (unhide HS).1, (hU5.block n0 (by show n0 < w4.heap.size; omega) (by omega)).trans (unhide HS).2⟩) ?_
  clear hK hHeld
  have H5 := hide (And.intro h5 hU5)
  have HIN : Hid (Calls Tryd.prog 47 #[PN sb, .agg #[PN (lstP hd 0 T), PN (lstP hd 1 T), PN (lstP hd 2 T), PN (lstP hd 3 T), PN (lstP hd 4 T), PN (lstP hd 5 T), PN (lstP hd 6 T), PN (lstP hd 7 T)], .agg #[.int .i32 k.1, .int .i64 k.2, .int .i64 v, .int .i64 s], .int .i64 hh] w5 fun e w' => e = .returned (.tuple #[]) ∧ Sk w' b0 sb hd (T ++ ⟨w5.heap.size + 2, k, v, s, hh⟩ :: R) (nextX luck) ∧ Upd (Bl sb hd L) w5.heap.size w5 w') := (by have hAB : L = T ++ R := (by rw [← unhide HT, ← unhide HR]; exact h5.rise.split _); have hlen := unhide HLE; rw [hAB] at h5 hlen ⊢; exact insert_any h5 ⟨w5.heap.size + 2, k, v, s, hh⟩ rfl (unhide HOK _) (fun n hn => (lo_below (by rw [unhide HT]; exact hn)).2) (fun n hn => (by by_cases c : ltK k n.k; exact c; exact absurd (ltK_total (hi_above (by rw [unhide HR]; exact hn)).2 c) (unhide HNK n hn))) hlen)
  clear h5 hU5
  intro hHeld
  refine wpAnyH_ready (rs := [5]) (by kernel_rfl) (by simp) ?_
  refine AllReadyH.cons rfl (fun K hK => ?_) AllReadyH.nil
  go_simp
  refine (unhide HIN).mono ?_
  rintro e w6 ⟨rfl, h6, hU6⟩
  refine hK _ _ (by obtain ⟨_, _, hn2, hablt, hBllt⟩ := unhide H4; obtain ⟨h5, hU5⟩ := unhide H5; have hs5 := hU5.size; have hs5' : w4.heap.size ≤ w5.heap.size := hs5; exact ⟨(hU6.block ab (by omega) (fun c => by have := hBllt ab c; omega)).trans ((hU5.block ab hablt (by have := hBllt sb (.inl rfl); omega)).trans (unhide HS).1), (hU6.block n0 (by omega) (fun c => by have := hBllt n0 c; omega)).trans ((hU5.block n0 (by show n0 < w4.heap.size; omega) (by have := hBllt sb (.inl rfl); omega)).trans (unhide HS).2)⟩) ?_
  clear hK hHeld
  have H6 := hide (And.intro h6 hU6)
  clear h6 hU6
  intro hHeld
  refine wpAnyH_done (by kernel_rfl) ?_ _
  go_wp2
  go_ret
  obtain ⟨h6, hU6⟩ := unhide H6
  obtain ⟨h5, hU5⟩ := unhide H5
  obtain ⟨h4, hW4, hn2, hablt, hBllt⟩ := unhide H4
  have hs5 : w4.heap.size ≤ w5.heap.size := hU5.size
  refine ⟨rfl, ⟨_, by omega, h6⟩, (Upd.of hW4).trans (Upd.trans (b := w5) ?_ (hU6.less (by omega)))⟩
  have hsz4 := hW4.size
  have hu := (Upd.refl (Bl sb hd L) n0 w4).drew.trans (hU5.mono (N' := n0) (S' := Bl sb hd L) (by show n0 ≤ w4.heap.size; omega) fun k _ e => .inl e)
  exact hu
end Go.Proofs.YtdcmkapfcmibeaaDoor
