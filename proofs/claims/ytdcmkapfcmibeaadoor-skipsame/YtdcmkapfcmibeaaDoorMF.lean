/- begun. -/
import Derived.Test.YtdcmkapfcmibeaaDoorME
namespace Go.Proofs.YtdcmkapfcmibeaaDoor
open Go.RowKit Go.Shelf
attribute [local go_sem] Oper.semAt_some
set_option maxRecDepth 100000

theorem Sk.frame {w w' : World} {b0 sb hd : Nat} {L : List Nd} {luck : Int} (h : Sk w b0 sb hd L luck) (hU : Upd (Bl sb hd L) w.heap.size w w') : Below b0 w w' :=
  ⟨hU.os, hU.tape, hU.output, hU.size, fun k hk => hU.block k (by have := h.from_ _ (.inl rfl); have := h.lt (.inl rfl); omega) fun c => by have := h.from_ k c; omega⟩
theorem okN_of {k : Int × Int} {v s : Int} (h1 : -2147483648 ≤ k.1 ∧ k.1 ≤ 2147483647) (h2 : -9223372036854775808 ≤ k.2 ∧ k.2 ≤ 9223372036854775807) (h3 : -9223372036854775808 ≤ v ∧ v ≤ 9223372036854775807) (h4 : 0 ≤ s ∧ s ≤ 1099511627776) : ∀ p h, 1 ≤ h ∧ h ≤ 8 → OkN ⟨p, k, v, s, h⟩ := fun _ _ hh => ⟨h1, h2, h3, h4, hh⟩
set_option maxHeartbeats 1000000 in
theorem begun_any (w : World) (hT : Tab w) (hw : 0 < w.heap.size) : Calls Tryd.prog 11 #[] w fun e w' => e = .returned (.bool true) ∧ Below w.heap.size w w' := by
  obtain ⟨n0, hn0⟩ : ∃ x, w.heap.size = x := ⟨_, rfl⟩
  have HN := hide (new_any w 7 n0 (by omega) (by decide))
  rw [hn0] at HN ⊢
  have HT := hide (And.intro hT (show 0 < n0 by omega))
  obtain ⟨sb, hsb⟩ : ∃ x, n0 + 1 = x := ⟨_, rfl⟩
  rw [hsb] at HN
  clear hT hw
  go_enter Tryd.func11, Tryd.ntmps11
  go_wp2_with fail
  refine (unhide HN).mono ?_
  rintro e w1 ⟨rfl, h1, hb1⟩
  obtain ⟨hT, hw⟩ := unhide HT
  have hT1 : Tab w1 := hT.keep (hb1.block 0 hw)
  have HP := hide (put_new h1 hT1 hw (0, 2) 5 1 (okN_of (by decide) (by decide) (by decide) (by decide)) (T := []) (R := []) rfl rfl (fun n hn => by cases hn) (by decide))
  have H1 := hide (And.intro h1 hb1)
  clear h1 hb1 hT hw hT1
  go_wp2_with fail
  refine (unhide HP).mono ?_
  rintro e w2 ⟨rfl, ⟨p1, hp1, h2⟩, hU2⟩
  obtain ⟨hT, hw⟩ := unhide HT
  obtain ⟨h1, hb1⟩ := unhide H1
  rw [List.nil_append] at h2
  obtain ⟨a1, ha1⟩ : ∃ h, (hgt (nextX 7)).toNat = h := ⟨_, rfl⟩
  rw [ha1] at h2
  have hb2 : Below n0 w w2 := hb1.trans (h1.frame hU2)
  have hT2 : Tab w2 := hT.keep (hb2.block 0 hw)
  have elo : lo (0, 1) [(⟨p1, (0, 2), 5, 1, a1⟩ : Nd)] = [] := by simp [lo, ltK]
  have ehi : hi (0, 1) [(⟨p1, (0, 2), 5, 1, a1⟩ : Nd)] = [⟨p1, (0, 2), 5, 1, a1⟩] := by simp [hi, ltK]
  have HP2 := hide (put_new h2 hT2 hw (0, 1) 6 2 (okN_of (by decide) (by decide) (by decide) (by decide)) elo ehi (fun n hn => by rw [List.mem_singleton.1 hn]; simp) (by simp))
  have H2 := hide (And.intro h2 hb2)
  clear h1 hb1 hT hw hT2 h2 hb2 hU2 elo ehi ha1 hp1
  go_wp2_with fail
  refine (unhide HP2).mono ?_
  rintro e w3 ⟨rfl, ⟨p2, hp2, h3⟩, hU3⟩
  obtain ⟨hT, hw⟩ := unhide HT
  obtain ⟨h2, hb2⟩ := unhide H2
  rw [List.nil_append] at h3
  obtain ⟨a2, ha2⟩ : ∃ h, (hgt (nextX (nextX 7))).toNat = h := ⟨_, rfl⟩
  rw [ha2] at h3
  obtain ⟨x2, hx2⟩ : ∃ x, nextX (nextX 7) = x := ⟨_, rfl⟩
  rw [hx2] at h3
  have hb3 : Below n0 w w3 := hb2.trans (h2.frame hU3)
  have elo : lo (0, 2) [(⟨p2, (0, 1), 6, 2, a2⟩ : Nd), ⟨p1, (0, 2), 5, 1, a1⟩] = [⟨p2, (0, 1), 6, 2, a2⟩] := by simp [lo, ltK]
  have ehi : hi (0, 2) [(⟨p2, (0, 1), 6, 2, a2⟩ : Nd), ⟨p1, (0, 2), 5, 1, a1⟩] = [⟨p1, (0, 2), 5, 1, a1⟩] := by simp [hi, ltK]
  have HG := hide (get_has h3 (0, 2) elo ehi rfl)
  have H3 := hide (And.intro h3 hb3)
  clear h2 hb2 hT hw h3 hb3 hU3 elo ehi ha2 hp2 hx2
  go_wp2_with fail
  refine (unhide HG).mono ?_
  rintro e w4 ⟨rfl, hb4⟩
  obtain ⟨h3, hb3⟩ := unhide H3
  have hs3 := hb3.size
  obtain ⟨w5, hw5⟩ : ∃ W, w4.alloc (.cells #[.int .i32 0, .int .i64 2, .int .i64 5, .int .i64 1] 32) = W := ⟨_, rfl⟩
  obtain ⟨cb, hcb⟩ : ∃ x, w4.heap.size = x := ⟨_, rfl⟩
  have hb45 : Below w4.heap.size w4 w5 := by rw [← hw5]; exact (Below.refl _ _).alloc (Nat.le_refl _) _
  have hb35 : Below w3.heap.size w3 w5 := hb4.trans (hb45.mono hb4.size)
  have h5 := h3.below hb35
  have hb5 : Below n0 w w5 := hb3.trans (hb35.mono (by omega))
  have kc : w5.heap[cb]? = some (.cells #[.int .i32 0, .int .i64 2, .int .i64 5, .int .i64 1] 32) := by rw [← hw5, ← hcb]; exact heap_new1 _ _
  have HRG := hide (range_any h5 (0, 0) (1, 0))
  rw [show lo (1, 0) (hi (0, 0) [(⟨p2, (0, 1), 6, 2, a2⟩ : Nd), ⟨p1, (0, 2), 5, 1, a1⟩]) = [⟨p2, (0, 1), 6, 2, a2⟩, ⟨p1, (0, 2), 5, 1, a1⟩] by simp [lo, hi, ltK]] at HRG
  have H5 := hide (And.intro h5 (And.intro hb5 kc))
  clear h3 hb3 hb4 hb45 hb35 h5 hb5 kc hs3
  go_wp2_with fail
  try rw [hw5]
  refine (unhide HRG).mono ?_
  rintro e w6 ⟨v, rfl, ho, hb6⟩
  obtain ⟨h5, hb5, kc⟩ := unhide H5
  have h6 := h5.below hb6
  have kc6 : w6.heap[cb]? = some (.cells #[.int .i32 0, .int .i64 2, .int .i64 5, .int .i64 1] 32) := (hb6.block cb (Array.getElem?_eq_some_iff.1 kc).1).trans kc
  have hs5 := hb5.size
  have hb6' : Below n0 w w6 := hb5.trans (hb6.mono (by omega))
  have HL := hide (len_any h6)
  obtain ⟨_, hsee⟩ := own_sees (l := [(⟨p2, (0, 1), 6, 2, a2⟩ : Nd), ⟨p1, (0, 2), 5, 1, a1⟩].map cl) pC_len (by decide) ho
  obtain ⟨ao, cap, gb, ob, rfl, hcap, _, hao, hcells⟩ := hsee.pair
  obtain rfl := hao (by simp)
  have hc2 := (hcells 0 (by simp)).2.2.1
  simp only [List.map_cons, List.map_nil, cl, List.getD_cons_zero, Nat.zero_mul, Nat.add_zero] at hc2
  have c5 : w6.cell? ⟨cb, 2, none⟩ = some (.int .i64 5) := cell_at kc6
  have HB := hide hb6'
  clear h5 hb5 kc hb6 h6 kc6 hs5 hb6' ho hcells hsee hw5
  simp only [List.map_cons, List.map_nil, List.length_cons, List.length_nil] at hcap ⊢
  go_wp2_with fail
  refine (unhide HL).mono ?_
  rintro e w9 ⟨rfl, rfl⟩
  simp only [List.length_cons, List.length_nil]
  go_wp2
  go_ret
  exact ⟨rfl, unhide HB⟩
end Go.Proofs.YtdcmkapfcmibeaaDoor
