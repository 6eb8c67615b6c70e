/- Several texts as one. -/
import Derived.Test.YtiijbklaapaheaaGreatCQ
import Derived.Test.YtiijbklaapaheaaGreatCR
import Derived.Test.YtiijbklaapaheaaGreatKB
import Derived.Test.YtiijbklaapaheaaGreatKK
import Derived.Test.YtiijbklaapaheaaGreatKJ

/- begun. -/
namespace Go.Proofs.YtiijbklaapaheaaGreat
open Go.RowKit
set_option maxRecDepth 100000

/-- The flash of 'begun', step by step. -/
def gF1 : Fl := (savW (Fl.blank 2) 0 1 (nwk (Fl.blank 2) 0 1 2) 5 1 [120]).2
def gF2 : Fl := (savW gF1 0 1 (nwk gF1 0 1 2) 9 2 [121]).2
theorem g0_num : (nwk (Fl.blank 2) 0 1 2).ck.num = 0 := by decide +kernel
theorem g0_ok : (savW (Fl.blank 2) 0 1 (nwk (Fl.blank 2) 0 1 2) 5 1 [120]).1 = 0 := by decide +kernel
theorem g1_num : (nwk gF1 0 1 2).ck.num = 1 := by decide +kernel
theorem g1_ok : (savW gF1 0 1 (nwk gF1 0 1 2) 9 2 [121]).1 = 0 := by decide +kernel
theorem g1_is : gF1.down = false ∧ gF1.cnt = 0 ∧ gF1.n = 2 := by decide +kernel
theorem g2_is : gF2.down = false ∧ gF2.cnt = 0 ∧ gF2.n = 2 := by decide +kernel
theorem g2_nw : (nwk gF2 0 1 2).at' = 1 ∧ (nwk gF2 0 1 2).ck.num = 2 ∧ (nwk gF2 0 1 2).ck.slot = 9 ∧ (nwk gF2 0 1 2).ck.last = 2 ∧ (nwk gF2 0 1 2).ck.data = [121] := by decide +kernel
theorem savW_sm {F : Fl} (h : Sm F) (f m : Nat) (c : Bst) (slot last : Int) (ds : List Int) : Sm (savW F f m c slot last ds).2 := by
  unfold savW; split
  · exact h
  · exact h.wrtH _ _ _
theorem g1_sm : Sm gF1 := savW_sm (sm_blank 2) _ _ _ _ _ _
theorem g2_sm : Sm gF2 := savW_sm g1_sm _ _ _ _ _ _
theorem byt120 : Byt [120] := by intro b hb; simp at hb; omega
theorem byt121 : Byt [121] := by intro b hb; simp at hb; omega

set_option maxHeartbeats 1600000 in
theorem begun_any (w : World) : Calls Tryz.prog 6 #[] w fun e w' => e = .returned (.bool true) ∧ Below w.heap.size w w' := by
  have hcv := fun (w : World) => conv_mark w #[.int .u8 120] 1 1
  have hcw := fun (w : World) => conv_mark w #[.int .u8 121] 1 1
  have HN := hide (new_ok 2 w (by omega) (by omega))
  go_enter Tryz.func6, Tryz.ntmps6
  go_wp2_with (first | (go_at_call 4; refine (unhide HN).mono ?_; rintro e w1 ⟨g, h, cap, rfl, hI1, hb1, hg, hh⟩; have HI1 := hide hI1; have HB1 := hide hb1; clear hI1 hb1) | fail)
  refine (save_none (F := Fl.blank 2) ((unhide HI1).alloc (.cells #[.int .u8 120] 5 (1, 2))) (Int.le_refl _) (by decide) (sm_blank 2).hP 0 2 (by decide) (by decide) (by decide) 5 1 _ [120] (sees_mark w1 [120] 5 1 (1, 2) rfl) byt120 (by decide) rfl (by rw [g0_num]; decide) (by rw [g0_num]; decide)).mono ?_
  rintro e w2 ⟨he, hI2, hU2⟩
  obtain rfl : e = Ending.returned (.int .i64 0) := by rw [he, g0_ok]
  have HI2 : Hid (IsFl w2 g h cap gF1) := hI2
  have HU2 : Hid (Upd (Two g h) w1.heap.size w1 w2) := ((Upd.refl _ _ _).alloc (Nat.le_refl _) _).trans (hU2.less (by simp))
  clear hI2 hU2 HN he hcv
  go_wp2_with fail
  refine (save_has (F := gF1) ((unhide HI2).alloc (.cells #[.int .u8 121] 5 (1, 2))) (by rw [g1_is.2.1]; decide) (by rw [g1_is.2.1]; decide) g1_sm.hP 0 2 (by decide) (by rw [g1_is.2.2]; decide) (by rw [g1_is.2.2]; decide) 9 2 _ [121] (sees_mark w2 [121] 5 1 (1, 2) rfl) byt121 (by decide) g1_is.1 (by rw [g1_num]; decide) (by rw [g1_num]; decide)).mono ?_
  rintro e w3 ⟨he, hI3, hU3⟩
  obtain rfl : e = Ending.returned (.int .i64 0) := by rw [he, g1_ok]
  have HI3 : Hid (IsFl w3 g h cap gF2) := hI3
  have HU3 : Hid (Upd (Two g h) w1.heap.size w1 w3) := (unhide HU2).trans (((Upd.refl _ _ _).alloc (Nat.le_refl _) _).trans (hU3.less (by simp)) |>.less (unhide HU2).size)
  clear hI3 hU3 he hcw HI2 HU2
  have HLD := hide (load_ok (unhide HI3) g2_sm.hP 0 2 (by rw [g2_is.2.2]; decide) (by rw [g2_is.2.2]; decide) g2_is.1)
  rw [g2_nw.2.1, g2_nw.2.2.1, g2_nw.2.2.2.1, g2_nw.2.2.2.2] at HLD
  go_wp2_with fail
  refine (unhide HLD).mono ?_
  rintro e w4 ⟨dv, rfl, ho4, hb4⟩
  obtain ⟨da, dc, rfl⟩ := own_shape ho4
  have HI4 := hide ((unhide HI3).below hb4)
  have hsee := (sees_of_own ho4).2
  have HSD : Hid (∀ x, Below w4.heap.size w4 x → Sees x .u8 (.slice da 1 dc) [121]) := fun x hx => hsee.below hx
  have HU4 : Hid (Upd (Two g h) w1.heap.size w1 w4) := (unhide HU3).trans ((Upd.of hb4).less (unhide HU3).size)
  obtain ⟨W4, hW4⟩ : ∃ W4, w4.alloc (.cells #[.int .i64 9, .int .i64 2, .slice da 1 dc] 35) = W4 := ⟨_, rfl⟩
  have bW : Below w4.heap.size w4 W4 := hW4 ▸ (Below.refl _ _).alloc (Nat.le_refl _) _
  have HBX : Hid (∀ x, Below W4.heap.size W4 x → x.cell? ⟨w4.heap.size, 0, none⟩ = some (.int .i64 9) ∧ x.cell? ⟨w4.heap.size, 1, none⟩ = some (.int .i64 2) ∧ x.cell? ⟨w4.heap.size, 2, none⟩ = some (.slice da 1 dc)) := fun x hx => box3 (by rw [hW4, show w4.heap.size + 1 = W4.heap.size by rw [← hW4]; simp]; exact hx)
  have HHF := hide (half_ok ((unhide HI4).below bW) g2_sm.hP 0 2 (by rw [g2_is.2.2]; decide) (by rw [g2_is.2.2]; decide))
  rw [g2_nw.1, g2_nw.2.1] at HHF
  have HBW := hide bW
  clear hsee ho4 hb4 bW
  go_wp2_with (first | rw [hW4] | fail)
  refine (unhide HHF).mono ?_
  rintro e w5 ⟨rfl, hb5⟩
  obtain ⟨q0, q1, q2⟩ := unhide HBX w5 hb5
  have hcs := run_conv_sees (P := Tryz.prog) w5 33 9 5 (.slice da 1 dc) [121] Tryz.underlying33 Tryz.underlying5 Tryz.underlying9 (unhide HSD w5 ((unhide HBW).trans (hb5.mono (unhide HBW).size))) byt121
  have hst : strOf [121] = ⟨#[121]⟩ := by decide +kernel
  rw [hst] at hcs
  have HF : Hid (Below w.heap.size w w5) := by
    have b5 : Upd (Two g h) w1.heap.size w1 w5 := (unhide HU4).trans ((Upd.of ((unhide HBW).trans (hb5.mono (unhide HBW).size))).less (unhide HU4).size)
    refine (unhide HB1).trans (b5.below (unhide HB1).size ?_)
    intro k hk
    show ¬ (k = g ∨ k = h)
    omega
  clear hb5
  go_wp2
  go_ret
  exact ⟨rfl, unhide HF⟩
end Go.Proofs.YtiijbklaapaheaaGreat

/- CkptDoes: the walk. -/
namespace Go.Proofs.YtiijbklaapaheaaGreat
open Go.RowKit
set_option maxRecDepth 100000

theorem op_low {w : World} {o : OpV} (h : OpOk w o) : ∀ p, o.ao = some p → p.block < w.heap.size ∨ o.ds = [] := fun p hp => by
  by_cases hd : o.ds = []
  · exact Or.inr hd
  left
  obtain ⟨ao, c, e, _, _, h3⟩ := h.sees
  simp only [Value.slice.injEq, true_and] at e
  have h0 : 0 < o.ds.length := by cases hx : o.ds with
    | nil => exact absurd hx hd
    | cons a l => simp
  have hc := h3 p (by rw [← e.1]; exact hp) 0 h0
  have hb : (p.add 0).block = p.block := by unfold Addr.add; split <;> rfl
  have := World.block_lt_of_cell? w _ hc
  omega

set_option maxHeartbeats 6400000 in
theorem does_ok (nb : Nat) (h1 : 1 ≤ nb) (h2 : nb ≤ 1024) (n : Nat) (os : Nat → OpV) (ao : Option Addr) (lc : Nat) (w : World) (hs : SeesOps w (.slice ao n lc) n os) (hR : ∀ t, t < n → ((-9223372036854775808 ≤ (os t).f ∧ (os t).f ≤ 9223372036854775807) ∧ (-9223372036854775808 ≤ (os t).n ∧ (os t).n ≤ 9223372036854775807))) :
    Calls Tryz.prog 3 #[.int .i64 nb, .slice ao n lc] w fun e w' => e = .returned (.bool true) ∧ Below w.heap.size w w' := by
  have hn63 : n ≤ 9223372036854775807 := by obtain ⟨_, _, _, _, _, _, h, _⟩ := hs; exact h
  have HS : Hid (∀ w', Below w.heap.size w w' → SeesOps w' (.slice ao n lc) n os) := fun w' h => hs.below h
  have HLow : Hid (∀ t, t < n → ∀ p, (os t).ao = some p → p.block < w.heap.size ∨ (os t).ds = []) := fun t ht => by
    obtain ⟨_, _, _, _, _, _, _, _, h5⟩ := hs
    exact op_low (h5 t ht).1
  have HRG := hide hR
  clear hs hR
  go_enter Tryz.func3, Tryz.ntmps3
  go_wp2_with fail
  refine (new_ok nb w h1 h2).mono ?_
  rintro e w1 ⟨g, h, cap, rfl, hI, hb, hg, hh⟩
  have HI := hide hI
  have HB := hide hb
  have HGH := hide (And.intro hg hh)
  clear hI hb hg hh
  go_wp2_with fail
  refine (rnew_ok nb w1 h1 h2).mono ?_
  rintro e w2 ⟨hr, gp, gw, cp, cw, pb, cb, bv, rfl, hRf, hb2⟩
  have HJ2 : Hid (Jt w2 w.heap.size g h cap hr gp gw cp cw (fun k => k < w1.heap.size) (Fl.blank nb)) := ⟨(unhide HI).below hb2, ⟨_, _, _, _, hRf⟩, fun k hk => Nat.lt_of_lt_of_le hk hb2.size, (unhide HI).glt, (unhide HI).hlt, fun k hk => Nat.lt_of_lt_of_le hk (unhide HB).size, (unhide HGH).1, (unhide HGH).2⟩
  have HB2 : Hid (Below w.heap.size w w2) := (unhide HB).trans (hb2.mono (unhide HB).size)
  generalize (fun k => k < w1.heap.size) = S at HJ2
  clear hRf hb2 HI HB HGH
  go_wp2_with fail
  refine (begun_any w2).mono ?_
  rintro e w3 ⟨rfl, b3⟩
  have HJ3 := hide ((unhide HJ2).below b3)
  have HB3 : Hid (Below w.heap.size w w3) := (unhide HB2).trans (b3.mono (unhide HB2).size)
  clear b3 HJ2 HB2
  by_cases h64 : 64 < nb
  · have h64' : (64 : Int) < (nb : Int) := by omega
    go_wp2
    go_ret
    exact ⟨rfl, unhide HB3⟩
  have h64' : (nb : Int) ≤ 64 := by omega
  go_wp2
  go_loopw [43] (fun c wr => ∃ (k : Nat) (F : Fl), k ≤ n ∧ c = .int .i64 k ∧ Jt wr w.heap.size g h cap hr gp gw cp cw S F ∧ Below w.heap.size w wr) (fun c _ => n - (intOf c).toNat)
  case atStart => exact ⟨0, Fl.blank nb, Nat.zero_le _, rfl, unhide HJ3, unhide HB3⟩
  case round =>
    obtain ⟨k, F, hk, rfl, hJ, hB⟩ := hrel
    by_cases hlt : k < n
    · obtain ⟨ao', cap', gb, ob, hv, _, _, hao, hcl⟩ := unhide HS wr hB
      simp only [Value.slice.injEq, true_and] at hv
      obtain ⟨rfl, rfl⟩ := hv
      obtain rfl := hao (by omega)
      obtain ⟨hok, c0, c1, c2, c3, c4, c5, c6, c7, c8⟩ := hcl k hlt
      have hlow := unhide HLow k hlt
      have hrg := unhide HRG k hlt
      obtain ⟨q, hq⟩ : ∃ q, os k = q := ⟨_, rfl⟩
      rw [hq] at hok c0 c1 c2 c3 c4 c5 c6 c7 c8 hlow hrg
      clear hcl hao hq
      obtain ⟨V, hV⟩ : ∃ V, wr.alloc (.cells #[.int .i64 q.x0, .int .i64 q.f, .int .i64 q.n, .int .i64 q.slot, .int .i64 q.last, .slice q.ao q.ds.length q.cap, .int .i64 q.x6, .int .i64 q.x7, .int .i64 q.x8] 37) = V := ⟨_, rfl⟩
      have bV : Below wr.heap.size wr V := hV ▸ (Below.refl _ _).alloc (Nat.le_refl _) _
      have bD : Below wr.heap.size wr V.drew := bV.drew
      have HSP := hide (step_any (hJ.below bD) (Nat.le_trans hB.size bD.size) q (hok.below bD) hrg.1 hrg.2 hlow)
      have hVX : ∀ x : World, x.heap[wr.heap.size]? = V.heap[wr.heap.size]? → x.cell? ⟨wr.heap.size, 0, none⟩ = some (.int .i64 q.x0) ∧ x.cell? ⟨wr.heap.size, 1, none⟩ = some (.int .i64 q.f) ∧ x.cell? ⟨wr.heap.size, 2, none⟩ = some (.int .i64 q.n) ∧ x.cell? ⟨wr.heap.size, 3, none⟩ = some (.int .i64 q.slot) ∧ x.cell? ⟨wr.heap.size, 4, none⟩ = some (.int .i64 q.last) ∧ x.cell? ⟨wr.heap.size, 5, none⟩ = some (.slice q.ao q.ds.length q.cap) ∧ x.cell? ⟨wr.heap.size, 6, none⟩ = some (.int .i64 q.x6) ∧ x.cell? ⟨wr.heap.size, 7, none⟩ = some (.int .i64 q.x7) ∧ x.cell? ⟨wr.heap.size, 8, none⟩ = some (.int .i64 q.x8) := fun x hx => by
        have c : ∀ o, x.cell? ⟨wr.heap.size, o, none⟩ = V.cell? ⟨wr.heap.size, o, none⟩ := fun o => World.cell?_of_block (w := V) hx
        refine ⟨?_, ?_, ?_, ?_, ?_, ?_, ?_, ?_, ?_⟩ <;> (rw [c, ← hV]; simp [go_sem])
      have HVX := hide (hVX V.drew rfl)
      have HBD : Hid (Below w.heap.size w V.drew) := hB.trans (bD.mono hB.size)
      clear hJ hB bV bD hok hlow hrg hVX
      simp only [OpV.agg] at HSP
      go_wp2_with (first | rw [hV] | fail)
      obtain ⟨d0, d1, d2, d3, d4, d5, d6, d7, d8⟩ := unhide HVX
      refine wp_region_held_drew (S := fun x => True) (by kernel_rfl) trivial (fun hHeld => ?_)
      refine wpAnyH_take (i := 0) (v := ?v1x0) rfl (by as_aux_lemma => kernel_rfl) (by as_aux_lemma => kernel_rfl) (by as_aux_lemma => kernel_rfl) (fun _ _ _ h => h) (Or.inl ⟨by rfl, ?hy1x0⟩) (by assumption) ?rest1x0
      case hy1x0 => intro w hSw; go_simp <;> with_reducible rfl
      simp only [Act.put, List.getElem_toArray, List.getElem_cons_zero, List.setIfInBounds_toArray, List.set_cons_zero, List.set_cons_succ]
      refine wpAnyH_take (i := 1) (v := ?v2x1) rfl (by as_aux_lemma => kernel_rfl) (by as_aux_lemma => kernel_rfl) (by as_aux_lemma => kernel_rfl) (fun _ _ _ h => h) (Or.inl ⟨by rfl, ?hy2x1⟩) (by assumption) ?rest2x1
      case hy2x1 => intro w hSw; go_simp <;> with_reducible rfl
      simp only [Act.put, List.getElem_toArray, List.getElem_cons_zero, List.getElem_cons_succ, List.setIfInBounds_toArray, List.set_cons_zero, List.set_cons_succ]
      refine wpAnyH_ready (rs := [2]) (by as_aux_lemma => kernel_rfl) (by simp) ?_
      refine AllReadyH.cons rfl (fun K hK => ?_) AllReadyH.nil
      go_simp
      refine hK _ _ trivial ?_
      clear hK hHeld
      intro hHeld
      refine wpAnyH_ready (rs := [3]) (by as_aux_lemma => kernel_rfl) (by simp) ?_
      refine AllReadyH.cons rfl (fun K hK => ?_) AllReadyH.nil
      go_simp
      refine (unhide HSP).mono ?_
      rintro e w2 ⟨rfl, F2, j2, b2⟩
      have HJF := hide j2
      have HBF : Hid (Below w.heap.size w w2) := (unhide HBD).trans b2
      have HDN := hide (down_any j2.fl)
      have hc4 : w2.cell? ⟨hr, 4, none⟩ = some (.bool F2.down) := by obtain ⟨_, _, _, _, H⟩ := j2.rf; exact H.c4
      generalize F2.down = dd at HDN hc4
      clear j2 b2 d0 d1 d2 d3 d4 d5 d6 d7 d8
      refine hK _ _ trivial ?_
      clear hK hHeld
      intro hHeld
      refine wpAnyH_take (i := 4) (v := ?v3x4) rfl (by as_aux_lemma => kernel_rfl) (by as_aux_lemma => kernel_rfl) (by as_aux_lemma => kernel_rfl) (fun _ _ _ h => h) (Or.inl ⟨by rfl, ?hy3x4⟩) (by assumption) ?rest3x4
      case hy3x4 => intro w hSw; go_simp <;> with_reducible rfl
      simp only [Act.put, List.getElem_toArray, List.getElem_cons_zero, List.getElem_cons_succ, List.setIfInBounds_toArray, List.set_cons_zero, List.set_cons_succ]
      refine wpAnyH_take (i := 5) (v := ?v4x5) rfl (by as_aux_lemma => kernel_rfl) (by as_aux_lemma => kernel_rfl) (by as_aux_lemma => kernel_rfl) (fun _ _ _ h => h) (Or.inl ⟨by rfl, ?hy4x5⟩) (by assumption) ?rest4x5
      case hy4x5 => intro w hSw; go_simp <;> with_reducible rfl
      simp only [Act.put, List.getElem_toArray, List.getElem_cons_zero, List.getElem_cons_succ, List.setIfInBounds_toArray, List.set_cons_zero, List.set_cons_succ]
      refine wpAnyH_take (i := 6) (v := ?v5x6) rfl (by as_aux_lemma => kernel_rfl) (by as_aux_lemma => kernel_rfl) (by as_aux_lemma => kernel_rfl) (fun _ _ _ h => h) (Or.inl ⟨by rfl, ?hy5x6⟩) (by assumption) ?rest5x6
      case hy5x6 => intro w hSw; go_simp <;> with_reducible rfl
      simp only [Act.put, List.getElem_toArray, List.getElem_cons_zero, List.getElem_cons_succ, List.setIfInBounds_toArray, List.set_cons_zero, List.set_cons_succ]
      refine wpAnyH_take (i := 8) (v := ?v6x8) rfl (by as_aux_lemma => kernel_rfl) (by as_aux_lemma => kernel_rfl) (by as_aux_lemma => kernel_rfl) (fun _ _ _ h => h) (Or.inl ⟨by rfl, ?hy6x8⟩) (by assumption) ?rest6x8
      case hy6x8 => intro w hSw; go_simp <;> with_reducible rfl
      simp only [Act.put, List.getElem_toArray, List.getElem_cons_zero, List.getElem_cons_succ, List.setIfInBounds_toArray, List.set_cons_zero, List.set_cons_succ]
      refine wpAnyH_take (i := 9) (v := ?v7x9) rfl (by as_aux_lemma => kernel_rfl) (by as_aux_lemma => kernel_rfl) (by as_aux_lemma => kernel_rfl) (fun _ _ _ h => h) (Or.inl ⟨by rfl, ?hy7x9⟩) (by assumption) ?rest7x9
      case hy7x9 => intro w hSw; go_simp <;> with_reducible rfl
      simp only [Act.put, List.getElem_toArray, List.getElem_cons_zero, List.getElem_cons_succ, List.setIfInBounds_toArray, List.set_cons_zero, List.set_cons_succ]
      refine wpAnyH_take (i := 10) (v := ?v8x10) rfl (by as_aux_lemma => kernel_rfl) (by as_aux_lemma => kernel_rfl) (by as_aux_lemma => kernel_rfl) (fun _ _ _ h => h) (Or.inl ⟨by rfl, ?hy8x10⟩) (by assumption) ?rest8x10
      case hy8x10 => intro w hSw; go_simp <;> with_reducible rfl
      simp only [Act.put, List.getElem_toArray, List.getElem_cons_zero, List.getElem_cons_succ, List.setIfInBounds_toArray, List.set_cons_zero, List.set_cons_succ]
      refine wpAnyH_ready (rs := [7, 11]) (by as_aux_lemma => kernel_rfl) (by simp) ?_
      refine AllReadyH.cons rfl (fun K hK => ?_) (AllReadyH.cons rfl (fun K hK => ?_) AllReadyH.nil)
      · go_simp
        refine (unhide HDN).mono ?_
        rintro e w3 ⟨rfl, rfl⟩
        refine hK _ _ trivial ?_
        clear hK hHeld
        intro hHeld
        refine wpAnyH_ready (rs := [11]) (by as_aux_lemma => kernel_rfl) (by simp) ?_
        refine AllReadyH.cons rfl (fun K hK => ?_) AllReadyH.nil
        go_simp
        refine hK _ _ trivial ?_
        clear hK hHeld
        intro hHeld
        refine wpAnyH_take (i := 12) (v := (.bool false)) rfl (by as_aux_lemma => kernel_rfl) (by as_aux_lemma => kernel_rfl) (by as_aux_lemma => kernel_rfl) (fun _ _ _ h => h) (Or.inl ⟨by rfl, ?hy9x12⟩) (by assumption) ?rest9x12
        case hy9x12 => intro w hSw; go_simp <;> with_reducible rfl
        simp only [Act.put, List.getElem_toArray, List.getElem_cons_zero, List.getElem_cons_succ, List.setIfInBounds_toArray, List.set_cons_zero, List.set_cons_succ]
        refine wpAnyH_take (i := 13) (v := ?v10x13) rfl (by as_aux_lemma => kernel_rfl) (by as_aux_lemma => kernel_rfl) (by as_aux_lemma => kernel_rfl) (fun _ _ _ h => h) (Or.inl ⟨by rfl, ?hy10x13⟩) (by assumption) ?rest10x13
        case hy10x13 => intro w hSw; go_simp <;> with_reducible rfl
        simp only [Act.put, List.getElem_toArray, List.getElem_cons_zero, List.getElem_cons_succ, List.setIfInBounds_toArray, List.set_cons_zero, List.set_cons_succ]
        refine wpAnyH_done (by as_aux_lemma => kernel_rfl) ?_ _
        go_wp2
        go_roundw
        case rel => exact ⟨k + 1, F2, by omega, by go_num, unhide HJF, unhide HBF⟩
        case measure => simp [intOf]; omega
      · go_simp
        refine hK _ _ trivial ?_
        clear hK hHeld
        intro hHeld
        refine wpAnyH_ready (rs := [7]) (by as_aux_lemma => kernel_rfl) (by simp) ?_
        refine AllReadyH.cons rfl (fun K hK => ?_) AllReadyH.nil
        go_simp
        refine (unhide HDN).mono ?_
        rintro e w3 ⟨rfl, rfl⟩
        refine hK _ _ trivial ?_
        clear hK hHeld
        intro hHeld
        refine wpAnyH_take (i := 12) (v := (.bool false)) rfl (by as_aux_lemma => kernel_rfl) (by as_aux_lemma => kernel_rfl) (by as_aux_lemma => kernel_rfl) (fun _ _ _ h => h) (Or.inl ⟨by rfl, ?hy11x12⟩) (by assumption) ?rest11x12
        case hy11x12 => intro w hSw; go_simp <;> with_reducible rfl
        simp only [Act.put, List.getElem_toArray, List.getElem_cons_zero, List.getElem_cons_succ, List.setIfInBounds_toArray, List.set_cons_zero, List.set_cons_succ]
        refine wpAnyH_take (i := 13) (v := ?v12x13) rfl (by as_aux_lemma => kernel_rfl) (by as_aux_lemma => kernel_rfl) (by as_aux_lemma => kernel_rfl) (fun _ _ _ h => h) (Or.inl ⟨by rfl, ?hy12x13⟩) (by assumption) ?rest12x13
        case hy12x13 => intro w hSw; go_simp <;> with_reducible rfl
        simp only [Act.put, List.getElem_toArray, List.getElem_cons_zero, List.getElem_cons_succ, List.setIfInBounds_toArray, List.set_cons_zero, List.set_cons_succ]
        refine wpAnyH_done (by as_aux_lemma => kernel_rfl) ?_ _
        go_wp2
        go_roundw
        case rel => exact ⟨k + 1, F2, by omega, by go_num, unhide HJF, unhide HBF⟩
        case measure => simp [intOf]; omega
    · have HJ := hide hJ
      have HB := hide hB
      clear hJ hB
      have HEQ := hide (equal_both (unhide HJ))
      go_wp2_with fail
      refine (unhide HEQ).mono ?_
      rintro e w5 ⟨rfl, b5⟩
      have HB5 := hide ((unhide HB).trans (b5.mono (unhide HB).size))
      clear b5
      go_wp2
      go_ret
      exact ⟨rfl, unhide HB5⟩
end Go.Proofs.YtiijbklaapaheaaGreat
