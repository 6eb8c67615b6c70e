/- Save, where there was none. -/
import Derived.Test.YtiijbklaapaheaaKE
namespace Go.Proofs.Ytiijbklaapaheaa
open Go.RowKit
set_option maxRecDepth 100000

set_option maxHeartbeats 4000000 in
theorem save_none {w : World} {g h cap : Nat} {F : Fl} (H : IsFl w g h cap F) (hc0 : 0 ≤ F.cnt) (hm : F.cnt ≤ 9223372036854775807) (hP : ∀ i j, (F.readB i j).length ≤ 256) (f n : Nat) (hn2 : 2 ≤ n) (hfn : f + n ≤ F.n) (hr0 : regE F.n f n = 0) (slot last : Int) (dv : Value) (ds : List Int) (hd : Sees w .u8 dv ds) (hby : Byt ds) (hf0 : faultE 1 slot last ds.length = 0) (hdn : F.down = false) (hhas : ¬ 0 < (nwk F f (n / 2) 2).ck.num) (hnum : (nwk F f (n / 2) 2).ck.num ≠ 1099511627776) :
    Calls Try.prog 18 #[P0 h, .agg #[.int .i64 f, .int .i64 n], .agg #[.int .i64 slot, .int .i64 last, dv]] w fun e w' => e = .returned (.int .i64 (savW F f (n / 2) (nwk F f (n / 2) 2) slot last ds).1) ∧ IsFl w' g h cap (savW F f (n / 2) (nwk F f (n / 2) 2) slot last ds).2 ∧ Upd (Two g h) w.heap.size w w' := by
  have hle := H.le
  obtain ⟨ao, dcap, rfl, hlc, hnil, hcd⟩ := id hd
  have hlen : ds.length ≤ 524288 := (faultE_ok hf0).1
  obtain ⟨B, hB⟩ : ∃ B, (w.alloc (.cells #[.int .i64 f, .int .i64 n] 26)).alloc (.cells #[.int .i64 slot, .int .i64 last, .slice ao ds.length dcap] 24) = B := ⟨_, rfl⟩
  have HBB : Hid (Below w.heap.size w B) := hB ▸ ((Below.refl _ _).alloc (Nat.le_refl _) _).alloc (by simp) _
  have HSZ : Hid (B.heap.size = w.heap.size + 2) := by show _ = _; rw [← hB]; simp
  have HBX : Hid (∀ x, Below B.heap.size B x → (x.cell? ⟨w.heap.size, 0, none⟩ = some (.int .i64 f) ∧ x.cell? ⟨w.heap.size, 1, none⟩ = some (.int .i64 n)) ∧ (x.cell? ⟨w.heap.size + 1, 0, none⟩ = some (.int .i64 slot) ∧ x.cell? ⟨w.heap.size + 1, 1, none⟩ = some (.int .i64 last) ∧ x.cell? ⟨w.heap.size + 1, 2, none⟩ = some (.slice ao ds.length dcap))) := fun x hx => by
    have hs := unhide HSZ
    have c : ∀ b o, b < w.heap.size + 2 → x.cell? ⟨b, o, none⟩ = B.cell? ⟨b, o, none⟩ := fun b o hb => hx.cell (p := ⟨b, o, none⟩) (by show b < _; omega)
    refine ⟨⟨?_, ?_⟩, ?_, ?_, ?_⟩ <;> (rw [c _ _ (by omega), ← hB]; simp [go_sem, World.cell?_alloc_old])
  have HSEE : Hid (∀ x, Below w.heap.size w x → Sees x .u8 (.slice ao ds.length dcap) ds ∧ IsFl x g h cap F) := fun x hx => ⟨hd.below hx, H.below hx⟩
  have hglt := H.glt; have hhlt := H.hlt
  obtain ⟨⟨q0, q1⟩, q2, q3, q4⟩ := unhide HBX B (Below.refl _ _)
  have HI := hide (H.below (unhide HBB))
  clear H hd hnil hcd
  go_enter Try.func18, Try.ntmps18
  go_wp2_with (rw [hB])
  refine (region_any (unhide HI) f n (by omega)).mono ?_
  rintro e w1 ⟨rfl, b1⟩
  rw [hr0]
  have HB1 := hide b1
  clear b1 q0 q1 q2 q3 q4
  obtain ⟨⟨q0, q1⟩, q2, q3, q4⟩ := unhide HBX w1 (unhide HB1)
  go_wp2_with fail
  refine (fault_any 1 slot last ao ds.length dcap w1 (by omega)).mono ?_
  rintro e w2 ⟨rfl, b2⟩
  rw [hf0]
  have HB2 := hide ((unhide HB1).trans (b2.mono (unhide HB1).size))
  clear b2 q0 q1 q2 q3 q4
  obtain ⟨⟨q0, q1⟩, q2, q3, q4⟩ := unhide HBX w2 (unhide HB2)
  have HI2 := hide ((unhide HI).below (unhide HB2))
  have HDN := hide (down_any (unhide HI2))
  rw [hdn] at HDN
  have HNW := hide (newest_any (unhide HI2) hP f n (by omega) (by omega))
  go_wp2_with (first | (go_at_call 43; refine (unhide HDN).mono ?_; rintro e w' ⟨rfl, rfl⟩) | fail)
  refine (unhide HNW).mono ?_
  rintro e w3 ⟨nv, rfl, ho3, b3⟩
  obtain ⟨nb1, nb2, nb3, nb4⟩ := nwk_num F f (n / 2) 2
  obtain ⟨na, nc, rfl⟩ := own_shape ho3
  have HHV := hide (fun x => halves_any h f n x (by omega) (by omega))
  generalize hgc : nwk F f (n / 2) 2 = c at *
  have hmn : n / 2 ≤ 1024 := by omega
  have hfm : f + n / 2 + n / 2 ≤ 1024 := by omega
  generalize hgm : n / 2 = m at *
  obtain ⟨W3, hW3⟩ : ∃ W3, w3.alloc (.cells #[.int .i64 c.at', .int .i64 c.ck.num, .int .i64 c.ck.slot, .int .i64 c.ck.last, .slice na c.ck.data.length nc] 87) = W3 := ⟨_, rfl⟩
  have HB3 : Hid (Below B.heap.size B W3) := ((unhide HB2).trans (b3.mono (unhide HB2).size)).trans (hW3 ▸ ((Below.refl _ _).alloc (Nat.le_refl _) _ : Below w3.heap.size w3 _) |>.mono ((unhide HB2).trans (b3.mono (unhide HB2).size)).size)
  have HC9 : Hid (∀ x, Below W3.heap.size W3 x → x.cell? ⟨w3.heap.size, 0, none⟩ = some (.int .i64 c.at') ∧ x.cell? ⟨w3.heap.size, 1, none⟩ = some (.int .i64 c.ck.num)) := fun x hx => by
    have hs : W3.heap.size = w3.heap.size + 1 := by rw [← hW3]; simp
    constructor
    · rw [hx.cell (p := ⟨w3.heap.size, 0, none⟩) (by show w3.heap.size < _; omega), ← hW3]; simp [go_sem]
    · rw [hx.cell (p := ⟨w3.heap.size, 1, none⟩) (by show w3.heap.size < _; omega), ← hW3]; simp [go_sem]
  have hnum' : c.ck.num < 1099511627776 := by omega
  have hne : (c.ck.num == 1099511627776) = false := by simpa using hnum
  obtain ⟨d0, d1⟩ := unhide HC9 W3 (Below.refl _ _)
  clear b3 ho3 q0 q1 q2 q3 q4
  obtain ⟨⟨q0, q1⟩, q2, q3, q4⟩ := unhide HBX W3 (unhide HB3)
  have HI64 : Hid (I64 [c.ck.num + 1, slot, last]) := by
    have hI := (faultE_ok hf0).2
    intro t ht
    rcases (show t = 0 ∨ t = 1 ∨ t = 2 by simp at ht; omega) with rfl | rfl | rfl
    · exact ⟨by show -9223372036854775808 ≤ c.ck.num + 1; omega, by show c.ck.num + 1 ≤ 9223372036854775807; omega⟩
    · exact hI 1 (by simp)
    · exact hI 2 (by simp)
  have HSEAL : Hid (∀ x, Below w.heap.size w x → Calls Try.prog 29 #[.int .i64 (c.ck.num + 1), .agg #[.int .i64 slot, .int .i64 last, .slice ao ds.length dcap]] x fun e w' => ∃ v, e = .returned v ∧ w'.ownsRow x.heap.size 5 1 v (ckB (c.ck.num + 1) slot last ds).length (ints .u8 (ckB (c.ck.num + 1) slot last ds)) ∧ Below x.heap.size x w') := fun x hx => sealed_any _ _ _ _ _ x (unhide HSEE x hx).1 hby hlen (unhide HI64)
  have HW : Hid (Below w.heap.size w W3) := (unhide HBB).trans ((unhide HB3).mono (unhide HBB).size)
  have hwrap : IntKind.i64.wrap (c.ck.num + 1) = c.ck.num + 1 := by rw [IntKind.wrap_i64]; omega
  have HWD : Hid (Below w.heap.size w W3.drew) := (unhide HW).drew
  have HST : Hid (∀ x, Below W3.drew.heap.size W3.drew x → x.cell? ⟨w3.heap.size, 1, none⟩ = some (.int .i64 c.ck.num) ∧ x.cell? ⟨w.heap.size + 1, 0, none⟩ = some (.int .i64 slot) ∧ x.cell? ⟨w.heap.size + 1, 1, none⟩ = some (.int .i64 last) ∧ x.cell? ⟨w.heap.size + 1, 2, none⟩ = some (.slice ao ds.length dcap) ∧ x.cell? ⟨w.heap.size, 0, none⟩ = some (.int .i64 f) ∧ x.cell? ⟨w.heap.size, 1, none⟩ = some (.int .i64 n)) := fun x hx => by
    have hx' : Below W3.heap.size W3 x := (Below.refl _ _).drew.trans hx
    have k := unhide HBX x ((unhide HB3).trans (hx'.mono (unhide HB3).size))
    exact ⟨(unhide HC9 x hx').2, k.2.1, k.2.2.1, k.2.2.2, k.1.1, k.1.2⟩
  have HBYT : Hid (Byt (ckB (c.ck.num + 1) slot last ds)) := ((putL_byt _).append (bodyB_byt hby)).append (lowL_byte _ _)
  have HCL : Hid ((ckB (c.ck.num + 1) slot last ds).length ≤ 1048576) := by have := ckB_le (c.ck.num + 1) slot last ds; show _ ≤ _; omega
  obtain ⟨ti, hto⟩ : ∃ ti : Nat, ti = 0 := ⟨0, rfl⟩
  have hto2 : ti < 2 := by omega
  obtain ⟨fh, hfh⟩ : ∃ fh, f + ti * m = fh := ⟨_, rfl⟩
  have hfh2 : fh ≤ 1024 := by rw [hto] at hfh; omega
  have hix := ix_any h f m ti fh hto2 hfh
  rw [hto] at hix
  simp only [Int.natCast_zero] at hix
  have HTO : Hid (toH c = ti) := by show _ = _; rw [toH, if_neg (by omega), hto]
  go_wp2_with (rw [hW3])
  clear d0 d1 q0 q1 q2 q3 q4
  refine wp_region_held_drew (S := fun x => x.cell? ⟨w3.heap.size, 1, none⟩ = some (.int .i64 c.ck.num) ∧ x.cell? ⟨w.heap.size + 1, 0, none⟩ = some (.int .i64 slot) ∧ x.cell? ⟨w.heap.size + 1, 1, none⟩ = some (.int .i64 last) ∧ x.cell? ⟨w.heap.size + 1, 2, none⟩ = some (.slice ao ds.length dcap) ∧ x.cell? ⟨w.heap.size, 0, none⟩ = some (.int .i64 f) ∧ x.cell? ⟨w.heap.size, 1, none⟩ = some (.int .i64 n)) (by kernel_rfl) (unhide HST _ (Below.refl _ _)) (fun hHeld => ?_)
  refine wpAnyH_take (i := 0) (v := ?v1x0) rfl (by as_aux_lemma => kernel_rfl) (by as_aux_lemma => kernel_rfl) (by as_aux_lemma => kernel_rfl) (fun _ _ _ h => h) (Or.inl ⟨by rfl, ?hy1x0⟩) (by assumption) ?rest1x0
  case hy1x0 => intro w hSw; obtain ⟨s0, s1, s2, s3, s4, s5⟩ := hSw; go_simp <;> with_reducible rfl
  simp only [Act.put, List.getElem_toArray, List.getElem_cons_zero, List.setIfInBounds_toArray, List.set_cons_zero, List.set_cons_succ]
  refine wpAnyH_take (i := 1) (v := ?v2x1) rfl (by as_aux_lemma => kernel_rfl) (by as_aux_lemma => kernel_rfl) (by as_aux_lemma => kernel_rfl) (fun _ _ _ h => h) (Or.inl ⟨by rfl, ?hy2x1⟩) (by assumption) ?rest2x1
  case hy2x1 => intro w hSw; obtain ⟨s0, s1, s2, s3, s4, s5⟩ := hSw; go_simp <;> with_reducible rfl
  simp only [Act.put, List.getElem_toArray, List.getElem_cons_zero, List.getElem_cons_succ, List.setIfInBounds_toArray, List.set_cons_zero, List.set_cons_succ]
  refine wpAnyH_take (i := 2) (v := ?v3x2) rfl (by as_aux_lemma => kernel_rfl) (by as_aux_lemma => kernel_rfl) (by as_aux_lemma => kernel_rfl) (fun _ _ _ h => h) (Or.inl ⟨by rfl, ?hy3x2⟩) (by assumption) ?rest3x2
  case hy3x2 => intro w hSw; obtain ⟨s0, s1, s2, s3, s4, s5⟩ := hSw; go_simp <;> with_reducible rfl
  simp only [Act.put, List.getElem_toArray, List.getElem_cons_zero, List.getElem_cons_succ, List.setIfInBounds_toArray, List.set_cons_zero, List.set_cons_succ]
  refine wpAnyH_take (i := 3) (v := ?v4x3) rfl (by as_aux_lemma => kernel_rfl) (by as_aux_lemma => kernel_rfl) (by as_aux_lemma => kernel_rfl) (fun _ _ _ h => h) (Or.inl ⟨by rfl, ?hy4x3⟩) (by assumption) ?rest4x3
  case hy4x3 => intro w hSw; obtain ⟨s0, s1, s2, s3, s4, s5⟩ := hSw; go_simp <;> with_reducible rfl
  simp only [Act.put, List.getElem_toArray, List.getElem_cons_zero, List.getElem_cons_succ, List.setIfInBounds_toArray, List.set_cons_zero, List.set_cons_succ]
  refine wpAnyH_take (i := 5) (v := ?v5x5) rfl (by as_aux_lemma => kernel_rfl) (by as_aux_lemma => kernel_rfl) (by as_aux_lemma => kernel_rfl) (fun _ _ _ h => h) (Or.inl ⟨by rfl, ?hy5x5⟩) (by assumption) ?rest5x5
  case hy5x5 => intro w hSw; obtain ⟨s0, s1, s2, s3, s4, s5⟩ := hSw; go_simp <;> with_reducible rfl
  simp only [Act.put, List.getElem_toArray, List.getElem_cons_zero, List.getElem_cons_succ, List.setIfInBounds_toArray, List.set_cons_zero, List.set_cons_succ]
  refine wpAnyH_take (i := 6) (v := ?v6x6) rfl (by as_aux_lemma => kernel_rfl) (by as_aux_lemma => kernel_rfl) (by as_aux_lemma => kernel_rfl) (fun _ _ _ h => h) (Or.inl ⟨by rfl, ?hy6x6⟩) (by assumption) ?rest6x6
  case hy6x6 => intro w hSw; obtain ⟨s0, s1, s2, s3, s4, s5⟩ := hSw; go_simp <;> with_reducible rfl
  simp only [Act.put, List.getElem_toArray, List.getElem_cons_zero, List.getElem_cons_succ, List.setIfInBounds_toArray, List.set_cons_zero, List.set_cons_succ]
  refine wpAnyH_take (i := 8) (v := ?v7x8) rfl (by as_aux_lemma => kernel_rfl) (by as_aux_lemma => kernel_rfl) (by as_aux_lemma => kernel_rfl) (fun _ _ _ h => h) (Or.inl ⟨by rfl, ?hy7x8⟩) (by assumption) ?rest7x8
  case hy7x8 => intro w hSw; obtain ⟨s0, s1, s2, s3, s4, s5⟩ := hSw; go_simp <;> with_reducible rfl
  simp only [Act.put, List.getElem_toArray, List.getElem_cons_zero, List.getElem_cons_succ, List.setIfInBounds_toArray, List.set_cons_zero, List.set_cons_succ]
  refine wpAnyH_ready (rs := [4, 10]) (by as_aux_lemma => kernel_rfl) (by simp) ?_
  refine AllReadyH.cons rfl (fun K hK => ?_) (AllReadyH.cons rfl (fun K hK => ?_) AllReadyH.nil)
  · go_simp
    refine (unhide HSEAL _ ((unhide HWD).trans ((Below.refl W3.drew.heap.size W3.drew).mono (unhide HWD).size))).mono ?_
    rintro e y1 ⟨v, rfl, ho1, hb1⟩
    obtain ⟨gb, cp, rfl, hgb0, hgb1, hcp, hz1⟩ := row_of ho1 (ckB_pos _ _ _ _)
    have HZ1 := hide hz1
    have HX1 := hide hb1
    have HY1 : Hid (Below W3.drew.heap.size W3.drew y1) := (Below.refl W3.drew.heap.size W3.drew).trans (hb1.mono (Below.refl W3.drew.heap.size W3.drew).size)
    have hs1 := hb1.size

    clear ho1 hb1 hz1
    refine hK _ _ (unhide HST _ (unhide HY1)) ?_
    clear hK hHeld
    intro hHeld
    refine wpAnyH_ready (rs := [7, 10]) (by as_aux_lemma => kernel_rfl) (by simp) ?_
    refine AllReadyH.cons rfl (fun K hK => ?_) (AllReadyH.cons rfl (fun K hK => ?_) AllReadyH.nil)
    · go_simp
      refine (unhide HHV _).mono ?_
      rintro e y2 ⟨rfl, hb2⟩
      have HY2 : Hid (Below W3.drew.heap.size W3.drew y2) := (unhide HY1).trans (hb2.mono (unhide HY1).size)
      have HB2' := hide hb2
      clear hb2
      refine hK _ _ (unhide HST _ (unhide HY2)) ?_
      clear hK hHeld
      intro hHeld
      refine wpAnyH_take (i := 9) (v := (.agg #[P0 h, .int .i64 (fh : Int), .int .i64 (m : Int)])) rfl (by as_aux_lemma => kernel_rfl) (by as_aux_lemma => kernel_rfl) (by as_aux_lemma => kernel_rfl) (fun _ _ _ h => h) (Or.inl ⟨by rfl, ?hy8x9⟩) (by assumption) ?rest8x9
      case hy8x9 => intro w hSw; obtain ⟨s0, s1, s2, s3, s4, s5⟩ := hSw; go_simp <;> with_reducible rfl
      simp only [Act.put, List.getElem_toArray, List.getElem_cons_zero, List.getElem_cons_succ, List.setIfInBounds_toArray, List.set_cons_zero, List.set_cons_succ]
      refine wpAnyH_ready (rs := [10]) (by as_aux_lemma => kernel_rfl) (by simp) ?_
      refine AllReadyH.cons rfl (fun K hK => ?_) AllReadyH.nil
      go_simp
      refine hK _ _ (unhide HST _ ((unhide HY2).alloc (unhide HY2).size _)) ?_
      clear hK hHeld
      intro hHeld
      refine wpAnyH_take (i := 11) (v := ?v9x11) rfl (by as_aux_lemma => kernel_rfl) (by as_aux_lemma => kernel_rfl) (by as_aux_lemma => kernel_rfl) (fun _ _ _ h => h) (Or.inl ⟨by rfl, ?hy9x11⟩) (by assumption) ?rest9x11
      case hy9x11 => intro w hSw; obtain ⟨s0, s1, s2, s3, s4, s5⟩ := hSw; go_simp <;> with_reducible rfl
      simp only [Act.put, List.getElem_toArray, List.getElem_cons_zero, List.getElem_cons_succ, List.setIfInBounds_toArray, List.set_cons_zero, List.set_cons_succ]
      refine wpAnyH_ready (rs := [12]) (by as_aux_lemma => kernel_rfl) (by simp) ?_
      refine AllReadyH.cons rfl (fun K hK => ?_) AllReadyH.nil
      go_simp
      refine hK _ _ (unhide HST _ ((unhide HY2).alloc (unhide HY2).size _)) ?_
      clear hK hHeld
      intro hHeld
      refine wpAnyH_done (by as_aux_lemma => kernel_rfl) ?_ _
      have hmm : m ≤ 1048576 := by omega
      have HHS := hide (fun x => hsize_any h (fh : Int) m x (by omega))
      try simp only [World.size_alloc] at hgb0
      have hgZ : Hid (gb ≠ g ∧ gb ≠ h) := by have := (unhide HWD).size; exact ⟨by omega, by omega⟩
      obtain ⟨zl, hzl⟩ : ∃ zl, (ckB (c.ck.num + 1) slot last ds).length = zl := ⟨_, rfl⟩
      rw [hzl] at hcp
      clear HST HSEAL
      obtain ⟨Z, hZ⟩ : ∃ Z, y2.alloc (.cells #[P0 h, .int .i64 (fh : Int), .int .i64 (m : Int)] 78) = Z := ⟨_, rfl⟩
      have bZ : Below y2.heap.size y2 Z := hZ ▸ (Below.refl _ _).alloc (Nat.le_refl _) _
      have HZB : Hid (Below w.heap.size w Z) := ((unhide HWD).trans ((unhide HY2).mono (unhide HWD).size)).trans (bZ.mono ((unhide HWD).trans ((unhide HY2).mono (unhide HWD).size)).size)
      have HZZ : Hid (∀ t, t < (ckB (c.ck.num + 1) slot last ds).length → Z.cell? ⟨gb, t, none⟩ = some (.int .u8 ((ckB (c.ck.num + 1) slot last ds).getD t 0))) := fun t ht => by
        have e1 := unhide HZ1 t ht
        have e2 := ((unhide HB2').cell (p := ⟨gb, t, none⟩) (World.block_lt_of_cell? _ _ e1)).trans e1
        exact (bZ.cell (p := ⟨gb, t, none⟩) (World.block_lt_of_cell? _ _ e2)).trans e2
      have k0 : Z.cell? ⟨y2.heap.size, 0, none⟩ = some (P0 h) := by rw [← hZ]; simp [go_sem]
      have k1 : Z.cell? ⟨y2.heap.size, 1, none⟩ = some (.int .i64 (fh : Int)) := by rw [← hZ]; simp [go_sem]
      have k2 : Z.cell? ⟨y2.heap.size, 2, none⟩ = some (.int .i64 (m : Int)) := by rw [← hZ]; simp [go_sem]
      try rw [hZ]
      clear bZ hZ
      by_cases cL : m * 4096 < zl
      · have HRES : Hid (savW F f m c slot last ds = (3, F)) := by show _ = _; rw [savW, if_pos (by rw [hzl]; exact cL)]
        go_wp2_with fail
        refine (unhide HHS _).mono ?_
        rintro e z1 ⟨rfl, bz1⟩
        have HF : Hid (IsFl z1 g h cap F ∧ Upd (Two g h) w.heap.size w z1) := by
          have b := (unhide HZB).trans (bz1.mono (unhide HZB).size)
          exact ⟨(unhide HSEE z1 b).2, Upd.of b⟩
        have cL' : ((m * 4096 : Nat) : Int) < (zl : Int) := by omega
        clear bz1
        go_wp2
        go_ret
        rw [hgm, hgc, unhide HRES]
        exact ⟨rfl, unhide HF⟩
      · have HRES : Hid (savW F f m c slot last ds = wrtH F (fh) m (ckB (c.ck.num + 1) slot last ds)) := by show _ = _; rw [savW, if_neg (by rw [hzl]; exact cL), unhide HTO, hfh]
        go_wp2_with fail
        refine (unhide HHS _).mono ?_
        rintro e z1 ⟨rfl, bz1⟩
        have cL' : (zl : Int) ≤ ((m * 4096 : Nat) : Int) := by omega
        have HZ1B := hide ((unhide HZB).trans (bz1.mono (unhide HZB).size))
        have m0 := (bz1.cell (p := ⟨y2.heap.size, 0, none⟩) (World.block_lt_of_cell? _ _ k0)).trans k0
        have m1 := (bz1.cell (p := ⟨y2.heap.size, 1, none⟩) (World.block_lt_of_cell? _ _ k1)).trans k1
        have m2 := (bz1.cell (p := ⟨y2.heap.size, 2, none⟩) (World.block_lt_of_cell? _ _ k2)).trans k2
        have HWR := hide (write_any (w := z1) (unhide HSEE z1 (unhide HZ1B)).2 hc0 hm (fh) m (by omega) (by omega) gb cp (ckB (c.ck.num + 1) slot last ds)
          (fun t ht => (bz1.cell (p := ⟨gb, t, none⟩) (World.block_lt_of_cell? _ _ (unhide HZZ t ht))).trans (unhide HZZ t ht)) (by rw [hzl]; exact hcp) (unhide HBYT) (unhide HCL) (unhide hgZ).1 (unhide hgZ).2 (Nat.lt_of_lt_of_le (World.block_lt_of_cell? _ _ (unhide HZZ 0 (ckB_pos _ _ _ _))) bz1.size))
        rw [hzl] at HWR
        have HUZ : Hid (Upd (Two g h) w.heap.size w z1) := Upd.of (unhide HZ1B)
        clear bz1
        go_wp2_with fail
        refine (unhide HWR).mono ?_
        rintro e z2 ⟨rfl, I2, u2⟩
        have HF : Hid (IsFl z2 g h cap (savW F f m c slot last ds).2 ∧ Upd (Two g h) w.heap.size w z2) := by
          rw [unhide HRES]; exact ⟨I2, (unhide HUZ).trans (u2.less (unhide HUZ).size)⟩
        clear I2 u2
        go_wp2
        go_ret
        rw [hgm, hgc]
        rw [unhide HRES] at HF ⊢
        exact ⟨rfl, unhide HF⟩
    · go_simp
      refine hK _ _ (unhide HST _ ((unhide HY1).alloc (unhide HY1).size _)) ?_
      clear hK hHeld
      intro hHeld
      refine wpAnyH_ready (rs := [7]) (by as_aux_lemma => kernel_rfl) (by simp) ?_
      refine AllReadyH.cons rfl (fun K hK => ?_) AllReadyH.nil
      go_simp
      refine (unhide HHV _).mono ?_
      rintro e y2 ⟨rfl, hb2⟩
      have HY2 : Hid (Below W3.drew.heap.size W3.drew y2) := ((unhide HY1).alloc (unhide HY1).size _).trans (hb2.mono ((unhide HY1).alloc (unhide HY1).size _).size)
      have HB2' := hide hb2
      clear hb2
      refine hK _ _ (unhide HST _ (unhide HY2)) ?_
      clear hK hHeld
      intro hHeld
      have JB : ∀ {o : Nat} {u : Value}, (y1.alloc (.cells #[.pointer none, .int .i64 0, .int .i64 0] 78)).cell? ⟨y1.heap.size, o, none⟩ = some u → y2.cell? ⟨y1.heap.size, o, none⟩ = some u := fun h => ((unhide HB2').cell (p := ⟨y1.heap.size, _, none⟩) (by simp)).trans h
      have JF : ∀ {o : Nat}, (y1.alloc (.cells #[.pointer none, .int .i64 0, .int .i64 0] 78)).frozen? ⟨y1.heap.size, o, none⟩ = false → y2.frozen? ⟨y1.heap.size, o, none⟩ = false := fun h => (World.frozen?_of_block ((unhide HB2').block _ (by simp))).trans h
      have HKEEP : Hid (∀ t u, y1.cell? ⟨gb, t, none⟩ = some u → y2.cell? ⟨gb, t, none⟩ = some u) := fun t u e => ((unhide HB2').cell (p := ⟨gb, t, none⟩) (by show gb < _; simp; omega)).trans (by rw [World.cell?_alloc_old _ _ _ (by show gb ≠ _; omega)]; exact e)
      have j0 : y2.cell? ⟨y1.heap.size, 0, none⟩ = some (.pointer none) := JB (by simp [go_sem])
      have j1 : y2.cell? ⟨y1.heap.size, 1, none⟩ = some (.int .i64 0) := JB (by simp [go_sem])
      have j2 : y2.cell? ⟨y1.heap.size, 2, none⟩ = some (.int .i64 0) := JB (by simp [go_sem])
      have jf : ∀ o, y2.frozen? ⟨y1.heap.size, o, none⟩ = false := fun o => JF (by simp [go_sem])
      clear JB JF
      refine wpAnyH_take (i := 9) (v := (.agg #[P0 h, .int .i64 (fh : Int), .int .i64 (m : Int)])) rfl (by as_aux_lemma => kernel_rfl) (by as_aux_lemma => kernel_rfl) (by as_aux_lemma => kernel_rfl) (fun _ _ _ h => h) (Or.inl ⟨by rfl, ?hy10x9⟩) (by assumption) ?rest10x9
      case hy10x9 => intro w hSw; obtain ⟨s0, s1, s2, s3, s4, s5⟩ := hSw; go_simp <;> with_reducible rfl
      simp only [Act.put, List.getElem_toArray, List.getElem_cons_zero, List.getElem_cons_succ, List.setIfInBounds_toArray, List.set_cons_zero, List.set_cons_succ]
      refine wpAnyH_take (i := 11) (v := ?v11x11) rfl (by as_aux_lemma => kernel_rfl) (by as_aux_lemma => kernel_rfl) (by as_aux_lemma => kernel_rfl) (fun _ _ _ h => h) (Or.inl ⟨by rfl, ?hy11x11⟩) (by assumption) ?rest11x11
      case hy11x11 => intro w hSw; obtain ⟨s0, s1, s2, s3, s4, s5⟩ := hSw; go_simp <;> with_reducible rfl
      simp only [Act.put, List.getElem_toArray, List.getElem_cons_zero, List.getElem_cons_succ, List.setIfInBounds_toArray, List.set_cons_zero, List.set_cons_succ]
      refine wpAnyH_ready (rs := [12]) (by as_aux_lemma => kernel_rfl) (by simp) ?_
      refine AllReadyH.cons rfl (fun K hK => ?_) AllReadyH.nil
      go_simp
      refine hK _ _ (unhide HST _ ((((unhide HY2).setCell (p := ⟨y1.heap.size, 0, none⟩) hs1 _).setCell (p := ⟨y1.heap.size, 1, none⟩) hs1 _).setCell (p := ⟨y1.heap.size, 2, none⟩) hs1 _)) ?_
      clear hK hHeld
      intro hHeld
      refine wpAnyH_done (by as_aux_lemma => kernel_rfl) ?_ _
      have hmm : m ≤ 1048576 := by omega
      have HHS := hide (fun x => hsize_any h (fh : Int) m x (by omega))
      try simp only [World.size_alloc] at hgb0
      have hgZ : Hid (gb ≠ g ∧ gb ≠ h) := by have := (unhide HWD).size; exact ⟨by omega, by omega⟩
      obtain ⟨zl, hzl⟩ : ∃ zl, (ckB (c.ck.num + 1) slot last ds).length = zl := ⟨_, rfl⟩
      rw [hzl] at hcp
      clear HST HSEAL
      obtain ⟨Z, hZ⟩ : ∃ Z, ((y2.setCell ⟨y1.heap.size, 0, none⟩ (P0 h)).setCell ⟨y1.heap.size, 1, none⟩ (.int .i64 (fh : Int))).setCell ⟨y1.heap.size, 2, none⟩ (.int .i64 (m : Int)) = Z := ⟨_, rfl⟩
      have hne : Hid (y1.heap.size ≠ gb ∧ w.heap.size ≤ y1.heap.size) := by have q1 := (unhide HWD).size; have q2 : W3.drew.heap.size = W3.heap.size := rfl; exact ⟨by omega, by omega⟩
      have HZB : Hid (Below w.heap.size w Z) := hZ ▸ ((((unhide HWD).trans ((unhide HY2).mono (unhide HWD).size)).setCell (p := ⟨y1.heap.size, 0, none⟩) (unhide hne).2 _).setCell (p := ⟨y1.heap.size, 1, none⟩) (unhide hne).2 _).setCell (p := ⟨y1.heap.size, 2, none⟩) (unhide hne).2 _
      have HZZ : Hid (∀ t, t < (ckB (c.ck.num + 1) slot last ds).length → Z.cell? ⟨gb, t, none⟩ = some (.int .u8 ((ckB (c.ck.num + 1) slot last ds).getD t 0))) := fun t ht => by
        have e1 := unhide HZ1 t ht
        have e2 := unhide HKEEP t _ e1
        rw [← hZ, cs_other (addr_ne (Or.inl (unhide hne).1)), cs_other (addr_ne (Or.inl (unhide hne).1)), cs_other (addr_ne (Or.inl (unhide hne).1))]
        exact e2
      have k0 : Z.cell? ⟨y1.heap.size, 0, none⟩ = some (P0 h) := by rw [← hZ, cs_other (addr_ne (Or.inr (by decide))), cs_other (addr_ne (Or.inr (by decide)))]; exact cs_same j0
      have k1 : Z.cell? ⟨y1.heap.size, 1, none⟩ = some (.int .i64 (fh : Int)) := by rw [← hZ, cs_other (addr_ne (Or.inr (by decide)))]; exact cs_same (by rw [cs_other (addr_ne (Or.inr (by decide)))]; exact j1)
      have k2 : Z.cell? ⟨y1.heap.size, 2, none⟩ = some (.int .i64 (m : Int)) := by rw [← hZ]; exact cs_same (by rw [cs_other (addr_ne (Or.inr (by decide))), cs_other (addr_ne (Or.inr (by decide)))]; exact j2)
      try rw [hZ]
      clear hZ j0 j1 j2 jf
      by_cases cL : m * 4096 < zl
      · have HRES : Hid (savW F f m c slot last ds = (3, F)) := by show _ = _; rw [savW, if_pos (by rw [hzl]; exact cL)]
        go_wp2_with fail
        refine (unhide HHS _).mono ?_
        rintro e z1 ⟨rfl, bz1⟩
        have HF : Hid (IsFl z1 g h cap F ∧ Upd (Two g h) w.heap.size w z1) := by
          have b := (unhide HZB).trans (bz1.mono (unhide HZB).size)
          exact ⟨(unhide HSEE z1 b).2, Upd.of b⟩
        have cL' : ((m * 4096 : Nat) : Int) < (zl : Int) := by omega
        clear bz1
        go_wp2
        go_ret
        rw [hgm, hgc, unhide HRES]
        exact ⟨rfl, unhide HF⟩
      · have HRES : Hid (savW F f m c slot last ds = wrtH F (fh) m (ckB (c.ck.num + 1) slot last ds)) := by show _ = _; rw [savW, if_neg (by rw [hzl]; exact cL), unhide HTO, hfh]
        go_wp2_with fail
        refine (unhide HHS _).mono ?_
        rintro e z1 ⟨rfl, bz1⟩
        have cL' : (zl : Int) ≤ ((m * 4096 : Nat) : Int) := by omega
        have HZ1B := hide ((unhide HZB).trans (bz1.mono (unhide HZB).size))
        have m0 := (bz1.cell (p := ⟨y1.heap.size, 0, none⟩) (World.block_lt_of_cell? _ _ k0)).trans k0
        have m1 := (bz1.cell (p := ⟨y1.heap.size, 1, none⟩) (World.block_lt_of_cell? _ _ k1)).trans k1
        have m2 := (bz1.cell (p := ⟨y1.heap.size, 2, none⟩) (World.block_lt_of_cell? _ _ k2)).trans k2
        have HWR := hide (write_any (w := z1) (unhide HSEE z1 (unhide HZ1B)).2 hc0 hm (fh) m (by omega) (by omega) gb cp (ckB (c.ck.num + 1) slot last ds)
          (fun t ht => (bz1.cell (p := ⟨gb, t, none⟩) (World.block_lt_of_cell? _ _ (unhide HZZ t ht))).trans (unhide HZZ t ht)) (by rw [hzl]; exact hcp) (unhide HBYT) (unhide HCL) (unhide hgZ).1 (unhide hgZ).2 (Nat.lt_of_lt_of_le (World.block_lt_of_cell? _ _ (unhide HZZ 0 (ckB_pos _ _ _ _))) bz1.size))
        rw [hzl] at HWR
        have HUZ : Hid (Upd (Two g h) w.heap.size w z1) := Upd.of (unhide HZ1B)
        clear bz1
        go_wp2_with fail
        refine (unhide HWR).mono ?_
        rintro e z2 ⟨rfl, I2, u2⟩
        have HF : Hid (IsFl z2 g h cap (savW F f m c slot last ds).2 ∧ Upd (Two g h) w.heap.size w z2) := by
          rw [unhide HRES]; exact ⟨I2, (unhide HUZ).trans (u2.less (unhide HUZ).size)⟩
        clear I2 u2
        go_wp2
        go_ret
        rw [hgm, hgc]
        rw [unhide HRES] at HF ⊢
        exact ⟨rfl, unhide HF⟩
  · go_simp
    refine hK _ _ (unhide HST _ ((Below.refl W3.drew.heap.size W3.drew).alloc (Below.refl W3.drew.heap.size W3.drew).size _)) ?_
    clear hK hHeld
    intro hHeld
    refine wpAnyH_ready (rs := [4]) (by as_aux_lemma => kernel_rfl) (by simp) ?_
    refine AllReadyH.cons rfl (fun K hK => ?_) AllReadyH.nil
    go_simp
    refine (unhide HSEAL _ ((unhide HWD).trans (((Below.refl W3.drew.heap.size W3.drew).alloc (Nat.le_refl _) _).mono (unhide HWD).size))).mono ?_
    rintro e y1 ⟨v, rfl, ho1, hb1⟩
    obtain ⟨gb, cp, rfl, hgb0, hgb1, hcp, hz1⟩ := row_of ho1 (ckB_pos _ _ _ _)
    have HZ1 := hide hz1
    have HX1 := hide hb1
    have HY1 : Hid (Below W3.drew.heap.size W3.drew y1) := ((Below.refl W3.drew.heap.size W3.drew).alloc (Nat.le_refl _) _).trans (hb1.mono ((Below.refl W3.drew.heap.size W3.drew).alloc (Nat.le_refl _) _).size)
    have hs1 := hb1.size

    clear ho1 hb1 hz1
    refine hK _ _ (unhide HST _ (unhide HY1)) ?_
    clear hK hHeld
    intro hHeld
    refine wpAnyH_ready (rs := [7]) (by as_aux_lemma => kernel_rfl) (by simp) ?_
    refine AllReadyH.cons rfl (fun K hK => ?_) AllReadyH.nil
    go_simp
    refine (unhide HHV _).mono ?_
    rintro e y2 ⟨rfl, hb2⟩
    have HY2 : Hid (Below W3.drew.heap.size W3.drew y2) := (unhide HY1).trans (hb2.mono (unhide HY1).size)
    have HB2' := hide hb2
    clear hb2
    refine hK _ _ (unhide HST _ (unhide HY2)) ?_
    clear hK hHeld
    intro hHeld
    have JB : ∀ {o : Nat} {u : Value}, (W3.drew.alloc (.cells #[.pointer none, .int .i64 0, .int .i64 0] 78)).cell? ⟨W3.heap.size, o, none⟩ = some u → y2.cell? ⟨W3.heap.size, o, none⟩ = some u := fun h => by
      have e1 := ((unhide HX1).cell (p := ⟨W3.heap.size, _, none⟩) (by show W3.heap.size < _; rw [World.size_alloc]; exact Nat.lt_succ_self W3.heap.size)).trans h
      exact ((unhide HB2').cell (p := ⟨W3.heap.size, _, none⟩) (World.block_lt_of_cell? _ _ e1)).trans e1
    have JF : ∀ {o : Nat}, (W3.drew.alloc (.cells #[.pointer none, .int .i64 0, .int .i64 0] 78)).frozen? ⟨W3.heap.size, o, none⟩ = false → y2.frozen? ⟨W3.heap.size, o, none⟩ = false := fun h => (World.frozen?_of_block ((unhide HB2').block _ (by have q := (unhide HX1).size; rw [World.size_alloc] at q; have : W3.drew.heap.size = W3.heap.size := rfl; show W3.heap.size < y1.heap.size; omega))).trans ((World.frozen?_of_block ((unhide HX1).block _ (by rw [World.size_alloc]; exact Nat.lt_succ_self W3.heap.size))).trans h)
    have HKEEP : Hid (∀ t u, y1.cell? ⟨gb, t, none⟩ = some u → y2.cell? ⟨gb, t, none⟩ = some u) := fun t u e => ((unhide HB2').cell (p := ⟨gb, t, none⟩) (World.block_lt_of_cell? _ _ e)).trans e
    have hgx : W3.heap.size ≠ gb := by rw [World.size_alloc] at hgb0; have : W3.drew.heap.size = W3.heap.size := rfl; omega
    have j0 : y2.cell? ⟨W3.heap.size, 0, none⟩ = some (.pointer none) := JB (by simp [go_sem])
    have j1 : y2.cell? ⟨W3.heap.size, 1, none⟩ = some (.int .i64 0) := JB (by simp [go_sem])
    have j2 : y2.cell? ⟨W3.heap.size, 2, none⟩ = some (.int .i64 0) := JB (by simp [go_sem])
    have jf : ∀ o, y2.frozen? ⟨W3.heap.size, o, none⟩ = false := fun o => JF (by simp [go_sem])
    clear JB JF
    refine wpAnyH_take (i := 9) (v := (.agg #[P0 h, .int .i64 (fh : Int), .int .i64 (m : Int)])) rfl (by as_aux_lemma => kernel_rfl) (by as_aux_lemma => kernel_rfl) (by as_aux_lemma => kernel_rfl) (fun _ _ _ h => h) (Or.inl ⟨by rfl, ?hy12x9⟩) (by assumption) ?rest12x9
    case hy12x9 => intro w hSw; obtain ⟨s0, s1, s2, s3, s4, s5⟩ := hSw; go_simp <;> with_reducible rfl
    simp only [Act.put, List.getElem_toArray, List.getElem_cons_zero, List.getElem_cons_succ, List.setIfInBounds_toArray, List.set_cons_zero, List.set_cons_succ]
    refine wpAnyH_take (i := 11) (v := ?v13x11) rfl (by as_aux_lemma => kernel_rfl) (by as_aux_lemma => kernel_rfl) (by as_aux_lemma => kernel_rfl) (fun _ _ _ h => h) (Or.inl ⟨by rfl, ?hy13x11⟩) (by assumption) ?rest13x11
    case hy13x11 => intro w hSw; obtain ⟨s0, s1, s2, s3, s4, s5⟩ := hSw; go_simp <;> with_reducible rfl
    simp only [Act.put, List.getElem_toArray, List.getElem_cons_zero, List.getElem_cons_succ, List.setIfInBounds_toArray, List.set_cons_zero, List.set_cons_succ]
    refine wpAnyH_ready (rs := [12]) (by as_aux_lemma => kernel_rfl) (by simp) ?_
    refine AllReadyH.cons rfl (fun K hK => ?_) AllReadyH.nil
    go_simp
    refine hK _ _ (unhide HST _ ((((unhide HY2).setCell (p := ⟨W3.heap.size, 0, none⟩) (Nat.le_refl _) _).setCell (p := ⟨W3.heap.size, 1, none⟩) (Nat.le_refl _) _).setCell (p := ⟨W3.heap.size, 2, none⟩) (Nat.le_refl _) _)) ?_
    clear hK hHeld
    intro hHeld
    refine wpAnyH_done (by as_aux_lemma => kernel_rfl) ?_ _
    have hmm : m ≤ 1048576 := by omega
    have HHS := hide (fun x => hsize_any h (fh : Int) m x (by omega))
    try simp only [World.size_alloc] at hgb0
    have hgZ : Hid (gb ≠ g ∧ gb ≠ h) := by have := (unhide HWD).size; exact ⟨by omega, by omega⟩
    obtain ⟨zl, hzl⟩ : ∃ zl, (ckB (c.ck.num + 1) slot last ds).length = zl := ⟨_, rfl⟩
    rw [hzl] at hcp
    clear HST HSEAL
    obtain ⟨Z, hZ⟩ : ∃ Z, ((y2.setCell ⟨W3.heap.size, 0, none⟩ (P0 h)).setCell ⟨W3.heap.size, 1, none⟩ (.int .i64 (fh : Int))).setCell ⟨W3.heap.size, 2, none⟩ (.int .i64 (m : Int)) = Z := ⟨_, rfl⟩
    have hne : Hid (W3.heap.size ≠ gb ∧ w.heap.size ≤ W3.heap.size) := by have q1 := (unhide HWD).size; have q2 : W3.drew.heap.size = W3.heap.size := rfl; exact ⟨by omega, by omega⟩
    have HZB : Hid (Below w.heap.size w Z) := hZ ▸ ((((unhide HWD).trans ((unhide HY2).mono (unhide HWD).size)).setCell (p := ⟨W3.heap.size, 0, none⟩) (unhide hne).2 _).setCell (p := ⟨W3.heap.size, 1, none⟩) (unhide hne).2 _).setCell (p := ⟨W3.heap.size, 2, none⟩) (unhide hne).2 _
    have HZZ : Hid (∀ t, t < (ckB (c.ck.num + 1) slot last ds).length → Z.cell? ⟨gb, t, none⟩ = some (.int .u8 ((ckB (c.ck.num + 1) slot last ds).getD t 0))) := fun t ht => by
      have e1 := unhide HZ1 t ht
      have e2 := unhide HKEEP t _ e1
      rw [← hZ, cs_other (addr_ne (Or.inl (unhide hne).1)), cs_other (addr_ne (Or.inl (unhide hne).1)), cs_other (addr_ne (Or.inl (unhide hne).1))]
      exact e2
    have k0 : Z.cell? ⟨W3.heap.size, 0, none⟩ = some (P0 h) := by rw [← hZ, cs_other (addr_ne (Or.inr (by decide))), cs_other (addr_ne (Or.inr (by decide)))]; exact cs_same j0
    have k1 : Z.cell? ⟨W3.heap.size, 1, none⟩ = some (.int .i64 (fh : Int)) := by rw [← hZ, cs_other (addr_ne (Or.inr (by decide)))]; exact cs_same (by rw [cs_other (addr_ne (Or.inr (by decide)))]; exact j1)
    have k2 : Z.cell? ⟨W3.heap.size, 2, none⟩ = some (.int .i64 (m : Int)) := by rw [← hZ]; exact cs_same (by rw [cs_other (addr_ne (Or.inr (by decide))), cs_other (addr_ne (Or.inr (by decide)))]; exact j2)
    try rw [hZ]
    clear hZ j0 j1 j2 jf
    by_cases cL : m * 4096 < zl
    · have HRES : Hid (savW F f m c slot last ds = (3, F)) := by show _ = _; rw [savW, if_pos (by rw [hzl]; exact cL)]
      go_wp2_with fail
      refine (unhide HHS _).mono ?_
      rintro e z1 ⟨rfl, bz1⟩
      have HF : Hid (IsFl z1 g h cap F ∧ Upd (Two g h) w.heap.size w z1) := by
        have b := (unhide HZB).trans (bz1.mono (unhide HZB).size)
        exact ⟨(unhide HSEE z1 b).2, Upd.of b⟩
      have cL' : ((m * 4096 : Nat) : Int) < (zl : Int) := by omega
      clear bz1
      go_wp2
      go_ret
      rw [hgm, hgc, unhide HRES]
      exact ⟨rfl, unhide HF⟩
    · have HRES : Hid (savW F f m c slot last ds = wrtH F (fh) m (ckB (c.ck.num + 1) slot last ds)) := by show _ = _; rw [savW, if_neg (by rw [hzl]; exact cL), unhide HTO, hfh]
      go_wp2_with fail
      refine (unhide HHS _).mono ?_
      rintro e z1 ⟨rfl, bz1⟩
      have cL' : (zl : Int) ≤ ((m * 4096 : Nat) : Int) := by omega
      have HZ1B := hide ((unhide HZB).trans (bz1.mono (unhide HZB).size))
      have m0 := (bz1.cell (p := ⟨W3.heap.size, 0, none⟩) (World.block_lt_of_cell? _ _ k0)).trans k0
      have m1 := (bz1.cell (p := ⟨W3.heap.size, 1, none⟩) (World.block_lt_of_cell? _ _ k1)).trans k1
      have m2 := (bz1.cell (p := ⟨W3.heap.size, 2, none⟩) (World.block_lt_of_cell? _ _ k2)).trans k2
      have HWR := hide (write_any (w := z1) (unhide HSEE z1 (unhide HZ1B)).2 hc0 hm (fh) m (by omega) (by omega) gb cp (ckB (c.ck.num + 1) slot last ds)
        (fun t ht => (bz1.cell (p := ⟨gb, t, none⟩) (World.block_lt_of_cell? _ _ (unhide HZZ t ht))).trans (unhide HZZ t ht)) (by rw [hzl]; exact hcp) (unhide HBYT) (unhide HCL) (unhide hgZ).1 (unhide hgZ).2 (Nat.lt_of_lt_of_le (World.block_lt_of_cell? _ _ (unhide HZZ 0 (ckB_pos _ _ _ _))) bz1.size))
      rw [hzl] at HWR
      have HUZ : Hid (Upd (Two g h) w.heap.size w z1) := Upd.of (unhide HZ1B)
      clear bz1
      go_wp2_with fail
      refine (unhide HWR).mono ?_
      rintro e z2 ⟨rfl, I2, u2⟩
      have HF : Hid (IsFl z2 g h cap (savW F f m c slot last ds).2 ∧ Upd (Two g h) w.heap.size w z2) := by
        rw [unhide HRES]; exact ⟨I2, (unhide HUZ).trans (u2.less (unhide HUZ).size)⟩
      clear I2 u2
      go_wp2
      go_ret
      rw [hgm, hgc]
      rw [unhide HRES] at HF ⊢
      exact ⟨rfl, unhide HF⟩
end Go.Proofs.Ytiijbklaapaheaa
