/- Record: the document's MsgForm, of further kinds. -/
import Derived.Test.YtggllgimlfchhaaGreatDJ
import Derived.Deep.RegionHeld3
namespace Go.Proofs.YtggllgimlfchhaaGreat
open Go.RowKit
set_option maxRecDepth 100000

set_option maxHeartbeats 1600000 in
theorem msgForm2_any (cs : Array Value) (m : MsgD) (w : World) (hM : SeesM w cs m) (hfit : FitM m) (hF : -9223372036854775808 ≤ m.frm ∧ m.frm ≤ 9223372036854775807) (hO : -9223372036854775808 ≤ m.to ∧ m.to ≤ 9223372036854775807) (hk : m.kind = 2) (hm : mayMsg m = true) :
    Calls Tryz.prog 42 #[.agg cs] w fun e w' => ∃ v', e = .returned v' ∧ w'.ownsRow w.heap.size 5 1 v' (msgB m).length (ints .u8 (msgB m)) ∧ Below w.heap.size w w' := by
  have hall := mayMsg_fields hm
  have HFI := hide hfit
  have hft := hfit.term; have hfs := hfit.slot; have hfl := hfit.last; have hfc := hfit.commit
  obtain ⟨lv, tv, dv, rfl, k1, k2, k3⟩ := hM
  have K1 : Hid (∀ x, Below w.heap.size w x → SeesTms x lv m.list) := fun x hb => k1.below hb
  have K2 : Hid (∀ x, Below w.heap.size w x → SeesE x #[.int .i64 m.ent.kind, .int .i64 m.ent.frm, .int .i64 m.ent.num, tv] m.ent) := fun x hb => ⟨_, rfl, k2.below hb⟩
  have K3 : Hid (∀ x, Below w.heap.size w x → SeesP x #[.int .i64 m.part.slot, .int .i64 m.part.idx, .int .i64 m.part.many, dv] m.part) := fun x hb => ⟨_, rfl, k3.below hb⟩
  obtain ⟨la, lc, _, _, rfl, _⟩ := k1
  obtain ⟨ta, tc, _, _, rfl, _⟩ := k2
  obtain ⟨da, dc, rfl, _⟩ := k3
  have HMB : Hid (msgB m = putL [2, m.frm, m.to] ++ flsB (fieldsL 2) m) := (show msgB m = _ from by unfold msgB; rw [hk])
  rw [hk] at hall ⊢
  obtain ⟨aF, EaF⟩ : ∃ x, m.frm = x := ⟨_, rfl⟩
  obtain ⟨aO, EaO⟩ : ∃ x, m.to = x := ⟨_, rfl⟩
  obtain ⟨aT, EaT⟩ : ∃ x, m.term = x := ⟨_, rfl⟩
  obtain ⟨aS, EaS⟩ : ∃ x, m.slot = x := ⟨_, rfl⟩
  obtain ⟨aL, EaL⟩ : ∃ x, m.last = x := ⟨_, rfl⟩
  obtain ⟨aC, EaC⟩ : ∃ x, m.commit = x := ⟨_, rfl⟩
  obtain ⟨aY, EaY⟩ : ∃ x, m.yes = x := ⟨_, rfl⟩
  obtain ⟨ll, Ell⟩ : ∃ x, m.list.length = x := ⟨_, rfl⟩
  obtain ⟨ek, Eek⟩ : ∃ x, m.ent.kind = x := ⟨_, rfl⟩
  obtain ⟨ef, Eef⟩ : ∃ x, m.ent.frm = x := ⟨_, rfl⟩
  obtain ⟨en, Een⟩ : ∃ x, m.ent.num = x := ⟨_, rfl⟩
  obtain ⟨tl, Etl⟩ : ∃ x, m.ent.txns.length = x := ⟨_, rfl⟩
  obtain ⟨ps, Eps⟩ : ∃ x, m.part.slot = x := ⟨_, rfl⟩
  obtain ⟨pi, Epi⟩ : ∃ x, m.part.idx = x := ⟨_, rfl⟩
  obtain ⟨pm, Epm⟩ : ∃ x, m.part.many = x := ⟨_, rfl⟩
  obtain ⟨dl, Edl⟩ : ∃ x, m.part.data.length = x := ⟨_, rfl⟩
  rw [EaF, EaO, EaT, EaS, EaL, EaC, EaY, Ell, Eek, Eef, Een, Etl, Eps, Epi, Epm, Edl]
  rw [Ell] at K1
  simp only [Eek, Eef, Een, Etl] at K2
  simp only [Eps, Epi, Epm, Edl] at K3
  rw [EaF] at hF
  rw [EaO] at hO
  rw [EaF, EaO] at HMB
  rw [EaT] at hft
  rw [EaS] at hfs
  rw [EaL] at hfl
  rw [EaC] at hfc
  have hal : Below w.heap.size w (w.alloc (.cells #[.int .i64 2, .int .i64 aF, .int .i64 aO, .int .i64 aT, .int .i64 aS, .int .i64 aL, .int .i64 aC, .bool aY, .slice la ll lc, .int .i64 ek, .int .i64 ef, .int .i64 en, .slice ta tl tc, .int .i64 ps, .int .i64 pi, .int .i64 pm, .slice da dl dc] 34)) := (Below.refl _ _).alloc (Nat.le_refl _) _
  have hx1 : (w.alloc (.cells #[.int .i64 2, .int .i64 aF, .int .i64 aO, .int .i64 aT, .int .i64 aS, .int .i64 aL, .int .i64 aC, .bool aY, .slice la ll lc, .int .i64 ek, .int .i64 ef, .int .i64 en, .slice ta tl tc, .int .i64 ps, .int .i64 pi, .int .i64 pm, .slice da dl dc] 34)).heap[w.heap.size]? = some (.cells #[.int .i64 2, .int .i64 aF, .int .i64 aO, .int .i64 aT, .int .i64 aS, .int .i64 aL, .int .i64 aC, .bool aY, .slice la ll lc, .int .i64 ek, .int .i64 ef, .int .i64 en, .slice ta tl tc, .int .i64 ps, .int .i64 pi, .int .i64 pm, .slice da dl dc] 34) := heap_alloc_new w _
  have hsz : (w.alloc (.cells #[.int .i64 2, .int .i64 aF, .int .i64 aO, .int .i64 aT, .int .i64 aS, .int .i64 aL, .int .i64 aC, .bool aY, .slice la ll lc, .int .i64 ek, .int .i64 ef, .int .i64 en, .slice ta tl tc, .int .i64 ps, .int .i64 pi, .int .i64 pm, .slice da dl dc] 34)).heap.size = w.heap.size + 1 := by simp
  obtain ⟨w1, hw1⟩ : ∃ y, w.alloc (.cells #[.int .i64 2, .int .i64 aF, .int .i64 aO, .int .i64 aT, .int .i64 aS, .int .i64 aL, .int .i64 aC, .bool aY, .slice la ll lc, .int .i64 ek, .int .i64 ef, .int .i64 en, .slice ta tl tc, .int .i64 ps, .int .i64 pi, .int .i64 pm, .slice da dl dc] 34) = y := ⟨_, rfl⟩
  rw [hw1] at hal hx1 hsz
  have HX : Hid (∀ x, Below (w.heap.size + 1) w1 x → x.heap[w.heap.size]? = some (.cells #[.int .i64 2, .int .i64 aF, .int .i64 aO, .int .i64 aT, .int .i64 aS, .int .i64 aL, .int .i64 aC, .bool aY, .slice la ll lc, .int .i64 ek, .int .i64 ef, .int .i64 en, .slice ta tl tc, .int .i64 ps, .int .i64 pi, .int .i64 pm, .slice da dl dc] 34)) := fun x hb => (hb.block _ (by omega)).trans hx1
  have HBW : Hid (∀ x, Below (w.heap.size + 1) w1 x → Below w.heap.size w x) := fun x hb => hal.trans (hb.mono (by omega))
  have c0 : w1.cell? ⟨w.heap.size, 0, none⟩ = some (.int .i64 2) := cell_of_heap hx1
  have c1 : w1.cell? ⟨w.heap.size, 1, none⟩ = some (.int .i64 aF) := cell_of_heap hx1
  have c2 : w1.cell? ⟨w.heap.size, 2, none⟩ = some (.int .i64 aO) := cell_of_heap hx1
  have HN1 := hide (refn_any (.slice none 0 0) _ [] [2, aF, aO] _ (Sees.nil _ _) (sees_lit w1 [2, aF, aO] (by simp)) (by simp) (i64_of fun x hx => by simp at hx; rcases hx with rfl | rfl | rfl <;> omega) (by have : sizeL [2, aF, aO] ≤ 27 := sizeL_le [2, aF, aO]; simp; omega))
  simp only [List.length_cons, List.length_nil, Nat.reduceAdd, List.nil_append] at HN1
  have HB2 : Hid (Below (w.heap.size + 1) w1 (w1.alloc (.cells #[.int .i64 2, .int .i64 aF, .int .i64 aO] 2))) := (Below.refl _ _).alloc (by omega) _
  have HSZ := hide hsz
  clear hal hx1 hsz hm
  go_enter Tryz.func42, Tryz.ntmps42
  go_wp2_with (rw [hw1])
  refine (unhide HN1).mono ?_
  rintro e y1 ⟨v1, rfl, o1, r1⟩
  have hB1 : Below (w.heap.size + 1) w1 y1 := (unhide HB2).trans (r1.mono (by simp [unhide HSZ]))
  have hx := unhide HX y1 hB1
  have HB1 := hide hB1
  have O1 : Hid (y1.ownsRow (w.heap.size + 1) 5 1 v1 (putL [2, aF, aO]).length (ints .u8 (putL [2, aF, aO]))) := own_mono o1 (by simp [unhide HSZ])
  obtain ⟨a1, cc1, rfl⟩ := own_shape o1
  have d0x : y1.cell? ⟨w.heap.size, 0, none⟩ = some (.int .i64 2) := cell_of_heap hx
  have HC3 : Hid (∀ x, Below (w.heap.size + 1) w1 x → x.cell? ⟨w.heap.size, 3, none⟩ = some (.int .i64 aT)) := fun x hb => cell_of_heap (unhide HX x hb)
  have HC7 : Hid (∀ x, Below (w.heap.size + 1) w1 x → x.cell? ⟨w.heap.size, 7, none⟩ = some (.bool aY)) := fun x hb => cell_of_heap (unhide HX x hb)
  have hz2 : Below y1.heap.size y1 (y1.alloc (.cells #[.int .i64 aT] 2)).drew := ((Below.refl _ _).alloc (Nat.le_refl _) _).drew
  have HN2 := hide (refn_any _ _ (putL [2, aF, aO]) [aT] _ ((sees_of_own (unhide O1)).2.below hz2) ((sees_lit y1 [aT] (by simp)).below (Below.refl _ _).drew) (by simp) (i64_of fun x hx => by simp at hx; first | (subst hx; assumption) | (rcases hx with rfl | rfl | rfl | rfl <;> assumption) | (rcases hx with rfl | rfl | rfl <;> assumption)) (by
    have h1 : sizeL [aT] ≤ 9 * 1 := sizeL_le [aT]
    have h2 := putL_le [(2 : Int), aF, aO]
    simp only [List.length_cons, List.length_nil] at h2
    omega))
  simp only [List.length_cons, List.length_nil, Nat.reduceAdd] at HN2
  have HZ2 : Hid (Below (w.heap.size + 1) w1 (y1.alloc (.cells #[.int .i64 aT] 2)).drew) := (unhide HB1).trans (hz2.mono (by have := (unhide HB1).size; have := unhide HSZ; omega))
  have HMM : Hid (msgB m = putL [2, aF, aO] ++ (putL [aT] ++ putL [if m.yes then 1 else 0])) := (show msgB m = _ from by
    rw [unhide HMB]
    have e : flsB (fieldsL 2) m = putL [aT] ++ putL [if m.yes then 1 else 0] := by simp [flsB, fieldsL, fB, EaT]
    rw [e])
  have hl1 := putL_le [(2 : Int), aF, aO]
  have hl2 := putL_le [aT]
  simp only [List.length_cons, List.length_nil] at hl1 hl2
  obtain ⟨XS, hXS⟩ : ∃ z, putL [2, aF, aO] = z := ⟨_, rfl⟩
  rw [hXS] at HN2 HMM hl1
  rw [hXS]
  obtain ⟨n1, hn1⟩ : ∃ z, XS.length = z := ⟨_, rfl⟩
  rw [hn1] at HN2
  rw [hn1]
  have HNN := hide hn1
  have HL1 := hide hl1
  have HL2 := hide hl2
  clear hn1 hXS o1 r1 hB1 hx hz2 HN1 hft hfs hfl hfc hF hO hl1 hl2
  go_wp2_with fail
  refine wp_region_held_drew (S := fun x => Below (w.heap.size + 1) w1 x) (by kernel_rfl) (unhide HB1).drew (fun hHeld => ?_)
  refine wpAnyH_take (i := 0) (v := ?v1x0) rfl (by as_aux_lemma => kernel_rfl) (by as_aux_lemma => kernel_rfl) (by as_aux_lemma => kernel_rfl) (fun _ _ _ h => h) (Or.inl ⟨by rfl, ?hy1x0⟩) (by assumption) ?rest1x0
  case hy1x0 => intro w hSw; go_simp <;> with_reducible rfl
  simp only [Act.put, List.getElem_toArray, List.getElem_cons_zero, List.setIfInBounds_toArray, List.set_cons_zero, List.set_cons_succ]
  refine wpAnyH_take (i := 1) (v := ?v2x1) rfl (by as_aux_lemma => kernel_rfl) (by as_aux_lemma => kernel_rfl) (by as_aux_lemma => kernel_rfl) (fun _ _ _ h => h) (Or.inl ⟨by rfl, ?hy2x1⟩) (by assumption) ?rest2x1
  case hy2x1 => intro w hSw; go_simp <;> with_reducible rfl
  simp only [Act.put, List.getElem_toArray, List.getElem_cons_zero, List.getElem_cons_succ, List.setIfInBounds_toArray, List.set_cons_zero, List.set_cons_succ]
  refine wpAnyH_take (i := 2) (v := (.int .i64 aT)) rfl (by as_aux_lemma => kernel_rfl) (by as_aux_lemma => kernel_rfl) (by as_aux_lemma => kernel_rfl) (fun _ _ _ h => h) (Or.inl ⟨by rfl, ?hy3x2⟩) (by assumption) ?rest3x2
  case hy3x2 => intro w hSw; have g0 := unhide HC3 _ hSw; go_simp <;> with_reducible rfl
  simp only [Act.put, List.getElem_toArray, List.getElem_cons_zero, List.getElem_cons_succ, List.setIfInBounds_toArray, List.set_cons_zero, List.set_cons_succ]
  refine wpAnyH_take (i := 5) (v := ?v4x5) rfl (by as_aux_lemma => kernel_rfl) (by as_aux_lemma => kernel_rfl) (by as_aux_lemma => kernel_rfl) (fun _ _ _ h => h) (Or.inl ⟨by rfl, ?hy4x5⟩) (by assumption) ?rest4x5
  case hy4x5 => intro w hSw; go_simp <;> with_reducible rfl
  simp only [Act.put, List.getElem_toArray, List.getElem_cons_zero, List.getElem_cons_succ, List.setIfInBounds_toArray, List.set_cons_zero, List.set_cons_succ]
  refine wpAnyH_take (i := 6) (v := (.bool aY)) rfl (by as_aux_lemma => kernel_rfl) (by as_aux_lemma => kernel_rfl) (by as_aux_lemma => kernel_rfl) (fun _ _ _ h => h) (Or.inl ⟨by rfl, ?hy5x6⟩) (by assumption) ?rest5x6
  case hy5x6 => intro w hSw; have g0 := unhide HC7 _ hSw; go_simp <;> with_reducible rfl
  simp only [Act.put, List.getElem_toArray, List.getElem_cons_zero, List.getElem_cons_succ, List.setIfInBounds_toArray, List.set_cons_zero, List.set_cons_succ]
  refine wpAnyH_ready (rs := [3]) (by as_aux_lemma => kernel_rfl) (by simp) ?_
  refine AllReadyH.cons rfl (fun K hK => ?_) AllReadyH.nil
  go_simp
  refine hK _ _ (unhide HZ2) ?_
  clear hK hHeld
  intro hHeld
  refine wpAnyH_ready (rs := [4]) (by as_aux_lemma => kernel_rfl) (by simp) ?_
  refine AllReadyH.cons rfl (fun K hK => ?_) AllReadyH.nil
  go_simp
  refine (unhide HN2).mono ?_
  rintro e y2 ⟨v2, rfl, o2, r2⟩
  refine hK _ _ ((unhide HZ2).trans (r2.mono (by have := (unhide HB1).size; have := unhide HSZ; simp; omega))) ?_
  clear hK hHeld
  have HB3 : Hid (Below (w.heap.size + 1) w1 y2) := (unhide HZ2).trans (r2.mono (by have := (unhide HB1).size; have := unhide HSZ; simp; omega))
  have HO2 : Hid (y2.ownsRow (w.heap.size + 1) 5 1 v2 (XS ++ putL [aT]).length (ints .u8 (XS ++ putL [aT]))) := own_mono o2 (by have := (unhide HB1).size; have := unhide HSZ; simp; omega)
  obtain ⟨a2, c2, rfl⟩ := own_shape o2
  obtain ⟨n2, hn2⟩ : ∃ z, (XS ++ putL [aT]).length = z := ⟨_, rfl⟩
  rw [hn2]
  have HN3 := hide hn2
  clear o2 r2 HN2
  have HT2 := hide (refYes_any _ (XS ++ putL [aT]) m.yes y2 (sees_of_own (unhide HO2)).2 (by have := unhide HL1; have := unhide HL2; simp only [List.length_append]; omega))
  rw [EaY, hn2] at HT2
  clear hn2
  intro hHeld
  refine wpAnyH_ready (rs := [7]) (by as_aux_lemma => kernel_rfl) (by simp) ?_
  refine AllReadyH.cons rfl (fun K hK => ?_) AllReadyH.nil
  go_simp
  refine (unhide HT2).mono ?_
  rintro e y3 ⟨v3, rfl, o3, r3⟩
  refine hK _ _ ((unhide HB3).trans (r3.mono (by have := (unhide HB3).size; have := unhide HSZ; omega))) ?_
  clear hK hHeld
  intro hHeld
  refine wpAnyH_take (i := 8) (v := ?v6x8) rfl (by as_aux_lemma => kernel_rfl) (by as_aux_lemma => kernel_rfl) (by as_aux_lemma => kernel_rfl) (fun _ _ _ h => h) (Or.inl ⟨by rfl, ?hy6x8⟩) (by assumption) ?rest6x8
  case hy6x8 => intro w hSw; go_simp <;> with_reducible rfl
  simp only [Act.put, List.getElem_toArray, List.getElem_cons_zero, List.getElem_cons_succ, List.setIfInBounds_toArray, List.set_cons_zero, List.set_cons_succ]
  refine wpAnyH_done (by as_aux_lemma => kernel_rfl) ?_ _
  have HF : Hid (y3.ownsRow w.heap.size 5 1 v3 (msgB m).length (ints .u8 (msgB m)) ∧ Below w.heap.size w y3) := by
    show _ ∧ _
    have hb3 := unhide HBW y2 (unhide HB3)
    rw [unhide HMM, EaY]
    have h3 := own_mono o3 hb3.size
    simp only [List.append_assoc] at h3 ⊢
    exact ⟨h3, hb3.trans (r3.mono hb3.size)⟩
  clear o3 r3
  clear hHeld
  go_wp2
  go_ret
  exact ⟨_, rfl, unhide HF⟩

set_option maxHeartbeats 1600000 in
theorem msgForm3_any (cs : Array Value) (m : MsgD) (w : World) (hM : SeesM w cs m) (hfit : FitM m) (hF : -9223372036854775808 ≤ m.frm ∧ m.frm ≤ 9223372036854775807) (hO : -9223372036854775808 ≤ m.to ∧ m.to ≤ 9223372036854775807) (hk : m.kind = 3) (hm : mayMsg m = true) :
    Calls Tryz.prog 42 #[.agg cs] w fun e w' => ∃ v', e = .returned v' ∧ w'.ownsRow w.heap.size 5 1 v' (msgB m).length (ints .u8 (msgB m)) ∧ Below w.heap.size w w' := by
  have hall := mayMsg_fields hm
  have HFI := hide hfit
  have hft := hfit.term; have hfs := hfit.slot; have hfl := hfit.last; have hfc := hfit.commit
  obtain ⟨lv, tv, dv, rfl, k1, k2, k3⟩ := hM
  have K1 : Hid (∀ x, Below w.heap.size w x → SeesTms x lv m.list) := fun x hb => k1.below hb
  have K2 : Hid (∀ x, Below w.heap.size w x → SeesE x #[.int .i64 m.ent.kind, .int .i64 m.ent.frm, .int .i64 m.ent.num, tv] m.ent) := fun x hb => ⟨_, rfl, k2.below hb⟩
  have K3 : Hid (∀ x, Below w.heap.size w x → SeesP x #[.int .i64 m.part.slot, .int .i64 m.part.idx, .int .i64 m.part.many, dv] m.part) := fun x hb => ⟨_, rfl, k3.below hb⟩
  obtain ⟨la, lc, _, _, rfl, _⟩ := k1
  obtain ⟨ta, tc, _, _, rfl, _⟩ := k2
  obtain ⟨da, dc, rfl, _⟩ := k3
  have HMB : Hid (msgB m = putL [3, m.frm, m.to] ++ flsB (fieldsL 3) m) := (show msgB m = _ from by unfold msgB; rw [hk])
  rw [hk] at hall ⊢
  obtain ⟨aF, EaF⟩ : ∃ x, m.frm = x := ⟨_, rfl⟩
  obtain ⟨aO, EaO⟩ : ∃ x, m.to = x := ⟨_, rfl⟩
  obtain ⟨aT, EaT⟩ : ∃ x, m.term = x := ⟨_, rfl⟩
  obtain ⟨aS, EaS⟩ : ∃ x, m.slot = x := ⟨_, rfl⟩
  obtain ⟨aL, EaL⟩ : ∃ x, m.last = x := ⟨_, rfl⟩
  obtain ⟨aC, EaC⟩ : ∃ x, m.commit = x := ⟨_, rfl⟩
  obtain ⟨aY, EaY⟩ : ∃ x, m.yes = x := ⟨_, rfl⟩
  obtain ⟨ll, Ell⟩ : ∃ x, m.list.length = x := ⟨_, rfl⟩
  obtain ⟨ek, Eek⟩ : ∃ x, m.ent.kind = x := ⟨_, rfl⟩
  obtain ⟨ef, Eef⟩ : ∃ x, m.ent.frm = x := ⟨_, rfl⟩
  obtain ⟨en, Een⟩ : ∃ x, m.ent.num = x := ⟨_, rfl⟩
  obtain ⟨tl, Etl⟩ : ∃ x, m.ent.txns.length = x := ⟨_, rfl⟩
  obtain ⟨ps, Eps⟩ : ∃ x, m.part.slot = x := ⟨_, rfl⟩
  obtain ⟨pi, Epi⟩ : ∃ x, m.part.idx = x := ⟨_, rfl⟩
  obtain ⟨pm, Epm⟩ : ∃ x, m.part.many = x := ⟨_, rfl⟩
  obtain ⟨dl, Edl⟩ : ∃ x, m.part.data.length = x := ⟨_, rfl⟩
  rw [EaF, EaO, EaT, EaS, EaL, EaC, EaY, Ell, Eek, Eef, Een, Etl, Eps, Epi, Epm, Edl]
  rw [Ell] at K1
  simp only [Eek, Eef, Een, Etl] at K2
  simp only [Eps, Epi, Epm, Edl] at K3
  rw [EaF] at hF
  rw [EaO] at hO
  rw [EaF, EaO] at HMB
  rw [EaT] at hft
  rw [EaS] at hfs
  rw [EaL] at hfl
  rw [EaC] at hfc
  have hal : Below w.heap.size w (w.alloc (.cells #[.int .i64 3, .int .i64 aF, .int .i64 aO, .int .i64 aT, .int .i64 aS, .int .i64 aL, .int .i64 aC, .bool aY, .slice la ll lc, .int .i64 ek, .int .i64 ef, .int .i64 en, .slice ta tl tc, .int .i64 ps, .int .i64 pi, .int .i64 pm, .slice da dl dc] 34)) := (Below.refl _ _).alloc (Nat.le_refl _) _
  have hx1 : (w.alloc (.cells #[.int .i64 3, .int .i64 aF, .int .i64 aO, .int .i64 aT, .int .i64 aS, .int .i64 aL, .int .i64 aC, .bool aY, .slice la ll lc, .int .i64 ek, .int .i64 ef, .int .i64 en, .slice ta tl tc, .int .i64 ps, .int .i64 pi, .int .i64 pm, .slice da dl dc] 34)).heap[w.heap.size]? = some (.cells #[.int .i64 3, .int .i64 aF, .int .i64 aO, .int .i64 aT, .int .i64 aS, .int .i64 aL, .int .i64 aC, .bool aY, .slice la ll lc, .int .i64 ek, .int .i64 ef, .int .i64 en, .slice ta tl tc, .int .i64 ps, .int .i64 pi, .int .i64 pm, .slice da dl dc] 34) := heap_alloc_new w _
  have hsz : (w.alloc (.cells #[.int .i64 3, .int .i64 aF, .int .i64 aO, .int .i64 aT, .int .i64 aS, .int .i64 aL, .int .i64 aC, .bool aY, .slice la ll lc, .int .i64 ek, .int .i64 ef, .int .i64 en, .slice ta tl tc, .int .i64 ps, .int .i64 pi, .int .i64 pm, .slice da dl dc] 34)).heap.size = w.heap.size + 1 := by simp
  obtain ⟨w1, hw1⟩ : ∃ y, w.alloc (.cells #[.int .i64 3, .int .i64 aF, .int .i64 aO, .int .i64 aT, .int .i64 aS, .int .i64 aL, .int .i64 aC, .bool aY, .slice la ll lc, .int .i64 ek, .int .i64 ef, .int .i64 en, .slice ta tl tc, .int .i64 ps, .int .i64 pi, .int .i64 pm, .slice da dl dc] 34) = y := ⟨_, rfl⟩
  rw [hw1] at hal hx1 hsz
  have HX : Hid (∀ x, Below (w.heap.size + 1) w1 x → x.heap[w.heap.size]? = some (.cells #[.int .i64 3, .int .i64 aF, .int .i64 aO, .int .i64 aT, .int .i64 aS, .int .i64 aL, .int .i64 aC, .bool aY, .slice la ll lc, .int .i64 ek, .int .i64 ef, .int .i64 en, .slice ta tl tc, .int .i64 ps, .int .i64 pi, .int .i64 pm, .slice da dl dc] 34)) := fun x hb => (hb.block _ (by omega)).trans hx1
  have HBW : Hid (∀ x, Below (w.heap.size + 1) w1 x → Below w.heap.size w x) := fun x hb => hal.trans (hb.mono (by omega))
  have c0 : w1.cell? ⟨w.heap.size, 0, none⟩ = some (.int .i64 3) := cell_of_heap hx1
  have c1 : w1.cell? ⟨w.heap.size, 1, none⟩ = some (.int .i64 aF) := cell_of_heap hx1
  have c2 : w1.cell? ⟨w.heap.size, 2, none⟩ = some (.int .i64 aO) := cell_of_heap hx1
  have HN1 := hide (refn_any (.slice none 0 0) _ [] [3, aF, aO] _ (Sees.nil _ _) (sees_lit w1 [3, aF, aO] (by simp)) (by simp) (i64_of fun x hx => by simp at hx; rcases hx with rfl | rfl | rfl <;> omega) (by have : sizeL [3, aF, aO] ≤ 27 := sizeL_le [3, aF, aO]; simp; omega))
  simp only [List.length_cons, List.length_nil, Nat.reduceAdd, List.nil_append] at HN1
  have HB2 : Hid (Below (w.heap.size + 1) w1 (w1.alloc (.cells #[.int .i64 3, .int .i64 aF, .int .i64 aO] 2))) := (Below.refl _ _).alloc (by omega) _
  have HSZ := hide hsz
  clear hal hx1 hsz hm
  go_enter Tryz.func42, Tryz.ntmps42
  go_wp2_with (rw [hw1])
  refine (unhide HN1).mono ?_
  rintro e y1 ⟨v1, rfl, o1, r1⟩
  have hB1 : Below (w.heap.size + 1) w1 y1 := (unhide HB2).trans (r1.mono (by simp [unhide HSZ]))
  have hx := unhide HX y1 hB1
  have HB1 := hide hB1
  have O1 : Hid (y1.ownsRow (w.heap.size + 1) 5 1 v1 (putL [3, aF, aO]).length (ints .u8 (putL [3, aF, aO]))) := own_mono o1 (by simp [unhide HSZ])
  obtain ⟨a1, cc1, rfl⟩ := own_shape o1
  have d0x : y1.cell? ⟨w.heap.size, 0, none⟩ = some (.int .i64 3) := cell_of_heap hx
  have HC3 : Hid (∀ x, Below (w.heap.size + 1) w1 x → x.cell? ⟨w.heap.size, 3, none⟩ = some (.int .i64 aT)) := fun x hb => cell_of_heap (unhide HX x hb)
  have HC4 : Hid (∀ x, Below (w.heap.size + 1) w1 x → x.cell? ⟨w.heap.size, 4, none⟩ = some (.int .i64 aS)) := fun x hb => cell_of_heap (unhide HX x hb)
  have HC5 : Hid (∀ x, Below (w.heap.size + 1) w1 x → x.cell? ⟨w.heap.size, 5, none⟩ = some (.int .i64 aL)) := fun x hb => cell_of_heap (unhide HX x hb)
  have HC6 : Hid (∀ x, Below (w.heap.size + 1) w1 x → x.cell? ⟨w.heap.size, 6, none⟩ = some (.int .i64 aC)) := fun x hb => cell_of_heap (unhide HX x hb)
  have HC8 : Hid (∀ x, Below (w.heap.size + 1) w1 x → x.cell? ⟨w.heap.size, 8, none⟩ = some (.slice la ll lc)) := fun x hb => cell_of_heap (unhide HX x hb)
  have hz2 : Below y1.heap.size y1 (y1.alloc (.cells #[.int .i64 aT, .int .i64 aS, .int .i64 aL, .int .i64 aC] 2)).drew := ((Below.refl _ _).alloc (Nat.le_refl _) _).drew
  have HN2 := hide (refn_any _ _ (putL [3, aF, aO]) [aT, aS, aL, aC] _ ((sees_of_own (unhide O1)).2.below hz2) ((sees_lit y1 [aT, aS, aL, aC] (by simp)).below (Below.refl _ _).drew) (by simp) (i64_of fun x hx => by simp at hx; first | (subst hx; assumption) | (rcases hx with rfl | rfl | rfl | rfl <;> assumption) | (rcases hx with rfl | rfl | rfl <;> assumption)) (by
    have h1 : sizeL [aT, aS, aL, aC] ≤ 9 * 4 := sizeL_le [aT, aS, aL, aC]
    have h2 := putL_le [(3 : Int), aF, aO]
    simp only [List.length_cons, List.length_nil] at h2
    omega))
  simp only [List.length_cons, List.length_nil, Nat.reduceAdd] at HN2
  have HZ2 : Hid (Below (w.heap.size + 1) w1 (y1.alloc (.cells #[.int .i64 aT, .int .i64 aS, .int .i64 aL, .int .i64 aC] 2)).drew) := (unhide HB1).trans (hz2.mono (by have := (unhide HB1).size; have := unhide HSZ; omega))
  have HMM : Hid (msgB m = putL [3, aF, aO] ++ (putL [aT, aS, aL, aC] ++ (putL [(m.list.length : Int)] ++ tmsB m.list))) := (show msgB m = _ from by
    rw [unhide HMB]
    have e2 : putL [aT, aS, aL, aC] = putL [aT] ++ (putL [aS] ++ (putL [aL] ++ putL [aC])) := by rw [← putL_app, ← putL_app, ← putL_app]; rfl
    rw [e2]
    have e : flsB (fieldsL 3) m = putL [aT] ++ (putL [aS] ++ (putL [aL] ++ putL [aC])) ++ (putL [(m.list.length : Int)] ++ tmsB m.list) := by simp [flsB, fieldsL, fB, EaT, EaS, EaL, EaC]
    rw [e])
  have hm5 := hall 5 (by simp [fieldsL])
  have hm6 : (decide (m.list.length ≤ 4096) && m.list.all mayTm) = true := by simpa [fMay] using hm5
  simp only [Bool.and_eq_true, decide_eq_true_eq, List.all_eq_true] at hm6
  have HM6 := hide hm6
  clear hm5 hm6
  have hl1 := putL_le [(3 : Int), aF, aO]
  have hl2 := putL_le [aT, aS, aL, aC]
  simp only [List.length_cons, List.length_nil] at hl1 hl2
  obtain ⟨XS, hXS⟩ : ∃ z, putL [3, aF, aO] = z := ⟨_, rfl⟩
  rw [hXS] at HN2 HMM hl1
  rw [hXS]
  obtain ⟨n1, hn1⟩ : ∃ z, XS.length = z := ⟨_, rfl⟩
  rw [hn1] at HN2
  rw [hn1]
  have HNN := hide hn1
  have HL1 := hide hl1
  have HL2 := hide hl2
  clear hn1 hXS o1 r1 hB1 hx hz2 HN1 hft hfs hfl hfc hF hO hl1 hl2
  go_wp2_with fail
  refine wp_region_held_drew (S := fun x => Below (w.heap.size + 1) w1 x) (by kernel_rfl) (unhide HB1).drew (fun hHeld => ?_)
  refine wpAnyH_take (i := 0) (v := ?v7x0) rfl (by as_aux_lemma => kernel_rfl) (by as_aux_lemma => kernel_rfl) (by as_aux_lemma => kernel_rfl) (fun _ _ _ h => h) (Or.inl ⟨by rfl, ?hy7x0⟩) (by assumption) ?rest7x0
  case hy7x0 => intro w hSw; go_simp <;> with_reducible rfl
  simp only [Act.put, List.getElem_toArray, List.getElem_cons_zero, List.setIfInBounds_toArray, List.set_cons_zero, List.set_cons_succ]
  refine wpAnyH_take (i := 1) (v := ?v8x1) rfl (by as_aux_lemma => kernel_rfl) (by as_aux_lemma => kernel_rfl) (by as_aux_lemma => kernel_rfl) (fun _ _ _ h => h) (Or.inl ⟨by rfl, ?hy8x1⟩) (by assumption) ?rest8x1
  case hy8x1 => intro w hSw; go_simp <;> with_reducible rfl
  simp only [Act.put, List.getElem_toArray, List.getElem_cons_zero, List.getElem_cons_succ, List.setIfInBounds_toArray, List.set_cons_zero, List.set_cons_succ]
  refine wpAnyH_take (i := 2) (v := (.int .i64 aT)) rfl (by as_aux_lemma => kernel_rfl) (by as_aux_lemma => kernel_rfl) (by as_aux_lemma => kernel_rfl) (fun _ _ _ h => h) (Or.inl ⟨by rfl, ?hy9x2⟩) (by assumption) ?rest9x2
  case hy9x2 => intro w hSw; have g0 := unhide HC3 _ hSw; go_simp <;> with_reducible rfl
  simp only [Act.put, List.getElem_toArray, List.getElem_cons_zero, List.getElem_cons_succ, List.setIfInBounds_toArray, List.set_cons_zero, List.set_cons_succ]
  refine wpAnyH_take (i := 3) (v := ?v10x3) rfl (by as_aux_lemma => kernel_rfl) (by as_aux_lemma => kernel_rfl) (by as_aux_lemma => kernel_rfl) (fun _ _ _ h => h) (Or.inl ⟨by rfl, ?hy10x3⟩) (by assumption) ?rest10x3
  case hy10x3 => intro w hSw; go_simp <;> with_reducible rfl
  simp only [Act.put, List.getElem_toArray, List.getElem_cons_zero, List.getElem_cons_succ, List.setIfInBounds_toArray, List.set_cons_zero, List.set_cons_succ]
  refine wpAnyH_take (i := 4) (v := (.int .i64 aS)) rfl (by as_aux_lemma => kernel_rfl) (by as_aux_lemma => kernel_rfl) (by as_aux_lemma => kernel_rfl) (fun _ _ _ h => h) (Or.inl ⟨by rfl, ?hy11x4⟩) (by assumption) ?rest11x4
  case hy11x4 => intro w hSw; have g0 := unhide HC4 _ hSw; go_simp <;> with_reducible rfl
  simp only [Act.put, List.getElem_toArray, List.getElem_cons_zero, List.getElem_cons_succ, List.setIfInBounds_toArray, List.set_cons_zero, List.set_cons_succ]
  refine wpAnyH_take (i := 5) (v := ?v12x5) rfl (by as_aux_lemma => kernel_rfl) (by as_aux_lemma => kernel_rfl) (by as_aux_lemma => kernel_rfl) (fun _ _ _ h => h) (Or.inl ⟨by rfl, ?hy12x5⟩) (by assumption) ?rest12x5
  case hy12x5 => intro w hSw; go_simp <;> with_reducible rfl
  simp only [Act.put, List.getElem_toArray, List.getElem_cons_zero, List.getElem_cons_succ, List.setIfInBounds_toArray, List.set_cons_zero, List.set_cons_succ]
  refine wpAnyH_take (i := 6) (v := (.int .i64 aL)) rfl (by as_aux_lemma => kernel_rfl) (by as_aux_lemma => kernel_rfl) (by as_aux_lemma => kernel_rfl) (fun _ _ _ h => h) (Or.inl ⟨by rfl, ?hy13x6⟩) (by assumption) ?rest13x6
  case hy13x6 => intro w hSw; have g0 := unhide HC5 _ hSw; go_simp <;> with_reducible rfl
  simp only [Act.put, List.getElem_toArray, List.getElem_cons_zero, List.getElem_cons_succ, List.setIfInBounds_toArray, List.set_cons_zero, List.set_cons_succ]
  refine wpAnyH_take (i := 7) (v := ?v14x7) rfl (by as_aux_lemma => kernel_rfl) (by as_aux_lemma => kernel_rfl) (by as_aux_lemma => kernel_rfl) (fun _ _ _ h => h) (Or.inl ⟨by rfl, ?hy14x7⟩) (by assumption) ?rest14x7
  case hy14x7 => intro w hSw; go_simp <;> with_reducible rfl
  simp only [Act.put, List.getElem_toArray, List.getElem_cons_zero, List.getElem_cons_succ, List.setIfInBounds_toArray, List.set_cons_zero, List.set_cons_succ]
  refine wpAnyH_take (i := 8) (v := (.int .i64 aC)) rfl (by as_aux_lemma => kernel_rfl) (by as_aux_lemma => kernel_rfl) (by as_aux_lemma => kernel_rfl) (fun _ _ _ h => h) (Or.inl ⟨by rfl, ?hy15x8⟩) (by assumption) ?rest15x8
  case hy15x8 => intro w hSw; have g0 := unhide HC6 _ hSw; go_simp <;> with_reducible rfl
  simp only [Act.put, List.getElem_toArray, List.getElem_cons_zero, List.getElem_cons_succ, List.setIfInBounds_toArray, List.set_cons_zero, List.set_cons_succ]
  refine wpAnyH_take (i := 11) (v := ?v16x11) rfl (by as_aux_lemma => kernel_rfl) (by as_aux_lemma => kernel_rfl) (by as_aux_lemma => kernel_rfl) (fun _ _ _ h => h) (Or.inl ⟨by rfl, ?hy16x11⟩) (by assumption) ?rest16x11
  case hy16x11 => intro w hSw; go_simp <;> with_reducible rfl
  simp only [Act.put, List.getElem_toArray, List.getElem_cons_zero, List.getElem_cons_succ, List.setIfInBounds_toArray, List.set_cons_zero, List.set_cons_succ]
  refine wpAnyH_take (i := 12) (v := (.slice la ll lc)) rfl (by as_aux_lemma => kernel_rfl) (by as_aux_lemma => kernel_rfl) (by as_aux_lemma => kernel_rfl) (fun _ _ _ h => h) (Or.inl ⟨by rfl, ?hy17x12⟩) (by assumption) ?rest17x12
  case hy17x12 => intro w hSw; have g0 := unhide HC8 _ hSw; go_simp <;> with_reducible rfl
  simp only [Act.put, List.getElem_toArray, List.getElem_cons_zero, List.getElem_cons_succ, List.setIfInBounds_toArray, List.set_cons_zero, List.set_cons_succ]
  refine wpAnyH_ready (rs := [9]) (by as_aux_lemma => kernel_rfl) (by simp) ?_
  refine AllReadyH.cons rfl (fun K hK => ?_) AllReadyH.nil
  go_simp
  refine hK _ _ (unhide HZ2) ?_
  clear hK hHeld
  intro hHeld
  refine wpAnyH_ready (rs := [10]) (by as_aux_lemma => kernel_rfl) (by simp) ?_
  refine AllReadyH.cons rfl (fun K hK => ?_) AllReadyH.nil
  go_simp
  refine (unhide HN2).mono ?_
  rintro e y2 ⟨v2, rfl, o2, r2⟩
  refine hK _ _ ((unhide HZ2).trans (r2.mono (by have := (unhide HB1).size; have := unhide HSZ; simp; omega))) ?_
  clear hK hHeld
  have HB3 : Hid (Below (w.heap.size + 1) w1 y2) := (unhide HZ2).trans (r2.mono (by have := (unhide HB1).size; have := unhide HSZ; simp; omega))
  have HO2 : Hid (y2.ownsRow (w.heap.size + 1) 5 1 v2 (XS ++ putL [aT, aS, aL, aC]).length (ints .u8 (XS ++ putL [aT, aS, aL, aC]))) := own_mono o2 (by have := (unhide HB1).size; have := unhide HSZ; simp; omega)
  obtain ⟨a2, c2, rfl⟩ := own_shape o2
  obtain ⟨n2, hn2⟩ : ∃ z, (XS ++ putL [aT, aS, aL, aC]).length = z := ⟨_, rfl⟩
  rw [hn2]
  have HN3 := hide hn2
  clear o2 r2 HN2
  have HT2 := hide (lists_any _ (XS ++ putL [aT, aS, aL, aC]) _ m.list y2 (sees_of_own (unhide HO2)).2 (unhide K1 y2 (unhide HBW y2 (unhide HB3))) (unhide HFI).list (fun t ht => by have := (unhide HM6).2 t ht; simp only [mayTm, Bool.and_eq_true] at this; exact this.2) (unhide HM6).1 (by have := unhide HL1; have := unhide HL2; simp only [List.length_append]; omega))
  rw [hn2] at HT2
  clear hn2
  intro hHeld
  refine wpAnyH_ready (rs := [13]) (by as_aux_lemma => kernel_rfl) (by simp) ?_
  refine AllReadyH.cons rfl (fun K hK => ?_) AllReadyH.nil
  go_simp
  refine (unhide HT2).mono ?_
  rintro e y3 ⟨v3, rfl, o3, r3⟩
  refine hK _ _ ((unhide HB3).trans (r3.mono (by have := (unhide HB3).size; have := unhide HSZ; omega))) ?_
  clear hK hHeld
  intro hHeld
  refine wpAnyH_take (i := 14) (v := ?v18x14) rfl (by as_aux_lemma => kernel_rfl) (by as_aux_lemma => kernel_rfl) (by as_aux_lemma => kernel_rfl) (fun _ _ _ h => h) (Or.inl ⟨by rfl, ?hy18x14⟩) (by assumption) ?rest18x14
  case hy18x14 => intro w hSw; go_simp <;> with_reducible rfl
  simp only [Act.put, List.getElem_toArray, List.getElem_cons_zero, List.getElem_cons_succ, List.setIfInBounds_toArray, List.set_cons_zero, List.set_cons_succ]
  refine wpAnyH_done (by as_aux_lemma => kernel_rfl) ?_ _
  have HF : Hid (y3.ownsRow w.heap.size 5 1 v3 (msgB m).length (ints .u8 (msgB m)) ∧ Below w.heap.size w y3) := by
    show _ ∧ _
    have hb3 := unhide HBW y2 (unhide HB3)
    rw [unhide HMM]
    have h3 := own_mono o3 hb3.size
    simp only [List.append_assoc] at h3 ⊢
    exact ⟨h3, hb3.trans (r3.mono hb3.size)⟩
  clear o3 r3
  clear hHeld
  go_wp2
  go_ret
  exact ⟨_, rfl, unhide HF⟩

set_option maxHeartbeats 1600000 in
theorem msgForm5_any (cs : Array Value) (m : MsgD) (w : World) (hM : SeesM w cs m) (hfit : FitM m) (hF : -9223372036854775808 ≤ m.frm ∧ m.frm ≤ 9223372036854775807) (hO : -9223372036854775808 ≤ m.to ∧ m.to ≤ 9223372036854775807) (hk : m.kind = 5) (hm : mayMsg m = true) :
    Calls Tryz.prog 42 #[.agg cs] w fun e w' => ∃ v', e = .returned v' ∧ w'.ownsRow w.heap.size 5 1 v' (msgB m).length (ints .u8 (msgB m)) ∧ Below w.heap.size w w' := by
  have hall := mayMsg_fields hm
  have HFI := hide hfit
  have hft := hfit.term; have hfs := hfit.slot; have hfl := hfit.last; have hfc := hfit.commit
  obtain ⟨lv, tv, dv, rfl, k1, k2, k3⟩ := hM
  have K1 : Hid (∀ x, Below w.heap.size w x → SeesTms x lv m.list) := fun x hb => k1.below hb
  have K2 : Hid (∀ x, Below w.heap.size w x → SeesE x #[.int .i64 m.ent.kind, .int .i64 m.ent.frm, .int .i64 m.ent.num, tv] m.ent) := fun x hb => ⟨_, rfl, k2.below hb⟩
  have K3 : Hid (∀ x, Below w.heap.size w x → SeesP x #[.int .i64 m.part.slot, .int .i64 m.part.idx, .int .i64 m.part.many, dv] m.part) := fun x hb => ⟨_, rfl, k3.below hb⟩
  obtain ⟨la, lc, _, _, rfl, _⟩ := k1
  obtain ⟨ta, tc, _, _, rfl, _⟩ := k2
  obtain ⟨da, dc, rfl, _⟩ := k3
  have HMB : Hid (msgB m = putL [5, m.frm, m.to] ++ flsB (fieldsL 5) m) := (show msgB m = _ from by unfold msgB; rw [hk])
  rw [hk] at hall ⊢
  obtain ⟨aF, EaF⟩ : ∃ x, m.frm = x := ⟨_, rfl⟩
  obtain ⟨aO, EaO⟩ : ∃ x, m.to = x := ⟨_, rfl⟩
  obtain ⟨aT, EaT⟩ : ∃ x, m.term = x := ⟨_, rfl⟩
  obtain ⟨aS, EaS⟩ : ∃ x, m.slot = x := ⟨_, rfl⟩
  obtain ⟨aL, EaL⟩ : ∃ x, m.last = x := ⟨_, rfl⟩
  obtain ⟨aC, EaC⟩ : ∃ x, m.commit = x := ⟨_, rfl⟩
  obtain ⟨aY, EaY⟩ : ∃ x, m.yes = x := ⟨_, rfl⟩
  obtain ⟨ll, Ell⟩ : ∃ x, m.list.length = x := ⟨_, rfl⟩
  obtain ⟨ek, Eek⟩ : ∃ x, m.ent.kind = x := ⟨_, rfl⟩
  obtain ⟨ef, Eef⟩ : ∃ x, m.ent.frm = x := ⟨_, rfl⟩
  obtain ⟨en, Een⟩ : ∃ x, m.ent.num = x := ⟨_, rfl⟩
  obtain ⟨tl, Etl⟩ : ∃ x, m.ent.txns.length = x := ⟨_, rfl⟩
  obtain ⟨ps, Eps⟩ : ∃ x, m.part.slot = x := ⟨_, rfl⟩
  obtain ⟨pi, Epi⟩ : ∃ x, m.part.idx = x := ⟨_, rfl⟩
  obtain ⟨pm, Epm⟩ : ∃ x, m.part.many = x := ⟨_, rfl⟩
  obtain ⟨dl, Edl⟩ : ∃ x, m.part.data.length = x := ⟨_, rfl⟩
  rw [EaF, EaO, EaT, EaS, EaL, EaC, EaY, Ell, Eek, Eef, Een, Etl, Eps, Epi, Epm, Edl]
  rw [Ell] at K1
  simp only [Eek, Eef, Een, Etl] at K2
  simp only [Eps, Epi, Epm, Edl] at K3
  rw [EaF] at hF
  rw [EaO] at hO
  rw [EaF, EaO] at HMB
  rw [EaT] at hft
  rw [EaS] at hfs
  rw [EaL] at hfl
  rw [EaC] at hfc
  have hal : Below w.heap.size w (w.alloc (.cells #[.int .i64 5, .int .i64 aF, .int .i64 aO, .int .i64 aT, .int .i64 aS, .int .i64 aL, .int .i64 aC, .bool aY, .slice la ll lc, .int .i64 ek, .int .i64 ef, .int .i64 en, .slice ta tl tc, .int .i64 ps, .int .i64 pi, .int .i64 pm, .slice da dl dc] 34)) := (Below.refl _ _).alloc (Nat.le_refl _) _
  have hx1 : (w.alloc (.cells #[.int .i64 5, .int .i64 aF, .int .i64 aO, .int .i64 aT, .int .i64 aS, .int .i64 aL, .int .i64 aC, .bool aY, .slice la ll lc, .int .i64 ek, .int .i64 ef, .int .i64 en, .slice ta tl tc, .int .i64 ps, .int .i64 pi, .int .i64 pm, .slice da dl dc] 34)).heap[w.heap.size]? = some (.cells #[.int .i64 5, .int .i64 aF, .int .i64 aO, .int .i64 aT, .int .i64 aS, .int .i64 aL, .int .i64 aC, .bool aY, .slice la ll lc, .int .i64 ek, .int .i64 ef, .int .i64 en, .slice ta tl tc, .int .i64 ps, .int .i64 pi, .int .i64 pm, .slice da dl dc] 34) := heap_alloc_new w _
  have hsz : (w.alloc (.cells #[.int .i64 5, .int .i64 aF, .int .i64 aO, .int .i64 aT, .int .i64 aS, .int .i64 aL, .int .i64 aC, .bool aY, .slice la ll lc, .int .i64 ek, .int .i64 ef, .int .i64 en, .slice ta tl tc, .int .i64 ps, .int .i64 pi, .int .i64 pm, .slice da dl dc] 34)).heap.size = w.heap.size + 1 := by simp
  obtain ⟨w1, hw1⟩ : ∃ y, w.alloc (.cells #[.int .i64 5, .int .i64 aF, .int .i64 aO, .int .i64 aT, .int .i64 aS, .int .i64 aL, .int .i64 aC, .bool aY, .slice la ll lc, .int .i64 ek, .int .i64 ef, .int .i64 en, .slice ta tl tc, .int .i64 ps, .int .i64 pi, .int .i64 pm, .slice da dl dc] 34) = y := ⟨_, rfl⟩
  rw [hw1] at hal hx1 hsz
  have HX : Hid (∀ x, Below (w.heap.size + 1) w1 x → x.heap[w.heap.size]? = some (.cells #[.int .i64 5, .int .i64 aF, .int .i64 aO, .int .i64 aT, .int .i64 aS, .int .i64 aL, .int .i64 aC, .bool aY, .slice la ll lc, .int .i64 ek, .int .i64 ef, .int .i64 en, .slice ta tl tc, .int .i64 ps, .int .i64 pi, .int .i64 pm, .slice da dl dc] 34)) := fun x hb => (hb.block _ (by omega)).trans hx1
  have HBW : Hid (∀ x, Below (w.heap.size + 1) w1 x → Below w.heap.size w x) := fun x hb => hal.trans (hb.mono (by omega))
  have c0 : w1.cell? ⟨w.heap.size, 0, none⟩ = some (.int .i64 5) := cell_of_heap hx1
  have c1 : w1.cell? ⟨w.heap.size, 1, none⟩ = some (.int .i64 aF) := cell_of_heap hx1
  have c2 : w1.cell? ⟨w.heap.size, 2, none⟩ = some (.int .i64 aO) := cell_of_heap hx1
  have HN1 := hide (refn_any (.slice none 0 0) _ [] [5, aF, aO] _ (Sees.nil _ _) (sees_lit w1 [5, aF, aO] (by simp)) (by simp) (i64_of fun x hx => by simp at hx; rcases hx with rfl | rfl | rfl <;> omega) (by have : sizeL [5, aF, aO] ≤ 27 := sizeL_le [5, aF, aO]; simp; omega))
  simp only [List.length_cons, List.length_nil, Nat.reduceAdd, List.nil_append] at HN1
  have HB2 : Hid (Below (w.heap.size + 1) w1 (w1.alloc (.cells #[.int .i64 5, .int .i64 aF, .int .i64 aO] 2))) := (Below.refl _ _).alloc (by omega) _
  have HSZ := hide hsz
  clear hal hx1 hsz hm
  go_enter Tryz.func42, Tryz.ntmps42
  go_wp2_with (rw [hw1])
  refine (unhide HN1).mono ?_
  rintro e y1 ⟨v1, rfl, o1, r1⟩
  have hB1 : Below (w.heap.size + 1) w1 y1 := (unhide HB2).trans (r1.mono (by simp [unhide HSZ]))
  have hx := unhide HX y1 hB1
  have HB1 := hide hB1
  have O1 : Hid (y1.ownsRow (w.heap.size + 1) 5 1 v1 (putL [5, aF, aO]).length (ints .u8 (putL [5, aF, aO]))) := own_mono o1 (by simp [unhide HSZ])
  obtain ⟨a1, cc1, rfl⟩ := own_shape o1
  have d0x : y1.cell? ⟨w.heap.size, 0, none⟩ = some (.int .i64 5) := cell_of_heap hx
  have HC3 : Hid (∀ x, Below (w.heap.size + 1) w1 x → x.cell? ⟨w.heap.size, 3, none⟩ = some (.int .i64 aT)) := fun x hb => cell_of_heap (unhide HX x hb)
  have HC4 : Hid (∀ x, Below (w.heap.size + 1) w1 x → x.cell? ⟨w.heap.size, 4, none⟩ = some (.int .i64 aS)) := fun x hb => cell_of_heap (unhide HX x hb)
  have HC5 : Hid (∀ x, Below (w.heap.size + 1) w1 x → x.cell? ⟨w.heap.size, 5, none⟩ = some (.int .i64 aL)) := fun x hb => cell_of_heap (unhide HX x hb)
  have HC13 : Hid (∀ x, Below (w.heap.size + 1) w1 x → x.cell? ⟨w.heap.size, 13, none⟩ = some (.int .i64 ps)) := fun x hb => cell_of_heap (unhide HX x hb)
  have HC14 : Hid (∀ x, Below (w.heap.size + 1) w1 x → x.cell? ⟨w.heap.size, 14, none⟩ = some (.int .i64 pi)) := fun x hb => cell_of_heap (unhide HX x hb)
  have HC15 : Hid (∀ x, Below (w.heap.size + 1) w1 x → x.cell? ⟨w.heap.size, 15, none⟩ = some (.int .i64 pm)) := fun x hb => cell_of_heap (unhide HX x hb)
  have HC16 : Hid (∀ x, Below (w.heap.size + 1) w1 x → x.cell? ⟨w.heap.size, 16, none⟩ = some (.slice da dl dc)) := fun x hb => cell_of_heap (unhide HX x hb)
  have hz2 : Below y1.heap.size y1 (y1.alloc (.cells #[.int .i64 aT, .int .i64 aS, .int .i64 aL] 2)).drew := ((Below.refl _ _).alloc (Nat.le_refl _) _).drew
  have HN2 := hide (refn_any _ _ (putL [5, aF, aO]) [aT, aS, aL] _ ((sees_of_own (unhide O1)).2.below hz2) ((sees_lit y1 [aT, aS, aL] (by simp)).below (Below.refl _ _).drew) (by simp) (i64_of fun x hx => by simp at hx; first | (subst hx; assumption) | (rcases hx with rfl | rfl | rfl | rfl <;> assumption) | (rcases hx with rfl | rfl | rfl <;> assumption)) (by
    have h1 : sizeL [aT, aS, aL] ≤ 9 * 3 := sizeL_le [aT, aS, aL]
    have h2 := putL_le [(5 : Int), aF, aO]
    simp only [List.length_cons, List.length_nil] at h2
    omega))
  simp only [List.length_cons, List.length_nil, Nat.reduceAdd] at HN2
  have HZ2 : Hid (Below (w.heap.size + 1) w1 (y1.alloc (.cells #[.int .i64 aT, .int .i64 aS, .int .i64 aL] 2)).drew) := (unhide HB1).trans (hz2.mono (by have := (unhide HB1).size; have := unhide HSZ; omega))
  have HMM : Hid (msgB m = putL [5, aF, aO] ++ (putL [aT, aS, aL] ++ ptB m.part)) := (show msgB m = _ from by
    rw [unhide HMB]
    have e2 : putL [aT, aS, aL] = putL [aT] ++ (putL [aS] ++ putL [aL]) := by rw [← putL_app, ← putL_app]; rfl
    rw [e2]
    have e : flsB (fieldsL 5) m = putL [aT] ++ (putL [aS] ++ putL [aL]) ++ ptB m.part := by simp [flsB, fieldsL, fB, EaT, EaS, EaL]
    rw [e])
  have hm5 := hall 7 (by simp [fieldsL])
  have hm6 : m.part.data.length ≤ 16384 := by
    simp only [fMay] at hm5
    simp [mayP] at hm5
    omega
  have HM6 := hide hm6
  have hpl : (ptB m.part).length ≤ 20000 := by
    have l1 := putL_le [m.part.slot, m.part.idx, m.part.many]
    have l2 := putL_le [(m.part.data.length : Int)]
    simp only [ptB, List.length_append, List.length_cons, List.length_nil] at l1 l2 ⊢
    omega
  have HPL := hide hpl
  clear hm5 hm6 hpl
  have hl1 := putL_le [(5 : Int), aF, aO]
  have hl2 := putL_le [aT, aS, aL]
  simp only [List.length_cons, List.length_nil] at hl1 hl2
  obtain ⟨XS, hXS⟩ : ∃ z, putL [5, aF, aO] = z := ⟨_, rfl⟩
  rw [hXS] at HN2 HMM hl1
  rw [hXS]
  obtain ⟨n1, hn1⟩ : ∃ z, XS.length = z := ⟨_, rfl⟩
  rw [hn1] at HN2
  rw [hn1]
  have HNN := hide hn1
  have HL1 := hide hl1
  have HL2 := hide hl2
  clear hn1 hXS o1 r1 hB1 hx hz2 HN1 hft hfs hfl hfc hF hO hl1 hl2
  go_wp2_with fail
  refine wp_region_held_drew (S := fun x => Below (w.heap.size + 1) w1 x) (by kernel_rfl) (unhide HB1).drew (fun hHeld => ?_)
  refine wpAnyH_take (i := 0) (v := ?v19x0) rfl (by as_aux_lemma => kernel_rfl) (by as_aux_lemma => kernel_rfl) (by as_aux_lemma => kernel_rfl) (fun _ _ _ h => h) (Or.inl ⟨by rfl, ?hy19x0⟩) (by assumption) ?rest19x0
  case hy19x0 => intro w hSw; go_simp <;> with_reducible rfl
  simp only [Act.put, List.getElem_toArray, List.getElem_cons_zero, List.setIfInBounds_toArray, List.set_cons_zero, List.set_cons_succ]
  refine wpAnyH_take (i := 1) (v := ?v20x1) rfl (by as_aux_lemma => kernel_rfl) (by as_aux_lemma => kernel_rfl) (by as_aux_lemma => kernel_rfl) (fun _ _ _ h => h) (Or.inl ⟨by rfl, ?hy20x1⟩) (by assumption) ?rest20x1
  case hy20x1 => intro w hSw; go_simp <;> with_reducible rfl
  simp only [Act.put, List.getElem_toArray, List.getElem_cons_zero, List.getElem_cons_succ, List.setIfInBounds_toArray, List.set_cons_zero, List.set_cons_succ]
  refine wpAnyH_take (i := 2) (v := (.int .i64 aT)) rfl (by as_aux_lemma => kernel_rfl) (by as_aux_lemma => kernel_rfl) (by as_aux_lemma => kernel_rfl) (fun _ _ _ h => h) (Or.inl ⟨by rfl, ?hy21x2⟩) (by assumption) ?rest21x2
  case hy21x2 => intro w hSw; have g0 := unhide HC3 _ hSw; go_simp <;> with_reducible rfl
  simp only [Act.put, List.getElem_toArray, List.getElem_cons_zero, List.getElem_cons_succ, List.setIfInBounds_toArray, List.set_cons_zero, List.set_cons_succ]
  refine wpAnyH_take (i := 3) (v := ?v22x3) rfl (by as_aux_lemma => kernel_rfl) (by as_aux_lemma => kernel_rfl) (by as_aux_lemma => kernel_rfl) (fun _ _ _ h => h) (Or.inl ⟨by rfl, ?hy22x3⟩) (by assumption) ?rest22x3
  case hy22x3 => intro w hSw; go_simp <;> with_reducible rfl
  simp only [Act.put, List.getElem_toArray, List.getElem_cons_zero, List.getElem_cons_succ, List.setIfInBounds_toArray, List.set_cons_zero, List.set_cons_succ]
  refine wpAnyH_take (i := 4) (v := (.int .i64 aS)) rfl (by as_aux_lemma => kernel_rfl) (by as_aux_lemma => kernel_rfl) (by as_aux_lemma => kernel_rfl) (fun _ _ _ h => h) (Or.inl ⟨by rfl, ?hy23x4⟩) (by assumption) ?rest23x4
  case hy23x4 => intro w hSw; have g0 := unhide HC4 _ hSw; go_simp <;> with_reducible rfl
  simp only [Act.put, List.getElem_toArray, List.getElem_cons_zero, List.getElem_cons_succ, List.setIfInBounds_toArray, List.set_cons_zero, List.set_cons_succ]
  refine wpAnyH_take (i := 5) (v := ?v24x5) rfl (by as_aux_lemma => kernel_rfl) (by as_aux_lemma => kernel_rfl) (by as_aux_lemma => kernel_rfl) (fun _ _ _ h => h) (Or.inl ⟨by rfl, ?hy24x5⟩) (by assumption) ?rest24x5
  case hy24x5 => intro w hSw; go_simp <;> with_reducible rfl
  simp only [Act.put, List.getElem_toArray, List.getElem_cons_zero, List.getElem_cons_succ, List.setIfInBounds_toArray, List.set_cons_zero, List.set_cons_succ]
  refine wpAnyH_take (i := 6) (v := (.int .i64 aL)) rfl (by as_aux_lemma => kernel_rfl) (by as_aux_lemma => kernel_rfl) (by as_aux_lemma => kernel_rfl) (fun _ _ _ h => h) (Or.inl ⟨by rfl, ?hy25x6⟩) (by assumption) ?rest25x6
  case hy25x6 => intro w hSw; have g0 := unhide HC5 _ hSw; go_simp <;> with_reducible rfl
  simp only [Act.put, List.getElem_toArray, List.getElem_cons_zero, List.getElem_cons_succ, List.setIfInBounds_toArray, List.set_cons_zero, List.set_cons_succ]
  refine wpAnyH_take (i := 9) (v := ?v26x9) rfl (by as_aux_lemma => kernel_rfl) (by as_aux_lemma => kernel_rfl) (by as_aux_lemma => kernel_rfl) (fun _ _ _ h => h) (Or.inl ⟨by rfl, ?hy26x9⟩) (by assumption) ?rest26x9
  case hy26x9 => intro w hSw; go_simp <;> with_reducible rfl
  simp only [Act.put, List.getElem_toArray, List.getElem_cons_zero, List.getElem_cons_succ, List.setIfInBounds_toArray, List.set_cons_zero, List.set_cons_succ]
  refine wpAnyH_take (i := 10) (v := (.agg #[.int .i64 ps, .int .i64 pi, .int .i64 pm, .slice da dl dc])) rfl (by as_aux_lemma => kernel_rfl) (by as_aux_lemma => kernel_rfl) (by as_aux_lemma => kernel_rfl) (fun _ _ _ h => h) (Or.inl ⟨by rfl, ?hy27x10⟩) (by assumption) ?rest27x10
  case hy27x10 => intro w hSw; have g0 := unhide HC13 _ hSw; have g1 := unhide HC14 _ hSw; have g2 := unhide HC15 _ hSw; have g3 := unhide HC16 _ hSw; go_simp <;> with_reducible rfl
  simp only [Act.put, List.getElem_toArray, List.getElem_cons_zero, List.getElem_cons_succ, List.setIfInBounds_toArray, List.set_cons_zero, List.set_cons_succ]
  refine wpAnyH_ready (rs := [7]) (by as_aux_lemma => kernel_rfl) (by simp) ?_
  refine AllReadyH.cons rfl (fun K hK => ?_) AllReadyH.nil
  go_simp
  refine hK _ _ (unhide HZ2) ?_
  clear hK hHeld
  intro hHeld
  refine wpAnyH_ready (rs := [8]) (by as_aux_lemma => kernel_rfl) (by simp) ?_
  refine AllReadyH.cons rfl (fun K hK => ?_) AllReadyH.nil
  go_simp
  refine (unhide HN2).mono ?_
  rintro e y2 ⟨v2, rfl, o2, r2⟩
  refine hK _ _ ((unhide HZ2).trans (r2.mono (by have := (unhide HB1).size; have := unhide HSZ; simp; omega))) ?_
  clear hK hHeld
  have HB3 : Hid (Below (w.heap.size + 1) w1 y2) := (unhide HZ2).trans (r2.mono (by have := (unhide HB1).size; have := unhide HSZ; simp; omega))
  have HO2 : Hid (y2.ownsRow (w.heap.size + 1) 5 1 v2 (XS ++ putL [aT, aS, aL]).length (ints .u8 (XS ++ putL [aT, aS, aL]))) := own_mono o2 (by have := (unhide HB1).size; have := unhide HSZ; simp; omega)
  obtain ⟨a2, c2, rfl⟩ := own_shape o2
  obtain ⟨n2, hn2⟩ : ∃ z, (XS ++ putL [aT, aS, aL]).length = z := ⟨_, rfl⟩
  rw [hn2]
  have HN3 := hide hn2
  clear o2 r2 HN2
  have HT2 := hide (partForm_any _ m.part y2 (unhide K3 y2 (unhide HBW y2 (unhide HB3))) (unhide HFI).part (unhide HM6))
  clear hn2
  intro hHeld
  refine wpAnyH_ready (rs := [11]) (by as_aux_lemma => kernel_rfl) (by simp) ?_
  refine AllReadyH.cons rfl (fun K hK => ?_) AllReadyH.nil
  go_simp
  refine (unhide HT2).mono ?_
  rintro e y3 ⟨v4, rfl, o3, r3⟩
  refine hK _ _ ((unhide HB3).trans (r3.mono (by have := (unhide HB3).size; have := unhide HSZ; omega))) ?_
  clear hK hHeld
  have HB4 : Hid (Below (w.heap.size + 1) w1 y3) := (unhide HB3).trans (r3.mono (by have := (unhide HB3).size; have := unhide HSZ; omega))
  have ho4 := own_below (unhide HO2) r3
  have hs4 : w.heap.size + 1 ≤ y3.heap.size := by have := (unhide HB4).size; have := unhide HSZ; omega
  obtain ⟨v6, w6, hr6, ho6, hg6⟩ := run_append_sees (w.heap.size + 1) _ (XS ++ putL [aT, aS, aL]) ho4 v4 (ptB m.part) (sees_of_own o3).2 (by have := unhide HL1; have := unhide HL2; have := unhide HPL; simp only [List.length_append]; omega) hs4 23
  have HB6 : Hid (Below (w.heap.size + 1) w1 w6) := (unhide HB4).grown hg6 hs4 (own_block_le ho4)
  have HR6 := hide ho6
  obtain ⟨a3, c3, rfl⟩ := own_shape o3
  obtain ⟨n3, hn3⟩ : ∃ z, (ptB m.part).length = z := ⟨_, rfl⟩
  rw [hn3]
  rw [hn3, unhide HN3] at hr6
  clear hn3
  clear ho4 ho6 hg6 o3 r3 HT2 HO2 hs4
  intro hHeld
  refine wpAnyH_ready (rs := [12]) (by as_aux_lemma => kernel_rfl) (by simp) ?_
  refine AllReadyH.cons rfl (fun K hK => ?_) AllReadyH.nil
  rw [if_pos (by rfl)]
  refine append_upon rfl rfl rfl hr6 ?_
  simp only [Act.put, List.getElem_toArray, List.getElem_cons_zero, List.getElem_cons_succ, List.setIfInBounds_toArray, List.set_cons_zero, List.set_cons_succ]
  refine hK _ _ (unhide HB6) ?_
  clear hK hHeld
  intro hHeld
  refine wpAnyH_take (i := 13) (v := ?v28x13) rfl (by as_aux_lemma => kernel_rfl) (by as_aux_lemma => kernel_rfl) (by as_aux_lemma => kernel_rfl) (fun _ _ _ h => h) (Or.inl ⟨by rfl, ?hy28x13⟩) (by assumption) ?rest28x13
  case hy28x13 => intro w hSw; go_simp <;> with_reducible rfl
  simp only [Act.put, List.getElem_toArray, List.getElem_cons_zero, List.getElem_cons_succ, List.setIfInBounds_toArray, List.set_cons_zero, List.set_cons_succ]
  refine wpAnyH_done (by as_aux_lemma => kernel_rfl) ?_ _
  have HF : Hid (w6.ownsRow w.heap.size 5 1 v6 (msgB m).length (ints .u8 (msgB m)) ∧ Below w.heap.size w w6) := by
    show _ ∧ _
    rw [unhide HMM]
    have h3 := own_mono (unhide HR6) (Nat.le_succ w.heap.size)
    simp only [List.append_assoc] at h3 ⊢
    exact ⟨h3, unhide HBW _ (unhide HB6)⟩
  clear hr6 HR6
  clear hHeld
  go_wp2
  go_ret
  exact ⟨_, rfl, unhide HF⟩

end Go.Proofs.YtggllgimlfchhaaGreat
