/- Record: the document's MsgForm, kind 4. -/
import Derived.Test.YtggllgimlfchhaaGreatDJ
import Derived.Deep.RegionHeld3
namespace Go.Proofs.YtggllgimlfchhaaGreat
open Go.RowKit
set_option maxRecDepth 100000

theorem lit_step {z z' w1 : World} {b : Nat} (a : Int) (hz : z.alloc (.cells #[.int .i64 a] 2) = z') (hb : Below b w1 z) (h1 : b ≤ z.heap.size) :
    Below b w1 z' ∧ Below z.heap.size z z' ∧ Sees z' .i64 (.slice (some ⟨z.heap.size, 0, none⟩) 1 1) [a] := by
  subst hz
  have h2 : Below z.heap.size z (z.alloc (.cells #[.int .i64 a] 2)) := (Below.refl _ _).alloc (Nat.le_refl _) _
  exact ⟨hb.trans (h2.mono h1), h2, by have := sees_lit z [a] (by simp); simpa [ints] using this⟩
theorem on_step {z z' w1 : World} {b : Nat} (hb : Below b w1 z) (h1 : b ≤ z.heap.size) (h : Below z.heap.size z z') : Below b w1 z' ∧ b ≤ z'.heap.size := ⟨hb.trans (h.mono h1), Nat.le_trans h1 h.size⟩

set_option maxHeartbeats 1600000 in
theorem msgForm4_any (cs : Array Value) (m : MsgD) (w : World) (hM : SeesM w cs m) (hfit : FitM m) (hF : -9223372036854775808 ≤ m.frm ∧ m.frm ≤ 9223372036854775807) (hO : -9223372036854775808 ≤ m.to ∧ m.to ≤ 9223372036854775807) (hk : m.kind = 4) (hm : mayMsg m = true) :
    Calls Tryz.prog 42 #[.agg cs] w fun e w' => ∃ v', e = .returned v' ∧ w'.ownsRow w.heap.size 5 1 v' (msgB m).length (ints .u8 (msgB m)) ∧ Below w.heap.size w w' := by
  have hall := mayMsg_fields hm
  have HFI := hide hfit
  have hft := hfit.term; have hfs := hfit.slot; have hfl := hfit.last; have hfc := hfit.commit
  obtain ⟨lv, tv, dv, rfl, k1, k2, k3⟩ := hM
  have K1 : Hid (∀ x, Below w.heap.size w x → SeesTms x lv m.list) := fun x hb => k1.below hb
  have K2 : Hid (∀ x, Below w.heap.size w x → SeesE x #[.int .i64 m.ent.kind, .int .i64 m.ent.frm, .int .i64 m.ent.num, tv] m.ent) := fun x hb => ⟨_, rfl, k2.below hb⟩
  have K3 : Hid (∀ x, Below w.heap.size w x → SeesP x #[.int .i64 m.part.slot, .int .i64 m.part.idx, .int .i64 m.part.many, dv] m.part) := fun x hb => ⟨_, rfl, k3.below hb⟩
  obtain ⟨la, lc, _, _, rfl, _⟩ := k1
  obtain ⟨ta, tc, _, _, rfl, _⟩ := k2
  obtain ⟨da, dc, rfl, _⟩ := k3
  have HMB : Hid (msgB m = putL [4, m.frm, m.to] ++ flsB (fieldsL 4) m) := (show msgB m = _ from by unfold msgB; rw [hk])
  rw [hk] at hall ⊢
  obtain ⟨aF, EaF⟩ : ∃ x, m.frm = x := ⟨_, rfl⟩
  obtain ⟨aO, EaO⟩ : ∃ x, m.to = x := ⟨_, rfl⟩
  obtain ⟨aT, EaT⟩ : ∃ x, m.term = x := ⟨_, rfl⟩
  obtain ⟨aS, EaS⟩ : ∃ x, m.slot = x := ⟨_, rfl⟩
  obtain ⟨aL, EaL⟩ : ∃ x, m.last = x := ⟨_, rfl⟩
  obtain ⟨aC, EaC⟩ : ∃ x, m.commit = x := ⟨_, rfl⟩
  obtain ⟨aY, EaY⟩ : ∃ x, m.yes = x := ⟨_, rfl⟩
  obtain ⟨ll, Ell⟩ : ∃ x, m.list.length = x := ⟨_, rfl⟩
  obtain ⟨ek, Eek⟩ : ∃ x, m.ent.kind = x := ⟨_, rfl⟩
  obtain ⟨ef, Eef⟩ : ∃ x, m.ent.frm = x := ⟨_, rfl⟩
  obtain ⟨en, Een⟩ : ∃ x, m.ent.num = x := ⟨_, rfl⟩
  obtain ⟨tl, Etl⟩ : ∃ x, m.ent.txns.length = x := ⟨_, rfl⟩
  obtain ⟨ps, Eps⟩ : ∃ x, m.part.slot = x := ⟨_, rfl⟩
  obtain ⟨pi, Epi⟩ : ∃ x, m.part.idx = x := ⟨_, rfl⟩
  obtain ⟨pm, Epm⟩ : ∃ x, m.part.many = x := ⟨_, rfl⟩
  obtain ⟨dl, Edl⟩ : ∃ x, m.part.data.length = x := ⟨_, rfl⟩
  rw [EaF, EaO, EaT, EaS, EaL, EaC, EaY, Ell, Eek, Eef, Een, Etl, Eps, Epi, Epm, Edl]
  rw [Ell] at K1
  simp only [Eek, Eef, Een, Etl] at K2
  simp only [Eps, Epi, Epm, Edl] at K3
  rw [EaF] at hF
  rw [EaO] at hO
  rw [EaF, EaO] at HMB
  rw [EaT] at hft
  rw [EaS] at hfs
  rw [EaL] at hfl
  rw [EaC] at hfc
  have hal : Below w.heap.size w (w.alloc (.cells #[.int .i64 4, .int .i64 aF, .int .i64 aO, .int .i64 aT, .int .i64 aS, .int .i64 aL, .int .i64 aC, .bool aY, .slice la ll lc, .int .i64 ek, .int .i64 ef, .int .i64 en, .slice ta tl tc, .int .i64 ps, .int .i64 pi, .int .i64 pm, .slice da dl dc] 34)) := (Below.refl _ _).alloc (Nat.le_refl _) _
  have hx1 : (w.alloc (.cells #[.int .i64 4, .int .i64 aF, .int .i64 aO, .int .i64 aT, .int .i64 aS, .int .i64 aL, .int .i64 aC, .bool aY, .slice la ll lc, .int .i64 ek, .int .i64 ef, .int .i64 en, .slice ta tl tc, .int .i64 ps, .int .i64 pi, .int .i64 pm, .slice da dl dc] 34)).heap[w.heap.size]? = some (.cells #[.int .i64 4, .int .i64 aF, .int .i64 aO, .int .i64 aT, .int .i64 aS, .int .i64 aL, .int .i64 aC, .bool aY, .slice la ll lc, .int .i64 ek, .int .i64 ef, .int .i64 en, .slice ta tl tc, .int .i64 ps, .int .i64 pi, .int .i64 pm, .slice da dl dc] 34) := heap_alloc_new w _
  have hsz : (w.alloc (.cells #[.int .i64 4, .int .i64 aF, .int .i64 aO, .int .i64 aT, .int .i64 aS, .int .i64 aL, .int .i64 aC, .bool aY, .slice la ll lc, .int .i64 ek, .int .i64 ef, .int .i64 en, .slice ta tl tc, .int .i64 ps, .int .i64 pi, .int .i64 pm, .slice da dl dc] 34)).heap.size = w.heap.size + 1 := by simp
  obtain ⟨w1, hw1⟩ : ∃ y, w.alloc (.cells #[.int .i64 4, .int .i64 aF, .int .i64 aO, .int .i64 aT, .int .i64 aS, .int .i64 aL, .int .i64 aC, .bool aY, .slice la ll lc, .int .i64 ek, .int .i64 ef, .int .i64 en, .slice ta tl tc, .int .i64 ps, .int .i64 pi, .int .i64 pm, .slice da dl dc] 34) = y := ⟨_, rfl⟩
  rw [hw1] at hal hx1 hsz
  have HX : Hid (∀ x, Below (w.heap.size + 1) w1 x → x.heap[w.heap.size]? = some (.cells #[.int .i64 4, .int .i64 aF, .int .i64 aO, .int .i64 aT, .int .i64 aS, .int .i64 aL, .int .i64 aC, .bool aY, .slice la ll lc, .int .i64 ek, .int .i64 ef, .int .i64 en, .slice ta tl tc, .int .i64 ps, .int .i64 pi, .int .i64 pm, .slice da dl dc] 34)) := fun x hb => (hb.block _ (by omega)).trans hx1
  have HBW : Hid (∀ x, Below (w.heap.size + 1) w1 x → Below w.heap.size w x) := fun x hb => hal.trans (hb.mono (by omega))
  have c0 : w1.cell? ⟨w.heap.size, 0, none⟩ = some (.int .i64 4) := cell_of_heap hx1
  have c1 : w1.cell? ⟨w.heap.size, 1, none⟩ = some (.int .i64 aF) := cell_of_heap hx1
  have c2 : w1.cell? ⟨w.heap.size, 2, none⟩ = some (.int .i64 aO) := cell_of_heap hx1
  have HN1 := hide (refn_any (.slice none 0 0) _ [] [4, aF, aO] _ (Sees.nil _ _) (sees_lit w1 [4, aF, aO] (by simp)) (by simp) (i64_of fun x hx => by simp at hx; rcases hx with rfl | rfl | rfl <;> omega) (by have : sizeL [4, aF, aO] ≤ 27 := sizeL_le [4, aF, aO]; simp; omega))
  simp only [List.length_cons, List.length_nil, Nat.reduceAdd, List.nil_append] at HN1
  have HB2 : Hid (Below (w.heap.size + 1) w1 (w1.alloc (.cells #[.int .i64 4, .int .i64 aF, .int .i64 aO] 2))) := (Below.refl _ _).alloc (by omega) _
  have HSZ := hide hsz
  clear hal hx1 hsz hm
  go_enter Tryz.func42, Tryz.ntmps42
  go_wp2_with (rw [hw1])
  refine (unhide HN1).mono ?_
  rintro e y1 ⟨v1, rfl, o1, r1⟩
  have hB1 : Below (w.heap.size + 1) w1 y1 := (unhide HB2).trans (r1.mono (by simp [unhide HSZ]))
  have hx := unhide HX y1 hB1
  have HB1 := hide hB1
  have O1 : Hid (y1.ownsRow (w.heap.size + 1) 5 1 v1 (putL [4, aF, aO]).length (ints .u8 (putL [4, aF, aO]))) := own_mono o1 (by simp [unhide HSZ])
  obtain ⟨a1, cc1, rfl⟩ := own_shape o1
  have d0 : y1.cell? ⟨w.heap.size, 0, none⟩ = some (.int .i64 4) := cell_of_heap hx
  have HC3 : Hid (∀ x, Below (w.heap.size + 1) w1 x → x.cell? ⟨w.heap.size, 3, none⟩ = some (.int .i64 aT)) := fun x hb => cell_of_heap (unhide HX x hb)
  have HC4 : Hid (∀ x, Below (w.heap.size + 1) w1 x → x.cell? ⟨w.heap.size, 4, none⟩ = some (.int .i64 aS)) := fun x hb => cell_of_heap (unhide HX x hb)
  have HC7 : Hid (∀ x, Below (w.heap.size + 1) w1 x → x.cell? ⟨w.heap.size, 7, none⟩ = some (.bool aY)) := fun x hb => cell_of_heap (unhide HX x hb)
  have HMM : Hid (msgB m = putL [4, aF, aO] ++ (putL [aT] ++ (putL [if aY then 1 else 0] ++ putL [aS]))) := (show msgB m = _ from by
    rw [unhide HMB]
    have e : flsB (fieldsL 4) m = putL [aT] ++ (putL [if aY then 1 else 0] ++ putL [aS]) := by simp [flsB, fieldsL, fB, EaT, EaS, EaY]
    rw [e])
  have hl1 := putL_le [(4 : Int), aF, aO]
  simp only [List.length_cons, List.length_nil] at hl1
  obtain ⟨XS, hXS⟩ : ∃ z, putL [4, aF, aO] = z := ⟨_, rfl⟩
  rw [hXS] at HMM hl1 O1
  rw [hXS]
  obtain ⟨n0, hn0⟩ : ∃ z, XS.length = z := ⟨_, rfl⟩
  rw [hn0] at O1
  rw [hn0]
  have HNN : Hid (XS.length ≤ 30) := by show _ ≤ _; omega
  have HIT : Hid (I64 [aT] ∧ sizeL [aT] ≤ 9 ∧ (putL [aT]).length ≤ 9) := ⟨i64_of fun x hx => by simp at hx; subst hx; exact hft, sizeL_le [aT], by have := putL_le [aT]; simpa using this⟩
  have HIS : Hid (I64 [aS] ∧ sizeL [aS] ≤ 9) := ⟨i64_of fun x hx => by simp at hx; subst hx; exact hfs, sizeL_le [aS]⟩
  have HIY : Hid ((putL [if aY then (1 : Int) else 0]).length ≤ 9) := by show _ ≤ _; have := putL_le [if aY then (1 : Int) else 0]; simpa using this
  have HD : Hid (y1.drew.ownsRow (w.heap.size + 1) 5 1 (.slice a1 n0 cc1) n0 (ints .u8 XS) ∧ Below (w.heap.size + 1) w1 y1.drew ∧ w.heap.size + 1 ≤ y1.drew.heap.size) := ⟨own_below (unhide O1) (Below.refl _ _).drew, (unhide HB1).drew, by have := (unhide HB1).size; have := unhide HSZ; simp; omega⟩
  clear hn0 hXS o1 r1 hB1 hx HN1 hft hfs hfl hfc hF hO hl1 O1 K1 K2 K3 HFI HX hall HMB HB2 c0 c1 c2
  go_wp2_with fail
  refine wp_region_held_drew (S := fun x => Below (w.heap.size + 1) w1 x) (by kernel_rfl) (unhide HD).2.1 (fun hHeld => ?_)
  refine wpAnyH_take (i := 0) (v := ?v1x0) rfl (by as_aux_lemma => kernel_rfl) (by as_aux_lemma => kernel_rfl) (by as_aux_lemma => kernel_rfl) (fun _ _ _ h => h) (Or.inl ⟨by rfl, ?hy1x0⟩) (by assumption) ?rest1x0
  case hy1x0 => intro w hSw; go_simp <;> with_reducible rfl
  simp only [Act.put, List.getElem_toArray, List.getElem_cons_zero, List.setIfInBounds_toArray, List.set_cons_zero, List.set_cons_succ]
  refine wpAnyH_take (i := 1) (v := ?v2x1) rfl (by as_aux_lemma => kernel_rfl) (by as_aux_lemma => kernel_rfl) (by as_aux_lemma => kernel_rfl) (fun _ _ _ h => h) (Or.inl ⟨by rfl, ?hy2x1⟩) (by assumption) ?rest2x1
  case hy2x1 => intro w hSw; go_simp <;> with_reducible rfl
  simp only [Act.put, List.getElem_toArray, List.getElem_cons_zero, List.getElem_cons_succ, List.setIfInBounds_toArray, List.set_cons_zero, List.set_cons_succ]
  refine wpAnyH_take (i := 2) (v := (.int .i64 aT)) rfl (by as_aux_lemma => kernel_rfl) (by as_aux_lemma => kernel_rfl) (by as_aux_lemma => kernel_rfl) (fun _ _ _ h => h) (Or.inl ⟨by rfl, ?hy3x2⟩) (by assumption) ?rest3x2
  case hy3x2 => intro w hSw; have g0 := unhide HC3 _ hSw; go_simp <;> with_reducible rfl
  simp only [Act.put, List.getElem_toArray, List.getElem_cons_zero, List.getElem_cons_succ, List.setIfInBounds_toArray, List.set_cons_zero, List.set_cons_succ]
  refine wpAnyH_take (i := 5) (v := ?v4x5) rfl (by as_aux_lemma => kernel_rfl) (by as_aux_lemma => kernel_rfl) (by as_aux_lemma => kernel_rfl) (fun _ _ _ h => h) (Or.inl ⟨by rfl, ?hy4x5⟩) (by assumption) ?rest4x5
  case hy4x5 => intro w hSw; go_simp <;> with_reducible rfl
  simp only [Act.put, List.getElem_toArray, List.getElem_cons_zero, List.getElem_cons_succ, List.setIfInBounds_toArray, List.set_cons_zero, List.set_cons_succ]
  refine wpAnyH_take (i := 6) (v := (.bool aY)) rfl (by as_aux_lemma => kernel_rfl) (by as_aux_lemma => kernel_rfl) (by as_aux_lemma => kernel_rfl) (fun _ _ _ h => h) (Or.inl ⟨by rfl, ?hy5x6⟩) (by assumption) ?rest5x6
  case hy5x6 => intro w hSw; have g0 := unhide HC7 _ hSw; go_simp <;> with_reducible rfl
  simp only [Act.put, List.getElem_toArray, List.getElem_cons_zero, List.getElem_cons_succ, List.setIfInBounds_toArray, List.set_cons_zero, List.set_cons_succ]
  refine wpAnyH_take (i := 8) (v := ?v6x8) rfl (by as_aux_lemma => kernel_rfl) (by as_aux_lemma => kernel_rfl) (by as_aux_lemma => kernel_rfl) (fun _ _ _ h => h) (Or.inl ⟨by rfl, ?hy6x8⟩) (by assumption) ?rest6x8
  case hy6x8 => intro w hSw; go_simp <;> with_reducible rfl
  simp only [Act.put, List.getElem_toArray, List.getElem_cons_zero, List.getElem_cons_succ, List.setIfInBounds_toArray, List.set_cons_zero, List.set_cons_succ]
  refine wpAnyH_take (i := 9) (v := (.int .i64 aS)) rfl (by as_aux_lemma => kernel_rfl) (by as_aux_lemma => kernel_rfl) (by as_aux_lemma => kernel_rfl) (fun _ _ _ h => h) (Or.inl ⟨by rfl, ?hy7x9⟩) (by assumption) ?rest7x9
  case hy7x9 => intro w hSw; have g0 := unhide HC4 _ hSw; go_simp <;> with_reducible rfl
  simp only [Act.put, List.getElem_toArray, List.getElem_cons_zero, List.getElem_cons_succ, List.setIfInBounds_toArray, List.set_cons_zero, List.set_cons_succ]
  obtain ⟨z0, hz0⟩ : ∃ y, y1.drew = y := ⟨_, rfl⟩
  rw [hz0] at HD
  rw [hz0]
  have HO0 := hide (unhide HD).1
  have HB0 := hide (unhide HD).2
  clear HD hz0
  refine wpAnyH_ready (rs := [3, 10]) (by as_aux_lemma => kernel_rfl) (by simp) ?_
  refine AllReadyH.cons rfl (fun K hK => ?_) (AllReadyH.cons rfl (fun K hK => ?_) AllReadyH.nil)
  · go_simp
    obtain ⟨z1, hz1⟩ : ∃ y, z0.alloc (.cells #[.int .i64 aT] 2) = y := ⟨_, rfl⟩
    have hq := lit_step aT hz1 (unhide HB0).1 (unhide HB0).2
    rw [hz1]
    have HB1 : Hid (Below (w.heap.size + 1) w1 z1 ∧ w.heap.size + 1 ≤ z1.heap.size) := on_step (unhide HB0).1 (unhide HB0).2 hq.2.1
    have HO1 := hide (own_below (unhide HO0) hq.2.1)
    have HLT := hide hq.2.2
    obtain ⟨gT, hgT⟩ : ∃ n, z0.heap.size = n := ⟨_, rfl⟩
    rw [hgT] at HLT
    rw [hgT]
    refine hK _ _ (unhide HB1).1 ?_
    clear hK hHeld hq hz1 hgT HB0 HO0
    intro hHeld
    refine wpAnyH_ready (rs := [4, 10]) (by as_aux_lemma => kernel_rfl) (by simp) ?_
    refine AllReadyH.cons rfl (fun K hK => ?_) (AllReadyH.cons rfl (fun K hK => ?_) AllReadyH.nil)
    · go_simp
      refine (refn_any _ _ (XS) [aT] z1 (sees_of_own (unhide HO1)).2 (unhide HLT) (by simp) (unhide HIT).1 (by have := unhide HNN; have := (unhide HIT).2; have := (unhide HIS).2; have := unhide HIY; (try simp only [List.length_append]); omega)).mono ?_
      rintro e z2 ⟨v2, rfl, o2, r2⟩
      have HB2 : Hid (Below (w.heap.size + 1) w1 z2 ∧ w.heap.size + 1 ≤ z2.heap.size) := on_step (unhide HB1).1 (unhide HB1).2 r2
      have HO2 := hide (own_mono o2 (unhide HB1).2)
      obtain ⟨p2, q2, rfl⟩ := own_shape o2
      obtain ⟨n2, hn2⟩ : ∃ z, (XS ++ putL [aT]).length = z := ⟨_, rfl⟩
      rw [hn2] at HO2
      rw [hn2]
      refine hK _ _ (unhide HB2).1 ?_
      clear hK hHeld o2 r2 hn2 HB1 HO1 HLT
      intro hHeld
      refine wpAnyH_ready (rs := [7, 10]) (by as_aux_lemma => kernel_rfl) (by simp) ?_
      refine AllReadyH.cons rfl (fun K hK => ?_) (AllReadyH.cons rfl (fun K hK => ?_) AllReadyH.nil)
      · go_simp
        refine (refYes_any _ (XS ++ putL [aT]) aY z2 (sees_of_own (unhide HO2)).2 (by have := unhide HNN; have := (unhide HIT).2.2; (try simp only [List.length_append]); omega)).mono ?_
        rintro e z3 ⟨v3, rfl, o3, r3⟩
        have HB3 : Hid (Below (w.heap.size + 1) w1 z3 ∧ w.heap.size + 1 ≤ z3.heap.size) := on_step (unhide HB2).1 (unhide HB2).2 r3
        have HO3 := hide (own_mono o3 (unhide HB2).2)
        obtain ⟨p3, q3, rfl⟩ := own_shape o3
        obtain ⟨n3, hn3⟩ : ∃ z, (XS ++ putL [aT] ++ putL [if aY then 1 else 0]).length = z := ⟨_, rfl⟩
        rw [hn3] at HO3
        rw [hn3]
        refine hK _ _ (unhide HB3).1 ?_
        clear hK hHeld o3 r3 hn3 HB2 HO2
        intro hHeld
        refine wpAnyH_ready (rs := [10]) (by as_aux_lemma => kernel_rfl) (by simp) ?_
        refine AllReadyH.cons rfl (fun K hK => ?_) AllReadyH.nil
        go_simp
        obtain ⟨z4, hz4⟩ : ∃ y, z3.alloc (.cells #[.int .i64 aS] 2) = y := ⟨_, rfl⟩
        have hq := lit_step aS hz4 (unhide HB3).1 (unhide HB3).2
        rw [hz4]
        have HB4 : Hid (Below (w.heap.size + 1) w1 z4 ∧ w.heap.size + 1 ≤ z4.heap.size) := on_step (unhide HB3).1 (unhide HB3).2 hq.2.1
        have HO4 := hide (own_below (unhide HO3) hq.2.1)
        have HLS := hide hq.2.2
        obtain ⟨gS, hgS⟩ : ∃ n, z3.heap.size = n := ⟨_, rfl⟩
        rw [hgS] at HLS
        rw [hgS]
        refine hK _ _ (unhide HB4).1 ?_
        clear hK hHeld hq hz4 hgS HB3 HO3
        intro hHeld
        refine wpAnyH_ready (rs := [11]) (by as_aux_lemma => kernel_rfl) (by simp) ?_
        refine AllReadyH.cons rfl (fun K hK => ?_) AllReadyH.nil
        go_simp
        refine (refn_any _ _ (XS ++ putL [aT] ++ putL [if aY then 1 else 0]) [aS] z4 (sees_of_own (unhide HO4)).2 (unhide HLS) (by simp) (unhide HIS).1 (by have := unhide HNN; have := (unhide HIT).2; have := (unhide HIS).2; have := unhide HIY; (try simp only [List.length_append]); omega)).mono ?_
        rintro e z5 ⟨v5, rfl, o5, r5⟩
        have HB5 : Hid (Below (w.heap.size + 1) w1 z5 ∧ w.heap.size + 1 ≤ z5.heap.size) := on_step (unhide HB4).1 (unhide HB4).2 r5
        have HO5 := hide (own_mono o5 (unhide HB4).2)
        obtain ⟨p5, q5, rfl⟩ := own_shape o5
        obtain ⟨n5, hn5⟩ : ∃ z, (XS ++ putL [aT] ++ putL [if aY then 1 else 0] ++ putL [aS]).length = z := ⟨_, rfl⟩
        rw [hn5] at HO5
        rw [hn5]
        refine hK _ _ (unhide HB5).1 ?_
        clear hK hHeld o5 r5 hn5 HB4 HO4 HLS
        intro hHeld
        refine wpAnyH_take (i := 12) (v := ?v8x12) rfl (by as_aux_lemma => kernel_rfl) (by as_aux_lemma => kernel_rfl) (by as_aux_lemma => kernel_rfl) (fun _ _ _ h => h) (Or.inl ⟨by rfl, ?hy8x12⟩) (by assumption) ?rest8x12
        case hy8x12 => intro w hSw; go_simp <;> with_reducible rfl
        simp only [Act.put, List.getElem_toArray, List.getElem_cons_zero, List.getElem_cons_succ, List.setIfInBounds_toArray, List.set_cons_zero, List.set_cons_succ]
        refine wpAnyH_done (by as_aux_lemma => kernel_rfl) ?_ _
        have HF : Hid (z5.ownsRow w.heap.size 5 1 (.slice p5 n5 q5) (msgB m).length (ints .u8 (msgB m)) ∧ Below w.heap.size w z5) := by
          show _ ∧ _
          have h3 := own_mono (unhide HO5) (Nat.le_succ w.heap.size)
          have e3 := (sees_of_own h3).1
          have e4 : msgB m = XS ++ putL [aT] ++ putL [if aY then 1 else 0] ++ putL [aS] := by rw [unhide HMM]; simp only [List.append_assoc]
          rw [e4, ← e3]
          exact ⟨h3, unhide HBW _ (unhide HB5).1⟩
        clear hHeld HO5
        go_wp2
        go_ret
        exact ⟨_, rfl, unhide HF⟩
      · go_simp
        obtain ⟨z3, hz3⟩ : ∃ y, z2.alloc (.cells #[.int .i64 aS] 2) = y := ⟨_, rfl⟩
        have hq := lit_step aS hz3 (unhide HB2).1 (unhide HB2).2
        rw [hz3]
        have HB3 : Hid (Below (w.heap.size + 1) w1 z3 ∧ w.heap.size + 1 ≤ z3.heap.size) := on_step (unhide HB2).1 (unhide HB2).2 hq.2.1
        have HO3 := hide (own_below (unhide HO2) hq.2.1)
        have HLS := hide hq.2.2
        obtain ⟨gS, hgS⟩ : ∃ n, z2.heap.size = n := ⟨_, rfl⟩
        rw [hgS] at HLS
        rw [hgS]
        refine hK _ _ (unhide HB3).1 ?_
        clear hK hHeld hq hz3 hgS HB2 HO2
        intro hHeld
        refine wpAnyH_ready (rs := [7]) (by as_aux_lemma => kernel_rfl) (by simp) ?_
        refine AllReadyH.cons rfl (fun K hK => ?_) AllReadyH.nil
        go_simp
        refine (refYes_any _ (XS ++ putL [aT]) aY z3 (sees_of_own (unhide HO3)).2 (by have := unhide HNN; have := (unhide HIT).2.2; (try simp only [List.length_append]); omega)).mono ?_
        rintro e z4 ⟨v4, rfl, o4, r4⟩
        have HB4 : Hid (Below (w.heap.size + 1) w1 z4 ∧ w.heap.size + 1 ≤ z4.heap.size) := on_step (unhide HB3).1 (unhide HB3).2 r4
        have HO4 := hide (own_mono o4 (unhide HB3).2)
        obtain ⟨p4, q4, rfl⟩ := own_shape o4
        obtain ⟨n4, hn4⟩ : ∃ z, (XS ++ putL [aT] ++ putL [if aY then 1 else 0]).length = z := ⟨_, rfl⟩
        rw [hn4] at HO4
        rw [hn4]
        have HLS := hide ((unhide HLS).below r4)
        refine hK _ _ (unhide HB4).1 ?_
        clear hK hHeld o4 r4 hn4 HB3 HO3
        intro hHeld
        refine wpAnyH_ready (rs := [11]) (by as_aux_lemma => kernel_rfl) (by simp) ?_
        refine AllReadyH.cons rfl (fun K hK => ?_) AllReadyH.nil
        go_simp
        refine (refn_any _ _ (XS ++ putL [aT] ++ putL [if aY then 1 else 0]) [aS] z4 (sees_of_own (unhide HO4)).2 (unhide HLS) (by simp) (unhide HIS).1 (by have := unhide HNN; have := (unhide HIT).2; have := (unhide HIS).2; have := unhide HIY; (try simp only [List.length_append]); omega)).mono ?_
        rintro e z5 ⟨v5, rfl, o5, r5⟩
        have HB5 : Hid (Below (w.heap.size + 1) w1 z5 ∧ w.heap.size + 1 ≤ z5.heap.size) := on_step (unhide HB4).1 (unhide HB4).2 r5
        have HO5 := hide (own_mono o5 (unhide HB4).2)
        obtain ⟨p5, q5, rfl⟩ := own_shape o5
        obtain ⟨n5, hn5⟩ : ∃ z, (XS ++ putL [aT] ++ putL [if aY then 1 else 0] ++ putL [aS]).length = z := ⟨_, rfl⟩
        rw [hn5] at HO5
        rw [hn5]
        refine hK _ _ (unhide HB5).1 ?_
        clear hK hHeld o5 r5 hn5 HB4 HO4 HLS
        intro hHeld
        refine wpAnyH_take (i := 12) (v := ?v9x12) rfl (by as_aux_lemma => kernel_rfl) (by as_aux_lemma => kernel_rfl) (by as_aux_lemma => kernel_rfl) (fun _ _ _ h => h) (Or.inl ⟨by rfl, ?hy9x12⟩) (by assumption) ?rest9x12
        case hy9x12 => intro w hSw; go_simp <;> with_reducible rfl
        simp only [Act.put, List.getElem_toArray, List.getElem_cons_zero, List.getElem_cons_succ, List.setIfInBounds_toArray, List.set_cons_zero, List.set_cons_succ]
        refine wpAnyH_done (by as_aux_lemma => kernel_rfl) ?_ _
        have HF : Hid (z5.ownsRow w.heap.size 5 1 (.slice p5 n5 q5) (msgB m).length (ints .u8 (msgB m)) ∧ Below w.heap.size w z5) := by
          show _ ∧ _
          have h3 := own_mono (unhide HO5) (Nat.le_succ w.heap.size)
          have e3 := (sees_of_own h3).1
          have e4 : msgB m = XS ++ putL [aT] ++ putL [if aY then 1 else 0] ++ putL [aS] := by rw [unhide HMM]; simp only [List.append_assoc]
          rw [e4, ← e3]
          exact ⟨h3, unhide HBW _ (unhide HB5).1⟩
        clear hHeld HO5
        go_wp2
        go_ret
        exact ⟨_, rfl, unhide HF⟩
    · go_simp
      obtain ⟨z2, hz2⟩ : ∃ y, z1.alloc (.cells #[.int .i64 aS] 2) = y := ⟨_, rfl⟩
      have hq := lit_step aS hz2 (unhide HB1).1 (unhide HB1).2
      rw [hz2]
      have HB2 : Hid (Below (w.heap.size + 1) w1 z2 ∧ w.heap.size + 1 ≤ z2.heap.size) := on_step (unhide HB1).1 (unhide HB1).2 hq.2.1
      have HO2 := hide (own_below (unhide HO1) hq.2.1)
      have HLT := hide ((unhide HLT).below hq.2.1)
      have HLS := hide hq.2.2
      obtain ⟨gS, hgS⟩ : ∃ n, z1.heap.size = n := ⟨_, rfl⟩
      rw [hgS] at HLS
      rw [hgS]
      refine hK _ _ (unhide HB2).1 ?_
      clear hK hHeld hq hz2 hgS HB1 HO1
      intro hHeld
      refine wpAnyH_ready (rs := [4]) (by as_aux_lemma => kernel_rfl) (by simp) ?_
      refine AllReadyH.cons rfl (fun K hK => ?_) AllReadyH.nil
      go_simp
      refine (refn_any _ _ (XS) [aT] z2 (sees_of_own (unhide HO2)).2 (unhide HLT) (by simp) (unhide HIT).1 (by have := unhide HNN; have := (unhide HIT).2; have := (unhide HIS).2; have := unhide HIY; (try simp only [List.length_append]); omega)).mono ?_
      rintro e z3 ⟨v3, rfl, o3, r3⟩
      have HB3 : Hid (Below (w.heap.size + 1) w1 z3 ∧ w.heap.size + 1 ≤ z3.heap.size) := on_step (unhide HB2).1 (unhide HB2).2 r3
      have HO3 := hide (own_mono o3 (unhide HB2).2)
      obtain ⟨p3, q3, rfl⟩ := own_shape o3
      obtain ⟨n3, hn3⟩ : ∃ z, (XS ++ putL [aT]).length = z := ⟨_, rfl⟩
      rw [hn3] at HO3
      rw [hn3]
      have HLS := hide ((unhide HLS).below r3)
      refine hK _ _ (unhide HB3).1 ?_
      clear hK hHeld o3 r3 hn3 HB2 HO2 HLT
      intro hHeld
      refine wpAnyH_ready (rs := [7]) (by as_aux_lemma => kernel_rfl) (by simp) ?_
      refine AllReadyH.cons rfl (fun K hK => ?_) AllReadyH.nil
      go_simp
      refine (refYes_any _ (XS ++ putL [aT]) aY z3 (sees_of_own (unhide HO3)).2 (by have := unhide HNN; have := (unhide HIT).2.2; (try simp only [List.length_append]); omega)).mono ?_
      rintro e z4 ⟨v4, rfl, o4, r4⟩
      have HB4 : Hid (Below (w.heap.size + 1) w1 z4 ∧ w.heap.size + 1 ≤ z4.heap.size) := on_step (unhide HB3).1 (unhide HB3).2 r4
      have HO4 := hide (own_mono o4 (unhide HB3).2)
      obtain ⟨p4, q4, rfl⟩ := own_shape o4
      obtain ⟨n4, hn4⟩ : ∃ z, (XS ++ putL [aT] ++ putL [if aY then 1 else 0]).length = z := ⟨_, rfl⟩
      rw [hn4] at HO4
      rw [hn4]
      have HLS := hide ((unhide HLS).below r4)
      refine hK _ _ (unhide HB4).1 ?_
      clear hK hHeld o4 r4 hn4 HB3 HO3
      intro hHeld
      refine wpAnyH_ready (rs := [11]) (by as_aux_lemma => kernel_rfl) (by simp) ?_
      refine AllReadyH.cons rfl (fun K hK => ?_) AllReadyH.nil
      go_simp
      refine (refn_any _ _ (XS ++ putL [aT] ++ putL [if aY then 1 else 0]) [aS] z4 (sees_of_own (unhide HO4)).2 (unhide HLS) (by simp) (unhide HIS).1 (by have := unhide HNN; have := (unhide HIT).2; have := (unhide HIS).2; have := unhide HIY; (try simp only [List.length_append]); omega)).mono ?_
      rintro e z5 ⟨v5, rfl, o5, r5⟩
      have HB5 : Hid (Below (w.heap.size + 1) w1 z5 ∧ w.heap.size + 1 ≤ z5.heap.size) := on_step (unhide HB4).1 (unhide HB4).2 r5
      have HO5 := hide (own_mono o5 (unhide HB4).2)
      obtain ⟨p5, q5, rfl⟩ := own_shape o5
      obtain ⟨n5, hn5⟩ : ∃ z, (XS ++ putL [aT] ++ putL [if aY then 1 else 0] ++ putL [aS]).length = z := ⟨_, rfl⟩
      rw [hn5] at HO5
      rw [hn5]
      refine hK _ _ (unhide HB5).1 ?_
      clear hK hHeld o5 r5 hn5 HB4 HO4 HLS
      intro hHeld
      refine wpAnyH_take (i := 12) (v := ?v10x12) rfl (by as_aux_lemma => kernel_rfl) (by as_aux_lemma => kernel_rfl) (by as_aux_lemma => kernel_rfl) (fun _ _ _ h => h) (Or.inl ⟨by rfl, ?hy10x12⟩) (by assumption) ?rest10x12
      case hy10x12 => intro w hSw; go_simp <;> with_reducible rfl
      simp only [Act.put, List.getElem_toArray, List.getElem_cons_zero, List.getElem_cons_succ, List.setIfInBounds_toArray, List.set_cons_zero, List.set_cons_succ]
      refine wpAnyH_done (by as_aux_lemma => kernel_rfl) ?_ _
      have HF : Hid (z5.ownsRow w.heap.size 5 1 (.slice p5 n5 q5) (msgB m).length (ints .u8 (msgB m)) ∧ Below w.heap.size w z5) := by
        show _ ∧ _
        have h3 := own_mono (unhide HO5) (Nat.le_succ w.heap.size)
        have e3 := (sees_of_own h3).1
        have e4 : msgB m = XS ++ putL [aT] ++ putL [if aY then 1 else 0] ++ putL [aS] := by rw [unhide HMM]; simp only [List.append_assoc]
        rw [e4, ← e3]
        exact ⟨h3, unhide HBW _ (unhide HB5).1⟩
      clear hHeld HO5
      go_wp2
      go_ret
      exact ⟨_, rfl, unhide HF⟩
  · go_simp
    obtain ⟨z1, hz1⟩ : ∃ y, z0.alloc (.cells #[.int .i64 aS] 2) = y := ⟨_, rfl⟩
    have hq := lit_step aS hz1 (unhide HB0).1 (unhide HB0).2
    rw [hz1]
    have HB1 : Hid (Below (w.heap.size + 1) w1 z1 ∧ w.heap.size + 1 ≤ z1.heap.size) := on_step (unhide HB0).1 (unhide HB0).2 hq.2.1
    have HO1 := hide (own_below (unhide HO0) hq.2.1)
    have HLS := hide hq.2.2
    obtain ⟨gS, hgS⟩ : ∃ n, z0.heap.size = n := ⟨_, rfl⟩
    rw [hgS] at HLS
    rw [hgS]
    refine hK _ _ (unhide HB1).1 ?_
    clear hK hHeld hq hz1 hgS HB0 HO0
    intro hHeld
    refine wpAnyH_ready (rs := [3]) (by as_aux_lemma => kernel_rfl) (by simp) ?_
    refine AllReadyH.cons rfl (fun K hK => ?_) AllReadyH.nil
    go_simp
    obtain ⟨z2, hz2⟩ : ∃ y, z1.alloc (.cells #[.int .i64 aT] 2) = y := ⟨_, rfl⟩
    have hq := lit_step aT hz2 (unhide HB1).1 (unhide HB1).2
    rw [hz2]
    have HB2 : Hid (Below (w.heap.size + 1) w1 z2 ∧ w.heap.size + 1 ≤ z2.heap.size) := on_step (unhide HB1).1 (unhide HB1).2 hq.2.1
    have HO2 := hide (own_below (unhide HO1) hq.2.1)
    have HLS := hide ((unhide HLS).below hq.2.1)
    have HLT := hide hq.2.2
    obtain ⟨gT, hgT⟩ : ∃ n, z1.heap.size = n := ⟨_, rfl⟩
    rw [hgT] at HLT
    rw [hgT]
    refine hK _ _ (unhide HB2).1 ?_
    clear hK hHeld hq hz2 hgT HB1 HO1
    intro hHeld
    refine wpAnyH_ready (rs := [4]) (by as_aux_lemma => kernel_rfl) (by simp) ?_
    refine AllReadyH.cons rfl (fun K hK => ?_) AllReadyH.nil
    go_simp
    refine (refn_any _ _ (XS) [aT] z2 (sees_of_own (unhide HO2)).2 (unhide HLT) (by simp) (unhide HIT).1 (by have := unhide HNN; have := (unhide HIT).2; have := (unhide HIS).2; have := unhide HIY; (try simp only [List.length_append]); omega)).mono ?_
    rintro e z3 ⟨v3, rfl, o3, r3⟩
    have HB3 : Hid (Below (w.heap.size + 1) w1 z3 ∧ w.heap.size + 1 ≤ z3.heap.size) := on_step (unhide HB2).1 (unhide HB2).2 r3
    have HO3 := hide (own_mono o3 (unhide HB2).2)
    obtain ⟨p3, q3, rfl⟩ := own_shape o3
    obtain ⟨n3, hn3⟩ : ∃ z, (XS ++ putL [aT]).length = z := ⟨_, rfl⟩
    rw [hn3] at HO3
    rw [hn3]
    have HLS := hide ((unhide HLS).below r3)
    refine hK _ _ (unhide HB3).1 ?_
    clear hK hHeld o3 r3 hn3 HB2 HO2 HLT
    intro hHeld
    refine wpAnyH_ready (rs := [7]) (by as_aux_lemma => kernel_rfl) (by simp) ?_
    refine AllReadyH.cons rfl (fun K hK => ?_) AllReadyH.nil
    go_simp
    refine (refYes_any _ (XS ++ putL [aT]) aY z3 (sees_of_own (unhide HO3)).2 (by have := unhide HNN; have := (unhide HIT).2.2; (try simp only [List.length_append]); omega)).mono ?_
    rintro e z4 ⟨v4, rfl, o4, r4⟩
    have HB4 : Hid (Below (w.heap.size + 1) w1 z4 ∧ w.heap.size + 1 ≤ z4.heap.size) := on_step (unhide HB3).1 (unhide HB3).2 r4
    have HO4 := hide (own_mono o4 (unhide HB3).2)
    obtain ⟨p4, q4, rfl⟩ := own_shape o4
    obtain ⟨n4, hn4⟩ : ∃ z, (XS ++ putL [aT] ++ putL [if aY then 1 else 0]).length = z := ⟨_, rfl⟩
    rw [hn4] at HO4
    rw [hn4]
    have HLS := hide ((unhide HLS).below r4)
    refine hK _ _ (unhide HB4).1 ?_
    clear hK hHeld o4 r4 hn4 HB3 HO3
    intro hHeld
    refine wpAnyH_ready (rs := [11]) (by as_aux_lemma => kernel_rfl) (by simp) ?_
    refine AllReadyH.cons rfl (fun K hK => ?_) AllReadyH.nil
    go_simp
    refine (refn_any _ _ (XS ++ putL [aT] ++ putL [if aY then 1 else 0]) [aS] z4 (sees_of_own (unhide HO4)).2 (unhide HLS) (by simp) (unhide HIS).1 (by have := unhide HNN; have := (unhide HIT).2; have := (unhide HIS).2; have := unhide HIY; (try simp only [List.length_append]); omega)).mono ?_
    rintro e z5 ⟨v5, rfl, o5, r5⟩
    have HB5 : Hid (Below (w.heap.size + 1) w1 z5 ∧ w.heap.size + 1 ≤ z5.heap.size) := on_step (unhide HB4).1 (unhide HB4).2 r5
    have HO5 := hide (own_mono o5 (unhide HB4).2)
    obtain ⟨p5, q5, rfl⟩ := own_shape o5
    obtain ⟨n5, hn5⟩ : ∃ z, (XS ++ putL [aT] ++ putL [if aY then 1 else 0] ++ putL [aS]).length = z := ⟨_, rfl⟩
    rw [hn5] at HO5
    rw [hn5]
    refine hK _ _ (unhide HB5).1 ?_
    clear hK hHeld o5 r5 hn5 HB4 HO4 HLS
    intro hHeld
    refine wpAnyH_take (i := 12) (v := ?v11x12) rfl (by as_aux_lemma => kernel_rfl) (by as_aux_lemma => kernel_rfl) (by as_aux_lemma => kernel_rfl) (fun _ _ _ h => h) (Or.inl ⟨by rfl, ?hy11x12⟩) (by assumption) ?rest11x12
    case hy11x12 => intro w hSw; go_simp <;> with_reducible rfl
    simp only [Act.put, List.getElem_toArray, List.getElem_cons_zero, List.getElem_cons_succ, List.setIfInBounds_toArray, List.set_cons_zero, List.set_cons_succ]
    refine wpAnyH_done (by as_aux_lemma => kernel_rfl) ?_ _
    have HF : Hid (z5.ownsRow w.heap.size 5 1 (.slice p5 n5 q5) (msgB m).length (ints .u8 (msgB m)) ∧ Below w.heap.size w z5) := by
      show _ ∧ _
      have h3 := own_mono (unhide HO5) (Nat.le_succ w.heap.size)
      have e3 := (sees_of_own h3).1
      have e4 : msgB m = XS ++ putL [aT] ++ putL [if aY then 1 else 0] ++ putL [aS] := by rw [unhide HMM]; simp only [List.append_assoc]
      rw [e4, ← e3]
      exact ⟨h3, unhide HBW _ (unhide HB5).1⟩
    clear hHeld HO5
    go_wp2
    go_ret
    exact ⟨_, rfl, unhide HF⟩
end Go.Proofs.YtggllgimlfchhaaGreat
