/- Record: the document's MsgForm, of some kinds. -/
import Derived.Test.YtggllgimlfchhaaGreatDI
namespace Go.Proofs.YtggllgimlfchhaaGreat
open Go.RowKit
set_option maxRecDepth 100000

set_option maxHeartbeats 1600000 in
theorem msgForm1_any (cs : Array Value) (m : MsgD) (w : World) (hM : SeesM w cs m) (hfit : FitM m) (hF : -9223372036854775808 ≤ m.frm ∧ m.frm ≤ 9223372036854775807) (hO : -9223372036854775808 ≤ m.to ∧ m.to ≤ 9223372036854775807) (hk : m.kind = 1) (hm : mayMsg m = true) :
    Calls Tryz.prog 42 #[.agg cs] w fun e w' => ∃ v', e = .returned v' ∧ w'.ownsRow w.heap.size 5 1 v' (msgB m).length (ints .u8 (msgB m)) ∧ Below w.heap.size w w' := by
  have hall := mayMsg_fields hm
  have HFI := hide hfit
  have hft := hfit.term; have hfs := hfit.slot; have hfl := hfit.last; have hfc := hfit.commit
  obtain ⟨lv, tv, dv, rfl, k1, k2, k3⟩ := hM
  have K1 : Hid (∀ x, Below w.heap.size w x → SeesTms x lv m.list) := fun x hb => k1.below hb
  have K2 : Hid (∀ x, Below w.heap.size w x → SeesE x #[.int .i64 m.ent.kind, .int .i64 m.ent.frm, .int .i64 m.ent.num, tv] m.ent) := fun x hb => ⟨_, rfl, k2.below hb⟩
  have K3 : Hid (∀ x, Below w.heap.size w x → SeesP x #[.int .i64 m.part.slot, .int .i64 m.part.idx, .int .i64 m.part.many, dv] m.part) := fun x hb => ⟨_, rfl, k3.below hb⟩
  obtain ⟨la, lc, _, _, rfl, _⟩ := k1
  obtain ⟨ta, tc, _, _, rfl, _⟩ := k2
  obtain ⟨da, dc, rfl, _⟩ := k3
  have HMB : Hid (msgB m = putL [1, m.frm, m.to] ++ flsB (fieldsL 1) m) := (show msgB m = _ from by unfold msgB; rw [hk])
  rw [hk] at hall ⊢
  obtain ⟨aF, EaF⟩ : ∃ x, m.frm = x := ⟨_, rfl⟩
  obtain ⟨aO, EaO⟩ : ∃ x, m.to = x := ⟨_, rfl⟩
  obtain ⟨aT, EaT⟩ : ∃ x, m.term = x := ⟨_, rfl⟩
  obtain ⟨aS, EaS⟩ : ∃ x, m.slot = x := ⟨_, rfl⟩
  obtain ⟨aL, EaL⟩ : ∃ x, m.last = x := ⟨_, rfl⟩
  obtain ⟨aC, EaC⟩ : ∃ x, m.commit = x := ⟨_, rfl⟩
  obtain ⟨aY, EaY⟩ : ∃ x, m.yes = x := ⟨_, rfl⟩
  obtain ⟨ll, Ell⟩ : ∃ x, m.list.length = x := ⟨_, rfl⟩
  obtain ⟨ek, Eek⟩ : ∃ x, m.ent.kind = x := ⟨_, rfl⟩
  obtain ⟨ef, Eef⟩ : ∃ x, m.ent.frm = x := ⟨_, rfl⟩
  obtain ⟨en, Een⟩ : ∃ x, m.ent.num = x := ⟨_, rfl⟩
  obtain ⟨tl, Etl⟩ : ∃ x, m.ent.txns.length = x := ⟨_, rfl⟩
  obtain ⟨ps, Eps⟩ : ∃ x, m.part.slot = x := ⟨_, rfl⟩
  obtain ⟨pi, Epi⟩ : ∃ x, m.part.idx = x := ⟨_, rfl⟩
  obtain ⟨pm, Epm⟩ : ∃ x, m.part.many = x := ⟨_, rfl⟩
  obtain ⟨dl, Edl⟩ : ∃ x, m.part.data.length = x := ⟨_, rfl⟩
  rw [EaF, EaO, EaT, EaS, EaL, EaC, EaY, Ell, Eek, Eef, Een, Etl, Eps, Epi, Epm, Edl]
  rw [Ell] at K1
  simp only [Eek, Eef, Een, Etl] at K2
  simp only [Eps, Epi, Epm, Edl] at K3
  rw [EaF] at hF
  rw [EaO] at hO
  rw [EaF, EaO] at HMB
  rw [EaT] at hft
  rw [EaS] at hfs
  rw [EaL] at hfl
  rw [EaC] at hfc
  have hal : Below w.heap.size w (w.alloc (.cells #[.int .i64 1, .int .i64 aF, .int .i64 aO, .int .i64 aT, .int .i64 aS, .int .i64 aL, .int .i64 aC, .bool aY, .slice la ll lc, .int .i64 ek, .int .i64 ef, .int .i64 en, .slice ta tl tc, .int .i64 ps, .int .i64 pi, .int .i64 pm, .slice da dl dc] 34)) := (Below.refl _ _).alloc (Nat.le_refl _) _
  have hx1 : (w.alloc (.cells #[.int .i64 1, .int .i64 aF, .int .i64 aO, .int .i64 aT, .int .i64 aS, .int .i64 aL, .int .i64 aC, .bool aY, .slice la ll lc, .int .i64 ek, .int .i64 ef, .int .i64 en, .slice ta tl tc, .int .i64 ps, .int .i64 pi, .int .i64 pm, .slice da dl dc] 34)).heap[w.heap.size]? = some (.cells #[.int .i64 1, .int .i64 aF, .int .i64 aO, .int .i64 aT, .int .i64 aS, .int .i64 aL, .int .i64 aC, .bool aY, .slice la ll lc, .int .i64 ek, .int .i64 ef, .int .i64 en, .slice ta tl tc, .int .i64 ps, .int .i64 pi, .int .i64 pm, .slice da dl dc] 34) := heap_alloc_new w _
  have hsz : (w.alloc (.cells #[.int .i64 1, .int .i64 aF, .int .i64 aO, .int .i64 aT, .int .i64 aS, .int .i64 aL, .int .i64 aC, .bool aY, .slice la ll lc, .int .i64 ek, .int .i64 ef, .int .i64 en, .slice ta tl tc, .int .i64 ps, .int .i64 pi, .int .i64 pm, .slice da dl dc] 34)).heap.size = w.heap.size + 1 := by simp
  obtain ⟨w1, hw1⟩ : ∃ y, w.alloc (.cells #[.int .i64 1, .int .i64 aF, .int .i64 aO, .int .i64 aT, .int .i64 aS, .int .i64 aL, .int .i64 aC, .bool aY, .slice la ll lc, .int .i64 ek, .int .i64 ef, .int .i64 en, .slice ta tl tc, .int .i64 ps, .int .i64 pi, .int .i64 pm, .slice da dl dc] 34) = y := ⟨_, rfl⟩
  rw [hw1] at hal hx1 hsz
  have HX : Hid (∀ x, Below (w.heap.size + 1) w1 x → x.heap[w.heap.size]? = some (.cells #[.int .i64 1, .int .i64 aF, .int .i64 aO, .int .i64 aT, .int .i64 aS, .int .i64 aL, .int .i64 aC, .bool aY, .slice la ll lc, .int .i64 ek, .int .i64 ef, .int .i64 en, .slice ta tl tc, .int .i64 ps, .int .i64 pi, .int .i64 pm, .slice da dl dc] 34)) := fun x hb => (hb.block _ (by omega)).trans hx1
  have HBW : Hid (∀ x, Below (w.heap.size + 1) w1 x → Below w.heap.size w x) := fun x hb => hal.trans (hb.mono (by omega))
  have c0 : w1.cell? ⟨w.heap.size, 0, none⟩ = some (.int .i64 1) := cell_of_heap hx1
  have c1 : w1.cell? ⟨w.heap.size, 1, none⟩ = some (.int .i64 aF) := cell_of_heap hx1
  have c2 : w1.cell? ⟨w.heap.size, 2, none⟩ = some (.int .i64 aO) := cell_of_heap hx1
  have HN1 := hide (refn_any (.slice none 0 0) _ [] [1, aF, aO] _ (Sees.nil _ _) (sees_lit w1 [1, aF, aO] (by simp)) (by simp) (i64_of fun x hx => by simp at hx; rcases hx with rfl | rfl | rfl <;> omega) (by have : sizeL [1, aF, aO] ≤ 27 := sizeL_le [1, aF, aO]; simp; omega))
  simp only [List.length_cons, List.length_nil, Nat.reduceAdd, List.nil_append] at HN1
  have HB2 : Hid (Below (w.heap.size + 1) w1 (w1.alloc (.cells #[.int .i64 1, .int .i64 aF, .int .i64 aO] 2))) := (Below.refl _ _).alloc (by omega) _
  have HSZ := hide hsz
  clear hal hx1 hsz hm
  go_enter Tryz.func42, Tryz.ntmps42
  go_wp2_with (rw [hw1])
  refine (unhide HN1).mono ?_
  rintro e y1 ⟨v1, rfl, o1, r1⟩
  have hB1 : Below (w.heap.size + 1) w1 y1 := (unhide HB2).trans (r1.mono (by simp [unhide HSZ]))
  have hx := unhide HX y1 hB1
  have HB1 := hide hB1
  have O1 : Hid (y1.ownsRow (w.heap.size + 1) 5 1 v1 (putL [1, aF, aO]).length (ints .u8 (putL [1, aF, aO]))) := own_mono o1 (by simp [unhide HSZ])
  obtain ⟨a1, cc1, rfl⟩ := own_shape o1
  have d0 : y1.cell? ⟨w.heap.size, 0, none⟩ = some (.int .i64 1) := cell_of_heap hx
  have d3 : y1.cell? ⟨w.heap.size, 3, none⟩ = some (.int .i64 aT) := cell_of_heap hx
  have d4 : y1.cell? ⟨w.heap.size, 4, none⟩ = some (.int .i64 aS) := cell_of_heap hx
  have d5 : y1.cell? ⟨w.heap.size, 5, none⟩ = some (.int .i64 aL) := cell_of_heap hx
  have hz2 : Below y1.heap.size y1 (y1.alloc (.cells #[.int .i64 aT, .int .i64 aS, .int .i64 aL] 2)) := (Below.refl _ _).alloc (Nat.le_refl _) _
  have HN2 := hide (refn_any _ _ (putL [1, aF, aO]) [aT, aS, aL] _ ((sees_of_own (unhide O1)).2.below hz2) (sees_lit y1 [aT, aS, aL] (by simp)) (by simp) (i64_of fun x hx => by simp at hx; rcases hx with rfl | rfl | rfl <;> assumption) (by
    have h1 : sizeL [aT, aS, aL] ≤ 27 := sizeL_le [aT, aS, aL]
    have h2 := putL_le [(1 : Int), aF, aO]
    simp only [List.length_cons, List.length_nil] at h2
    omega))
  simp only [List.length_cons, List.length_nil, Nat.reduceAdd] at HN2
  have HZ2 : Hid (Below (w.heap.size + 1) w1 (y1.alloc (.cells #[.int .i64 aT, .int .i64 aS, .int .i64 aL] 2))) := (unhide HB1).trans (hz2.mono (by have := (unhide HB1).size; have := unhide HSZ; omega))
  have HMM : Hid (msgB m = putL [1, aF, aO] ++ putL [aT, aS, aL]) := (show msgB m = _ from by
    rw [unhide HMB]
    have e : flsB (fieldsL 1) m = putL [aT, aS, aL] := by
      have e2 : putL [aT, aS, aL] = putL [aT] ++ (putL [aS] ++ putL [aL]) := by rw [← putL_app, ← putL_app]; rfl
      rw [e2]
      simp [flsB, fieldsL, fB, EaT, EaS, EaL]
    rw [e])
  obtain ⟨n1, hn1⟩ : ∃ z, (putL [1, aF, aO]).length = z := ⟨_, rfl⟩
  rw [hn1] at HN2
  rw [hn1]
  clear hn1 o1 r1 hB1 hx hz2 HN1 hft hfs hfl hfc hF hO
  go_wp2_with fail
  refine (unhide HN2).mono ?_
  rintro e y2 ⟨v2, rfl, o2, r2⟩
  have hB2 : Below (w.heap.size + 1) w1 y2 := (unhide HZ2).trans (r2.mono (by have := (unhide HB1).size; have := unhide HSZ; simp; omega))
  have HF : Hid (y2.ownsRow w.heap.size 5 1 v2 (msgB m).length (ints .u8 (msgB m)) ∧ Below w.heap.size w y2) := by
    show _ ∧ _
    rw [unhide HMM]
    exact ⟨own_mono o2 (by have := (unhide HB1).size; have := unhide HSZ; simp; omega), unhide HBW y2 hB2⟩
  clear o2 r2 hB2
  go_wp2_with fail
  go_ret
  exact ⟨_, rfl, unhide HF⟩

set_option maxHeartbeats 1600000 in
theorem msgForm6_any (cs : Array Value) (m : MsgD) (w : World) (hM : SeesM w cs m) (hfit : FitM m) (hF : -9223372036854775808 ≤ m.frm ∧ m.frm ≤ 9223372036854775807) (hO : -9223372036854775808 ≤ m.to ∧ m.to ≤ 9223372036854775807) (hk : m.kind = 6) (hm : mayMsg m = true) :
    Calls Tryz.prog 42 #[.agg cs] w fun e w' => ∃ v', e = .returned v' ∧ w'.ownsRow w.heap.size 5 1 v' (msgB m).length (ints .u8 (msgB m)) ∧ Below w.heap.size w w' := by
  have hall := mayMsg_fields hm
  have HFI := hide hfit
  have hft := hfit.term; have hfs := hfit.slot; have hfl := hfit.last; have hfc := hfit.commit
  obtain ⟨lv, tv, dv, rfl, k1, k2, k3⟩ := hM
  have K1 : Hid (∀ x, Below w.heap.size w x → SeesTms x lv m.list) := fun x hb => k1.below hb
  have K2 : Hid (∀ x, Below w.heap.size w x → SeesE x #[.int .i64 m.ent.kind, .int .i64 m.ent.frm, .int .i64 m.ent.num, tv] m.ent) := fun x hb => ⟨_, rfl, k2.below hb⟩
  have K3 : Hid (∀ x, Below w.heap.size w x → SeesP x #[.int .i64 m.part.slot, .int .i64 m.part.idx, .int .i64 m.part.many, dv] m.part) := fun x hb => ⟨_, rfl, k3.below hb⟩
  obtain ⟨la, lc, _, _, rfl, _⟩ := k1
  obtain ⟨ta, tc, _, _, rfl, _⟩ := k2
  obtain ⟨da, dc, rfl, _⟩ := k3
  have HMB : Hid (msgB m = putL [6, m.frm, m.to] ++ flsB (fieldsL 6) m) := (show msgB m = _ from by unfold msgB; rw [hk])
  rw [hk] at hall ⊢
  obtain ⟨aF, EaF⟩ : ∃ x, m.frm = x := ⟨_, rfl⟩
  obtain ⟨aO, EaO⟩ : ∃ x, m.to = x := ⟨_, rfl⟩
  obtain ⟨aT, EaT⟩ : ∃ x, m.term = x := ⟨_, rfl⟩
  obtain ⟨aS, EaS⟩ : ∃ x, m.slot = x := ⟨_, rfl⟩
  obtain ⟨aL, EaL⟩ : ∃ x, m.last = x := ⟨_, rfl⟩
  obtain ⟨aC, EaC⟩ : ∃ x, m.commit = x := ⟨_, rfl⟩
  obtain ⟨aY, EaY⟩ : ∃ x, m.yes = x := ⟨_, rfl⟩
  obtain ⟨ll, Ell⟩ : ∃ x, m.list.length = x := ⟨_, rfl⟩
  obtain ⟨ek, Eek⟩ : ∃ x, m.ent.kind = x := ⟨_, rfl⟩
  obtain ⟨ef, Eef⟩ : ∃ x, m.ent.frm = x := ⟨_, rfl⟩
  obtain ⟨en, Een⟩ : ∃ x, m.ent.num = x := ⟨_, rfl⟩
  obtain ⟨tl, Etl⟩ : ∃ x, m.ent.txns.length = x := ⟨_, rfl⟩
  obtain ⟨ps, Eps⟩ : ∃ x, m.part.slot = x := ⟨_, rfl⟩
  obtain ⟨pi, Epi⟩ : ∃ x, m.part.idx = x := ⟨_, rfl⟩
  obtain ⟨pm, Epm⟩ : ∃ x, m.part.many = x := ⟨_, rfl⟩
  obtain ⟨dl, Edl⟩ : ∃ x, m.part.data.length = x := ⟨_, rfl⟩
  rw [EaF, EaO, EaT, EaS, EaL, EaC, EaY, Ell, Eek, Eef, Een, Etl, Eps, Epi, Epm, Edl]
  rw [Ell] at K1
  simp only [Eek, Eef, Een, Etl] at K2
  simp only [Eps, Epi, Epm, Edl] at K3
  rw [EaF] at hF
  rw [EaO] at hO
  rw [EaF, EaO] at HMB
  rw [EaT] at hft
  rw [EaS] at hfs
  rw [EaL] at hfl
  rw [EaC] at hfc
  have hal : Below w.heap.size w (w.alloc (.cells #[.int .i64 6, .int .i64 aF, .int .i64 aO, .int .i64 aT, .int .i64 aS, .int .i64 aL, .int .i64 aC, .bool aY, .slice la ll lc, .int .i64 ek, .int .i64 ef, .int .i64 en, .slice ta tl tc, .int .i64 ps, .int .i64 pi, .int .i64 pm, .slice da dl dc] 34)) := (Below.refl _ _).alloc (Nat.le_refl _) _
  have hx1 : (w.alloc (.cells #[.int .i64 6, .int .i64 aF, .int .i64 aO, .int .i64 aT, .int .i64 aS, .int .i64 aL, .int .i64 aC, .bool aY, .slice la ll lc, .int .i64 ek, .int .i64 ef, .int .i64 en, .slice ta tl tc, .int .i64 ps, .int .i64 pi, .int .i64 pm, .slice da dl dc] 34)).heap[w.heap.size]? = some (.cells #[.int .i64 6, .int .i64 aF, .int .i64 aO, .int .i64 aT, .int .i64 aS, .int .i64 aL, .int .i64 aC, .bool aY, .slice la ll lc, .int .i64 ek, .int .i64 ef, .int .i64 en, .slice ta tl tc, .int .i64 ps, .int .i64 pi, .int .i64 pm, .slice da dl dc] 34) := heap_alloc_new w _
  have hsz : (w.alloc (.cells #[.int .i64 6, .int .i64 aF, .int .i64 aO, .int .i64 aT, .int .i64 aS, .int .i64 aL, .int .i64 aC, .bool aY, .slice la ll lc, .int .i64 ek, .int .i64 ef, .int .i64 en, .slice ta tl tc, .int .i64 ps, .int .i64 pi, .int .i64 pm, .slice da dl dc] 34)).heap.size = w.heap.size + 1 := by simp
  obtain ⟨w1, hw1⟩ : ∃ y, w.alloc (.cells #[.int .i64 6, .int .i64 aF, .int .i64 aO, .int .i64 aT, .int .i64 aS, .int .i64 aL, .int .i64 aC, .bool aY, .slice la ll lc, .int .i64 ek, .int .i64 ef, .int .i64 en, .slice ta tl tc, .int .i64 ps, .int .i64 pi, .int .i64 pm, .slice da dl dc] 34) = y := ⟨_, rfl⟩
  rw [hw1] at hal hx1 hsz
  have HX : Hid (∀ x, Below (w.heap.size + 1) w1 x → x.heap[w.heap.size]? = some (.cells #[.int .i64 6, .int .i64 aF, .int .i64 aO, .int .i64 aT, .int .i64 aS, .int .i64 aL, .int .i64 aC, .bool aY, .slice la ll lc, .int .i64 ek, .int .i64 ef, .int .i64 en, .slice ta tl tc, .int .i64 ps, .int .i64 pi, .int .i64 pm, .slice da dl dc] 34)) := fun x hb => (hb.block _ (by omega)).trans hx1
  have HBW : Hid (∀ x, Below (w.heap.size + 1) w1 x → Below w.heap.size w x) := fun x hb => hal.trans (hb.mono (by omega))
  have c0 : w1.cell? ⟨w.heap.size, 0, none⟩ = some (.int .i64 6) := cell_of_heap hx1
  have c1 : w1.cell? ⟨w.heap.size, 1, none⟩ = some (.int .i64 aF) := cell_of_heap hx1
  have c2 : w1.cell? ⟨w.heap.size, 2, none⟩ = some (.int .i64 aO) := cell_of_heap hx1
  have HN1 := hide (refn_any (.slice none 0 0) _ [] [6, aF, aO] _ (Sees.nil _ _) (sees_lit w1 [6, aF, aO] (by simp)) (by simp) (i64_of fun x hx => by simp at hx; rcases hx with rfl | rfl | rfl <;> omega) (by have : sizeL [6, aF, aO] ≤ 27 := sizeL_le [6, aF, aO]; simp; omega))
  simp only [List.length_cons, List.length_nil, Nat.reduceAdd, List.nil_append] at HN1
  have HB2 : Hid (Below (w.heap.size + 1) w1 (w1.alloc (.cells #[.int .i64 6, .int .i64 aF, .int .i64 aO] 2))) := (Below.refl _ _).alloc (by omega) _
  have HSZ := hide hsz
  clear hal hx1 hsz hm
  go_enter Tryz.func42, Tryz.ntmps42
  go_wp2_with (rw [hw1])
  refine (unhide HN1).mono ?_
  rintro e y1 ⟨v1, rfl, o1, r1⟩
  have hB1 : Below (w.heap.size + 1) w1 y1 := (unhide HB2).trans (r1.mono (by simp [unhide HSZ]))
  have hx := unhide HX y1 hB1
  have HB1 := hide hB1
  have O1 : Hid (y1.ownsRow (w.heap.size + 1) 5 1 v1 (putL [6, aF, aO]).length (ints .u8 (putL [6, aF, aO]))) := own_mono o1 (by simp [unhide HSZ])
  obtain ⟨a1, cc1, rfl⟩ := own_shape o1
  have d0 : y1.cell? ⟨w.heap.size, 0, none⟩ = some (.int .i64 6) := cell_of_heap hx
  have d9 : y1.cell? ⟨w.heap.size, 9, none⟩ = some (.int .i64 ek) := cell_of_heap hx
  have d10 : y1.cell? ⟨w.heap.size, 10, none⟩ = some (.int .i64 ef) := cell_of_heap hx
  have d11 : y1.cell? ⟨w.heap.size, 11, none⟩ = some (.int .i64 en) := cell_of_heap hx
  have d12 : y1.cell? ⟨w.heap.size, 12, none⟩ = some (.slice ta tl tc) := cell_of_heap hx
  have hmE : mayE m.ent = true := by have := hall 6 (by simp [fieldsL]); simpa [fMay] using this
  have hle := entB_le hmE
  have HE := hide (entryForm_any _ m.ent y1 (unhide K2 y1 (unhide HBW y1 hB1)) (unhide HFI).ent hmE)
  have HMM : Hid (msgB m = putL [6, aF, aO] ++ entB m.ent) := (show msgB m = _ from by
    rw [unhide HMB]
    have e : flsB (fieldsL 6) m = entB m.ent := by simp [flsB, fieldsL, fB]
    rw [e])
  have hl1 := putL_le [(6 : Int), aF, aO]
  simp only [List.length_cons, List.length_nil] at hl1
  obtain ⟨XS, hXS⟩ : ∃ z, putL [6, aF, aO] = z := ⟨_, rfl⟩
  rw [hXS] at O1 HMM hl1
  rw [hXS]
  obtain ⟨n1, hn1⟩ : ∃ z, XS.length = z := ⟨_, rfl⟩
  rw [hn1]
  have HN := hide hn1
  have HL1 := hide hl1
  have HLE := hide hle
  clear hn1 hXS o1 r1 hB1 hx HN1 hft hfs hfl hfc hF hO hl1 hle hmE
  go_wp2_with fail
  refine (unhide HE).mono ?_
  rintro e y2 ⟨v2, rfl, o2, r2⟩
  have hB2 : Below (w.heap.size + 1) w1 y2 := (unhide HB1).trans (r2.mono (by have := (unhide HB1).size; have := unhide HSZ; omega))
  have hs2 : w.heap.size + 1 ≤ y2.heap.size := by have := hB2.size; have := unhide HSZ; omega
  have hoB := own_below (unhide O1) r2
  obtain ⟨v6, w6, hr6, ho6, hg6⟩ := run_append_sees (w.heap.size + 1) _ XS hoB v2 (entB m.ent) (sees_of_own o2).2 (by have := unhide HL1; have := unhide HLE; omega) hs2 23
  have hB6 : Below (w.heap.size + 1) w1 w6 := hB2.grown hg6 hs2 (own_block_le hoB)
  have HF : Hid (w6.ownsRow w.heap.size 5 1 v6 (msgB m).length (ints .u8 (msgB m)) ∧ Below w.heap.size w w6) := by
    show _ ∧ _
    rw [unhide HMM]
    exact ⟨own_mono ho6 (by omega), unhide HBW w6 hB6⟩
  obtain ⟨a3, c3, rfl⟩ := own_shape o2
  obtain ⟨n3, hn3⟩ : ∃ z, (entB m.ent).length = z := ⟨_, rfl⟩
  rw [hn3, unhide HN] at hr6
  rw [hn3]
  clear hB2 hs2 hoB ho6 hg6 hB6 o2 r2 hn3 HE
  go_wp2_with (at_builtin; refine wpList_append_wanted (by rfl) _ _ 23 rfl rfl rfl hr6 ?_)
  go_ret
  exact ⟨_, rfl, unhide HF⟩
end Go.Proofs.YtggllgimlfchhaaGreat
