/- RecordOwn: the walk. -/
import Derived.Test.YtggllgimlfchhabGreatOF
namespace Go.Proofs.YtggllgimlfchhabGreat
open Go.RowKit
set_option maxRecDepth 100000

theorem SoftI.narrow {P : Nat → Prop} {w : World} {s k n : Nat} {ik : IntKind} {v : Value} (h : SoftI P w s k ik v n) : SoftI (fun g => P g ∧ g < w.heap.size) w s k ik v n := by
  obtain ⟨ao, cap, rfl, h1, h2, h3⟩ := h
  refine ⟨ao, cap, rfl, h1, h2, fun hn => ?_⟩
  obtain ⟨g, cur, T, e, hP, hg, hc⟩ := h3 hn
  exact ⟨g, cur, T, e, ⟨hP, (Array.getElem?_eq_some_iff.1 hg).1⟩, hg, hc⟩
theorem SoftI.at {P : Nat → Prop} {w : World} {ao : Option Addr} {n cap j : Nat} (h : SoftI P w 1 0 .u8 (.slice ao n cap) n) (hj : j < n) : ∃ g a, ao = some ⟨g, 0, none⟩ ∧ P g ∧ w.cell? ⟨g, j, none⟩ = some (.int .u8 a) ∧ w.frozen? ⟨g, j, none⟩ = false := by
  obtain ⟨ao', cp, e, _, _, h⟩ := h
  simp only [Value.slice.injEq, true_and] at e
  obtain ⟨rfl, rfl⟩ := e
  obtain ⟨g1, cu, T1, rfl, hP1, hg1, hc1⟩ := h (by omega)
  obtain ⟨a, ha⟩ := hc1 j hj
  rw [show j * 1 + 0 = j by omega] at ha
  exact ⟨g1, a, rfl, hP1, ha, frozen_of_heap hg1⟩

set_option maxHeartbeats 6400000 in
theorem recordOwn_walk {w : World} {ce cm : Array Value} {x : EntD} {m : MsgD} (se : SeesE w ce x) (fe : FitE x) (hxl : x.txns.length ≤ 1256584717421) (hxs : ∀ t ∈ x.txns, SmallT t) (sm : SeesM w cm m) (om : OkM m) (fm : Fits m) (hsm : SmallM m) :
    Calls Tryz.prog 5 #[.agg ce, .agg cm] w fun e w' => e = .returned (.bool true) ∧ Below w.heap.size w w' := by
  have HZE : Hid (ce.size = 4) := by obtain ⟨_, rfl, _⟩ := se; rfl
  have HZM : Hid (cm.size = 17) := by obtain ⟨_, _, _, rfl, _⟩ := sm; rfl
  have HSE := hide se
  have HSM := hide sm
  have HFE := hide fe
  have HFM := hide fm
  have HOM := hide om
  have HXL := hide hxl
  have HXS := hide hxs
  have HSS := hide hsm
  have hB2 : Below w.heap.size w ((w.alloc (.cells ce 24)).alloc (.cells cm 30)) := ((Below.refl _ _).alloc (Nat.le_refl _) _).alloc (by simp) _
  have e1 : (w.alloc (.cells ce 24)).heap.size = w.heap.size + 1 := by simp
  have hS2 : ((w.alloc (.cells ce 24)).alloc (.cells cm 30)).heap.size = w.heap.size + 2 := by simp
  have g0 : ((w.alloc (.cells ce 24)).alloc (.cells cm 30)).heap[w.heap.size]? = some (.cells ce 24) := (Below.heap_alloc _ _ _ (by omega)).trans (heap_alloc_new w _)
  have g1 : ((w.alloc (.cells ce 24)).alloc (.cells cm 30)).heap[w.heap.size + 1]? = some (.cells cm 30) := by have := heap_alloc_new (w.alloc (.cells ce 24)) (.cells cm 30); rw [e1] at this; exact this
  obtain ⟨w2, hw2⟩ : ∃ y, ((w.alloc (.cells ce 24)).alloc (.cells cm 30)) = y := ⟨_, rfl⟩
  rw [hw2] at hB2 hS2 g0 g1
  have HX : Hid (∀ x, Below (w.heap.size + 2) w2 x → x.heap[w.heap.size]? = some (.cells ce 24) ∧ x.heap[w.heap.size + 1]? = some (.cells cm 30)) := fun x hb => ⟨(hb.block _ (by omega)).trans g0, (hb.block _ (by omega)).trans g1⟩
  have HBW : Hid (∀ x, Below (w.heap.size + 2) w2 x → Below w.heap.size w x) := fun x hb => hB2.trans (hb.mono (by omega))
  have HTR : Hid (∀ x y, Below (w.heap.size + 2) w2 x → Below x.heap.size x y → Below (w.heap.size + 2) w2 y) := fun x y h1 h2 => h1.trans (h2.mono (by have := h1.size; omega))
  have HBI : Hid (Below (w.heap.size + 2) w2 w2) := Below.refl _ _
  clear se sm fe fm om hxl hxs hsm hB2 e1 hS2 g0 g1
  go_enter Tryz.func5, Tryz.ntmps5
  go_wp2_with (first | rw [hw2] | simp only [Value.cells])
  refine (begun_any _).mono ?_
  rintro r z0 ⟨rfl, b⟩
  have HB0 := hide (unhide HTR _ _ (unhide HBI) b)
  have HXE := hide (unhide HX _ (unhide HB0)).1
  have HC := hide (refCloneEntry_any ce x z0 ((unhide HSE).below (unhide HBW _ (unhide HB0))) (unhide HXL) (fun t ht => SmT.of (unhide HXS t ht)))
  clear b HBI
  go_wp2_with (refine wpList_load_wanted (by rfl) 24 _ rfl w.heap.size rfl 24 _ (0, 0) _ (unhide HXE) Tryz.underlying24 rfl (by rw [unhide HZE]; kernel_rfl) ?_)
  refine (unhide HC).mono ?_
  rintro r z1 ⟨csA, rfl, ow, b⟩
  have HB1 := hide (unhide HTR _ _ (unhide HB0) b)
  have HCS : Hid (csA.size = 4) := ow.size
  have HCO : Hid (csA.all (·.oneCell') = true) := ow.one
  have hal : Below z1.heap.size z1 (z1.alloc (.cells #[.int .i64 0, .int .i64 0, .int .i64 0, .slice none 0 0] 24)) := (Below.refl _ _).alloc (Nat.le_refl _) _
  have hxa : (z1.alloc (.cells #[.int .i64 0, .int .i64 0, .int .i64 0, .slice none 0 0] 24)).heap[z1.heap.size]? = some (.cells #[.int .i64 0, .int .i64 0, .int .i64 0, .slice none 0 0] 24) := heap_alloc_new z1 _
  obtain ⟨zaA, hzaA⟩ : ∃ y, z1.alloc (.cells #[.int .i64 0, .int .i64 0, .int .i64 0, .slice none 0 0] 24) = y := ⟨_, rfl⟩
  rw [hzaA] at hal hxa
  have hbb := below_setRow hal (cs := csA) (g := z1.heap.size) (Nat.le_refl _)
  have hxb := setRow_heap zaA z1.heap.size _ csA 24 (0, 0) hxa
  obtain ⟨XA, hXA⟩ : ∃ n, z1.heap.size = n := ⟨_, rfl⟩
  have hs2 := (ow.seesN (unhide HXL) (unhide HXS)).below hbb
  have hb0 := hbb
  rw [hXA] at hxa hxb hbb hs2
  have hbb : Below z1.heap.size z1 (zaA.setRow XA csA) := by rw [hXA]; exact hbb
  obtain ⟨z2, hz2⟩ : ∃ y, zaA.setRow XA csA = y := ⟨_, rfl⟩
  rw [hz2] at hxb hbb hs2
  have HXA := hide hxa
  have HB2 := hide (unhide HTR _ _ (unhide HB1) hbb)
  have HSA := hide hs2
  have HRA := hide hxb
  have HZA := hide (unhide HCS)
  have HXM := hide (unhide HX _ (unhide HB2)).2
  have HC := hide (refCloneMsg_any cm m z2 ((unhide HSM).below (unhide HBW _ (unhide HB2))) (unhide HSS).sm)
  clear b ow hal hxa hbb hxb hs2 hb0 HXE
  go_wp2_with (first | rw [hzaA] | rw [hz2] | rw [hXA] | refine wpList_store_row rfl 24 _ _ rfl XA _ _ rfl rfl 24 (unhide HXA) (by rw [unhide HCS]; kernel_rfl) (by rw [unhide HCS]; rfl) (unhide HCO) ?_ | refine wpList_load_wanted (by rfl) 30 _ rfl (w.heap.size + 1) rfl 30 _ (0, 0) _ (unhide HXM) Tryz.underlying30 rfl (by rw [unhide HZM]; kernel_rfl) ?_)
  refine (unhide HC).mono ?_
  rintro r z3 ⟨csB, rfl, ow, b⟩
  have HB3 := hide (unhide HTR _ _ (unhide HB2) b)
  have HSA := hide ((unhide HSA).below b)
  have HRA := hide ((b.block _ (Array.getElem?_eq_some_iff.1 (unhide HRA)).1).trans (unhide HRA))
  clear HXA HCS HCO HXM
  have HCS : Hid (csB.size = 17) := ow.size
  have HCO : Hid (csB.all (·.oneCell') = true) := ow.one
  have hal : Below z3.heap.size z3 (z3.alloc (.cells #[.int .i64 0, .int .i64 0, .int .i64 0, .int .i64 0, .int .i64 0, .int .i64 0, .int .i64 0, .bool false, .slice none 0 0, .int .i64 0, .int .i64 0, .int .i64 0, .slice none 0 0, .int .i64 0, .int .i64 0, .int .i64 0, .slice none 0 0] 30)) := (Below.refl _ _).alloc (Nat.le_refl _) _
  have hxa : (z3.alloc (.cells #[.int .i64 0, .int .i64 0, .int .i64 0, .int .i64 0, .int .i64 0, .int .i64 0, .int .i64 0, .bool false, .slice none 0 0, .int .i64 0, .int .i64 0, .int .i64 0, .slice none 0 0, .int .i64 0, .int .i64 0, .int .i64 0, .slice none 0 0] 30)).heap[z3.heap.size]? = some (.cells #[.int .i64 0, .int .i64 0, .int .i64 0, .int .i64 0, .int .i64 0, .int .i64 0, .int .i64 0, .bool false, .slice none 0 0, .int .i64 0, .int .i64 0, .int .i64 0, .slice none 0 0, .int .i64 0, .int .i64 0, .int .i64 0, .slice none 0 0] 30) := heap_alloc_new z3 _
  obtain ⟨zaB, hzaB⟩ : ∃ y, z3.alloc (.cells #[.int .i64 0, .int .i64 0, .int .i64 0, .int .i64 0, .int .i64 0, .int .i64 0, .int .i64 0, .bool false, .slice none 0 0, .int .i64 0, .int .i64 0, .int .i64 0, .slice none 0 0, .int .i64 0, .int .i64 0, .int .i64 0, .slice none 0 0] 30) = y := ⟨_, rfl⟩
  rw [hzaB] at hal hxa
  have hbb := below_setRow hal (cs := csB) (g := z3.heap.size) (Nat.le_refl _)
  have hxb := setRow_heap zaB z3.heap.size _ csB 30 (0, 0) hxa
  obtain ⟨XB, hXB⟩ : ∃ n, z3.heap.size = n := ⟨_, rfl⟩
  have hs2 := (ow.seesN (unhide HSS)).below hbb
  have hb0 := hbb
  rw [hXB] at hxa hxb hbb hs2
  have hbb : Below z3.heap.size z3 (zaB.setRow XB csB) := by rw [hXB]; exact hbb
  obtain ⟨z4, hz4⟩ : ∃ y, zaB.setRow XB csB = y := ⟨_, rfl⟩
  rw [hz4] at hxb hbb hs2
  have HXA := hide hxa
  have HB4 := hide (unhide HTR _ _ (unhide HB3) hbb)
  have HZB := hide (unhide HCS)
  have HK : Hid (∀ y, Below z4.heap.size z4 y → SeesE y csA x ∧ y.heap[XA]? = some (.cells csA 24) ∧ SeesM y csB m ∧ y.heap[XB]? = some (.cells csB 30) ∧ Below (w.heap.size + 2) w2 y) := by
    have sA := (unhide HSA).below hbb
    have rA := (hbb.block _ (Array.getElem?_eq_some_iff.1 (unhide HRA)).1).trans (unhide HRA)
    exact fun y h => ⟨sA.below h, (h.block _ (Array.getElem?_eq_some_iff.1 rA).1).trans rA, hs2.below h, (h.block _ (Array.getElem?_eq_some_iff.1 hxb).1).trans hxb, unhide HTR _ _ (unhide HB4) h⟩
  have HXE := hide (unhide HX _ (unhide HB4)).1
  have HC := hide (cloneEntry_any ce x z4 ((unhide HSE).below (unhide HBW _ (unhide HB4))) (unhide HXL) (unhide HXS))
  clear b ow hal hxa hbb hxb hs2 hb0 HSA HRA
  go_wp2_with (first | rw [hzaB] | rw [hz4] | rw [hXB] | refine wpList_store_row rfl 30 _ _ rfl XB _ _ rfl rfl 30 (unhide HXA) (by rw [unhide HCS]; kernel_rfl) (by rw [unhide HCS]; rfl) (unhide HCO) ?_ | refine wpList_load_wanted (by rfl) 24 _ rfl w.heap.size rfl 24 _ (0, 0) _ (unhide HXE) Tryz.underlying24 rfl (by rw [unhide HZE]; kernel_rfl) ?_)
  refine (unhide HC).mono ?_
  rintro r z5 ⟨cs5, rfl, ow, b⟩
  obtain ⟨tv5, rfl, ot⟩ := ow
  obtain ⟨ua, uc, rfl⟩ := ot.shape
  have HSP := hide (spoil_any (P := (z4.heap.size ≤ ·)) x.kind x.frm x.num ua x.txns.length uc z5 (SoftTs.of ot (unhide HXL) (fun t ht => SmT.of (unhide HXS t ht))))
  obtain ⟨xk, exk⟩ : ∃ a, x.kind = a := ⟨_, rfl⟩
  obtain ⟨xf, exf⟩ : ∃ a, x.frm = a := ⟨_, rfl⟩
  obtain ⟨xn, exn⟩ : ∃ a, x.num = a := ⟨_, rfl⟩
  obtain ⟨xl, exl⟩ : ∃ a, x.txns.length = a := ⟨_, rfl⟩
  rw [exk, exf, exn, exl] at HSP
  rw [exk, exf, exn, exl]
  have HD5 := hide b
  clear ot b exk exf exn exl HC HXE HXA HCS HCO
  go_wp2_with fail
  refine (unhide HSP).mono ?_
  rintro r z6 ⟨rfl, ms⟩
  have HD6 : Hid (Below z4.heap.size z4 z6) := (unhide HD5).trans (ms.below (fun g h => h) (unhide HD5).size)
  have HB6 := hide (unhide HK _ (unhide HD6)).2.2.2.2
  have HXM := hide (unhide HX _ (unhide HB6)).2
  have HC := hide (cloneMsg_any cm m z6 ((unhide HSM).below (unhide HBW _ (unhide HB6))) (unhide HSS).list (unhide HSS).item (unhide HSS).ent.1 (unhide HSS).ent.2 (unhide HSS).data)
  clear ms HSP HD5
  go_wp2_with (refine wpList_load_wanted (by rfl) 30 _ rfl (w.heap.size + 1) rfl 30 _ (0, 0) _ (unhide HXM) Tryz.underlying30 rfl (by rw [unhide HZM]; kernel_rfl) ?_)
  refine (unhide HC).mono ?_
  rintro r z7 ⟨cs7, rfl, ow, b⟩
  have HD7 : Hid (Below z4.heap.size z4 z7) := (unhide HD6).trans (b.mono (unhide HD6).size)
  obtain ⟨lv, tv, dv, rfl, o1, o2, o3⟩ := ow
  have HO1 := hide o1
  have HO2 := hide o2
  have HO3 := hide o3
  obtain ⟨la, lc, rfl⟩ := o1.shape
  obtain ⟨ta, tc, rfl⟩ := o2.shape
  obtain ⟨da, dc, rfl⟩ := own_shape o3
  obtain ⟨aK, EaK⟩ : ∃ a, m.kind = a := ⟨_, rfl⟩
  obtain ⟨aF, EaF⟩ : ∃ a, m.frm = a := ⟨_, rfl⟩
  obtain ⟨aO, EaO⟩ : ∃ a, m.to = a := ⟨_, rfl⟩
  obtain ⟨aT, EaT⟩ : ∃ a, m.term = a := ⟨_, rfl⟩
  obtain ⟨aS, EaS⟩ : ∃ a, m.slot = a := ⟨_, rfl⟩
  obtain ⟨aL, EaL⟩ : ∃ a, m.last = a := ⟨_, rfl⟩
  obtain ⟨aC, EaC⟩ : ∃ a, m.commit = a := ⟨_, rfl⟩
  obtain ⟨aY, EaY⟩ : ∃ a, m.yes = a := ⟨_, rfl⟩
  obtain ⟨ll, Ell⟩ : ∃ a, m.list.length = a := ⟨_, rfl⟩
  obtain ⟨ek, Eek⟩ : ∃ a, m.ent.kind = a := ⟨_, rfl⟩
  obtain ⟨ef, Eef⟩ : ∃ a, m.ent.frm = a := ⟨_, rfl⟩
  obtain ⟨en, Een⟩ : ∃ a, m.ent.num = a := ⟨_, rfl⟩
  obtain ⟨tl, Etl⟩ : ∃ a, m.ent.txns.length = a := ⟨_, rfl⟩
  obtain ⟨ps, Eps⟩ : ∃ a, m.part.slot = a := ⟨_, rfl⟩
  obtain ⟨pi, Epi⟩ : ∃ a, m.part.idx = a := ⟨_, rfl⟩
  obtain ⟨pm, Epm⟩ : ∃ a, m.part.many = a := ⟨_, rfl⟩
  obtain ⟨dl, Edl⟩ : ∃ a, m.part.data.length = a := ⟨_, rfl⟩
  have SL7 : SoftMs (z6.heap.size ≤ ·) z7 (.slice la m.list.length lc) m.list.length := SoftMs.of (unhide HO1) (unhide HSS).list (unhide HSS).item
  have ST7 : SoftTs (z6.heap.size ≤ ·) z7 (.slice ta m.ent.txns.length tc) m.ent.txns.length := SoftTs.of (unhide HO2) (unhide HSS).ent.1 (fun t ht => SmT.of ((unhide HSS).ent.2 t ht))
  have SD7 : SoftI (z6.heap.size ≤ ·) z7 1 0 .u8 (.slice da m.part.data.length dc) m.part.data.length := SoftI.ofBytes (unhide HO3) (by have := (unhide HSS).data; omega)
  rw [Ell] at SL7
  rw [Etl] at ST7
  rw [Edl] at SD7
  rw [EaK, EaF, EaO, EaT, EaS, EaL, EaC, EaY, Ell, Eek, Eef, Een, Etl, Eps, Epi, Epm, Edl]
  have hsz67 := b.size
  clear o1 o2 o3 HO1 HO2 HO3 b HC HXM EaK EaF EaO EaT EaS EaL EaC EaY Ell Eek Eef Een Etl Eps Epi Epm Edl
  obtain ⟨cs7, hcs7⟩ : ∃ c : Array Value, #[.int .i64 aK, .int .i64 aF, .int .i64 aO, .int .i64 aT, .int .i64 aS, .int .i64 aL, .int .i64 aC, .bool aY, .slice la ll lc, .int .i64 ek, .int .i64 ef, .int .i64 en, .slice ta tl tc, .int .i64 ps, .int .i64 pi, .int .i64 pm, .slice da dl dc] = c := ⟨_, rfl⟩
  rw [hcs7]
  have HCS : Hid (cs7.size = 17) := by rw [← hcs7]; rfl
  have HCO : Hid (cs7.all (·.oneCell') = true) := (by rw [← hcs7]; simp [Value.oneCell'] : cs7.all (·.oneCell') = true)
  have hal : Below z7.heap.size z7 (z7.alloc (.cells #[.int .i64 0, .int .i64 0, .int .i64 0, .int .i64 0, .int .i64 0, .int .i64 0, .int .i64 0, .bool false, .slice none 0 0, .int .i64 0, .int .i64 0, .int .i64 0, .slice none 0 0, .int .i64 0, .int .i64 0, .int .i64 0, .slice none 0 0] 30)) := (Below.refl _ _).alloc (Nat.le_refl _) _
  have hxa : (z7.alloc (.cells #[.int .i64 0, .int .i64 0, .int .i64 0, .int .i64 0, .int .i64 0, .int .i64 0, .int .i64 0, .bool false, .slice none 0 0, .int .i64 0, .int .i64 0, .int .i64 0, .slice none 0 0, .int .i64 0, .int .i64 0, .int .i64 0, .slice none 0 0] 30)).heap[z7.heap.size]? = some (.cells #[.int .i64 0, .int .i64 0, .int .i64 0, .int .i64 0, .int .i64 0, .int .i64 0, .int .i64 0, .bool false, .slice none 0 0, .int .i64 0, .int .i64 0, .int .i64 0, .slice none 0 0, .int .i64 0, .int .i64 0, .int .i64 0, .slice none 0 0] 30) := heap_alloc_new z7 _
  obtain ⟨zaC, hzaC⟩ : ∃ y, z7.alloc (.cells #[.int .i64 0, .int .i64 0, .int .i64 0, .int .i64 0, .int .i64 0, .int .i64 0, .int .i64 0, .bool false, .slice none 0 0, .int .i64 0, .int .i64 0, .int .i64 0, .slice none 0 0, .int .i64 0, .int .i64 0, .int .i64 0, .slice none 0 0] 30) = y := ⟨_, rfl⟩
  rw [hzaC] at hal hxa
  have hbb := below_setRow hal (cs := cs7) (g := z7.heap.size) (Nat.le_refl _)
  have hxb := setRow_heap zaC z7.heap.size _ cs7 30 (0, 0) hxa
  obtain ⟨XC, hXC⟩ : ∃ n, z7.heap.size = n := ⟨_, rfl⟩
  have hb0 := hbb
  rw [hXC] at hxa hxb hbb
  have hbb : Below z7.heap.size z7 (zaC.setRow XC cs7) := by rw [hXC]; exact hbb
  obtain ⟨z8, hz8⟩ : ∃ y, zaC.setRow XC cs7 = y := ⟨_, rfl⟩
  rw [hz8] at hxb hbb
  have HXA := hide hxa
  rw [← hcs7] at hxb
  have m78 : Mild (z6.heap.size ≤ ·) z7 z8 := Mild.of hbb
  have SL := hide (SL7.on m78)
  have ST := hide (ST7.on m78)
  have SD := hide (SD7.on m78)
  have HD8 : Hid (Below z4.heap.size z4 z8) := (unhide HD7).trans (hbb.mono (unhide HD7).size)
  have HQ : Hid (∀ y, Mild (z6.heap.size ≤ ·) z8 y → Below z4.heap.size z4 y) := fun y mm => (unhide HD8).trans ((mm.below (base := z6.heap.size) (fun g h => h) (by have := hbb.size; omega)).mono (unhide HD6).size)
  have HC8 : Hid (∀ y, Mild (z6.heap.size ≤ ·) z8 y → y.cell? ⟨XC, 8, none⟩ = some (.slice la ll lc) ∧ y.cell? ⟨XC, 16, none⟩ = some (.slice da dl dc)) := fun y mm => ⟨mm.slice hxb (cell_of_heap hxb), mm.slice hxb (cell_of_heap hxb)⟩
  have s9 : z8.cell? ⟨XC, 9, none⟩ = some (.int .i64 ek) := cell_of_heap hxb
  have s10 : z8.cell? ⟨XC, 10, none⟩ = some (.int .i64 ef) := cell_of_heap hxb
  have s11 : z8.cell? ⟨XC, 11, none⟩ = some (.int .i64 en) := cell_of_heap hxb
  have s12 : z8.cell? ⟨XC, 12, none⟩ = some (.slice ta tl tc) := cell_of_heap hxb
  have HSP := hide (spoil_any (P := (z6.heap.size ≤ ·)) ek ef en ta tl tc z8 (unhide ST))
  have hll : ll ≤ 9223372036854775807 := by obtain ⟨_, _, _, _, h, _⟩ := unhide SL; exact h
  have hdl : dl ≤ 9223372036854775807 := by obtain ⟨_, _, _, _, h, _⟩ := unhide SD; exact h
  clear SL7 ST7 SD7 hal hxa hbb hxb hb0 m78 hsz67 HD7 HD8
  go_wp2_with (first | rw [hzaC] | rw [hz8] | rw [hXC] | refine wpList_store_row rfl 30 _ _ rfl XC _ _ rfl rfl 30 (unhide HXA) (by rw [unhide HCS]; kernel_rfl) (by rw [unhide HCS]; rfl) (unhide HCO) ?_)
  refine (unhide HSP).mono ?_
  rintro r z9 ⟨rfl, ms⟩
  have k8 := (unhide HC8 z9 ms).1
  have HMS := hide ms
  clear ms HSP s9 s10 s11 s12 HXA HCS HCO
  go_wp2_with fail
  go_loopw [32] (fun c wr => ∃ i : Nat, i ≤ ll ∧ c = .int .i64 i ∧ Mild (z6.heap.size ≤ ·) z8 wr) (fun c _ => ll - (intOf c).toNat)
  case atStart => exact ⟨0, by omega, rfl, unhide HMS⟩
  case round =>
    obtain ⟨i, hi, rfl, mm⟩ := hrel
    have k8 := (unhide HC8 _ mm).1
    by_cases hil : i < ll
    case pos =>
      obtain ⟨ao, cap, hv, _, _, hsf⟩ := (unhide SL).on mm
      simp only [Value.slice.injEq, true_and] at hv
      obtain ⟨rfl, rfl⟩ := hv
      obtain ⟨g, cur, T, rfl, hP, hg, hst⟩ := hsf (by omega)
      have hst1 := hst i hil
      obtain ⟨_, _, _, ⟨x0, q0⟩, _⟩ := id hst1
      have mset := Mild.set (P := (z6.heap.size ≤ ·)) hP q0 (-9)
      have z0' : wr.cell? ⟨g, 0 + i * 5, none⟩ = some (.int .i64 x0) := by rw [Nat.zero_add]; exact q0
      have f0 : wr.frozen? ⟨g, i * 5, none⟩ = false := frozen_of_heap hg
      have f0' : wr.frozen? ⟨g, 0 + i * 5, none⟩ = false := frozen_of_heap hg
      obtain ⟨pa, pl, pc, _, ⟨x1, q1⟩, ⟨x2, q2⟩, ⟨x3, q3⟩, q4, sts⟩ := hst1.on hg mset
      obtain ⟨wr1, hwr1⟩ : ∃ y, wr.setCell ⟨g, i * 5, none⟩ (.int .i64 (-9)) = y := ⟨_, rfl⟩
      rw [hwr1] at q1 q2 q3 q4 sts mset
      have mm1 := mm.trans mset
      have k8' := (unhide HC8 _ mm1).1
      have y1 : wr1.cell? ⟨g, 0 + i * 5 + 1, none⟩ = some (.int .i64 x1) := by rw [Nat.zero_add]; exact q1
      have y2 : wr1.cell? ⟨g, 0 + i * 5 + 2, none⟩ = some (.int .i64 x2) := by rw [Nat.zero_add]; exact q2
      have y3 : wr1.cell? ⟨g, 0 + i * 5 + 3, none⟩ = some (.int .i64 x3) := by rw [Nat.zero_add]; exact q3
      have y4 : wr1.cell? ⟨g, 0 + i * 5 + 4, none⟩ = some (.slice pa pl pc) := by rw [Nat.zero_add]; exact q4
      have HSP3 := hide (spoil_any (P := (z6.heap.size ≤ ·)) x1 x2 x3 pa pl pc wr1 sts)
      have HM1 := hide mm1
      clear hsf hst hst1 mset sts mm1 mm hg
      go_wp2_with (first | rw [hwr1] | (rw [Nat.zero_add]; rw [hwr1]))
      refine (unhide HSP3).mono ?_
      rintro r wr2 ⟨rfl, ms2⟩
      have HM2 := hide ((unhide HM1).trans ms2)
      clear ms2 HSP3
      go_wp2
      go_roundw
      case rel => exact ⟨i + 1, by omega, by go_num, unhide HM2⟩
      case measure => simp [intOf]; omega
    have hin : ¬ (i : Int) < (ll : Int) := by omega
    have k16 := (unhide HC8 _ mm).2
    have HMM := hide mm
    clear mm
    go_wp2
    go_loopw [52] (fun c wr => ∃ i : Nat, i ≤ dl ∧ c = .int .i64 i ∧ Mild (z6.heap.size ≤ ·) z8 wr) (fun c _ => dl - (intOf c).toNat)
    case atStart => exact ⟨0, by omega, rfl, unhide HMM⟩
    case round =>
      obtain ⟨j, hj, rfl, mm⟩ := hrel
      have k16 := (unhide HC8 _ mm).2
      by_cases hjl : j < dl
      case pos =>
        obtain ⟨g1, a, e1, hP1, hc1, hf1⟩ := ((unhide SD).on mm).at hjl
        subst e1
        have hc2 : wr.cell? ⟨g1, 0 + j, none⟩ = some (.int .u8 a) := by simpa using hc1
        have hf2 : wr.frozen? ⟨g1, 0 + j, none⟩ = false := by simpa using hf1
        have HM : Hid (∀ y, Mild (z6.heap.size ≤ ·) z8 (wr.setCell ⟨g1, j, none⟩ (.int .u8 y))) := fun y => mm.trans (Mild.set hP1 hc1 y)
        clear mm
        go_wp2
        go_roundw
        case rel => exact ⟨j + 1, by omega, by go_num, by simpa using unhide HM _⟩
        case measure => simp [intOf]; omega
      have hjn : ¬ (j : Int) < (dl : Int) := by omega
      have HD9 := hide (unhide HQ _ mm)
      have HB9 := hide (unhide HK _ (unhide HD9)).2.2.2.2
      have HXM := hide (unhide HX _ (unhide HB9)).2
      have HC := hide (marshal_any cm m wr ((unhide HSM).below (unhide HBW _ (unhide HB9))) (unhide HOM) (unhide HFM).1 (unhide HFM).2.1 (unhide HFM).2.2.1 (unhide HFM).2.2.2)
      obtain ⟨zA, hzA⟩ : ∃ z, wr = z := ⟨_, rfl⟩
      subst hzA
      clear mm HMM SL ST SD HC8 k16
      go_wp2_with (refine wpList_load_wanted (by rfl) 30 _ rfl (w.heap.size + 1) rfl 30 _ (0, 0) _ (unhide HXM) Tryz.underlying30 rfl (by rw [unhide HZM]; kernel_rfl) ?_)
      refine (unhide HC).mono ?_
      rintro r zB ⟨u, rfl, ou, b⟩
      have HDB := hide ((unhide HD9).trans (b.mono (unhide HD9).size))
      have HU := hide (sees_of_own ou).2
      have HUS := hide (SoftI.ofBytes ou (by have := marB_le m; omega)).narrow
      have HSZB : Hid (wr.heap.size ≤ zB.heap.size) := b.size
      obtain ⟨ua, uc, rfl⟩ := own_shape ou
      have HMB : Hid (Byt (marB m)) := marB_byt (unhide HFM).1 (unhide HOM)
      have HC := hide (Unmarshal_any _ (marB m) zB (unhide HU) (unhide HMB) (marB_le m))
      have HUF := hide (unm_fit (unhide HMB))
      have HUM := hide (fun (h : marE m = 0) => unm_mar (unhide HFM).1 h)
      obtain ⟨L, hL⟩ : ∃ n, (marB m).length = n := ⟨_, rfl⟩
      have hLb : L ≤ 140737488355328 := by rw [← hL]; exact marB_le m
      obtain ⟨E, hE⟩ : ∃ n, marE m = n := ⟨_, rfl⟩
      obtain ⟨km, kf, hkm⟩ : ∃ a b, unm (marB m) = (a, b) := ⟨_, _, rfl⟩
      rw [hkm] at HC
      rw [hkm] at HUF
      rw [hkm, hE] at HUM
      rw [hL] at HC
      rw [hL] at HUS
      rw [hE, hL]
      simp only at HC
      clear b ou hL hE hkm HU HXM
      go_wp2_with fail
      refine (unhide HC).mono ?_
      rintro r zC ⟨csD, rfl, ow, b⟩
      have HOD := hide ow
      have HCS : Hid (csD.size = 17) := ow.size
      have HCO : Hid (csD.all (·.oneCell') = true) := ow.one
      have hal : Below zC.heap.size zC (zC.alloc (.cells #[.int .i64 0, .int .i64 0, .int .i64 0, .int .i64 0, .int .i64 0, .int .i64 0, .int .i64 0, .bool false, .slice none 0 0, .int .i64 0, .int .i64 0, .int .i64 0, .slice none 0 0, .int .i64 0, .int .i64 0, .int .i64 0, .slice none 0 0] 30)) := (Below.refl _ _).alloc (Nat.le_refl _) _
      have hxa : (zC.alloc (.cells #[.int .i64 0, .int .i64 0, .int .i64 0, .int .i64 0, .int .i64 0, .int .i64 0, .int .i64 0, .bool false, .slice none 0 0, .int .i64 0, .int .i64 0, .int .i64 0, .slice none 0 0, .int .i64 0, .int .i64 0, .int .i64 0, .slice none 0 0] 30)).heap[zC.heap.size]? = some (.cells #[.int .i64 0, .int .i64 0, .int .i64 0, .int .i64 0, .int .i64 0, .int .i64 0, .int .i64 0, .bool false, .slice none 0 0, .int .i64 0, .int .i64 0, .int .i64 0, .slice none 0 0, .int .i64 0, .int .i64 0, .int .i64 0, .slice none 0 0] 30) := heap_alloc_new zC _
      obtain ⟨zaD, hzaD⟩ : ∃ y, zC.alloc (.cells #[.int .i64 0, .int .i64 0, .int .i64 0, .int .i64 0, .int .i64 0, .int .i64 0, .int .i64 0, .bool false, .slice none 0 0, .int .i64 0, .int .i64 0, .int .i64 0, .slice none 0 0, .int .i64 0, .int .i64 0, .int .i64 0, .slice none 0 0] 30) = y := ⟨_, rfl⟩
      rw [hzaD] at hal hxa
      have hbb := below_setRow hal (cs := csD) (g := zC.heap.size) (Nat.le_refl _)
      have hxb := setRow_heap zaD zC.heap.size _ csD 30 (0, 0) hxa
      obtain ⟨XD, hXD⟩ : ∃ n, zC.heap.size = n := ⟨_, rfl⟩
      have hb0 := hbb
      rw [hXD] at hxa hxb hbb
      have hbb : Below zC.heap.size zC (zaD.setRow XD csD) := by rw [hXD]; exact hbb
      obtain ⟨zD, hzD⟩ : ∃ y, zaD.setRow XD csD = y := ⟨_, rfl⟩
      rw [hzD] at hxb hbb
      have HXA := hide hxa
      have HDD := hide (((unhide HDB).trans (b.mono (unhide HDB).size)).trans (hbb.mono (Nat.le_trans (unhide HDB).size b.size)))
      have mBD : Mild (fun g => wr.heap.size ≤ g ∧ g < zB.heap.size) zB zD := (Mild.of b).trans (Mild.of hbb)
      have SU := hide ((unhide HUS).on mBD)
      have HOD := hide ((unhide HOD).same fun k _ hl => hbb.block k hl)
      have HRD := hide hxb
      have HXDB : Hid (zB.heap.size ≤ XD ∧ zC.heap.size ≤ zD.heap.size) := ⟨by have := b.size; omega, hbb.size⟩
      have HZD := hide (unhide HCS)
      have HLAST : Hid (∀ y, Mild (fun g => wr.heap.size ≤ g ∧ g < zB.heap.size) zD y → Below z4.heap.size z4 y ∧ OwnM zB.heap.size y csD km ∧ y.heap[XD]? = some (.cells csD 30)) := fun y mm =>
        ⟨(unhide HDD).trans ((mm.below (base := wr.heap.size) (fun g h => h.1) (by have := unhide HSZB; have := mBD.size; omega)).mono (unhide HD9).size), (unhide HOD).same (fun k h1 h2 => mm.same k h2 (fun h => by omega)), (mm.same XD (Array.getElem?_eq_some_iff.1 (unhide HRD)).1 (fun h => by have := (unhide HXDB).1; omega)).trans (unhide HRD)⟩
      clear b ow hal hxa hbb hxb hb0 mBD HUS HC
      go_wp2_with (first | rw [hzaD] | rw [hzD] | rw [hXD] | refine wpList_store_row rfl 30 _ _ rfl XD _ _ rfl rfl 30 (unhide HXA) (by rw [unhide HCS]; kernel_rfl) (by rw [unhide HCS]; rfl) (unhide HCO) ?_)
      go_loopw [76] (fun c wr' => ∃ i : Nat, i ≤ L ∧ c = .int .i64 i ∧ Mild (fun g => wr.heap.size ≤ g ∧ g < zB.heap.size) zD wr') (fun c _ => L - (intOf c).toNat)
      case atStart => exact ⟨0, by omega, rfl, Mild.refl _ _⟩
      case round =>
        rename_i wq
        obtain ⟨i, hi, rfl, mm⟩ := hrel
        by_cases hil : i < L
        case pos =>
          obtain ⟨g1, a, e1, hP1, hc1, hf1⟩ := ((unhide SU).on mm).at hil
          subst e1
          have hc2 := hc1
          rw [← Nat.zero_add i] at hc2
          have hf2 := hf1
          rw [← Nat.zero_add i] at hf2
          have HM := hide (fun y => mm.trans (Mild.set hP1 hc1 y))
          clear mm
          go_wp2
          go_roundw
          case rel => exact ⟨i + 1, by omega, by go_num, by simpa using unhide HM _⟩
          case measure => simp [intOf]; omega
        have hin : ¬ (i : Int) < (L : Int) := by omega
        obtain ⟨hd4, hod, hrd⟩ := unhide HLAST _ mm
        obtain ⟨sA, rA, sB, rB, hb2⟩ := unhide HK _ hd4
        have HTA := hide sA
        have HTB := hide sB
        have HRA := hide rA
        have HRB := hide rB
        have HBZ := hide hb2
        have HRX := hide (unhide HX _ hb2).1
        have HRM := hide (unhide HX _ hb2).2
        have HRK := hide hrd
        have HOK := hide hod
        clear mm sA rA sB rB hb2 hd4 hod hrd
        by_cases hE0 : E = 0
        case neg =>
          have hEb : (E == 0) = false := by simpa using hE0
          have HC2 := hide (refSameEntry_any ce csA x x _ ((unhide HSE).below (unhide HBW _ (unhide HBZ))) (unhide HTA) (unhide HFE).ok (unhide HFE).ok)
          simp only [decide_true] at HC2
          go_wp2_with (first | refine wpList_load_wanted (by rfl) 24 _ rfl w.heap.size rfl 24 _ (0, 0) _ (unhide HRX) Tryz.underlying24 rfl (by rw [unhide HZE]; kernel_rfl) ?_ | refine wpList_load_wanted (by rfl) 24 _ rfl XA rfl 24 _ (0, 0) _ (unhide HRA) Tryz.underlying24 rfl (by rw [unhide HZA]; kernel_rfl) ?_)
          refine (unhide HC2).mono ?_
          rintro r zF ⟨rfl, b⟩
          have HBZ := hide (unhide HTR _ _ (unhide HBZ) b)
          have HRM := hide (unhide HX _ (unhide HBZ)).2
          have HRB := hide ((b.block _ (Array.getElem?_eq_some_iff.1 (unhide HRB)).1).trans (unhide HRB))
          have HC3 := hide (refSameMsg_any cm csB m m zF ((unhide HSM).below (unhide HBW _ (unhide HBZ))) ((unhide HTB).below b) (unhide HOM) (unhide HOM))
          simp only [decide_true] at HC3
          clear b HC2
          go_wp2_with (first | refine wpList_load_wanted (by rfl) 30 _ rfl (w.heap.size + 1) rfl 30 _ (0, 0) _ (unhide HRM) Tryz.underlying30 rfl (by rw [unhide HZM]; kernel_rfl) ?_ | refine wpList_load_wanted (by rfl) 30 _ rfl XB rfl 30 _ (0, 0) _ (unhide HRB) Tryz.underlying30 rfl (by rw [unhide HZB]; kernel_rfl) ?_)
          refine (unhide HC3).mono ?_
          rintro r zG ⟨rfl, b⟩
          have HF := hide (unhide HBW _ (unhide HTR _ _ (unhide HBZ) b))
          clear b HC3
          go_wp2_with fail
          go_ret
          exact ⟨rfl, unhide HF⟩
        subst hE0
        obtain ⟨rfl, rfl⟩ := Prod.mk.inj (unhide HUM rfl)
        have HC1 := hide (refSameMsg_any csD csB _ _ _ ((unhide HOK).sees (unhide HUF).2) (unhide HTB) (unhide HOM) (unhide HOM))
        simp only [decide_true] at HC1
        go_wp2_with (first | refine wpList_load_wanted (by rfl) 30 _ rfl XD rfl 30 _ (0, 0) _ (unhide HRK) Tryz.underlying30 rfl (by rw [unhide HZD]; kernel_rfl) ?_ | refine wpList_load_wanted (by rfl) 30 _ rfl XB rfl 30 _ (0, 0) _ (unhide HRB) Tryz.underlying30 rfl (by rw [unhide HZB]; kernel_rfl) ?_)
        refine (unhide HC1).mono ?_
        rintro r zE ⟨rfl, b⟩
        have HBZ := hide (unhide HTR _ _ (unhide HBZ) b)
        have HRX := hide (unhide HX _ (unhide HBZ)).1
        have HRM := hide (unhide HX _ (unhide HBZ)).2
        have HRA := hide ((b.block _ (Array.getElem?_eq_some_iff.1 (unhide HRA)).1).trans (unhide HRA))
        have HRB := hide ((b.block _ (Array.getElem?_eq_some_iff.1 (unhide HRB)).1).trans (unhide HRB))
        have HTA := hide ((unhide HTA).below b)
        have HTB := hide ((unhide HTB).below b)
        clear b HC1
        have HC2 := hide (refSameEntry_any ce csA x x zE ((unhide HSE).below (unhide HBW _ (unhide HBZ))) (unhide HTA) (unhide HFE).ok (unhide HFE).ok)
        simp only [decide_true] at HC2
        go_wp2_with (first | refine wpList_load_wanted (by rfl) 24 _ rfl w.heap.size rfl 24 _ (0, 0) _ (unhide HRX) Tryz.underlying24 rfl (by rw [unhide HZE]; kernel_rfl) ?_ | refine wpList_load_wanted (by rfl) 24 _ rfl XA rfl 24 _ (0, 0) _ (unhide HRA) Tryz.underlying24 rfl (by rw [unhide HZA]; kernel_rfl) ?_)
        refine (unhide HC2).mono ?_
        rintro r zF ⟨rfl, b⟩
        have HBZ := hide (unhide HTR _ _ (unhide HBZ) b)
        have HRM := hide (unhide HX _ (unhide HBZ)).2
        have HRB := hide ((b.block _ (Array.getElem?_eq_some_iff.1 (unhide HRB)).1).trans (unhide HRB))
        have HC3 := hide (refSameMsg_any cm csB _ _ zF ((unhide HSM).below (unhide HBW _ (unhide HBZ))) ((unhide HTB).below b) (unhide HOM) (unhide HOM))
        simp only [decide_true] at HC3
        clear b HC2
        go_wp2_with (first | refine wpList_load_wanted (by rfl) 30 _ rfl (w.heap.size + 1) rfl 30 _ (0, 0) _ (unhide HRM) Tryz.underlying30 rfl (by rw [unhide HZM]; kernel_rfl) ?_ | refine wpList_load_wanted (by rfl) 30 _ rfl XB rfl 30 _ (0, 0) _ (unhide HRB) Tryz.underlying30 rfl (by rw [unhide HZB]; kernel_rfl) ?_)
        refine (unhide HC3).mono ?_
        rintro r zG ⟨rfl, b⟩
        have HF := hide (unhide HBW _ (unhide HTR _ _ (unhide HBZ) b))
        clear b HC3
        go_wp2_with fail
        go_ret
        exact ⟨rfl, unhide HF⟩
end Go.Proofs.YtggllgimlfchhabGreat
