/- RecordBack: the walk, some of its ways. -/
import Derived.Test.YtggllgimlfchhabGreatKL
namespace Go.Proofs.YtggllgimlfchhabGreat
open Go.RowKit
set_option maxRecDepth 100000

set_option maxHeartbeats 3200000 in
theorem back_0011 {w : World} {ce cm : Array Value} {ba : Option Addr} {bl bc : Nat} {x y : EntD} {m n : MsgD} {zs : List Int} (se : SeesE w ce x) (fe : FitE x) (sm : SeesM w cm m) (om : OkM m) (fm : Fits m) (hs : Sees w .u8 (.slice ba bl bc) zs) (hby : Byt zs) (hl : zs.length ≤ 140737488351232) (ha : mayE x = false) (hbm : marE m = 0) (hc : takeE zs = (y, 0)) (hd : unm zs = (n, 0)) :
    Calls Tryz.prog 3 #[.agg ce, .agg cm, .slice ba bl bc] w fun e w' => e = .returned (.bool true) ∧ Below w.heap.size w w' := by
  have HZE : Hid (ce.size = 4) := by obtain ⟨_, rfl, _⟩ := se; rfl
  have HZM : Hid (cm.size = 17) := by obtain ⟨_, _, _, rfl, _⟩ := sm; rfl
  have HSE := hide se
  have HSM := hide sm
  have HFE := hide fe
  have HFM := hide fm
  have HOM := hide om
  have HS := hide hs
  have HBY := hide hby
  have HL := hide hl
  have HA := hide ha
  have HBM := hide hbm
  have HCC := hide hc
  have HDD := hide hd
  have hB2 : Below w.heap.size w ((w.alloc (.cells ce 24)).alloc (.cells cm 30)) := ((Below.refl _ _).alloc (Nat.le_refl _) _).alloc (by simp) _
  have e1 : (w.alloc (.cells ce 24)).heap.size = w.heap.size + 1 := by simp
  have hS2 : ((w.alloc (.cells ce 24)).alloc (.cells cm 30)).heap.size = w.heap.size + 2 := by simp
  have g0 : ((w.alloc (.cells ce 24)).alloc (.cells cm 30)).heap[w.heap.size]? = some (.cells ce 24) := (Below.heap_alloc _ _ _ (by omega)).trans (heap_alloc_new w _)
  have g1 : ((w.alloc (.cells ce 24)).alloc (.cells cm 30)).heap[w.heap.size + 1]? = some (.cells cm 30) := by have := heap_alloc_new (w.alloc (.cells ce 24)) (.cells cm 30); rw [e1] at this; exact this
  obtain ⟨w2, hw2⟩ : ∃ y, ((w.alloc (.cells ce 24)).alloc (.cells cm 30)) = y := ⟨_, rfl⟩
  rw [hw2] at hB2 hS2 g0 g1
  have HX : Hid (∀ x, Below (w.heap.size + 2) w2 x → x.heap[w.heap.size]? = some (.cells ce 24) ∧ x.heap[w.heap.size + 1]? = some (.cells cm 30)) := fun x hb => ⟨(hb.block _ (by omega)).trans g0, (hb.block _ (by omega)).trans g1⟩
  have HBW : Hid (∀ x, Below (w.heap.size + 2) w2 x → Below w.heap.size w x) := fun x hb => hB2.trans (hb.mono (by omega))
  have HTR : Hid (∀ x y, Below (w.heap.size + 2) w2 x → Below x.heap.size x y → Below (w.heap.size + 2) w2 y) := fun x y h1 h2 => h1.trans (h2.mono (by have := h1.size; omega))
  have HBI : Hid (Below (w.heap.size + 2) w2 w2) := Below.refl _ _
  clear se sm fe fm om hs hby hl ha hbm hc hd hB2 e1 hS2 g0 g1
  go_enter Tryz.func3, Tryz.ntmps3
  go_wp2_with (first | rw [hw2] | simp only [Value.cells])
  refine (begun_any _).mono ?_
  rintro r z0 ⟨rfl, b⟩
  have HB0 := hide (unhide HTR _ _ (unhide HBI) b)
  clear b HBI
  have HXE := hide (unhide HX _ (unhide HB0)).1
  have HC := hide (Entry_any w.heap.size ce x z0 (unhide HBW _ (unhide HB0)).size (by obtain ⟨tv, rfl, h⟩ := unhide HSE; exact ⟨tv, rfl, (StTs.of h).on (unhide HBW _ (unhide HB0))⟩) (unhide HFE))
  rw [unhide HA] at HC
  simp only [Bool.false_eq_true, if_false] at HC
  go_wp2_with (refine wpList_load_wanted (by rfl) 24 _ rfl w.heap.size rfl 24 _ (0, 0) _ (unhide HXE) Tryz.underlying24 rfl (by rw [unhide HZE]; kernel_rfl) ?_)
  refine (unhide HC).mono ?_
  rintro r z1 ⟨u, rfl, ou, b⟩
  have HB1 := hide (unhide HTR _ _ (unhide HB0) b)
  have HU := hide (sees_of_own ou).2
  obtain ⟨ua, uc, rfl⟩ := own_shape ou
  clear b ou HC HXE
  have HXE := hide (unhide HX _ (unhide HB1)).1
  have HC := hide (mayEntry_any ce x z1 ((unhide HSE).below (unhide HBW _ (unhide HB1))) (unhide HFE).ok)
  rw [unhide HA] at HC
  simp only [List.length_nil]
  go_wp2_with (refine wpList_load_wanted (by rfl) 24 _ rfl w.heap.size rfl 24 _ (0, 0) _ (unhide HXE) Tryz.underlying24 rfl (by rw [unhide HZE]; kernel_rfl) ?_)
  refine (unhide HC).mono ?_
  rintro r z2 ⟨rfl, b⟩
  have HB2 := hide (unhide HTR _ _ (unhide HB1) b)
  clear b HC HXE HU
  have HXM := hide (unhide HX _ (unhide HB2)).2
  have HC := hide (marshal_any cm m z2 ((unhide HSM).below (unhide HBW _ (unhide HB2))) (unhide HOM) (unhide HFM).1 (unhide HFM).2.1 (unhide HFM).2.2.1 (unhide HFM).2.2.2)
  rw [unhide HBM] at HC
  go_wp2_with (refine wpList_load_wanted (by rfl) 30 _ rfl (w.heap.size + 1) rfl 30 _ (0, 0) _ (unhide HXM) Tryz.underlying30 rfl (by rw [unhide HZM]; kernel_rfl) ?_)
  refine (unhide HC).mono ?_
  rintro r z3 ⟨u, rfl, ou, b⟩
  have HB3 := hide (unhide HTR _ _ (unhide HB2) b)
  have HU := hide (sees_of_own ou).2
  obtain ⟨ua2, uc2, rfl⟩ := own_shape ou
  clear b ou HC HXM
  obtain ⟨ul2, hul2⟩ : ∃ n, (marB m).length = n := ⟨_, rfl⟩
  have HMB : Hid (Byt (marB m)) := marB_byt (unhide HFM).1 (unhide HOM)
  have HC := hide (Unmarshal_any _ (marB m) z3 (unhide HU) (unhide HMB) (marB_le m))
  rw [unm_mar (unhide HFM).1 (unhide HBM)] at HC
  simp only at HC
  rw [hul2] at HC
  rw [hul2]
  clear hul2 HU
  go_wp2_with fail
  refine (unhide HC).mono ?_
  rintro r z4 ⟨cs, rfl, ow, b⟩
  have HB4 := hide (unhide HTR _ _ (unhide HB3) b)
  clear b HC
  have HCS : Hid (cs.size = 17) := ow.size
  have HCO : Hid (cs.all (·.oneCell') = true) := ow.one
  have hse := ow.sees (mar_read (unhide HFM).1 (unhide HOM) (unhide HBM))
  have hal : Below z4.heap.size z4 (z4.alloc (.cells #[.int .i64 0, .int .i64 0, .int .i64 0, .int .i64 0, .int .i64 0, .int .i64 0, .int .i64 0, .bool false, .slice none 0 0, .int .i64 0, .int .i64 0, .int .i64 0, .slice none 0 0, .int .i64 0, .int .i64 0, .int .i64 0, .slice none 0 0] 30)) := (Below.refl _ _).alloc (Nat.le_refl _) _
  have hxa : (z4.alloc (.cells #[.int .i64 0, .int .i64 0, .int .i64 0, .int .i64 0, .int .i64 0, .int .i64 0, .int .i64 0, .bool false, .slice none 0 0, .int .i64 0, .int .i64 0, .int .i64 0, .slice none 0 0, .int .i64 0, .int .i64 0, .int .i64 0, .slice none 0 0] 30)).heap[z4.heap.size]? = some (.cells #[.int .i64 0, .int .i64 0, .int .i64 0, .int .i64 0, .int .i64 0, .int .i64 0, .int .i64 0, .bool false, .slice none 0 0, .int .i64 0, .int .i64 0, .int .i64 0, .slice none 0 0, .int .i64 0, .int .i64 0, .int .i64 0, .slice none 0 0] 30) := heap_alloc_new z4 _
  obtain ⟨zaB, hzaB⟩ : ∃ y, z4.alloc (.cells #[.int .i64 0, .int .i64 0, .int .i64 0, .int .i64 0, .int .i64 0, .int .i64 0, .int .i64 0, .bool false, .slice none 0 0, .int .i64 0, .int .i64 0, .int .i64 0, .slice none 0 0, .int .i64 0, .int .i64 0, .int .i64 0, .slice none 0 0] 30) = y := ⟨_, rfl⟩
  rw [hzaB] at hal hxa
  have hbb := below_setRow hal (cs := cs) (g := z4.heap.size) (Nat.le_refl _)
  have hxb := setRow_heap zaB z4.heap.size _ cs 30 (0, 0) hxa
  obtain ⟨XB, hXB⟩ : ∃ n, z4.heap.size = n := ⟨_, rfl⟩
  have hs2 := hse.below hbb
  have hbn := unhide HTR _ _ (unhide HB4) hbb
  rw [hXB] at hxa hxb hs2 hbn
  obtain ⟨z5, hz5⟩ : ∃ y, zaB.setRow XB cs = y := ⟨_, rfl⟩
  rw [hz5] at hxb hs2 hbn
  have HXA := hide hxa
  have HXB := hide hxb
  have HSS := hide hs2
  have HB5 := hide hbn
  clear hse hal hxa hbb hxb hs2 hbn
  have HXM := hide (unhide HX _ (unhide HB5)).2
  have HC := hide (refSameMsg_any _ _ m m z5 ((unhide HSM).below (unhide HBW _ (unhide HB5))) (unhide HSS) (unhide HOM) (unhide HOM))
  simp only [decide_true] at HC
  go_wp2_with (first | rw [hzaB] | rw [hz5] | rw [hXB] | refine wpList_store_row rfl 30 _ _ rfl XB _ _ rfl rfl 30 (unhide HXA) (by rw [unhide HCS]; kernel_rfl) (by rw [unhide HCS]; rfl) (unhide HCO) ?_ | refine wpList_load_wanted (by rfl) 30 _ rfl (w.heap.size + 1) rfl 30 _ (0, 0) _ (unhide HXM) Tryz.underlying30 rfl (by rw [unhide HZM]; kernel_rfl) ?_ | refine wpList_load_wanted (by rfl) 30 _ rfl XB rfl 30 _ (0, 0) _ (unhide HXB) Tryz.underlying30 rfl (by rw [unhide HCS]; kernel_rfl) ?_)
  refine (unhide HC).mono ?_
  rintro r z6 ⟨rfl, b⟩
  have HB6 := hide (unhide HTR _ _ (unhide HB5) b)
  clear b HC ow HXA HXB HSS HXM HCS HCO
  have HS1 := hide ((unhide HS).below (unhide HBW _ (unhide HB6)))
  have HC := hide (TakeEntry_any _ zs z6 (unhide HS1) (unhide HBY) (unhide HL))
  have HRD := hide (takeE_read (unhide HBY))
  have HFT := hide (takeE_fit (unhide HBY))
  rw [unhide HCC] at HC
  rw [unhide HCC] at HRD
  rw [unhide HCC] at HFT
  simp only at HC
  go_wp2_with fail
  refine (unhide HC).mono ?_
  rintro r z7 ⟨cs, rfl, ow, b⟩
  have HB7 := hide (unhide HTR _ _ (unhide HB6) b)
  clear b HC HS1
  have HCS : Hid (cs.size = 4) := ow.size
  have HCO : Hid (cs.all (·.oneCell') = true) := ow.one
  have hse := ow.sees2 (unhide HRD)
  have hal : Below z7.heap.size z7 (z7.alloc (.cells #[.int .i64 0, .int .i64 0, .int .i64 0, .slice none 0 0] 24)) := (Below.refl _ _).alloc (Nat.le_refl _) _
  have hxa : (z7.alloc (.cells #[.int .i64 0, .int .i64 0, .int .i64 0, .slice none 0 0] 24)).heap[z7.heap.size]? = some (.cells #[.int .i64 0, .int .i64 0, .int .i64 0, .slice none 0 0] 24) := heap_alloc_new z7 _
  obtain ⟨zaC, hzaC⟩ : ∃ y, z7.alloc (.cells #[.int .i64 0, .int .i64 0, .int .i64 0, .slice none 0 0] 24) = y := ⟨_, rfl⟩
  rw [hzaC] at hal hxa
  have hbb := below_setRow hal (cs := cs) (g := z7.heap.size) (Nat.le_refl _)
  have hxb := setRow_heap zaC z7.heap.size _ cs 24 (0, 0) hxa
  obtain ⟨XC, hXC⟩ : ∃ n, z7.heap.size = n := ⟨_, rfl⟩
  have hs2 := hse.below hbb
  have hbn := unhide HTR _ _ (unhide HB7) hbb
  rw [hXC] at hxa hxb hs2 hbn
  obtain ⟨z8, hz8⟩ : ∃ y, zaC.setRow XC cs = y := ⟨_, rfl⟩
  rw [hz8] at hxb hs2 hbn
  have HXA := hide hxa
  have HXB := hide hxb
  have HSS := hide hs2
  have HB8 := hide hbn
  clear hse hal hxa hbb hxb hs2 hbn
  have HC := hide (Entry_any z8.heap.size cs y z8 (Nat.le_refl _) (by obtain ⟨tv, rfl, h⟩ := unhide HSS; exact ⟨tv, rfl, StTs.of h⟩) (unhide HFT))
  rw [(takeE_inv (unhide HBY) (unhide HCC)).1] at HC
  simp only [if_true] at HC
  rw [(takeE_inv (unhide HBY) (unhide HCC)).2] at HC
  go_wp2_with (first | rw [hzaC] | rw [hz8] | rw [hXC] | refine wpList_store_row rfl 24 _ _ rfl XC _ _ rfl rfl 24 (unhide HXA) (by rw [unhide HCS]; kernel_rfl) (by rw [unhide HCS]; rfl) (unhide HCO) ?_ | refine wpList_load_wanted (by rfl) 24 _ rfl XC rfl 24 _ (0, 0) _ (unhide HXB) Tryz.underlying24 rfl (by rw [unhide HCS]; kernel_rfl) ?_)
  refine (unhide HC).mono ?_
  rintro r z9 ⟨u, rfl, ou, b⟩
  have HB9 := hide (unhide HTR _ _ (unhide HB8) b)
  have HU := hide (sees_of_own ou).2
  obtain ⟨ua3, uc3, rfl⟩ := own_shape ou
  obtain ⟨ul3, hul3⟩ : ∃ n, zs.length = n := ⟨_, rfl⟩
  rw [hul3] at HU
  rw [hul3]
  clear hul3
  clear b ou HC ow HXA HXB HSS HCS HCO HRD HFT
  have HQ := hide (equal_any _ _ zs zs z9 (unhide HU) ((unhide HS).below (unhide HBW _ (unhide HB9))) (unhide HBY) (unhide HBY))
  simp only [decide_true] at HQ
  clear HU
  go_wp2_with fail
  refine (unhide HQ).mono ?_
  rintro r _ ⟨rfl, rfl⟩
  clear HQ
  have HS1 := hide ((unhide HS).below (unhide HBW _ (unhide HB9)))
  have HC := hide (Unmarshal_any _ zs z9 (unhide HS1) (unhide HBY) (by have := unhide HL; omega))
  have HRD := hide (unm_fit (unhide HBY))
  rw [unhide HDD] at HC
  rw [unhide HDD] at HRD
  simp only at HC
  go_wp2_with fail
  refine (unhide HC).mono ?_
  rintro r z10 ⟨cs, rfl, ow, b⟩
  have HB10 := hide (unhide HTR _ _ (unhide HB9) b)
  clear b HC HS1
  have HCS : Hid (cs.size = 17) := ow.size
  have HCO : Hid (cs.all (·.oneCell') = true) := ow.one
  have hse := ow.sees (unhide HRD).2
  have hal : Below z10.heap.size z10 (z10.alloc (.cells #[.int .i64 0, .int .i64 0, .int .i64 0, .int .i64 0, .int .i64 0, .int .i64 0, .int .i64 0, .bool false, .slice none 0 0, .int .i64 0, .int .i64 0, .int .i64 0, .slice none 0 0, .int .i64 0, .int .i64 0, .int .i64 0, .slice none 0 0] 30)) := (Below.refl _ _).alloc (Nat.le_refl _) _
  have hxa : (z10.alloc (.cells #[.int .i64 0, .int .i64 0, .int .i64 0, .int .i64 0, .int .i64 0, .int .i64 0, .int .i64 0, .bool false, .slice none 0 0, .int .i64 0, .int .i64 0, .int .i64 0, .slice none 0 0, .int .i64 0, .int .i64 0, .int .i64 0, .slice none 0 0] 30)).heap[z10.heap.size]? = some (.cells #[.int .i64 0, .int .i64 0, .int .i64 0, .int .i64 0, .int .i64 0, .int .i64 0, .int .i64 0, .bool false, .slice none 0 0, .int .i64 0, .int .i64 0, .int .i64 0, .slice none 0 0, .int .i64 0, .int .i64 0, .int .i64 0, .slice none 0 0] 30) := heap_alloc_new z10 _
  obtain ⟨zaD, hzaD⟩ : ∃ y, z10.alloc (.cells #[.int .i64 0, .int .i64 0, .int .i64 0, .int .i64 0, .int .i64 0, .int .i64 0, .int .i64 0, .bool false, .slice none 0 0, .int .i64 0, .int .i64 0, .int .i64 0, .slice none 0 0, .int .i64 0, .int .i64 0, .int .i64 0, .slice none 0 0] 30) = y := ⟨_, rfl⟩
  rw [hzaD] at hal hxa
  have hbb := below_setRow hal (cs := cs) (g := z10.heap.size) (Nat.le_refl _)
  have hxb := setRow_heap zaD z10.heap.size _ cs 30 (0, 0) hxa
  obtain ⟨XD, hXD⟩ : ∃ n, z10.heap.size = n := ⟨_, rfl⟩
  have hs2 := hse.below hbb
  have hbn := unhide HTR _ _ (unhide HB10) hbb
  rw [hXD] at hxa hxb hs2 hbn
  obtain ⟨z11, hz11⟩ : ∃ y, zaD.setRow XD cs = y := ⟨_, rfl⟩
  rw [hz11] at hxb hs2 hbn
  have HXA := hide hxa
  have HXB := hide hxb
  have HSS := hide hs2
  have HB11 := hide hbn
  clear hse hal hxa hbb hxb hs2 hbn
  have HC := hide (marshal_any cs n z11 (unhide HSS) (unhide HRD).2.ok (unhide HRD).1.1 (unhide HRD).1.2.1 (unhide HRD).1.2.2.1 (unhide HRD).1.2.2.2)
  rw [(unm_inv (unhide HBY) (unhide HDD)).1] at HC
  rw [(unm_inv (unhide HBY) (unhide HDD)).2] at HC
  go_wp2_with (first | rw [hzaD] | rw [hz11] | rw [hXD] | refine wpList_store_row rfl 30 _ _ rfl XD _ _ rfl rfl 30 (unhide HXA) (by rw [unhide HCS]; kernel_rfl) (by rw [unhide HCS]; rfl) (unhide HCO) ?_ | refine wpList_load_wanted (by rfl) 30 _ rfl XD rfl 30 _ (0, 0) _ (unhide HXB) Tryz.underlying30 rfl (by rw [unhide HCS]; kernel_rfl) ?_)
  refine (unhide HC).mono ?_
  rintro r z12 ⟨u, rfl, ou, b⟩
  have HB12 := hide (unhide HTR _ _ (unhide HB11) b)
  have HU := hide (sees_of_own ou).2
  obtain ⟨ua4, uc4, rfl⟩ := own_shape ou
  obtain ⟨ul4, hul4⟩ : ∃ n, zs.length = n := ⟨_, rfl⟩
  rw [hul4] at HU
  rw [hul4]
  clear hul4
  clear b ou HC ow HXA HXB HSS HCS HCO HRD
  have HQ := hide (equal_any _ _ zs zs z12 (unhide HU) ((unhide HS).below (unhide HBW _ (unhide HB12))) (unhide HBY) (unhide HBY))
  simp only [decide_true] at HQ
  clear HU
  go_wp2_with fail
  refine (unhide HQ).mono ?_
  rintro r _ ⟨rfl, rfl⟩
  clear HQ
  have HF := hide (unhide HBW _ (unhide HB12))
  go_wp2_with fail
  go_ret
  exact ⟨rfl, unhide HF⟩

set_option maxHeartbeats 3200000 in
theorem back_0010 {w : World} {ce cm : Array Value} {ba : Option Addr} {bl bc : Nat} {x y : EntD} {m : MsgD} {zs : List Int} (se : SeesE w ce x) (fe : FitE x) (sm : SeesM w cm m) (om : OkM m) (fm : Fits m) (hs : Sees w .u8 (.slice ba bl bc) zs) (hby : Byt zs) (hl : zs.length ≤ 140737488351232) (ha : mayE x = false) (hbm : marE m = 0) (hc : takeE zs = (y, 0)) (hd : (unm zs).2 ≠ 0) :
    Calls Tryz.prog 3 #[.agg ce, .agg cm, .slice ba bl bc] w fun e w' => e = .returned (.bool true) ∧ Below w.heap.size w w' := by
  have HZE : Hid (ce.size = 4) := by obtain ⟨_, rfl, _⟩ := se; rfl
  have HZM : Hid (cm.size = 17) := by obtain ⟨_, _, _, rfl, _⟩ := sm; rfl
  have HSE := hide se
  have HSM := hide sm
  have HFE := hide fe
  have HFM := hide fm
  have HOM := hide om
  have HS := hide hs
  have HBY := hide hby
  have HL := hide hl
  have HA := hide ha
  have HBM := hide hbm
  have HCC := hide hc
  have HDD := hide hd
  have hB2 : Below w.heap.size w ((w.alloc (.cells ce 24)).alloc (.cells cm 30)) := ((Below.refl _ _).alloc (Nat.le_refl _) _).alloc (by simp) _
  have e1 : (w.alloc (.cells ce 24)).heap.size = w.heap.size + 1 := by simp
  have hS2 : ((w.alloc (.cells ce 24)).alloc (.cells cm 30)).heap.size = w.heap.size + 2 := by simp
  have g0 : ((w.alloc (.cells ce 24)).alloc (.cells cm 30)).heap[w.heap.size]? = some (.cells ce 24) := (Below.heap_alloc _ _ _ (by omega)).trans (heap_alloc_new w _)
  have g1 : ((w.alloc (.cells ce 24)).alloc (.cells cm 30)).heap[w.heap.size + 1]? = some (.cells cm 30) := by have := heap_alloc_new (w.alloc (.cells ce 24)) (.cells cm 30); rw [e1] at this; exact this
  obtain ⟨w2, hw2⟩ : ∃ y, ((w.alloc (.cells ce 24)).alloc (.cells cm 30)) = y := ⟨_, rfl⟩
  rw [hw2] at hB2 hS2 g0 g1
  have HX : Hid (∀ x, Below (w.heap.size + 2) w2 x → x.heap[w.heap.size]? = some (.cells ce 24) ∧ x.heap[w.heap.size + 1]? = some (.cells cm 30)) := fun x hb => ⟨(hb.block _ (by omega)).trans g0, (hb.block _ (by omega)).trans g1⟩
  have HBW : Hid (∀ x, Below (w.heap.size + 2) w2 x → Below w.heap.size w x) := fun x hb => hB2.trans (hb.mono (by omega))
  have HTR : Hid (∀ x y, Below (w.heap.size + 2) w2 x → Below x.heap.size x y → Below (w.heap.size + 2) w2 y) := fun x y h1 h2 => h1.trans (h2.mono (by have := h1.size; omega))
  have HBI : Hid (Below (w.heap.size + 2) w2 w2) := Below.refl _ _
  clear se sm fe fm om hs hby hl ha hbm hc hd hB2 e1 hS2 g0 g1
  go_enter Tryz.func3, Tryz.ntmps3
  go_wp2_with (first | rw [hw2] | simp only [Value.cells])
  refine (begun_any _).mono ?_
  rintro r z0 ⟨rfl, b⟩
  have HB0 := hide (unhide HTR _ _ (unhide HBI) b)
  clear b HBI
  have HXE := hide (unhide HX _ (unhide HB0)).1
  have HC := hide (Entry_any w.heap.size ce x z0 (unhide HBW _ (unhide HB0)).size (by obtain ⟨tv, rfl, h⟩ := unhide HSE; exact ⟨tv, rfl, (StTs.of h).on (unhide HBW _ (unhide HB0))⟩) (unhide HFE))
  rw [unhide HA] at HC
  simp only [Bool.false_eq_true, if_false] at HC
  go_wp2_with (refine wpList_load_wanted (by rfl) 24 _ rfl w.heap.size rfl 24 _ (0, 0) _ (unhide HXE) Tryz.underlying24 rfl (by rw [unhide HZE]; kernel_rfl) ?_)
  refine (unhide HC).mono ?_
  rintro r z1 ⟨u, rfl, ou, b⟩
  have HB1 := hide (unhide HTR _ _ (unhide HB0) b)
  have HU := hide (sees_of_own ou).2
  obtain ⟨ua, uc, rfl⟩ := own_shape ou
  clear b ou HC HXE
  have HXE := hide (unhide HX _ (unhide HB1)).1
  have HC := hide (mayEntry_any ce x z1 ((unhide HSE).below (unhide HBW _ (unhide HB1))) (unhide HFE).ok)
  rw [unhide HA] at HC
  simp only [List.length_nil]
  go_wp2_with (refine wpList_load_wanted (by rfl) 24 _ rfl w.heap.size rfl 24 _ (0, 0) _ (unhide HXE) Tryz.underlying24 rfl (by rw [unhide HZE]; kernel_rfl) ?_)
  refine (unhide HC).mono ?_
  rintro r z2 ⟨rfl, b⟩
  have HB2 := hide (unhide HTR _ _ (unhide HB1) b)
  clear b HC HXE HU
  have HXM := hide (unhide HX _ (unhide HB2)).2
  have HC := hide (marshal_any cm m z2 ((unhide HSM).below (unhide HBW _ (unhide HB2))) (unhide HOM) (unhide HFM).1 (unhide HFM).2.1 (unhide HFM).2.2.1 (unhide HFM).2.2.2)
  rw [unhide HBM] at HC
  go_wp2_with (refine wpList_load_wanted (by rfl) 30 _ rfl (w.heap.size + 1) rfl 30 _ (0, 0) _ (unhide HXM) Tryz.underlying30 rfl (by rw [unhide HZM]; kernel_rfl) ?_)
  refine (unhide HC).mono ?_
  rintro r z3 ⟨u, rfl, ou, b⟩
  have HB3 := hide (unhide HTR _ _ (unhide HB2) b)
  have HU := hide (sees_of_own ou).2
  obtain ⟨ua2, uc2, rfl⟩ := own_shape ou
  clear b ou HC HXM
  obtain ⟨ul2, hul2⟩ : ∃ n, (marB m).length = n := ⟨_, rfl⟩
  have HMB : Hid (Byt (marB m)) := marB_byt (unhide HFM).1 (unhide HOM)
  have HC := hide (Unmarshal_any _ (marB m) z3 (unhide HU) (unhide HMB) (marB_le m))
  rw [unm_mar (unhide HFM).1 (unhide HBM)] at HC
  simp only at HC
  rw [hul2] at HC
  rw [hul2]
  clear hul2 HU
  go_wp2_with fail
  refine (unhide HC).mono ?_
  rintro r z4 ⟨cs, rfl, ow, b⟩
  have HB4 := hide (unhide HTR _ _ (unhide HB3) b)
  clear b HC
  have HCS : Hid (cs.size = 17) := ow.size
  have HCO : Hid (cs.all (·.oneCell') = true) := ow.one
  have hse := ow.sees (mar_read (unhide HFM).1 (unhide HOM) (unhide HBM))
  have hal : Below z4.heap.size z4 (z4.alloc (.cells #[.int .i64 0, .int .i64 0, .int .i64 0, .int .i64 0, .int .i64 0, .int .i64 0, .int .i64 0, .bool false, .slice none 0 0, .int .i64 0, .int .i64 0, .int .i64 0, .slice none 0 0, .int .i64 0, .int .i64 0, .int .i64 0, .slice none 0 0] 30)) := (Below.refl _ _).alloc (Nat.le_refl _) _
  have hxa : (z4.alloc (.cells #[.int .i64 0, .int .i64 0, .int .i64 0, .int .i64 0, .int .i64 0, .int .i64 0, .int .i64 0, .bool false, .slice none 0 0, .int .i64 0, .int .i64 0, .int .i64 0, .slice none 0 0, .int .i64 0, .int .i64 0, .int .i64 0, .slice none 0 0] 30)).heap[z4.heap.size]? = some (.cells #[.int .i64 0, .int .i64 0, .int .i64 0, .int .i64 0, .int .i64 0, .int .i64 0, .int .i64 0, .bool false, .slice none 0 0, .int .i64 0, .int .i64 0, .int .i64 0, .slice none 0 0, .int .i64 0, .int .i64 0, .int .i64 0, .slice none 0 0] 30) := heap_alloc_new z4 _
  obtain ⟨zaB, hzaB⟩ : ∃ y, z4.alloc (.cells #[.int .i64 0, .int .i64 0, .int .i64 0, .int .i64 0, .int .i64 0, .int .i64 0, .int .i64 0, .bool false, .slice none 0 0, .int .i64 0, .int .i64 0, .int .i64 0, .slice none 0 0, .int .i64 0, .int .i64 0, .int .i64 0, .slice none 0 0] 30) = y := ⟨_, rfl⟩
  rw [hzaB] at hal hxa
  have hbb := below_setRow hal (cs := cs) (g := z4.heap.size) (Nat.le_refl _)
  have hxb := setRow_heap zaB z4.heap.size _ cs 30 (0, 0) hxa
  obtain ⟨XB, hXB⟩ : ∃ n, z4.heap.size = n := ⟨_, rfl⟩
  have hs2 := hse.below hbb
  have hbn := unhide HTR _ _ (unhide HB4) hbb
  rw [hXB] at hxa hxb hs2 hbn
  obtain ⟨z5, hz5⟩ : ∃ y, zaB.setRow XB cs = y := ⟨_, rfl⟩
  rw [hz5] at hxb hs2 hbn
  have HXA := hide hxa
  have HXB := hide hxb
  have HSS := hide hs2
  have HB5 := hide hbn
  clear hse hal hxa hbb hxb hs2 hbn
  have HXM := hide (unhide HX _ (unhide HB5)).2
  have HC := hide (refSameMsg_any _ _ m m z5 ((unhide HSM).below (unhide HBW _ (unhide HB5))) (unhide HSS) (unhide HOM) (unhide HOM))
  simp only [decide_true] at HC
  go_wp2_with (first | rw [hzaB] | rw [hz5] | rw [hXB] | refine wpList_store_row rfl 30 _ _ rfl XB _ _ rfl rfl 30 (unhide HXA) (by rw [unhide HCS]; kernel_rfl) (by rw [unhide HCS]; rfl) (unhide HCO) ?_ | refine wpList_load_wanted (by rfl) 30 _ rfl (w.heap.size + 1) rfl 30 _ (0, 0) _ (unhide HXM) Tryz.underlying30 rfl (by rw [unhide HZM]; kernel_rfl) ?_ | refine wpList_load_wanted (by rfl) 30 _ rfl XB rfl 30 _ (0, 0) _ (unhide HXB) Tryz.underlying30 rfl (by rw [unhide HCS]; kernel_rfl) ?_)
  refine (unhide HC).mono ?_
  rintro r z6 ⟨rfl, b⟩
  have HB6 := hide (unhide HTR _ _ (unhide HB5) b)
  clear b HC ow HXA HXB HSS HXM HCS HCO
  have HS1 := hide ((unhide HS).below (unhide HBW _ (unhide HB6)))
  have HC := hide (TakeEntry_any _ zs z6 (unhide HS1) (unhide HBY) (unhide HL))
  have HRD := hide (takeE_read (unhide HBY))
  have HFT := hide (takeE_fit (unhide HBY))
  rw [unhide HCC] at HC
  rw [unhide HCC] at HRD
  rw [unhide HCC] at HFT
  simp only at HC
  go_wp2_with fail
  refine (unhide HC).mono ?_
  rintro r z7 ⟨cs, rfl, ow, b⟩
  have HB7 := hide (unhide HTR _ _ (unhide HB6) b)
  clear b HC HS1
  have HCS : Hid (cs.size = 4) := ow.size
  have HCO : Hid (cs.all (·.oneCell') = true) := ow.one
  have hse := ow.sees2 (unhide HRD)
  have hal : Below z7.heap.size z7 (z7.alloc (.cells #[.int .i64 0, .int .i64 0, .int .i64 0, .slice none 0 0] 24)) := (Below.refl _ _).alloc (Nat.le_refl _) _
  have hxa : (z7.alloc (.cells #[.int .i64 0, .int .i64 0, .int .i64 0, .slice none 0 0] 24)).heap[z7.heap.size]? = some (.cells #[.int .i64 0, .int .i64 0, .int .i64 0, .slice none 0 0] 24) := heap_alloc_new z7 _
  obtain ⟨zaC, hzaC⟩ : ∃ y, z7.alloc (.cells #[.int .i64 0, .int .i64 0, .int .i64 0, .slice none 0 0] 24) = y := ⟨_, rfl⟩
  rw [hzaC] at hal hxa
  have hbb := below_setRow hal (cs := cs) (g := z7.heap.size) (Nat.le_refl _)
  have hxb := setRow_heap zaC z7.heap.size _ cs 24 (0, 0) hxa
  obtain ⟨XC, hXC⟩ : ∃ n, z7.heap.size = n := ⟨_, rfl⟩
  have hs2 := hse.below hbb
  have hbn := unhide HTR _ _ (unhide HB7) hbb
  rw [hXC] at hxa hxb hs2 hbn
  obtain ⟨z8, hz8⟩ : ∃ y, zaC.setRow XC cs = y := ⟨_, rfl⟩
  rw [hz8] at hxb hs2 hbn
  have HXA := hide hxa
  have HXB := hide hxb
  have HSS := hide hs2
  have HB8 := hide hbn
  clear hse hal hxa hbb hxb hs2 hbn
  have HC := hide (Entry_any z8.heap.size cs y z8 (Nat.le_refl _) (by obtain ⟨tv, rfl, h⟩ := unhide HSS; exact ⟨tv, rfl, StTs.of h⟩) (unhide HFT))
  rw [(takeE_inv (unhide HBY) (unhide HCC)).1] at HC
  simp only [if_true] at HC
  rw [(takeE_inv (unhide HBY) (unhide HCC)).2] at HC
  go_wp2_with (first | rw [hzaC] | rw [hz8] | rw [hXC] | refine wpList_store_row rfl 24 _ _ rfl XC _ _ rfl rfl 24 (unhide HXA) (by rw [unhide HCS]; kernel_rfl) (by rw [unhide HCS]; rfl) (unhide HCO) ?_ | refine wpList_load_wanted (by rfl) 24 _ rfl XC rfl 24 _ (0, 0) _ (unhide HXB) Tryz.underlying24 rfl (by rw [unhide HCS]; kernel_rfl) ?_)
  refine (unhide HC).mono ?_
  rintro r z9 ⟨u, rfl, ou, b⟩
  have HB9 := hide (unhide HTR _ _ (unhide HB8) b)
  have HU := hide (sees_of_own ou).2
  obtain ⟨ua3, uc3, rfl⟩ := own_shape ou
  obtain ⟨ul3, hul3⟩ : ∃ n, zs.length = n := ⟨_, rfl⟩
  rw [hul3] at HU
  rw [hul3]
  clear hul3
  clear b ou HC ow HXA HXB HSS HCS HCO HRD HFT
  have HQ := hide (equal_any _ _ zs zs z9 (unhide HU) ((unhide HS).below (unhide HBW _ (unhide HB9))) (unhide HBY) (unhide HBY))
  simp only [decide_true] at HQ
  clear HU
  go_wp2_with fail
  refine (unhide HQ).mono ?_
  rintro r _ ⟨rfl, rfl⟩
  clear HQ
  have HS1 := hide ((unhide HS).below (unhide HBW _ (unhide HB9)))
  have HC := hide (Unmarshal_any _ zs z9 (unhide HS1) (unhide HBY) (by have := unhide HL; omega))
  have HRD := hide (unm_fit (unhide HBY))
  obtain ⟨ue, ed, hue⟩ : ∃ a b, unm zs = (a, b) := ⟨_, _, rfl⟩
  have hed := unhide HDD
  rw [hue] at HC hed
  rw [hue] at HRD
  simp only at HC hed
  have hedb : (ed == 0) = false := by simpa using hed
  clear hue
  go_wp2_with fail
  refine (unhide HC).mono ?_
  rintro r z10 ⟨cs, rfl, ow, b⟩
  have HB10 := hide (unhide HTR _ _ (unhide HB9) b)
  clear b HC HS1
  have HCS : Hid (cs.size = 17) := ow.size
  have HCO : Hid (cs.all (·.oneCell') = true) := ow.one
  have hse := ow.sees (unhide HRD).2
  have hal : Below z10.heap.size z10 (z10.alloc (.cells #[.int .i64 0, .int .i64 0, .int .i64 0, .int .i64 0, .int .i64 0, .int .i64 0, .int .i64 0, .bool false, .slice none 0 0, .int .i64 0, .int .i64 0, .int .i64 0, .slice none 0 0, .int .i64 0, .int .i64 0, .int .i64 0, .slice none 0 0] 30)) := (Below.refl _ _).alloc (Nat.le_refl _) _
  have hxa : (z10.alloc (.cells #[.int .i64 0, .int .i64 0, .int .i64 0, .int .i64 0, .int .i64 0, .int .i64 0, .int .i64 0, .bool false, .slice none 0 0, .int .i64 0, .int .i64 0, .int .i64 0, .slice none 0 0, .int .i64 0, .int .i64 0, .int .i64 0, .slice none 0 0] 30)).heap[z10.heap.size]? = some (.cells #[.int .i64 0, .int .i64 0, .int .i64 0, .int .i64 0, .int .i64 0, .int .i64 0, .int .i64 0, .bool false, .slice none 0 0, .int .i64 0, .int .i64 0, .int .i64 0, .slice none 0 0, .int .i64 0, .int .i64 0, .int .i64 0, .slice none 0 0] 30) := heap_alloc_new z10 _
  obtain ⟨zaD, hzaD⟩ : ∃ y, z10.alloc (.cells #[.int .i64 0, .int .i64 0, .int .i64 0, .int .i64 0, .int .i64 0, .int .i64 0, .int .i64 0, .bool false, .slice none 0 0, .int .i64 0, .int .i64 0, .int .i64 0, .slice none 0 0, .int .i64 0, .int .i64 0, .int .i64 0, .slice none 0 0] 30) = y := ⟨_, rfl⟩
  rw [hzaD] at hal hxa
  have hbb := below_setRow hal (cs := cs) (g := z10.heap.size) (Nat.le_refl _)
  have hxb := setRow_heap zaD z10.heap.size _ cs 30 (0, 0) hxa
  obtain ⟨XD, hXD⟩ : ∃ n, z10.heap.size = n := ⟨_, rfl⟩
  have hs2 := hse.below hbb
  have hbn := unhide HTR _ _ (unhide HB10) hbb
  rw [hXD] at hxa hxb hs2 hbn
  obtain ⟨z11, hz11⟩ : ∃ y, zaD.setRow XD cs = y := ⟨_, rfl⟩
  rw [hz11] at hxb hs2 hbn
  have HXA := hide hxa
  have HXB := hide hxb
  have HSS := hide hs2
  have HB11 := hide hbn
  clear hse hal hxa hbb hxb hs2 hbn
  clear ow HXB HSS HRD
  have HF := hide (unhide HBW _ (unhide HB11))
  go_wp2_with (first | rw [hzaD] | rw [hz11] | rw [hXD] | refine wpList_store_row rfl 30 _ _ rfl XD _ _ rfl rfl 30 (unhide HXA) (by rw [unhide HCS]; kernel_rfl) (by rw [unhide HCS]; rfl) (unhide HCO) ?_)
  go_ret
  exact ⟨rfl, unhide HF⟩

set_option maxHeartbeats 3200000 in
theorem back_0001 {w : World} {ce cm : Array Value} {ba : Option Addr} {bl bc : Nat} {x : EntD} {m n : MsgD} {zs : List Int} (se : SeesE w ce x) (fe : FitE x) (sm : SeesM w cm m) (om : OkM m) (fm : Fits m) (hs : Sees w .u8 (.slice ba bl bc) zs) (hby : Byt zs) (hl : zs.length ≤ 140737488351232) (ha : mayE x = false) (hbm : marE m = 0) (hc : (takeE zs).2 ≠ 0) (hd : unm zs = (n, 0)) :
    Calls Tryz.prog 3 #[.agg ce, .agg cm, .slice ba bl bc] w fun e w' => e = .returned (.bool true) ∧ Below w.heap.size w w' := by
  have HZE : Hid (ce.size = 4) := by obtain ⟨_, rfl, _⟩ := se; rfl
  have HZM : Hid (cm.size = 17) := by obtain ⟨_, _, _, rfl, _⟩ := sm; rfl
  have HSE := hide se
  have HSM := hide sm
  have HFE := hide fe
  have HFM := hide fm
  have HOM := hide om
  have HS := hide hs
  have HBY := hide hby
  have HL := hide hl
  have HA := hide ha
  have HBM := hide hbm
  have HCC := hide hc
  have HDD := hide hd
  have hB2 : Below w.heap.size w ((w.alloc (.cells ce 24)).alloc (.cells cm 30)) := ((Below.refl _ _).alloc (Nat.le_refl _) _).alloc (by simp) _
  have e1 : (w.alloc (.cells ce 24)).heap.size = w.heap.size + 1 := by simp
  have hS2 : ((w.alloc (.cells ce 24)).alloc (.cells cm 30)).heap.size = w.heap.size + 2 := by simp
  have g0 : ((w.alloc (.cells ce 24)).alloc (.cells cm 30)).heap[w.heap.size]? = some (.cells ce 24) := (Below.heap_alloc _ _ _ (by omega)).trans (heap_alloc_new w _)
  have g1 : ((w.alloc (.cells ce 24)).alloc (.cells cm 30)).heap[w.heap.size + 1]? = some (.cells cm 30) := by have := heap_alloc_new (w.alloc (.cells ce 24)) (.cells cm 30); rw [e1] at this; exact this
  obtain ⟨w2, hw2⟩ : ∃ y, ((w.alloc (.cells ce 24)).alloc (.cells cm 30)) = y := ⟨_, rfl⟩
  rw [hw2] at hB2 hS2 g0 g1
  have HX : Hid (∀ x, Below (w.heap.size + 2) w2 x → x.heap[w.heap.size]? = some (.cells ce 24) ∧ x.heap[w.heap.size + 1]? = some (.cells cm 30)) := fun x hb => ⟨(hb.block _ (by omega)).trans g0, (hb.block _ (by omega)).trans g1⟩
  have HBW : Hid (∀ x, Below (w.heap.size + 2) w2 x → Below w.heap.size w x) := fun x hb => hB2.trans (hb.mono (by omega))
  have HTR : Hid (∀ x y, Below (w.heap.size + 2) w2 x → Below x.heap.size x y → Below (w.heap.size + 2) w2 y) := fun x y h1 h2 => h1.trans (h2.mono (by have := h1.size; omega))
  have HBI : Hid (Below (w.heap.size + 2) w2 w2) := Below.refl _ _
  clear se sm fe fm om hs hby hl ha hbm hc hd hB2 e1 hS2 g0 g1
  go_enter Tryz.func3, Tryz.ntmps3
  go_wp2_with (first | rw [hw2] | simp only [Value.cells])
  refine (begun_any _).mono ?_
  rintro r z0 ⟨rfl, b⟩
  have HB0 := hide (unhide HTR _ _ (unhide HBI) b)
  clear b HBI
  have HXE := hide (unhide HX _ (unhide HB0)).1
  have HC := hide (Entry_any w.heap.size ce x z0 (unhide HBW _ (unhide HB0)).size (by obtain ⟨tv, rfl, h⟩ := unhide HSE; exact ⟨tv, rfl, (StTs.of h).on (unhide HBW _ (unhide HB0))⟩) (unhide HFE))
  rw [unhide HA] at HC
  simp only [Bool.false_eq_true, if_false] at HC
  go_wp2_with (refine wpList_load_wanted (by rfl) 24 _ rfl w.heap.size rfl 24 _ (0, 0) _ (unhide HXE) Tryz.underlying24 rfl (by rw [unhide HZE]; kernel_rfl) ?_)
  refine (unhide HC).mono ?_
  rintro r z1 ⟨u, rfl, ou, b⟩
  have HB1 := hide (unhide HTR _ _ (unhide HB0) b)
  have HU := hide (sees_of_own ou).2
  obtain ⟨ua, uc, rfl⟩ := own_shape ou
  clear b ou HC HXE
  have HXE := hide (unhide HX _ (unhide HB1)).1
  have HC := hide (mayEntry_any ce x z1 ((unhide HSE).below (unhide HBW _ (unhide HB1))) (unhide HFE).ok)
  rw [unhide HA] at HC
  simp only [List.length_nil]
  go_wp2_with (refine wpList_load_wanted (by rfl) 24 _ rfl w.heap.size rfl 24 _ (0, 0) _ (unhide HXE) Tryz.underlying24 rfl (by rw [unhide HZE]; kernel_rfl) ?_)
  refine (unhide HC).mono ?_
  rintro r z2 ⟨rfl, b⟩
  have HB2 := hide (unhide HTR _ _ (unhide HB1) b)
  clear b HC HXE HU
  have HXM := hide (unhide HX _ (unhide HB2)).2
  have HC := hide (marshal_any cm m z2 ((unhide HSM).below (unhide HBW _ (unhide HB2))) (unhide HOM) (unhide HFM).1 (unhide HFM).2.1 (unhide HFM).2.2.1 (unhide HFM).2.2.2)
  rw [unhide HBM] at HC
  go_wp2_with (refine wpList_load_wanted (by rfl) 30 _ rfl (w.heap.size + 1) rfl 30 _ (0, 0) _ (unhide HXM) Tryz.underlying30 rfl (by rw [unhide HZM]; kernel_rfl) ?_)
  refine (unhide HC).mono ?_
  rintro r z3 ⟨u, rfl, ou, b⟩
  have HB3 := hide (unhide HTR _ _ (unhide HB2) b)
  have HU := hide (sees_of_own ou).2
  obtain ⟨ua2, uc2, rfl⟩ := own_shape ou
  clear b ou HC HXM
  obtain ⟨ul2, hul2⟩ : ∃ n, (marB m).length = n := ⟨_, rfl⟩
  have HMB : Hid (Byt (marB m)) := marB_byt (unhide HFM).1 (unhide HOM)
  have HC := hide (Unmarshal_any _ (marB m) z3 (unhide HU) (unhide HMB) (marB_le m))
  rw [unm_mar (unhide HFM).1 (unhide HBM)] at HC
  simp only at HC
  rw [hul2] at HC
  rw [hul2]
  clear hul2 HU
  go_wp2_with fail
  refine (unhide HC).mono ?_
  rintro r z4 ⟨cs, rfl, ow, b⟩
  have HB4 := hide (unhide HTR _ _ (unhide HB3) b)
  clear b HC
  have HCS : Hid (cs.size = 17) := ow.size
  have HCO : Hid (cs.all (·.oneCell') = true) := ow.one
  have hse := ow.sees (mar_read (unhide HFM).1 (unhide HOM) (unhide HBM))
  have hal : Below z4.heap.size z4 (z4.alloc (.cells #[.int .i64 0, .int .i64 0, .int .i64 0, .int .i64 0, .int .i64 0, .int .i64 0, .int .i64 0, .bool false, .slice none 0 0, .int .i64 0, .int .i64 0, .int .i64 0, .slice none 0 0, .int .i64 0, .int .i64 0, .int .i64 0, .slice none 0 0] 30)) := (Below.refl _ _).alloc (Nat.le_refl _) _
  have hxa : (z4.alloc (.cells #[.int .i64 0, .int .i64 0, .int .i64 0, .int .i64 0, .int .i64 0, .int .i64 0, .int .i64 0, .bool false, .slice none 0 0, .int .i64 0, .int .i64 0, .int .i64 0, .slice none 0 0, .int .i64 0, .int .i64 0, .int .i64 0, .slice none 0 0] 30)).heap[z4.heap.size]? = some (.cells #[.int .i64 0, .int .i64 0, .int .i64 0, .int .i64 0, .int .i64 0, .int .i64 0, .int .i64 0, .bool false, .slice none 0 0, .int .i64 0, .int .i64 0, .int .i64 0, .slice none 0 0, .int .i64 0, .int .i64 0, .int .i64 0, .slice none 0 0] 30) := heap_alloc_new z4 _
  obtain ⟨zaB, hzaB⟩ : ∃ y, z4.alloc (.cells #[.int .i64 0, .int .i64 0, .int .i64 0, .int .i64 0, .int .i64 0, .int .i64 0, .int .i64 0, .bool false, .slice none 0 0, .int .i64 0, .int .i64 0, .int .i64 0, .slice none 0 0, .int .i64 0, .int .i64 0, .int .i64 0, .slice none 0 0] 30) = y := ⟨_, rfl⟩
  rw [hzaB] at hal hxa
  have hbb := below_setRow hal (cs := cs) (g := z4.heap.size) (Nat.le_refl _)
  have hxb := setRow_heap zaB z4.heap.size _ cs 30 (0, 0) hxa
  obtain ⟨XB, hXB⟩ : ∃ n, z4.heap.size = n := ⟨_, rfl⟩
  have hs2 := hse.below hbb
  have hbn := unhide HTR _ _ (unhide HB4) hbb
  rw [hXB] at hxa hxb hs2 hbn
  obtain ⟨z5, hz5⟩ : ∃ y, zaB.setRow XB cs = y := ⟨_, rfl⟩
  rw [hz5] at hxb hs2 hbn
  have HXA := hide hxa
  have HXB := hide hxb
  have HSS := hide hs2
  have HB5 := hide hbn
  clear hse hal hxa hbb hxb hs2 hbn
  have HXM := hide (unhide HX _ (unhide HB5)).2
  have HC := hide (refSameMsg_any _ _ m m z5 ((unhide HSM).below (unhide HBW _ (unhide HB5))) (unhide HSS) (unhide HOM) (unhide HOM))
  simp only [decide_true] at HC
  go_wp2_with (first | rw [hzaB] | rw [hz5] | rw [hXB] | refine wpList_store_row rfl 30 _ _ rfl XB _ _ rfl rfl 30 (unhide HXA) (by rw [unhide HCS]; kernel_rfl) (by rw [unhide HCS]; rfl) (unhide HCO) ?_ | refine wpList_load_wanted (by rfl) 30 _ rfl (w.heap.size + 1) rfl 30 _ (0, 0) _ (unhide HXM) Tryz.underlying30 rfl (by rw [unhide HZM]; kernel_rfl) ?_ | refine wpList_load_wanted (by rfl) 30 _ rfl XB rfl 30 _ (0, 0) _ (unhide HXB) Tryz.underlying30 rfl (by rw [unhide HCS]; kernel_rfl) ?_)
  refine (unhide HC).mono ?_
  rintro r z6 ⟨rfl, b⟩
  have HB6 := hide (unhide HTR _ _ (unhide HB5) b)
  clear b HC ow HXA HXB HSS HXM HCS HCO
  have HS1 := hide ((unhide HS).below (unhide HBW _ (unhide HB6)))
  have HC := hide (TakeEntry_any _ zs z6 (unhide HS1) (unhide HBY) (unhide HL))
  have HRD := hide (takeE_read (unhide HBY))
  have HFT := hide (takeE_fit (unhide HBY))
  obtain ⟨te, ec, hte⟩ : ∃ a b, takeE zs = (a, b) := ⟨_, _, rfl⟩
  have hec := unhide HCC
  rw [hte] at HC hec
  rw [hte] at HRD
  rw [hte] at HFT
  simp only at HC hec
  have hecb : (ec == 0) = false := by simpa using hec
  clear hte
  go_wp2_with fail
  refine (unhide HC).mono ?_
  rintro r z7 ⟨cs, rfl, ow, b⟩
  have HB7 := hide (unhide HTR _ _ (unhide HB6) b)
  clear b HC HS1
  have HCS : Hid (cs.size = 4) := ow.size
  have HCO : Hid (cs.all (·.oneCell') = true) := ow.one
  have hse := ow.sees2 (unhide HRD)
  have hal : Below z7.heap.size z7 (z7.alloc (.cells #[.int .i64 0, .int .i64 0, .int .i64 0, .slice none 0 0] 24)) := (Below.refl _ _).alloc (Nat.le_refl _) _
  have hxa : (z7.alloc (.cells #[.int .i64 0, .int .i64 0, .int .i64 0, .slice none 0 0] 24)).heap[z7.heap.size]? = some (.cells #[.int .i64 0, .int .i64 0, .int .i64 0, .slice none 0 0] 24) := heap_alloc_new z7 _
  obtain ⟨zaC, hzaC⟩ : ∃ y, z7.alloc (.cells #[.int .i64 0, .int .i64 0, .int .i64 0, .slice none 0 0] 24) = y := ⟨_, rfl⟩
  rw [hzaC] at hal hxa
  have hbb := below_setRow hal (cs := cs) (g := z7.heap.size) (Nat.le_refl _)
  have hxb := setRow_heap zaC z7.heap.size _ cs 24 (0, 0) hxa
  obtain ⟨XC, hXC⟩ : ∃ n, z7.heap.size = n := ⟨_, rfl⟩
  have hs2 := hse.below hbb
  have hbn := unhide HTR _ _ (unhide HB7) hbb
  rw [hXC] at hxa hxb hs2 hbn
  obtain ⟨z8, hz8⟩ : ∃ y, zaC.setRow XC cs = y := ⟨_, rfl⟩
  rw [hz8] at hxb hs2 hbn
  have HXA := hide hxa
  have HXB := hide hxb
  have HSS := hide hs2
  have HB8 := hide hbn
  clear hse hal hxa hbb hxb hs2 hbn
  clear ow HXB HSS HRD HFT
  have HS1 := hide ((unhide HS).below (unhide HBW _ (unhide HB8)))
  have HC := hide (Unmarshal_any _ zs z8 (unhide HS1) (unhide HBY) (by have := unhide HL; omega))
  have HRD := hide (unm_fit (unhide HBY))
  rw [unhide HDD] at HC
  rw [unhide HDD] at HRD
  simp only at HC
  go_wp2_with (first | rw [hzaC] | rw [hz8] | rw [hXC] | refine wpList_store_row rfl 24 _ _ rfl XC _ _ rfl rfl 24 (unhide HXA) (by rw [unhide HCS]; kernel_rfl) (by rw [unhide HCS]; rfl) (unhide HCO) ?_)
  refine (unhide HC).mono ?_
  rintro r z9 ⟨cs, rfl, ow, b⟩
  have HB9 := hide (unhide HTR _ _ (unhide HB8) b)
  clear b HC HS1 HXA HCS HCO
  have HCS : Hid (cs.size = 17) := ow.size
  have HCO : Hid (cs.all (·.oneCell') = true) := ow.one
  have hse := ow.sees (unhide HRD).2
  have hal : Below z9.heap.size z9 (z9.alloc (.cells #[.int .i64 0, .int .i64 0, .int .i64 0, .int .i64 0, .int .i64 0, .int .i64 0, .int .i64 0, .bool false, .slice none 0 0, .int .i64 0, .int .i64 0, .int .i64 0, .slice none 0 0, .int .i64 0, .int .i64 0, .int .i64 0, .slice none 0 0] 30)) := (Below.refl _ _).alloc (Nat.le_refl _) _
  have hxa : (z9.alloc (.cells #[.int .i64 0, .int .i64 0, .int .i64 0, .int .i64 0, .int .i64 0, .int .i64 0, .int .i64 0, .bool false, .slice none 0 0, .int .i64 0, .int .i64 0, .int .i64 0, .slice none 0 0, .int .i64 0, .int .i64 0, .int .i64 0, .slice none 0 0] 30)).heap[z9.heap.size]? = some (.cells #[.int .i64 0, .int .i64 0, .int .i64 0, .int .i64 0, .int .i64 0, .int .i64 0, .int .i64 0, .bool false, .slice none 0 0, .int .i64 0, .int .i64 0, .int .i64 0, .slice none 0 0, .int .i64 0, .int .i64 0, .int .i64 0, .slice none 0 0] 30) := heap_alloc_new z9 _
  obtain ⟨zaD, hzaD⟩ : ∃ y, z9.alloc (.cells #[.int .i64 0, .int .i64 0, .int .i64 0, .int .i64 0, .int .i64 0, .int .i64 0, .int .i64 0, .bool false, .slice none 0 0, .int .i64 0, .int .i64 0, .int .i64 0, .slice none 0 0, .int .i64 0, .int .i64 0, .int .i64 0, .slice none 0 0] 30) = y := ⟨_, rfl⟩
  rw [hzaD] at hal hxa
  have hbb := below_setRow hal (cs := cs) (g := z9.heap.size) (Nat.le_refl _)
  have hxb := setRow_heap zaD z9.heap.size _ cs 30 (0, 0) hxa
  obtain ⟨XD, hXD⟩ : ∃ n, z9.heap.size = n := ⟨_, rfl⟩
  have hs2 := hse.below hbb
  have hbn := unhide HTR _ _ (unhide HB9) hbb
  rw [hXD] at hxa hxb hs2 hbn
  obtain ⟨z10, hz10⟩ : ∃ y, zaD.setRow XD cs = y := ⟨_, rfl⟩
  rw [hz10] at hxb hs2 hbn
  have HXA := hide hxa
  have HXB := hide hxb
  have HSS := hide hs2
  have HB10 := hide hbn
  clear hse hal hxa hbb hxb hs2 hbn
  have HC := hide (marshal_any cs n z10 (unhide HSS) (unhide HRD).2.ok (unhide HRD).1.1 (unhide HRD).1.2.1 (unhide HRD).1.2.2.1 (unhide HRD).1.2.2.2)
  rw [(unm_inv (unhide HBY) (unhide HDD)).1] at HC
  rw [(unm_inv (unhide HBY) (unhide HDD)).2] at HC
  go_wp2_with (first | rw [hzaD] | rw [hz10] | rw [hXD] | refine wpList_store_row rfl 30 _ _ rfl XD _ _ rfl rfl 30 (unhide HXA) (by rw [unhide HCS]; kernel_rfl) (by rw [unhide HCS]; rfl) (unhide HCO) ?_ | refine wpList_load_wanted (by rfl) 30 _ rfl XD rfl 30 _ (0, 0) _ (unhide HXB) Tryz.underlying30 rfl (by rw [unhide HCS]; kernel_rfl) ?_)
  refine (unhide HC).mono ?_
  rintro r z11 ⟨u, rfl, ou, b⟩
  have HB11 := hide (unhide HTR _ _ (unhide HB10) b)
  have HU := hide (sees_of_own ou).2
  obtain ⟨ua4, uc4, rfl⟩ := own_shape ou
  obtain ⟨ul4, hul4⟩ : ∃ n, zs.length = n := ⟨_, rfl⟩
  rw [hul4] at HU
  rw [hul4]
  clear hul4
  clear b ou HC ow HXA HXB HSS HCS HCO HRD
  have HQ := hide (equal_any _ _ zs zs z11 (unhide HU) ((unhide HS).below (unhide HBW _ (unhide HB11))) (unhide HBY) (unhide HBY))
  simp only [decide_true] at HQ
  clear HU
  go_wp2_with fail
  refine (unhide HQ).mono ?_
  rintro r _ ⟨rfl, rfl⟩
  clear HQ
  have HF := hide (unhide HBW _ (unhide HB11))
  go_wp2_with fail
  go_ret
  exact ⟨rfl, unhide HF⟩

set_option maxHeartbeats 3200000 in
theorem back_0000 {w : World} {ce cm : Array Value} {ba : Option Addr} {bl bc : Nat} {x : EntD} {m : MsgD} {zs : List Int} (se : SeesE w ce x) (fe : FitE x) (sm : SeesM w cm m) (om : OkM m) (fm : Fits m) (hs : Sees w .u8 (.slice ba bl bc) zs) (hby : Byt zs) (hl : zs.length ≤ 140737488351232) (ha : mayE x = false) (hbm : marE m = 0) (hc : (takeE zs).2 ≠ 0) (hd : (unm zs).2 ≠ 0) :
    Calls Tryz.prog 3 #[.agg ce, .agg cm, .slice ba bl bc] w fun e w' => e = .returned (.bool true) ∧ Below w.heap.size w w' := by
  have HZE : Hid (ce.size = 4) := by obtain ⟨_, rfl, _⟩ := se; rfl
  have HZM : Hid (cm.size = 17) := by obtain ⟨_, _, _, rfl, _⟩ := sm; rfl
  have HSE := hide se
  have HSM := hide sm
  have HFE := hide fe
  have HFM := hide fm
  have HOM := hide om
  have HS := hide hs
  have HBY := hide hby
  have HL := hide hl
  have HA := hide ha
  have HBM := hide hbm
  have HCC := hide hc
  have HDD := hide hd
  have hB2 : Below w.heap.size w ((w.alloc (.cells ce 24)).alloc (.cells cm 30)) := ((Below.refl _ _).alloc (Nat.le_refl _) _).alloc (by simp) _
  have e1 : (w.alloc (.cells ce 24)).heap.size = w.heap.size + 1 := by simp
  have hS2 : ((w.alloc (.cells ce 24)).alloc (.cells cm 30)).heap.size = w.heap.size + 2 := by simp
  have g0 : ((w.alloc (.cells ce 24)).alloc (.cells cm 30)).heap[w.heap.size]? = some (.cells ce 24) := (Below.heap_alloc _ _ _ (by omega)).trans (heap_alloc_new w _)
  have g1 : ((w.alloc (.cells ce 24)).alloc (.cells cm 30)).heap[w.heap.size + 1]? = some (.cells cm 30) := by have := heap_alloc_new (w.alloc (.cells ce 24)) (.cells cm 30); rw [e1] at this; exact this
  obtain ⟨w2, hw2⟩ : ∃ y, ((w.alloc (.cells ce 24)).alloc (.cells cm 30)) = y := ⟨_, rfl⟩
  rw [hw2] at hB2 hS2 g0 g1
  have HX : Hid (∀ x, Below (w.heap.size + 2) w2 x → x.heap[w.heap.size]? = some (.cells ce 24) ∧ x.heap[w.heap.size + 1]? = some (.cells cm 30)) := fun x hb => ⟨(hb.block _ (by omega)).trans g0, (hb.block _ (by omega)).trans g1⟩
  have HBW : Hid (∀ x, Below (w.heap.size + 2) w2 x → Below w.heap.size w x) := fun x hb => hB2.trans (hb.mono (by omega))
  have HTR : Hid (∀ x y, Below (w.heap.size + 2) w2 x → Below x.heap.size x y → Below (w.heap.size + 2) w2 y) := fun x y h1 h2 => h1.trans (h2.mono (by have := h1.size; omega))
  have HBI : Hid (Below (w.heap.size + 2) w2 w2) := Below.refl _ _
  clear se sm fe fm om hs hby hl ha hbm hc hd hB2 e1 hS2 g0 g1
  go_enter Tryz.func3, Tryz.ntmps3
  go_wp2_with (first | rw [hw2] | simp only [Value.cells])
  refine (begun_any _).mono ?_
  rintro r z0 ⟨rfl, b⟩
  have HB0 := hide (unhide HTR _ _ (unhide HBI) b)
  clear b HBI
  have HXE := hide (unhide HX _ (unhide HB0)).1
  have HC := hide (Entry_any w.heap.size ce x z0 (unhide HBW _ (unhide HB0)).size (by obtain ⟨tv, rfl, h⟩ := unhide HSE; exact ⟨tv, rfl, (StTs.of h).on (unhide HBW _ (unhide HB0))⟩) (unhide HFE))
  rw [unhide HA] at HC
  simp only [Bool.false_eq_true, if_false] at HC
  go_wp2_with (refine wpList_load_wanted (by rfl) 24 _ rfl w.heap.size rfl 24 _ (0, 0) _ (unhide HXE) Tryz.underlying24 rfl (by rw [unhide HZE]; kernel_rfl) ?_)
  refine (unhide HC).mono ?_
  rintro r z1 ⟨u, rfl, ou, b⟩
  have HB1 := hide (unhide HTR _ _ (unhide HB0) b)
  have HU := hide (sees_of_own ou).2
  obtain ⟨ua, uc, rfl⟩ := own_shape ou
  clear b ou HC HXE
  have HXE := hide (unhide HX _ (unhide HB1)).1
  have HC := hide (mayEntry_any ce x z1 ((unhide HSE).below (unhide HBW _ (unhide HB1))) (unhide HFE).ok)
  rw [unhide HA] at HC
  simp only [List.length_nil]
  go_wp2_with (refine wpList_load_wanted (by rfl) 24 _ rfl w.heap.size rfl 24 _ (0, 0) _ (unhide HXE) Tryz.underlying24 rfl (by rw [unhide HZE]; kernel_rfl) ?_)
  refine (unhide HC).mono ?_
  rintro r z2 ⟨rfl, b⟩
  have HB2 := hide (unhide HTR _ _ (unhide HB1) b)
  clear b HC HXE HU
  have HXM := hide (unhide HX _ (unhide HB2)).2
  have HC := hide (marshal_any cm m z2 ((unhide HSM).below (unhide HBW _ (unhide HB2))) (unhide HOM) (unhide HFM).1 (unhide HFM).2.1 (unhide HFM).2.2.1 (unhide HFM).2.2.2)
  rw [unhide HBM] at HC
  go_wp2_with (refine wpList_load_wanted (by rfl) 30 _ rfl (w.heap.size + 1) rfl 30 _ (0, 0) _ (unhide HXM) Tryz.underlying30 rfl (by rw [unhide HZM]; kernel_rfl) ?_)
  refine (unhide HC).mono ?_
  rintro r z3 ⟨u, rfl, ou, b⟩
  have HB3 := hide (unhide HTR _ _ (unhide HB2) b)
  have HU := hide (sees_of_own ou).2
  obtain ⟨ua2, uc2, rfl⟩ := own_shape ou
  clear b ou HC HXM
  obtain ⟨ul2, hul2⟩ : ∃ n, (marB m).length = n := ⟨_, rfl⟩
  have HMB : Hid (Byt (marB m)) := marB_byt (unhide HFM).1 (unhide HOM)
  have HC := hide (Unmarshal_any _ (marB m) z3 (unhide HU) (unhide HMB) (marB_le m))
  rw [unm_mar (unhide HFM).1 (unhide HBM)] at HC
  simp only at HC
  rw [hul2] at HC
  rw [hul2]
  clear hul2 HU
  go_wp2_with fail
  refine (unhide HC).mono ?_
  rintro r z4 ⟨cs, rfl, ow, b⟩
  have HB4 := hide (unhide HTR _ _ (unhide HB3) b)
  clear b HC
  have HCS : Hid (cs.size = 17) := ow.size
  have HCO : Hid (cs.all (·.oneCell') = true) := ow.one
  have hse := ow.sees (mar_read (unhide HFM).1 (unhide HOM) (unhide HBM))
  have hal : Below z4.heap.size z4 (z4.alloc (.cells #[.int .i64 0, .int .i64 0, .int .i64 0, .int .i64 0, .int .i64 0, .int .i64 0, .int .i64 0, .bool false, .slice none 0 0, .int .i64 0, .int .i64 0, .int .i64 0, .slice none 0 0, .int .i64 0, .int .i64 0, .int .i64 0, .slice none 0 0] 30)) := (Below.refl _ _).alloc (Nat.le_refl _) _
  have hxa : (z4.alloc (.cells #[.int .i64 0, .int .i64 0, .int .i64 0, .int .i64 0, .int .i64 0, .int .i64 0, .int .i64 0, .bool false, .slice none 0 0, .int .i64 0, .int .i64 0, .int .i64 0, .slice none 0 0, .int .i64 0, .int .i64 0, .int .i64 0, .slice none 0 0] 30)).heap[z4.heap.size]? = some (.cells #[.int .i64 0, .int .i64 0, .int .i64 0, .int .i64 0, .int .i64 0, .int .i64 0, .int .i64 0, .bool false, .slice none 0 0, .int .i64 0, .int .i64 0, .int .i64 0, .slice none 0 0, .int .i64 0, .int .i64 0, .int .i64 0, .slice none 0 0] 30) := heap_alloc_new z4 _
  obtain ⟨zaB, hzaB⟩ : ∃ y, z4.alloc (.cells #[.int .i64 0, .int .i64 0, .int .i64 0, .int .i64 0, .int .i64 0, .int .i64 0, .int .i64 0, .bool false, .slice none 0 0, .int .i64 0, .int .i64 0, .int .i64 0, .slice none 0 0, .int .i64 0, .int .i64 0, .int .i64 0, .slice none 0 0] 30) = y := ⟨_, rfl⟩
  rw [hzaB] at hal hxa
  have hbb := below_setRow hal (cs := cs) (g := z4.heap.size) (Nat.le_refl _)
  have hxb := setRow_heap zaB z4.heap.size _ cs 30 (0, 0) hxa
  obtain ⟨XB, hXB⟩ : ∃ n, z4.heap.size = n := ⟨_, rfl⟩
  have hs2 := hse.below hbb
  have hbn := unhide HTR _ _ (unhide HB4) hbb
  rw [hXB] at hxa hxb hs2 hbn
  obtain ⟨z5, hz5⟩ : ∃ y, zaB.setRow XB cs = y := ⟨_, rfl⟩
  rw [hz5] at hxb hs2 hbn
  have HXA := hide hxa
  have HXB := hide hxb
  have HSS := hide hs2
  have HB5 := hide hbn
  clear hse hal hxa hbb hxb hs2 hbn
  have HXM := hide (unhide HX _ (unhide HB5)).2
  have HC := hide (refSameMsg_any _ _ m m z5 ((unhide HSM).below (unhide HBW _ (unhide HB5))) (unhide HSS) (unhide HOM) (unhide HOM))
  simp only [decide_true] at HC
  go_wp2_with (first | rw [hzaB] | rw [hz5] | rw [hXB] | refine wpList_store_row rfl 30 _ _ rfl XB _ _ rfl rfl 30 (unhide HXA) (by rw [unhide HCS]; kernel_rfl) (by rw [unhide HCS]; rfl) (unhide HCO) ?_ | refine wpList_load_wanted (by rfl) 30 _ rfl (w.heap.size + 1) rfl 30 _ (0, 0) _ (unhide HXM) Tryz.underlying30 rfl (by rw [unhide HZM]; kernel_rfl) ?_ | refine wpList_load_wanted (by rfl) 30 _ rfl XB rfl 30 _ (0, 0) _ (unhide HXB) Tryz.underlying30 rfl (by rw [unhide HCS]; kernel_rfl) ?_)
  refine (unhide HC).mono ?_
  rintro r z6 ⟨rfl, b⟩
  have HB6 := hide (unhide HTR _ _ (unhide HB5) b)
  clear b HC ow HXA HXB HSS HXM HCS HCO
  have HS1 := hide ((unhide HS).below (unhide HBW _ (unhide HB6)))
  have HC := hide (TakeEntry_any _ zs z6 (unhide HS1) (unhide HBY) (unhide HL))
  have HRD := hide (takeE_read (unhide HBY))
  have HFT := hide (takeE_fit (unhide HBY))
  obtain ⟨te, ec, hte⟩ : ∃ a b, takeE zs = (a, b) := ⟨_, _, rfl⟩
  have hec := unhide HCC
  rw [hte] at HC hec
  rw [hte] at HRD
  rw [hte] at HFT
  simp only at HC hec
  have hecb : (ec == 0) = false := by simpa using hec
  clear hte
  go_wp2_with fail
  refine (unhide HC).mono ?_
  rintro r z7 ⟨cs, rfl, ow, b⟩
  have HB7 := hide (unhide HTR _ _ (unhide HB6) b)
  clear b HC HS1
  have HCS : Hid (cs.size = 4) := ow.size
  have HCO : Hid (cs.all (·.oneCell') = true) := ow.one
  have hse := ow.sees2 (unhide HRD)
  have hal : Below z7.heap.size z7 (z7.alloc (.cells #[.int .i64 0, .int .i64 0, .int .i64 0, .slice none 0 0] 24)) := (Below.refl _ _).alloc (Nat.le_refl _) _
  have hxa : (z7.alloc (.cells #[.int .i64 0, .int .i64 0, .int .i64 0, .slice none 0 0] 24)).heap[z7.heap.size]? = some (.cells #[.int .i64 0, .int .i64 0, .int .i64 0, .slice none 0 0] 24) := heap_alloc_new z7 _
  obtain ⟨zaC, hzaC⟩ : ∃ y, z7.alloc (.cells #[.int .i64 0, .int .i64 0, .int .i64 0, .slice none 0 0] 24) = y := ⟨_, rfl⟩
  rw [hzaC] at hal hxa
  have hbb := below_setRow hal (cs := cs) (g := z7.heap.size) (Nat.le_refl _)
  have hxb := setRow_heap zaC z7.heap.size _ cs 24 (0, 0) hxa
  obtain ⟨XC, hXC⟩ : ∃ n, z7.heap.size = n := ⟨_, rfl⟩
  have hs2 := hse.below hbb
  have hbn := unhide HTR _ _ (unhide HB7) hbb
  rw [hXC] at hxa hxb hs2 hbn
  obtain ⟨z8, hz8⟩ : ∃ y, zaC.setRow XC cs = y := ⟨_, rfl⟩
  rw [hz8] at hxb hs2 hbn
  have HXA := hide hxa
  have HXB := hide hxb
  have HSS := hide hs2
  have HB8 := hide hbn
  clear hse hal hxa hbb hxb hs2 hbn
  clear ow HXB HSS HRD HFT
  have HS1 := hide ((unhide HS).below (unhide HBW _ (unhide HB8)))
  have HC := hide (Unmarshal_any _ zs z8 (unhide HS1) (unhide HBY) (by have := unhide HL; omega))
  have HRD := hide (unm_fit (unhide HBY))
  obtain ⟨ue, ed, hue⟩ : ∃ a b, unm zs = (a, b) := ⟨_, _, rfl⟩
  have hed := unhide HDD
  rw [hue] at HC hed
  rw [hue] at HRD
  simp only at HC hed
  have hedb : (ed == 0) = false := by simpa using hed
  clear hue
  go_wp2_with (first | rw [hzaC] | rw [hz8] | rw [hXC] | refine wpList_store_row rfl 24 _ _ rfl XC _ _ rfl rfl 24 (unhide HXA) (by rw [unhide HCS]; kernel_rfl) (by rw [unhide HCS]; rfl) (unhide HCO) ?_)
  refine (unhide HC).mono ?_
  rintro r z9 ⟨cs, rfl, ow, b⟩
  have HB9 := hide (unhide HTR _ _ (unhide HB8) b)
  clear b HC HS1 HXA HCS HCO
  have HCS : Hid (cs.size = 17) := ow.size
  have HCO : Hid (cs.all (·.oneCell') = true) := ow.one
  have hse := ow.sees (unhide HRD).2
  have hal : Below z9.heap.size z9 (z9.alloc (.cells #[.int .i64 0, .int .i64 0, .int .i64 0, .int .i64 0, .int .i64 0, .int .i64 0, .int .i64 0, .bool false, .slice none 0 0, .int .i64 0, .int .i64 0, .int .i64 0, .slice none 0 0, .int .i64 0, .int .i64 0, .int .i64 0, .slice none 0 0] 30)) := (Below.refl _ _).alloc (Nat.le_refl _) _
  have hxa : (z9.alloc (.cells #[.int .i64 0, .int .i64 0, .int .i64 0, .int .i64 0, .int .i64 0, .int .i64 0, .int .i64 0, .bool false, .slice none 0 0, .int .i64 0, .int .i64 0, .int .i64 0, .slice none 0 0, .int .i64 0, .int .i64 0, .int .i64 0, .slice none 0 0] 30)).heap[z9.heap.size]? = some (.cells #[.int .i64 0, .int .i64 0, .int .i64 0, .int .i64 0, .int .i64 0, .int .i64 0, .int .i64 0, .bool false, .slice none 0 0, .int .i64 0, .int .i64 0, .int .i64 0, .slice none 0 0, .int .i64 0, .int .i64 0, .int .i64 0, .slice none 0 0] 30) := heap_alloc_new z9 _
  obtain ⟨zaD, hzaD⟩ : ∃ y, z9.alloc (.cells #[.int .i64 0, .int .i64 0, .int .i64 0, .int .i64 0, .int .i64 0, .int .i64 0, .int .i64 0, .bool false, .slice none 0 0, .int .i64 0, .int .i64 0, .int .i64 0, .slice none 0 0, .int .i64 0, .int .i64 0, .int .i64 0, .slice none 0 0] 30) = y := ⟨_, rfl⟩
  rw [hzaD] at hal hxa
  have hbb := below_setRow hal (cs := cs) (g := z9.heap.size) (Nat.le_refl _)
  have hxb := setRow_heap zaD z9.heap.size _ cs 30 (0, 0) hxa
  obtain ⟨XD, hXD⟩ : ∃ n, z9.heap.size = n := ⟨_, rfl⟩
  have hs2 := hse.below hbb
  have hbn := unhide HTR _ _ (unhide HB9) hbb
  rw [hXD] at hxa hxb hs2 hbn
  obtain ⟨z10, hz10⟩ : ∃ y, zaD.setRow XD cs = y := ⟨_, rfl⟩
  rw [hz10] at hxb hs2 hbn
  have HXA := hide hxa
  have HXB := hide hxb
  have HSS := hide hs2
  have HB10 := hide hbn
  clear hse hal hxa hbb hxb hs2 hbn
  clear ow HXB HSS HRD
  have HF := hide (unhide HBW _ (unhide HB10))
  go_wp2_with (first | rw [hzaD] | rw [hz10] | rw [hXD] | refine wpList_store_row rfl 30 _ _ rfl XD _ _ rfl rfl 30 (unhide HXA) (by rw [unhide HCS]; kernel_rfl) (by rw [unhide HCS]; rfl) (unhide HCO) ?_)
  go_ret
  exact ⟨rfl, unhide HF⟩

set_option maxHeartbeats 3200000 in
theorem back_0311 {w : World} {ce cm : Array Value} {ba : Option Addr} {bl bc : Nat} {x y : EntD} {m n : MsgD} {zs : List Int} (se : SeesE w ce x) (fe : FitE x) (sm : SeesM w cm m) (om : OkM m) (fm : Fits m) (hs : Sees w .u8 (.slice ba bl bc) zs) (hby : Byt zs) (hl : zs.length ≤ 140737488351232) (ha : mayE x = false) (hbm : marE m = 3) (hc : takeE zs = (y, 0)) (hd : unm zs = (n, 0)) :
    Calls Tryz.prog 3 #[.agg ce, .agg cm, .slice ba bl bc] w fun e w' => e = .returned (.bool true) ∧ Below w.heap.size w w' := by
  have HZE : Hid (ce.size = 4) := by obtain ⟨_, rfl, _⟩ := se; rfl
  have HZM : Hid (cm.size = 17) := by obtain ⟨_, _, _, rfl, _⟩ := sm; rfl
  have HSE := hide se
  have HSM := hide sm
  have HFE := hide fe
  have HFM := hide fm
  have HOM := hide om
  have HS := hide hs
  have HBY := hide hby
  have HL := hide hl
  have HA := hide ha
  have HBM := hide hbm
  have HCC := hide hc
  have HDD := hide hd
  have hB2 : Below w.heap.size w ((w.alloc (.cells ce 24)).alloc (.cells cm 30)) := ((Below.refl _ _).alloc (Nat.le_refl _) _).alloc (by simp) _
  have e1 : (w.alloc (.cells ce 24)).heap.size = w.heap.size + 1 := by simp
  have hS2 : ((w.alloc (.cells ce 24)).alloc (.cells cm 30)).heap.size = w.heap.size + 2 := by simp
  have g0 : ((w.alloc (.cells ce 24)).alloc (.cells cm 30)).heap[w.heap.size]? = some (.cells ce 24) := (Below.heap_alloc _ _ _ (by omega)).trans (heap_alloc_new w _)
  have g1 : ((w.alloc (.cells ce 24)).alloc (.cells cm 30)).heap[w.heap.size + 1]? = some (.cells cm 30) := by have := heap_alloc_new (w.alloc (.cells ce 24)) (.cells cm 30); rw [e1] at this; exact this
  obtain ⟨w2, hw2⟩ : ∃ y, ((w.alloc (.cells ce 24)).alloc (.cells cm 30)) = y := ⟨_, rfl⟩
  rw [hw2] at hB2 hS2 g0 g1
  have HX : Hid (∀ x, Below (w.heap.size + 2) w2 x → x.heap[w.heap.size]? = some (.cells ce 24) ∧ x.heap[w.heap.size + 1]? = some (.cells cm 30)) := fun x hb => ⟨(hb.block _ (by omega)).trans g0, (hb.block _ (by omega)).trans g1⟩
  have HBW : Hid (∀ x, Below (w.heap.size + 2) w2 x → Below w.heap.size w x) := fun x hb => hB2.trans (hb.mono (by omega))
  have HTR : Hid (∀ x y, Below (w.heap.size + 2) w2 x → Below x.heap.size x y → Below (w.heap.size + 2) w2 y) := fun x y h1 h2 => h1.trans (h2.mono (by have := h1.size; omega))
  have HBI : Hid (Below (w.heap.size + 2) w2 w2) := Below.refl _ _
  clear se sm fe fm om hs hby hl ha hbm hc hd hB2 e1 hS2 g0 g1
  go_enter Tryz.func3, Tryz.ntmps3
  go_wp2_with (first | rw [hw2] | simp only [Value.cells])
  refine (begun_any _).mono ?_
  rintro r z0 ⟨rfl, b⟩
  have HB0 := hide (unhide HTR _ _ (unhide HBI) b)
  clear b HBI
  have HXE := hide (unhide HX _ (unhide HB0)).1
  have HC := hide (Entry_any w.heap.size ce x z0 (unhide HBW _ (unhide HB0)).size (by obtain ⟨tv, rfl, h⟩ := unhide HSE; exact ⟨tv, rfl, (StTs.of h).on (unhide HBW _ (unhide HB0))⟩) (unhide HFE))
  rw [unhide HA] at HC
  simp only [Bool.false_eq_true, if_false] at HC
  go_wp2_with (refine wpList_load_wanted (by rfl) 24 _ rfl w.heap.size rfl 24 _ (0, 0) _ (unhide HXE) Tryz.underlying24 rfl (by rw [unhide HZE]; kernel_rfl) ?_)
  refine (unhide HC).mono ?_
  rintro r z1 ⟨u, rfl, ou, b⟩
  have HB1 := hide (unhide HTR _ _ (unhide HB0) b)
  have HU := hide (sees_of_own ou).2
  obtain ⟨ua, uc, rfl⟩ := own_shape ou
  clear b ou HC HXE
  have HXE := hide (unhide HX _ (unhide HB1)).1
  have HC := hide (mayEntry_any ce x z1 ((unhide HSE).below (unhide HBW _ (unhide HB1))) (unhide HFE).ok)
  rw [unhide HA] at HC
  simp only [List.length_nil]
  go_wp2_with (refine wpList_load_wanted (by rfl) 24 _ rfl w.heap.size rfl 24 _ (0, 0) _ (unhide HXE) Tryz.underlying24 rfl (by rw [unhide HZE]; kernel_rfl) ?_)
  refine (unhide HC).mono ?_
  rintro r z2 ⟨rfl, b⟩
  have HB2 := hide (unhide HTR _ _ (unhide HB1) b)
  clear b HC HXE HU
  have HXM := hide (unhide HX _ (unhide HB2)).2
  have HC := hide (marshal_any cm m z2 ((unhide HSM).below (unhide HBW _ (unhide HB2))) (unhide HOM) (unhide HFM).1 (unhide HFM).2.1 (unhide HFM).2.2.1 (unhide HFM).2.2.2)
  rw [unhide HBM] at HC
  go_wp2_with (refine wpList_load_wanted (by rfl) 30 _ rfl (w.heap.size + 1) rfl 30 _ (0, 0) _ (unhide HXM) Tryz.underlying30 rfl (by rw [unhide HZM]; kernel_rfl) ?_)
  refine (unhide HC).mono ?_
  rintro r z3 ⟨u, rfl, ou, b⟩
  have HB3 := hide (unhide HTR _ _ (unhide HB2) b)
  have HU := hide (sees_of_own ou).2
  obtain ⟨ua2, uc2, rfl⟩ := own_shape ou
  clear b ou HC HXM
  obtain ⟨ul2, hul2⟩ : ∃ n, (marB m).length = n := ⟨_, rfl⟩
  rw [hul2]
  clear hul2 HU
  have HXM := hide (unhide HX _ (unhide HB3)).2
  have HC := hide (mays_same m ▸ mayMsg_any cm m z3 ((unhide HSM).below (unhide HBW _ (unhide HB3))) (unhide HOM) (okM_plain (unhide HOM)) : Calls Tryz.prog 14 #[.agg cm] z3 fun e w' => e = .returned (.bool (mayMsg m)) ∧ Below z3.heap.size z3 w')
  rw [mar_long (unhide HBM)] at HC
  go_wp2_with (refine wpList_load_wanted (by rfl) 30 _ rfl (w.heap.size + 1) rfl 30 _ (0, 0) _ (unhide HXM) Tryz.underlying30 rfl (by rw [unhide HZM]; kernel_rfl) ?_)
  refine (unhide HC).mono ?_
  rintro r z4 ⟨rfl, b⟩
  have HB4 := hide (unhide HTR _ _ (unhide HB3) b)
  clear b HC HXM
  have HS1 := hide ((unhide HS).below (unhide HBW _ (unhide HB4)))
  have HC := hide (TakeEntry_any _ zs z4 (unhide HS1) (unhide HBY) (unhide HL))
  have HRD := hide (takeE_read (unhide HBY))
  have HFT := hide (takeE_fit (unhide HBY))
  rw [unhide HCC] at HC
  rw [unhide HCC] at HRD
  rw [unhide HCC] at HFT
  simp only at HC
  go_wp2_with fail
  refine (unhide HC).mono ?_
  rintro r z5 ⟨cs, rfl, ow, b⟩
  have HB5 := hide (unhide HTR _ _ (unhide HB4) b)
  clear b HC HS1
  have HCS : Hid (cs.size = 4) := ow.size
  have HCO : Hid (cs.all (·.oneCell') = true) := ow.one
  have hse := ow.sees2 (unhide HRD)
  have hal : Below z5.heap.size z5 (z5.alloc (.cells #[.int .i64 0, .int .i64 0, .int .i64 0, .slice none 0 0] 24)) := (Below.refl _ _).alloc (Nat.le_refl _) _
  have hxa : (z5.alloc (.cells #[.int .i64 0, .int .i64 0, .int .i64 0, .slice none 0 0] 24)).heap[z5.heap.size]? = some (.cells #[.int .i64 0, .int .i64 0, .int .i64 0, .slice none 0 0] 24) := heap_alloc_new z5 _
  obtain ⟨zaC, hzaC⟩ : ∃ y, z5.alloc (.cells #[.int .i64 0, .int .i64 0, .int .i64 0, .slice none 0 0] 24) = y := ⟨_, rfl⟩
  rw [hzaC] at hal hxa
  have hbb := below_setRow hal (cs := cs) (g := z5.heap.size) (Nat.le_refl _)
  have hxb := setRow_heap zaC z5.heap.size _ cs 24 (0, 0) hxa
  obtain ⟨XC, hXC⟩ : ∃ n, z5.heap.size = n := ⟨_, rfl⟩
  have hs2 := hse.below hbb
  have hbn := unhide HTR _ _ (unhide HB5) hbb
  rw [hXC] at hxa hxb hs2 hbn
  obtain ⟨z6, hz6⟩ : ∃ y, zaC.setRow XC cs = y := ⟨_, rfl⟩
  rw [hz6] at hxb hs2 hbn
  have HXA := hide hxa
  have HXB := hide hxb
  have HSS := hide hs2
  have HB6 := hide hbn
  clear hse hal hxa hbb hxb hs2 hbn
  have HC := hide (Entry_any z6.heap.size cs y z6 (Nat.le_refl _) (by obtain ⟨tv, rfl, h⟩ := unhide HSS; exact ⟨tv, rfl, StTs.of h⟩) (unhide HFT))
  rw [(takeE_inv (unhide HBY) (unhide HCC)).1] at HC
  simp only [if_true] at HC
  rw [(takeE_inv (unhide HBY) (unhide HCC)).2] at HC
  go_wp2_with (first | rw [hzaC] | rw [hz6] | rw [hXC] | refine wpList_store_row rfl 24 _ _ rfl XC _ _ rfl rfl 24 (unhide HXA) (by rw [unhide HCS]; kernel_rfl) (by rw [unhide HCS]; rfl) (unhide HCO) ?_ | refine wpList_load_wanted (by rfl) 24 _ rfl XC rfl 24 _ (0, 0) _ (unhide HXB) Tryz.underlying24 rfl (by rw [unhide HCS]; kernel_rfl) ?_)
  refine (unhide HC).mono ?_
  rintro r z7 ⟨u, rfl, ou, b⟩
  have HB7 := hide (unhide HTR _ _ (unhide HB6) b)
  have HU := hide (sees_of_own ou).2
  obtain ⟨ua3, uc3, rfl⟩ := own_shape ou
  obtain ⟨ul3, hul3⟩ : ∃ n, zs.length = n := ⟨_, rfl⟩
  rw [hul3] at HU
  rw [hul3]
  clear hul3
  clear b ou HC ow HXA HXB HSS HCS HCO HRD HFT
  have HQ := hide (equal_any _ _ zs zs z7 (unhide HU) ((unhide HS).below (unhide HBW _ (unhide HB7))) (unhide HBY) (unhide HBY))
  simp only [decide_true] at HQ
  clear HU
  go_wp2_with fail
  refine (unhide HQ).mono ?_
  rintro r _ ⟨rfl, rfl⟩
  clear HQ
  have HS1 := hide ((unhide HS).below (unhide HBW _ (unhide HB7)))
  have HC := hide (Unmarshal_any _ zs z7 (unhide HS1) (unhide HBY) (by have := unhide HL; omega))
  have HRD := hide (unm_fit (unhide HBY))
  rw [unhide HDD] at HC
  rw [unhide HDD] at HRD
  simp only at HC
  go_wp2_with fail
  refine (unhide HC).mono ?_
  rintro r z8 ⟨cs, rfl, ow, b⟩
  have HB8 := hide (unhide HTR _ _ (unhide HB7) b)
  clear b HC HS1
  have HCS : Hid (cs.size = 17) := ow.size
  have HCO : Hid (cs.all (·.oneCell') = true) := ow.one
  have hse := ow.sees (unhide HRD).2
  have hal : Below z8.heap.size z8 (z8.alloc (.cells #[.int .i64 0, .int .i64 0, .int .i64 0, .int .i64 0, .int .i64 0, .int .i64 0, .int .i64 0, .bool false, .slice none 0 0, .int .i64 0, .int .i64 0, .int .i64 0, .slice none 0 0, .int .i64 0, .int .i64 0, .int .i64 0, .slice none 0 0] 30)) := (Below.refl _ _).alloc (Nat.le_refl _) _
  have hxa : (z8.alloc (.cells #[.int .i64 0, .int .i64 0, .int .i64 0, .int .i64 0, .int .i64 0, .int .i64 0, .int .i64 0, .bool false, .slice none 0 0, .int .i64 0, .int .i64 0, .int .i64 0, .slice none 0 0, .int .i64 0, .int .i64 0, .int .i64 0, .slice none 0 0] 30)).heap[z8.heap.size]? = some (.cells #[.int .i64 0, .int .i64 0, .int .i64 0, .int .i64 0, .int .i64 0, .int .i64 0, .int .i64 0, .bool false, .slice none 0 0, .int .i64 0, .int .i64 0, .int .i64 0, .slice none 0 0, .int .i64 0, .int .i64 0, .int .i64 0, .slice none 0 0] 30) := heap_alloc_new z8 _
  obtain ⟨zaD, hzaD⟩ : ∃ y, z8.alloc (.cells #[.int .i64 0, .int .i64 0, .int .i64 0, .int .i64 0, .int .i64 0, .int .i64 0, .int .i64 0, .bool false, .slice none 0 0, .int .i64 0, .int .i64 0, .int .i64 0, .slice none 0 0, .int .i64 0, .int .i64 0, .int .i64 0, .slice none 0 0] 30) = y := ⟨_, rfl⟩
  rw [hzaD] at hal hxa
  have hbb := below_setRow hal (cs := cs) (g := z8.heap.size) (Nat.le_refl _)
  have hxb := setRow_heap zaD z8.heap.size _ cs 30 (0, 0) hxa
  obtain ⟨XD, hXD⟩ : ∃ n, z8.heap.size = n := ⟨_, rfl⟩
  have hs2 := hse.below hbb
  have hbn := unhide HTR _ _ (unhide HB8) hbb
  rw [hXD] at hxa hxb hs2 hbn
  obtain ⟨z9, hz9⟩ : ∃ y, zaD.setRow XD cs = y := ⟨_, rfl⟩
  rw [hz9] at hxb hs2 hbn
  have HXA := hide hxa
  have HXB := hide hxb
  have HSS := hide hs2
  have HB9 := hide hbn
  clear hse hal hxa hbb hxb hs2 hbn
  have HC := hide (marshal_any cs n z9 (unhide HSS) (unhide HRD).2.ok (unhide HRD).1.1 (unhide HRD).1.2.1 (unhide HRD).1.2.2.1 (unhide HRD).1.2.2.2)
  rw [(unm_inv (unhide HBY) (unhide HDD)).1] at HC
  rw [(unm_inv (unhide HBY) (unhide HDD)).2] at HC
  go_wp2_with (first | rw [hzaD] | rw [hz9] | rw [hXD] | refine wpList_store_row rfl 30 _ _ rfl XD _ _ rfl rfl 30 (unhide HXA) (by rw [unhide HCS]; kernel_rfl) (by rw [unhide HCS]; rfl) (unhide HCO) ?_ | refine wpList_load_wanted (by rfl) 30 _ rfl XD rfl 30 _ (0, 0) _ (unhide HXB) Tryz.underlying30 rfl (by rw [unhide HCS]; kernel_rfl) ?_)
  refine (unhide HC).mono ?_
  rintro r z10 ⟨u, rfl, ou, b⟩
  have HB10 := hide (unhide HTR _ _ (unhide HB9) b)
  have HU := hide (sees_of_own ou).2
  obtain ⟨ua4, uc4, rfl⟩ := own_shape ou
  obtain ⟨ul4, hul4⟩ : ∃ n, zs.length = n := ⟨_, rfl⟩
  rw [hul4] at HU
  rw [hul4]
  clear hul4
  clear b ou HC ow HXA HXB HSS HCS HCO HRD
  have HQ := hide (equal_any _ _ zs zs z10 (unhide HU) ((unhide HS).below (unhide HBW _ (unhide HB10))) (unhide HBY) (unhide HBY))
  simp only [decide_true] at HQ
  clear HU
  go_wp2_with fail
  refine (unhide HQ).mono ?_
  rintro r _ ⟨rfl, rfl⟩
  clear HQ
  have HF := hide (unhide HBW _ (unhide HB10))
  go_wp2_with fail
  go_ret
  exact ⟨rfl, unhide HF⟩

set_option maxHeartbeats 3200000 in
theorem back_0310 {w : World} {ce cm : Array Value} {ba : Option Addr} {bl bc : Nat} {x y : EntD} {m : MsgD} {zs : List Int} (se : SeesE w ce x) (fe : FitE x) (sm : SeesM w cm m) (om : OkM m) (fm : Fits m) (hs : Sees w .u8 (.slice ba bl bc) zs) (hby : Byt zs) (hl : zs.length ≤ 140737488351232) (ha : mayE x = false) (hbm : marE m = 3) (hc : takeE zs = (y, 0)) (hd : (unm zs).2 ≠ 0) :
    Calls Tryz.prog 3 #[.agg ce, .agg cm, .slice ba bl bc] w fun e w' => e = .returned (.bool true) ∧ Below w.heap.size w w' := by
  have HZE : Hid (ce.size = 4) := by obtain ⟨_, rfl, _⟩ := se; rfl
  have HZM : Hid (cm.size = 17) := by obtain ⟨_, _, _, rfl, _⟩ := sm; rfl
  have HSE := hide se
  have HSM := hide sm
  have HFE := hide fe
  have HFM := hide fm
  have HOM := hide om
  have HS := hide hs
  have HBY := hide hby
  have HL := hide hl
  have HA := hide ha
  have HBM := hide hbm
  have HCC := hide hc
  have HDD := hide hd
  have hB2 : Below w.heap.size w ((w.alloc (.cells ce 24)).alloc (.cells cm 30)) := ((Below.refl _ _).alloc (Nat.le_refl _) _).alloc (by simp) _
  have e1 : (w.alloc (.cells ce 24)).heap.size = w.heap.size + 1 := by simp
  have hS2 : ((w.alloc (.cells ce 24)).alloc (.cells cm 30)).heap.size = w.heap.size + 2 := by simp
  have g0 : ((w.alloc (.cells ce 24)).alloc (.cells cm 30)).heap[w.heap.size]? = some (.cells ce 24) := (Below.heap_alloc _ _ _ (by omega)).trans (heap_alloc_new w _)
  have g1 : ((w.alloc (.cells ce 24)).alloc (.cells cm 30)).heap[w.heap.size + 1]? = some (.cells cm 30) := by have := heap_alloc_new (w.alloc (.cells ce 24)) (.cells cm 30); rw [e1] at this; exact this
  obtain ⟨w2, hw2⟩ : ∃ y, ((w.alloc (.cells ce 24)).alloc (.cells cm 30)) = y := ⟨_, rfl⟩
  rw [hw2] at hB2 hS2 g0 g1
  have HX : Hid (∀ x, Below (w.heap.size + 2) w2 x → x.heap[w.heap.size]? = some (.cells ce 24) ∧ x.heap[w.heap.size + 1]? = some (.cells cm 30)) := fun x hb => ⟨(hb.block _ (by omega)).trans g0, (hb.block _ (by omega)).trans g1⟩
  have HBW : Hid (∀ x, Below (w.heap.size + 2) w2 x → Below w.heap.size w x) := fun x hb => hB2.trans (hb.mono (by omega))
  have HTR : Hid (∀ x y, Below (w.heap.size + 2) w2 x → Below x.heap.size x y → Below (w.heap.size + 2) w2 y) := fun x y h1 h2 => h1.trans (h2.mono (by have := h1.size; omega))
  have HBI : Hid (Below (w.heap.size + 2) w2 w2) := Below.refl _ _
  clear se sm fe fm om hs hby hl ha hbm hc hd hB2 e1 hS2 g0 g1
  go_enter Tryz.func3, Tryz.ntmps3
  go_wp2_with (first | rw [hw2] | simp only [Value.cells])
  refine (begun_any _).mono ?_
  rintro r z0 ⟨rfl, b⟩
  have HB0 := hide (unhide HTR _ _ (unhide HBI) b)
  clear b HBI
  have HXE := hide (unhide HX _ (unhide HB0)).1
  have HC := hide (Entry_any w.heap.size ce x z0 (unhide HBW _ (unhide HB0)).size (by obtain ⟨tv, rfl, h⟩ := unhide HSE; exact ⟨tv, rfl, (StTs.of h).on (unhide HBW _ (unhide HB0))⟩) (unhide HFE))
  rw [unhide HA] at HC
  simp only [Bool.false_eq_true, if_false] at HC
  go_wp2_with (refine wpList_load_wanted (by rfl) 24 _ rfl w.heap.size rfl 24 _ (0, 0) _ (unhide HXE) Tryz.underlying24 rfl (by rw [unhide HZE]; kernel_rfl) ?_)
  refine (unhide HC).mono ?_
  rintro r z1 ⟨u, rfl, ou, b⟩
  have HB1 := hide (unhide HTR _ _ (unhide HB0) b)
  have HU := hide (sees_of_own ou).2
  obtain ⟨ua, uc, rfl⟩ := own_shape ou
  clear b ou HC HXE
  have HXE := hide (unhide HX _ (unhide HB1)).1
  have HC := hide (mayEntry_any ce x z1 ((unhide HSE).below (unhide HBW _ (unhide HB1))) (unhide HFE).ok)
  rw [unhide HA] at HC
  simp only [List.length_nil]
  go_wp2_with (refine wpList_load_wanted (by rfl) 24 _ rfl w.heap.size rfl 24 _ (0, 0) _ (unhide HXE) Tryz.underlying24 rfl (by rw [unhide HZE]; kernel_rfl) ?_)
  refine (unhide HC).mono ?_
  rintro r z2 ⟨rfl, b⟩
  have HB2 := hide (unhide HTR _ _ (unhide HB1) b)
  clear b HC HXE HU
  have HXM := hide (unhide HX _ (unhide HB2)).2
  have HC := hide (marshal_any cm m z2 ((unhide HSM).below (unhide HBW _ (unhide HB2))) (unhide HOM) (unhide HFM).1 (unhide HFM).2.1 (unhide HFM).2.2.1 (unhide HFM).2.2.2)
  rw [unhide HBM] at HC
  go_wp2_with (refine wpList_load_wanted (by rfl) 30 _ rfl (w.heap.size + 1) rfl 30 _ (0, 0) _ (unhide HXM) Tryz.underlying30 rfl (by rw [unhide HZM]; kernel_rfl) ?_)
  refine (unhide HC).mono ?_
  rintro r z3 ⟨u, rfl, ou, b⟩
  have HB3 := hide (unhide HTR _ _ (unhide HB2) b)
  have HU := hide (sees_of_own ou).2
  obtain ⟨ua2, uc2, rfl⟩ := own_shape ou
  clear b ou HC HXM
  obtain ⟨ul2, hul2⟩ : ∃ n, (marB m).length = n := ⟨_, rfl⟩
  rw [hul2]
  clear hul2 HU
  have HXM := hide (unhide HX _ (unhide HB3)).2
  have HC := hide (mays_same m ▸ mayMsg_any cm m z3 ((unhide HSM).below (unhide HBW _ (unhide HB3))) (unhide HOM) (okM_plain (unhide HOM)) : Calls Tryz.prog 14 #[.agg cm] z3 fun e w' => e = .returned (.bool (mayMsg m)) ∧ Below z3.heap.size z3 w')
  rw [mar_long (unhide HBM)] at HC
  go_wp2_with (refine wpList_load_wanted (by rfl) 30 _ rfl (w.heap.size + 1) rfl 30 _ (0, 0) _ (unhide HXM) Tryz.underlying30 rfl (by rw [unhide HZM]; kernel_rfl) ?_)
  refine (unhide HC).mono ?_
  rintro r z4 ⟨rfl, b⟩
  have HB4 := hide (unhide HTR _ _ (unhide HB3) b)
  clear b HC HXM
  have HS1 := hide ((unhide HS).below (unhide HBW _ (unhide HB4)))
  have HC := hide (TakeEntry_any _ zs z4 (unhide HS1) (unhide HBY) (unhide HL))
  have HRD := hide (takeE_read (unhide HBY))
  have HFT := hide (takeE_fit (unhide HBY))
  rw [unhide HCC] at HC
  rw [unhide HCC] at HRD
  rw [unhide HCC] at HFT
  simp only at HC
  go_wp2_with fail
  refine (unhide HC).mono ?_
  rintro r z5 ⟨cs, rfl, ow, b⟩
  have HB5 := hide (unhide HTR _ _ (unhide HB4) b)
  clear b HC HS1
  have HCS : Hid (cs.size = 4) := ow.size
  have HCO : Hid (cs.all (·.oneCell') = true) := ow.one
  have hse := ow.sees2 (unhide HRD)
  have hal : Below z5.heap.size z5 (z5.alloc (.cells #[.int .i64 0, .int .i64 0, .int .i64 0, .slice none 0 0] 24)) := (Below.refl _ _).alloc (Nat.le_refl _) _
  have hxa : (z5.alloc (.cells #[.int .i64 0, .int .i64 0, .int .i64 0, .slice none 0 0] 24)).heap[z5.heap.size]? = some (.cells #[.int .i64 0, .int .i64 0, .int .i64 0, .slice none 0 0] 24) := heap_alloc_new z5 _
  obtain ⟨zaC, hzaC⟩ : ∃ y, z5.alloc (.cells #[.int .i64 0, .int .i64 0, .int .i64 0, .slice none 0 0] 24) = y := ⟨_, rfl⟩
  rw [hzaC] at hal hxa
  have hbb := below_setRow hal (cs := cs) (g := z5.heap.size) (Nat.le_refl _)
  have hxb := setRow_heap zaC z5.heap.size _ cs 24 (0, 0) hxa
  obtain ⟨XC, hXC⟩ : ∃ n, z5.heap.size = n := ⟨_, rfl⟩
  have hs2 := hse.below hbb
  have hbn := unhide HTR _ _ (unhide HB5) hbb
  rw [hXC] at hxa hxb hs2 hbn
  obtain ⟨z6, hz6⟩ : ∃ y, zaC.setRow XC cs = y := ⟨_, rfl⟩
  rw [hz6] at hxb hs2 hbn
  have HXA := hide hxa
  have HXB := hide hxb
  have HSS := hide hs2
  have HB6 := hide hbn
  clear hse hal hxa hbb hxb hs2 hbn
  have HC := hide (Entry_any z6.heap.size cs y z6 (Nat.le_refl _) (by obtain ⟨tv, rfl, h⟩ := unhide HSS; exact ⟨tv, rfl, StTs.of h⟩) (unhide HFT))
  rw [(takeE_inv (unhide HBY) (unhide HCC)).1] at HC
  simp only [if_true] at HC
  rw [(takeE_inv (unhide HBY) (unhide HCC)).2] at HC
  go_wp2_with (first | rw [hzaC] | rw [hz6] | rw [hXC] | refine wpList_store_row rfl 24 _ _ rfl XC _ _ rfl rfl 24 (unhide HXA) (by rw [unhide HCS]; kernel_rfl) (by rw [unhide HCS]; rfl) (unhide HCO) ?_ | refine wpList_load_wanted (by rfl) 24 _ rfl XC rfl 24 _ (0, 0) _ (unhide HXB) Tryz.underlying24 rfl (by rw [unhide HCS]; kernel_rfl) ?_)
  refine (unhide HC).mono ?_
  rintro r z7 ⟨u, rfl, ou, b⟩
  have HB7 := hide (unhide HTR _ _ (unhide HB6) b)
  have HU := hide (sees_of_own ou).2
  obtain ⟨ua3, uc3, rfl⟩ := own_shape ou
  obtain ⟨ul3, hul3⟩ : ∃ n, zs.length = n := ⟨_, rfl⟩
  rw [hul3] at HU
  rw [hul3]
  clear hul3
  clear b ou HC ow HXA HXB HSS HCS HCO HRD HFT
  have HQ := hide (equal_any _ _ zs zs z7 (unhide HU) ((unhide HS).below (unhide HBW _ (unhide HB7))) (unhide HBY) (unhide HBY))
  simp only [decide_true] at HQ
  clear HU
  go_wp2_with fail
  refine (unhide HQ).mono ?_
  rintro r _ ⟨rfl, rfl⟩
  clear HQ
  have HS1 := hide ((unhide HS).below (unhide HBW _ (unhide HB7)))
  have HC := hide (Unmarshal_any _ zs z7 (unhide HS1) (unhide HBY) (by have := unhide HL; omega))
  have HRD := hide (unm_fit (unhide HBY))
  obtain ⟨ue, ed, hue⟩ : ∃ a b, unm zs = (a, b) := ⟨_, _, rfl⟩
  have hed := unhide HDD
  rw [hue] at HC hed
  rw [hue] at HRD
  simp only at HC hed
  have hedb : (ed == 0) = false := by simpa using hed
  clear hue
  go_wp2_with fail
  refine (unhide HC).mono ?_
  rintro r z8 ⟨cs, rfl, ow, b⟩
  have HB8 := hide (unhide HTR _ _ (unhide HB7) b)
  clear b HC HS1
  have HCS : Hid (cs.size = 17) := ow.size
  have HCO : Hid (cs.all (·.oneCell') = true) := ow.one
  have hse := ow.sees (unhide HRD).2
  have hal : Below z8.heap.size z8 (z8.alloc (.cells #[.int .i64 0, .int .i64 0, .int .i64 0, .int .i64 0, .int .i64 0, .int .i64 0, .int .i64 0, .bool false, .slice none 0 0, .int .i64 0, .int .i64 0, .int .i64 0, .slice none 0 0, .int .i64 0, .int .i64 0, .int .i64 0, .slice none 0 0] 30)) := (Below.refl _ _).alloc (Nat.le_refl _) _
  have hxa : (z8.alloc (.cells #[.int .i64 0, .int .i64 0, .int .i64 0, .int .i64 0, .int .i64 0, .int .i64 0, .int .i64 0, .bool false, .slice none 0 0, .int .i64 0, .int .i64 0, .int .i64 0, .slice none 0 0, .int .i64 0, .int .i64 0, .int .i64 0, .slice none 0 0] 30)).heap[z8.heap.size]? = some (.cells #[.int .i64 0, .int .i64 0, .int .i64 0, .int .i64 0, .int .i64 0, .int .i64 0, .int .i64 0, .bool false, .slice none 0 0, .int .i64 0, .int .i64 0, .int .i64 0, .slice none 0 0, .int .i64 0, .int .i64 0, .int .i64 0, .slice none 0 0] 30) := heap_alloc_new z8 _
  obtain ⟨zaD, hzaD⟩ : ∃ y, z8.alloc (.cells #[.int .i64 0, .int .i64 0, .int .i64 0, .int .i64 0, .int .i64 0, .int .i64 0, .int .i64 0, .bool false, .slice none 0 0, .int .i64 0, .int .i64 0, .int .i64 0, .slice none 0 0, .int .i64 0, .int .i64 0, .int .i64 0, .slice none 0 0] 30) = y := ⟨_, rfl⟩
  rw [hzaD] at hal hxa
  have hbb := below_setRow hal (cs := cs) (g := z8.heap.size) (Nat.le_refl _)
  have hxb := setRow_heap zaD z8.heap.size _ cs 30 (0, 0) hxa
  obtain ⟨XD, hXD⟩ : ∃ n, z8.heap.size = n := ⟨_, rfl⟩
  have hs2 := hse.below hbb
  have hbn := unhide HTR _ _ (unhide HB8) hbb
  rw [hXD] at hxa hxb hs2 hbn
  obtain ⟨z9, hz9⟩ : ∃ y, zaD.setRow XD cs = y := ⟨_, rfl⟩
  rw [hz9] at hxb hs2 hbn
  have HXA := hide hxa
  have HXB := hide hxb
  have HSS := hide hs2
  have HB9 := hide hbn
  clear hse hal hxa hbb hxb hs2 hbn
  clear ow HXB HSS HRD
  have HF := hide (unhide HBW _ (unhide HB9))
  go_wp2_with (first | rw [hzaD] | rw [hz9] | rw [hXD] | refine wpList_store_row rfl 30 _ _ rfl XD _ _ rfl rfl 30 (unhide HXA) (by rw [unhide HCS]; kernel_rfl) (by rw [unhide HCS]; rfl) (unhide HCO) ?_)
  go_ret
  exact ⟨rfl, unhide HF⟩

end Go.Proofs.YtggllgimlfchhabGreat
