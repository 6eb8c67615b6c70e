/- RecordReads: the walk. -/
import Derived.Test.YtggllgimlfchhaaGreatKI
import Derived.Test.YtggllgimlfchhaaGreatKZ30
namespace Go.Proofs.YtggllgimlfchhaaGreat
open Go.RowKit
set_option maxRecDepth 100000

set_option maxHeartbeats 3200000 in
theorem recordReads_walk {w : World} {ba : Option Addr} {bl bc : Nat} {xk xf xn : Int} {XL : List TxnD} {aK aF aO aT aS aL aC ek ef en ps pi pm : Int} {aY : Bool} {LL : List TmD} {LT : List TxnD} {LD : List Int} {E1 E2 : Int} (rx : ReadE ⟨xk, xf, xn, XL⟩) (rm : ReadM ⟨aK, aF, aO, aT, aS, aL, aC, aY, LL, ⟨ek, ef, en, LT⟩, ⟨ps, pi, pm, LD⟩⟩)
    (h20 : ∀ y, Below w.heap.size w y → Calls Tryz.prog 20 #[.slice ba bl bc] y fun e w' => ∃ cs, e = .returned (.tuple #[.agg cs, .int .i64 E1]) ∧ OwnE y.heap.size w' cs ⟨xk, xf, xn, XL⟩ ∧ Below y.heap.size y w') (h21 : ∀ y, Below w.heap.size w y → Calls Tryz.prog 21 #[.slice ba bl bc] y fun e w' => ∃ cs, e = .returned (.tuple #[.agg cs, .int .i64 E1]) ∧ OwnE y.heap.size w' cs ⟨xk, xf, xn, XL⟩ ∧ Below y.heap.size y w') (h22 : ∀ y, Below w.heap.size w y → Calls Tryz.prog 22 #[.slice ba bl bc] y fun e w' => ∃ cs, e = .returned (.tuple #[.agg cs, .int .i64 E2]) ∧ OwnM y.heap.size w' cs ⟨aK, aF, aO, aT, aS, aL, aC, aY, LL, ⟨ek, ef, en, LT⟩, ⟨ps, pi, pm, LD⟩⟩ ∧ Below y.heap.size y w') (h23 : ∀ y, Below w.heap.size w y → Calls Tryz.prog 23 #[.slice ba bl bc] y fun e w' => ∃ cs, e = .returned (.tuple #[.agg cs, .int .i64 E2]) ∧ OwnM y.heap.size w' cs ⟨aK, aF, aO, aT, aS, aL, aC, aY, LL, ⟨ek, ef, en, LT⟩, ⟨ps, pi, pm, LD⟩⟩ ∧ Below y.heap.size y w') :
    Calls Tryz.prog 5 #[.slice ba bl bc] w fun e w' => e = .returned (.bool true) ∧ Below w.heap.size w w' := by
  have HRX := hide rx
  have HRM := hide rm
  have H21 := hide h21
  have H22 := hide h22
  have H23 := hide h23
  have HC1 := hide (h20 w (Below.refl _ _))
  obtain ⟨xl, hxl⟩ : ∃ n, XL.length = n := ⟨_, rfl⟩
  obtain ⟨ll, hll⟩ : ∃ n, LL.length = n := ⟨_, rfl⟩
  obtain ⟨tl, htl⟩ : ∃ n, LT.length = n := ⟨_, rfl⟩
  obtain ⟨dl, hdl⟩ : ∃ n, LD.length = n := ⟨_, rfl⟩
  have HXL := hide hxl
  have HLL := hide hll
  have HTL := hide htl
  have HDL := hide hdl
  clear rx rm h20 h21 h22 h23 hxl hll htl hdl
  go_enter Tryz.func5, Tryz.ntmps5
  go_wp2_with fail
  refine (unhide HC1).mono ?_
  rintro e y1 ⟨cs, rfl, ow, hb⟩
  have hse : SeesE y1 cs ⟨xk, xf, xn, XL⟩ := by obtain ⟨tv, rfl, ot⟩ := ow; exact ⟨tv, rfl, ot.sees (unhide HRX).1 (unhide HRX).2⟩
  obtain ⟨tv, rfl, ot⟩ := ow
  obtain ⟨ta1, tc1, rfl⟩ := ot.shape
  simp only at hse ot ⊢
  rw [unhide HXL] at hse
  rw [unhide HXL]
  clear ot
  have hal : Below y1.heap.size y1 (y1.alloc (.cells #[.int .i64 0, .int .i64 0, .int .i64 0, .slice none 0 0] 29)) := (Below.refl _ _).alloc (Nat.le_refl _) _
  have hxa : (y1.alloc (.cells #[.int .i64 0, .int .i64 0, .int .i64 0, .slice none 0 0] 29)).heap[y1.heap.size]? = some (.cells #[.int .i64 0, .int .i64 0, .int .i64 0, .slice none 0 0] 29) := heap_alloc_new y1 _
  obtain ⟨za1, hza1⟩ : ∃ y, y1.alloc (.cells #[.int .i64 0, .int .i64 0, .int .i64 0, .slice none 0 0] 29) = y := ⟨_, rfl⟩
  rw [hza1] at hal hxa
  have hbb := below_setRow hal (cs := #[.int .i64 xk, .int .i64 xf, .int .i64 xn, .slice ta1 xl tc1]) (g := y1.heap.size) (Nat.le_refl _)
  have hxb := setRow_heap za1 y1.heap.size _ #[.int .i64 xk, .int .i64 xf, .int .i64 xn, .slice ta1 xl tc1] 29 (0, 0) hxa
  obtain ⟨X1, hX1⟩ : ∃ n, y1.heap.size = n := ⟨_, rfl⟩
  have hs2 := hse.below hbb
  rw [hX1] at hxa hxb
  have hbp : Below w.heap.size w (za1.setRow y1.heap.size #[.int .i64 xk, .int .i64 xf, .int .i64 xn, .slice ta1 xl tc1]) := hb.trans (hbb.mono hb.size)
  rw [hX1] at hs2 hbp
  obtain ⟨zb1, hzb1⟩ : ∃ y, za1.setRow X1 #[.int .i64 xk, .int .i64 xf, .int .i64 xn, .slice ta1 xl tc1] = y := ⟨_, rfl⟩
  rw [hzb1] at hxb hs2 hbp
  have HXA := hide hxa
  have HXB1 := hide hxb
  have HS1 := hide hs2
  have HB1 : Hid (Below w.heap.size w zb1) := hbp
  have HC2 := hide (unhide H21 _ (unhide HB1))
  clear hse hb hal hxa hbb hxb hs2 hbp HC1 H21
  go_wp2_with (first | rw [hza1] | rw [hzb1] | rw [hX1] | refine wpList_store_row rfl 29 _ _ rfl X1 _ _ rfl rfl 29 (unhide HXA) (by kernel_rfl) rfl (by first | kernel_rfl | simp [Value.oneCell']) ?_)
  refine (unhide HC2).mono ?_
  rintro e y2 ⟨cs, rfl, ow, hb⟩
  have hse : SeesE y2 cs ⟨xk, xf, xn, XL⟩ := by obtain ⟨tv, rfl, ot⟩ := ow; exact ⟨tv, rfl, ot.sees (unhide HRX).1 (unhide HRX).2⟩
  obtain ⟨tv, rfl, ot⟩ := ow
  obtain ⟨ta2, tc2, rfl⟩ := ot.shape
  simp only at hse ot ⊢
  rw [unhide HXL] at hse
  rw [unhide HXL]
  clear ot
  have hal : Below y2.heap.size y2 (y2.alloc (.cells #[.int .i64 0, .int .i64 0, .int .i64 0, .slice none 0 0] 29)) := (Below.refl _ _).alloc (Nat.le_refl _) _
  have hxa : (y2.alloc (.cells #[.int .i64 0, .int .i64 0, .int .i64 0, .slice none 0 0] 29)).heap[y2.heap.size]? = some (.cells #[.int .i64 0, .int .i64 0, .int .i64 0, .slice none 0 0] 29) := heap_alloc_new y2 _
  obtain ⟨za2, hza2⟩ : ∃ y, y2.alloc (.cells #[.int .i64 0, .int .i64 0, .int .i64 0, .slice none 0 0] 29) = y := ⟨_, rfl⟩
  rw [hza2] at hal hxa
  have hbb := below_setRow hal (cs := #[.int .i64 xk, .int .i64 xf, .int .i64 xn, .slice ta2 xl tc2]) (g := y2.heap.size) (Nat.le_refl _)
  have hxb := setRow_heap za2 y2.heap.size _ #[.int .i64 xk, .int .i64 xf, .int .i64 xn, .slice ta2 xl tc2] 29 (0, 0) hxa
  obtain ⟨X2, hX2⟩ : ∃ n, y2.heap.size = n := ⟨_, rfl⟩
  have hs2 := hse.below hbb
  rw [hX2] at hxa hxb
  have hbp : Below zb1.heap.size zb1 (za2.setRow y2.heap.size #[.int .i64 xk, .int .i64 xf, .int .i64 xn, .slice ta2 xl tc2]) := hb.trans (hbb.mono hb.size)
  rw [hX2] at hs2 hbp
  obtain ⟨zb2, hzb2⟩ : ∃ y, za2.setRow X2 #[.int .i64 xk, .int .i64 xf, .int .i64 xn, .slice ta2 xl tc2] = y := ⟨_, rfl⟩
  rw [hzb2] at hxb hs2 hbp
  have HXA := hide hxa
  have HXB2 := hide hxb
  have HS2 := hide hs2
  have HXB1 := hide ((hbp.block _ (Array.getElem?_eq_some_iff.1 (unhide HXB1)).1).trans (unhide HXB1))
  have HS1 := hide ((unhide HS1).below hbp)
  have HB2 : Hid (Below w.heap.size w zb2) := (unhide HB1).trans (hbp.mono (unhide HB1).size)
  have HC3 := hide (unhide H22 _ (unhide HB2))
  clear hse hb hal hxa hbb hxb hs2 hbp HC2 H22 HB1
  go_wp2_with (first | rw [hza2] | rw [hzb2] | rw [hX2] | refine wpList_store_row rfl 29 _ _ rfl X2 _ _ rfl rfl 29 (unhide HXA) (by kernel_rfl) rfl (by first | kernel_rfl | simp [Value.oneCell']) ?_)
  refine (unhide HC3).mono ?_
  rintro e y3 ⟨cs, rfl, ow, hb⟩
  have hse : SeesM y3 cs ⟨aK, aF, aO, aT, aS, aL, aC, aY, LL, ⟨ek, ef, en, LT⟩, ⟨ps, pi, pm, LD⟩⟩ := ow.sees (unhide HRM)
  obtain ⟨lv, tv, dv, rfl, o1, o2, o3⟩ := ow
  obtain ⟨la3, lc3, rfl⟩ := o1.shape
  obtain ⟨ta3, tc3, rfl⟩ := o2.shape
  obtain ⟨da3, dc3, rfl⟩ := own_shape o3
  simp only at hse ⊢
  rw [unhide HLL, unhide HTL, unhide HDL] at hse
  rw [unhide HLL, unhide HTL, unhide HDL]
  clear o1 o2 o3
  have hal : Below y3.heap.size y3 (y3.alloc (.cells #[.int .i64 0, .int .i64 0, .int .i64 0, .int .i64 0, .int .i64 0, .int .i64 0, .int .i64 0, .bool false, .slice none 0 0, .int .i64 0, .int .i64 0, .int .i64 0, .slice none 0 0, .int .i64 0, .int .i64 0, .int .i64 0, .slice none 0 0] 34)) := (Below.refl _ _).alloc (Nat.le_refl _) _
  have hxa : (y3.alloc (.cells #[.int .i64 0, .int .i64 0, .int .i64 0, .int .i64 0, .int .i64 0, .int .i64 0, .int .i64 0, .bool false, .slice none 0 0, .int .i64 0, .int .i64 0, .int .i64 0, .slice none 0 0, .int .i64 0, .int .i64 0, .int .i64 0, .slice none 0 0] 34)).heap[y3.heap.size]? = some (.cells #[.int .i64 0, .int .i64 0, .int .i64 0, .int .i64 0, .int .i64 0, .int .i64 0, .int .i64 0, .bool false, .slice none 0 0, .int .i64 0, .int .i64 0, .int .i64 0, .slice none 0 0, .int .i64 0, .int .i64 0, .int .i64 0, .slice none 0 0] 34) := heap_alloc_new y3 _
  obtain ⟨za3, hza3⟩ : ∃ y, y3.alloc (.cells #[.int .i64 0, .int .i64 0, .int .i64 0, .int .i64 0, .int .i64 0, .int .i64 0, .int .i64 0, .bool false, .slice none 0 0, .int .i64 0, .int .i64 0, .int .i64 0, .slice none 0 0, .int .i64 0, .int .i64 0, .int .i64 0, .slice none 0 0] 34) = y := ⟨_, rfl⟩
  rw [hza3] at hal hxa
  have hbb := below_setRow hal (cs := #[.int .i64 aK, .int .i64 aF, .int .i64 aO, .int .i64 aT, .int .i64 aS, .int .i64 aL, .int .i64 aC, .bool aY, .slice la3 ll lc3, .int .i64 ek, .int .i64 ef, .int .i64 en, .slice ta3 tl tc3, .int .i64 ps, .int .i64 pi, .int .i64 pm, .slice da3 dl dc3]) (g := y3.heap.size) (Nat.le_refl _)
  have hxb := setRow_heap za3 y3.heap.size _ #[.int .i64 aK, .int .i64 aF, .int .i64 aO, .int .i64 aT, .int .i64 aS, .int .i64 aL, .int .i64 aC, .bool aY, .slice la3 ll lc3, .int .i64 ek, .int .i64 ef, .int .i64 en, .slice ta3 tl tc3, .int .i64 ps, .int .i64 pi, .int .i64 pm, .slice da3 dl dc3] 34 (0, 0) hxa
  obtain ⟨X3, hX3⟩ : ∃ n, y3.heap.size = n := ⟨_, rfl⟩
  have hs2 := hse.below hbb
  rw [hX3] at hxa hxb
  have hbp : Below zb2.heap.size zb2 (za3.setRow y3.heap.size #[.int .i64 aK, .int .i64 aF, .int .i64 aO, .int .i64 aT, .int .i64 aS, .int .i64 aL, .int .i64 aC, .bool aY, .slice la3 ll lc3, .int .i64 ek, .int .i64 ef, .int .i64 en, .slice ta3 tl tc3, .int .i64 ps, .int .i64 pi, .int .i64 pm, .slice da3 dl dc3]) := hb.trans (hbb.mono hb.size)
  rw [hX3] at hs2 hbp
  obtain ⟨zb3, hzb3⟩ : ∃ y, za3.setRow X3 #[.int .i64 aK, .int .i64 aF, .int .i64 aO, .int .i64 aT, .int .i64 aS, .int .i64 aL, .int .i64 aC, .bool aY, .slice la3 ll lc3, .int .i64 ek, .int .i64 ef, .int .i64 en, .slice ta3 tl tc3, .int .i64 ps, .int .i64 pi, .int .i64 pm, .slice da3 dl dc3] = y := ⟨_, rfl⟩
  rw [hzb3] at hxb hs2 hbp
  have HXA := hide hxa
  have HXB3 := hide hxb
  have HS3 := hide hs2
  have HXB1 := hide ((hbp.block _ (Array.getElem?_eq_some_iff.1 (unhide HXB1)).1).trans (unhide HXB1))
  have HS1 := hide ((unhide HS1).below hbp)
  have HXB2 := hide ((hbp.block _ (Array.getElem?_eq_some_iff.1 (unhide HXB2)).1).trans (unhide HXB2))
  have HS2 := hide ((unhide HS2).below hbp)
  have HB3 : Hid (Below w.heap.size w zb3) := (unhide HB2).trans (hbp.mono (unhide HB2).size)
  have HC4 := hide (unhide H23 _ (unhide HB3))
  clear hse hb hal hxa hbb hxb hs2 hbp HC3 H23 HB2
  go_wp2_with (first | rw [hza3] | rw [hzb3] | rw [hX3] | refine wpList_store_row rfl 34 _ _ rfl X3 _ _ rfl rfl 34 (unhide HXA) (by kernel_rfl) rfl (by first | kernel_rfl | simp [Value.oneCell']) ?_)
  refine (unhide HC4).mono ?_
  rintro e y4 ⟨cs, rfl, ow, hb⟩
  have hse : SeesM y4 cs ⟨aK, aF, aO, aT, aS, aL, aC, aY, LL, ⟨ek, ef, en, LT⟩, ⟨ps, pi, pm, LD⟩⟩ := ow.sees (unhide HRM)
  obtain ⟨lv, tv, dv, rfl, o1, o2, o3⟩ := ow
  obtain ⟨la4, lc4, rfl⟩ := o1.shape
  obtain ⟨ta4, tc4, rfl⟩ := o2.shape
  obtain ⟨da4, dc4, rfl⟩ := own_shape o3
  simp only at hse ⊢
  rw [unhide HLL, unhide HTL, unhide HDL] at hse
  rw [unhide HLL, unhide HTL, unhide HDL]
  clear o1 o2 o3
  have hal : Below y4.heap.size y4 (y4.alloc (.cells #[.int .i64 0, .int .i64 0, .int .i64 0, .int .i64 0, .int .i64 0, .int .i64 0, .int .i64 0, .bool false, .slice none 0 0, .int .i64 0, .int .i64 0, .int .i64 0, .slice none 0 0, .int .i64 0, .int .i64 0, .int .i64 0, .slice none 0 0] 34)) := (Below.refl _ _).alloc (Nat.le_refl _) _
  have hxa : (y4.alloc (.cells #[.int .i64 0, .int .i64 0, .int .i64 0, .int .i64 0, .int .i64 0, .int .i64 0, .int .i64 0, .bool false, .slice none 0 0, .int .i64 0, .int .i64 0, .int .i64 0, .slice none 0 0, .int .i64 0, .int .i64 0, .int .i64 0, .slice none 0 0] 34)).heap[y4.heap.size]? = some (.cells #[.int .i64 0, .int .i64 0, .int .i64 0, .int .i64 0, .int .i64 0, .int .i64 0, .int .i64 0, .bool false, .slice none 0 0, .int .i64 0, .int .i64 0, .int .i64 0, .slice none 0 0, .int .i64 0, .int .i64 0, .int .i64 0, .slice none 0 0] 34) := heap_alloc_new y4 _
  obtain ⟨za4, hza4⟩ : ∃ y, y4.alloc (.cells #[.int .i64 0, .int .i64 0, .int .i64 0, .int .i64 0, .int .i64 0, .int .i64 0, .int .i64 0, .bool false, .slice none 0 0, .int .i64 0, .int .i64 0, .int .i64 0, .slice none 0 0, .int .i64 0, .int .i64 0, .int .i64 0, .slice none 0 0] 34) = y := ⟨_, rfl⟩
  rw [hza4] at hal hxa
  have hbb := below_setRow hal (cs := #[.int .i64 aK, .int .i64 aF, .int .i64 aO, .int .i64 aT, .int .i64 aS, .int .i64 aL, .int .i64 aC, .bool aY, .slice la4 ll lc4, .int .i64 ek, .int .i64 ef, .int .i64 en, .slice ta4 tl tc4, .int .i64 ps, .int .i64 pi, .int .i64 pm, .slice da4 dl dc4]) (g := y4.heap.size) (Nat.le_refl _)
  have hxb := setRow_heap za4 y4.heap.size _ #[.int .i64 aK, .int .i64 aF, .int .i64 aO, .int .i64 aT, .int .i64 aS, .int .i64 aL, .int .i64 aC, .bool aY, .slice la4 ll lc4, .int .i64 ek, .int .i64 ef, .int .i64 en, .slice ta4 tl tc4, .int .i64 ps, .int .i64 pi, .int .i64 pm, .slice da4 dl dc4] 34 (0, 0) hxa
  obtain ⟨X4, hX4⟩ : ∃ n, y4.heap.size = n := ⟨_, rfl⟩
  have hs2 := hse.below hbb
  rw [hX4] at hxa hxb
  have hbp : Below zb3.heap.size zb3 (za4.setRow y4.heap.size #[.int .i64 aK, .int .i64 aF, .int .i64 aO, .int .i64 aT, .int .i64 aS, .int .i64 aL, .int .i64 aC, .bool aY, .slice la4 ll lc4, .int .i64 ek, .int .i64 ef, .int .i64 en, .slice ta4 tl tc4, .int .i64 ps, .int .i64 pi, .int .i64 pm, .slice da4 dl dc4]) := hb.trans (hbb.mono hb.size)
  rw [hX4] at hs2 hbp
  obtain ⟨zb4, hzb4⟩ : ∃ y, za4.setRow X4 #[.int .i64 aK, .int .i64 aF, .int .i64 aO, .int .i64 aT, .int .i64 aS, .int .i64 aL, .int .i64 aC, .bool aY, .slice la4 ll lc4, .int .i64 ek, .int .i64 ef, .int .i64 en, .slice ta4 tl tc4, .int .i64 ps, .int .i64 pi, .int .i64 pm, .slice da4 dl dc4] = y := ⟨_, rfl⟩
  rw [hzb4] at hxb hs2 hbp
  have HXA := hide hxa
  have HXB4 := hide hxb
  have HS4 := hide hs2
  have HXB1 := hide ((hbp.block _ (Array.getElem?_eq_some_iff.1 (unhide HXB1)).1).trans (unhide HXB1))
  have HS1 := hide ((unhide HS1).below hbp)
  have HXB2 := hide ((hbp.block _ (Array.getElem?_eq_some_iff.1 (unhide HXB2)).1).trans (unhide HXB2))
  have HS2 := hide ((unhide HS2).below hbp)
  have HXB3 := hide ((hbp.block _ (Array.getElem?_eq_some_iff.1 (unhide HXB3)).1).trans (unhide HXB3))
  have HS3 := hide ((unhide HS3).below hbp)
  have HB4 : Hid (Below w.heap.size w zb4) := (unhide HB3).trans (hbp.mono (unhide HB3).size)
  clear hse hb hal hxa hbb hxb hs2 hbp HC4 HB3
  go_wp2_with (first | rw [hza4] | rw [hzb4] | rw [hX4] | refine wpList_store_row rfl 34 _ _ rfl X4 _ _ rfl rfl 34 (unhide HXA) (by kernel_rfl) rfl (by first | kernel_rfl | simp [Value.oneCell']) ?_)
  refine (begun_any _).mono ?_
  rintro r zE ⟨rfl, bE⟩
  have HX1 := hide ((bE.block _ (Array.getElem?_eq_some_iff.1 (unhide HXB1)).1).trans (unhide HXB1))
  have HX2 := hide ((bE.block _ (Array.getElem?_eq_some_iff.1 (unhide HXB2)).1).trans (unhide HXB2))
  have HX3 := hide ((bE.block _ (Array.getElem?_eq_some_iff.1 (unhide HXB3)).1).trans (unhide HXB3))
  have HX4 := hide ((bE.block _ (Array.getElem?_eq_some_iff.1 (unhide HXB4)).1).trans (unhide HXB4))
  have HQ1 := hide (refSameEntry_any _ _ _ _ zE ((unhide HS1).below bE) ((unhide HS2).below bE) (unhide HRX).ok (unhide HRX).ok)
  have HS3 := hide ((unhide HS3).below bE)
  have HS4 := hide ((unhide HS4).below bE)
  simp only [decide_true] at HQ1
  have HBZ : Hid (Below w.heap.size w zE) := (unhide HB4).trans (bE.mono (unhide HB4).size)
  clear bE HXB1 HXB2 HXB3 HXB4 HS1 HS2
  go_wp2_with (first | refine wpList_load_wanted (by rfl) 29 _ rfl X1 rfl 29 _ (0, 0) _ (unhide HX1) Tryz.underlying29 rfl (by kernel_rfl) ?_ | refine wpList_load_wanted (by rfl) 29 _ rfl X2 rfl 29 _ (0, 0) _ (unhide HX2) Tryz.underlying29 rfl (by kernel_rfl) ?_)
  refine (unhide HQ1).mono ?_
  rintro r zF ⟨rfl, bF⟩
  have HX3 := hide ((bF.block _ (Array.getElem?_eq_some_iff.1 (unhide HX3)).1).trans (unhide HX3))
  have HX4 := hide ((bF.block _ (Array.getElem?_eq_some_iff.1 (unhide HX4)).1).trans (unhide HX4))
  have HQ2 := hide (refSameMsg_any _ _ _ _ zF ((unhide HS3).below bF) ((unhide HS4).below bF) (unhide HRM).ok (unhide HRM).ok)
  simp only [decide_true] at HQ2
  have HBF : Hid (Below w.heap.size w zF) := (unhide HBZ).trans (bF.mono (unhide HBZ).size)
  clear bF HS3 HS4 HQ1
  go_wp2_with (first | refine wpList_load_wanted (by rfl) 34 _ rfl X3 rfl 34 _ (0, 0) _ (unhide HX3) Tryz.underlying34 rfl (by kernel_rfl) ?_ | refine wpList_load_wanted (by rfl) 34 _ rfl X4 rfl 34 _ (0, 0) _ (unhide HX4) Tryz.underlying34 rfl (by kernel_rfl) ?_)
  refine (unhide HQ2).mono ?_
  rintro r zG ⟨rfl, bG⟩
  have HF : Hid (Below w.heap.size w zG) := (unhide HBF).trans (bG.mono (unhide HBF).size)
  clear bG HQ2
  go_wp2_with fail
  go_ret
  exact ⟨rfl, unhide HF⟩
theorem takeE_read {zs : List Int} (h : Byt zs) : ReadE (takeE zs).1 := by
  unfold takeE
  simp only
  split
  · exact (entry_byt (s := ⟨zs, 0, false⟩) h).2
  · exact read0
theorem unm_read {zs : List Int} (h : Byt zs) : ReadM (unm zs).1 := by
  have hz : ReadM dG := ⟨by simp [dG], (fun t ht => by cases ht), read0, byt_nil⟩
  unfold unm
  split
  · exact hz
  split
  · exact hz
  unfold finM
  split
  · exact (msg_byt (s := ⟨(tu zs).1, 0, false⟩) (tu_byt h)).1
  · exact hz
theorem recordReads_walk2 (bv : Value) (zs : List Int) (W : World) (hs : Sees W .u8 bv zs) (hby : Byt zs) (hm : zs.length ≤ 140737488351232) :
    Calls Tryz.prog 5 #[bv] W fun e w' => e = .returned (.bool true) ∧ Below W.heap.size W w' := by
  have c20 := fun y (hb : Below W.heap.size W y) => TakeEntry_any bv zs y (hs.below hb) hby hm
  have c21 := fun y (hb : Below W.heap.size W y) => dtakeE_same zs ▸ refTakeEntry_any bv zs y (hs.below hb) hby hm
  have c22 := fun y (hb : Below W.heap.size W y) => Unmarshal_any bv zs y (hs.below hb) hby (by omega)
  have c23 := fun y (hb : Below W.heap.size W y) => dunm_same zs ▸ refUnmarshal_any bv zs y (hs.below hb) hby (by omega)
  have r1 := takeE_read hby
  have r2 := unm_read hby
  obtain ⟨ao, cap, rfl, _⟩ := hs
  generalize takeE zs = te at c20 c21 r1
  generalize unm zs = um at c22 c23 r2
  obtain ⟨⟨xk, xf, xn, XL⟩, E1⟩ := te
  obtain ⟨⟨aK, aF, aO, aT, aS, aL, aC, aY, LL, ⟨ek, ef, en, LT⟩, ⟨ps, pi, pm, LD⟩⟩, E2⟩ := um
  exact recordReads_walk r1 r2 c20 c21 c22 c23
end Go.Proofs.YtggllgimlfchhaaGreat
