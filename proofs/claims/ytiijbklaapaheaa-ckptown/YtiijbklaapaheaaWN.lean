/- CkptOwn: the walk. -/
import Derived.Test.YtiijbklaapaheaaKF
import Derived.Test.YtiijbklaapaheaaHP
import Derived.Test.YtiijbklaapaheaaKG
import Derived.Test.YtiijbklaapaheaaED
namespace Go.Proofs.Ytiijbklaapaheaa
open Go.RowKit
set_option maxRecDepth 100000

/-- A Save with nothing in the way, on a flash of four blocks. -/
theorem sav_keeps {F : Fl} (h : Fine F) (hs : Sm F) (h4 : F.n = 4) (slot last : Int) (ds : List Int) (hby : Byt ds) :
    Fine (sav F 0 4 slot last ds).2 ∧ Sm (sav F 0 4 slot last ds).2 ∧ (sav F 0 4 slot last ds).2.n = 4 ∧
    ((sav F 0 4 slot last ds).1 ≠ 0 ∨ (0 < (nwk (sav F 0 4 slot last ds).2 0 2 2).ck.num ∧ (nwk (sav F 0 4 slot last ds).2 0 2 2).ck.slot = slot ∧ (nwk (sav F 0 4 slot last ds).2 0 2 2).ck.last = last ∧ (nwk (sav F 0 4 slot last ds).2 0 2 2).ck.data = ds)) := by
  have hsm := hs.sav 0 4 slot last ds
  rcases sav_fine h 0 4 (by rw [h4]; decide) (by rw [h4]; decide) slot last ds hby with ⟨h1, h2⟩ | ⟨h1, h2, h3, h4', h5, h6⟩
  · rw [show ((0 : Nat) : Int) = 0 from rfl, show ((4 : Nat) : Int) = 4 from rfl] at h1 h2
    exact ⟨by rw [h2]; exact h, hsm, by rw [h2]; exact h4, Or.inl h1⟩
  · rw [show ((0 : Nat) : Int) = 0 from rfl, show ((4 : Nat) : Int) = 4 from rfl] at h5 h6
    obtain ⟨n0, _, a0, _⟩ := nwk_num F 0 2 2
    have ht : toH (nwk F 0 2 2) = 0 ∨ toH (nwk F 0 2 2) = 1 := by
      unfold toH
      split
      · omega
      · exact Or.inl rfl
    have hk := wrtH_ok h (0 + toH (nwk F 0 (4 / 2) 2) * (4 / 2)) (4 / 2) (ckB ((nwk F 0 (4 / 2) 2).ck.num + 1) slot last ds) (by rw [h4]; show 0 + toH (nwk F 0 2 2) * 2 + 2 ≤ 4; omega) h4'
    rw [← h5] at hk
    refine ⟨hk.2.1, hsm, hk.2.2.1.trans h4, Or.inr ?_⟩
    have h6' : nwk (sav F 0 4 slot last ds).2 0 2 2 = ⟨(toH (nwk F 0 2 2) : Nat), ⟨(nwk F 0 2 2).ck.num + 1, slot, last, ds, 0⟩⟩ := h6
    rw [h6']
    exact ⟨by show (0 : Int) < _ + 1; omega, rfl, rfl, rfl⟩

theorem nwk_byt (F : Fl) (f m : Nat) : Byt (nwk F f m 2).ck.data := by
  have st : ∀ (b : Bst) (i : Int) (c : Ck), Byt b.ck.data → Byt c.data → Byt (b.step i c).ck.data := fun b i c h1 h2 => by
    unfold Bst.step; split
    · exact h2
    · exact h1
  rw [nwk_two]
  exact st _ _ _ (st _ _ _ (fun b hb => by cases hb) (dec_byt (rdL_byt _ _ _))) (dec_byt (rdL_byt _ _ _))

set_option maxHeartbeats 3200000 in
theorem own_walk (slot last : Int) (ao : Option Addr) (cap : Nat) (ds : List Int) (w : World) (hd : Sees w .u8 (.slice ao ds.length cap) ds) (hdb : Byt ds) (hdl : ds.length ≤ 140737488355328)
    (HBG : ∀ w : World, Calls Try.prog 12 #[] w fun e w' => e = .returned (.bool true) ∧ Below w.heap.size w w') :
    Calls Try.prog 7 #[.agg #[.int .i64 slot, .int .i64 last, .slice ao ds.length cap]] w fun e w' => e = .returned (.bool true) ∧ Below w.heap.size w w' := by
  obtain ⟨B, hB⟩ : ∃ B, w.alloc (.cells #[.int .i64 slot, .int .i64 last, .slice ao ds.length cap] 24) = B := ⟨_, rfl⟩
  have HBB : Hid (Below w.heap.size w B) := hB ▸ (Below.refl _ _).alloc (Nat.le_refl _) _
  have HSZ : Hid (B.heap.size = w.heap.size + 1) := by show _ = _; rw [← hB]; simp
  have HBX : Hid (∀ x, Below B.heap.size B x → x.cell? ⟨w.heap.size, 0, none⟩ = some (.int .i64 slot) ∧ x.cell? ⟨w.heap.size, 1, none⟩ = some (.int .i64 last) ∧ x.cell? ⟨w.heap.size, 2, none⟩ = some (.slice ao ds.length cap)) := fun x hx => box3 (by rw [hB, ← unhide HSZ]; exact hx)
  have HBG := hide HBG
  obtain ⟨kf, ks, kn, kr⟩ := sav_keeps (F := Fl.blank 4) ⟨rfl, rfl⟩ (sm_blank 4) rfl slot last ds hdb
  have HSV : Hid (∀ x g h fc v, IsFl x g h fc (Fl.blank 4) → Sees x .u8 v ds → Calls Try.prog 18 #[P0 h, .agg #[.int .i64 0, .int .i64 4], .agg #[.int .i64 slot, .int .i64 last, v]] x fun e w' => e = .returned (.int .i64 (sav (Fl.blank 4) 0 4 slot last ds).1) ∧ IsFl w' g h fc (sav (Fl.blank 4) 0 4 slot last ds).2 ∧ Upd (Two g h) x.heap.size x w') := fun x g h fc v hI hv => by
    obtain ⟨va, vc, rfl, _⟩ := id hv
    exact save_any hI (Int.le_refl 0) (by show (0 : Int) ≤ _; decide) (sm_blank 4).hP 0 4 (by decide) slot last va vc ds hv hdb (by omega)
  obtain ⟨er, her⟩ : ∃ er, (sav (Fl.blank 4) 0 4 slot last ds).1 = er := ⟨_, rfl⟩
  obtain ⟨G, hG⟩ : ∃ G, (sav (Fl.blank 4) 0 4 slot last ds).2 = G := ⟨_, rfl⟩
  rw [her, hG] at HSV
  rw [hG] at kf ks kn kr
  rw [her] at kr
  clear her hG
  have HLD : Hid (∀ x g h fc, IsFl x g h fc G → Calls Try.prog 27 #[P0 h, .agg #[.int .i64 0, .int .i64 4]] x fun e w' => ∃ dv, e = .returned (.tuple #[.agg #[.int .i64 (nwk G 0 2 2).ck.slot, .int .i64 (nwk G 0 2 2).ck.last, dv], .bool (decide (0 < (nwk G 0 2 2).ck.num)), .int .i64 0]) ∧ w'.ownsRow x.heap.size 5 1 dv (nwk G 0 2 2).ck.data.length (ints .u8 (nwk G 0 2 2).ck.data) ∧ Below x.heap.size x w') := fun x g h fc hI =>
    load_ok hI ks.hP 0 4 (by rw [kn]; decide) (by rw [kn]; decide) kf.1
  have HCB := hide (nwk_byt G 0 2)
  generalize (nwk G 0 2 2).ck = c at HLD HCB kr
  generalize hdb : decide (0 < c.num) = db at HLD
  have kr' : er ≠ 0 ∨ (db = true ∧ c.slot = slot ∧ c.last = last ∧ c.data = ds) := kr.imp id fun k => ⟨by rw [← hdb]; simp [k.1], k.2⟩
  have KR := hide kr'
  clear kr kr' hdb
  clear kf ks kn
  have HTS : Hid (∀ x : World, Below w.heap.size w x → Sees x .u8 (.slice ao ds.length cap) ds) := fun x hx => hd.below hx
  have HCL : Hid (∀ x : World, Below w.heap.size w x → _) := fun x hx => clone_any (.slice ao ds.length cap) ds x (hd.below hx) (by omega)
  have HDB := hide hdb
  clear hd hdb
  go_enter Try.func7, Try.ntmps7
  go_wp2_with (first | rw [hB] | fail)
  refine (new_ok 4 B (by decide) (by decide)).mono ?_
  rintro e w1 ⟨g, h, fc, rfl, i1, b1, hg, hh⟩
  have HI1 := hide i1
  have HB1 := hide b1
  clear i1 b1
  go_wp2_with fail
  refine (unhide HBG w1).mono ?_
  rintro e w2 ⟨rfl, b2⟩
  have HI2 := hide ((unhide HI1).below b2)
  have HB2 : Hid (Below B.heap.size B w2) := (unhide HB1).trans (b2.mono (unhide HB1).size)
  clear b2 HI1 HB1
  obtain ⟨q2, q3, q4⟩ := unhide HBX w2 (unhide HB2)
  obtain ⟨Y1, hY1⟩ : ∃ Y1, w2.alloc (.cells #[.int .i64 slot, .int .i64 last, .slice ao ds.length cap] 24) = Y1 := ⟨_, rfl⟩
  have bY1 : Below w2.heap.size w2 Y1 := hY1 ▸ (Below.refl _ _).alloc (Nat.le_refl _) _
  have HSY : Hid (Y1.heap.size = w2.heap.size + 1) := by show _ = _; rw [← hY1]; simp
  have HBY1 : Hid (Below B.heap.size B Y1) := (unhide HB2).trans (bY1.mono (unhide HB2).size)
  have HWY1 : Hid (Below w.heap.size w Y1) := (unhide HBB).trans ((unhide HBY1).mono (unhide HBB).size)
  have HIY := hide ((unhide HI2).below bY1)
  have HGH : Hid (g < w2.heap.size ∧ h < w2.heap.size ∧ B.heap.size ≤ w2.heap.size ∧ B.heap.size ≤ g ∧ B.heap.size ≤ h) := ⟨(unhide HI2).glt, (unhide HI2).hlt, (unhide HB2).size, hg, hh⟩
  have HX1 : Hid (∀ x, Below (w2.heap.size + 1) Y1 x → x.cell? ⟨w2.heap.size, 0, none⟩ = some (.int .i64 slot) ∧ x.cell? ⟨w2.heap.size, 1, none⟩ = some (.int .i64 last) ∧ x.cell? ⟨w2.heap.size, 2, none⟩ = some (.slice ao ds.length cap) ∧ ∀ o, x.frozen? ⟨w2.heap.size, o, none⟩ = false) := fun x hx => box3f (by rw [hY1]; exact hx)
  obtain ⟨p2, p3, p4⟩ := unhide HBX Y1 (unhide HBY1)
  clear bY1
  go_wp2_with (first | rw [hY1] | fail)
  refine (unhide HCL Y1 (unhide HWY1)).mono ?_
  rintro e w3 ⟨x, rfl, ho3, b3⟩
  obtain ⟨xa, xc, rfl⟩ := own_shape ho3
  have HW3 : Hid (Below B.heap.size B w3) := (unhide HBY1).trans (b3.mono (unhide HBY1).size)
  have HI3 := hide ((unhide HIY).below b3)
  obtain ⟨c0, c1, c2, cf⟩ := unhide HX1 w3 (by have := unhide HSY; rw [← this]; exact b3)
  have HO3 := hide ho3
  have HS3 : Hid (Y1.heap.size ≤ w3.heap.size) := b3.size
  obtain ⟨Y2, hY2⟩ : ∃ Y2, w3.setCell ⟨w2.heap.size, 2, none⟩ (.slice xa ds.length xc) = Y2 := ⟨_, rfl⟩
  have HSY2 : Hid (Y2.heap.size = w3.heap.size) := by show _ = _; rw [← hY2]; simp [World.setCell]
  have HOY : Hid (Y2.ownsRow Y1.heap.size 5 1 (.slice xa ds.length xc) ds.length (ints .u8 ds)) := hY2 ▸ own_set (unhide HO3) (p := ⟨w2.heap.size, 2, none⟩) (by show w2.heap.size < _; have := unhide HSY; omega) _
  have HIY2 : Hid (IsFl Y2 g h fc (Fl.blank 4)) := hY2 ▸ (unhide HI3).other w2.heap.size 2 _ (by have := (unhide HGH).1; omega) (by have := (unhide HGH).2.1; omega)
  have HWY2 : Hid (Below B.heap.size B Y2) := hY2 ▸ (unhide HW3).setCell (p := ⟨w2.heap.size, 2, none⟩) (unhide HGH).2.2.1 _
  have y0 : Y2.cell? ⟨w2.heap.size, 0, none⟩ = some (.int .i64 slot) := by rw [← hY2, cs_other (addr_ne (Or.inr (by decide)))]; exact c0
  have y1 : Y2.cell? ⟨w2.heap.size, 1, none⟩ = some (.int .i64 last) := by rw [← hY2, cs_other (addr_ne (Or.inr (by decide)))]; exact c1
  have y2 : Y2.cell? ⟨w2.heap.size, 2, none⟩ = some (.slice xa ds.length xc) := by rw [← hY2]; exact cs_same c2
  clear ho3 b3 p2 p3 p4 q2 q3 q4 HI3 HIY
  go_wp2_with (first | rw [hY2] | fail)
  refine (unhide HSV Y2 g h fc _ (unhide HIY2) (sees_of_own (unhide HOY)).2).mono ?_
  rintro e w4 ⟨rfl, i4, u4⟩
  have HB4 := hide (br_own (unhide HOY) (unhide HDB))
  obtain ⟨hnl, gx, hgx, hgx2, br⟩ := unhide HB4
  have hsy := unhide HSY
  have hsy2 := unhide HSY2
  have hgh := unhide HGH
  have hs3 := unhide HS3
  have HBr : Hid (Br w4 gx xa ds.length) := br.upd u4 hgx2 (by show ¬ (gx = g ∨ gx = h); omega)
  have HI4 := hide i4
  have HW4 : Hid (Below B.heap.size B w4) := (unhide HWY2).trans (u4.below (by omega) (fun k hk => by show ¬ (k = g ∨ k = h); omega))
  have HD4 : Hid (w4.cell? ⟨w2.heap.size, 2, none⟩ = some (.slice xa ds.length xc)) := by
    show _ = _
    rw [u4.cell (p := ⟨w2.heap.size, 2, none⟩) (by show w2.heap.size < _; omega) (by show ¬ (w2.heap.size = g ∨ w2.heap.size = h); omega)]; exact y2
  have HGX : Hid (w2.heap.size < gx ∧ w2.heap.size < w4.heap.size) := ⟨by omega, by have := u4.size; omega⟩
  have d2 := unhide HD4
  clear i4 u4 br hsy hsy2 hgh hs3 y0 y1 y2 c0 c1 c2 cf HB4 hgx hgx2
  go_wp2
  go_loopw [40] (fun cc wr => ∃ k : Nat, k ≤ ds.length ∧ cc = .int .i64 k ∧ Br wr gx xa ds.length ∧ Upd (fun b => 0 < ds.length ∧ b = gx) w4.heap.size w4 wr) (fun cc _ => ds.length - (intOf cc).toNat)
  case atStart => exact ⟨0, Nat.zero_le _, rfl, unhide HBr, Upd.refl _ _ _⟩
  case round =>
    obtain ⟨k, hk, rfl, hbr, hu⟩ := hrel
    have d2 : wr.cell? ⟨w2.heap.size, 2, none⟩ = some (.slice xa ds.length xc) := by
      rw [hu.cell (p := ⟨w2.heap.size, 2, none⟩) (unhide HGX).2 (by have := (unhide HGX).1; rintro ⟨_, c⟩; have c : w2.heap.size = gx := c; omega)]; exact unhide HD4
    by_cases hlt : k < ds.length
    · have hbr' := hbr
      rcases hbr with h0 | ⟨rfl, hcell, hfr⟩
      · omega
      obtain ⟨u, u0, u1, hcu⟩ := hcell k hlt
      have hfk := hfr k
      have HRW : Hid (∀ v, 0 ≤ v → v ≤ 255 → Br (wr.setCell ⟨gx, k, none⟩ (.int .u8 v)) gx (some ⟨gx, 0, none⟩) ds.length ∧ Upd (fun b => 0 < ds.length ∧ b = gx) w4.heap.size w4 (wr.setCell ⟨gx, k, none⟩ (.int .u8 v))) := fun v h0 h1 => ⟨hbr'.set hlt hcu v h0 h1, hu.setCell (Or.inl ⟨by omega, rfl⟩) _⟩
      have HX85 := hide (xor85 u u0 u1)
      clear hbr' hcell hfr hu
      go_wp2
      go_roundw
      case rel => exact ⟨k + 1, by omega, by go_num, unhide HRW _ (unhide HX85).1 (unhide HX85).2⟩
      case measure => simp [intOf]; omega
    · have HIr : Hid (IsFl wr g h fc G) := (unhide HI4).upd hu (Nat.le_refl _) (by have := unhide HGX; have := unhide HGH; rintro ⟨_, c⟩; omega) (by have := unhide HGX; have := unhide HGH; rintro ⟨_, c⟩; omega)
      have HWr : Hid (Below B.heap.size B wr) := (unhide HW4).trans (hu.below (unhide HW4).size (fun k hk c => by have := unhide HGX; have := unhide HGH; omega))
      clear hbr hu d2
      obtain ⟨wo, hwo⟩ : ∃ wo, wo = wr := ⟨_, rfl⟩
      subst hwo
      go_wp2_with fail
      refine (unhide HLD wo g h fc (unhide HIr)).mono ?_
      rintro e w5 ⟨dv, rfl, ho5, b5⟩
      obtain ⟨na, nc, rfl⟩ := own_shape ho5
      obtain ⟨W5, hW5⟩ : ∃ W5, w5.alloc (.cells #[.int .i64 c.slot, .int .i64 c.last, .slice na c.data.length nc] 24) = W5 := ⟨_, rfl⟩
      have bW5 : Below w5.heap.size w5 W5 := hW5 ▸ (Below.refl _ _).alloc (Nat.le_refl _) _
      have HSW5 : Hid (W5.heap.size = w5.heap.size + 1) := by show _ = _; rw [← hW5]; simp
      have b5W : Below wo.heap.size wo W5 := b5.trans (bW5.mono b5.size)
      obtain ⟨hnl5, gd, hgd, hgd2, br5⟩ := br_own ho5 (unhide HCB)
      have HBr5 : Hid (Br W5 gd na c.data.length) := br5.upd (Upd.of (S := fun _ => False) bW5) hgd2 (fun h => h)
      have HI5 := hide ((unhide HIr).below b5W)
      have HW5 : Hid (Below B.heap.size B W5) := (unhide HWr).trans (b5W.mono (unhide HWr).size)
      have HX5 : Hid (W5.cell? ⟨w5.heap.size, 2, none⟩ = some (.slice na c.data.length nc)) := (box3 (w := w5) (w1 := W5) (x0 := .int .i64 c.slot) (x1 := .int .i64 c.last) (x2 := .slice na c.data.length nc) (t := 24) (by rw [hW5]; exact Below.refl _ _)).2.2
      have HGD : Hid ((0 < c.data.length → gd < w5.heap.size) ∧ wo.heap.size ≤ gd ∧ wo.heap.size ≤ w5.heap.size) := ⟨hgd2, hgd, b5.size⟩
      have d5 := unhide HX5
      clear bW5 b5W b5 ho5 br5 hgd hgd2
      go_wp2_with (first | rw [hW5] | fail)
      go_loopw [61] (fun cc wq => ∃ k : Nat, k ≤ c.data.length ∧ cc = .int .i64 k ∧ Br wq gd na c.data.length ∧ Upd (fun b => 0 < c.data.length ∧ b = gd) W5.heap.size W5 wq) (fun cc _ => c.data.length - (intOf cc).toNat)
      case atStart => exact ⟨0, Nat.zero_le _, rfl, unhide HBr5, Upd.refl _ _ _⟩
      case round =>
        obtain ⟨k5, hk5, rfl, hbr, hu⟩ := hrel
        have d5 : wr.cell? ⟨w5.heap.size, 2, none⟩ = some (.slice na c.data.length nc) := by
          rw [hu.cell (p := ⟨w5.heap.size, 2, none⟩) (by have := unhide HSW5; show w5.heap.size < _; omega) (by rintro ⟨a, c⟩; have c : w5.heap.size = gd := c; have := (unhide HGD).1 a; omega)]; exact unhide HX5
        by_cases hlt5 : k5 < c.data.length
        · have hbr' := hbr
          rcases hbr with h0 | ⟨rfl, hcell, hfr⟩
          · omega
          obtain ⟨u, u0, u1, hcu⟩ := hcell k5 hlt5
          have hfk := hfr k5
          have HRW : Hid (∀ v, 0 ≤ v → v ≤ 255 → Br (wr.setCell ⟨gd, k5, none⟩ (.int .u8 v)) gd (some ⟨gd, 0, none⟩) c.data.length ∧ Upd (fun b => 0 < c.data.length ∧ b = gd) W5.heap.size W5 (wr.setCell ⟨gd, k5, none⟩ (.int .u8 v))) := fun v h0 h1 => ⟨hbr'.set hlt5 hcu v h0 h1, hu.setCell (Or.inl ⟨by omega, rfl⟩) _⟩
          have HX85 := hide (xor85 u u0 u1)
          clear hbr' hcell hfr hu
          go_wp2
          go_roundw
          case rel => exact ⟨k5 + 1, by omega, by go_num, unhide HRW _ (unhide HX85).1 (unhide HX85).2⟩
          case measure => simp [intOf]; omega
        · have hgd := unhide HGD
          have hgw : g < wo.heap.size ∧ h < wo.heap.size := ⟨(unhide HIr).glt, (unhide HIr).hlt⟩
          have hww := (unhide HWr).size
          have HIq : Hid (IsFl wr g h fc G) := (unhide HI5).upd hu (Nat.le_refl _) (by rintro ⟨_, c⟩; omega) (by rintro ⟨_, c⟩; omega)
          have HWq : Hid (Below B.heap.size B wr) := (unhide HW5).trans (hu.below (unhide HW5).size (fun k hk c => by omega))
          clear hbr hu d5 hgd hgw hww
          go_wp2_with fail
          refine (unhide HLD wr g h fc (unhide HIq)).mono ?_
          rintro e w6 ⟨dv, rfl, ho6, b6⟩
          obtain ⟨nb, nd, rfl⟩ := own_shape ho6
          obtain ⟨W6, hW6⟩ : ∃ W6, w6.alloc (.cells #[.int .i64 c.slot, .int .i64 c.last, .slice nb c.data.length nd] 24) = W6 := ⟨_, rfl⟩
          have bW6 : Below w6.heap.size w6 W6 := hW6 ▸ (Below.refl _ _).alloc (Nat.le_refl _) _
          have b6W : Below wr.heap.size wr W6 := b6.trans (bW6.mono b6.size)
          have HW6 : Hid (Below B.heap.size B W6) := (unhide HWq).trans (b6W.mono (unhide HWq).size)
          obtain ⟨z0, z1, z2⟩ := box3 (w := w6) (w1 := W6) (x0 := .int .i64 c.slot) (x1 := .int .i64 c.last) (x2 := .slice nb c.data.length nd) (t := 24) (by rw [hW6]; exact Below.refl _ _)
          have HV6 : Hid (Sees W6 .u8 (.slice nb c.data.length nd) c.data) := (sees_of_own ho6).2.below bW6
          have HT1 := hide (unhide HBX W6 (unhide HW6))
          have HTS6 := hide (unhide HTS W6 ((unhide HBB).trans ((unhide HW6).mono (unhide HBB).size)))
          have HWF := hide ((unhide HBB).trans ((unhide HW6).mono (unhide HBB).size))
          obtain ⟨t0, t1, t2⟩ := unhide HT1
          clear bW6 b6W ho6 b6
          by_cases hne : er = 0
          · rcases unhide KR with hc | ⟨rfl, e1, e2, e3⟩
            · exact absurd hne hc
            subst hne
            have HSM : Hid (Calls Try.prog 14 #[.agg #[.int .i64 c.slot, .int .i64 c.last, .slice nb c.data.length nd], .agg #[.int .i64 slot, .int .i64 last, .slice ao ds.length cap]] W6 fun e w' => e = .returned (.bool true) ∧ Below W6.heap.size W6 w') := by
              have hv := unhide HV6
              rw [e3] at hv
              rw [e1, e2, e3]
              exact same_true slot last nb ao ds.length nd cap ds W6 rfl hv (unhide HTS6) (unhide HDB)
            clear e1 e2 e3
            go_wp2_with (first | rw [hW6] | fail)
            refine (unhide HSM).mono ?_
            rintro e w7 ⟨rfl, b7⟩
            have HB7 := hide ((unhide HWF).trans (b7.mono (unhide HWF).size))
            clear b7
            go_wp2
            go_ret
            exact ⟨rfl, unhide HB7⟩
          · have hne' : ((er : Int) != 0) = true := by simp [hne]
            go_wp2_with (first | rw [hW6] | fail)
            go_ret
            exact ⟨rfl, unhide HWF⟩
end Go.Proofs.Ytiijbklaapaheaa
