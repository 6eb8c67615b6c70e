/- CkptOneStep: the walk. -/
import Derived.Test.YtiijbklaapaheaaCZ
import Derived.Test.YtiijbklaapaheaaOS
import Derived.Test.YtiijbklaapaheaaWN
namespace Go.Proofs.Ytiijbklaapaheaa
open Go.RowKit
set_option maxRecDepth 100000

theorem wrt_n (cs : List (List Int)) : ∀ (F : Fl) (f i : Nat), (wrt F f i cs).2.n = F.n := by
  induction cs with
  | nil => intro F f i; rfl
  | cons c cs ih =>
    intro F f i
    rw [wrt_cons]
    split
    · exact prog_n _ _ _ _
    · exact (ih _ _ _).trans (prog_n _ _ _ _)
theorem clr_n (k : Nat) : ∀ (F : Fl) (b : Nat), (clr F b k).2.n = F.n := by
  induction k with
  | zero => intro F b; rfl
  | succ k ih =>
    intro F b
    rw [clr_succ]
    split
    · exact ih _ _
    · split
      · exact erase_n _ _
      · exact (ih _ _).trans (erase_n _ _)
theorem sav_n (F : Fl) (f n slot last : Int) (ds : List Int) : (sav F f n slot last ds).2.n = F.n := by
  unfold sav savW wrtH
  (repeat' split) <;> first | rfl | exact clr_n _ _ _ | exact (wrt_n _ _ _ _).trans (clr_n _ _ _)

/-- The fuse that is set changes nothing of what is found. -/
theorem nwk_fuse (F : Fl) (c k : Int) (f m : Nat) : nwk { F with cnt := c, keep := k } f m 2 = nwk F f m 2 := by
  have : ∀ a, rdL { F with cnt := c, keep := k } a m = rdL F a m := fun a => by
    unfold rdL
    rw [pgs_same (F := F) (G := { F with cnt := c, keep := k }) rfl rfl (m * 16) 0 (fun _ _ _ => ⟨rfl, rfl⟩)]
  rw [nwk_two, nwk_two, this, this]

/-- A Save with the fuse set, and the power back: the new one, or, if it answered an error, the old one. -/
theorem one_pure {F : Fl} (h : Fine F) (h4 : F.n = 4) (cnt keep : Int) (hc : 1 ≤ cnt) (slot last : Int) (ds : List Int) (hby : Byt ds) :
    ((0 < (nwk (sav { F with cnt := cnt, keep := keep } 0 4 slot last ds).2.up 0 2 2).ck.num ∧ (nwk (sav { F with cnt := cnt, keep := keep } 0 4 slot last ds).2.up 0 2 2).ck.slot = slot ∧ (nwk (sav { F with cnt := cnt, keep := keep } 0 4 slot last ds).2.up 0 2 2).ck.last = last ∧ (nwk (sav { F with cnt := cnt, keep := keep } 0 4 slot last ds).2.up 0 2 2).ck.data = ds) ∨
     ((sav { F with cnt := cnt, keep := keep } 0 4 slot last ds).1 ≠ 0 ∧ (nwk (sav { F with cnt := cnt, keep := keep } 0 4 slot last ds).2.up 0 2 2).ck = (nwk F 0 2 2).ck)) := by
  have := sav_fuse (F := { F with cnt := cnt, keep := keep }) (G := (sav { F with cnt := cnt, keep := keep } 0 4 slot last ds).2.up) h.1 (by show 0 ≤ cnt; omega) 0 4 (by show 0 + 4 ≤ F.n; rw [h4]; decide) (by show regE F.n _ _ = 0; rw [h4]; decide) slot last ds hby rfl rfl rfl rfl
  simp only [nwk_fuse] at this
  obtain ⟨n0, _⟩ := nwk_num F 0 2 2
  rcases this with h1 | ⟨h1, h2⟩
  · left
    have h1' : (nwk (sav { F with cnt := cnt, keep := keep } 0 4 slot last ds).2.up 0 2 2).ck = ⟨(nwk F 0 2 2).ck.num + 1, slot, last, ds, 0⟩ := h1
    rw [h1']
    exact ⟨by show (0 : Int) < _ + 1; omega, rfl, rfl, rfl⟩
  · right
    exact ⟨h1, h2⟩

set_option maxHeartbeats 3200000 in
theorem one_walk (n : Nat) (os : Nat → OpV) (ao : Option Addr) (lc : Nat) (o : OpV) (count keep : Int) (w : World) (hs : SeesOps w (.slice ao n lc) n os) (ho : OpOk w o) (hc1 : count ≤ 9223372036854775807)
    (HBG : ∀ w : World, Calls Try.prog 12 #[] w fun e w' => e = .returned (.bool true) ∧ Below w.heap.size w w') :
    Calls Try.prog 4 #[.slice ao n lc, o.agg, .int .i64 count, .int .i64 keep] w fun e w' => e = .returned (.bool true) ∧ Below w.heap.size w w' := by
  have HBG := hide HBG
  have hn63 : n ≤ 9223372036854775807 := by obtain ⟨_, _, _, _, _, _, h, _⟩ := hs; exact h
  have HS : Hid (∀ w', Below w.heap.size w w' → SeesOps w' (.slice ao n lc) n os) := fun w' h => hs.below h
  have HO : Hid (∀ w', Below w.heap.size w w' → OpOk w' o) := fun w' h => ho.below h
  obtain ⟨y0, yf, yn, slot, last, y6, y7, y8, oa, oc, od⟩ := o
  simp only [OpV.agg] at HO ⊢
  have HDB := hide ho.byt
  simp only at HDB
  clear hs ho
  obtain ⟨B, hB⟩ : ∃ B, w.alloc (.cells #[.int .i64 y0, .int .i64 yf, .int .i64 yn, .int .i64 slot, .int .i64 last, .slice oa od.length oc, .int .i64 y6, .int .i64 y7, .int .i64 y8] 43) = B := ⟨_, rfl⟩
  have HBB : Hid (Below w.heap.size w B) := hB ▸ (Below.refl _ _).alloc (Nat.le_refl _) _
  have HBX : Hid (∀ x, Below B.heap.size B x → x.cell? ⟨w.heap.size, 3, none⟩ = some (.int .i64 slot) ∧ x.cell? ⟨w.heap.size, 4, none⟩ = some (.int .i64 last) ∧ x.cell? ⟨w.heap.size, 5, none⟩ = some (.slice oa od.length oc)) := fun x hx => by
    have hs : w.heap.size < B.heap.size := by rw [← hB]; simp
    have c : ∀ o, x.cell? ⟨w.heap.size, o, none⟩ = B.cell? ⟨w.heap.size, o, none⟩ := fun o => hx.cell (p := ⟨w.heap.size, o, none⟩) hs
    refine ⟨?_, ?_, ?_⟩ <;> (rw [c, ← hB]; simp [go_sem])
  go_enter Try.func4, Try.ntmps4
  go_wp2_with (first | rw [hB] | fail)
  refine (new_ok 4 B (by decide) (by decide)).mono ?_
  rintro e w1 ⟨g, h, fc, rfl, i1, b1, hg, hh⟩
  have HI1 := hide i1
  have HB1 := hide b1
  have HG : Hid (B.heap.size ≤ g ∧ B.heap.size ≤ h) := ⟨hg, hh⟩
  clear i1 b1 hg hh
  go_wp2_with fail
  refine (unhide HBG w1).mono ?_
  rintro e w2 ⟨rfl, b2⟩
  have HI2 := hide ((unhide HI1).below b2)
  have HB2 : Hid (Below B.heap.size B w2) := (unhide HB1).trans (b2.mono (unhide HB1).size)
  clear b2 HI1 HB1
  go_wp2
  go_loopw [34] (fun c wr => ∃ (k : Nat) (G : Fl), k ≤ n ∧ c = .int .i64 k ∧ IsFl wr g h fc G ∧ Fine G ∧ Sm G ∧ G.n = 4 ∧ Below B.heap.size B wr) (fun c _ => n - (intOf c).toNat)
  case atStart => exact ⟨0, Fl.blank 4, Nat.zero_le _, rfl, unhide HI2, ⟨rfl, rfl⟩, sm_blank 4, rfl, unhide HB2⟩
  case round =>
    obtain ⟨k, G, hk, rfl, hI, hF, hSm, hG4, hBr⟩ := hrel
    have hWr : Below w.heap.size w wr := (unhide HBB).trans (hBr.mono (unhide HBB).size)
    by_cases hlt : k < n
    · obtain ⟨ao', cap', gb, ob, hv, _, _, hao, hcl⟩ := unhide HS wr hWr
      simp only [Value.slice.injEq, true_and] at hv
      obtain ⟨rfl, rfl⟩ := hv
      obtain rfl := hao (by omega)
      obtain ⟨hok, c0, c1, c2, c3, c4, c5, c6, c7, c8⟩ := hcl k hlt
      obtain ⟨q, hq⟩ : ∃ q, os k = q := ⟨_, rfl⟩
      rw [hq] at hok c0 c1 c2 c3 c4 c5 c6 c7 c8
      clear hcl hao hq
      obtain ⟨x0, qf, qn, qs, ql, x6, x7, x8, qa, qc, qd⟩ := q
      simp only at hok c0 c1 c2 c3 c4 c5 c6 c7 c8
      have hb0 : Below wr.heap.size wr (wr.alloc (.cells #[.int .i64 x0, .int .i64 qf, .int .i64 qn, .int .i64 qs, .int .i64 ql, .slice qa qd.length qc, .int .i64 x6, .int .i64 x7, .int .i64 x8] 43)) := (Below.refl _ _).alloc (Nat.le_refl _) _
      have hok' := hok.below hb0
      have HST := hide (save_all (hI.below hb0) (by rw [hF.2]; exact Int.le_refl 0) (by rw [hF.2]; decide) hSm.hP 0 4 (by decide) qs ql qa qc qd hok'.sees hok'.byt hok'.len)
      have HK := hide (sav_keeps hF hSm hG4 qs ql qd hok.byt)
      have HBw : Hid (Below B.heap.size B (wr.alloc (.cells #[.int .i64 x0, .int .i64 qf, .int .i64 qn, .int .i64 qs, .int .i64 ql, .slice qa qd.length qc, .int .i64 x6, .int .i64 x7, .int .i64 x8] 43))) := hBr.trans (hb0.mono hBr.size)
      generalize sav G 0 4 qs ql qd = R at HST HK
      obtain ⟨er, G'⟩ := R
      simp only at HST HK
      clear hI hF hSm hG4 hBr hWr hb0 hok hok'
      go_wp2_with fail
      refine (unhide HST).mono ?_
      rintro e w5 ⟨rfl, i5, u5⟩
      have HB5 : Hid (Below B.heap.size B w5) := (unhide HBw).trans (u5.below (unhide HBw).size (fun k hk => by have := unhide HG; show ¬ (k = g ∨ k = h); omega))
      have HI5 := hide i5
      clear i5 u5
      go_wp2
      go_roundw
      case rel => exact ⟨k + 1, G', by omega, by go_num, unhide HI5, (unhide HK).1, (unhide HK).2.1, (unhide HK).2.2.1, unhide HB5⟩
      case measure => simp [intOf]; omega
    · have HI := hide hI
      have HBr := hide hBr
      have HST0 : Hid (Calls Try.prog 19 #[P0 h, .agg #[.int .i64 0, .int .i64 4]] wr fun e w' => ∃ dv, e = .returned (.tuple #[.agg #[.int .i64 (nwk G 0 2 2).ck.slot, .int .i64 (nwk G 0 2 2).ck.last, dv], .bool (decide (0 < (nwk G 0 2 2).ck.num))]) ∧ w'.ownsRow wr.heap.size 5 1 dv (nwk G 0 2 2).ck.data.length (ints .u8 (nwk G 0 2 2).ck.data) ∧ Below wr.heap.size wr w') := by
        have := state_any hI hSm 0 4 (by rw [hG4]; decide) (by rw [hG4]; decide)
        rw [up_of hF.1] at this
        exact this
      have HFu : Hid (∀ x, IsFl x g h fc G → Calls Try.prog 20 #[P0 h, .int .i64 count, .int .i64 keep] x fun e w' => (count < 1 ∧ e = .returned (.int .i64 1) ∧ x = w') ∨ (1 ≤ count ∧ e = .returned (.int .i64 0) ∧ IsFl w' g h fc { G with cnt := count, keep := keep % 3 } ∧ Upd (Two g h) x.heap.size x w')) := fun x hx => by
        by_cases c : 1 ≤ count
        · exact (fuse_ok hx hF.1 count keep c).mono fun e w' ⟨h1, h2, h3⟩ => Or.inr ⟨c, h1, h2, h3⟩
        · exact (fuse_arg hx hF.1 count keep (by omega)).mono fun e w' ⟨h1, h2⟩ => Or.inl ⟨by omega, h1, h2⟩
      have HSV : Hid (1 ≤ count → ∀ x, IsFl x g h fc { G with cnt := count, keep := keep % 3 } → Below w.heap.size w x → Calls Try.prog 18 #[P0 h, .agg #[.int .i64 0, .int .i64 4], .agg #[.int .i64 slot, .int .i64 last, .slice oa od.length oc]] x fun e w' => e = .returned (.int .i64 (sav { G with cnt := count, keep := keep % 3 } 0 4 slot last od).1) ∧ IsFl w' g h fc (sav { G with cnt := count, keep := keep % 3 } 0 4 slot last od).2 ∧ Upd (Two g h) x.heap.size x w') := fun c x hx hbx => by
        have hok := unhide HO x hbx
        exact save_all hx (by show 0 ≤ count; omega) hc1 (show Sm { G with cnt := count, keep := keep % 3 } from hSm).hP 0 4 (by decide) slot last oa oc od hok.sees hok.byt hok.len
      have HPu := hide (fun c : 1 ≤ count => one_pure hF hG4 count (keep % 3) c slot last od (unhide HDB))
      have HS2 : Hid (∀ x, IsFl x g h fc (sav { G with cnt := count, keep := keep % 3 } 0 4 slot last od).2 → Calls Try.prog 19 #[P0 h, .agg #[.int .i64 0, .int .i64 4]] x fun e w' => ∃ dv, e = .returned (.tuple #[.agg #[.int .i64 (nwk (sav { G with cnt := count, keep := keep % 3 } 0 4 slot last od).2.up 0 2 2).ck.slot, .int .i64 (nwk (sav { G with cnt := count, keep := keep % 3 } 0 4 slot last od).2.up 0 2 2).ck.last, dv], .bool (decide (0 < (nwk (sav { G with cnt := count, keep := keep % 3 } 0 4 slot last od).2.up 0 2 2).ck.num))]) ∧ w'.ownsRow x.heap.size 5 1 dv (nwk (sav { G with cnt := count, keep := keep % 3 } 0 4 slot last od).2.up 0 2 2).ck.data.length (ints .u8 (nwk (sav { G with cnt := count, keep := keep % 3 } 0 4 slot last od).2.up 0 2 2).ck.data) ∧ Below x.heap.size x w') := fun x hx => by
        have hn4 : (sav { G with cnt := count, keep := keep % 3 } 0 4 slot last od).2.n = 4 := (sav_n _ _ _ _ _ _).trans hG4
        have hs2 : Sm (sav { G with cnt := count, keep := keep % 3 } 0 4 slot last od).2 := Sm.sav (show Sm { G with cnt := count, keep := keep % 3 } from hSm) _ _ _ _ _
        exact state_any hx hs2 0 4 (by rw [hn4]; decide) (by rw [hn4]; decide)
      have HCB2 := hide (nwk_byt (sav { G with cnt := count, keep := keep % 3 } 0 4 slot last od).2.up 0 2)
      have HCB := hide (nwk_byt G 0 2)
      generalize (nwk (sav { G with cnt := count, keep := keep % 3 } 0 4 slot last od).2.up 0 2 2).ck = c2 at HPu HS2 HCB2
      generalize (sav { G with cnt := count, keep := keep % 3 } 0 4 slot last od).1 = er at HPu HSV
      generalize (sav { G with cnt := count, keep := keep % 3 } 0 4 slot last od).2 = G2 at HSV HS2
      generalize (nwk G 0 2 2).ck = c at HPu HST0 HCB
      clear hI hF hSm hG4 hBr hWr
      obtain ⟨wo, hwo⟩ : ∃ wo, wo = wr := ⟨_, rfl⟩
      subst hwo
      generalize hdb : decide (0 < c.num) = db at HST0
      go_wp2_with fail
      refine (unhide HST0).mono ?_
      rintro e w3 ⟨dv, rfl, ho3, b3⟩
      obtain ⟨na, nc, rfl⟩ := own_shape ho3
      obtain ⟨W3, hW3⟩ : ∃ W3, w3.alloc (.cells #[.int .i64 c.slot, .int .i64 c.last, .slice na c.data.length nc] 24) = W3 := ⟨_, rfl⟩
      have bW3 : Below w3.heap.size w3 W3 := hW3 ▸ (Below.refl _ _).alloc (Nat.le_refl _) _
      have HSW3 : Hid (W3.heap.size = w3.heap.size + 1) := by show _ = _; rw [← hW3]; simp
      have b3W : Below wo.heap.size wo W3 := b3.trans (bW3.mono b3.size)
      have HB3 : Hid (Below B.heap.size B W3) := (unhide HBr).trans (b3W.mono (unhide HBr).size)
      have HI3 := hide ((unhide HI).below b3W)
      have HV3 : Hid (Sees W3 .u8 (.slice na c.data.length nc) c.data) := (sees_of_own ho3).2.below bW3
      have HX3 : Hid (∀ x, Below W3.heap.size W3 x → x.cell? ⟨w3.heap.size, 0, none⟩ = some (.int .i64 c.slot) ∧ x.cell? ⟨w3.heap.size, 1, none⟩ = some (.int .i64 c.last) ∧ x.cell? ⟨w3.heap.size, 2, none⟩ = some (.slice na c.data.length nc)) := fun x hx => box3 (by rw [hW3, ← unhide HSW3]; exact hx)
      have HNA : Hid (∀ a, na = some a → wo.heap.size ≤ a.block) := fun a ha => by
        rcases ho3.2 with ⟨e1, _⟩ | ⟨gg, _, _, e1, e2, _⟩
        · simp only [Value.slice.injEq] at e1; rw [e1.1] at ha; cases ha
        · simp only [Value.slice.injEq] at e1; rw [e1.1] at ha; obtain rfl := Option.some.inj ha; exact e2
      have HGL : Hid (g < wo.heap.size ∧ h < wo.heap.size ∧ wo.heap.size ≤ w3.heap.size) := ⟨(unhide HI).glt, (unhide HI).hlt, b3.size⟩
      clear ho3 b3 bW3 b3W
      go_wp2_with (first | rw [hW3] | fail)
      refine (unhide HFu W3 (unhide HI3)).mono ?_
      rintro e w4 (⟨c1, rfl, rfl⟩ | ⟨c1, rfl, i4, u4⟩)
      · have HBF := hide ((unhide HBB).trans ((unhide HB3).mono (unhide HBB).size))
        go_wp2
        go_ret
        exact ⟨rfl, unhide HBF⟩
      · have HB4 : Hid (Below B.heap.size B w4) := (unhide HB3).trans (u4.below (unhide HB3).size (fun k hk => by have := unhide HG; show ¬ (k = g ∨ k = h); omega))
        have HW4 : Hid (Below w.heap.size w w4) := (unhide HBB).trans ((unhide HB4).mono (unhide HBB).size)
        have HU4 := hide u4
        have HSV4 := hide (unhide HSV c1 w4 i4 (unhide HW4))
        have HP4 := hide (unhide HPu c1)
        clear i4 u4 HSV HFu HPu
        obtain ⟨t0, t1, t2⟩ := unhide HBX w4 (unhide HB4)
        go_wp2_with fail
        refine (unhide HSV4).mono ?_
        rintro e w5 ⟨rfl, i5, u5⟩
        have HB5 : Hid (Below B.heap.size B w5) := (unhide HB4).trans (u5.below (unhide HB4).size (fun k hk => by have := unhide HG; show ¬ (k = g ∨ k = h); omega))
        have HU5 : Hid (Upd (Two g h) W3.heap.size W3 w5) := (unhide HU4).trans (u5.less (unhide HU4).size)
        have HST5 := hide (unhide HS2 w5 i5)
        clear i5 u5 HS2 HSV4 t0 t1 t2
        rcases unhide HP4 with ⟨p1, p2, p3, p4⟩ | ⟨p1, p2⟩
        · rw [decide_eq_true p1] at HST5
          go_wp2_with fail
          refine (unhide HST5).mono ?_
          rintro e w6 ⟨dv, rfl, ho6, b6⟩
          obtain ⟨ma, mc, rfl⟩ := own_shape ho6
          obtain ⟨W6, hW6⟩ : ∃ W6, w6.alloc (.cells #[.int .i64 c2.slot, .int .i64 c2.last, .slice ma c2.data.length mc] 24) = W6 := ⟨_, rfl⟩
          have bW6 : Below w6.heap.size w6 W6 := hW6 ▸ (Below.refl _ _).alloc (Nat.le_refl _) _
          have HSW6 : Hid (W6.heap.size = w6.heap.size + 1) := by show _ = _; rw [← hW6]; simp
          have b6W : Below w5.heap.size w5 W6 := b6.trans (bW6.mono b6.size)
          have HB6 : Hid (Below B.heap.size B W6) := (unhide HB5).trans (b6W.mono (unhide HB5).size)
          have HW6 : Hid (Below w.heap.size w W6) := (unhide HBB).trans ((unhide HB6).mono (unhide HBB).size)
          have HX6 : Hid (∀ x, Below W6.heap.size W6 x → x.cell? ⟨w6.heap.size, 0, none⟩ = some (.int .i64 c2.slot) ∧ x.cell? ⟨w6.heap.size, 1, none⟩ = some (.int .i64 c2.last) ∧ x.cell? ⟨w6.heap.size, 2, none⟩ = some (.slice ma c2.data.length mc)) := fun x hx => box3 (by rw [hW6, ← unhide HSW6]; exact hx)
          have HV6 : Hid (Sees W6 .u8 (.slice ma c2.data.length mc) c2.data) := (sees_of_own ho6).2.below bW6
          have HO6 := hide (unhide HO W6 (unhide HW6)).sees
          simp only at HO6
          have HSM : Hid (Calls Try.prog 14 #[.agg #[.int .i64 c2.slot, .int .i64 c2.last, .slice ma c2.data.length mc], .agg #[.int .i64 slot, .int .i64 last, .slice oa od.length oc]] W6 fun e w' => e = .returned (.bool true) ∧ Below W6.heap.size W6 w') := by
            have hv := unhide HV6
            rw [p4] at hv
            rw [p2, p3, p4]
            exact same_true slot last ma oa od.length mc oc od W6 rfl hv (unhide HO6) (unhide HDB)
          obtain ⟨z0, z1, z2⟩ := unhide HX6 W6 (Below.refl _ _)
          obtain ⟨t0, t1, t2⟩ := unhide HBX W6 (unhide HB6)
          clear bW6 b6W ho6 b6 p1 p2 p3 p4
          go_wp2_with (first | rw [hW6] | fail)
          refine (unhide HSM).mono ?_
          rintro e w7 ⟨rfl, b7⟩
          have HB7 := hide ((unhide HW6).trans (b7.mono (unhide HW6).size))
          clear b7
          go_wp2
          go_ret
          exact ⟨rfl, unhide HB7⟩
        · have p3 := p2.symm
          subst p3
          rw [hdb] at HST5
          have her' : ((er : Int) != 0) = true := by simp [p1]
          clear hdb
          cases db
          · go_wp2_with fail
            refine (unhide HST5).mono ?_
            rintro e w6 ⟨dv, rfl, ho6, b6⟩
            obtain ⟨ma, mc, rfl⟩ := own_shape ho6
            obtain ⟨W6, hW6⟩ : ∃ W6, w6.alloc (.cells #[.int .i64 c.slot, .int .i64 c.last, .slice ma c.data.length mc] 24) = W6 := ⟨_, rfl⟩
            have bW6 : Below w6.heap.size w6 W6 := hW6 ▸ (Below.refl _ _).alloc (Nat.le_refl _) _
            have HSW6 : Hid (W6.heap.size = w6.heap.size + 1) := by show _ = _; rw [← hW6]; simp
            have b6W : Below w5.heap.size w5 W6 := b6.trans (bW6.mono b6.size)
            have HB6 : Hid (Below B.heap.size B W6) := (unhide HB5).trans (b6W.mono (unhide HB5).size)
            have HW6 : Hid (Below w.heap.size w W6) := (unhide HBB).trans ((unhide HB6).mono (unhide HBB).size)
            have HX6 : Hid (∀ x, Below W6.heap.size W6 x → x.cell? ⟨w6.heap.size, 0, none⟩ = some (.int .i64 c.slot) ∧ x.cell? ⟨w6.heap.size, 1, none⟩ = some (.int .i64 c.last) ∧ x.cell? ⟨w6.heap.size, 2, none⟩ = some (.slice ma c.data.length mc)) := fun x hx => box3 (by rw [hW6, ← unhide HSW6]; exact hx)
            have HV6 : Hid (Sees W6 .u8 (.slice ma c.data.length mc) c.data) := (sees_of_own ho6).2.below bW6
            have HO6 := hide (unhide HO W6 (unhide HW6)).sees
            simp only at HO6
            have hU6 : Upd (Two g h) W3.heap.size W3 W6 := (unhide HU5).trans ((Upd.of b6W).less (unhide HU5).size)
            have hgl := unhide HGL
            have hs3 := unhide HSW3
            have HXO : Hid (∀ x, Below W6.heap.size W6 x → x.cell? ⟨w3.heap.size, 0, none⟩ = some (.int .i64 c.slot) ∧ x.cell? ⟨w3.heap.size, 1, none⟩ = some (.int .i64 c.last) ∧ x.cell? ⟨w3.heap.size, 2, none⟩ = some (.slice na c.data.length nc)) := fun x hx => by
              obtain ⟨k0, k1, k2⟩ := unhide HX3 W3 (Below.refl _ _)
              have hne : ¬ Two g h w3.heap.size := by show ¬ (w3.heap.size = g ∨ w3.heap.size = h); omega
              have cc : ∀ o, x.cell? ⟨w3.heap.size, o, none⟩ = W3.cell? ⟨w3.heap.size, o, none⟩ := fun o => by
                rw [hx.cell (p := ⟨w3.heap.size, o, none⟩) (by have := hU6.size; show w3.heap.size < _; omega), hU6.cell (p := ⟨w3.heap.size, o, none⟩) (by show w3.heap.size < _; omega) hne]
              exact ⟨by rw [cc]; exact k0, by rw [cc]; exact k1, by rw [cc]; exact k2⟩
            have HVO : Hid (Sees W6 .u8 (.slice na c.data.length nc) c.data) := sees_upd (unhide HV3) hU6 (Nat.le_refl _) (fun a n' c' e a' ha => by
              simp only [Value.slice.injEq] at e
              have := unhide HNA a' (by rw [e.1]; exact ha)
              show ¬ (a'.block = g ∨ a'.block = h)
              omega)
            have HSO : Hid (∀ x, Below W6.heap.size W6 x → Calls Try.prog 14 #[.agg #[.int .i64 c.slot, .int .i64 c.last, .slice ma c.data.length mc], .agg #[.int .i64 c.slot, .int .i64 c.last, .slice na c.data.length nc]] x fun e w' => e = .returned (.bool true) ∧ Below x.heap.size x w') := fun x hx =>
              same_true c.slot c.last ma na c.data.length mc nc c.data x rfl ((unhide HV6).below hx) ((unhide HVO).below hx) (unhide HCB)
            obtain ⟨z0, z1, z2⟩ := unhide HX6 W6 (Below.refl _ _)
            obtain ⟨o0, o1, o2⟩ := unhide HXO W6 (Below.refl _ _)
            clear bW6 b6W ho6 b6 hU6 hgl hs3
            go_wp2_with (first | rw [hW6] | fail)
            refine (unhide HSO W6 (Below.refl _ _)).mono ?_
            rintro e w7 ⟨rfl, b7⟩
            have HB7 := hide ((unhide HW6).trans (b7.mono (unhide HW6).size))
            clear b7
            go_wp2
            go_ret
            exact ⟨rfl, unhide HB7⟩
          · go_wp2_with fail
            refine (unhide HST5).mono ?_
            rintro e w6 ⟨dv, rfl, ho6, b6⟩
            obtain ⟨ma, mc, rfl⟩ := own_shape ho6
            obtain ⟨W6, hW6⟩ : ∃ W6, w6.alloc (.cells #[.int .i64 c.slot, .int .i64 c.last, .slice ma c.data.length mc] 24) = W6 := ⟨_, rfl⟩
            have bW6 : Below w6.heap.size w6 W6 := hW6 ▸ (Below.refl _ _).alloc (Nat.le_refl _) _
            have HSW6 : Hid (W6.heap.size = w6.heap.size + 1) := by show _ = _; rw [← hW6]; simp
            have b6W : Below w5.heap.size w5 W6 := b6.trans (bW6.mono b6.size)
            have HB6 : Hid (Below B.heap.size B W6) := (unhide HB5).trans (b6W.mono (unhide HB5).size)
            have HW6 : Hid (Below w.heap.size w W6) := (unhide HBB).trans ((unhide HB6).mono (unhide HBB).size)
            have HX6 : Hid (∀ x, Below W6.heap.size W6 x → x.cell? ⟨w6.heap.size, 0, none⟩ = some (.int .i64 c.slot) ∧ x.cell? ⟨w6.heap.size, 1, none⟩ = some (.int .i64 c.last) ∧ x.cell? ⟨w6.heap.size, 2, none⟩ = some (.slice ma c.data.length mc)) := fun x hx => box3 (by rw [hW6, ← unhide HSW6]; exact hx)
            have HV6 : Hid (Sees W6 .u8 (.slice ma c.data.length mc) c.data) := (sees_of_own ho6).2.below bW6
            have HO6 := hide (unhide HO W6 (unhide HW6)).sees
            simp only at HO6
            have hU6 : Upd (Two g h) W3.heap.size W3 W6 := (unhide HU5).trans ((Upd.of b6W).less (unhide HU5).size)
            have hgl := unhide HGL
            have hs3 := unhide HSW3
            have HXO : Hid (∀ x, Below W6.heap.size W6 x → x.cell? ⟨w3.heap.size, 0, none⟩ = some (.int .i64 c.slot) ∧ x.cell? ⟨w3.heap.size, 1, none⟩ = some (.int .i64 c.last) ∧ x.cell? ⟨w3.heap.size, 2, none⟩ = some (.slice na c.data.length nc)) := fun x hx => by
              obtain ⟨k0, k1, k2⟩ := unhide HX3 W3 (Below.refl _ _)
              have hne : ¬ Two g h w3.heap.size := by show ¬ (w3.heap.size = g ∨ w3.heap.size = h); omega
              have cc : ∀ o, x.cell? ⟨w3.heap.size, o, none⟩ = W3.cell? ⟨w3.heap.size, o, none⟩ := fun o => by
                rw [hx.cell (p := ⟨w3.heap.size, o, none⟩) (by have := hU6.size; show w3.heap.size < _; omega), hU6.cell (p := ⟨w3.heap.size, o, none⟩) (by show w3.heap.size < _; omega) hne]
              exact ⟨by rw [cc]; exact k0, by rw [cc]; exact k1, by rw [cc]; exact k2⟩
            have HVO : Hid (Sees W6 .u8 (.slice na c.data.length nc) c.data) := sees_upd (unhide HV3) hU6 (Nat.le_refl _) (fun a n' c' e a' ha => by
              simp only [Value.slice.injEq] at e
              have := unhide HNA a' (by rw [e.1]; exact ha)
              show ¬ (a'.block = g ∨ a'.block = h)
              omega)
            have HSO : Hid (∀ x, Below W6.heap.size W6 x → Calls Try.prog 14 #[.agg #[.int .i64 c.slot, .int .i64 c.last, .slice ma c.data.length mc], .agg #[.int .i64 c.slot, .int .i64 c.last, .slice na c.data.length nc]] x fun e w' => e = .returned (.bool true) ∧ Below x.heap.size x w') := fun x hx =>
              same_true c.slot c.last ma na c.data.length mc nc c.data x rfl ((unhide HV6).below hx) ((unhide HVO).below hx) (unhide HCB)
            have HSM := hide (same_any c.slot c.last slot last (.slice ma c.data.length mc) (.slice oa od.length oc) c.data od W6 (unhide HV6) (unhide HO6) (unhide HCB) (unhide HDB))
            generalize (decide (c.slot = slot) && decide (c.last = last) && decide (c.data = od)) = bb at HSM
            obtain ⟨z0, z1, z2⟩ := unhide HX6 W6 (Below.refl _ _)
            obtain ⟨t0, t1, t2⟩ := unhide HBX W6 (unhide HB6)
            clear bW6 b6W ho6 b6 hU6 hgl hs3
            go_wp2_with (first | rw [hW6] | fail)
            refine (unhide HSM).mono ?_
            rintro e w7 ⟨rfl, b7⟩
            have HB7 := hide b7
            clear b7 z0 z1 z2 t0 t1 t2
            cases bb
            · obtain ⟨z0, z1, z2⟩ := unhide HX6 w7 (unhide HB7)
              obtain ⟨o0, o1, o2⟩ := unhide HXO w7 (unhide HB7)
              go_wp2_with fail
              refine (unhide HSO w7 (unhide HB7)).mono ?_
              rintro e w8 ⟨rfl, b8⟩
              have HB8 := hide ((unhide HW6).trans (((unhide HB7).trans (b8.mono (unhide HB7).size)).mono (unhide HW6).size))
              clear b8
              go_wp2
              go_ret
              exact ⟨rfl, unhide HB8⟩
            · have HB8 := hide ((unhide HW6).trans ((unhide HB7).mono (unhide HW6).size))
              go_wp2
              go_ret
              exact ⟨rfl, unhide HB8⟩
end Go.Proofs.Ytiijbklaapaheaa
