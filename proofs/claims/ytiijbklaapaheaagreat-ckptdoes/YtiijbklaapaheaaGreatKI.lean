/- Several texts as one. -/
import Derived.Test.YtiijbklaapaheaaGreatKG
import Derived.Test.YtiijbklaapaheaaGreatKF
import Derived.Test.YtiijbklaapaheaaGreatEB
import Derived.Test.YtiijbklaapaheaaGreatKQ

/- The document's checkpoints: Load and Find. -/
namespace Go.Proofs.YtiijbklaapaheaaGreat
open Go.RowKit
set_option maxRecDepth 100000
variable {w : World} {S : Nat → Prop} {hr gp gw cp cw : Nat} {pb cb : Nat → Nat} {bv : Nat → Nat → Value} {F : Fl} {kp : Int}

theorem rdL_down (hd : F.down = true) (a m : Nat) : rdL F a m = [] := by
  unfold rdL
  cases hm : m * 16 with
  | zero => rfl
  | succ k =>
    rw [pgs_succ, if_pos]
    · rfl
    · unfold Fl.readE; rw [if_pos hd]; decide
theorem nwk_down (hd : F.down = true) (f m : Nat) : nwk F f m 2 = .none := by
  have h : dec [] = .bad := by unfold dec; rw [if_pos (by decide +kernel)]
  rw [nwk_two, rdL_down hd, rdL_down hd, h]
  rfl
theorem nwH_ge (F : Fl) (f m : Nat) : (nwH (nwk F f m 2) < 0 ↔ nwk F f m 2 = .none) ∧ (0 ≤ nwH (nwk F f m 2) ↔ 0 < (nwk F f m 2).ck.num) ∧ (0 ≤ nwH (nwk F f m 2) → nwH (nwk F f m 2) = (nwk F f m 2).at') := by
  rcases nwk_cases F f m with ⟨_, _, h⟩ | ⟨_, _, hp, h⟩ | ⟨_, _, hp, h⟩
  · rw [h]
    have e : nwH .none = -1 := rfl
    have e2 : (Bst.none).ck.num = 0 := rfl
    rw [e, e2]
    exact ⟨⟨fun _ => rfl, fun _ => by omega⟩, ⟨fun h => by omega, fun h => by omega⟩, fun h => by omega⟩
  · rw [h]
    have e : nwH ⟨0, dec (rdL F f m)⟩ = 0 := by unfold nwH; rw [if_pos (by show (0 : Int) < (dec (rdL F f m)).num; omega)]
    rw [e]
    refine ⟨⟨fun h => by omega, fun h => ?_⟩, ⟨fun _ => by show (0 : Int) < (dec (rdL F f m)).num; omega, fun _ => by omega⟩, fun _ => rfl⟩
    have := congrArg (fun c => c.ck.num) h
    have e2 : (dec (rdL F f m)).num = 0 := this
    omega
  · rw [h]
    have e : nwH ⟨1, dec (rdL F (f + m) m)⟩ = 1 := by unfold nwH; rw [if_pos (by show (0 : Int) < (dec (rdL F (f + m) m)).num; omega)]
    rw [e]
    refine ⟨⟨fun h => by omega, fun h => ?_⟩, ⟨fun _ => by show (0 : Int) < (dec (rdL F (f + m) m)).num; omega, fun _ => by omega⟩, fun _ => rfl⟩
    have := congrArg (fun c => c.ck.num) h
    have e2 : (dec (rdL F (f + m) m)).num = 0 := this
    omega

set_option maxHeartbeats 3200000 in
theorem rload_any (H : IsRf w S hr gp gw cp cw pb cb bv F kp) (f n : Int) (hf : -9223372036854775808 ≤ f ∧ f ≤ 9223372036854775807) (hn : -9223372036854775808 ≤ n ∧ n ≤ 9223372036854775807) :
    Calls Tryz.prog 14 #[P0 hr, .agg #[.int .i64 f, .int .i64 n]] w fun e w' => ∃ dv, e = .returned (.tuple #[.agg #[.int .i64 (lodB F f n).ck.slot, .int .i64 (lodB F f n).ck.last, dv], .bool (decide (0 < (lodB F f n).ck.num)), .int .i64 (lodE F f n)]) ∧ w'.ownsRow w.heap.size 5 1 dv (lodB F f n).ck.data.length (ints .u8 (lodB F f n).ck.data) ∧ Below w.heap.size w w' := by
  obtain ⟨B, hB⟩ : ∃ B, (w.alloc (.cells #[.int .i64 f, .int .i64 n] 32)).alloc (.cells #[.int .i64 0, .int .i64 0, .slice none 0 0] 35) = B := ⟨_, rfl⟩
  have HBB : Hid (Below w.heap.size w B) := hB ▸ ((Below.refl _ _).alloc (Nat.le_refl _) _).alloc (by simp) _
  have HSZ : Hid (B.heap.size = w.heap.size + 2) := by show _ = _; rw [← hB]; simp
  have HBX : Hid (∀ x, Below B.heap.size B x → (x.cell? ⟨w.heap.size, 0, none⟩ = some (.int .i64 f) ∧ x.cell? ⟨w.heap.size, 1, none⟩ = some (.int .i64 n)) ∧ (x.cell? ⟨w.heap.size + 1, 0, none⟩ = some (.int .i64 0) ∧ x.cell? ⟨w.heap.size + 1, 1, none⟩ = some (.int .i64 0) ∧ x.cell? ⟨w.heap.size + 1, 2, none⟩ = some (.slice none 0 0)) ∧ ∀ o, x.frozen? ⟨w.heap.size + 1, o, none⟩ = false) := fun x hx => by
    have hs := unhide HSZ
    have c : ∀ b o, b < w.heap.size + 2 → x.cell? ⟨b, o, none⟩ = B.cell? ⟨b, o, none⟩ := fun b o hb => hx.cell (p := ⟨b, o, none⟩) (by show b < _; omega)
    have d : ∀ b o, b < w.heap.size + 2 → x.frozen? ⟨b, o, none⟩ = B.frozen? ⟨b, o, none⟩ := fun b o hb => World.frozen?_of_block (w := B) (hx.block b (by omega))
    refine ⟨⟨?_, ?_⟩, ⟨?_, ?_, ?_⟩, fun o => ?_⟩
    · rw [c _ _ (by omega), ← hB]; simp [go_sem, World.cell?_alloc_old]
    · rw [c _ _ (by omega), ← hB]; simp [go_sem, World.cell?_alloc_old]
    · rw [c _ _ (by omega), ← hB]; simp [go_sem]
    · rw [c _ _ (by omega), ← hB]; simp [go_sem]
    · rw [c _ _ (by omega), ← hB]; simp [go_sem]
    · rw [d _ _ (by omega), ← hB]; simp [go_sem]
  have HR : Hid (∀ x, Below B.heap.size B x → IsRf x S hr gp gw cp cw pb cb bv F kp) := fun x hx => (H.below (unhide HBB)).below hx
  have hle := H.le
  clear H
  have HMY := hide (rmay_any (unhide HR B (Below.refl _ _)) f n hf hn)
  obtain ⟨⟨q0, q1⟩, _, _⟩ := unhide HBX B (Below.refl _ _)
  by_cases hrg : regE F.n f n = 0
  case neg =>
    have h1 : regE F.n f n = 1 := by unfold regE at hrg ⊢; split at hrg; · rename_i c; rw [if_pos c]
                                     · exact absurd rfl hrg
    rw [show lodB F f n = .none by unfold lodB; rw [if_pos (Or.inl hrg)], show lodE F f n = 1 by unfold lodE; rw [if_pos hrg, h1]]
    rw [decide_eq_false hrg] at HMY
    go_enter Tryz.func14, Tryz.ntmps14
    go_wp2_with (first | rw [hB] | fail)
    refine (unhide HMY).mono ?_
    rintro e w1 ⟨rfl, b1⟩
    have HBW := hide ((unhide HBB).trans (b1.mono (unhide HBB).size))
    clear q0 q1
    obtain ⟨⟨q0, q1⟩, ⟨e0, e1, e2⟩, e3⟩ := unhide HBX w1 b1
    clear b1
    go_wp2
    obtain ⟨k0, k1, k2⟩ := st3_cells (v0 := .int .i64 0) (v1 := .int .i64 0) (v2 := .slice none 0 0) e0 e1 e2
    have hbl := st3_below (unhide HBW) (show w.heap.size ≤ w.heap.size + 1 by omega) (.int .i64 0) (.int .i64 0) (.slice none 0 0)
    generalize ((w1.setCell ⟨w.heap.size + 1, 0, none⟩ (.int .i64 0)).setCell ⟨w.heap.size + 1, 1, none⟩ (.int .i64 0)).setCell ⟨w.heap.size + 1, 2, none⟩ (.slice none 0 0) = Y at *
    refine bodyPost_ret (v := .tuple #[.agg #[.int .i64 0, .int .i64 0, .slice none 0 0], .bool false, .int .i64 1]) (by simp [results, Tryz.results14, go_sem, k0, k1, k2]) rfl ?_
    exact ⟨_, rfl, World.ownsRow_nil _ _ _ _, hbl⟩
  rw [decide_eq_true hrg] at HMY
  cases hdn : F.down
  case true =>
    rw [show lodB F f n = .none by unfold lodB; rw [if_pos (Or.inr hdn)], show lodE F f n = 7 by unfold lodE; rw [if_neg (not_not_intro hrg), if_pos hdn]]
    go_enter Tryz.func14, Tryz.ntmps14
    go_wp2_with (first | rw [hB] | fail)
    refine (unhide HMY).mono ?_
    rintro e w1 ⟨rfl, b1⟩
    have HBW := hide ((unhide HBB).trans (b1.mono (unhide HBB).size))
    clear q0 q1
    obtain ⟨⟨q0, q1⟩, ⟨e0, e1, e2⟩, e3⟩ := unhide HBX w1 b1
    have hc4 := (unhide HR w1 b1).c4
    rw [hdn] at hc4
    clear b1
    go_wp2
    obtain ⟨k0, k1, k2⟩ := st3_cells (v0 := .int .i64 0) (v1 := .int .i64 0) (v2 := .slice none 0 0) e0 e1 e2
    have hbl := st3_below (unhide HBW) (show w.heap.size ≤ w.heap.size + 1 by omega) (.int .i64 0) (.int .i64 0) (.slice none 0 0)
    generalize ((w1.setCell ⟨w.heap.size + 1, 0, none⟩ (.int .i64 0)).setCell ⟨w.heap.size + 1, 1, none⟩ (.int .i64 0)).setCell ⟨w.heap.size + 1, 2, none⟩ (.slice none 0 0) = Y at *
    refine bodyPost_ret (v := .tuple #[.agg #[.int .i64 0, .int .i64 0, .slice none 0 0], .bool false, .int .i64 7]) (by simp [results, Tryz.results14, go_sem, k0, k1, k2]) rfl ?_
    exact ⟨_, rfl, World.ownsRow_nil _ _ _ _, hbl⟩
  case false =>
    obtain ⟨f', n', rfl, rfl, hn2, hfn⟩ := regE_is hrg hle
    rw [show lodB F f' n' = nwk F f' (n' / 2) 2 by unfold lodB; rw [if_neg (by rintro (h | h); exact h hrg; rw [hdn] at h; cases h)]; rfl, show lodE F f' n' = 0 by unfold lodE; rw [if_neg (not_not_intro hrg), if_neg (by rw [hdn]; decide)]]
    have HNW : Hid (∀ x, Below B.heap.size B x → _) := fun x hx => rnewest_any (unhide HR x hx) hdn f' n' hfn hn2
    have hge := (nwH_ge F f' (n' / 2)).2.1
    generalize hgc : nwk F f' (n' / 2) 2 = c at HNW hge ⊢
    generalize nwH c = nh at HNW hge
    generalize hdb : decide (0 < c.ck.num) = db
    have hdc : decide (0 ≤ nh) = db := by rw [← hdb]; simp only [hge]
    clear hge hdb
    go_enter Tryz.func14, Tryz.ntmps14
    go_wp2_with (first | rw [hB] | fail)
    refine (unhide HMY).mono ?_
    rintro e w1 ⟨rfl, b1⟩
    have HB1 := hide b1
    clear q0 q1
    obtain ⟨⟨q0, q1⟩, _, _⟩ := unhide HBX w1 b1
    have hc4 := (unhide HR w1 b1).c4
    rw [hdn] at hc4
    clear b1
    go_wp2_with fail
    refine (unhide HNW w1 (unhide HB1)).mono ?_
    rintro e w3 ⟨dv, rfl, o3, b3⟩
    obtain ⟨na, nc, rfl⟩ := own_shape o3
    obtain ⟨W3, hW3⟩ : ∃ W3, w3.alloc (.cells #[.int .i64 c.ck.num, .int .i64 c.ck.slot, .int .i64 c.ck.last, .slice na c.ck.data.length nc] 88) = W3 := ⟨_, rfl⟩
    have bW3 : Below w3.heap.size w3 W3 := hW3 ▸ (Below.refl _ _).alloc (Nat.le_refl _) _
    have b3W : Below w1.heap.size w1 W3 := b3.trans (bW3.mono b3.size)
    have HB3 : Hid (Below B.heap.size B W3) := (unhide HB1).trans (b3W.mono (unhide HB1).size)
    have HO3 := hide (own_below o3 bW3)
    obtain ⟨x0, x1, x2, x3, _⟩ := box4f (w := w3) (w1 := W3) (x0 := .int .i64 c.ck.num) (x1 := .int .i64 c.ck.slot) (x2 := .int .i64 c.ck.last) (x3 := .slice na c.ck.data.length nc) (t := 88) (by rw [hW3]; exact Below.refl _ _)
    have HWB := hide ((unhide HBB).trans ((unhide HB3).mono (unhide HBB).size))
    have HLT : Hid (w.heap.size + 1 < w1.heap.size) := by show _ < _; have := (unhide HB1).size; have := unhide HSZ; omega
    clear b3 o3 bW3 b3W q0 q1
    obtain ⟨⟨q0, q1⟩, ⟨e0, e1, e2⟩, e3⟩ := unhide HBX W3 (unhide HB3)
    go_wp2_with (first | rw [hW3] | fail)
    obtain ⟨k0, k1, k2⟩ := st3_cells (v0 := .int .i64 c.ck.slot) (v1 := .int .i64 c.ck.last) (v2 := .slice na c.ck.data.length nc) e0 e1 e2
    have hbl := st3_below (unhide HWB) (show w.heap.size ≤ w.heap.size + 1 by omega) (.int .i64 c.ck.slot) (.int .i64 c.ck.last) (.slice na c.ck.data.length nc)
    have hlt := unhide HLT
    have hor := own_set (own_set (own_set (unhide HO3) (p := ⟨w.heap.size + 1, 0, none⟩) hlt (.int .i64 c.ck.slot)) (p := ⟨w.heap.size + 1, 1, none⟩) hlt (.int .i64 c.ck.last)) (p := ⟨w.heap.size + 1, 2, none⟩) hlt (.slice na c.ck.data.length nc)
    generalize ((W3.setCell ⟨w.heap.size + 1, 0, none⟩ (.int .i64 c.ck.slot)).setCell ⟨w.heap.size + 1, 1, none⟩ (.int .i64 c.ck.last)).setCell ⟨w.heap.size + 1, 2, none⟩ (.slice na c.ck.data.length nc) = Y at *
    refine bodyPost_ret (v := .tuple #[.agg #[.int .i64 c.ck.slot, .int .i64 c.ck.last, .slice na c.ck.data.length nc], .bool db, .int .i64 0]) (by simp [results, Tryz.results14, go_sem, k0, k1, k2]; try exact hdc) rfl ?_
    exact ⟨_, rfl, own_lower hor (by omega), hbl⟩

set_option maxHeartbeats 3200000 in
theorem rfind_any (H : IsRf w S hr gp gw cp cw pb cb bv F kp) (f n : Int) (hf : -9223372036854775808 ≤ f ∧ f ≤ 9223372036854775807) (hn : -9223372036854775808 ≤ n ∧ n ≤ 9223372036854775807) :
    Calls Tryz.prog 15 #[P0 hr, .agg #[.int .i64 f, .int .i64 n]] w fun e w' => e = .returned (.tuple #[.int .i64 (hafB F f n).at', .int .i64 (hafB F f n).ck.num, .bool (decide (0 < (hafB F f n).ck.num))]) ∧ Below w.heap.size w w' := by
  obtain ⟨B, hB⟩ : ∃ B, w.alloc (.cells #[.int .i64 f, .int .i64 n] 32) = B := ⟨_, rfl⟩
  have HBB : Hid (Below w.heap.size w B) := hB ▸ (Below.refl _ _).alloc (Nat.le_refl _) _
  have HSZ : Hid (B.heap.size = w.heap.size + 1) := by show _ = _; rw [← hB]; simp
  have HBX : Hid (∀ x, Below B.heap.size B x → x.cell? ⟨w.heap.size, 0, none⟩ = some (.int .i64 f) ∧ x.cell? ⟨w.heap.size, 1, none⟩ = some (.int .i64 n)) := fun x hx => cells2 (by rw [hB, ← unhide HSZ]; exact hx)
  have HR : Hid (∀ x, Below B.heap.size B x → IsRf x S hr gp gw cp cw pb cb bv F kp) := fun x hx => (H.below (unhide HBB)).below hx
  have hle := H.le
  clear H
  have HMY := hide (rmay_any (unhide HR B (Below.refl _ _)) f n hf hn)
  obtain ⟨q0, q1⟩ := unhide HBX B (Below.refl _ _)
  by_cases hrg : regE F.n f n = 0
  case neg =>
    rw [show hafB F f n = .none by unfold hafB; rw [if_pos hrg]]
    rw [decide_eq_false hrg] at HMY
    go_enter Tryz.func15, Tryz.ntmps15
    go_wp2_with (first | rw [hB] | fail)
    refine (unhide HMY).mono ?_
    rintro e w1 ⟨rfl, b1⟩
    have HBW := hide ((unhide HBB).trans (b1.mono (unhide HBB).size))
    clear b1
    go_wp2
    refine bodyPost_ret (v := .tuple #[.int .i64 0, .int .i64 0, .bool false]) (by simp [results, Tryz.results15, go_sem]) rfl ?_
    exact ⟨rfl, unhide HBW⟩
  rw [decide_eq_true hrg] at HMY
  have hhb : hafB F f n = nwk F f.toNat (n.toNat / 2) 2 := by unfold hafB; rw [if_neg (not_not_intro hrg)]
  cases hdn : F.down
  case true =>
    rw [hhb, nwk_down hdn]
    go_enter Tryz.func15, Tryz.ntmps15
    go_wp2_with (first | rw [hB] | fail)
    refine (unhide HMY).mono ?_
    rintro e w1 ⟨rfl, b1⟩
    have HBW := hide ((unhide HBB).trans (b1.mono (unhide HBB).size))
    have hc4 := (unhide HR w1 b1).c4
    rw [hdn] at hc4
    clear b1
    go_wp2
    refine bodyPost_ret (v := .tuple #[.int .i64 0, .int .i64 0, .bool false]) (by simp [results, Tryz.results15, go_sem]) rfl ?_
    exact ⟨rfl, unhide HBW⟩
  case false =>
    obtain ⟨f', n', rfl, rfl, hn2, hfn⟩ := regE_is hrg hle
    rw [show hafB F f' n' = nwk F f' (n' / 2) 2 from hhb]
    clear hhb
    have HNW : Hid (∀ x, Below B.heap.size B x → _) := fun x hx => rnewest_any (unhide HR x hx) hdn f' n' hfn hn2
    have hge := nwH_ge F f' (n' / 2)
    generalize hgc : nwk F f' (n' / 2) 2 = c at HNW hge ⊢
    generalize nwH c = nh at HNW hge
    obtain ⟨g1, g2, g3⟩ := hge
    by_cases hlt : nh < 0
    · obtain rfl := g1.1 hlt
      clear g1 g2 g3
      go_enter Tryz.func15, Tryz.ntmps15
      go_wp2_with (first | rw [hB] | fail)
      refine (unhide HMY).mono ?_
      rintro e w1 ⟨rfl, b1⟩
      have HB1 := hide b1
      clear q0 q1
      obtain ⟨q0, q1⟩ := unhide HBX w1 b1
      have hc4 := (unhide HR w1 b1).c4
      rw [hdn] at hc4
      clear b1
      go_wp2_with fail
      refine (unhide HNW w1 (unhide HB1)).mono ?_
      rintro e w3 ⟨dv, rfl, o3, b3⟩
      obtain ⟨na, nc, rfl⟩ := own_shape o3
      have HB3 : Hid (Below B.heap.size B w3) := (unhide HB1).trans (b3.mono (unhide HB1).size)
      have HWB := hide (((unhide HBB).trans ((unhide HB3).mono (unhide HBB).size)).alloc ((unhide HBB).trans ((unhide HB3).mono (unhide HBB).size)).size (.cells #[.int .i64 Bst.none.ck.num, .int .i64 Bst.none.ck.slot, .int .i64 Bst.none.ck.last, .slice na Bst.none.ck.data.length nc] 88))
      clear b3 o3
      go_wp2
      refine bodyPost_ret (v := .tuple #[.int .i64 0, .int .i64 0, .bool false]) (by simp [results, Tryz.results15, go_sem]) rfl ?_
      exact ⟨rfl, unhide HWB⟩
    · have h0 : 0 ≤ nh := by omega
      obtain rfl := g3 h0
      have hpos := g2.1 h0
      rw [decide_eq_true hpos]
      have HPO := hide hpos
      clear g1 g2 g3 hlt hpos
      go_enter Tryz.func15, Tryz.ntmps15
      go_wp2_with (first | rw [hB] | fail)
      refine (unhide HMY).mono ?_
      rintro e w1 ⟨rfl, b1⟩
      have HB1 := hide b1
      clear q0 q1
      obtain ⟨q0, q1⟩ := unhide HBX w1 b1
      have hc4 := (unhide HR w1 b1).c4
      rw [hdn] at hc4
      clear b1
      go_wp2_with fail
      refine (unhide HNW w1 (unhide HB1)).mono ?_
      rintro e w3 ⟨dv, rfl, o3, b3⟩
      obtain ⟨na, nc, rfl⟩ := own_shape o3
      obtain ⟨W3, hW3⟩ : ∃ W3, w3.alloc (.cells #[.int .i64 c.ck.num, .int .i64 c.ck.slot, .int .i64 c.ck.last, .slice na c.ck.data.length nc] 88) = W3 := ⟨_, rfl⟩
      have bW3 : Below w3.heap.size w3 W3 := hW3 ▸ (Below.refl _ _).alloc (Nat.le_refl _) _
      have b3W : Below w1.heap.size w1 W3 := b3.trans (bW3.mono b3.size)
      have HB3 : Hid (Below B.heap.size B W3) := (unhide HB1).trans (b3W.mono (unhide HB1).size)
      obtain ⟨x0, x1, x2, x3, _⟩ := box4f (w := w3) (w1 := W3) (x0 := .int .i64 c.ck.num) (x1 := .int .i64 c.ck.slot) (x2 := .int .i64 c.ck.last) (x3 := .slice na c.ck.data.length nc) (t := 88) (by rw [hW3]; exact Below.refl _ _)
      have HWB := hide ((unhide HBB).trans ((unhide HB3).mono (unhide HBB).size))
      clear b3 o3 bW3 b3W
      go_wp2_with (first | rw [hW3] | fail)
      refine wp_region_held_drew (S := fun x => x.cell? ⟨w3.heap.size, 0, none⟩ = some (.int .i64 c.ck.num)) (by kernel_rfl) x0 (fun hHeld => ?_)
      refine wpAnyH_take (i := 0) (v := ?v1x0) rfl (by kernel_rfl) (by kernel_rfl) (by kernel_rfl) (fun _ _ _ h => h) (Or.inl ⟨by rfl, ?hy1x0⟩) (by assumption) ?rest1x0
      case hy1x0 => intro w hSw; go_simp <;> with_reducible rfl
      simp only [Act.put, List.getElem_toArray, List.getElem_cons_zero, List.setIfInBounds_toArray, List.set_cons_zero, List.set_cons_succ]
      refine wpAnyH_take (i := 1) (v := ?v2x1) rfl (by kernel_rfl) (by kernel_rfl) (by kernel_rfl) (fun _ _ _ h => h) (Or.inl ⟨by rfl, ?hy2x1⟩) (by assumption) ?rest2x1
      case hy2x1 => intro w hSw; go_simp <;> with_reducible rfl
      simp only [Act.put, List.getElem_toArray, List.getElem_cons_zero, List.getElem_cons_succ, List.setIfInBounds_toArray, List.set_cons_zero, List.set_cons_succ]
      refine wpAnyH_take (i := 2) (v := (.int .i64 c.ck.num)) rfl (by kernel_rfl) (by kernel_rfl) (by kernel_rfl) (fun _ _ _ h => h) (Or.inl ⟨by rfl, ?hy3x2⟩) (by assumption) ?rest3x2
      case hy3x2 => intro w hSw; go_simp <;> with_reducible rfl
      simp only [Act.put, List.getElem_toArray, List.getElem_cons_zero, List.getElem_cons_succ, List.setIfInBounds_toArray, List.set_cons_zero, List.set_cons_succ]
      refine wpAnyH_take (i := 3) (v := ?v4x3) rfl (by kernel_rfl) (by kernel_rfl) (by kernel_rfl) (fun _ _ _ h => h) (Or.inl ⟨by rfl, ?hy4x3⟩) (by assumption) ?rest4x3
      case hy4x3 => intro w hSw; go_simp <;> with_reducible rfl
      simp only [Act.put, List.getElem_toArray, List.getElem_cons_zero, List.getElem_cons_succ, List.setIfInBounds_toArray, List.set_cons_zero, List.set_cons_succ]
      refine wpAnyH_take (i := 4) (v := ?v5x4) rfl (by kernel_rfl) (by kernel_rfl) (by kernel_rfl) (fun _ _ _ h => h) (Or.inl ⟨by rfl, ?hy5x4⟩) (by assumption) ?rest5x4
      case hy5x4 => intro w hSw; go_simp <;> with_reducible rfl
      simp only [Act.put, List.getElem_toArray, List.getElem_cons_zero, List.getElem_cons_succ, List.setIfInBounds_toArray, List.set_cons_zero, List.set_cons_succ]
      refine wpAnyH_take (i := 5) (v := ?v6x5) rfl (by kernel_rfl) (by kernel_rfl) (by kernel_rfl) (fun _ _ _ h => h) (Or.inl ⟨by rfl, ?hy6x5⟩) (by assumption) ?rest6x5
      case hy6x5 => intro w hSw; go_simp <;> with_reducible rfl
      simp only [Act.put, List.getElem_toArray, List.getElem_cons_zero, List.getElem_cons_succ, List.setIfInBounds_toArray, List.set_cons_zero, List.set_cons_succ]
      refine wpAnyH_done (by kernel_rfl) ?_ _
      have HWD := hide (unhide HWB).drew
      go_wp2
      refine bodyPost_ret (v := .tuple #[.int .i64 c.at', .int .i64 c.ck.num, .bool true]) (by simp [results, Tryz.results15, go_sem]) rfl ?_
      exact ⟨rfl, unhide HWD⟩
end Go.Proofs.YtiijbklaapaheaaGreat

/- The document's checkpoints: Save. -/
namespace Go.Proofs.YtiijbklaapaheaaGreat
open Go.RowKit
set_option maxRecDepth 100000
variable {w : World} {S : Nat → Prop} {hr gp gw cp cw : Nat} {pb cb : Nat → Nat} {bv : Nat → Nat → Value} {F : Fl} {kp : Int}

set_option maxHeartbeats 1600000 in
theorem rencode_far (number slot last : Int) (ao : Option Addr) (len cap : Nat) (w : World) (hl : len ≤ 9223372036854775807) (hf : faultE number slot last len ≠ 0) :
    Calls Tryz.prog 43 #[.int .i64 number, .agg #[.int .i64 slot, .int .i64 last, .slice ao len cap]] w fun e w' => e = .returned (.tuple #[.slice none 0 0, .int .i64 (faultE number slot last len)]) ∧ Below w.heap.size w w' := by
  obtain ⟨B, hB⟩ : ∃ B, w.alloc (.cells #[.int .i64 slot, .int .i64 last, .slice ao len cap] 35) = B := ⟨_, rfl⟩
  have HBB : Hid (Below w.heap.size w B) := hB ▸ (Below.refl _ _).alloc (Nat.le_refl _) _
  have HSZ : Hid (B.heap.size = w.heap.size + 1) := by show _ = _; rw [← hB]; simp
  obtain ⟨q0, q1, q2⟩ : B.cell? ⟨w.heap.size, 0, none⟩ = some (.int .i64 slot) ∧ B.cell? ⟨w.heap.size, 1, none⟩ = some (.int .i64 last) ∧ B.cell? ⟨w.heap.size, 2, none⟩ = some (.slice ao len cap) := box3 (by rw [hB, ← unhide HSZ]; exact Below.refl _ _)
  have HC0 := hide (count_any number B)
  have HC1 := hide (count_any slot B)
  have HC2 := hide (count_any last B)
  rcases faultE_not hf with ⟨he, h1 | ⟨h1, h2⟩ | ⟨h1, h2, h3⟩ | ⟨h1, h2, h3, h4⟩⟩ | ⟨he, h1, h2, h3, h4, h5⟩
  · rw [he]
    rw [h1] at HC0
    clear hf he
    go_enter Tryz.func43, Tryz.ntmps43
    go_wp2_with (first | rw [hB] | (go_at_call 70; refine (unhide HC0).mono ?_; rintro e w1 ⟨rfl, rfl⟩))
    go_ret2
    exact ⟨rfl, unhide HBB⟩
  · rw [he]
    rw [h1] at HC0
    clear hf he
    go_enter Tryz.func43, Tryz.ntmps43
    go_wp2_with (first | rw [hB] | (go_at_call 70; refine (unhide HC0).mono ?_; rintro e w1 ⟨rfl, rfl⟩))
    go_ret2
    exact ⟨rfl, unhide HBB⟩
  · rw [he]
    rw [h1] at HC0
    rw [h3] at HC1
    clear hf he
    go_enter Tryz.func43, Tryz.ntmps43
    go_wp2_with (first | rw [hB] | fail)
    refine (unhide HC0).mono ?_
    rintro e w1 ⟨rfl, rfl⟩
    go_wp2_with fail
    refine (unhide HC1).mono ?_
    rintro e w1 ⟨rfl, rfl⟩
    go_wp2
    go_ret2
    exact ⟨rfl, unhide HBB⟩
  · rw [he]
    rw [h1] at HC0
    rw [h3] at HC1
    rw [h4] at HC2
    clear hf he
    go_enter Tryz.func43, Tryz.ntmps43
    go_wp2_with (first | rw [hB] | fail)
    refine (unhide HC0).mono ?_
    rintro e w1 ⟨rfl, rfl⟩
    go_wp2_with fail
    refine (unhide HC1).mono ?_
    rintro e w1 ⟨rfl, rfl⟩
    go_wp2_with fail
    refine (unhide HC2).mono ?_
    rintro e w1 ⟨rfl, rfl⟩
    go_wp2
    go_ret2
    exact ⟨rfl, unhide HBB⟩
  · rw [he]
    rw [h1] at HC0
    rw [h3] at HC1
    rw [h4] at HC2
    clear hf he
    go_enter Tryz.func43, Tryz.ntmps43
    go_wp2_with (first | rw [hB] | fail)
    refine (unhide HC0).mono ?_
    rintro e w1 ⟨rfl, rfl⟩
    go_wp2_with fail
    refine (unhide HC1).mono ?_
    rintro e w1 ⟨rfl, rfl⟩
    go_wp2_with fail
    refine (unhide HC2).mono ?_
    rintro e w1 ⟨rfl, rfl⟩
    go_wp2
    go_ret2
    exact ⟨rfl, unhide HBB⟩


theorem rencode_e (number slot last : Int) (ao : Option Addr) (cap : Nat) (ds : List Int) (w : World) (hd : Sees w .u8 (.slice ao ds.length cap) ds) (hby : Byt ds) (hl : ds.length ≤ 9223372036854775807) :
    Calls Tryz.prog 43 #[.int .i64 number, .agg #[.int .i64 slot, .int .i64 last, .slice ao ds.length cap]] w fun e w' => ∃ a l c, e = .returned (.tuple #[.slice a l c, .int .i64 (faultE number slot last ds.length)]) ∧ Below w.heap.size w w' := by
  by_cases hf : faultE number slot last ds.length = 0
  · refine (rencode_ok number slot last _ ds w hd hby hf).mono ?_
    rintro e w' ⟨v, rfl, ho, hb⟩
    obtain ⟨a, c, rfl⟩ := own_shape ho
    exact ⟨_, _, _, by rw [hf], hb⟩
  · refine (rencode_far number slot last ao ds.length cap w hl hf).mono ?_
    rintro e w' ⟨rfl, hb⟩
    exact ⟨_, _, _, rfl, hb⟩

theorem faultE_up {slot last num : Int} {len : Nat} (h : faultE 1 slot last len = 0) (h0 : 0 ≤ num) (h1 : num ≤ 1099511627776) (h2 : num ≠ 1099511627776) : faultE (num + 1) slot last len = 0 := by
  unfold faultE at h ⊢
  split at h
  · rename_i c
    rw [if_pos ⟨by omega, by omega, c.2.2.1, c.2.2.2⟩]
    exact h
  · cases h

/-- Where the document's Save writes. -/
theorem toH_nwH (F : Fl) (f m : Nat) : (nwH (nwk F f m 2) = 0 ∧ toH (nwk F f m 2) = 1) ∨ (nwH (nwk F f m 2) ≠ 0 ∧ toH (nwk F f m 2) = 0) := by
  rcases nwk_cases F f m with ⟨_, _, h⟩ | ⟨_, _, hp, h⟩ | ⟨_, _, hp, h⟩
  · rw [h]; exact Or.inr ⟨by decide, rfl⟩
  · rw [h]
    have hp' : (0 : Int) < (dec (rdL F f m)).num := by omega
    left
    unfold nwH toH
    rw [if_pos (show (0 : Int) < (Bst.mk 0 (dec (rdL F f m))).ck.num from hp'), if_pos (show (0 : Int) < (Bst.mk 0 (dec (rdL F f m))).ck.num from hp')]
    exact ⟨rfl, rfl⟩
  · rw [h]
    have hp' : (0 : Int) < (dec (rdL F (f + m) m)).num := by omega
    right
    unfold nwH toH
    rw [if_pos (show (0 : Int) < (Bst.mk 1 (dec (rdL F (f + m) m))).ck.num from hp'), if_pos (show (0 : Int) < (Bst.mk 1 (dec (rdL F (f + m) m))).ck.num from hp')]
    exact ⟨by show (1 : Int) ≠ 0; decide, rfl⟩

/-- A piece of bytes that lie in a row. -/
theorem piece_sees {x : World} {gb cpp : Nat} {zs : List Int} (h : ∀ t, t < zs.length → x.cell? ⟨gb, t, none⟩ = some (.int .u8 (zs.getD t 0))) (hc : zs.length ≤ cpp) (k : Nat) (hk : k * 256 < zs.length) :
    Sees x .u8 (.slice (some ⟨gb, k * 256, none⟩) (ch zs k).length (cpp - k * 256)) (ch zs k) := by
  have hl := ch_len zs k
  refine ⟨_, _, rfl, by omega, (fun h => by cases h), fun a ha t ht => ?_⟩
  obtain rfl := Option.some.inj ha
  have hadd : (⟨gb, k * 256, none⟩ : Addr).add t = ⟨gb, k * 256 + t, none⟩ := by unfold Addr.add; split <;> simp_all
  rw [hadd, h (k * 256 + t) (by omega)]
  unfold ch
  simp [List.getD, show t < 256 by omega]
theorem wrt_drop (k : Nat) (zs : List Int) (hk : k < chN zs.length) :
    ((List.range (chN zs.length)).map (ch zs)).drop k = ch zs k :: ((List.range (chN zs.length)).map (ch zs)).drop (k + 1) := by
  rw [List.drop_eq_getElem_cons (by simpa using hk)]
  simp
end Go.Proofs.YtiijbklaapaheaaGreat

/- The document's checkpoints: Save, the walk. -/
namespace Go.Proofs.YtiijbklaapaheaaGreat
open Go.RowKit
set_option maxRecDepth 100000
variable {w : World} {S : Nat → Prop} {hr gp gw cp cw : Nat} {pb cb : Nat → Nat} {bv : Nat → Nat → Value} {F : Fl} {kp : Int}

set_option maxHeartbeats 6400000 in
theorem rsave_any (H : IsRf w S hr gp gw cp cw pb cb bv F kp) (hS : ∀ k, S k → k < w.heap.size) (f n : Int) (hf : -9223372036854775808 ≤ f ∧ f ≤ 9223372036854775807) (hn : -9223372036854775808 ≤ n ∧ n ≤ 9223372036854775807) (slot last : Int) (ao : Option Addr) (dcap : Nat) (ds : List Int)
    (hd : Sees w .u8 (.slice ao ds.length dcap) ds) (hby : Byt ds) (hl : ds.length ≤ 9223372036854775807) :
    Calls Tryz.prog 13 #[P0 hr, .agg #[.int .i64 f, .int .i64 n], .agg #[.int .i64 slot, .int .i64 last, .slice ao ds.length dcap]] w fun e w' => e = .returned (.int .i64 (sav F f n slot last ds).1) ∧ IsRfE w' S hr gp gw cp cw (sav F f n slot last ds).2 ∧ Upd (OnlyRf hr gp gw) w.heap.size w w' := by
  obtain ⟨B, hB⟩ : ∃ B, (w.alloc (.cells #[.int .i64 f, .int .i64 n] 32)).alloc (.cells #[.int .i64 slot, .int .i64 last, .slice ao ds.length dcap] 35) = B := ⟨_, rfl⟩
  have HBB : Hid (Below w.heap.size w B) := hB ▸ ((Below.refl _ _).alloc (Nat.le_refl _) _).alloc (by simp) _
  have HSZ : Hid (B.heap.size = w.heap.size + 2) := by show _ = _; rw [← hB]; simp
  have HBX : Hid (∀ x, Below B.heap.size B x → (x.cell? ⟨w.heap.size, 0, none⟩ = some (.int .i64 f) ∧ x.cell? ⟨w.heap.size, 1, none⟩ = some (.int .i64 n)) ∧ (x.cell? ⟨w.heap.size + 1, 0, none⟩ = some (.int .i64 slot) ∧ x.cell? ⟨w.heap.size + 1, 1, none⟩ = some (.int .i64 last) ∧ x.cell? ⟨w.heap.size + 1, 2, none⟩ = some (.slice ao ds.length dcap))) := fun x hx => by
    have hs := unhide HSZ
    have c : ∀ b o, b < w.heap.size + 2 → x.cell? ⟨b, o, none⟩ = B.cell? ⟨b, o, none⟩ := fun b o hb => hx.cell (p := ⟨b, o, none⟩) (by show b < _; omega)
    refine ⟨⟨?_, ?_⟩, ?_, ?_, ?_⟩ <;> (rw [c _ _ (by omega), ← hB]; simp [go_sem, World.cell?_alloc_old])
  have HR : Hid (∀ x, Below B.heap.size B x → IsRf x S hr gp gw cp cw pb cb bv F kp) := fun x hx => (H.below (unhide HBB)).below hx
  have HE1 : Hid (∀ x, Below B.heap.size B x → _) := fun x hx => rencode_e 1 slot last ao dcap ds x ((hd.below (unhide HBB)).below hx) hby hl
  have HSE : Hid (∀ x, Below B.heap.size B x → Sees x .u8 (.slice ao ds.length dcap) ds) := fun x hx => (hd.below (unhide HBB)).below hx
  have HW : Hid (∀ x, Below B.heap.size B x → Below w.heap.size w x) := fun x hx => (unhide HBB).trans (hx.mono (unhide HBB).size)
  have hle := H.le
  have HGL := hide H.rlt
  have HHS := hide hS
  have HHB := hide hby
  clear H hS hby
  have HMY := hide (rmay_any (unhide HR B (Below.refl _ _)) f n hf hn)
  obtain ⟨⟨q0, q1⟩, q2, q3, q4⟩ := unhide HBX B (Below.refl _ _)
  have HX : Hid (∀ x, Below B.heap.size B x → IsRfE x S hr gp gw cp cw F ∧ Upd (OnlyRf hr gp gw) w.heap.size w x) := fun x hx => ⟨⟨_, _, _, _, unhide HR x hx⟩, Upd.of (unhide HW x hx)⟩
  unfold sav
  by_cases hrg : regE F.n f n = 0
  case neg =>
    have h1 : regE F.n f n = 1 := by unfold regE at hrg ⊢; split at hrg; · rename_i c; rw [if_pos c]
                                     · exact absurd rfl hrg
    rw [if_pos hrg, h1]
    rw [decide_eq_false hrg] at HMY
    go_enter Tryz.func13, Tryz.ntmps13
    go_wp2_with (first | rw [hB] | fail)
    refine (unhide HMY).mono ?_
    rintro e w1 ⟨rfl, b1⟩
    have HZ := hide (unhide HX w1 b1)
    clear b1
    go_wp2
    go_ret
    exact ⟨rfl, unhide HZ⟩
  rw [if_neg (not_not_intro hrg)]
  rw [decide_eq_true hrg] at HMY
  generalize hfe : faultE 1 slot last ds.length = fe at HE1
  by_cases hx0 : fe = 0
  case neg =>
    rw [if_pos hx0]
    have hx' : ((fe : Int) != 0) = true := by simp [hx0]
    go_enter Tryz.func13, Tryz.ntmps13
    go_wp2_with (first | rw [hB] | fail)
    refine (unhide HMY).mono ?_
    rintro e w1 ⟨rfl, b1⟩
    have HB1 := hide b1
    clear q0 q1 q2 q3 q4
    obtain ⟨⟨q0, q1⟩, q2, q3, q4⟩ := unhide HBX w1 b1
    clear b1
    go_wp2_with fail
    refine (unhide HE1 w1 (unhide HB1)).mono ?_
    rintro e w2 ⟨a2, l2, c2, rfl, b2⟩
    have HZ := hide (unhide HX w2 ((unhide HB1).trans (b2.mono (unhide HB1).size)))
    clear b2
    go_wp2
    go_ret
    exact ⟨rfl, unhide HZ⟩
  subst hx0
  rw [if_neg (by simp)]
  cases hdn : F.down
  case true =>
    rw [if_pos rfl]
    go_enter Tryz.func13, Tryz.ntmps13
    go_wp2_with (first | rw [hB] | fail)
    refine (unhide HMY).mono ?_
    rintro e w1 ⟨rfl, b1⟩
    have HB1 := hide b1
    clear q0 q1 q2 q3 q4
    obtain ⟨⟨q0, q1⟩, q2, q3, q4⟩ := unhide HBX w1 b1
    clear b1
    go_wp2_with fail
    refine (unhide HE1 w1 (unhide HB1)).mono ?_
    rintro e w2 ⟨a2, l2, c2, rfl, b2⟩
    have HB2 := hide ((unhide HB1).trans (b2.mono (unhide HB1).size))
    have hc4 := (unhide HR w2 (unhide HB2)).c4
    rw [hdn] at hc4
    have HZ := hide (unhide HX w2 (unhide HB2))
    clear b2
    go_wp2
    go_ret
    exact ⟨rfl, unhide HZ⟩
  case false =>
  rw [if_neg (by decide)]
  obtain ⟨f', n', rfl, rfl, hn2, hfn⟩ := regE_is hrg hle
  simp only [Int.toNat_natCast]
  have HNW : Hid (∀ x, Below B.heap.size B x → _) := fun x hx => rnewest_any (unhide HR x hx) hdn f' n' hfn hn2
  have hto := toH_nwH F f' (n' / 2)
  obtain ⟨num0, num1, _, _⟩ := nwk_num F f' (n' / 2) 2
  generalize hgc : nwk F f' (n' / 2) 2 = c at HNW hto num0 num1 ⊢
  generalize nwH c = nh at HNW hto
  obtain ⟨m, hm⟩ : ∃ m, n' / 2 = m := ⟨_, rfl⟩
  have hm' : (n' : Int) / 2 = (m : Int) := by omega
  rw [hm]
  by_cases hmx : c.ck.num = 1099511627776
  · rw [if_pos hmx]
    clear hto num0 num1
    go_enter Tryz.func13, Tryz.ntmps13
    go_wp2_with (first | rw [hB] | fail)
    refine (unhide HMY).mono ?_
    rintro e w1 ⟨rfl, b1⟩
    have HB1 := hide b1
    clear q0 q1 q2 q3 q4
    obtain ⟨⟨q0, q1⟩, q2, q3, q4⟩ := unhide HBX w1 b1
    clear b1
    go_wp2_with fail
    refine (unhide HE1 w1 (unhide HB1)).mono ?_
    rintro e w2 ⟨a2, l2, c2, rfl, b2⟩
    have HB2 := hide ((unhide HB1).trans (b2.mono (unhide HB1).size))
    have hc4 := (unhide HR w2 (unhide HB2)).c4
    rw [hdn] at hc4
    clear b2 q0 q1 q2 q3 q4
    obtain ⟨⟨q0, q1⟩, q2, q3, q4⟩ := unhide HBX w2 (unhide HB2)
    go_wp2_with fail
    refine (unhide HNW w2 (unhide HB2)).mono ?_
    rintro e w3 ⟨dv, rfl, o3, b3⟩
    obtain ⟨na, nc, rfl⟩ := own_shape o3
    rw [hmx]
    obtain ⟨W3, hW3⟩ : ∃ W3, w3.alloc (.cells #[.int .i64 1099511627776, .int .i64 c.ck.slot, .int .i64 c.ck.last, .slice na c.ck.data.length nc] 88) = W3 := ⟨_, rfl⟩
    have bW3 : Below w3.heap.size w3 W3 := hW3 ▸ (Below.refl _ _).alloc (Nat.le_refl _) _
    have HB3 : Hid (Below B.heap.size B W3) := (unhide HB2).trans ((b3.trans (bW3.mono b3.size)).mono (unhide HB2).size)
    obtain ⟨x0, x1, x2, x3, _⟩ := box4f (w := w3) (w1 := W3) (x0 := .int .i64 1099511627776) (x1 := .int .i64 c.ck.slot) (x2 := .int .i64 c.ck.last) (x3 := .slice na c.ck.data.length nc) (t := 88) (by rw [hW3]; exact Below.refl _ _)
    have HZ := hide (unhide HX W3 (unhide HB3))
    clear b3 o3 bW3
    go_wp2_with (first | rw [hW3] | fail)
    go_ret
    exact ⟨rfl, unhide HZ⟩
  rw [if_neg hmx]
  unfold savW
  have hfn1 := faultE_up hfe num0 num1 hmx
  have HE2 : Hid (∀ x, Below B.heap.size B x → _) := fun x hx => rencode_ok (c.ck.num + 1) slot last _ ds x (unhide HSE x hx) (unhide HHB) hfn1
  have hzp := ckB_pos (c.ck.num + 1) slot last ds
  have hzb : Byt (ckB (c.ck.num + 1) slot last ds) := ((putL_byt _).append (bodyB_byt (unhide HHB))).append (lowL_byte _ _)
  have hzl := ckB_le (c.ck.num + 1) slot last ds
  have hdl : ds.length ≤ 524288 := by
    unfold faultE at hfe
    split at hfe
    · split at hfe
      · assumption
      · cases hfe
    · cases hfe
  generalize hgz : ckB (c.ck.num + 1) slot last ds = zs at HE2 hzp hzb hzl ⊢
  have HZB := hide hzb
  have HZL : Hid (0 < zs.length ∧ zs.length ≤ 524341) := ⟨hzp, by omega⟩
  have hnum : IntKind.i64.wrap (c.ck.num + 1) = c.ck.num + 1 := by rw [IntKind.wrap_i64]; omega
  have hne : (c.ck.num == 1099511627776) = false := by simp [hmx]
  have HMM : Hid (m ≤ 512 ∧ f' ≤ 1024) := ⟨by omega, by omega⟩
  by_cases hlong : m * 4096 < zs.length
  · rw [if_pos hlong]
    have hlong' : (m : Int) * 16 * 256 < (zs.length : Int) := by omega
    clear hto
    go_enter Tryz.func13, Tryz.ntmps13
    go_wp2_with (first | rw [hB] | fail)
    refine (unhide HMY).mono ?_
    rintro e w1 ⟨rfl, b1⟩
    have HB1 := hide b1
    clear q0 q1 q2 q3 q4
    obtain ⟨⟨q0, q1⟩, q2, q3, q4⟩ := unhide HBX w1 b1
    clear b1
    go_wp2_with fail
    refine (unhide HE1 w1 (unhide HB1)).mono ?_
    rintro e w2 ⟨a2, l2, c2, rfl, b2⟩
    have HB2 := hide ((unhide HB1).trans (b2.mono (unhide HB1).size))
    have hc4 := (unhide HR w2 (unhide HB2)).c4
    rw [hdn] at hc4
    clear b2 q0 q1 q2 q3 q4
    obtain ⟨⟨q0, q1⟩, q2, q3, q4⟩ := unhide HBX w2 (unhide HB2)
    go_wp2_with fail
    refine (unhide HNW w2 (unhide HB2)).mono ?_
    rintro e w3 ⟨dv, rfl, o3, b3⟩
    obtain ⟨na, nc, rfl⟩ := own_shape o3
    obtain ⟨W3, hW3⟩ : ∃ W3, w3.alloc (.cells #[.int .i64 c.ck.num, .int .i64 c.ck.slot, .int .i64 c.ck.last, .slice na c.ck.data.length nc] 88) = W3 := ⟨_, rfl⟩
    have bW3 : Below w3.heap.size w3 W3 := hW3 ▸ (Below.refl _ _).alloc (Nat.le_refl _) _
    have HB3 : Hid (Below B.heap.size B W3) := (unhide HB2).trans ((b3.trans (bW3.mono b3.size)).mono (unhide HB2).size)
    obtain ⟨x0, x1, x2, x3, _⟩ := box4f (w := w3) (w1 := W3) (x0 := .int .i64 c.ck.num) (x1 := .int .i64 c.ck.slot) (x2 := .int .i64 c.ck.last) (x3 := .slice na c.ck.data.length nc) (t := 88) (by rw [hW3]; exact Below.refl _ _)
    clear b3 o3 bW3 q0 q1 q2 q3 q4 hc4
    obtain ⟨⟨q0, q1⟩, q2, q3, q4⟩ := unhide HBX W3 (unhide HB3)
    go_wp2_with (first | rw [hW3] | fail)
    refine (unhide HE2 W3 (unhide HB3)).mono ?_
    rintro e w4 ⟨v4, rfl, o4, b4⟩
    obtain ⟨gb, cpp, rfl, hgb1, hgb2, hcp, hcells⟩ := row_of o4 (unhide HZL).1
    have HB4 : Hid (Below B.heap.size B w4) := (unhide HB3).trans (b4.mono (unhide HB3).size)
    have HCL := hide hcells
    have HGB : Hid (B.heap.size ≤ gb ∧ gb < w4.heap.size ∧ zs.length ≤ cpp) := ⟨by have := (unhide HB3).size; omega, hgb2, hcp⟩
    have HX4 := hide (unhide HX w4 (unhide HB4))
    clear o4 b4 hgb1 hgb2 hcp hcells q0 q1 q2 q3 q4 x0 x1 x2 x3
    obtain ⟨⟨q0, q1⟩, _⟩ := unhide HBX w4 (unhide HB4)
    go_wp2_with (first | rw [hm'] | fail)
    go_ret
    exact ⟨rfl, unhide HX4⟩
  rw [if_neg hlong]
  have hshort : (zs.length : Int) ≤ (m : Int) * 16 * 256 := by omega
  have HSH : Hid (zs.length ≤ m * 4096) := by show _ ≤ _; omega
  clear hlong
  rcases hto with ⟨rfl, ht⟩ | ⟨hnh, ht⟩
  · rw [ht, Nat.one_mul]
    obtain ⟨a, ha⟩ : ∃ a : Nat, (f' : Int) + (m : Int) = a := ⟨f' + m, by omega⟩
    rw [show f' + m = a by omega]
    have HAM : Hid (a + m ≤ 2048) := by show _ ≤ _; omega
    go_enter Tryz.func13, Tryz.ntmps13
    go_wp2_with (first | rw [hB] | fail)
    refine (unhide HMY).mono ?_
    rintro e w1 ⟨rfl, b1⟩
    have HB1 := hide b1
    clear q0 q1 q2 q3 q4
    obtain ⟨⟨q0, q1⟩, q2, q3, q4⟩ := unhide HBX w1 b1
    clear b1
    go_wp2_with fail
    refine (unhide HE1 w1 (unhide HB1)).mono ?_
    rintro e w2 ⟨a2, l2, c2, rfl, b2⟩
    have HB2 := hide ((unhide HB1).trans (b2.mono (unhide HB1).size))
    have hc4 := (unhide HR w2 (unhide HB2)).c4
    rw [hdn] at hc4
    clear b2 q0 q1 q2 q3 q4
    obtain ⟨⟨q0, q1⟩, q2, q3, q4⟩ := unhide HBX w2 (unhide HB2)
    go_wp2_with fail
    refine (unhide HNW w2 (unhide HB2)).mono ?_
    rintro e w3 ⟨dv, rfl, o3, b3⟩
    obtain ⟨na, nc, rfl⟩ := own_shape o3
    obtain ⟨W3, hW3⟩ : ∃ W3, w3.alloc (.cells #[.int .i64 c.ck.num, .int .i64 c.ck.slot, .int .i64 c.ck.last, .slice na c.ck.data.length nc] 88) = W3 := ⟨_, rfl⟩
    have bW3 : Below w3.heap.size w3 W3 := hW3 ▸ (Below.refl _ _).alloc (Nat.le_refl _) _
    have HB3 : Hid (Below B.heap.size B W3) := (unhide HB2).trans ((b3.trans (bW3.mono b3.size)).mono (unhide HB2).size)
    obtain ⟨x0, x1, x2, x3, _⟩ := box4f (w := w3) (w1 := W3) (x0 := .int .i64 c.ck.num) (x1 := .int .i64 c.ck.slot) (x2 := .int .i64 c.ck.last) (x3 := .slice na c.ck.data.length nc) (t := 88) (by rw [hW3]; exact Below.refl _ _)
    clear b3 o3 bW3 q0 q1 q2 q3 q4 hc4
    obtain ⟨⟨q0, q1⟩, q2, q3, q4⟩ := unhide HBX W3 (unhide HB3)
    go_wp2_with (first | rw [hW3] | fail)
    refine (unhide HE2 W3 (unhide HB3)).mono ?_
    rintro e w4 ⟨v4, rfl, o4, b4⟩
    obtain ⟨gb, cpp, rfl, hgb1, hgb2, hcp, hcells⟩ := row_of o4 (unhide HZL).1
    have HB4 : Hid (Below B.heap.size B w4) := (unhide HB3).trans (b4.mono (unhide HB3).size)
    have HCL := hide hcells
    have HGB : Hid (B.heap.size ≤ gb ∧ gb < w4.heap.size ∧ zs.length ≤ cpp) := ⟨by have := (unhide HB3).size; omega, hgb2, hcp⟩
    have HX4 := hide (unhide HX w4 (unhide HB4))
    clear o4 b4 hgb1 hgb2 hcp hcells q0 q1 q2 q3 q4 x0 x1 x2 x3
    obtain ⟨⟨q0, q1⟩, _⟩ := unhide HBX w4 (unhide HB4)
    have HCE : Hid (gb ≠ hr ∧ gb ≠ gp ∧ gb ≠ gw ∧ w.heap.size < w4.heap.size) := by
      obtain ⟨l1, l2, l3, _⟩ := unhide HGL
      have := unhide HGB
      have := unhide HSZ
      refine ⟨?_, ?_, ?_, ?_⟩ <;> omega
    have HRW : Hid (∀ x, Upd (OnlyRf hr gp gw) w4.heap.size w4 x → ∀ t, t < zs.length → x.cell? ⟨gb, t, none⟩ = some (.int .u8 (zs.getD t 0))) := fun x hx t ht => by
      obtain ⟨n1, n2, n3, _⟩ := unhide HCE
      rw [hx.cell (p := ⟨gb, t, none⟩) (unhide HGB).2.1 (by rintro (c | c | c); exact n1 c; exact n2 c; exact n3 c)]
      exact unhide HCL t ht
    have HSS : Hid (∀ x : World, w4.heap.size ≤ x.heap.size → ∀ k, S k → k < x.heap.size) := fun x hx k hk => by have := unhide HHS k hk; have := (unhide HCE).2.2.2; omega
    have HUW : Hid (∀ x, Upd (OnlyRf hr gp gw) w4.heap.size w4 x → Upd (OnlyRf hr gp gw) w.heap.size w x) := fun x hx => (unhide HX4).2.trans (hx.less (by have := (unhide HCE).2.2.2; omega))
    go_wp2_with (first | rw [hm'] | rw [ha] | fail)
    go_loopw [15] (fun cc wr => ∃ (k : Nat) (G : Fl), k ≤ m ∧ cc = .int .i64 ((a + k : Nat) : Int) ∧ IsRfE wr S hr gp gw cp cw G ∧ clr F a m = clr G (a + k) (m - k) ∧ Upd (OnlyRf hr gp gw) w4.heap.size w4 wr) (fun cc _ => a + m - (intOf cc).toNat)
    case atStart => exact ⟨0, F, Nat.zero_le _, rfl, (unhide HX4).1, rfl, Upd.refl _ _ _⟩
    case round =>
      obtain ⟨k, G, hk, rfl, hI, hE, hU⟩ := hrel
      have hsz := hU.size
      by_cases hlt : k < m
      · have hlt' : decide (((a + k : Nat) : Int) < (a : Int) + m) = true := by simp; omega
        obtain ⟨mm, hmk⟩ : ∃ mm, m - k = mm + 1 := ⟨m - k - 1, by omega⟩
        rw [hmk, clr_succ] at hE
        obtain ⟨pb', cb', bv', kp', Hr⟩ := hI
        have HUS := hide (rused_any Hr ((a + k : Nat) : Int))
        have hu0 : 0 ≤ G.usedE ((a + k : Nat) : Int) := by unfold Fl.usedE; split <;> omega
        have HI := hide (show IsRfE wr S hr gp gw cp cw G from ⟨_, _, _, _, Hr⟩)
        have HER := hide (rerase_all Hr (unhide HSS wr hsz) ((a + k : Nat) : Int))
        have HU := hide hU
        have HMK := hide hmk
        clear Hr hU hmk
        by_cases cu : G.usedE ((a + k : Nat) : Int) = 0
        · rw [cu] at HUS
          have HE2' := hide (hE.trans (if_pos cu))
          clear hE hu0 HER
          go_wp2_with fail
          refine (unhide HUS).mono ?_
          rintro e w5 ⟨rfl, rfl⟩
          go_wp2
          go_roundw
          case rel => exact ⟨k + 1, G, by omega, by go_num, unhide HI, by rw [unhide HE2', show m - (k + 1) = mm by have := unhide HMK; omega]; rfl, unhide HU⟩
          case measure => simp [intOf]; omega
        · have HE2' := hide (hE.trans (if_neg cu))
          have cpos : 0 < G.usedE ((a + k : Nat) : Int) := by omega
          generalize G.usedE ((a + k : Nat) : Int) = us at HUS cu hu0 cpos
          generalize G.erase ((a + k : Nat) : Int) = R at HER HE2'
          obtain ⟨er, G2⟩ := R
          simp only at HER HE2'
          clear hE hu0 cu
          by_cases ce : er = 0
          · subst ce
            have HE3 := hide ((unhide HE2').trans (if_neg (by simp)))
            clear HE2'
            go_wp2_with fail
            refine (unhide HUS).mono ?_
            rintro e w5 ⟨rfl, rfl⟩
            go_wp2_with fail
            refine (unhide HER).mono ?_
            rintro e w6 ⟨rfl, i6, u6⟩
            have HI6 := hide i6
            have HU6 := hide ((unhide HU).trans (u6.less hsz))
            clear i6 u6
            go_wp2
            go_roundw
            case rel => exact ⟨k + 1, G2, by omega, by go_num, unhide HI6, by rw [unhide HE3, show m - (k + 1) = mm by have := unhide HMK; omega]; rfl, unhide HU6⟩
            case measure => simp [intOf]; omega
          · have HE3 := hide ((unhide HE2').trans (if_pos ce))
            have ce' : ((er : Int) != 0) = true := by simp [ce]
            clear HE2'
            go_wp2_with fail
            refine (unhide HUS).mono ?_
            rintro e w5 ⟨rfl, rfl⟩
            go_wp2_with fail
            refine (unhide HER).mono ?_
            rintro e w6 ⟨rfl, i6, u6⟩
            have HI6 := hide i6
            have HU6 := hide (unhide HUW w6 ((unhide HU).trans (u6.less hsz)))
            clear i6 u6
            go_wp2
            go_ret
            unfold wrtH
            rw [unhide HE3, if_pos ce]
            exact ⟨rfl, unhide HI6, unhide HU6⟩
      · obtain rfl : k = m := by omega
        have hE0 : clr F a k = (0, G) := by rw [hE, Nat.sub_self]; rfl
        have HE0 := hide hE0
        have HI := hide hI
        have HU := hide hU
        obtain ⟨wo, hwo⟩ : ∃ wo, wo = wr := ⟨_, rfl⟩
        subst hwo
        clear hE hE0 hI hU hsz
        go_wp2
        go_loopw [17] (fun cc wr => ∃ (j : Nat) (G2 : Fl), j ≤ chN zs.length ∧ cc = .int .i64 j ∧ IsRfE wr S hr gp gw cp cw G2 ∧ wrt G a 0 ((List.range (chN zs.length)).map (ch zs)) = wrt G2 a j (((List.range (chN zs.length)).map (ch zs)).drop j) ∧ Upd (OnlyRf hr gp gw) w4.heap.size w4 wr) (fun cc _ => chN zs.length - (intOf cc).toNat)
        case atStart => exact ⟨0, G, Nat.zero_le _, rfl, unhide HI, rfl, unhide HU⟩
        case round =>
          obtain ⟨j, G2, hj, rfl, hI, hE, hU⟩ := hrel
          have hsz := hU.size
          have hN : chN zs.length = (zs.length + 255) / 256 := rfl
          have hzl2 := unhide HZL
          have hgb := unhide HGB
          have ham := unhide HAM
          by_cases hjl : j < chN zs.length
          · have hj256 : (j : Int) * 256 < (zs.length : Int) := by omega
            obtain ⟨lo, hlo⟩ : ∃ lo : Nat, (j : Int) * 256 = (lo : Int) := ⟨j * 256, by omega⟩
            have hlo' : lo = j * 256 := by omega
            have hlen := ch_len zs j
            obtain ⟨hi, hhi⟩ : ∃ hi : Nat, min (zs.length : Int) (((j : Int) + 1) * 256) = (hi : Int) := ⟨min zs.length ((j + 1) * 256), by omega⟩
            have hhl : hi - lo = (ch zs j).length := by omega
            obtain ⟨i, hi16⟩ : ∃ i : Nat, (j : Int) / 16 = (i : Int) := ⟨j / 16, by omega⟩
            obtain ⟨r, hr16⟩ : ∃ r : Nat, (j : Int) % 16 = (r : Int) := ⟨j % 16, by omega⟩
            obtain ⟨q, hq⟩ : ∃ q : Nat, (a : Int) + (i : Int) = (q : Int) := ⟨a + i, by omega⟩
            obtain ⟨pb', cb', bv', kp', Hr⟩ := hI
            have hpc := piece_sees (unhide HRW wr hU) hgb.2.2 j (by omega)
            have HPR : Hid (Calls Tryz.prog 26 #[P0 hr, .int .i64 (q : Int), .int .i64 (r : Int), .slice (some ⟨gb, lo, none⟩) (hi - lo) (cpp - lo)] wr fun e w' => e = .returned (.int .i64 (G2.prog ((a + j / 16 : Nat) : Int) ((j % 16 : Nat) : Int) (ch zs j)).1) ∧ IsRfE w' S hr gp gw cp cw (G2.prog ((a + j / 16 : Nat) : Int) ((j % 16 : Nat) : Int) (ch zs j)).2 ∧ Upd (OnlyRf hr gp gw) wr.heap.size wr w') := by
              rw [hhl, hlo', show (q : Int) = ((a + j / 16 : Nat) : Int) by omega, show (r : Int) = ((j % 16 : Nat) : Int) by omega]
              refine rprog_all Hr (unhide HSS wr hsz) _ _ _ _ hpc ?_ (ch_byt (unhide HZB) j)
              intro a' l' c' e _
              simp only [Value.slice.injEq, Option.some.injEq] at e
              obtain ⟨n1, n2, n3, _⟩ := unhide HCE
              rw [← e.1]
              rintro (c | c | c)
              · exact n1 c
              · exact n2 c
              · exact n3 c
            rw [wrt_drop j zs hjl, wrt_cons] at hE
            generalize G2.prog ((a + j / 16 : Nat) : Int) ((j % 16 : Nat) : Int) (ch zs j) = R at HPR hE
            obtain ⟨er, G3⟩ := R
            simp only at HPR hE
            have HU2 := hide hU
            have hlc : (lo : Int) ≤ (hi : Int) := by omega
            have hic : (hi : Int) ≤ (cpp : Int) := by omega
            have hne2 : ¬ cpp = lo := by omega
            have hjt : (j : Int).tmod 16 = (r : Int) := by rw [Int.tmod_eq_emod_of_nonneg (by omega)]; exact hr16
            have hj2 : j ≤ 4096 := by omega
            have HE := hide hE
            have HJL := hide (And.intro hjl hN)
            have HSZ5 := hide hsz
            clear hE hU Hr hpc hhl hlen hlo' hjl hN hzl2 hgb ham hsz
            by_cases ce : er = 0
            · subst ce
              have HE3 := hide ((unhide HE).trans (if_neg (by simp)))
              clear HE
              go_wp2_with fail
              refine (unhide HPR).mono ?_
              rintro e w6 ⟨rfl, i6, u6⟩
              have HI6 := hide i6
              have HU6 := hide ((unhide HU2).trans (u6.less (unhide HSZ5)))
              clear i6 u6
              go_wp2
              go_roundw
              case rel => (repeat apply Exists.intro); exact ⟨⟨j + 1, G3, by have := (unhide HJL).1; omega, by go_num, unhide HI6, unhide HE3, unhide HU6⟩, rfl⟩
              case measure => have := (unhide HJL).1; simp [intOf]; omega
            · have HE3 := hide ((unhide HE).trans (if_pos ce))
              have ce' : ((er : Int) != 0) = true := by simp [ce]
              clear HE
              go_wp2_with fail
              refine (unhide HPR).mono ?_
              rintro e w6 ⟨rfl, i6, u6⟩
              have HI6 := hide i6
              have HU6 := hide (unhide HUW w6 ((unhide HU2).trans (u6.less (unhide HSZ5))))
              clear i6 u6
              go_wp2
              go_ret
              unfold wrtH
              rw [unhide HE0, if_neg (by simp), unhide HE3]
              exact ⟨rfl, unhide HI6, unhide HU6⟩
          · have hj256 : (zs.length : Int) ≤ (j : Int) * 256 := by omega
            have hE0 : wrt G a 0 ((List.range (chN zs.length)).map (ch zs)) = (0, G2) := by
              rw [hE, List.drop_eq_nil_of_le (by simp; omega)]; rfl
            have HE4 := hide hE0
            have HI6 := hide hI
            have HU6 := hide (unhide HUW wr hU)
            have hj2 : j ≤ 4096 := by omega
            clear hE hE0 hI hU hjl hN hzl2 hgb ham hsz
            go_wp2
            go_ret
            unfold wrtH
            rw [unhide HE0, if_neg (by simp), unhide HE4]
            exact ⟨rfl, unhide HI6, unhide HU6⟩
  · rw [ht, Nat.zero_mul, Nat.add_zero]
    have hnh' : (nh == 0) = false := by simp [hnh]
    obtain ⟨a, rfl⟩ : ∃ a : Nat, a = f' := ⟨_, rfl⟩
    have HAM : Hid (a + m ≤ 2048) := by show _ ≤ _; omega
    go_enter Tryz.func13, Tryz.ntmps13
    go_wp2_with (first | rw [hB] | fail)
    refine (unhide HMY).mono ?_
    rintro e w1 ⟨rfl, b1⟩
    have HB1 := hide b1
    clear q0 q1 q2 q3 q4
    obtain ⟨⟨q0, q1⟩, q2, q3, q4⟩ := unhide HBX w1 b1
    clear b1
    go_wp2_with fail
    refine (unhide HE1 w1 (unhide HB1)).mono ?_
    rintro e w2 ⟨a2, l2, c2, rfl, b2⟩
    have HB2 := hide ((unhide HB1).trans (b2.mono (unhide HB1).size))
    have hc4 := (unhide HR w2 (unhide HB2)).c4
    rw [hdn] at hc4
    clear b2 q0 q1 q2 q3 q4
    obtain ⟨⟨q0, q1⟩, q2, q3, q4⟩ := unhide HBX w2 (unhide HB2)
    go_wp2_with fail
    refine (unhide HNW w2 (unhide HB2)).mono ?_
    rintro e w3 ⟨dv, rfl, o3, b3⟩
    obtain ⟨na, nc, rfl⟩ := own_shape o3
    obtain ⟨W3, hW3⟩ : ∃ W3, w3.alloc (.cells #[.int .i64 c.ck.num, .int .i64 c.ck.slot, .int .i64 c.ck.last, .slice na c.ck.data.length nc] 88) = W3 := ⟨_, rfl⟩
    have bW3 : Below w3.heap.size w3 W3 := hW3 ▸ (Below.refl _ _).alloc (Nat.le_refl _) _
    have HB3 : Hid (Below B.heap.size B W3) := (unhide HB2).trans ((b3.trans (bW3.mono b3.size)).mono (unhide HB2).size)
    obtain ⟨x0, x1, x2, x3, _⟩ := box4f (w := w3) (w1 := W3) (x0 := .int .i64 c.ck.num) (x1 := .int .i64 c.ck.slot) (x2 := .int .i64 c.ck.last) (x3 := .slice na c.ck.data.length nc) (t := 88) (by rw [hW3]; exact Below.refl _ _)
    clear b3 o3 bW3 q0 q1 q2 q3 q4 hc4
    obtain ⟨⟨q0, q1⟩, q2, q3, q4⟩ := unhide HBX W3 (unhide HB3)
    go_wp2_with (first | rw [hW3] | fail)
    refine (unhide HE2 W3 (unhide HB3)).mono ?_
    rintro e w4 ⟨v4, rfl, o4, b4⟩
    obtain ⟨gb, cpp, rfl, hgb1, hgb2, hcp, hcells⟩ := row_of o4 (unhide HZL).1
    have HB4 : Hid (Below B.heap.size B w4) := (unhide HB3).trans (b4.mono (unhide HB3).size)
    have HCL := hide hcells
    have HGB : Hid (B.heap.size ≤ gb ∧ gb < w4.heap.size ∧ zs.length ≤ cpp) := ⟨by have := (unhide HB3).size; omega, hgb2, hcp⟩
    have HX4 := hide (unhide HX w4 (unhide HB4))
    clear o4 b4 hgb1 hgb2 hcp hcells q0 q1 q2 q3 q4 x0 x1 x2 x3
    obtain ⟨⟨q0, q1⟩, _⟩ := unhide HBX w4 (unhide HB4)
    have HCE : Hid (gb ≠ hr ∧ gb ≠ gp ∧ gb ≠ gw ∧ w.heap.size < w4.heap.size) := by
      obtain ⟨l1, l2, l3, _⟩ := unhide HGL
      have := unhide HGB
      have := unhide HSZ
      refine ⟨?_, ?_, ?_, ?_⟩ <;> omega
    have HRW : Hid (∀ x, Upd (OnlyRf hr gp gw) w4.heap.size w4 x → ∀ t, t < zs.length → x.cell? ⟨gb, t, none⟩ = some (.int .u8 (zs.getD t 0))) := fun x hx t ht => by
      obtain ⟨n1, n2, n3, _⟩ := unhide HCE
      rw [hx.cell (p := ⟨gb, t, none⟩) (unhide HGB).2.1 (by rintro (c | c | c); exact n1 c; exact n2 c; exact n3 c)]
      exact unhide HCL t ht
    have HSS : Hid (∀ x : World, w4.heap.size ≤ x.heap.size → ∀ k, S k → k < x.heap.size) := fun x hx k hk => by have := unhide HHS k hk; have := (unhide HCE).2.2.2; omega
    have HUW : Hid (∀ x, Upd (OnlyRf hr gp gw) w4.heap.size w4 x → Upd (OnlyRf hr gp gw) w.heap.size w x) := fun x hx => (unhide HX4).2.trans (hx.less (by have := (unhide HCE).2.2.2; omega))
    go_wp2_with (first | rw [hm'] | fail)
    go_loopw [15] (fun cc wr => ∃ (k : Nat) (G : Fl), k ≤ m ∧ cc = .int .i64 ((a + k : Nat) : Int) ∧ IsRfE wr S hr gp gw cp cw G ∧ clr F a m = clr G (a + k) (m - k) ∧ Upd (OnlyRf hr gp gw) w4.heap.size w4 wr) (fun cc _ => a + m - (intOf cc).toNat)
    case atStart => exact ⟨0, F, Nat.zero_le _, rfl, (unhide HX4).1, rfl, Upd.refl _ _ _⟩
    case round =>
      obtain ⟨k, G, hk, rfl, hI, hE, hU⟩ := hrel
      have hsz := hU.size
      by_cases hlt : k < m
      · have hlt' : decide (((a + k : Nat) : Int) < (a : Int) + m) = true := by simp; omega
        obtain ⟨mm, hmk⟩ : ∃ mm, m - k = mm + 1 := ⟨m - k - 1, by omega⟩
        rw [hmk, clr_succ] at hE
        obtain ⟨pb', cb', bv', kp', Hr⟩ := hI
        have HUS := hide (rused_any Hr ((a + k : Nat) : Int))
        have hu0 : 0 ≤ G.usedE ((a + k : Nat) : Int) := by unfold Fl.usedE; split <;> omega
        have HI := hide (show IsRfE wr S hr gp gw cp cw G from ⟨_, _, _, _, Hr⟩)
        have HER := hide (rerase_all Hr (unhide HSS wr hsz) ((a + k : Nat) : Int))
        have HU := hide hU
        have HMK := hide hmk
        clear Hr hU hmk
        by_cases cu : G.usedE ((a + k : Nat) : Int) = 0
        · rw [cu] at HUS
          have HE2' := hide (hE.trans (if_pos cu))
          clear hE hu0 HER
          go_wp2_with fail
          refine (unhide HUS).mono ?_
          rintro e w5 ⟨rfl, rfl⟩
          go_wp2
          go_roundw
          case rel => exact ⟨k + 1, G, by omega, by go_num, unhide HI, by rw [unhide HE2', show m - (k + 1) = mm by have := unhide HMK; omega]; rfl, unhide HU⟩
          case measure => simp [intOf]; omega
        · have HE2' := hide (hE.trans (if_neg cu))
          have cpos : 0 < G.usedE ((a + k : Nat) : Int) := by omega
          generalize G.usedE ((a + k : Nat) : Int) = us at HUS cu hu0 cpos
          generalize G.erase ((a + k : Nat) : Int) = R at HER HE2'
          obtain ⟨er, G2⟩ := R
          simp only at HER HE2'
          clear hE hu0 cu
          by_cases ce : er = 0
          · subst ce
            have HE3 := hide ((unhide HE2').trans (if_neg (by simp)))
            clear HE2'
            go_wp2_with fail
            refine (unhide HUS).mono ?_
            rintro e w5 ⟨rfl, rfl⟩
            go_wp2_with fail
            refine (unhide HER).mono ?_
            rintro e w6 ⟨rfl, i6, u6⟩
            have HI6 := hide i6
            have HU6 := hide ((unhide HU).trans (u6.less hsz))
            clear i6 u6
            go_wp2
            go_roundw
            case rel => exact ⟨k + 1, G2, by omega, by go_num, unhide HI6, by rw [unhide HE3, show m - (k + 1) = mm by have := unhide HMK; omega]; rfl, unhide HU6⟩
            case measure => simp [intOf]; omega
          · have HE3 := hide ((unhide HE2').trans (if_pos ce))
            have ce' : ((er : Int) != 0) = true := by simp [ce]
            clear HE2'
            go_wp2_with fail
            refine (unhide HUS).mono ?_
            rintro e w5 ⟨rfl, rfl⟩
            go_wp2_with fail
            refine (unhide HER).mono ?_
            rintro e w6 ⟨rfl, i6, u6⟩
            have HI6 := hide i6
            have HU6 := hide (unhide HUW w6 ((unhide HU).trans (u6.less hsz)))
            clear i6 u6
            go_wp2
            go_ret
            unfold wrtH
            rw [unhide HE3, if_pos ce]
            exact ⟨rfl, unhide HI6, unhide HU6⟩
      · obtain rfl : k = m := by omega
        have hE0 : clr F a k = (0, G) := by rw [hE, Nat.sub_self]; rfl
        have HE0 := hide hE0
        have HI := hide hI
        have HU := hide hU
        obtain ⟨wo, hwo⟩ : ∃ wo, wo = wr := ⟨_, rfl⟩
        subst hwo
        clear hE hE0 hI hU hsz
        go_wp2
        go_loopw [17] (fun cc wr => ∃ (j : Nat) (G2 : Fl), j ≤ chN zs.length ∧ cc = .int .i64 j ∧ IsRfE wr S hr gp gw cp cw G2 ∧ wrt G a 0 ((List.range (chN zs.length)).map (ch zs)) = wrt G2 a j (((List.range (chN zs.length)).map (ch zs)).drop j) ∧ Upd (OnlyRf hr gp gw) w4.heap.size w4 wr) (fun cc _ => chN zs.length - (intOf cc).toNat)
        case atStart => exact ⟨0, G, Nat.zero_le _, rfl, unhide HI, rfl, unhide HU⟩
        case round =>
          obtain ⟨j, G2, hj, rfl, hI, hE, hU⟩ := hrel
          have hsz := hU.size
          have hN : chN zs.length = (zs.length + 255) / 256 := rfl
          have hzl2 := unhide HZL
          have hgb := unhide HGB
          have ham := unhide HAM
          by_cases hjl : j < chN zs.length
          · have hj256 : (j : Int) * 256 < (zs.length : Int) := by omega
            obtain ⟨lo, hlo⟩ : ∃ lo : Nat, (j : Int) * 256 = (lo : Int) := ⟨j * 256, by omega⟩
            have hlo' : lo = j * 256 := by omega
            have hlen := ch_len zs j
            obtain ⟨hi, hhi⟩ : ∃ hi : Nat, min (zs.length : Int) (((j : Int) + 1) * 256) = (hi : Int) := ⟨min zs.length ((j + 1) * 256), by omega⟩
            have hhl : hi - lo = (ch zs j).length := by omega
            obtain ⟨i, hi16⟩ : ∃ i : Nat, (j : Int) / 16 = (i : Int) := ⟨j / 16, by omega⟩
            obtain ⟨r, hr16⟩ : ∃ r : Nat, (j : Int) % 16 = (r : Int) := ⟨j % 16, by omega⟩
            obtain ⟨q, hq⟩ : ∃ q : Nat, (a : Int) + (i : Int) = (q : Int) := ⟨a + i, by omega⟩
            obtain ⟨pb', cb', bv', kp', Hr⟩ := hI
            have hpc := piece_sees (unhide HRW wr hU) hgb.2.2 j (by omega)
            have HPR : Hid (Calls Tryz.prog 26 #[P0 hr, .int .i64 (q : Int), .int .i64 (r : Int), .slice (some ⟨gb, lo, none⟩) (hi - lo) (cpp - lo)] wr fun e w' => e = .returned (.int .i64 (G2.prog ((a + j / 16 : Nat) : Int) ((j % 16 : Nat) : Int) (ch zs j)).1) ∧ IsRfE w' S hr gp gw cp cw (G2.prog ((a + j / 16 : Nat) : Int) ((j % 16 : Nat) : Int) (ch zs j)).2 ∧ Upd (OnlyRf hr gp gw) wr.heap.size wr w') := by
              rw [hhl, hlo', show (q : Int) = ((a + j / 16 : Nat) : Int) by omega, show (r : Int) = ((j % 16 : Nat) : Int) by omega]
              refine rprog_all Hr (unhide HSS wr hsz) _ _ _ _ hpc ?_ (ch_byt (unhide HZB) j)
              intro a' l' c' e _
              simp only [Value.slice.injEq, Option.some.injEq] at e
              obtain ⟨n1, n2, n3, _⟩ := unhide HCE
              rw [← e.1]
              rintro (c | c | c)
              · exact n1 c
              · exact n2 c
              · exact n3 c
            rw [wrt_drop j zs hjl, wrt_cons] at hE
            generalize G2.prog ((a + j / 16 : Nat) : Int) ((j % 16 : Nat) : Int) (ch zs j) = R at HPR hE
            obtain ⟨er, G3⟩ := R
            simp only at HPR hE
            have HU2 := hide hU
            have hlc : (lo : Int) ≤ (hi : Int) := by omega
            have hic : (hi : Int) ≤ (cpp : Int) := by omega
            have hne2 : ¬ cpp = lo := by omega
            have hjt : (j : Int).tmod 16 = (r : Int) := by rw [Int.tmod_eq_emod_of_nonneg (by omega)]; exact hr16
            have hj2 : j ≤ 4096 := by omega
            have HE := hide hE
            have HJL := hide (And.intro hjl hN)
            have HSZ5 := hide hsz
            clear hE hU Hr hpc hhl hlen hlo' hjl hN hzl2 hgb ham hsz
            by_cases ce : er = 0
            · subst ce
              have HE3 := hide ((unhide HE).trans (if_neg (by simp)))
              clear HE
              go_wp2_with fail
              refine (unhide HPR).mono ?_
              rintro e w6 ⟨rfl, i6, u6⟩
              have HI6 := hide i6
              have HU6 := hide ((unhide HU2).trans (u6.less (unhide HSZ5)))
              clear i6 u6
              go_wp2
              go_roundw
              case rel => (repeat apply Exists.intro); exact ⟨⟨j + 1, G3, by have := (unhide HJL).1; omega, by go_num, unhide HI6, unhide HE3, unhide HU6⟩, rfl⟩
              case measure => have := (unhide HJL).1; simp [intOf]; omega
            · have HE3 := hide ((unhide HE).trans (if_pos ce))
              have ce' : ((er : Int) != 0) = true := by simp [ce]
              clear HE
              go_wp2_with fail
              refine (unhide HPR).mono ?_
              rintro e w6 ⟨rfl, i6, u6⟩
              have HI6 := hide i6
              have HU6 := hide (unhide HUW w6 ((unhide HU2).trans (u6.less (unhide HSZ5))))
              clear i6 u6
              go_wp2
              go_ret
              unfold wrtH
              rw [unhide HE0, if_neg (by simp), unhide HE3]
              exact ⟨rfl, unhide HI6, unhide HU6⟩
          · have hj256 : (zs.length : Int) ≤ (j : Int) * 256 := by omega
            have hE0 : wrt G a 0 ((List.range (chN zs.length)).map (ch zs)) = (0, G2) := by
              rw [hE, List.drop_eq_nil_of_le (by simp; omega)]; rfl
            have HE4 := hide hE0
            have HI6 := hide hI
            have HU6 := hide (unhide HUW wr hU)
            have hj2 : j ≤ 4096 := by omega
            clear hE hE0 hI hU hjl hN hzl2 hgb ham hsz
            go_wp2
            go_ret
            unfold wrtH
            rw [unhide HE0, if_neg (by simp), unhide HE4]
            exact ⟨rfl, unhide HI6, unhide HU6⟩
end Go.Proofs.YtiijbklaapaheaaGreat
