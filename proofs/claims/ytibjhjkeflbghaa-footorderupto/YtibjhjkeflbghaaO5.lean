/- What a transaction may touch: the document's Of. -/
import Derived.Test.YtibjhjkeflbghaaO4
import Derived.Deep.DeepCutAuto
namespace Go.Proofs.Ytibjhjkeflbghaa
open Go.RowKit
set_option maxRecDepth 100000

set_option maxHeartbeats 16000000 in
theorem rof_any {x : Tx} {w : World} (n : Int) (hx : SeesX w x) :
    Calls Try.prog 12 #[xV x, .int .i64 n] w fun e w' => ∃ a c a' c' pv tv, e = .returned (.agg (ftC a (fun p => (inP n (srt x.rs) p).length) c a' (fun p => (inP n (srt x.ws) p).length) c' pv tv)) ∧ FtV w.heap.size (inP n (srt x.rs)) (inP n (srt x.ws)) a (fun p => (inP n (srt x.rs) p).length) c a' (fun p => (inP n (srt x.ws) p).length) c' pv tv (ptsL (fun p => (inP n (srt x.rs) p).length) (fun p => (inP n (srt x.ws) p).length)) (actL (fun p => (inP n (srt x.rs) p).length) (fun p => (inP n (srt x.ws) p).length)) w' ∧ Below w.heap.size w w' := by
  obtain ⟨Y0, hY0⟩ : ∃ y, w.alloc (.cells #[.int .i64 x.s, .int .i64 x.r, x.cv, x.av, x.rv, x.wv] 26) = y := ⟨_, rfl⟩
  obtain ⟨Y, hY⟩ : ∃ y, Y0.alloc (.cells nil18 32) = y := ⟨_, rfl⟩
  have b0 : Below w.heap.size w Y0 := hY0 ▸ below_box _
  have z0 : Y0.heap.size = w.heap.size + 1 := by rw [← hY0]; simp
  have bY : Below w.heap.size w Y := hY ▸ b0.alloc b0.size _
  have x0 : Y0.heap[w.heap.size]? = some (.cells #[.int .i64 x.s, .int .i64 x.r, x.cv, x.av, x.rv, x.wv] 26) := by rw [← hY0]; exact heap_alloc_new w _
  have xY : Y.heap[w.heap.size]? = some (.cells #[.int .i64 x.s, .int .i64 x.r, x.cv, x.av, x.rv, x.wv] 26) := by rw [← hY]; exact (Below.heap_alloc Y0 _ _ (by omega)).trans x0
  have uY : Y.heap[Y0.heap.size]? = some (.cells nil18 32) := by rw [← hY]; exact heap_alloc_new Y0 _
  have hsz : Y0.heap.size < Y.heap.size := by rw [← hY]; simp
  have hlr := hx.lr
  have hlw := hx.lw
  obtain ⟨L, hL⟩ : ∃ L, (fun p => (inP n (srt x.rs) p).length) = L := ⟨_, rfl⟩
  obtain ⟨L', hL'⟩ : ∃ L, (fun p => (inP n (srt x.ws) p).length) = L := ⟨_, rfl⟩
  have HR : Hid (∀ z, Below Y.heap.size Y z → Calls Try.prog 38 #[x.rv, .int .i64 n] z fun e w' => ∃ a c, e = .returned (.agg #[.slice (a 0) (L 0) (c 0), .slice (a 1) (L 1) (c 1), .slice (a 2) (L 2) (c 2), .slice (a 3) (L 3) (c 3), .slice (a 4) (L 4) (c 4), .slice (a 5) (L 5) (c 5), .slice (a 6) (L 6) (c 6), .slice (a 7) (L 7) (c 7)]) ∧ Rows8 z.heap.size w' (inP n (srt x.rs)) (litR a L c) ∧ Below z.heap.size z w') := fun z hz => rside_lit n hL ((hx.rs.below kC_len bY).below kC_len hz) hlr
  have HW : Hid (∀ z, Below Y.heap.size Y z → Calls Try.prog 38 #[x.wv, .int .i64 n] z fun e w' => ∃ a c, e = .returned (.agg #[.slice (a 0) (L' 0) (c 0), .slice (a 1) (L' 1) (c 1), .slice (a 2) (L' 2) (c 2), .slice (a 3) (L' 3) (c 3), .slice (a 4) (L' 4) (c 4), .slice (a 5) (L' 5) (c 5), .slice (a 6) (L' 6) (c 6), .slice (a 7) (L' 7) (c 7)]) ∧ Rows8 z.heap.size w' (inP n (srt x.ws)) (litR a L' c) ∧ Below z.heap.size z w') := fun z hz => rside_lit n hL' ((hx.ws.below kC_len bY).below kC_len hz) hlw
  have HX := hide (And.intro b0 (And.intro z0 (And.intro bY (And.intro xY (And.intro uY hsz)))))
  obtain ⟨sx, hsx1⟩ : ∃ z, x.s = z := ⟨_, rfl⟩
  obtain ⟨rx, hrx1⟩ : ∃ z, x.r = z := ⟨_, rfl⟩
  obtain ⟨⟨ac, nc, cc, hc⟩, ⟨aa, na, ca, ha⟩⟩ := And.intro hx.shc hx.sha
  obtain ⟨ar, cr, hr⟩ := hx.rs.shape
  obtain ⟨aw, cw, hw5⟩ := hx.ws.shape
  obtain ⟨nr, hnr⟩ : ∃ z, x.rs.length = z := ⟨_, rfl⟩
  obtain ⟨nw, hnw⟩ : ∃ z, x.ws.length = z := ⟨_, rfl⟩
  rw [hnr] at hr
  rw [hnw] at hw5
  unfold xV
  rw [hsx1, hrx1, hc, ha, hr, hw5, hL, hL']
  rw [hsx1, hrx1, hc, ha, hr, hw5] at hY0 HX
  rw [hr] at HR
  rw [hw5] at HW
  have HLb : Hid ((∀ p, p < 8 → L p ≤ 8796093022208) ∧ ∀ p, p < 8 → L' p ≤ 8796093022208) := ⟨fun p _ => by rw [← hL]; exact Nat.le_trans (inP_len _ _ _) (Nat.le_trans (srt_len _) (by omega)), fun p _ => by rw [← hL']; exact Nat.le_trans (inP_len _ _ _) (Nat.le_trans (srt_len _) (by omega))⟩
  have HY := hide hY
  have HC4 : Hid (∀ z, Below Y.heap.size Y z → z.cell? ⟨w.heap.size, 4, none⟩ = some (.slice ar nr cr) ∧ z.cell? ⟨w.heap.size, 5, none⟩ = some (.slice aw nw cw)) := fun z hz => by
    have hq := (unhide HX).2.2.2.1
    have h1 : z.heap[w.heap.size]? = _ := (hz.block _ (Array.getElem?_eq_some_iff.1 hq).1).trans hq
    exact ⟨cell_at h1, cell_at h1⟩
  clear hx b0 z0 bY x0 xY uY hsz hlr hlw hL hL' hsx1 hrx1 hc ha hr hw5 hnr hnw hY
  go_enter Try.func12, Try.ntmps12
  go_wp2_with (first | rw [hY0] | rw [show Y0.alloc (.cells #[.slice none 0 0, .slice none 0 0, .slice none 0 0, .slice none 0 0, .slice none 0 0, .slice none 0 0, .slice none 0 0, .slice none 0 0, .slice none 0 0, .slice none 0 0, .slice none 0 0, .slice none 0 0, .slice none 0 0, .slice none 0 0, .slice none 0 0, .slice none 0 0, .slice none 0 0, .slice none 0 0] 32) = Y from unhide HY])
  go_cut [5] (fun p wc => OfS n x.rs x.ws L L' Y p wc)
  case first =>
    refine wp_region_held_drew (S := fun x => Below Y.heap.size Y x) (by kernel_rfl) ((Below.refl _ _).drew) (fun hHeld => ?_)
    refine wpAnyH_take (i := 0) (v := ?v1x0) rfl (by kernel_rfl) (by kernel_rfl) (by kernel_rfl) (fun _ _ _ h => h) (Or.inl ⟨by rfl, ?hy1x0⟩) (by assumption) ?rest1x0
    case hy1x0 => intro w hSw; go_simp <;> with_reducible rfl
    simp only [Act.put, List.getElem_toArray, List.getElem_cons_zero, List.setIfInBounds_toArray, List.set_cons_zero, List.set_cons_succ]
    refine wpAnyH_take (i := 1) (v := (.slice ar nr cr)) rfl (by kernel_rfl) (by kernel_rfl) (by kernel_rfl) (fun _ _ _ h => h) (Or.inl ⟨by rfl, ?hy2x1⟩) (by assumption) ?rest2x1
    case hy2x1 => intro w hSw; obtain ⟨s1, s2⟩ := unhide HC4 _ hSw; go_simp <;> with_reducible rfl
    simp only [Act.put, List.getElem_toArray, List.getElem_cons_zero, List.getElem_cons_succ, List.setIfInBounds_toArray, List.set_cons_zero, List.set_cons_succ]
    refine wpAnyH_take (i := 2) (v := ?v3x2) rfl (by kernel_rfl) (by kernel_rfl) (by kernel_rfl) (fun _ _ _ h => h) (Or.inl ⟨by rfl, ?hy3x2⟩) (by assumption) ?rest3x2
    case hy3x2 => intro w hSw; go_simp <;> with_reducible rfl
    simp only [Act.put, List.getElem_toArray, List.getElem_cons_zero, List.getElem_cons_succ, List.setIfInBounds_toArray, List.set_cons_zero, List.set_cons_succ]
    refine wpAnyH_take (i := 4) (v := ?v4x4) rfl (by kernel_rfl) (by kernel_rfl) (by kernel_rfl) (fun _ _ _ h => h) (Or.inl ⟨by rfl, ?hy4x4⟩) (by assumption) ?rest4x4
    case hy4x4 => intro w hSw; go_simp <;> with_reducible rfl
    simp only [Act.put, List.getElem_toArray, List.getElem_cons_zero, List.getElem_cons_succ, List.setIfInBounds_toArray, List.set_cons_zero, List.set_cons_succ]
    refine wpAnyH_take (i := 5) (v := (.slice aw nw cw)) rfl (by kernel_rfl) (by kernel_rfl) (by kernel_rfl) (fun _ _ _ h => h) (Or.inl ⟨by rfl, ?hy5x5⟩) (by assumption) ?rest5x5
    case hy5x5 => intro w hSw; obtain ⟨s1, s2⟩ := unhide HC4 _ hSw; go_simp <;> with_reducible rfl
    simp only [Act.put, List.getElem_toArray, List.getElem_cons_zero, List.getElem_cons_succ, List.setIfInBounds_toArray, List.set_cons_zero, List.set_cons_succ]
    refine wpAnyH_take (i := 6) (v := ?v6x6) rfl (by kernel_rfl) (by kernel_rfl) (by kernel_rfl) (fun _ _ _ h => h) (Or.inl ⟨by rfl, ?hy6x6⟩) (by assumption) ?rest6x6
    case hy6x6 => intro w hSw; go_simp <;> with_reducible rfl
    simp only [Act.put, List.getElem_toArray, List.getElem_cons_zero, List.getElem_cons_succ, List.setIfInBounds_toArray, List.set_cons_zero, List.set_cons_succ]
    refine wpAnyH_ready (rs := [3, 9]) (by kernel_rfl) (by simp) ?_
    refine AllReadyH.cons rfl (fun K hK => ?_) (AllReadyH.cons rfl (fun K hK => ?_) AllReadyH.nil)
    · skip
      go_simp
      refine (unhide HR _ (((Below.refl _ _).drew : Below Y.heap.size Y Y.drew))).mono ?_
      rintro e w1 ⟨a1, c1, rfl, h8w1, hbw1⟩
      refine hK _ _ (((Below.refl _ _).drew : Below Y.heap.size Y Y.drew).trans hbw1) ?_
      clear hK hHeld
      intro hHeld
      have e1 : Below Y.heap.size Y w1 := ((Below.refl _ _).drew : Below Y.heap.size Y Y.drew).trans hbw1
      refine wpAnyH_ready (rs := [7, 9]) (by kernel_rfl) (by simp) ?_
      refine AllReadyH.cons rfl (fun K hK => ?_) (AllReadyH.cons rfl (fun K hK => ?_) AllReadyH.nil)
      · skip
        go_simp
        refine (unhide HW _ (e1)).mono ?_
        rintro e w2 ⟨a2, c2, rfl, h8w2, hbw2⟩
        refine hK _ _ (e1.trans (hbw2.mono e1.size)) ?_
        clear hK hHeld
        intro hHeld
        have e2 : Below Y.heap.size Y w2 := e1.trans (hbw2.mono e1.size)
        refine wpAnyH_take (i := 8) (v := ?v7x8) rfl (by kernel_rfl) (by kernel_rfl) (by kernel_rfl) (fun _ _ _ h => h) (Or.inl ⟨by rfl, ?hy7x8⟩) (by assumption) ?rest7x8
        case hy7x8 => intro w hSw; go_simp <;> with_reducible rfl
        simp only [Act.put, List.getElem_toArray, List.getElem_cons_zero, List.getElem_cons_succ, List.setIfInBounds_toArray, List.set_cons_zero, List.set_cons_succ]
        refine wpAnyH_ready (rs := [9]) (by kernel_rfl) (by simp) ?_
        refine AllReadyH.cons rfl (fun K hK => ?_) AllReadyH.nil
        go_simp
        refine hK _ _ ((e2).alloc (e2).size _) ?_
        clear hK hHeld
        intro hHeld
        have hzb : (w2.alloc (.cells nil18 32)).heap[w2.heap.size]? = some (.cells nil18 32) := heap_alloc_new w2 _
        have hbz : Below Y.heap.size Y (w2.alloc (.cells nil18 32)) := e2.alloc e2.size _
        have HFIN := hide (OfS.fin (n := n) (R := x.rs) (W := x.ws) (L := L) (L' := L') (b := w2.heap.size) e2.size hzb ((h8w1.below hbw2).below (below_box _)) ((h8w2.mono e1.size).below (below_box _)) hbz)
        have hbs : Below Y.heap.size Y ((w2.alloc (.cells nil18 32)).setRow w2.heap.size (ftC a1 L c1 a2 L' c2 (.slice none 0 0) (.slice none 0 0))) := below_setRow hbz e2.size
        skip
        refine wpAnyH_ready (rs := [10]) (by kernel_rfl) (by simp) ?_
        refine AllReadyH.cons rfl (fun K hK => ?_) AllReadyH.nil
        rw [if_pos (by rfl)]
        refine store_upon (g := w2.heap.size) rfl rfl rfl hzb Try.info32 rfl (ft_one0 a1 L c1 a2 L' c2) ?_
        simp only [Act.put, List.getElem_toArray, List.getElem_cons_zero, List.getElem_cons_succ]
        refine hK _ _ hbs ?_
        clear hK hHeld
        intro hHeld
        refine wpAnyH_done (by kernel_rfl) ?_ _
        go_wp2_with fail
        go_meet
        case rel => exact unhide HFIN
      · skip
        go_simp
        refine hK _ _ ((e1).alloc (e1).size _) ?_
        clear hK hHeld
        intro hHeld
        have e1' : Below Y.heap.size Y (w1.alloc (.cells nil18 32)) := e1.alloc e1.size _
        refine wpAnyH_ready (rs := [7]) (by kernel_rfl) (by simp) ?_
        refine AllReadyH.cons rfl (fun K hK => ?_) AllReadyH.nil
        go_simp
        refine (unhide HW _ (e1')).mono ?_
        rintro e w2 ⟨a2, c2, rfl, h8w2, hbw2⟩
        refine hK _ _ (e1'.trans (hbw2.mono e1'.size)) ?_
        clear hK hHeld
        intro hHeld
        have e2 : Below Y.heap.size Y w2 := e1'.trans (hbw2.mono e1'.size)
        have hzb : (w2).heap[w1.heap.size]? = some (.cells nil18 32) := (hbw2.block _ (by simp)).trans (heap_alloc_new w1 _)
        have hbz : Below Y.heap.size Y (w2) := e2
        have HFIN := hide (OfS.fin (n := n) (R := x.rs) (W := x.ws) (L := L) (L' := L') (b := w1.heap.size) e1.size hzb ((h8w1.below (below_box _)).below hbw2) (h8w2.mono e1'.size) hbz)
        have hbs : Below Y.heap.size Y ((w2).setRow w1.heap.size (ftC a1 L c1 a2 L' c2 (.slice none 0 0) (.slice none 0 0))) := below_setRow hbz e1.size
        refine wpAnyH_take (i := 8) (v := ?v8x8) rfl (by kernel_rfl) (by kernel_rfl) (by kernel_rfl) (fun _ _ _ h => h) (Or.inl ⟨by rfl, ?hy8x8⟩) (by assumption) ?rest8x8
        case hy8x8 => intro w hSw; go_simp <;> with_reducible rfl
        simp only [Act.put, List.getElem_toArray, List.getElem_cons_zero, List.getElem_cons_succ, List.setIfInBounds_toArray, List.set_cons_zero, List.set_cons_succ]
        refine wpAnyH_ready (rs := [10]) (by kernel_rfl) (by simp) ?_
        refine AllReadyH.cons rfl (fun K hK => ?_) AllReadyH.nil
        rw [if_pos (by rfl)]
        refine store_upon (g := w1.heap.size) rfl rfl rfl hzb Try.info32 rfl (ft_one0 a1 L c1 a2 L' c2) ?_
        simp only [Act.put, List.getElem_toArray, List.getElem_cons_zero, List.getElem_cons_succ]
        refine hK _ _ hbs ?_
        clear hK hHeld
        intro hHeld
        refine wpAnyH_done (by kernel_rfl) ?_ _
        go_wp2_with fail
        go_meet
        case rel => exact unhide HFIN
    · skip
      go_simp
      refine hK _ _ ((((Below.refl _ _).drew : Below Y.heap.size Y Y.drew)).alloc (((Below.refl _ _).drew : Below Y.heap.size Y Y.drew)).size _) ?_
      clear hK hHeld
      intro hHeld
      have hnw : Y.heap.size < (Y.drew.alloc (.cells nil18 32)).heap.size := (Array.getElem?_eq_some_iff.1 (heap_alloc_new Y.drew (.cells nil18 32))).1
      have e0 : Below Y.heap.size Y (Y.drew.alloc (.cells nil18 32)) := ((Below.refl _ _).drew : Below Y.heap.size Y Y.drew).alloc ((Below.refl _ _).drew : Below Y.heap.size Y Y.drew).size _
      refine wpAnyH_ready (rs := [3]) (by kernel_rfl) (by simp) ?_
      refine AllReadyH.cons rfl (fun K hK => ?_) AllReadyH.nil
      go_simp
      refine (unhide HR _ (e0)).mono ?_
      rintro e w1 ⟨a1, c1, rfl, h8w1, hbw1⟩
      refine hK _ _ (e0.trans (hbw1.mono e0.size)) ?_
      clear hK hHeld
      intro hHeld
      have e1 : Below Y.heap.size Y w1 := e0.trans (hbw1.mono e0.size)
      refine wpAnyH_ready (rs := [7]) (by kernel_rfl) (by simp) ?_
      refine AllReadyH.cons rfl (fun K hK => ?_) AllReadyH.nil
      go_simp
      refine (unhide HW _ (e1)).mono ?_
      rintro e w2 ⟨a2, c2, rfl, h8w2, hbw2⟩
      refine hK _ _ (e1.trans (hbw2.mono e1.size)) ?_
      clear hK hHeld
      intro hHeld
      have e2 : Below Y.heap.size Y w2 := e1.trans (hbw2.mono e1.size)
      have hzb : (w2).heap[Y.heap.size]? = some (.cells nil18 32) := (hbw2.block _ (Nat.lt_of_lt_of_le hnw hbw1.size)).trans ((hbw1.block _ hnw).trans (heap_alloc_new Y.drew _))
      have hbz : Below Y.heap.size Y (w2) := e2
      have HFIN := hide (OfS.fin (n := n) (R := x.rs) (W := x.ws) (L := L) (L' := L') (b := Y.heap.size) (Nat.le_refl _) hzb ((h8w1.mono e0.size).below hbw2) (h8w2.mono e1.size) hbz)
      have hbs : Below Y.heap.size Y ((w2).setRow Y.heap.size (ftC a1 L c1 a2 L' c2 (.slice none 0 0) (.slice none 0 0))) := below_setRow hbz (Nat.le_refl _)
      refine wpAnyH_take (i := 8) (v := ?v9x8) rfl (by kernel_rfl) (by kernel_rfl) (by kernel_rfl) (fun _ _ _ h => h) (Or.inl ⟨by rfl, ?hy9x8⟩) (by assumption) ?rest9x8
      case hy9x8 => intro w hSw; go_simp <;> with_reducible rfl
      simp only [Act.put, List.getElem_toArray, List.getElem_cons_zero, List.getElem_cons_succ, List.setIfInBounds_toArray, List.set_cons_zero, List.set_cons_succ]
      refine wpAnyH_ready (rs := [10]) (by kernel_rfl) (by simp) ?_
      refine AllReadyH.cons rfl (fun K hK => ?_) AllReadyH.nil
      rw [if_pos (by rfl)]
      refine store_upon (g := Y.heap.size) rfl rfl rfl hzb Try.info32 rfl (ft_one0 a1 L c1 a2 L' c2) ?_
      simp only [Act.put, List.getElem_toArray, List.getElem_cons_zero, List.getElem_cons_succ]
      refine hK _ _ hbs ?_
      clear hK hHeld
      intro hHeld
      refine wpAnyH_done (by kernel_rfl) ?_ _
      go_wp2_with fail
      go_meet
      case rel => exact unhide HFIN
  case rest =>
    obtain ⟨b, a, c, a', c', rfl, hbb, hft0, hbe0⟩ := hcut
    have HZS : Hid (FtB b (inP n (srt x.rs)) (inP n (srt x.ws)) a L c a' L' c' [] [] Y wc) := ⟨_, _, ⟨hft0, fun g hg => by simp [Value.ownBlock] at hg⟩, hbe0⟩
    clear hft0 hbe0
    go_wp2
    go_loopw [6] (fun q wr => ∃ p : Nat, p ≤ 8 ∧ q = .int .i64 p ∧ FtB b (inP n (srt x.rs)) (inP n (srt x.ws)) a L c a' L' c' (hv (cnt2 L L') p) (hv (cnt1 L') p) Y wr) (fun q _ => 8 - (intOf q).toNat)
    case atStart => exact ⟨0, by omega, rfl, unhide HZS⟩
    case round =>
      obtain ⟨p, hp, rfl, pv, tv, hfa, hbe⟩ := hrel
      by_cases hlt : p < 8
      · obtain ⟨pa, pc, hpv⟩ := own_shape hfa.s.ps
        obtain ⟨ta, tc, htv⟩ := own_shape hfa.s.ts
        obtain ⟨pn, hpn⟩ : ∃ m, (hv (cnt2 L L') p).length = m := ⟨_, rfl⟩
        obtain ⟨tn, htn⟩ : ∃ m, (hv (cnt1 L') p).length = m := ⟨_, rfl⟩
        have hp8 : pn ≤ 8 := by have := hv_len (cnt2 L L') p; omega
        have ht8 : tn ≤ 8 := by have := hv_len (cnt1 L') p; omega
        rw [hpn] at hpv
        rw [htn] at htv
        subst hpv
        subst htv
        have c0 := ft_rd hfa.s.box hlt
        have c1 := ft_wt hfa.s.box hlt
        have hLp := (unhide HLb).1 p hlt
        have hLq := (unhide HLb).2 p hlt
        have hv2 := hv_succ (cnt2 L L') p
        have hv1 := hv_succ (cnt1 L') p
        have hc2 : cnt2 L L' p = (L p : Int) + (L' p : Int) := by unfold cnt2; omega
        have hc1 : cnt1 L' p = (L' p : Int) := by unfold cnt1; omega
        rw [hc2] at hv2
        rw [hc1] at hv1
        obtain ⟨lp, hlp⟩ : ∃ k, L p = k := ⟨_, rfl⟩
        obtain ⟨lq, hlq⟩ : ∃ k, L' p = k := ⟨_, rfl⟩
        rw [hlp] at c0 hLp hv2
        rw [hlq] at c1 hLq hv2 hv1
        have hwr : wrap64 ((lp : Int) + (lq : Int)) = (lp : Int) + (lq : Int) := by unfold wrap64; omega
        have hpi : (p : Int) < 8 := by omega
        have HV2 := hide hv2
        have HV1 := hide hv1
        have HLP := hide hlp
        have HLQ := hide hlq
        clear hp hc2 hc1 hlp hlq hv2 hv1 hLp hLq
        go_wp2
        go_quiet (fail)
        have hfd : FtA Y.heap.size b (inP n (srt x.rs)) (inP n (srt x.ws)) a L c a' L' c' (.slice pa pn pc) (.slice ta tn tc) (hv (cnt2 L L') p) (hv (cnt1 L') p) (wr.drewN nq) := ⟨hfa.s.grow (Below.drewN (Below.refl _ _) nq), hfa.ap⟩
        have hbd : Below Y.heap.size Y (wr.drewN nq) := Below.drewN hbe nq
        obtain ⟨wd, hwd⟩ : ∃ z, wr.drewN nq = z := ⟨_, rfl⟩
        rw [hwd] at hfd hbd ⊢
        clear hwd hfa hbe c0 c1
        have c1 := ft_wt hfd.s.box hlt
        rw [unhide HLQ] at c1
        by_cases hg1 : (0 : Int) < (lp : Int) + (lq : Int)
        · skip
          have hv2' : hv (cnt2 L L') (p + 1) = hv (cnt2 L L') p ++ [(p : Int)] := by rw [unhide HV2, if_pos hg1]
          have hd : decide ((0 : Int) < (lp : Int) + (lq : Int)) = true := decide_eq_true hg1
          have hd2 : decide ((lp : Int) + (lq : Int) > 0) = true := decide_eq_true hg1
          obtain ⟨ZP, hZP⟩ : ∃ z, wd.alloc (.cells #[.int .i64 (p : Int)] 3) = z := ⟨_, rfl⟩
          obtain ⟨aP, kP, yP, rP, eP, zP, fP, gP⟩ := hfd.appP hpn hp8 hZP (Nat.le_refl _) hbd (Nat.le_refl _) hbb
          have HRP := hide rP
          have HZP := hide hZP
          have d1 := ft_wt fP.s.box hlt
          rw [unhide HLQ] at d1
          obtain ⟨wP, hwP⟩ : ∃ z, yP.setCell ⟨b, 16, none⟩ (.slice aP (pn + 1) kP) = z := ⟨_, rfl⟩
          rw [hwP] at fP gP d1
          have HWP := hide hwP
          have HC1 := hide d1
          clear d1 hZP rP hwP
          by_cases hg2 : (0 : Int) < (lq : Int)
          · skip
            have hv1' : hv (cnt1 L') (p + 1) = hv (cnt1 L') p ++ [(p : Int)] := by rw [unhide HV1, if_pos hg2]
            have hh : decide ((0 : Int) < (lq : Int)) = true := decide_eq_true hg2
            have hh2 : decide ((lq : Int) > 0) = true := decide_eq_true hg2
            have hh3 : decide (0 < lq) = true := decide_eq_true (by omega)
            have hh4 : 0 < lq := by omega
            obtain ⟨ZT, hZT⟩ : ∃ z, wP.alloc (.cells #[.int .i64 (p : Int)] 3) = z := ⟨_, rfl⟩
            obtain ⟨aT, kT, yT, rT, eT, zT, fT, gT⟩ := fP.appT htn ht8 hZT (Nat.le_refl _) gP (Nat.le_refl _) hbb
            have HRT := hide rT
            have HZT := hide hZT
            have hct : wP.cell? ⟨b, 17, none⟩ = some (.slice ta tn tc) := cell_at fP.s.box
            have HG := hide (And.intro fT gT)
            rw [← hv2', ← hv1'] at HG
            have hcp : wd.cell? ⟨b, 16, none⟩ = some (.slice pa pn pc) := cell_at hfd.s.box
            have hd1 := unhide HC1
            clear hfd hbd hpn htn hp8 ht8 hv2' hv1' hg2 hg1 fP gP fT gT rT hZT
            go_wp2_with (first | rw [unhide HZP] | (at_builtin; refine wpList_append_run rfl _ _ 30 30 rfl rfl rfl (unhide HRP) ?_) | rw [unhide HWP] | rw [unhide HZT] | (at_builtin; refine wpList_append_run rfl _ _ 30 30 rfl rfl rfl (unhide HRT) ?_))
            go_roundw
            case rel => exact ⟨p + 1, by omega, by go_num, _, _, (unhide HG).1, (unhide HG).2⟩
            case measure => simp [intOf]; omega
          · skip
            have hv1' : hv (cnt1 L') (p + 1) = hv (cnt1 L') p := by rw [unhide HV1, if_neg hg2]
            obtain rfl : lq = 0 := by omega
            have hd5 : 0 < lp := by omega
            have hd6 : decide (0 < lp) = true := decide_eq_true hd5
            have hd7 : decide ((0 : Int) < (lp : Int)) = true := decide_eq_true (by omega)
            clear hd hd2
            have HG := hide (And.intro fP gP)
            rw [← hv2', ← hv1'] at HG
            have hcp : wd.cell? ⟨b, 16, none⟩ = some (.slice pa pn pc) := cell_at hfd.s.box
            have hd1 := unhide HC1
            clear hfd hbd hpn htn hp8 ht8 hv2' hv1' hg2 hg1 fP gP
            go_wp2_with (first | rw [unhide HZP] | (at_builtin; refine wpList_append_run rfl _ _ 30 30 rfl rfl rfl (unhide HRP) ?_) | rw [unhide HWP])
            go_roundw
            case rel => exact ⟨p + 1, by omega, by go_num, _, _, (unhide HG).1, (unhide HG).2⟩
            case measure => simp [intOf]; omega
        · skip
          have hv2' : hv (cnt2 L L') (p + 1) = hv (cnt2 L L') p := by rw [unhide HV2, if_neg hg1]
          have hd : decide ((0 : Int) < (lp : Int) + (lq : Int)) = false := decide_eq_false hg1
          have hd2 : decide ((lp : Int) + (lq : Int) > 0) = false := decide_eq_false hg1
          obtain rfl : lp = 0 := by omega
          obtain rfl : lq = 0 := by omega
          have hv1' : hv (cnt1 L') (p + 1) = hv (cnt1 L') p := by rw [unhide HV1, if_neg (by omega)]
          have HG := hide (And.intro hfd hbd)
          rw [← hv2', ← hv1'] at HG
          clear hfd hbd hpn htn hp8 ht8 hv2' hv1' hg1 hd hd2
          go_wp2
          go_roundw
          case rel => exact ⟨p + 1, by omega, by go_num, _, _, (unhide HG).1, (unhide HG).2⟩
          case measure => simp [intOf]; omega
      · obtain rfl : p = 8 := by omega
        obtain ⟨pa, pc, hpv⟩ := own_shape hfa.s.ps
        obtain ⟨ta, tc, htv⟩ := own_shape hfa.s.ts
        obtain ⟨pn, hpn⟩ : ∃ m, (hv (cnt2 L L') 8).length = m := ⟨_, rfl⟩
        obtain ⟨tn, htn⟩ : ∃ m, (hv (cnt1 L') 8).length = m := ⟨_, rfl⟩
        rw [hpn] at hpv
        rw [htn] at htv
        subst hpv
        subst htv
        have c16 : wr.cell? ⟨b, 16, none⟩ = some (.slice pa pn pc) := cell_at hfa.s.box
        obtain ⟨e0, he0⟩ : ∃ e, (((pn : Nat) : Int) == 0) = e := ⟨_, rfl⟩
        have HFA := hide (And.intro hfa (And.intro hbe (And.intro hpn (And.intro htn he0))))
        clear hfa hbe hpn htn
        go_upto_if 53 with (fail)
        clear he0
        go_cut [] (fun z => FtB b (inP n (srt x.rs)) (inP n (srt x.ws)) a L c a' L' c' (ptsL L L') (hv (cnt1 L') 8) Y z)
        case first =>
          obtain ⟨hfa, hbe, hpn, htn, he0⟩ := unhide HFA
          cases e0 with
          | true =>
            have hp0 : pn = 0 := by have := eq_of_beq he0; omega
            have h0 : hv (cnt2 L L') 8 = [] := List.length_eq_zero_iff.1 (by rw [hpn, hp0])
            have hpt : ptsL L L' = [0] := by unfold ptsL; rw [if_pos h0]
            obtain ⟨Z, hZ⟩ : ∃ z, wr.alloc (.cells #[.int .i64 0] 3) = z := ⟨_, rfl⟩
            obtain ⟨aP, kP, yP, rP, eP, zP, fP, gP⟩ := hfa.appP hpn (by omega) hZ (Nat.le_refl _) hbe (Nat.le_refl _) hbb
            rw [h0] at fP
            have HG := hide (And.intro fP gP)
            have HRP := hide rP
            have HPT := hide hpt
            have HZ := hide hZ
            clear hfa hbe hpn htn he0 h0 hpt fP gP rP hZ hp0
            go_wp2_with (first | rw [unhide HZ] | (at_builtin; refine wpList_append_run rfl _ _ 30 30 rfl rfl rfl (unhide HRP) ?_))
            go_meet
            case rel => exact ⟨_, _, by rw [unhide HPT]; exact (unhide HG).1, (unhide HG).2⟩
          | false =>
            have hp0 : pn ≠ 0 := fun e => by rw [e] at he0; cases he0
            have hpt : ptsL L L' = hv (cnt2 L L') 8 := by unfold ptsL; rw [if_neg (fun h => hp0 (by rw [← hpn, h]; rfl))]
            have HG := hide (And.intro hfa hbe)
            have HPT := hide hpt
            clear hfa hbe hpn htn he0 hpt
            go_wp2
            go_meet
            case rel => exact ⟨_, _, by rw [unhide HPT]; exact (unhide HG).1, (unhide HG).2⟩
        case rest =>
          obtain ⟨pv, tv, hfa, hbe⟩ := hcut
          clear HFA c16
          obtain ⟨pa, pc, hpv⟩ := own_shape hfa.s.ps
          obtain ⟨ta, tc, htv⟩ := own_shape hfa.s.ts
          obtain ⟨pn, hpn⟩ : ∃ m, (ptsL L L').length = m := ⟨_, rfl⟩
          obtain ⟨tn, htn⟩ : ∃ m, (hv (cnt1 L') 8).length = m := ⟨_, rfl⟩
          rw [hpn] at hpv
          rw [htn] at htv
          subst hpv
          subst htv
          have c17 : wc.cell? ⟨b, 17, none⟩ = some (.slice ta tn tc) := cell_at hfa.s.box
          obtain ⟨e1, he1⟩ : ∃ e, (((tn : Nat) : Int) == 0) = e := ⟨_, rfl⟩
          have HFA := hide (And.intro hfa (And.intro hbe (And.intro hpn (And.intro htn he1))))
          clear hfa hbe hpn htn
          go_upto_if 62 with (fail)
          clear he1 c17
          go_cut [] (fun z => FtB b (inP n (srt x.rs)) (inP n (srt x.ws)) a L c a' L' c' (ptsL L L') (actL L L') Y z)
          case first =>
            obtain ⟨hfa, hbe, hpn, htn, he1⟩ := unhide HFA
            cases e1 with
            | true =>
              have hp0 : tn = 0 := by have := eq_of_beq he1; omega
              have h0 : hv (cnt1 L') 8 = [] := List.length_eq_zero_iff.1 (by rw [htn, hp0])
              have hpt : actL L L' = [(ptsL L L').getD 0 0] := by unfold actL; rw [if_pos h0]
              have hpp : 0 < (ptsL L L').length := ptsL_pos L L'
              have hpp2 : 0 < pn := by omega
              obtain ⟨q, hq⟩ : ∃ q, (ptsL L L').getD 0 0 = q := ⟨_, rfl⟩
              obtain ⟨W0, hW0⟩ : ∃ z, wc.drew = z := ⟨_, rfl⟩
              have bW : Below wc.heap.size wc W0 := hW0 ▸ (Below.refl _ _).drew
              have hfw : FtA Y.heap.size b (inP n (srt x.rs)) (inP n (srt x.ws)) a L c a' L' c' (.slice pa pn pc) (.slice ta tn tc) (ptsL L L') (hv (cnt1 L') 8) W0 := ⟨hfa.s.grow bW, hfa.ap⟩
              have hbw : Below Y.heap.size Y W0 := hbe.trans (bW.mono hbe.size)
              obtain ⟨gp, op, hpa, hfirst⟩ := int_cells (own_sees nC_len (by decide) hfw.s.ps).2 rfl hpp
              subst hpa
              rw [hq] at hfirst hpt
              have g0 : W0.cell? ⟨gp, op, none⟩ = some (.int .i64 q) := by simpa using hfirst
              have d16 : W0.cell? ⟨b, 16, none⟩ = some (.slice (some ⟨gp, op, none⟩) pn pc) := cell_at hfw.s.box
              have d17 : W0.cell? ⟨b, 17, none⟩ = some (.slice ta tn tc) := cell_at hfw.s.box
              obtain ⟨Z, hZ⟩ : ∃ z, W0.alloc (.cells #[.int .i64 q] 3) = z := ⟨_, rfl⟩
              have bZ : Below W0.heap.size W0 Z := hZ ▸ below_box _
              have e17 : Z.cell? ⟨b, 17, none⟩ = some (.slice ta tn tc) := cell_at (hfw.s.grow bZ).box
              obtain ⟨aT, kT, yT, rT, eT, zT, fT, gT⟩ := hfw.appT htn (by omega) hZ (Nat.le_refl _) hbw (Nat.le_refl _) hbb
              rw [h0] at fT
              have HG := hide (And.intro fT gT)
              have HRT := hide rT
              have HPT := hide hpt
              have HZ := hide hZ
              have hlt0 : (0 : Int) < ((pn : Nat) : Int) := by omega
              have hlt1 : 0 < pn := by omega
              have HW0 := hide hW0
              clear hfa hbe hpn htn he1 hp0 h0 hpt hpp hq bW hfw hbw hfirst bZ fT gT rT hZ hW0
              go_wp2_with fail
              refine wp_region_held_drew (S := fun _ => True) (by kernel_rfl) trivial (fun hHeld => ?_)
              rw [unhide HW0]
              refine wpAnyH_take (i := 0) (v := ?v10x0) rfl (by kernel_rfl) (by kernel_rfl) (by kernel_rfl) (fun _ _ _ h => h) (Or.inl ⟨by rfl, ?hy10x0⟩) (by assumption) ?rest10x0
              case hy10x0 => intro w hSw; go_simp <;> with_reducible rfl
              simp only [Act.put, List.getElem_toArray, List.getElem_cons_zero, List.setIfInBounds_toArray, List.set_cons_zero, List.set_cons_succ]
              refine wpAnyH_take (i := 2) (v := ?v11x2) rfl (by kernel_rfl) (by kernel_rfl) (by kernel_rfl) (fun _ _ _ h => h) (Or.inl ⟨by rfl, ?hy11x2⟩) (by assumption) ?rest11x2
              case hy11x2 => intro w hSw; go_simp <;> with_reducible rfl
              simp only [Act.put, List.getElem_toArray, List.getElem_cons_zero, List.getElem_cons_succ, List.setIfInBounds_toArray, List.set_cons_zero, List.set_cons_succ]
              refine wpAnyH_ready (rs := [1, 3]) (by kernel_rfl) (by simp) ?_
              refine AllReadyH.cons rfl (fun K hK => ?_) (AllReadyH.cons rfl (fun K hK => ?_) AllReadyH.nil)
              · skip
                go_simp
                refine hK _ _ trivial ?_
                clear hK hHeld
                intro hHeld
                refine wpAnyH_ready (rs := [3]) (by kernel_rfl) (by simp) ?_
                refine AllReadyH.cons rfl (fun K hK => ?_) AllReadyH.nil
                go_simp
                refine hK _ _ trivial ?_
                clear hK hHeld
                intro hHeld
                refine wpAnyH_take (i := 4) (v := ?v12x4) rfl (by kernel_rfl) (by kernel_rfl) (by kernel_rfl) (fun _ _ _ h => h) (Or.inl ⟨by rfl, ?hy12x4⟩) (by assumption) ?rest12x4
                case hy12x4 => intro w hSw; go_simp <;> with_reducible rfl
                simp only [Act.put, List.getElem_toArray, List.getElem_cons_zero, List.getElem_cons_succ, List.setIfInBounds_toArray, List.set_cons_zero, List.set_cons_succ]
                refine wpAnyH_ready (rs := [5]) (by kernel_rfl) (by simp) ?_
                refine AllReadyH.cons rfl (fun K hK => ?_) AllReadyH.nil
                go_simp
                refine hK _ _ trivial ?_
                clear hK hHeld
                intro hHeld
                refine wpAnyH_ready (rs := [6]) (by kernel_rfl) (by simp) ?_
                refine AllReadyH.cons rfl (fun K hK => ?_) AllReadyH.nil
                go_simp
                rw [unhide HZ]
                refine hK _ _ trivial ?_
                clear hK hHeld
                intro hHeld
                refine wpAnyH_ready (rs := [7]) (by kernel_rfl) (by simp) ?_
                refine AllReadyH.cons rfl (fun K hK => ?_) AllReadyH.nil
                rw [if_pos (by rfl)]
                refine append_upon rfl rfl rfl (unhide HRT) ?_
                simp only [Act.put, List.getElem_toArray, List.getElem_cons_zero, List.getElem_cons_succ, List.setIfInBounds_toArray, List.set_cons_zero, List.set_cons_succ]
                refine hK _ _ trivial ?_
                clear hK hHeld
                intro hHeld
                refine wpAnyH_take (i := 8) (v := ?v13x8) rfl (by kernel_rfl) (by kernel_rfl) (by kernel_rfl) (fun _ _ _ h => h) (Or.inl ⟨by rfl, ?hy13x8⟩) (by assumption) ?rest13x8
                case hy13x8 => intro w hSw; go_simp <;> with_reducible rfl
                simp only [Act.put, List.getElem_toArray, List.getElem_cons_zero, List.getElem_cons_succ, List.setIfInBounds_toArray, List.set_cons_zero, List.set_cons_succ]
                refine wpAnyH_ready (rs := [9]) (by kernel_rfl) (by simp) ?_
                refine AllReadyH.cons rfl (fun K hK => ?_) AllReadyH.nil
                go_simp
                refine hK _ _ trivial ?_
                clear hK hHeld
                intro hHeld
                refine wpAnyH_done (by kernel_rfl) ?_ _
                go_wp2_with fail
                go_meet
                case rel => exact ⟨_, _, by rw [unhide HPT]; exact (unhide HG).1, (unhide HG).2⟩
              · skip
                go_simp
                refine hK _ _ trivial ?_
                clear hK hHeld
                intro hHeld
                refine wpAnyH_take (i := 4) (v := ?v14x4) rfl (by kernel_rfl) (by kernel_rfl) (by kernel_rfl) (fun _ _ _ h => h) (Or.inl ⟨by rfl, ?hy14x4⟩) (by assumption) ?rest14x4
                case hy14x4 => intro w hSw; go_simp <;> with_reducible rfl
                simp only [Act.put, List.getElem_toArray, List.getElem_cons_zero, List.getElem_cons_succ, List.setIfInBounds_toArray, List.set_cons_zero, List.set_cons_succ]
                refine wpAnyH_ready (rs := [1, 5]) (by kernel_rfl) (by simp) ?_
                refine AllReadyH.cons rfl (fun K hK => ?_) (AllReadyH.cons rfl (fun K hK => ?_) AllReadyH.nil)
                · skip
                  go_simp
                  refine hK _ _ trivial ?_
                  clear hK hHeld
                  intro hHeld
                  refine wpAnyH_ready (rs := [5]) (by kernel_rfl) (by simp) ?_
                  refine AllReadyH.cons rfl (fun K hK => ?_) AllReadyH.nil
                  go_simp
                  refine hK _ _ trivial ?_
                  clear hK hHeld
                  intro hHeld
                  refine wpAnyH_ready (rs := [6]) (by kernel_rfl) (by simp) ?_
                  refine AllReadyH.cons rfl (fun K hK => ?_) AllReadyH.nil
                  go_simp
                  rw [unhide HZ]
                  refine hK _ _ trivial ?_
                  clear hK hHeld
                  intro hHeld
                  refine wpAnyH_ready (rs := [7]) (by kernel_rfl) (by simp) ?_
                  refine AllReadyH.cons rfl (fun K hK => ?_) AllReadyH.nil
                  rw [if_pos (by rfl)]
                  refine append_upon rfl rfl rfl (unhide HRT) ?_
                  simp only [Act.put, List.getElem_toArray, List.getElem_cons_zero, List.getElem_cons_succ, List.setIfInBounds_toArray, List.set_cons_zero, List.set_cons_succ]
                  refine hK _ _ trivial ?_
                  clear hK hHeld
                  intro hHeld
                  refine wpAnyH_take (i := 8) (v := ?v15x8) rfl (by kernel_rfl) (by kernel_rfl) (by kernel_rfl) (fun _ _ _ h => h) (Or.inl ⟨by rfl, ?hy15x8⟩) (by assumption) ?rest15x8
                  case hy15x8 => intro w hSw; go_simp <;> with_reducible rfl
                  simp only [Act.put, List.getElem_toArray, List.getElem_cons_zero, List.getElem_cons_succ, List.setIfInBounds_toArray, List.set_cons_zero, List.set_cons_succ]
                  refine wpAnyH_ready (rs := [9]) (by kernel_rfl) (by simp) ?_
                  refine AllReadyH.cons rfl (fun K hK => ?_) AllReadyH.nil
                  go_simp
                  refine hK _ _ trivial ?_
                  clear hK hHeld
                  intro hHeld
                  refine wpAnyH_done (by kernel_rfl) ?_ _
                  go_wp2_with fail
                  go_meet
                  case rel => exact ⟨_, _, by rw [unhide HPT]; exact (unhide HG).1, (unhide HG).2⟩
                · skip
                  go_simp
                  refine hK _ _ trivial ?_
                  clear hK hHeld
                  intro hHeld
                  refine wpAnyH_ready (rs := [1, 6]) (by kernel_rfl) (by simp) ?_
                  refine AllReadyH.cons rfl (fun K hK => ?_) (AllReadyH.cons rfl (fun K hK => ?_) AllReadyH.nil)
                  · skip
                    go_simp
                    refine hK _ _ trivial ?_
                    clear hK hHeld
                    intro hHeld
                    refine wpAnyH_ready (rs := [6]) (by kernel_rfl) (by simp) ?_
                    refine AllReadyH.cons rfl (fun K hK => ?_) AllReadyH.nil
                    go_simp
                    rw [unhide HZ]
                    refine hK _ _ trivial ?_
                    clear hK hHeld
                    intro hHeld
                    refine wpAnyH_ready (rs := [7]) (by kernel_rfl) (by simp) ?_
                    refine AllReadyH.cons rfl (fun K hK => ?_) AllReadyH.nil
                    rw [if_pos (by rfl)]
                    refine append_upon rfl rfl rfl (unhide HRT) ?_
                    simp only [Act.put, List.getElem_toArray, List.getElem_cons_zero, List.getElem_cons_succ, List.setIfInBounds_toArray, List.set_cons_zero, List.set_cons_succ]
                    refine hK _ _ trivial ?_
                    clear hK hHeld
                    intro hHeld
                    refine wpAnyH_take (i := 8) (v := ?v16x8) rfl (by kernel_rfl) (by kernel_rfl) (by kernel_rfl) (fun _ _ _ h => h) (Or.inl ⟨by rfl, ?hy16x8⟩) (by assumption) ?rest16x8
                    case hy16x8 => intro w hSw; go_simp <;> with_reducible rfl
                    simp only [Act.put, List.getElem_toArray, List.getElem_cons_zero, List.getElem_cons_succ, List.setIfInBounds_toArray, List.set_cons_zero, List.set_cons_succ]
                    refine wpAnyH_ready (rs := [9]) (by kernel_rfl) (by simp) ?_
                    refine AllReadyH.cons rfl (fun K hK => ?_) AllReadyH.nil
                    go_simp
                    refine hK _ _ trivial ?_
                    clear hK hHeld
                    intro hHeld
                    refine wpAnyH_done (by kernel_rfl) ?_ _
                    go_wp2_with fail
                    go_meet
                    case rel => exact ⟨_, _, by rw [unhide HPT]; exact (unhide HG).1, (unhide HG).2⟩
                  · skip
                    go_simp
                    rw [unhide HZ]
                    refine hK _ _ trivial ?_
                    clear hK hHeld
                    intro hHeld
                    refine wpAnyH_ready (rs := [1]) (by kernel_rfl) (by simp) ?_
                    refine AllReadyH.cons rfl (fun K hK => ?_) AllReadyH.nil
                    go_simp
                    refine hK _ _ trivial ?_
                    clear hK hHeld
                    intro hHeld
                    refine wpAnyH_ready (rs := [7]) (by kernel_rfl) (by simp) ?_
                    refine AllReadyH.cons rfl (fun K hK => ?_) AllReadyH.nil
                    rw [if_pos (by rfl)]
                    refine append_upon rfl rfl rfl (unhide HRT) ?_
                    simp only [Act.put, List.getElem_toArray, List.getElem_cons_zero, List.getElem_cons_succ, List.setIfInBounds_toArray, List.set_cons_zero, List.set_cons_succ]
                    refine hK _ _ trivial ?_
                    clear hK hHeld
                    intro hHeld
                    refine wpAnyH_take (i := 8) (v := ?v17x8) rfl (by kernel_rfl) (by kernel_rfl) (by kernel_rfl) (fun _ _ _ h => h) (Or.inl ⟨by rfl, ?hy17x8⟩) (by assumption) ?rest17x8
                    case hy17x8 => intro w hSw; go_simp <;> with_reducible rfl
                    simp only [Act.put, List.getElem_toArray, List.getElem_cons_zero, List.getElem_cons_succ, List.setIfInBounds_toArray, List.set_cons_zero, List.set_cons_succ]
                    refine wpAnyH_ready (rs := [9]) (by kernel_rfl) (by simp) ?_
                    refine AllReadyH.cons rfl (fun K hK => ?_) AllReadyH.nil
                    go_simp
                    refine hK _ _ trivial ?_
                    clear hK hHeld
                    intro hHeld
                    refine wpAnyH_done (by kernel_rfl) ?_ _
                    go_wp2_with fail
                    go_meet
                    case rel => exact ⟨_, _, by rw [unhide HPT]; exact (unhide HG).1, (unhide HG).2⟩
            | false =>
              have hp0 : tn ≠ 0 := fun e => by rw [e] at he1; cases he1
              have hpt : actL L L' = hv (cnt1 L') 8 := by unfold actL; rw [if_neg (fun h => hp0 (by rw [← htn, h]; rfl))]
              have HG := hide (And.intro hfa hbe)
              have HPT := hide hpt
              clear hfa hbe hpn htn he1 hpt
              go_wp2
              go_meet
              case rel => exact ⟨_, _, by rw [unhide HPT]; exact (unhide HG).1, (unhide HG).2⟩
          case rest =>
            obtain ⟨pv, tv, hfa, hbe⟩ := hcut
            have hft := hfa.s
            clear hfa
            obtain ⟨b0, z0, bY, xY, uY, hsz⟩ := unhide HX
            obtain ⟨pa, pc, hpv⟩ := own_shape hft.ps
            obtain ⟨ta, tc, htv⟩ := own_shape hft.ts
            have u1 : wc.heap[Y0.heap.size]? = some (.cells nil18 32) := (hbe.block _ hsz).trans uY
            have hone : (ftC a L c a' L' c' pv tv).all (·.oneCell') = true := by rw [hpv, htv]; exact ft_one _ _ _ _ _ _
            have x1 : (wc.setRow Y0.heap.size (ftC a L c a' L' c' pv tv)).heap[Y0.heap.size]? = some (.cells (ftC a L c a' L' c' pv tv) 32) := by rw [setRow_heap wc Y0.heap.size _ _ 32 (0, 0) u1]
            have hj : ∀ j, j ≠ Y0.heap.size → (wc.setRow Y0.heap.size (ftC a L c a' L' c' pv tv)).heap[j]? = wc.heap[j]? := fun j hj => setRow_other _ _ _ _ hj
            have hle := bY.size
            have hV : FtV w.heap.size (inP n (srt x.rs)) (inP n (srt x.ws)) a L c a' L' c' pv tv (ptsL L L') (actL L L') (wc.setRow Y0.heap.size (ftC a L c a' L' c' pv tv)) := ⟨(hft.rd.mono hle).box u1 hj, (hft.wt.mono hle).box u1 hj, own_box u1 (by decide) hj (own_mono hft.ps hle), own_box u1 (by decide) hj (own_mono hft.ts hle)⟩
            have hBV : Below w.heap.size w (wc.setRow Y0.heap.size (ftC a L c a' L' c' pv tv)) := below_setRow (bY.trans (hbe.mono hle)) b0.size
            have HF := hide (And.intro hft.box (And.intro u1 (And.intro hone (And.intro x1 (And.intro hV hBV)))))
            clear hft hbe b0 z0 bY xY uY hsz hpv htv u1 hone x1 hj hle hV hBV
            go_wp2_with (first | (refine wpList_load_row rfl 32 _ rfl b rfl 32 (ftC a L c a' L' c' pv tv) (0, 0) _ (unhide HF).1 Try.underlying32 rfl Try.info32 ?_) | (refine wpList_store_row rfl 32 _ _ rfl Y0.heap.size nil18 (ftC a L c a' L' c' pv tv) rfl rfl 32 (unhide HF).2.1 Try.info32 rfl (unhide HF).2.2.1 ?_))
            exact bodyPost_ret (results_cell_row rfl _ _ Y0.heap.size 32 _ (0, 0) _ rfl (unhide HF).2.2.2.1 Try.underlying32 rfl Try.info32) rfl ⟨a, c, a', c', pv, tv, rfl, (unhide HF).2.2.2.2.1, (unhide HF).2.2.2.2.2⟩
end Go.Proofs.Ytibjhjkeflbghaa
