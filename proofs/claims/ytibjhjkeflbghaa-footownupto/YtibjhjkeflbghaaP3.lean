/- FootOwn's walk. -/
import Derived.Test.YtibjhjkeflbghaaP2
import Derived.Test.YtibjhjkeflbghaaN4
namespace Go.Proofs.Ytibjhjkeflbghaa
open Go.RowKit
set_option maxRecDepth 100000

theorem keys_yes {x : World} {u v : Value} {l : List Ky} (ha : SeesL kC 2 x u l) (hb : SeesL kC 2 x v l) : Calls Try.prog 33 #[u, v] x fun e w' => e = .returned (.bool true) ∧ Below x.heap.size x w' :=
  (keysEq_any ha hb).mono fun _ _ ⟨h1, h2⟩ => ⟨by rw [h1]; simp, h2⟩
/-- Where FootOwn stands with both lists of locks. -/
structure Sl (B g : Nat) (w : World) (v u : Value) (m n : Nat) (z : World) : Prop where
  bel : Below B w z
  box : z.heap[g]? = some (.cells #[v, u] 35)
  one : Wr 39 3 B z v m
  two : Wr 39 3 B z u n
theorem Sl.set {B g h o : Nat} {w z : World} {v u x : Value} {m n : Nat} (hs : Sl B g w v u m n z) (hg : B ≤ h) {cs : Array Value} (hT : z.heap[h]? = some (.cells cs 39)) : Sl B g w v u m n (z.setCell ⟨h, o, none⟩ x) :=
  ⟨below_cell hs.bel hg, (setCell_far (fun e => by have := hs.box; rw [e, hT] at this; simp at this)).trans hs.box, hs.one.set, hs.two.set⟩

set_option maxHeartbeats 8000000 in
theorem footOwn_walk {x : Tx} {w : World} (hx : SeesX w x) (hsh : x.rs.length + x.ws.length ≤ 1048576) : Calls Try.prog 8 #[xV x] w fun e w' => e = .returned (.bool true) ∧ Below w.heap.size w w' := by
  have hsh' : Short x := by unfold Short; omega
  obtain ⟨⟨ac, nc, cc, hc⟩, ⟨aa, na, ca, ha⟩⟩ := And.intro hx.shc hx.sha
  obtain ⟨ar, cr, hr⟩ := hx.rs.shape
  obtain ⟨aw, cw, hw⟩ := hx.ws.shape
  obtain ⟨nr, hnr⟩ : ∃ z, x.rs.length = z := ⟨_, rfl⟩
  obtain ⟨nw, hnw⟩ : ∃ z, x.ws.length = z := ⟨_, rfl⟩
  obtain ⟨s, hs⟩ : ∃ z, x.s = z := ⟨_, rfl⟩
  obtain ⟨r, hrr⟩ : ∃ z, x.r = z := ⟨_, rfl⟩
  rw [hnr] at hr
  rw [hnw] at hw
  have hxV : xV x = .agg #[.int .i64 s, .int .i64 r, .slice ac nc cc, .slice aa na ca, .slice ar nr cr, .slice aw nw cw] := by unfold xV; rw [hc, ha, hr, hw, hs, hrr]
  obtain ⟨Y, hY⟩ : ∃ y, w.alloc (.cells #[.int .i64 s, .int .i64 r, .slice ac nc cc, .slice aa na ca, .slice ar nr cr, .slice aw nw cw] 26) = y := ⟨_, rfl⟩
  have bY : Below w.heap.size w Y := hY ▸ below_box _
  have xY : Y.heap[w.heap.size]? = some (.cells #[.int .i64 s, .int .i64 r, .slice ac nc cc, .slice aa na ca, .slice ar nr cr, .slice aw nw cw] 26) := hY ▸ heap_alloc_new w _
  have HC : Hid (∀ z, Below Y.heap.size Y z → z.heap[w.heap.size]? = some (.cells #[.int .i64 s, .int .i64 r, .slice ac nc cc, .slice aa na ca, .slice ar nr cr, .slice aw nw cw] 26)) := fun z hz => (hz.block _ (Array.getElem?_eq_some_iff.1 xY).1).trans xY
  have HX : Hid (∀ z, Below Y.heap.size Y z → SeesX z x) := fun z hz => (hx.below bY).below hz
  have HRS : Hid (∀ z, Below Y.heap.size Y z → SeesL kC 2 z (.slice ar nr cr) x.rs) := fun z hz => hr ▸ ((unhide HX) z hz).rs
  have HWS : Hid (∀ z, Below Y.heap.size Y z → SeesL kC 2 z (.slice aw nw cw) x.ws) := fun z hz => hw ▸ ((unhide HX) z hz).ws
  have H11 : Hid (∀ z, Below Y.heap.size Y z → Calls Try.prog 11 #[.agg #[.int .i64 s, .int .i64 r, .slice ac nc cc, .slice aa na ca, .slice ar nr cr, .slice aw nw cw], .int .i64 2] z fun e w' => ∃ a c a' c' pv tv, e = .returned (.agg (ftC a (fun p => (inP 2 (srt x.rs) p).length) c a' (fun p => (inP 2 (srt x.ws) p).length) c' pv tv)) ∧ FtV z.heap.size (inP 2 (srt x.rs)) (inP 2 (srt x.ws)) a (fun p => (inP 2 (srt x.rs) p).length) c a' (fun p => (inP 2 (srt x.ws) p).length) c' pv tv (ptsL (fun p => (inP 2 (srt x.rs) p).length) (fun p => (inP 2 (srt x.ws) p).length)) (actL (fun p => (inP 2 (srt x.rs) p).length) (fun p => (inP 2 (srt x.ws) p).length)) w' ∧ Below z.heap.size z w') := fun z hz => hxV ▸ of_any 2 ((unhide HX) z hz)
  have H14 : Hid (∀ z, Below Y.heap.size Y z → Calls Try.prog 14 #[.agg #[.int .i64 s, .int .i64 r, .slice ac nc cc, .slice aa na ca, .slice ar nr cr, .slice aw nw cw]] z fun e w' => ∃ v, e = .returned v ∧ w'.ownsRow z.heap.size 39 3 v (lkX x).length ((lkX x).flatMap lC) ∧ Below z.heap.size z w') := fun z hz => hxV ▸ lkX_any ((unhide HX) z hz) hsh'
  have H16 : Hid (∀ z, Below Y.heap.size Y z → Calls Try.prog 16 #[.agg #[.int .i64 s, .int .i64 r, .slice ac nc cc, .slice aa na ca, .slice ar nr cr, .slice aw nw cw], .int .i64 0, .int .i64 1] z fun e w' => ∃ r, e = .returned r ∧ w'.ownsRow z.heap.size 39 3 r (atP 0 1 (lkX x)).length ((atP 0 1 (lkX x)).flatMap lC) ∧ Below z.heap.size z w') := fun z hz => hxV ▸ at_any 0 1 ((unhide HX) z hz) hsh'
  have hlr := hx.lr
  have hlw := hx.lw
  have H32r : Hid (∀ z, Below Y.heap.size Y z → Calls Try.prog 32 #[.slice ar nr cr] z fun e w' => ∃ r, e = .returned r ∧ SeesL kC 2 w' r x.rs ∧ Below z.heap.size z w') := fun z hz => clone_keys ((unhide HRS) z hz) (by omega)
  have H32w : Hid (∀ z, Below Y.heap.size Y z → Calls Try.prog 32 #[.slice aw nw cw] z fun e w' => ∃ r, e = .returned r ∧ SeesL kC 2 w' r x.ws ∧ Below z.heap.size z w') := fun z hz => clone_keys ((unhide HWS) z hz) (by omega)
  have HBY := hide bY
  have HY := hide hY
  obtain ⟨L, hL⟩ : ∃ L, (fun p => (inP 2 (srt x.rs) p).length) = L := ⟨_, rfl⟩
  obtain ⟨L', hL'⟩ : ∃ L, (fun p => (inP 2 (srt x.ws) p).length) = L := ⟨_, rfl⟩
  obtain ⟨m1, hm1⟩ : ∃ m, (lkX x).length = m := ⟨_, rfl⟩
  obtain ⟨m2, hm2⟩ : ∃ m, (atP 0 1 (lkX x)).length = m := ⟨_, rfl⟩
  have HL := hide (And.intro hL hL')
  rw [hL, hL'] at H11
  rw [hm1] at H14
  rw [hm2] at H16
  rw [hxV]
  clear hx hsh hsh' hc ha hr hw hnr hnw hs hrr hxV bY xY hY hlr hlw hL hL' hm1 hm2 HX
  go_enter Try.func8, Try.ntmps8
  go_wp2_with (rw [unhide HY])
  refine wp_region_held_drew (S := fun x => Below Y.heap.size Y x) (by kernel_rfl) ((Below.refl _ _).drew) (fun hHeld => ?_)
  refine wpAnyH_take (i := 0) (v := ?v1x0) rfl (by as_aux_lemma => kernel_rfl) (by as_aux_lemma => kernel_rfl) (by as_aux_lemma => kernel_rfl) (fun _ _ _ h => h) (Or.inl ⟨by rfl, ?hy1x0⟩) (by assumption) ?rest1x0
  case hy1x0 => intro w hSw; go_simp <;> with_reducible rfl
  simp only [Act.put, List.getElem_toArray, List.getElem_cons_zero, List.setIfInBounds_toArray, List.set_cons_zero, List.set_cons_succ]
  refine wpAnyH_take (i := 1) (v := (.slice ar nr cr)) rfl (by as_aux_lemma => kernel_rfl) (by as_aux_lemma => kernel_rfl) (by as_aux_lemma => kernel_rfl) (fun _ _ _ h => h) (Or.inl ⟨by rfl, ?hy2x1⟩) (by assumption) ?rest2x1
  case hy2x1 => intro w hSw; have s1 := cell_at (o := 4) (unhide HC _ hSw); go_simp <;> with_reducible rfl
  simp only [Act.put, List.getElem_toArray, List.getElem_cons_zero, List.getElem_cons_succ, List.setIfInBounds_toArray, List.set_cons_zero, List.set_cons_succ]
  refine wpAnyH_take (i := 3) (v := ?v3x3) rfl (by as_aux_lemma => kernel_rfl) (by as_aux_lemma => kernel_rfl) (by as_aux_lemma => kernel_rfl) (fun _ _ _ h => h) (Or.inl ⟨by rfl, ?hy3x3⟩) (by assumption) ?rest3x3
  case hy3x3 => intro w hSw; go_simp <;> with_reducible rfl
  simp only [Act.put, List.getElem_toArray, List.getElem_cons_zero, List.getElem_cons_succ, List.setIfInBounds_toArray, List.set_cons_zero, List.set_cons_succ]
  refine wpAnyH_take (i := 4) (v := (.slice aw nw cw)) rfl (by as_aux_lemma => kernel_rfl) (by as_aux_lemma => kernel_rfl) (by as_aux_lemma => kernel_rfl) (fun _ _ _ h => h) (Or.inl ⟨by rfl, ?hy4x4⟩) (by assumption) ?rest4x4
  case hy4x4 => intro w hSw; have s1 := cell_at (o := 5) (unhide HC _ hSw); go_simp <;> with_reducible rfl
  simp only [Act.put, List.getElem_toArray, List.getElem_cons_zero, List.getElem_cons_succ, List.setIfInBounds_toArray, List.set_cons_zero, List.set_cons_succ]
  refine wpAnyH_ready (rs := [2]) (by as_aux_lemma => kernel_rfl) (by simp) ?_
  refine AllReadyH.cons rfl (fun K hK => ?_) AllReadyH.nil
  go_simp
  refine (unhide H32r _ ((Below.refl _ _).drew)).mono ?_
  rintro e w1 ⟨v1, rfl, hs1, hb1⟩
  refine hK _ _ ((Below.refl _ _).drew.trans (hb1.mono ((Below.refl Y.heap.size Y).drew).size)) ?_
  clear hK hHeld
  have t1 : Below Y.heap.size Y w1 := (Below.refl _ _).drew.trans (hb1.mono ((Below.refl Y.heap.size Y).drew).size)
  have HS1 := hide hs1
  obtain ⟨a1, k1, e1⟩ := hs1.shape
  clear hs1 hb1
  intro hHeld
  refine wpAnyH_ready (rs := [5]) (by as_aux_lemma => kernel_rfl) (by simp) ?_
  refine AllReadyH.cons rfl (fun K hK => ?_) AllReadyH.nil
  go_simp
  refine (unhide H32w _ t1).mono ?_
  rintro e w2 ⟨v2, rfl, hs2, hb2⟩
  refine hK _ _ (t1.trans (hb2.mono t1.size)) ?_
  clear hK hHeld
  have HB2 : Hid (Below Y.heap.size Y w2) := t1.trans (hb2.mono t1.size)
  have HS1' := hide ((unhide HS1).below kC_len hb2)
  have HS2 := hide hs2
  obtain ⟨a2, k2, e2⟩ := hs2.shape
  clear hs2 hb2 t1 HS1
  intro hHeld
  obtain ⟨n1, hn1⟩ : ∃ m, x.rs.length = m := ⟨_, rfl⟩
  obtain ⟨n2, hn2⟩ : ∃ m, x.ws.length = m := ⟨_, rfl⟩
  rw [hn1] at e1 ⊢
  rw [hn2] at e2
  subst e1 e2
  clear hn1 hn2
  refine wpAnyH_take (i := 6) (v := ?v5x6) rfl (by as_aux_lemma => kernel_rfl) (by as_aux_lemma => kernel_rfl) (by as_aux_lemma => kernel_rfl) (fun _ _ _ h => h) (Or.inl ⟨by rfl, ?hy5x6⟩) (by assumption) ?rest5x6
  case hy5x6 => intro w hSw; go_simp <;> with_reducible rfl
  simp only [Act.put, List.getElem_toArray, List.getElem_cons_zero, List.getElem_cons_succ, List.setIfInBounds_toArray, List.set_cons_zero, List.set_cons_succ]
  refine wpAnyH_take (i := 7) (v := ?v6x7) rfl (by as_aux_lemma => kernel_rfl) (by as_aux_lemma => kernel_rfl) (by as_aux_lemma => kernel_rfl) (fun _ _ _ h => h) (Or.inl ⟨by rfl, ?hy6x7⟩) (by assumption) ?rest6x7
  case hy6x7 => intro w hSw; go_simp <;> with_reducible rfl
  simp only [Act.put, List.getElem_toArray, List.getElem_cons_zero, List.getElem_cons_succ, List.setIfInBounds_toArray, List.set_cons_zero, List.set_cons_succ]
  refine wpAnyH_done (by as_aux_lemma => kernel_rfl) ?_ _
  have q := unhide HC w2 (unhide HB2)
  have q0 := cell_at (o := 0) q
  have q1 := cell_at (o := 1) q
  have q2 := cell_at (o := 2) q
  have q3 := cell_at (o := 3) q
  have q4 := cell_at (o := 4) q
  have q5 := cell_at (o := 5) q
  clear q
  simp only [List.getElem?_toArray, List.getElem?_cons_zero, List.getElem?_cons_succ] at q0 q1 q2 q3 q4 q5
  go_wp2_with (first | (go_at_call 11; refine (unhide H11 w2 (unhide HB2)).mono ?_; rintro e w3 ⟨a, c, a', c', pv, tv, rfl, hV, hB⟩; have HV := hide (And.intro hV hB); obtain ⟨y0, hy0⟩ : ∃ z, w3.alloc (.cells nil18 32) = z := ⟨_, rfl⟩; have hx0 := (hy0 ▸ heap_alloc_new w3 (.cells nil18 32) : y0.heap[w3.heap.size]? = some (.cells nil18 32)); obtain ⟨pa, pc, hpv⟩ := own_shape hV.ps; obtain ⟨ta, tc, htv⟩ := own_shape hV.ts; have HX0 := hide (And.intro hx0 (And.intro hpv htv)); have HY0 := hide hy0; clear hV hB hx0 hpv htv hy0) | rw [show w3.alloc (.cells #[.slice none 0 0, .slice none 0 0, .slice none 0 0, .slice none 0 0, .slice none 0 0, .slice none 0 0, .slice none 0 0, .slice none 0 0, .slice none 0 0, .slice none 0 0, .slice none 0 0, .slice none 0 0, .slice none 0 0, .slice none 0 0, .slice none 0 0, .slice none 0 0, .slice none 0 0, .slice none 0 0] 32) = y0 from unhide HY0] | (refine wpList_store_row rfl 32 _ _ rfl w3.heap.size nil18 (ftC a L c a' L' c' pv tv) rfl rfl 32 (unhide HX0).1 Try.info32 rfl (by rw [(unhide HX0).2.1, (unhide HX0).2.2]; exact ft_one _ _ _ _ _ _) ?_))
  clear q0 q1 q2 q3 q4 q5
  obtain ⟨b5, hb5⟩ : ∃ b, w3.heap.size = b := ⟨_, rfl⟩
  rw [hb5]
  obtain ⟨Z, hZ⟩ : ∃ z, y0.setRow b5 (ftC a L c a' L' c' pv tv) = z := ⟨_, rfl⟩
  have hSp : Sp w2.heap.size b5 w2 a L c a' L' c' pv tv Z := by
    obtain ⟨hV, hB⟩ := unhide HV
    obtain ⟨hx0, hpv, htv⟩ := unhide HX0
    rw [hb5] at hx0
    have hb0 : Below w3.heap.size w3 y0 := unhide HY0 ▸ below_box _
    have hj : ∀ j, j ≠ b5 → Z.heap[j]? = y0.heap[j]? := fun j hj => hZ ▸ setRow_other _ _ _ _ hj
    have h1 := (hV.rd.below hb0).box hx0 hj
    have h2 := (hV.wt.below hb0).box hx0 hj
    have hle := hB.size
    exact ⟨hZ ▸ below_setRow (hB.trans (hb0.mono hB.size)) (hb5 ▸ hle), by rw [← hZ, setRow_heap y0 b5 _ _ 32 (0, 0) hx0], fun p hp => by
      have h := Wr.of (h1.2.1 p _ (litR_at _ _ _ hp))
      rw [show (inP 2 (srt x.rs) p).length = L p from congrFun (unhide HL).1 p] at h
      exact h, fun p hp => by
      have h := Wr.of (h2.2.1 p _ (litR_at _ _ _ hp))
      rw [show (inP 2 (srt x.ws) p).length = L' p from congrFun (unhide HL).2 p] at h
      exact h⟩
  have HSP := hide hSp
  rw [hZ]
  clear hSp hZ HV HX0 HY0 hb5
  go_loopw [20] (fun q wr => ∃ p : Nat, p ≤ 8 ∧ q = .int .i64 p ∧ Sp w2.heap.size b5 w2 a L c a' L' c' pv tv wr) (fun q _ => 8 - (intOf q).toNat)
  case atStart => exact ⟨0, by omega, rfl, unhide HSP⟩
  case round =>
    obtain ⟨p, hp, rfl, hsp⟩ := hrel
    have HS0 := hide hsp
    by_cases hlp : p < 8
    · have hcp := (ft_cells hsp.box hlp).1
      have hcL : L p ≤ 9223372036854775807 := by obtain ⟨_, _, _, _, h, _⟩ := hsp.rd p hlp; exact h
      have hcL' : L' p ≤ 9223372036854775807 := by obtain ⟨_, _, _, _, h, _⟩ := hsp.wt p hlp; exact h
      obtain ⟨pA, hpA⟩ : ∃ z, a p = z := ⟨_, rfl⟩
      obtain ⟨pL, hpL⟩ : ∃ z, L p = z := ⟨_, rfl⟩
      obtain ⟨pC, hpC⟩ : ∃ z, c p = z := ⟨_, rfl⟩
      obtain ⟨qA, hqA⟩ : ∃ z, a' p = z := ⟨_, rfl⟩
      obtain ⟨qL, hqL⟩ : ∃ z, L' p = z := ⟨_, rfl⟩
      obtain ⟨qC, hqC⟩ : ∃ z, c' p = z := ⟨_, rfl⟩
      have HQ : Hid (∀ z, Sp w2.heap.size b5 w2 a L c a' L' c' pv tv z → z.cell? ⟨b5, p, none⟩ = some (.slice pA pL pC) ∧ z.cell? ⟨b5, 8 + p, none⟩ = some (.slice qA qL qC) ∧ Wr 37 2 w2.heap.size z (.slice pA pL pC) pL ∧ Wr 37 2 w2.heap.size z (.slice qA qL qC) qL) := fun z hz => by
        rw [← hpA, ← hpL, ← hpC, ← hqA, ← hqL, ← hqC]
        exact ⟨(ft_cells hz.box hlp).1, (ft_cells hz.box hlp).2, hz.rd p hlp, hz.wt p hlp⟩
      rw [hpA, hpL, hpC] at hcp
      rw [hpL] at hcL
      rw [hqL] at hcL'
      clear hsp hpA hpL hpC hqA hqL hqC
      go_wp2
      go_loopw [28] (fun q wr => ∃ i : Nat, i ≤ pL ∧ q = .int .i64 i ∧ Sp w2.heap.size b5 w2 a L c a' L' c' pv tv wr) (fun q _ => pL - (intOf q).toNat)
      case atStart => exact ⟨0, by omega, rfl, unhide HS0⟩
      case round =>
        obtain ⟨i, hi, rfl, hs⟩ := hrel
        by_cases hli : i < pL
        · obtain ⟨g, cap, u, e1, e2, e3, e4, cs, e5⟩ := (((unhide HQ) wr hs).2.2.1).cell hli (show 1 < 2 by decide)
          simp only [Value.slice.injEq, true_and] at e1
          obtain ⟨rfl, rfl⟩ := e1
          have hcl := ((unhide HQ) wr hs).1
          have HS2 := hide (hs.set (o := i * 2 + 1) (u := .int .i64 (-9)) e2 e5)
          clear hs e2 e5
          go_wp2
          go_roundw
          case rel => exact ⟨i + 1, by omega, by go_num, unhide HS2⟩
          case measure => simp [intOf]; omega
        · obtain rfl : i = pL := by omega
          have HS2 := hide hs
          clear hs
          have hcq := ((unhide HQ) wr (unhide HS2)).2.1
          go_wp2
          go_loopw [44] (fun q wr => ∃ i : Nat, i ≤ qL ∧ q = .int .i64 i ∧ Sp w2.heap.size b5 w2 a L c a' L' c' pv tv wr) (fun q _ => qL - (intOf q).toNat)
          case atStart => exact ⟨0, by omega, rfl, unhide HS2⟩
          case round =>
            obtain ⟨i, hi, rfl, hs⟩ := hrel
            by_cases hli : i < qL
            · obtain ⟨g, cap, u, e1, e2, e3, e4, cs, e5⟩ := (((unhide HQ) wr hs).2.2.2).cell hli (show 1 < 2 by decide)
              simp only [Value.slice.injEq, true_and] at e1
              obtain ⟨rfl, rfl⟩ := e1
              have hcl := ((unhide HQ) wr hs).2.1
              have HS2 := hide (hs.set (o := i * 2 + 1) (u := .int .i64 (-9)) e2 e5)
              clear hs e2 e5
              go_wp2
              go_roundw
              case rel => exact ⟨i + 1, by omega, by go_num, unhide HS2⟩
              case measure => simp [intOf]; omega
            · obtain rfl : i = qL := by omega
              have HS2 := hide hs
              clear hs
              go_wp2
              go_roundw
              case rel => exact ⟨p + 1, by omega, by go_num, unhide HS2⟩
              case measure => simp [intOf]; omega
    · obtain rfl : p = 8 := by omega
      have t3 : Below Y.heap.size Y wr := (unhide HB2).trans (hsp.bel.mono (unhide HB2).size)
      have HB3 := hide t3
      have HSB := hide hsp.bel
      clear hsp t3
      go_wp2
      refine wp_region_held_drew (S := fun x => Below Y.heap.size Y x) (by kernel_rfl) ((unhide HB3).drew) (fun hHeld => ?_)
      refine wpAnyH_take (i := 0) (v := (.agg #[.int .i64 s, .int .i64 r, .slice ac nc cc, .slice aa na ca, .slice ar nr cr, .slice aw nw cw])) rfl (by as_aux_lemma => kernel_rfl) (by as_aux_lemma => kernel_rfl) (by as_aux_lemma => kernel_rfl) (fun _ _ _ h => h) (Or.inl ⟨by rfl, ?hy7x0⟩) (by assumption) ?rest7x0
      case hy7x0 => intro w hSw; have q := unhide HC _ hSw; have q0 := cell_at (o := 0) q; have q1 := cell_at (o := 1) q; have q2 := cell_at (o := 2) q; have q3 := cell_at (o := 3) q; have q4 := cell_at (o := 4) q; have q5 := cell_at (o := 5) q; go_simp <;> with_reducible rfl
      simp only [Act.put, List.getElem_toArray, List.getElem_cons_zero, List.setIfInBounds_toArray, List.set_cons_zero, List.set_cons_succ]
      refine wpAnyH_take (i := 2) (v := (.agg #[.int .i64 s, .int .i64 r, .slice ac nc cc, .slice aa na ca, .slice ar nr cr, .slice aw nw cw])) rfl (by as_aux_lemma => kernel_rfl) (by as_aux_lemma => kernel_rfl) (by as_aux_lemma => kernel_rfl) (fun _ _ _ h => h) (Or.inl ⟨by rfl, ?hy8x2⟩) (by assumption) ?rest8x2
      case hy8x2 => intro w hSw; have q := unhide HC _ hSw; have q0 := cell_at (o := 0) q; have q1 := cell_at (o := 1) q; have q2 := cell_at (o := 2) q; have q3 := cell_at (o := 3) q; have q4 := cell_at (o := 4) q; have q5 := cell_at (o := 5) q; go_simp <;> with_reducible rfl
      simp only [Act.put, List.getElem_toArray, List.getElem_cons_zero, List.getElem_cons_succ, List.setIfInBounds_toArray, List.set_cons_zero, List.set_cons_succ]
      refine wpAnyH_take (i := 6) (v := ?v9x6) rfl (by as_aux_lemma => kernel_rfl) (by as_aux_lemma => kernel_rfl) (by as_aux_lemma => kernel_rfl) (fun _ _ _ h => h) (Or.inl ⟨by rfl, ?hy9x6⟩) (by assumption) ?rest9x6
      case hy9x6 => intro w hSw; go_simp <;> with_reducible rfl
      simp only [Act.put, List.getElem_toArray, List.getElem_cons_zero, List.getElem_cons_succ, List.setIfInBounds_toArray, List.set_cons_zero, List.set_cons_succ]
      refine wpAnyH_ready (rs := [1]) (by as_aux_lemma => kernel_rfl) (by simp) ?_
      refine AllReadyH.cons rfl (fun K hK => ?_) AllReadyH.nil
      go_simp
      refine (unhide H14 _ ((unhide HB3).drew)).mono ?_
      rintro e u1 ⟨l1, rfl, ho1, hb1⟩
      refine hK _ _ ((unhide HB3).drew.trans (hb1.mono (unhide HB3).drew.size)) ?_
      clear hK hHeld
      have t1 : Below Y.heap.size Y u1 := (unhide HB3).drew.trans (hb1.mono (unhide HB3).drew.size)
      have hW1 := Wr.of (own_mono ho1 ((unhide HSB).drew).size)
      obtain ⟨lA, lC1, e1⟩ := own_shape ho1
      subst e1
      have h2w : Below w2.heap.size w2 u1 := ((unhide HSB).drew).trans (hb1.mono ((unhide HSB).drew).size)
      clear ho1 hb1
      intro hHeld
      refine wpAnyH_ready (rs := [3]) (by as_aux_lemma => kernel_rfl) (by simp) ?_
      refine AllReadyH.cons rfl (fun K hK => ?_) AllReadyH.nil
      go_simp
      refine (unhide H16 _ t1).mono ?_
      rintro e u2 ⟨l2, rfl, ho2, hb2⟩
      refine hK _ _ (t1.trans (hb2.mono t1.size)) ?_
      clear hK hHeld
      have t2 : Below Y.heap.size Y u2 := t1.trans (hb2.mono t1.size)
      have hW2 := Wr.of (own_mono ho2 h2w.size)
      obtain ⟨kA, kC1, e2⟩ := own_shape ho2
      subst e2
      have h3w : Below w2.heap.size w2 u2 := h2w.trans (hb2.mono h2w.size)
      have hW1' := hW1.below hb2
      clear ho2 hb2
      intro hHeld
      obtain ⟨Q, hQ⟩ : ∃ z, u2.alloc (.cells #[.slice lA m1 lC1, .slice kA m2 kC1] 35) = z := ⟨_, rfl⟩
      have hbQ : Below u2.heap.size u2 Q := hQ ▸ below_box _
      have hQx : Q.heap[u2.heap.size]? = some (.cells #[.slice lA m1 lC1, .slice kA m2 kC1] 35) := hQ ▸ heap_alloc_new u2 _
      have hSl : Sl w2.heap.size u2.heap.size w2 (.slice lA m1 lC1) (.slice kA m2 kC1) m1 m2 Q := ⟨h3w.trans (hbQ.mono h3w.size), hQx, hW1'.below hbQ, hW2.below hbQ⟩
      have HSl := hide hSl
      have hm1 : m1 ≤ 9223372036854775807 := by obtain ⟨_, _, _, _, h, _⟩ := hW1; exact h
      have hm2 : m2 ≤ 9223372036854775807 := by obtain ⟨_, _, _, _, h, _⟩ := hW2; exact h
      refine wpAnyH_ready (rs := [4]) (by as_aux_lemma => kernel_rfl) (by simp) ?_
      refine AllReadyH.cons rfl (fun K hK => ?_) AllReadyH.nil
      go_simp
      refine hK _ _ (t2.trans (hbQ.mono t2.size)) ?_
      clear hK hHeld
      intro hHeld
      refine wpAnyH_take (i := 5) (v := ?v10x5) rfl (by as_aux_lemma => kernel_rfl) (by as_aux_lemma => kernel_rfl) (by as_aux_lemma => kernel_rfl) (fun _ _ _ h => h) (Or.inl ⟨by rfl, ?hy10x5⟩) (by assumption) ?rest10x5
      case hy10x5 => intro w hSw; go_simp <;> with_reducible rfl
      simp only [Act.put, List.getElem_toArray, List.getElem_cons_zero, List.getElem_cons_succ, List.setIfInBounds_toArray, List.set_cons_zero, List.set_cons_succ]
      refine wpAnyH_done (by as_aux_lemma => kernel_rfl) ?_ _
      clear hQ hbQ hQx hSl hW1 hW2 hW1' h2w h3w t1 t2 HB3 HSB
      obtain ⟨gL, hgL⟩ : ∃ g, u2.heap.size = g := ⟨_, rfl⟩
      rw [hgL] at HSl ⊢
      clear hgL
      go_wp2
      go_loopw [62] (fun q wr => ∃ t : Nat, t ≤ 2 ∧ q = .int .i64 t ∧ Sl w2.heap.size gL w2 (.slice lA m1 lC1) (.slice kA m2 kC1) m1 m2 wr) (fun q _ => 2 - (intOf q).toNat)
      case atStart => exact ⟨0, by omega, rfl, unhide HSl⟩
      case round =>
        obtain ⟨t, ht, rfl, hsl⟩ := hrel
        have HT := hide hsl
        have c0 := cell_at (o := 0) hsl.box
        have c1 := cell_at (o := 1) hsl.box
        simp only [List.getElem?_toArray, List.getElem?_cons_zero, List.getElem?_cons_succ] at c0 c1
        rcases (by omega : t = 0 ∨ t = 1 ∨ t = 2) with rfl | rfl | rfl
        · clear hsl
          go_wp2
          go_loopw [68] (fun q wr => ∃ i : Nat, i ≤ m1 ∧ q = .int .i64 i ∧ Sl w2.heap.size gL w2 (.slice lA m1 lC1) (.slice kA m2 kC1) m1 m2 wr) (fun q _ => m1 - (intOf q).toNat)
          case atStart => exact ⟨0, by omega, rfl, unhide HT⟩
          case round =>
            obtain ⟨i, hi, rfl, hs⟩ := hrel
            by_cases hli : i < m1
            · obtain ⟨g, cap, u, e1, e2, e3, e4, cs, e5⟩ := (hs.one).cell hli (show 1 < 3 by decide)
              simp only [Value.slice.injEq, true_and] at e1
              obtain ⟨rfl, rfl⟩ := e1
              have HS2 := hide (hs.set (o := i * 3 + 1) (x := .int .i64 (-9)) e2 e5)
              clear hs e2 e5
              go_wp2
              go_roundw
              case rel => exact ⟨i + 1, by omega, by go_num, unhide HS2⟩
              case measure => simp [intOf]; omega
            · obtain rfl : i = m1 := by omega
              have HS2 := hide hs
              clear hs
              go_wp2
              go_roundw
              case rel => exact ⟨1, by omega, by go_num, unhide HS2⟩
              case measure => simp [intOf]
        · clear hsl
          go_wp2
          go_loopw [68] (fun q wr => ∃ i : Nat, i ≤ m2 ∧ q = .int .i64 i ∧ Sl w2.heap.size gL w2 (.slice lA m1 lC1) (.slice kA m2 kC1) m1 m2 wr) (fun q _ => m2 - (intOf q).toNat)
          case atStart => exact ⟨0, by omega, rfl, unhide HT⟩
          case round =>
            obtain ⟨i, hi, rfl, hs⟩ := hrel
            by_cases hli : i < m2
            · obtain ⟨g, cap, u, e1, e2, e3, e4, cs, e5⟩ := (hs.two).cell hli (show 1 < 3 by decide)
              simp only [Value.slice.injEq, true_and] at e1
              obtain ⟨rfl, rfl⟩ := e1
              have HS2 := hide (hs.set (o := i * 3 + 1) (x := .int .i64 (-9)) e2 e5)
              clear hs e2 e5
              go_wp2
              go_roundw
              case rel => exact ⟨i + 1, by omega, by go_num, unhide HS2⟩
              case measure => simp [intOf]; omega
            · obtain rfl : i = m2 := by omega
              have HS2 := hide hs
              clear hs
              go_wp2
              go_roundw
              case rel => exact ⟨2, by omega, by go_num, unhide HS2⟩
              case measure => simp [intOf]
        · have hbl := hsl.bel
          have t4 : Below Y.heap.size Y wr := (unhide HB2).trans (hbl.mono (unhide HB2).size)
          have HB4 := hide (And.intro t4 hbl)
          have H9 := hide (live_any wr)
          clear hsl hbl t4 c0 c1
          go_wp2_with (first | (go_at_call 9; refine (unhide H9).mono ?_; rintro e u3 ⟨rfl, hb3⟩; have t5 : Below Y.heap.size Y u3 := (unhide HB4).1.trans (hb3.mono (unhide HB4).1.size); have hb5 : Below w2.heap.size w2 u3 := (unhide HB4).2.trans (hb3.mono (unhide HB4).2.size); have HB5 := hide (And.intro t5 hb5); have q := unhide HC u3 t5; have q4 := (cell_at (o := 4) q); have q5 := (cell_at (o := 5) q); simp only [List.getElem?_toArray, List.getElem?_cons_zero, List.getElem?_cons_succ] at q4 q5; have HK1 := hide (keys_yes (unhide HRS u3 t5) ((unhide HS1').below kC_len hb5)); clear q t5 hb5 hb3 H9) | (go_at_call_of 33 (Value.slice ar nr cr); refine (unhide HK1).mono ?_; rintro e u4 ⟨rfl, hb4⟩; have t6 : Below Y.heap.size Y u4 := (unhide HB5).1.trans (hb4.mono (unhide HB5).1.size); have hb6 : Below w2.heap.size w2 u4 := (unhide HB5).2.trans (hb4.mono (unhide HB5).2.size); have HB6 := hide (And.intro t6 hb6); have r5 := (cell_at (o := 5) (unhide HC u4 t6)); simp only [List.getElem?_toArray, List.getElem?_cons_zero, List.getElem?_cons_succ] at r5; have HK2 := hide (keys_yes (unhide HWS u4 t6) ((unhide HS2).below kC_len hb6)); clear t6 hb6 hb4 HK1) | (go_at_call 33; refine (unhide HK2).mono ?_; rintro e u5 ⟨rfl, hb5⟩; have HB7 := hide ((unhide HB6).1.trans (hb5.mono (unhide HB6).1.size)); clear hb5 HK2))
          go_ret
          exact ⟨rfl, (unhide HBY).trans ((unhide HB7).mono (unhide HBY).size)⟩
end Go.Proofs.Ytibjhjkeflbghaa
