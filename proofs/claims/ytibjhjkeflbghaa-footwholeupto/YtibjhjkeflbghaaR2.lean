/- FootWhole's walk. -/
import Derived.Test.YtibjhjkeflbghaaR1
import Derived.Test.YtibjhjkeflbghaaNA
namespace Go.Proofs.Ytibjhjkeflbghaa
open Go.RowKit
set_option maxRecDepth 100000

theorem containsL_yes {v : Value} {l : List Lk} {w : World} (hs : SeesL lC 3 w v l) {a b : Int} {d : Bool} (h : ((a, b), d) ∈ l) : Calls Try.prog 31 #[v, .agg #[.int .i32 a, .int .i64 b, .bool d]] w fun e w' => e = .returned (.bool true) ∧ Below w.heap.size w w' := by
  have h1 := containsL_any hs a b d
  rwa [decide_eq_true h] at h1

set_option maxHeartbeats 16000000 in
theorem footWhole_walk {x : Tx} {w : World} (n : Int) (hx : SeesX w x) (hl : x.rs.length + x.ws.length ≤ 4398046511104) : Calls Try.prog 7 #[xV x, .int .i64 n] w fun e w' => e = .returned (.bool true) ∧ Below w.heap.size w w' := by
  have hsh : Short x := hl
  obtain ⟨⟨ac0, nc0, cc0, hc0⟩, ⟨aa0, na0, ca0, ha0⟩⟩ := And.intro hx.shc hx.sha
  obtain ⟨ar0, cr0, hr0⟩ := hx.rs.shape
  obtain ⟨aw0, cw0, hw0⟩ := hx.ws.shape
  obtain ⟨nr0, hnr0⟩ : ∃ z, x.rs.length = z := ⟨_, rfl⟩
  obtain ⟨nw0, hnw0⟩ : ∃ z, x.ws.length = z := ⟨_, rfl⟩
  obtain ⟨s0, hs0⟩ : ∃ z, x.s = z := ⟨_, rfl⟩
  obtain ⟨r0, hrr0⟩ : ∃ z, x.r = z := ⟨_, rfl⟩
  rw [hnr0] at hr0
  rw [hnw0] at hw0
  have hxV0 : xV x = .agg #[.int .i64 s0, .int .i64 r0, .slice ac0 nc0 cc0, .slice aa0 na0 ca0, .slice ar0 nr0 cr0, .slice aw0 nw0 cw0] := by unfold xV; rw [hc0, ha0, hr0, hw0, hs0, hrr0]
  obtain ⟨Y, hY⟩ : ∃ y, w.alloc (.cells #[.int .i64 s0, .int .i64 r0, .slice ac0 nc0 cc0, .slice aa0 na0 ca0, .slice ar0 nr0 cr0, .slice aw0 nw0 cw0] 26) = y := ⟨_, rfl⟩
  have bY : Below w.heap.size w Y := hY ▸ below_box _
  have x3 : Y.heap[w.heap.size]? = some (.cells #[.int .i64 s0, .int .i64 r0, .slice ac0 nc0 cc0, .slice aa0 na0 ca0, .slice ar0 nr0 cr0, .slice aw0 nw0 cw0] 26) := by rw [← hY]; exact heap_alloc_new w _
  have HB : Hid (∀ z, Below Y.heap.size Y z → z.heap[w.heap.size]? = some (.cells #[.int .i64 s0, .int .i64 r0, .slice ac0 nc0 cc0, .slice aa0 na0 ca0, .slice ar0 nr0 cr0, .slice aw0 nw0 cw0] 26)) := fun z hz => (hz.block _ (Array.getElem?_eq_some_iff.1 x3).1).trans x3
  have HX : Hid (∀ z, Below Y.heap.size Y z → SeesX z x) := fun z hz => (hx.below bY).below hz
  have H11 : Hid (∀ z, Below Y.heap.size Y z → Calls Try.prog 11 #[.agg #[.int .i64 s0, .int .i64 r0, .slice ac0 nc0 cc0, .slice aa0 na0 ca0, .slice ar0 nr0 cr0, .slice aw0 nw0 cw0], .int .i64 n] z fun e w' => ∃ V, e = .returned (.agg V) ∧ FtO z.heap.size V (ofP x n) w' ∧ Below z.heap.size z w') := fun z hz => hxV0 ▸ of_o n ((unhide HX) z hz)
  have H14 : Hid (∀ z, Below Y.heap.size Y z → Calls Try.prog 14 #[.agg #[.int .i64 s0, .int .i64 r0, .slice ac0 nc0 cc0, .slice aa0 na0 ca0, .slice ar0 nr0 cr0, .slice aw0 nw0 cw0]] z fun e w' => ∃ a c, e = .returned (.slice a (lkX x).length c) ∧ SeesL lC 3 w' (.slice a (lkX x).length c) (lkX x) ∧ Below z.heap.size z w') := fun z hz => hxV0 ▸ lks_c (lkX_any ((unhide HX) z hz) hsh)
  have H16 : Hid (∀ z, Below Y.heap.size Y z → ∀ p : Int, Calls Try.prog 16 #[.agg #[.int .i64 s0, .int .i64 r0, .slice ac0 nc0 cc0, .slice aa0 na0 ca0, .slice ar0 nr0 cr0, .slice aw0 nw0 cw0], .int .i64 p, .int .i64 n] z fun e w' => ∃ a c, e = .returned (.slice a (atP p n (lkX x)).length c) ∧ SeesL lC 3 w' (.slice a (atP p n (lkX x)).length c) (atP p n (lkX x)) ∧ Below z.heap.size z w') := fun z hz p => hxV0 ▸ lks_c (at_any p n ((unhide HX) z hz) hsh)
  have H18 : Hid (∀ z, Below Y.heap.size Y z → ∀ k0 k1 : Int, Calls Try.prog 18 #[.agg #[.int .i64 s0, .int .i64 r0, .slice ac0 nc0 cc0, .slice aa0 na0 ca0, .slice ar0 nr0 cr0, .slice aw0 nw0 cw0], .agg #[.int .i32 k0, .int .i64 k1]] z fun e w' => e = .returned (.bool (decide ((k0, k1) ∈ x.rs))) ∧ Below z.heap.size z w') := fun z hz k0 k1 => hxV0 ▸ mayRead_any ((unhide HX) z hz) k0 k1
  have H20 : Hid (∀ z, Below Y.heap.size Y z → ∀ k0 k1 : Int, Calls Try.prog 20 #[.agg #[.int .i64 s0, .int .i64 r0, .slice ac0 nc0 cc0, .slice aa0 na0 ca0, .slice ar0 nr0 cr0, .slice aw0 nw0 cw0], .agg #[.int .i32 k0, .int .i64 k1]] z fun e w' => e = .returned (.bool (decide ((k0, k1) ∈ x.ws))) ∧ Below z.heap.size z w') := fun z hz k0 k1 => hxV0 ▸ mayWrite_any ((unhide HX) z hz) k0 k1
  obtain ⟨A, hA⟩ : ∃ A, ofP x n = A := ⟨_, rfl⟩
  have HPos : Hid (∀ p : Nat, 0 < (atP (p : Int) n (lkX x)).length ↔ 0 < (A.rd p).length + (A.wt p).length) := fun p => hA ▸ atP_pos n x.rs x.ws p
  have HPts : Hid (∀ p : Nat, p < 8 → 0 < (A.rd p).length + (A.wt p).length → (p : Int) ∈ A.ps) := fun p hp h => by subst hA; exact pts_mem (L := fun p => (inP n (srt x.rs) p).length) (L' := fun p => (inP n (srt x.ws) p).length) hp h
  have HAct : Hid (∀ q, q ∈ A.ts → q ∈ A.ps) := fun q h => by subst hA; exact act_pts h
  have HPne : Hid (0 < A.ps.length ∧ 0 < A.ts.length) := by subst hA; exact ⟨ptsL_pos _ _, actL_pos _ _⟩
  have HLen : Hid (∀ p : Nat, (A.rd p).length ≤ 4398046511104 ∧ (A.wt p).length ≤ 4398046511104) := fun p => by subst hA; exact ⟨Nat.le_trans (inP_len _ _ _) (Nat.le_trans (srt_len _) (by omega)), Nat.le_trans (inP_len _ _ _) (Nat.le_trans (srt_len _) (by omega))⟩
  have HLk : Hid (∀ y ∈ lkX x, y.2 = decide (y.1 ∈ x.ws) ∧ (y.2 = false → y.1 ∈ x.rs)) := fun y hy => by
    obtain ⟨h1, h2⟩ := lks_mem.1 hy
    refine ⟨h2, fun h => ?_⟩
    rw [h] at h2
    rcases h1 with c | c
    · exact c
    · rw [decide_eq_true c] at h2; cases h2
  have hLL := lkX_len hsh
  obtain ⟨L, hL⟩ : ∃ A, lkX x = A := ⟨_, rfl⟩
  rw [hL] at H14 HLk hLL
  simp only [hL] at H16 HPos
  obtain ⟨R, hR⟩ : ∃ r, x.rs = r := ⟨_, rfl⟩
  obtain ⟨W, hW⟩ : ∃ r, x.ws = r := ⟨_, rfl⟩
  simp only [hR] at H18 HLk
  simp only [hW] at H20 HLk
  rw [hA] at H11
  rw [hxV0]
  have HBY := hide bY
  have HY := hide hY
  have HLL := hide hLL
  have qt := (unhide HB) _ (Below.refl _ _)
  have q0 := cell_at (o := 0) qt
  have q1 := cell_at (o := 1) qt
  have q2 := cell_at (o := 2) qt
  have q3 := cell_at (o := 3) qt
  have q4 := cell_at (o := 4) qt
  have q5 := cell_at (o := 5) qt
  clear qt
  simp only [List.getElem?_toArray, List.getElem?_cons_zero, List.getElem?_cons_succ] at q0 q1 q2 q3 q4 q5
  clear hx hl hsh bY x3 hA hL hR hW hxV0 hY HX hLL
  clear hc0 ha0 hr0 hw0 hnr0 hnw0 hs0 hrr0
  go_enter Try.func7, Try.ntmps7
  go_wp2_with (first | rw [unhide HY] | (go_at_call 11; refine ((unhide H11) Y (Below.refl _ _)).mono ?_; rintro e w1 ⟨U, rfl, fU, hb1⟩; have HFU := hide fU; have HB1 := hide hb1; obtain ⟨Z1, hZ1⟩ : ∃ z, w1.alloc (.cells nil18 32) = z := ⟨_, rfl⟩; have HZ1 := hide hZ1; have hz1 : Z1.heap[w1.heap.size]? = some (.cells nil18 32) := hZ1 ▸ heap_alloc_new w1 _; have HX1 := hide hz1; have HU8 := hide fU.ft; clear fU hb1 hZ1 hz1) | rw [show w1.alloc (.cells #[.slice none 0 0, .slice none 0 0, .slice none 0 0, .slice none 0 0, .slice none 0 0, .slice none 0 0, .slice none 0 0, .slice none 0 0, .slice none 0 0, .slice none 0 0, .slice none 0 0, .slice none 0 0, .slice none 0 0, .slice none 0 0, .slice none 0 0, .slice none 0 0, .slice none 0 0, .slice none 0 0] 32) = Z1 from unhide HZ1] | (refine wpList_store_row rfl 32 _ _ rfl w1.heap.size nil18 U rfl rfl 32 (unhide HX1) (by rw [(unhide HU8).1]; exact Try.info32) (by rw [(unhide HU8).1]; rfl) (unhide HU8).2 ?_))
  obtain ⟨b, hb⟩ : ∃ b, w1.heap.size = b := ⟨_, rfl⟩
  have hbb : Y.heap.size ≤ b := hb ▸ (unhide HB1).size
  have hx1 := unhide HX1
  rw [hb] at hx1 ⊢
  have bZ1 : Below w1.heap.size w1 Z1 := unhide HZ1 ▸ below_box _
  have hj1 : ∀ j, j ≠ b → (Z1.setRow b U).heap[j]? = Z1.heap[j]? := fun j hj => setRow_other _ _ _ _ hj
  have fU2 : FtO Y.heap.size U A (Z1.setRow b U) := ((unhide HFU).below bZ1).box hx1 hj1
  have hbx : (Z1.setRow b U).heap[b]? = some (.cells U 32) := by rw [setRow_heap Z1 b _ _ 32 (0, 0) hx1]
  have bW2 : Below Y.heap.size Y (Z1.setRow b U) := below_setRow ((unhide HB1).trans (bZ1.mono (unhide HB1).size)) hbb
  obtain ⟨W2, hW2⟩ : ∃ z, Z1.setRow b U = z := ⟨_, rfl⟩
  rw [hW2] at fU2 hbx bW2 ⊢
  obtain ⟨a1, c1, a2, c2, pv, tv, eU, fV⟩ := fU2.ex
  obtain ⟨pa, pc, epv⟩ := own_shape fV.ps
  obtain ⟨ta, tc, etv⟩ := own_shape fV.ts
  obtain ⟨pn, hpn⟩ : ∃ m, A.ps.length = m := ⟨_, rfl⟩
  obtain ⟨tn, htn⟩ : ∃ m, A.ts.length = m := ⟨_, rfl⟩
  rw [hpn] at epv
  rw [htn] at etv
  subst epv
  subst etv
  subst eU
  have HF : Hid (∀ z, Below W2.heap.size W2 z → z.heap[b]? = some (.cells (ftC a1 (fun p => (A.rd p).length) c1 a2 (fun p => (A.wt p).length) c2 (.slice pa pn pc) (.slice ta tn tc)) 32)) := fun z hz => (hz.block _ (Array.getElem?_eq_some_iff.1 hbx).1).trans hbx
  have HSP : Hid (∀ z, Below W2.heap.size W2 z → SeesL nC 1 z (.slice pa pn pc) A.ps) := fun z hz => (own_sees nC_len (by decide) fV.ps).2.below nC_len hz
  have HST : Hid (∀ z, Below W2.heap.size W2 z → SeesL nC 1 z (.slice ta tn tc) A.ts) := fun z hz => (own_sees nC_len (by decide) fV.ts).2.below nC_len hz
  have HE : Hid (∀ z, Below W2.heap.size W2 z → Below Y.heap.size Y z) := fun z hz => bW2.trans (hz.mono bW2.size)
  have HPN := hide (And.intro hpn htn)
  have htn9 : tn ≤ 9223372036854775807 := by obtain ⟨_, _, _, _, _, _, h, _⟩ := (unhide HST) W2 (Below.refl _ _); omega
  have HBW := hide bW2
  clear hb hbb hx1 bZ1 hj1 fU2 hbx bW2 hW2 fV hpn htn HFU HB1 HZ1 HX1 HU8 q0 q1 q2 q3 q4 q5
  go_loopw [17, 5] (fun c o wr => ∃ p : Nat, p ≤ 8 ∧ c = .int .i64 p ∧ wr.ownsRow W2.heap.size 39 3 o (allP n L p).length ((allP n L p).flatMap lC) ∧ Below W2.heap.size W2 wr) (fun c _ _ => 8 - (intOf c).toNat)
  case atStart => exact ⟨0, by omega, rfl, own_nil _ _ _ _, Below.refl _ _⟩
  case round =>
    obtain ⟨p, hp, rfl, hor, hbr⟩ := hrel
    obtain ⟨oa, oc, eo⟩ := own_shape hor
    obtain ⟨on, hon⟩ : ∃ m, (allP n L p).length = m := ⟨_, rfl⟩
    rw [hon] at eo
    subst eo
    by_cases hlt : p < 8
    · have hpi : (p : Int) < 8 := by omega
      have HOR := hide (And.intro hor (And.intro hon hbr))
      have H16p := hide ((unhide H16) wr ((unhide HE) wr hbr) (p : Int))
      obtain ⟨M, hM⟩ : ∃ M, atP (p : Int) n L = M := ⟨_, rfl⟩
      rw [hM] at H16p
      obtain ⟨m1, hm1⟩ : ∃ m, M.length = m := ⟨_, rfl⟩
      rw [hm1] at H16p
      have hpos := (unhide HPos) p
      have hpts := (unhide HPts) p hlt
      have hlen := (unhide HLen) p
      rw [hM, hm1] at hpos
      have HMM := hide (And.intro hM hm1)
      have qt := (unhide HB) _ ((unhide HE) wr hbr)
      have q0 := cell_at (o := 0) qt
      have q1 := cell_at (o := 1) qt
      have q2 := cell_at (o := 2) qt
      have q3 := cell_at (o := 3) qt
      have q4 := cell_at (o := 4) qt
      have q5 := cell_at (o := 5) qt
      clear qt
      simp only [List.getElem?_toArray, List.getElem?_cons_zero, List.getElem?_cons_succ] at q0 q1 q2 q3 q4 q5
      clear hor hon hbr hM hm1
      go_wp2_with (go_at_call 16; refine (unhide H16p).mono ?_; rintro e w3 ⟨ma, mc, rfl, sM, hb3⟩; have HM3 := hide (And.intro sM hb3); clear sM hb3)
      have b3 : Below W2.heap.size W2 w3 := (unhide HOR).2.2.trans ((unhide HM3).2.mono (unhide HOR).2.2.size)
      obtain ⟨lp, hlp⟩ : ∃ k, (A.rd p).length = k := ⟨_, rfl⟩
      obtain ⟨lq, hlq⟩ : ∃ k, (A.wt p).length = k := ⟨_, rfl⟩
      rw [hlp, hlq] at hpos hpts hlen
      have HC0 : Hid (∀ z, Below W2.heap.size W2 z → z.cell? ⟨b, p, none⟩ = some (.slice (a1 p) lp (c1 p)) ∧ z.cell? ⟨b, 8 + p, none⟩ = some (.slice (a2 p) lq (c2 p)) ∧ z.cell? ⟨b, 16, none⟩ = some (.slice pa pn pc)) := fun z hz => ⟨hlp ▸ ft_rd ((unhide HF) z hz) hlt, hlq ▸ ft_wt ((unhide HF) z hz) hlt, cell_at ((unhide HF) z hz)⟩
      have hadd : wrap64 ((lp : Int) + (lq : Int)) = (lp : Int) + (lq : Int) := by unfold wrap64; omega
      have hadd2 : IntKind.i64.wrap ((lp : Int) + (lq : Int)) = (lp : Int) + (lq : Int) := by rw [IntKind.wrap_i64]; omega
      have hadd3 : IntKind.i64.wrap 0 = 0 := by decide
      clear q0 q1 q2 q3 q4 q5 hlp hlq hlen H16p
      have HB3 := hide b3
      clear b3
      go_wp2
      by_cases hg : 0 < m1
      · skip
        have hs : 0 < lp + lq := hpos.1 hg
        have d1 : decide ((m1 : Int) > 0) = true := decide_eq_true (by omega)
        have d2 : decide ((0 : Int) < (m1 : Int)) = true := decide_eq_true (by omega)
        have d3 : decide ((lp : Int) + (lq : Int) > 0) = true := decide_eq_true (by omega)
        have d4 : decide ((0 : Int) < (lp : Int) + (lq : Int)) = true := decide_eq_true (by omega)
        have d5 : decide ((p : Int) ∈ A.ps) = true := decide_eq_true (hpts hs)
        have HS0 := hide hs
        clear hs hpos hpts
        refine wp_region_held_drew (S := fun x => Below W2.heap.size W2 x) (by kernel_rfl) ((unhide HB3).drew) (fun hHeld => ?_)
        refine wpAnyH_take (i := 0) (v := ?v1x0) rfl (by kernel_rfl) (by kernel_rfl) (by kernel_rfl) (fun _ _ _ h => h) (Or.inl ⟨by rfl, ?hy1x0⟩) (by assumption) ?rest1x0
        case hy1x0 => intro w hSw; go_simp <;> with_reducible rfl
        simp only [Act.put, List.getElem_toArray, List.getElem_cons_zero, List.setIfInBounds_toArray, List.set_cons_zero, List.set_cons_succ]
        refine wpAnyH_take (i := 1) (v := ?v2x1) rfl (by kernel_rfl) (by kernel_rfl) (by kernel_rfl) (fun _ _ _ h => h) (Or.inl ⟨by rfl, ?hy2x1⟩) (by assumption) ?rest2x1
        case hy2x1 => intro w hSw; go_simp <;> with_reducible rfl
        simp only [Act.put, List.getElem_toArray, List.getElem_cons_zero, List.getElem_cons_succ, List.setIfInBounds_toArray, List.set_cons_zero, List.set_cons_succ]
        refine wpAnyH_take (i := 2) (v := (.bool true)) rfl (by kernel_rfl) (by kernel_rfl) (by kernel_rfl) (fun _ _ _ h => h) (Or.inl ⟨by rfl, ?hy3x2⟩) (by assumption) ?rest3x2
        case hy3x2 => intro w hSw; skip; go_simp <;> with_reducible rfl
        simp only [Act.put, List.getElem_toArray, List.getElem_cons_zero, List.getElem_cons_succ, List.setIfInBounds_toArray, List.set_cons_zero, List.set_cons_succ]
        refine wpAnyH_take (i := 3) (v := ?v4x3) rfl (by kernel_rfl) (by kernel_rfl) (by kernel_rfl) (fun _ _ _ h => h) (Or.inl ⟨by rfl, ?hy4x3⟩) (by assumption) ?rest4x3
        case hy4x3 => intro w hSw; go_simp <;> with_reducible rfl
        simp only [Act.put, List.getElem_toArray, List.getElem_cons_zero, List.getElem_cons_succ, List.setIfInBounds_toArray, List.set_cons_zero, List.set_cons_succ]
        refine wpAnyH_take (i := 4) (v := ?v5x4) rfl (by kernel_rfl) (by kernel_rfl) (by kernel_rfl) (fun _ _ _ h => h) (Or.inl ⟨by rfl, ?hy5x4⟩) (by assumption) ?rest5x4
        case hy5x4 => intro w hSw; go_simp <;> with_reducible rfl
        simp only [Act.put, List.getElem_toArray, List.getElem_cons_zero, List.getElem_cons_succ, List.setIfInBounds_toArray, List.set_cons_zero, List.set_cons_succ]
        refine wpAnyH_take (i := 5) (v := ?v6x5) rfl (by kernel_rfl) (by kernel_rfl) (by kernel_rfl) (fun _ _ _ h => h) (Or.inl ⟨by rfl, ?hy6x5⟩) (by assumption) ?rest6x5
        case hy6x5 => intro w hSw; go_simp <;> with_reducible rfl
        simp only [Act.put, List.getElem_toArray, List.getElem_cons_zero, List.getElem_cons_succ, List.setIfInBounds_toArray, List.set_cons_zero, List.set_cons_succ]
        refine wpAnyH_take (i := 6) (v := (.slice (a1 p) lp (c1 p))) rfl (by kernel_rfl) (by kernel_rfl) (by kernel_rfl) (fun _ _ _ h => h) (Or.inl ⟨by rfl, ?hy7x6⟩) (by assumption) ?rest7x6
        case hy7x6 => intro w hSw; obtain ⟨s1, s2, s3⟩ := (unhide HC0) _ hSw; go_simp <;> with_reducible rfl
        simp only [Act.put, List.getElem_toArray, List.getElem_cons_zero, List.getElem_cons_succ, List.setIfInBounds_toArray, List.set_cons_zero, List.set_cons_succ]
        refine wpAnyH_take (i := 7) (v := ?v8x7) rfl (by kernel_rfl) (by kernel_rfl) (by kernel_rfl) (fun _ _ _ h => h) (Or.inl ⟨by rfl, ?hy8x7⟩) (by assumption) ?rest8x7
        case hy8x7 => intro w hSw; go_simp <;> with_reducible rfl
        simp only [Act.put, List.getElem_toArray, List.getElem_cons_zero, List.getElem_cons_succ, List.setIfInBounds_toArray, List.set_cons_zero, List.set_cons_succ]
        refine wpAnyH_take (i := 8) (v := ?v9x8) rfl (by kernel_rfl) (by kernel_rfl) (by kernel_rfl) (fun _ _ _ h => h) (Or.inl ⟨by rfl, ?hy9x8⟩) (by assumption) ?rest9x8
        case hy9x8 => intro w hSw; go_simp <;> with_reducible rfl
        simp only [Act.put, List.getElem_toArray, List.getElem_cons_zero, List.getElem_cons_succ, List.setIfInBounds_toArray, List.set_cons_zero, List.set_cons_succ]
        refine wpAnyH_take (i := 9) (v := ?v10x9) rfl (by kernel_rfl) (by kernel_rfl) (by kernel_rfl) (fun _ _ _ h => h) (Or.inl ⟨by rfl, ?hy10x9⟩) (by assumption) ?rest10x9
        case hy10x9 => intro w hSw; go_simp <;> with_reducible rfl
        simp only [Act.put, List.getElem_toArray, List.getElem_cons_zero, List.getElem_cons_succ, List.setIfInBounds_toArray, List.set_cons_zero, List.set_cons_succ]
        refine wpAnyH_take (i := 10) (v := ?v11x10) rfl (by kernel_rfl) (by kernel_rfl) (by kernel_rfl) (fun _ _ _ h => h) (Or.inl ⟨by rfl, ?hy11x10⟩) (by assumption) ?rest11x10
        case hy11x10 => intro w hSw; go_simp <;> with_reducible rfl
        simp only [Act.put, List.getElem_toArray, List.getElem_cons_zero, List.getElem_cons_succ, List.setIfInBounds_toArray, List.set_cons_zero, List.set_cons_succ]
        refine wpAnyH_take (i := 11) (v := (.slice (a2 p) lq (c2 p))) rfl (by kernel_rfl) (by kernel_rfl) (by kernel_rfl) (fun _ _ _ h => h) (Or.inl ⟨by rfl, ?hy12x11⟩) (by assumption) ?rest12x11
        case hy12x11 => intro w hSw; obtain ⟨s1, s2, s3⟩ := (unhide HC0) _ hSw; go_simp <;> with_reducible rfl
        simp only [Act.put, List.getElem_toArray, List.getElem_cons_zero, List.getElem_cons_succ, List.setIfInBounds_toArray, List.set_cons_zero, List.set_cons_succ]
        refine wpAnyH_take (i := 12) (v := ?v13x12) rfl (by kernel_rfl) (by kernel_rfl) (by kernel_rfl) (fun _ _ _ h => h) (Or.inl ⟨by rfl, ?hy13x12⟩) (by assumption) ?rest13x12
        case hy13x12 => intro w hSw; go_simp <;> with_reducible rfl
        simp only [Act.put, List.getElem_toArray, List.getElem_cons_zero, List.getElem_cons_succ, List.setIfInBounds_toArray, List.set_cons_zero, List.set_cons_succ]
        refine wpAnyH_take (i := 13) (v := (.int .i64 ((lp : Int) + (lq : Int)))) rfl (by kernel_rfl) (by kernel_rfl) (by kernel_rfl) (fun _ _ _ h => h) (Or.inl ⟨by rfl, ?hy14x13⟩) (by assumption) ?rest14x13
        case hy14x13 => intro w hSw; skip; go_simp <;> with_reducible rfl
        simp only [Act.put, List.getElem_toArray, List.getElem_cons_zero, List.getElem_cons_succ, List.setIfInBounds_toArray, List.set_cons_zero, List.set_cons_succ]
        refine wpAnyH_take (i := 14) (v := (.bool true)) rfl (by kernel_rfl) (by kernel_rfl) (by kernel_rfl) (fun _ _ _ h => h) (Or.inl ⟨by rfl, ?hy15x14⟩) (by assumption) ?rest15x14
        case hy15x14 => intro w hSw; skip; go_simp <;> with_reducible rfl
        simp only [Act.put, List.getElem_toArray, List.getElem_cons_zero, List.getElem_cons_succ, List.setIfInBounds_toArray, List.set_cons_zero, List.set_cons_succ]
        refine wpAnyH_take (i := 15) (v := (.bool false)) rfl (by kernel_rfl) (by kernel_rfl) (by kernel_rfl) (fun _ _ _ h => h) (Or.inl ⟨by rfl, ?hy16x15⟩) (by assumption) ?rest16x15
        case hy16x15 => intro w hSw; skip; go_simp <;> with_reducible rfl
        simp only [Act.put, List.getElem_toArray, List.getElem_cons_zero, List.getElem_cons_succ, List.setIfInBounds_toArray, List.set_cons_zero, List.set_cons_succ]
        refine wpAnyH_take (i := 16) (v := ?v17x16) rfl (by kernel_rfl) (by kernel_rfl) (by kernel_rfl) (fun _ _ _ h => h) (Or.inl ⟨by rfl, ?hy17x16⟩) (by assumption) ?rest17x16
        case hy17x16 => intro w hSw; go_simp <;> with_reducible rfl
        simp only [Act.put, List.getElem_toArray, List.getElem_cons_zero, List.getElem_cons_succ, List.setIfInBounds_toArray, List.set_cons_zero, List.set_cons_succ]
        refine wpAnyH_take (i := 17) (v := ?v18x17) rfl (by kernel_rfl) (by kernel_rfl) (by kernel_rfl) (fun _ _ _ h => h) (Or.inl ⟨by rfl, ?hy18x17⟩) (by assumption) ?rest18x17
        case hy18x17 => intro w hSw; go_simp <;> with_reducible rfl
        simp only [Act.put, List.getElem_toArray, List.getElem_cons_zero, List.getElem_cons_succ, List.setIfInBounds_toArray, List.set_cons_zero, List.set_cons_succ]
        refine wpAnyH_take (i := 18) (v := ?v19x18) rfl (by kernel_rfl) (by kernel_rfl) (by kernel_rfl) (fun _ _ _ h => h) (Or.inl ⟨by rfl, ?hy19x18⟩) (by assumption) ?rest19x18
        case hy19x18 => intro w hSw; go_simp <;> with_reducible rfl
        simp only [Act.put, List.getElem_toArray, List.getElem_cons_zero, List.getElem_cons_succ, List.setIfInBounds_toArray, List.set_cons_zero, List.set_cons_succ]
        refine wpAnyH_take (i := 19) (v := (.bool true)) rfl (by kernel_rfl) (by kernel_rfl) (by kernel_rfl) (fun _ _ _ h => h) (Or.inl ⟨by rfl, ?hy20x19⟩) (by assumption) ?rest20x19
        case hy20x19 => intro w hSw; skip; go_simp <;> with_reducible rfl
        simp only [Act.put, List.getElem_toArray, List.getElem_cons_zero, List.getElem_cons_succ, List.setIfInBounds_toArray, List.set_cons_zero, List.set_cons_succ]
        refine wpAnyH_take (i := 20) (v := ?v21x20) rfl (by kernel_rfl) (by kernel_rfl) (by kernel_rfl) (fun _ _ _ h => h) (Or.inl ⟨by rfl, ?hy21x20⟩) (by assumption) ?rest21x20
        case hy21x20 => intro w hSw; go_simp <;> with_reducible rfl
        simp only [Act.put, List.getElem_toArray, List.getElem_cons_zero, List.getElem_cons_succ, List.setIfInBounds_toArray, List.set_cons_zero, List.set_cons_succ]
        refine wpAnyH_take (i := 21) (v := ?v22x21) rfl (by kernel_rfl) (by kernel_rfl) (by kernel_rfl) (fun _ _ _ h => h) (Or.inl ⟨by rfl, ?hy22x21⟩) (by assumption) ?rest22x21
        case hy22x21 => intro w hSw; go_simp <;> with_reducible rfl
        simp only [Act.put, List.getElem_toArray, List.getElem_cons_zero, List.getElem_cons_succ, List.setIfInBounds_toArray, List.set_cons_zero, List.set_cons_succ]
        refine wpAnyH_take (i := 22) (v := (.slice pa pn pc)) rfl (by kernel_rfl) (by kernel_rfl) (by kernel_rfl) (fun _ _ _ h => h) (Or.inl ⟨by rfl, ?hy23x22⟩) (by assumption) ?rest23x22
        case hy23x22 => intro w hSw; obtain ⟨s1, s2, s3⟩ := (unhide HC0) _ hSw; go_simp <;> with_reducible rfl
        simp only [Act.put, List.getElem_toArray, List.getElem_cons_zero, List.getElem_cons_succ, List.setIfInBounds_toArray, List.set_cons_zero, List.set_cons_succ]
        refine wpAnyH_take (i := 23) (v := ?v24x23) rfl (by kernel_rfl) (by kernel_rfl) (by kernel_rfl) (fun _ _ _ h => h) (Or.inl ⟨by rfl, ?hy24x23⟩) (by assumption) ?rest24x23
        case hy24x23 => intro w hSw; go_simp <;> with_reducible rfl
        simp only [Act.put, List.getElem_toArray, List.getElem_cons_zero, List.getElem_cons_succ, List.setIfInBounds_toArray, List.set_cons_zero, List.set_cons_succ]
        have t3 : Below W2.heap.size W2 w3.drew := (unhide HB3).drew
        refine wpAnyH_ready (rs := [24]) (by kernel_rfl) (by simp) ?_
        refine AllReadyH.cons rfl (fun K hK => ?_) AllReadyH.nil
        go_simp
        refine ((d5 ▸ containsN_any ((unhide HSP) _ t3) (p : Int) : Calls Try.prog 30 #[.slice pa pn pc, .int .i64 (p : Int)] w3.drew fun e w' => e = .returned (.bool true) ∧ Below w3.drew.heap.size w3.drew w')).mono ?_
        rintro e w4 ⟨rfl, hb4⟩
        refine hK _ _ (t3.trans (hb4.mono t3.size)) ?_
        clear hK hHeld
        have HB4' : Hid (Below w3.drew.heap.size w3.drew w4) := hb4
        have HB4 := hide (t3.trans (hb4.mono t3.size))
        clear hb4
        intro hHeld
        refine wpAnyH_take (i := 25) (v := ?v25x25) rfl (by kernel_rfl) (by kernel_rfl) (by kernel_rfl) (fun _ _ _ h => h) (Or.inl ⟨by rfl, ?hy25x25⟩) (by assumption) ?rest25x25
        case hy25x25 => intro w hSw; go_simp <;> with_reducible rfl
        simp only [Act.put, List.getElem_toArray, List.getElem_cons_zero, List.getElem_cons_succ, List.setIfInBounds_toArray, List.set_cons_zero, List.set_cons_succ]
        refine wpAnyH_take (i := 26) (v := ?v26x26) rfl (by kernel_rfl) (by kernel_rfl) (by kernel_rfl) (fun _ _ _ h => h) (Or.inl ⟨by rfl, ?hy26x26⟩) (by assumption) ?rest26x26
        case hy26x26 => intro w hSw; go_simp <;> with_reducible rfl
        simp only [Act.put, List.getElem_toArray, List.getElem_cons_zero, List.getElem_cons_succ, List.setIfInBounds_toArray, List.set_cons_zero, List.set_cons_succ]
        refine wpAnyH_take (i := 27) (v := ?v27x27) rfl (by kernel_rfl) (by kernel_rfl) (by kernel_rfl) (fun _ _ _ h => h) (Or.inl ⟨by rfl, ?hy27x27⟩) (by assumption) ?rest27x27
        case hy27x27 => intro w hSw; go_simp <;> with_reducible rfl
        simp only [Act.put, List.getElem_toArray, List.getElem_cons_zero, List.getElem_cons_succ, List.setIfInBounds_toArray, List.set_cons_zero, List.set_cons_succ]
        refine wpAnyH_done (by kernel_rfl) ?_ _
        clear hHeld t3
        have h34 : Below w3.heap.size w3 w4 := ((Below.refl w3.heap.size w3).drew).trans ((unhide HB4').mono (Nat.le_refl _))
        obtain ⟨hM, hm1⟩ := unhide HMM
        obtain ⟨hor, hon, hbr⟩ := unhide HOR
        have hle := allP_le n L (p + 1)
        have hsplit : allP n L (p + 1) = allP n L p ++ M := by rw [← hM]; rfl
        rw [hsplit, List.length_append, hon, hm1] at hle
        have hwr4 : Below wr.heap.size wr w4 := (unhide HM3).2.trans (h34.mono (unhide HM3).2.size)
        obtain ⟨v', y5, r5, o5, g5⟩ := append_locks 35 (own_below (hon ▸ hor) hwr4) ((unhide HM3).1.below lC_len h34) (by rw [hm1]; have := unhide HLL; omega) (unhide HB4).size
        have hb5 : Below W2.heap.size W2 y5 := (unhide HB4).trans ((Below.refl _ _).grown g5 (unhide HB4).size (own_block_le (own_below hor hwr4)))
        have HG : Hid (y5.ownsRow W2.heap.size 39 3 v' (allP n L (p + 1)).length ((allP n L (p + 1)).flatMap lC) ∧ Below W2.heap.size W2 y5) := ⟨by rw [hsplit, List.length_append, hon]; exact o5, hb5⟩
        have HR5 := hide r5
        clear hM hm1 hor hon hbr hle hsplit hwr4 h34 o5 g5 hb5 r5
        go_wp2_with (at_builtin; refine wpList_append_run rfl _ _ 35 35 rfl rfl rfl (unhide HR5) ?_)
        go_roundw
        case rel => exact ⟨p + 1, by omega, by go_num, (unhide HG).1, (unhide HG).2⟩
        case measure => simp [intOf]; omega
      · skip
        obtain rfl : m1 = 0 := by omega
        have hs : lp + lq = 0 := by have := hpos.2; omega
        obtain rfl : lp = 0 := by omega
        obtain rfl : lq = 0 := by omega
        have HS0 := hide hs
        clear hs hpos hpts
        refine wp_region_held_drew (S := fun x => Below W2.heap.size W2 x) (by kernel_rfl) ((unhide HB3).drew) (fun hHeld => ?_)
        refine wpAnyH_take (i := 0) (v := ?v28x0) rfl (by kernel_rfl) (by kernel_rfl) (by kernel_rfl) (fun _ _ _ h => h) (Or.inl ⟨by rfl, ?hy28x0⟩) (by assumption) ?rest28x0
        case hy28x0 => intro w hSw; go_simp <;> with_reducible rfl
        simp only [Act.put, List.getElem_toArray, List.getElem_cons_zero, List.setIfInBounds_toArray, List.set_cons_zero, List.set_cons_succ]
        refine wpAnyH_take (i := 1) (v := ?v29x1) rfl (by kernel_rfl) (by kernel_rfl) (by kernel_rfl) (fun _ _ _ h => h) (Or.inl ⟨by rfl, ?hy29x1⟩) (by assumption) ?rest29x1
        case hy29x1 => intro w hSw; go_simp <;> with_reducible rfl
        simp only [Act.put, List.getElem_toArray, List.getElem_cons_zero, List.getElem_cons_succ, List.setIfInBounds_toArray, List.set_cons_zero, List.set_cons_succ]
        refine wpAnyH_take (i := 2) (v := (.bool false)) rfl (by kernel_rfl) (by kernel_rfl) (by kernel_rfl) (fun _ _ _ h => h) (Or.inl ⟨by rfl, ?hy30x2⟩) (by assumption) ?rest30x2
        case hy30x2 => intro w hSw; skip; go_simp <;> with_reducible rfl
        simp only [Act.put, List.getElem_toArray, List.getElem_cons_zero, List.getElem_cons_succ, List.setIfInBounds_toArray, List.set_cons_zero, List.set_cons_succ]
        refine wpAnyH_take (i := 3) (v := ?v31x3) rfl (by kernel_rfl) (by kernel_rfl) (by kernel_rfl) (fun _ _ _ h => h) (Or.inl ⟨by rfl, ?hy31x3⟩) (by assumption) ?rest31x3
        case hy31x3 => intro w hSw; go_simp <;> with_reducible rfl
        simp only [Act.put, List.getElem_toArray, List.getElem_cons_zero, List.getElem_cons_succ, List.setIfInBounds_toArray, List.set_cons_zero, List.set_cons_succ]
        refine wpAnyH_take (i := 4) (v := ?v32x4) rfl (by kernel_rfl) (by kernel_rfl) (by kernel_rfl) (fun _ _ _ h => h) (Or.inl ⟨by rfl, ?hy32x4⟩) (by assumption) ?rest32x4
        case hy32x4 => intro w hSw; go_simp <;> with_reducible rfl
        simp only [Act.put, List.getElem_toArray, List.getElem_cons_zero, List.getElem_cons_succ, List.setIfInBounds_toArray, List.set_cons_zero, List.set_cons_succ]
        refine wpAnyH_take (i := 5) (v := ?v33x5) rfl (by kernel_rfl) (by kernel_rfl) (by kernel_rfl) (fun _ _ _ h => h) (Or.inl ⟨by rfl, ?hy33x5⟩) (by assumption) ?rest33x5
        case hy33x5 => intro w hSw; go_simp <;> with_reducible rfl
        simp only [Act.put, List.getElem_toArray, List.getElem_cons_zero, List.getElem_cons_succ, List.setIfInBounds_toArray, List.set_cons_zero, List.set_cons_succ]
        refine wpAnyH_take (i := 6) (v := (.slice (a1 p) 0 (c1 p))) rfl (by kernel_rfl) (by kernel_rfl) (by kernel_rfl) (fun _ _ _ h => h) (Or.inl ⟨by rfl, ?hy34x6⟩) (by assumption) ?rest34x6
        case hy34x6 => intro w hSw; obtain ⟨s1, s2, s3⟩ := (unhide HC0) _ hSw; go_simp <;> with_reducible rfl
        simp only [Act.put, List.getElem_toArray, List.getElem_cons_zero, List.getElem_cons_succ, List.setIfInBounds_toArray, List.set_cons_zero, List.set_cons_succ]
        refine wpAnyH_take (i := 7) (v := ?v35x7) rfl (by kernel_rfl) (by kernel_rfl) (by kernel_rfl) (fun _ _ _ h => h) (Or.inl ⟨by rfl, ?hy35x7⟩) (by assumption) ?rest35x7
        case hy35x7 => intro w hSw; go_simp <;> with_reducible rfl
        simp only [Act.put, List.getElem_toArray, List.getElem_cons_zero, List.getElem_cons_succ, List.setIfInBounds_toArray, List.set_cons_zero, List.set_cons_succ]
        refine wpAnyH_take (i := 8) (v := ?v36x8) rfl (by kernel_rfl) (by kernel_rfl) (by kernel_rfl) (fun _ _ _ h => h) (Or.inl ⟨by rfl, ?hy36x8⟩) (by assumption) ?rest36x8
        case hy36x8 => intro w hSw; go_simp <;> with_reducible rfl
        simp only [Act.put, List.getElem_toArray, List.getElem_cons_zero, List.getElem_cons_succ, List.setIfInBounds_toArray, List.set_cons_zero, List.set_cons_succ]
        refine wpAnyH_take (i := 9) (v := ?v37x9) rfl (by kernel_rfl) (by kernel_rfl) (by kernel_rfl) (fun _ _ _ h => h) (Or.inl ⟨by rfl, ?hy37x9⟩) (by assumption) ?rest37x9
        case hy37x9 => intro w hSw; go_simp <;> with_reducible rfl
        simp only [Act.put, List.getElem_toArray, List.getElem_cons_zero, List.getElem_cons_succ, List.setIfInBounds_toArray, List.set_cons_zero, List.set_cons_succ]
        refine wpAnyH_take (i := 10) (v := ?v38x10) rfl (by kernel_rfl) (by kernel_rfl) (by kernel_rfl) (fun _ _ _ h => h) (Or.inl ⟨by rfl, ?hy38x10⟩) (by assumption) ?rest38x10
        case hy38x10 => intro w hSw; go_simp <;> with_reducible rfl
        simp only [Act.put, List.getElem_toArray, List.getElem_cons_zero, List.getElem_cons_succ, List.setIfInBounds_toArray, List.set_cons_zero, List.set_cons_succ]
        refine wpAnyH_take (i := 11) (v := (.slice (a2 p) 0 (c2 p))) rfl (by kernel_rfl) (by kernel_rfl) (by kernel_rfl) (fun _ _ _ h => h) (Or.inl ⟨by rfl, ?hy39x11⟩) (by assumption) ?rest39x11
        case hy39x11 => intro w hSw; obtain ⟨s1, s2, s3⟩ := (unhide HC0) _ hSw; go_simp <;> with_reducible rfl
        simp only [Act.put, List.getElem_toArray, List.getElem_cons_zero, List.getElem_cons_succ, List.setIfInBounds_toArray, List.set_cons_zero, List.set_cons_succ]
        refine wpAnyH_take (i := 12) (v := ?v40x12) rfl (by kernel_rfl) (by kernel_rfl) (by kernel_rfl) (fun _ _ _ h => h) (Or.inl ⟨by rfl, ?hy40x12⟩) (by assumption) ?rest40x12
        case hy40x12 => intro w hSw; go_simp <;> with_reducible rfl
        simp only [Act.put, List.getElem_toArray, List.getElem_cons_zero, List.getElem_cons_succ, List.setIfInBounds_toArray, List.set_cons_zero, List.set_cons_succ]
        refine wpAnyH_take (i := 13) (v := (.int .i64 0)) rfl (by kernel_rfl) (by kernel_rfl) (by kernel_rfl) (fun _ _ _ h => h) (Or.inl ⟨by rfl, ?hy41x13⟩) (by assumption) ?rest41x13
        case hy41x13 => intro w hSw; skip; go_simp <;> with_reducible rfl
        simp only [Act.put, List.getElem_toArray, List.getElem_cons_zero, List.getElem_cons_succ, List.setIfInBounds_toArray, List.set_cons_zero, List.set_cons_succ]
        refine wpAnyH_take (i := 14) (v := (.bool false)) rfl (by kernel_rfl) (by kernel_rfl) (by kernel_rfl) (fun _ _ _ h => h) (Or.inl ⟨by rfl, ?hy42x14⟩) (by assumption) ?rest42x14
        case hy42x14 => intro w hSw; skip; go_simp <;> with_reducible rfl
        simp only [Act.put, List.getElem_toArray, List.getElem_cons_zero, List.getElem_cons_succ, List.setIfInBounds_toArray, List.set_cons_zero, List.set_cons_succ]
        refine wpAnyH_take (i := 15) (v := (.bool false)) rfl (by kernel_rfl) (by kernel_rfl) (by kernel_rfl) (fun _ _ _ h => h) (Or.inl ⟨by rfl, ?hy43x15⟩) (by assumption) ?rest43x15
        case hy43x15 => intro w hSw; skip; go_simp <;> with_reducible rfl
        simp only [Act.put, List.getElem_toArray, List.getElem_cons_zero, List.getElem_cons_succ, List.setIfInBounds_toArray, List.set_cons_zero, List.set_cons_succ]
        refine wpAnyH_take (i := 16) (v := ?v44x16) rfl (by kernel_rfl) (by kernel_rfl) (by kernel_rfl) (fun _ _ _ h => h) (Or.inl ⟨by rfl, ?hy44x16⟩) (by assumption) ?rest44x16
        case hy44x16 => intro w hSw; go_simp <;> with_reducible rfl
        simp only [Act.put, List.getElem_toArray, List.getElem_cons_zero, List.getElem_cons_succ, List.setIfInBounds_toArray, List.set_cons_zero, List.set_cons_succ]
        refine wpAnyH_take (i := 17) (v := ?v45x17) rfl (by kernel_rfl) (by kernel_rfl) (by kernel_rfl) (fun _ _ _ h => h) (Or.inl ⟨by rfl, ?hy45x17⟩) (by assumption) ?rest45x17
        case hy45x17 => intro w hSw; go_simp <;> with_reducible rfl
        simp only [Act.put, List.getElem_toArray, List.getElem_cons_zero, List.getElem_cons_succ, List.setIfInBounds_toArray, List.set_cons_zero, List.set_cons_succ]
        refine wpAnyH_take (i := 18) (v := ?v46x18) rfl (by kernel_rfl) (by kernel_rfl) (by kernel_rfl) (fun _ _ _ h => h) (Or.inl ⟨by rfl, ?hy46x18⟩) (by assumption) ?rest46x18
        case hy46x18 => intro w hSw; go_simp <;> with_reducible rfl
        simp only [Act.put, List.getElem_toArray, List.getElem_cons_zero, List.getElem_cons_succ, List.setIfInBounds_toArray, List.set_cons_zero, List.set_cons_succ]
        refine wpAnyH_take (i := 19) (v := (.bool false)) rfl (by kernel_rfl) (by kernel_rfl) (by kernel_rfl) (fun _ _ _ h => h) (Or.inl ⟨by rfl, ?hy47x19⟩) (by assumption) ?rest47x19
        case hy47x19 => intro w hSw; skip; go_simp <;> with_reducible rfl
        simp only [Act.put, List.getElem_toArray, List.getElem_cons_zero, List.getElem_cons_succ, List.setIfInBounds_toArray, List.set_cons_zero, List.set_cons_succ]
        refine wpAnyH_take (i := 20) (v := ?v48x20) rfl (by kernel_rfl) (by kernel_rfl) (by kernel_rfl) (fun _ _ _ h => h) (Or.inl ⟨by rfl, ?hy48x20⟩) (by assumption) ?rest48x20
        case hy48x20 => intro w hSw; go_simp <;> with_reducible rfl
        simp only [Act.put, List.getElem_toArray, List.getElem_cons_zero, List.getElem_cons_succ, List.setIfInBounds_toArray, List.set_cons_zero, List.set_cons_succ]
        refine wpAnyH_take (i := 21) (v := undef) rfl (by kernel_rfl) (by kernel_rfl) (by kernel_rfl) (fun _ _ _ h => h) (Or.inr ⟨by rfl, rfl⟩) (by assumption) ?_
        simp only [Act.put, List.getElem_toArray, List.getElem_cons_zero, List.getElem_cons_succ, List.setIfInBounds_toArray, List.set_cons_zero, List.set_cons_succ]
        refine wpAnyH_take (i := 22) (v := undef) rfl (by kernel_rfl) (by kernel_rfl) (by kernel_rfl) (fun _ _ _ h => h) (Or.inr ⟨by rfl, rfl⟩) (by assumption) ?_
        simp only [Act.put, List.getElem_toArray, List.getElem_cons_zero, List.getElem_cons_succ, List.setIfInBounds_toArray, List.set_cons_zero, List.set_cons_succ]
        refine wpAnyH_take (i := 23) (v := undef) rfl (by kernel_rfl) (by kernel_rfl) (by kernel_rfl) (fun _ _ _ h => h) (Or.inr ⟨by rfl, rfl⟩) (by assumption) ?_
        simp only [Act.put, List.getElem_toArray, List.getElem_cons_zero, List.getElem_cons_succ, List.setIfInBounds_toArray, List.set_cons_zero, List.set_cons_succ]
        refine wpAnyH_take (i := 24) (v := undef) rfl (by kernel_rfl) (by kernel_rfl) (by kernel_rfl) (fun _ _ _ h => h) (Or.inr ⟨by rfl, rfl⟩) (by assumption) ?_
        simp only [Act.put, List.getElem_toArray, List.getElem_cons_zero, List.getElem_cons_succ, List.setIfInBounds_toArray, List.set_cons_zero, List.set_cons_succ]
        refine wpAnyH_take (i := 25) (v := undef) rfl (by kernel_rfl) (by kernel_rfl) (by kernel_rfl) (fun _ _ _ h => h) (Or.inr ⟨by rfl, rfl⟩) (by assumption) ?_
        simp only [Act.put, List.getElem_toArray, List.getElem_cons_zero, List.getElem_cons_succ, List.setIfInBounds_toArray, List.set_cons_zero, List.set_cons_succ]
        refine wpAnyH_take (i := 26) (v := ?v54x26) rfl (by kernel_rfl) (by kernel_rfl) (by kernel_rfl) (fun _ _ _ h => h) (Or.inl ⟨by rfl, ?hy54x26⟩) (by assumption) ?rest54x26
        case hy54x26 => intro w hSw; go_simp <;> with_reducible rfl
        simp only [Act.put, List.getElem_toArray, List.getElem_cons_zero, List.getElem_cons_succ, List.setIfInBounds_toArray, List.set_cons_zero, List.set_cons_succ]
        refine wpAnyH_take (i := 27) (v := ?v55x27) rfl (by kernel_rfl) (by kernel_rfl) (by kernel_rfl) (fun _ _ _ h => h) (Or.inl ⟨by rfl, ?hy55x27⟩) (by assumption) ?rest55x27
        case hy55x27 => intro w hSw; go_simp <;> with_reducible rfl
        simp only [Act.put, List.getElem_toArray, List.getElem_cons_zero, List.getElem_cons_succ, List.setIfInBounds_toArray, List.set_cons_zero, List.set_cons_succ]
        refine wpAnyH_done (by kernel_rfl) ?_ _
        clear hHeld
        obtain ⟨w4, hw4⟩ : ∃ z, w3.drew = z := ⟨_, rfl⟩
        have HB4 : Hid (Below W2.heap.size W2 w4) := hw4 ▸ (unhide HB3).drew
        have h34 : Below w3.heap.size w3 w4 := hw4 ▸ (Below.refl w3.heap.size w3).drew
        rw [hw4]
        clear hw4
        obtain ⟨hM, hm1⟩ := unhide HMM
        obtain ⟨hor, hon, hbr⟩ := unhide HOR
        have hle := allP_le n L (p + 1)
        have hsplit : allP n L (p + 1) = allP n L p ++ M := by rw [← hM]; rfl
        rw [hsplit, List.length_append, hon, hm1] at hle
        have hwr4 : Below wr.heap.size wr w4 := (unhide HM3).2.trans (h34.mono (unhide HM3).2.size)
        obtain ⟨v', y5, r5, o5, g5⟩ := append_locks 35 (own_below (hon ▸ hor) hwr4) ((unhide HM3).1.below lC_len h34) (by rw [hm1]; have := unhide HLL; omega) (unhide HB4).size
        have hb5 : Below W2.heap.size W2 y5 := (unhide HB4).trans ((Below.refl _ _).grown g5 (unhide HB4).size (own_block_le (own_below hor hwr4)))
        have HG : Hid (y5.ownsRow W2.heap.size 39 3 v' (allP n L (p + 1)).length ((allP n L (p + 1)).flatMap lC) ∧ Below W2.heap.size W2 y5) := ⟨by rw [hsplit, List.length_append, hon]; exact o5, hb5⟩
        have HR5 := hide r5
        clear hM hm1 hor hon hbr hle hsplit hwr4 h34 o5 g5 hb5 r5
        go_wp2_with (at_builtin; refine wpList_append_run rfl _ _ 35 35 rfl rfl rfl (unhide HR5) ?_)
        go_roundw
        case rel => exact ⟨p + 1, by omega, by go_num, (unhide HG).1, (unhide HG).2⟩
        case measure => simp [intOf]; omega
    · obtain rfl : p = 8 := by omega
      have hon8 : on = L.length := by rw [← hon, allP_8]
      have hse := (own_sees lC_len (by decide) hor).2
      have HSA : Hid (∀ z, Below wr.heap.size wr z → SeesL lC 3 z (.slice oa on oc) (allP n L 8)) := fun z hz => hse.below lC_len hz
      have H14p := hide ((unhide H14) wr ((unhide HE) wr hbr))
      obtain ⟨m, hm⟩ : ∃ m, L.length = m := ⟨_, rfl⟩
      rw [hm] at H14p hon8
      subst hon8
      have HMM := hide hm
      have hon5 : on ≤ 4398046511104 := by have := unhide HLL; omega
      have qt := (unhide HB) _ ((unhide HE) wr hbr)
      have q0 := cell_at (o := 0) qt
      have q1 := cell_at (o := 1) qt
      have q2 := cell_at (o := 2) qt
      have q3 := cell_at (o := 3) qt
      have q4 := cell_at (o := 4) qt
      have q5 := cell_at (o := 5) qt
      clear qt
      simp only [List.getElem?_toArray, List.getElem?_cons_zero, List.getElem?_cons_succ] at q0 q1 q2 q3 q4 q5
      have HBR := hide hbr
      clear hor hon hbr hse hm
      go_wp2_with (go_at_call 14; refine (unhide H14p).mono ?_; rintro e w5 ⟨la, lc, rfl, sL, hb5⟩; have HL5 := hide (And.intro sL hb5); clear sL hb5)
      have b5 : Below wr.heap.size wr w5 := (unhide HL5).2
      have HSL : Hid (∀ z, Below w5.heap.size w5 z → SeesL lC 3 z (.slice la on lc) L) := fun z hz => (unhide HL5).1.below lC_len hz
      have HSA5 : Hid (∀ z, Below w5.heap.size w5 z → SeesL lC 3 z (.slice oa on oc) (allP n L 8)) := fun z hz => (unhide HSA) z (b5.trans (hz.mono b5.size))
      have HE5 : Hid (∀ z, Below w5.heap.size w5 z → Below W2.heap.size W2 z) := fun z hz => (unhide HBR).trans ((b5.trans (hz.mono b5.size)).mono (unhide HBR).size)
      clear q0 q1 q2 q3 q4 q5 HL5 b5 HSA HBR H14p
      go_loopw [60] (fun c wr => ∃ t : Nat, t ≤ on ∧ c = .int .i64 t ∧ Below w5.heap.size w5 wr) (fun c _ => on - (intOf c).toNat)
      case atStart => exact ⟨0, by omega, rfl, Below.refl _ _⟩
      case round =>
        obtain ⟨t, ht, rfl, hbt⟩ := hrel
        by_cases hlt : t < on
        · have hll := unhide HMM
          obtain ⟨gb, ob, hao, g1, g2, g3⟩ := lock_cells ((unhide HSL) wr hbt) rfl (show t < L.length by omega)
          subst hao
          have hmem : L.getD t default ∈ L := getD_mem' (by omega)
          obtain ⟨⟨⟨a, c⟩, d⟩, hx⟩ : ∃ k, L.getD t default = k := ⟨_, rfl⟩
          rw [hx] at g1 g2 g3 hmem
          have hall := mem_allP (n := n) hmem
          obtain ⟨hk1, hk2⟩ := (unhide HLk) _ hmem
          simp only at hk1 hk2
          obtain ⟨y1, hy1⟩ : ∃ y, wr.alloc (.cells #[.int .i32 a, .int .i64 c, .bool d] 39) = y := ⟨_, rfl⟩
          have b1 : Below wr.heap.size wr y1 := hy1 ▸ below_box _
          have x1 : y1.heap[wr.heap.size]? = some (.cells #[.int .i32 a, .int .i64 c, .bool d] 39) := by rw [← hy1]; exact heap_alloc_new wr _
          have e1 : Below w5.heap.size w5 y1 := hbt.trans (b1.mono hbt.size)
          have HD : Hid (∀ z, Below y1.heap.size y1 z → z.cell? ⟨wr.heap.size, 0, none⟩ = some (.int .i32 a) ∧ z.cell? ⟨wr.heap.size, 1, none⟩ = some (.int .i64 c) ∧ z.cell? ⟨wr.heap.size, 2, none⟩ = some (.bool d)) := fun z hz => by
            have h := (hz.block _ (Array.getElem?_eq_some_iff.1 x1).1).trans x1
            exact ⟨cell_at h, cell_at h, cell_at h⟩
          have HE1 : Hid (∀ z, Below y1.heap.size y1 z → Below w5.heap.size w5 z) := fun z hz => e1.trans (hz.mono e1.size)
          have HEY : Hid (∀ z, Below y1.heap.size y1 z → Below Y.heap.size Y z) := fun z hz => (unhide HE) z ((unhide HE5) z (e1.trans (hz.mono e1.size)))
          have HALL := hide hall
          have d2 : decide ((a, c) ∈ W) = d := hk1.symm
          have HY1 := hide hy1
          have hlt0 : (t : Int) < (on : Int) := by omega
          have HK2 := hide hk2
          have HB4 := hide e1
          clear hll hx hmem hall hk1 hk2 hy1 b1 x1 e1 hbt
          cases d with
          | true =>
            go_wp2_with (rw [unhide HY1])
            refine wp_region_held_drew (S := fun x => Below y1.heap.size y1 x) (by kernel_rfl) ((Below.refl _ _).drew) (fun hHeld => ?_)
            have t0 : Below y1.heap.size y1 y1.drew := (Below.refl _ _).drew
            refine wpAnyH_take (i := 0) (v := ?v56x0) rfl (by kernel_rfl) (by kernel_rfl) (by kernel_rfl) (fun _ _ _ h => h) (Or.inl ⟨by rfl, ?hy56x0⟩) (by assumption) ?rest56x0
            case hy56x0 => intro w hSw; go_simp <;> with_reducible rfl
            simp only [Act.put, List.getElem_toArray, List.getElem_cons_zero, List.setIfInBounds_toArray, List.set_cons_zero, List.set_cons_succ]
            refine wpAnyH_take (i := 1) (v := (.agg #[.int .i32 a, .int .i64 c, .bool true])) rfl (by kernel_rfl) (by kernel_rfl) (by kernel_rfl) (fun _ _ _ h => h) (Or.inl ⟨by rfl, ?hy57x1⟩) (by assumption) ?rest57x1
            case hy57x1 => intro w hSw; obtain ⟨s1, s2, s3⟩ := (unhide HD) _ hSw; go_simp <;> with_reducible rfl
            simp only [Act.put, List.getElem_toArray, List.getElem_cons_zero, List.getElem_cons_succ, List.setIfInBounds_toArray, List.set_cons_zero, List.set_cons_succ]
            refine wpAnyH_ready (rs := [2]) (by kernel_rfl) (by simp) ?_
            refine AllReadyH.cons rfl (fun K hK => ?_) AllReadyH.nil
            go_simp
            refine (containsL_yes ((unhide HSA5) _ ((unhide HE1) _ t0)) (unhide HALL)).mono ?_
            rintro e v1 ⟨rfl, hb1⟩
            refine hK _ _ (t0.trans (hb1.mono t0.size)) ?_
            clear hK hHeld
            have t1 : Below y1.heap.size y1 v1 := t0.trans (hb1.mono t0.size)
            intro hHeld
            refine wpAnyH_take (i := 3) (v := ?v58x3) rfl (by kernel_rfl) (by kernel_rfl) (by kernel_rfl) (fun _ _ _ h => h) (Or.inl ⟨by rfl, ?hy58x3⟩) (by assumption) ?rest58x3
            case hy58x3 => intro w hSw; go_simp <;> with_reducible rfl
            simp only [Act.put, List.getElem_toArray, List.getElem_cons_zero, List.getElem_cons_succ, List.setIfInBounds_toArray, List.set_cons_zero, List.set_cons_succ]
            refine wpAnyH_take (i := 4) (v := ?v59x4) rfl (by kernel_rfl) (by kernel_rfl) (by kernel_rfl) (fun _ _ _ h => h) (Or.inl ⟨by rfl, ?hy59x4⟩) (by assumption) ?rest59x4
            case hy59x4 => intro w hSw; go_simp <;> with_reducible rfl
            simp only [Act.put, List.getElem_toArray, List.getElem_cons_zero, List.getElem_cons_succ, List.setIfInBounds_toArray, List.set_cons_zero, List.set_cons_succ]
            refine wpAnyH_take (i := 5) (v := ?v60x5) rfl (by kernel_rfl) (by kernel_rfl) (by kernel_rfl) (fun _ _ _ h => h) (Or.inl ⟨by rfl, ?hy60x5⟩) (by assumption) ?rest60x5
            case hy60x5 => intro w hSw; go_simp <;> with_reducible rfl
            simp only [Act.put, List.getElem_toArray, List.getElem_cons_zero, List.getElem_cons_succ, List.setIfInBounds_toArray, List.set_cons_zero, List.set_cons_succ]
            refine wpAnyH_take (i := 6) (v := (.bool true)) rfl (by kernel_rfl) (by kernel_rfl) (by kernel_rfl) (fun _ _ _ h => h) (Or.inl ⟨by rfl, ?hy61x6⟩) (by assumption) ?rest61x6
            case hy61x6 => intro w hSw; obtain ⟨s1, s2, s3⟩ := (unhide HD) _ hSw; go_simp <;> with_reducible rfl
            simp only [Act.put, List.getElem_toArray, List.getElem_cons_zero, List.getElem_cons_succ, List.setIfInBounds_toArray, List.set_cons_zero, List.set_cons_succ]
            refine wpAnyH_take (i := 7) (v := (.agg #[.int .i64 s0, .int .i64 r0, .slice ac0 nc0 cc0, .slice aa0 na0 ca0, .slice ar0 nr0 cr0, .slice aw0 nw0 cw0])) rfl (by kernel_rfl) (by kernel_rfl) (by kernel_rfl) (fun _ _ _ h => h) (Or.inl ⟨by rfl, ?hy62x7⟩) (by assumption) ?rest62x7
            case hy62x7 => intro w hSw; have ht := (unhide HB) _ ((unhide HEY) _ hSw); have q0 := cell_at (o := 0) ht; have q1 := cell_at (o := 1) ht; have q2 := cell_at (o := 2) ht; have q3 := cell_at (o := 3) ht; have q4 := cell_at (o := 4) ht; have q5 := cell_at (o := 5) ht; go_simp <;> with_reducible rfl
            simp only [Act.put, List.getElem_toArray, List.getElem_cons_zero, List.getElem_cons_succ, List.setIfInBounds_toArray, List.set_cons_zero, List.set_cons_succ]
            refine wpAnyH_take (i := 8) (v := ?v63x8) rfl (by kernel_rfl) (by kernel_rfl) (by kernel_rfl) (fun _ _ _ h => h) (Or.inl ⟨by rfl, ?hy63x8⟩) (by assumption) ?rest63x8
            case hy63x8 => intro w hSw; go_simp <;> with_reducible rfl
            simp only [Act.put, List.getElem_toArray, List.getElem_cons_zero, List.getElem_cons_succ, List.setIfInBounds_toArray, List.set_cons_zero, List.set_cons_succ]
            refine wpAnyH_take (i := 9) (v := (.agg #[.int .i32 a, .int .i64 c])) rfl (by kernel_rfl) (by kernel_rfl) (by kernel_rfl) (fun _ _ _ h => h) (Or.inl ⟨by rfl, ?hy64x9⟩) (by assumption) ?rest64x9
            case hy64x9 => intro w hSw; obtain ⟨s1, s2, s3⟩ := (unhide HD) _ hSw; go_simp <;> with_reducible rfl
            simp only [Act.put, List.getElem_toArray, List.getElem_cons_zero, List.getElem_cons_succ, List.setIfInBounds_toArray, List.set_cons_zero, List.set_cons_succ]
            refine wpAnyH_ready (rs := [10]) (by kernel_rfl) (by simp) ?_
            refine AllReadyH.cons rfl (fun K hK => ?_) AllReadyH.nil
            go_simp
            refine ((d2 ▸ (unhide H20) _ ((unhide HEY) _ t1) a c : Calls Try.prog 20 #[.agg #[.int .i64 s0, .int .i64 r0, .slice ac0 nc0 cc0, .slice aa0 na0 ca0, .slice ar0 nr0 cr0, .slice aw0 nw0 cw0], .agg #[.int .i32 a, .int .i64 c]] v1 fun e w' => e = .returned (.bool true) ∧ Below v1.heap.size v1 w')).mono ?_
            rintro e v2 ⟨rfl, hb2⟩
            refine hK _ _ (t1.trans (hb2.mono t1.size)) ?_
            clear hK hHeld
            have t2 : Below y1.heap.size y1 v2 := t1.trans (hb2.mono t1.size)
            intro hHeld
            refine wpAnyH_take (i := 11) (v := (.bool false)) rfl (by kernel_rfl) (by kernel_rfl) (by kernel_rfl) (fun _ _ _ h => h) (Or.inl ⟨by rfl, ?hy65x11⟩) (by assumption) ?rest65x11
            case hy65x11 => intro w hSw; skip; go_simp <;> with_reducible rfl
            simp only [Act.put, List.getElem_toArray, List.getElem_cons_zero, List.getElem_cons_succ, List.setIfInBounds_toArray, List.set_cons_zero, List.set_cons_succ]
            refine wpAnyH_take (i := 12) (v := ?v66x12) rfl (by kernel_rfl) (by kernel_rfl) (by kernel_rfl) (fun _ _ _ h => h) (Or.inl ⟨by rfl, ?hy66x12⟩) (by assumption) ?rest66x12
            case hy66x12 => intro w hSw; go_simp <;> with_reducible rfl
            simp only [Act.put, List.getElem_toArray, List.getElem_cons_zero, List.getElem_cons_succ, List.setIfInBounds_toArray, List.set_cons_zero, List.set_cons_succ]
            refine wpAnyH_take (i := 13) (v := ?v67x13) rfl (by kernel_rfl) (by kernel_rfl) (by kernel_rfl) (fun _ _ _ h => h) (Or.inl ⟨by rfl, ?hy67x13⟩) (by assumption) ?rest67x13
            case hy67x13 => intro w hSw; go_simp <;> with_reducible rfl
            simp only [Act.put, List.getElem_toArray, List.getElem_cons_zero, List.getElem_cons_succ, List.setIfInBounds_toArray, List.set_cons_zero, List.set_cons_succ]
            refine wpAnyH_take (i := 14) (v := ?v68x14) rfl (by kernel_rfl) (by kernel_rfl) (by kernel_rfl) (fun _ _ _ h => h) (Or.inl ⟨by rfl, ?hy68x14⟩) (by assumption) ?rest68x14
            case hy68x14 => intro w hSw; go_simp <;> with_reducible rfl
            simp only [Act.put, List.getElem_toArray, List.getElem_cons_zero, List.getElem_cons_succ, List.setIfInBounds_toArray, List.set_cons_zero, List.set_cons_succ]
            refine wpAnyH_take (i := 15) (v := (.bool true)) rfl (by kernel_rfl) (by kernel_rfl) (by kernel_rfl) (fun _ _ _ h => h) (Or.inl ⟨by rfl, ?hy69x15⟩) (by assumption) ?rest69x15
            case hy69x15 => intro w hSw; obtain ⟨s1, s2, s3⟩ := (unhide HD) _ hSw; go_simp <;> with_reducible rfl
            simp only [Act.put, List.getElem_toArray, List.getElem_cons_zero, List.getElem_cons_succ, List.setIfInBounds_toArray, List.set_cons_zero, List.set_cons_succ]
            refine wpAnyH_take (i := 16) (v := ?v70x16) rfl (by kernel_rfl) (by kernel_rfl) (by kernel_rfl) (fun _ _ _ h => h) (Or.inl ⟨by rfl, ?hy70x16⟩) (by assumption) ?rest70x16
            case hy70x16 => intro w hSw; go_simp <;> with_reducible rfl
            simp only [Act.put, List.getElem_toArray, List.getElem_cons_zero, List.getElem_cons_succ, List.setIfInBounds_toArray, List.set_cons_zero, List.set_cons_succ]
            refine wpAnyH_take (i := 17) (v := ?v71x17) rfl (by kernel_rfl) (by kernel_rfl) (by kernel_rfl) (fun _ _ _ h => h) (Or.inl ⟨by rfl, ?hy71x17⟩) (by assumption) ?rest71x17
            case hy71x17 => intro w hSw; go_simp <;> with_reducible rfl
            simp only [Act.put, List.getElem_toArray, List.getElem_cons_zero, List.getElem_cons_succ, List.setIfInBounds_toArray, List.set_cons_zero, List.set_cons_succ]
            refine wpAnyH_take (i := 18) (v := undef) rfl (by kernel_rfl) (by kernel_rfl) (by kernel_rfl) (fun _ _ _ h => h) (Or.inr ⟨by rfl, rfl⟩) (by assumption) ?_
            simp only [Act.put, List.getElem_toArray, List.getElem_cons_zero, List.getElem_cons_succ, List.setIfInBounds_toArray, List.set_cons_zero, List.set_cons_succ]
            refine wpAnyH_take (i := 19) (v := undef) rfl (by kernel_rfl) (by kernel_rfl) (by kernel_rfl) (fun _ _ _ h => h) (Or.inr ⟨by rfl, rfl⟩) (by assumption) ?_
            simp only [Act.put, List.getElem_toArray, List.getElem_cons_zero, List.getElem_cons_succ, List.setIfInBounds_toArray, List.set_cons_zero, List.set_cons_succ]
            refine wpAnyH_take (i := 20) (v := undef) rfl (by kernel_rfl) (by kernel_rfl) (by kernel_rfl) (fun _ _ _ h => h) (Or.inr ⟨by rfl, rfl⟩) (by assumption) ?_
            simp only [Act.put, List.getElem_toArray, List.getElem_cons_zero, List.getElem_cons_succ, List.setIfInBounds_toArray, List.set_cons_zero, List.set_cons_succ]
            refine wpAnyH_take (i := 21) (v := undef) rfl (by kernel_rfl) (by kernel_rfl) (by kernel_rfl) (fun _ _ _ h => h) (Or.inr ⟨by rfl, rfl⟩) (by assumption) ?_
            simp only [Act.put, List.getElem_toArray, List.getElem_cons_zero, List.getElem_cons_succ, List.setIfInBounds_toArray, List.set_cons_zero, List.set_cons_succ]
            refine wpAnyH_take (i := 22) (v := undef) rfl (by kernel_rfl) (by kernel_rfl) (by kernel_rfl) (fun _ _ _ h => h) (Or.inr ⟨by rfl, rfl⟩) (by assumption) ?_
            simp only [Act.put, List.getElem_toArray, List.getElem_cons_zero, List.getElem_cons_succ, List.setIfInBounds_toArray, List.set_cons_zero, List.set_cons_succ]
            refine wpAnyH_take (i := 23) (v := ?v77x23) rfl (by kernel_rfl) (by kernel_rfl) (by kernel_rfl) (fun _ _ _ h => h) (Or.inl ⟨by rfl, ?hy77x23⟩) (by assumption) ?rest77x23
            case hy77x23 => intro w hSw; go_simp <;> with_reducible rfl
            simp only [Act.put, List.getElem_toArray, List.getElem_cons_zero, List.getElem_cons_succ, List.setIfInBounds_toArray, List.set_cons_zero, List.set_cons_succ]
            refine wpAnyH_take (i := 24) (v := ?v78x24) rfl (by kernel_rfl) (by kernel_rfl) (by kernel_rfl) (fun _ _ _ h => h) (Or.inl ⟨by rfl, ?hy78x24⟩) (by assumption) ?rest78x24
            case hy78x24 => intro w hSw; go_simp <;> with_reducible rfl
            simp only [Act.put, List.getElem_toArray, List.getElem_cons_zero, List.getElem_cons_succ, List.setIfInBounds_toArray, List.set_cons_zero, List.set_cons_succ]
            refine wpAnyH_done (by kernel_rfl) ?_ _
            clear hHeld
            have HB6 := hide ((unhide HE1) _ t2)
            clear t0 t1 t2 hb1 hb2
            go_wp2
            go_roundw
            case rel => exact ⟨t + 1, by omega, by go_num, unhide HB6⟩
            case measure => simp [intOf]; omega
          | false =>
            have d3 : decide ((a, c) ∈ R) = true := decide_eq_true (unhide HK2 rfl)
            go_wp2_with (rw [unhide HY1])
            refine wp_region_held_drew (S := fun x => Below y1.heap.size y1 x) (by kernel_rfl) ((Below.refl _ _).drew) (fun hHeld => ?_)
            have t0 : Below y1.heap.size y1 y1.drew := (Below.refl _ _).drew
            refine wpAnyH_take (i := 0) (v := ?v79x0) rfl (by kernel_rfl) (by kernel_rfl) (by kernel_rfl) (fun _ _ _ h => h) (Or.inl ⟨by rfl, ?hy79x0⟩) (by assumption) ?rest79x0
            case hy79x0 => intro w hSw; go_simp <;> with_reducible rfl
            simp only [Act.put, List.getElem_toArray, List.getElem_cons_zero, List.setIfInBounds_toArray, List.set_cons_zero, List.set_cons_succ]
            refine wpAnyH_take (i := 1) (v := (.agg #[.int .i32 a, .int .i64 c, .bool false])) rfl (by kernel_rfl) (by kernel_rfl) (by kernel_rfl) (fun _ _ _ h => h) (Or.inl ⟨by rfl, ?hy80x1⟩) (by assumption) ?rest80x1
            case hy80x1 => intro w hSw; obtain ⟨s1, s2, s3⟩ := (unhide HD) _ hSw; go_simp <;> with_reducible rfl
            simp only [Act.put, List.getElem_toArray, List.getElem_cons_zero, List.getElem_cons_succ, List.setIfInBounds_toArray, List.set_cons_zero, List.set_cons_succ]
            refine wpAnyH_ready (rs := [2]) (by kernel_rfl) (by simp) ?_
            refine AllReadyH.cons rfl (fun K hK => ?_) AllReadyH.nil
            go_simp
            refine (containsL_yes ((unhide HSA5) _ ((unhide HE1) _ t0)) (unhide HALL)).mono ?_
            rintro e v1 ⟨rfl, hb1⟩
            refine hK _ _ (t0.trans (hb1.mono t0.size)) ?_
            clear hK hHeld
            have t1 : Below y1.heap.size y1 v1 := t0.trans (hb1.mono t0.size)
            intro hHeld
            refine wpAnyH_take (i := 3) (v := ?v81x3) rfl (by kernel_rfl) (by kernel_rfl) (by kernel_rfl) (fun _ _ _ h => h) (Or.inl ⟨by rfl, ?hy81x3⟩) (by assumption) ?rest81x3
            case hy81x3 => intro w hSw; go_simp <;> with_reducible rfl
            simp only [Act.put, List.getElem_toArray, List.getElem_cons_zero, List.getElem_cons_succ, List.setIfInBounds_toArray, List.set_cons_zero, List.set_cons_succ]
            refine wpAnyH_take (i := 4) (v := ?v82x4) rfl (by kernel_rfl) (by kernel_rfl) (by kernel_rfl) (fun _ _ _ h => h) (Or.inl ⟨by rfl, ?hy82x4⟩) (by assumption) ?rest82x4
            case hy82x4 => intro w hSw; go_simp <;> with_reducible rfl
            simp only [Act.put, List.getElem_toArray, List.getElem_cons_zero, List.getElem_cons_succ, List.setIfInBounds_toArray, List.set_cons_zero, List.set_cons_succ]
            refine wpAnyH_take (i := 5) (v := ?v83x5) rfl (by kernel_rfl) (by kernel_rfl) (by kernel_rfl) (fun _ _ _ h => h) (Or.inl ⟨by rfl, ?hy83x5⟩) (by assumption) ?rest83x5
            case hy83x5 => intro w hSw; go_simp <;> with_reducible rfl
            simp only [Act.put, List.getElem_toArray, List.getElem_cons_zero, List.getElem_cons_succ, List.setIfInBounds_toArray, List.set_cons_zero, List.set_cons_succ]
            refine wpAnyH_take (i := 6) (v := (.bool false)) rfl (by kernel_rfl) (by kernel_rfl) (by kernel_rfl) (fun _ _ _ h => h) (Or.inl ⟨by rfl, ?hy84x6⟩) (by assumption) ?rest84x6
            case hy84x6 => intro w hSw; obtain ⟨s1, s2, s3⟩ := (unhide HD) _ hSw; go_simp <;> with_reducible rfl
            simp only [Act.put, List.getElem_toArray, List.getElem_cons_zero, List.getElem_cons_succ, List.setIfInBounds_toArray, List.set_cons_zero, List.set_cons_succ]
            refine wpAnyH_take (i := 7) (v := (.agg #[.int .i64 s0, .int .i64 r0, .slice ac0 nc0 cc0, .slice aa0 na0 ca0, .slice ar0 nr0 cr0, .slice aw0 nw0 cw0])) rfl (by kernel_rfl) (by kernel_rfl) (by kernel_rfl) (fun _ _ _ h => h) (Or.inl ⟨by rfl, ?hy85x7⟩) (by assumption) ?rest85x7
            case hy85x7 => intro w hSw; have ht := (unhide HB) _ ((unhide HEY) _ hSw); have q0 := cell_at (o := 0) ht; have q1 := cell_at (o := 1) ht; have q2 := cell_at (o := 2) ht; have q3 := cell_at (o := 3) ht; have q4 := cell_at (o := 4) ht; have q5 := cell_at (o := 5) ht; go_simp <;> with_reducible rfl
            simp only [Act.put, List.getElem_toArray, List.getElem_cons_zero, List.getElem_cons_succ, List.setIfInBounds_toArray, List.set_cons_zero, List.set_cons_succ]
            refine wpAnyH_take (i := 8) (v := ?v86x8) rfl (by kernel_rfl) (by kernel_rfl) (by kernel_rfl) (fun _ _ _ h => h) (Or.inl ⟨by rfl, ?hy86x8⟩) (by assumption) ?rest86x8
            case hy86x8 => intro w hSw; go_simp <;> with_reducible rfl
            simp only [Act.put, List.getElem_toArray, List.getElem_cons_zero, List.getElem_cons_succ, List.setIfInBounds_toArray, List.set_cons_zero, List.set_cons_succ]
            refine wpAnyH_take (i := 9) (v := (.agg #[.int .i32 a, .int .i64 c])) rfl (by kernel_rfl) (by kernel_rfl) (by kernel_rfl) (fun _ _ _ h => h) (Or.inl ⟨by rfl, ?hy87x9⟩) (by assumption) ?rest87x9
            case hy87x9 => intro w hSw; obtain ⟨s1, s2, s3⟩ := (unhide HD) _ hSw; go_simp <;> with_reducible rfl
            simp only [Act.put, List.getElem_toArray, List.getElem_cons_zero, List.getElem_cons_succ, List.setIfInBounds_toArray, List.set_cons_zero, List.set_cons_succ]
            refine wpAnyH_ready (rs := [10]) (by kernel_rfl) (by simp) ?_
            refine AllReadyH.cons rfl (fun K hK => ?_) AllReadyH.nil
            go_simp
            refine ((d2 ▸ (unhide H20) _ ((unhide HEY) _ t1) a c : Calls Try.prog 20 #[.agg #[.int .i64 s0, .int .i64 r0, .slice ac0 nc0 cc0, .slice aa0 na0 ca0, .slice ar0 nr0 cr0, .slice aw0 nw0 cw0], .agg #[.int .i32 a, .int .i64 c]] v1 fun e w' => e = .returned (.bool false) ∧ Below v1.heap.size v1 w')).mono ?_
            rintro e v2 ⟨rfl, hb2⟩
            refine hK _ _ (t1.trans (hb2.mono t1.size)) ?_
            clear hK hHeld
            have t2 : Below y1.heap.size y1 v2 := t1.trans (hb2.mono t1.size)
            intro hHeld
            refine wpAnyH_take (i := 11) (v := (.bool false)) rfl (by kernel_rfl) (by kernel_rfl) (by kernel_rfl) (fun _ _ _ h => h) (Or.inl ⟨by rfl, ?hy88x11⟩) (by assumption) ?rest88x11
            case hy88x11 => intro w hSw; skip; go_simp <;> with_reducible rfl
            simp only [Act.put, List.getElem_toArray, List.getElem_cons_zero, List.getElem_cons_succ, List.setIfInBounds_toArray, List.set_cons_zero, List.set_cons_succ]
            refine wpAnyH_take (i := 12) (v := ?v89x12) rfl (by kernel_rfl) (by kernel_rfl) (by kernel_rfl) (fun _ _ _ h => h) (Or.inl ⟨by rfl, ?hy89x12⟩) (by assumption) ?rest89x12
            case hy89x12 => intro w hSw; go_simp <;> with_reducible rfl
            simp only [Act.put, List.getElem_toArray, List.getElem_cons_zero, List.getElem_cons_succ, List.setIfInBounds_toArray, List.set_cons_zero, List.set_cons_succ]
            refine wpAnyH_take (i := 13) (v := ?v90x13) rfl (by kernel_rfl) (by kernel_rfl) (by kernel_rfl) (fun _ _ _ h => h) (Or.inl ⟨by rfl, ?hy90x13⟩) (by assumption) ?rest90x13
            case hy90x13 => intro w hSw; go_simp <;> with_reducible rfl
            simp only [Act.put, List.getElem_toArray, List.getElem_cons_zero, List.getElem_cons_succ, List.setIfInBounds_toArray, List.set_cons_zero, List.set_cons_succ]
            refine wpAnyH_take (i := 14) (v := ?v91x14) rfl (by kernel_rfl) (by kernel_rfl) (by kernel_rfl) (fun _ _ _ h => h) (Or.inl ⟨by rfl, ?hy91x14⟩) (by assumption) ?rest91x14
            case hy91x14 => intro w hSw; go_simp <;> with_reducible rfl
            simp only [Act.put, List.getElem_toArray, List.getElem_cons_zero, List.getElem_cons_succ, List.setIfInBounds_toArray, List.set_cons_zero, List.set_cons_succ]
            refine wpAnyH_take (i := 15) (v := (.bool false)) rfl (by kernel_rfl) (by kernel_rfl) (by kernel_rfl) (fun _ _ _ h => h) (Or.inl ⟨by rfl, ?hy92x15⟩) (by assumption) ?rest92x15
            case hy92x15 => intro w hSw; obtain ⟨s1, s2, s3⟩ := (unhide HD) _ hSw; go_simp <;> with_reducible rfl
            simp only [Act.put, List.getElem_toArray, List.getElem_cons_zero, List.getElem_cons_succ, List.setIfInBounds_toArray, List.set_cons_zero, List.set_cons_succ]
            refine wpAnyH_take (i := 16) (v := ?v93x16) rfl (by kernel_rfl) (by kernel_rfl) (by kernel_rfl) (fun _ _ _ h => h) (Or.inl ⟨by rfl, ?hy93x16⟩) (by assumption) ?rest93x16
            case hy93x16 => intro w hSw; go_simp <;> with_reducible rfl
            simp only [Act.put, List.getElem_toArray, List.getElem_cons_zero, List.getElem_cons_succ, List.setIfInBounds_toArray, List.set_cons_zero, List.set_cons_succ]
            refine wpAnyH_take (i := 17) (v := ?v94x17) rfl (by kernel_rfl) (by kernel_rfl) (by kernel_rfl) (fun _ _ _ h => h) (Or.inl ⟨by rfl, ?hy94x17⟩) (by assumption) ?rest94x17
            case hy94x17 => intro w hSw; go_simp <;> with_reducible rfl
            simp only [Act.put, List.getElem_toArray, List.getElem_cons_zero, List.getElem_cons_succ, List.setIfInBounds_toArray, List.set_cons_zero, List.set_cons_succ]
            refine wpAnyH_take (i := 18) (v := (.agg #[.int .i64 s0, .int .i64 r0, .slice ac0 nc0 cc0, .slice aa0 na0 ca0, .slice ar0 nr0 cr0, .slice aw0 nw0 cw0])) rfl (by kernel_rfl) (by kernel_rfl) (by kernel_rfl) (fun _ _ _ h => h) (Or.inl ⟨by rfl, ?hy95x18⟩) (by assumption) ?rest95x18
            case hy95x18 => intro w hSw; have ht := (unhide HB) _ ((unhide HEY) _ hSw); have q0 := cell_at (o := 0) ht; have q1 := cell_at (o := 1) ht; have q2 := cell_at (o := 2) ht; have q3 := cell_at (o := 3) ht; have q4 := cell_at (o := 4) ht; have q5 := cell_at (o := 5) ht; go_simp <;> with_reducible rfl
            simp only [Act.put, List.getElem_toArray, List.getElem_cons_zero, List.getElem_cons_succ, List.setIfInBounds_toArray, List.set_cons_zero, List.set_cons_succ]
            refine wpAnyH_take (i := 19) (v := ?v96x19) rfl (by kernel_rfl) (by kernel_rfl) (by kernel_rfl) (fun _ _ _ h => h) (Or.inl ⟨by rfl, ?hy96x19⟩) (by assumption) ?rest96x19
            case hy96x19 => intro w hSw; go_simp <;> with_reducible rfl
            simp only [Act.put, List.getElem_toArray, List.getElem_cons_zero, List.getElem_cons_succ, List.setIfInBounds_toArray, List.set_cons_zero, List.set_cons_succ]
            refine wpAnyH_take (i := 20) (v := (.agg #[.int .i32 a, .int .i64 c])) rfl (by kernel_rfl) (by kernel_rfl) (by kernel_rfl) (fun _ _ _ h => h) (Or.inl ⟨by rfl, ?hy97x20⟩) (by assumption) ?rest97x20
            case hy97x20 => intro w hSw; obtain ⟨s1, s2, s3⟩ := (unhide HD) _ hSw; go_simp <;> with_reducible rfl
            simp only [Act.put, List.getElem_toArray, List.getElem_cons_zero, List.getElem_cons_succ, List.setIfInBounds_toArray, List.set_cons_zero, List.set_cons_succ]
            refine wpAnyH_ready (rs := [21]) (by kernel_rfl) (by simp) ?_
            refine AllReadyH.cons rfl (fun K hK => ?_) AllReadyH.nil
            go_simp
            refine ((d3 ▸ (unhide H18) _ ((unhide HEY) _ t2) a c : Calls Try.prog 18 #[.agg #[.int .i64 s0, .int .i64 r0, .slice ac0 nc0 cc0, .slice aa0 na0 ca0, .slice ar0 nr0 cr0, .slice aw0 nw0 cw0], .agg #[.int .i32 a, .int .i64 c]] v2 fun e w' => e = .returned (.bool true) ∧ Below v2.heap.size v2 w')).mono ?_
            rintro e v3 ⟨rfl, hb3⟩
            refine hK _ _ (t2.trans (hb3.mono t2.size)) ?_
            clear hK hHeld
            have t3 : Below y1.heap.size y1 v3 := t2.trans (hb3.mono t2.size)
            intro hHeld
            refine wpAnyH_take (i := 22) (v := ?v98x22) rfl (by kernel_rfl) (by kernel_rfl) (by kernel_rfl) (fun _ _ _ h => h) (Or.inl ⟨by rfl, ?hy98x22⟩) (by assumption) ?rest98x22
            case hy98x22 => intro w hSw; go_simp <;> with_reducible rfl
            simp only [Act.put, List.getElem_toArray, List.getElem_cons_zero, List.getElem_cons_succ, List.setIfInBounds_toArray, List.set_cons_zero, List.set_cons_succ]
            refine wpAnyH_take (i := 23) (v := ?v99x23) rfl (by kernel_rfl) (by kernel_rfl) (by kernel_rfl) (fun _ _ _ h => h) (Or.inl ⟨by rfl, ?hy99x23⟩) (by assumption) ?rest99x23
            case hy99x23 => intro w hSw; go_simp <;> with_reducible rfl
            simp only [Act.put, List.getElem_toArray, List.getElem_cons_zero, List.getElem_cons_succ, List.setIfInBounds_toArray, List.set_cons_zero, List.set_cons_succ]
            refine wpAnyH_take (i := 24) (v := ?v100x24) rfl (by kernel_rfl) (by kernel_rfl) (by kernel_rfl) (fun _ _ _ h => h) (Or.inl ⟨by rfl, ?hy100x24⟩) (by assumption) ?rest100x24
            case hy100x24 => intro w hSw; go_simp <;> with_reducible rfl
            simp only [Act.put, List.getElem_toArray, List.getElem_cons_zero, List.getElem_cons_succ, List.setIfInBounds_toArray, List.set_cons_zero, List.set_cons_succ]
            refine wpAnyH_done (by kernel_rfl) ?_ _
            clear hHeld
            have HB6 := hide ((unhide HE1) _ t3)
            clear t0 t1 t2 t3 hb1 hb2 hb3
            go_wp2
            go_roundw
            case rel => exact ⟨t + 1, by omega, by go_num, unhide HB6⟩
            case measure => simp [intOf]; omega
        · obtain rfl : t = on := by omega
          have hf := (unhide HF) wr ((unhide HE5) wr hbt)
          have c17 : wr.cell? ⟨b, 17, none⟩ = some (.slice ta tn tc) := cell_at hf
          have HBT := hide hbt
          clear hf hbt
          go_wp2
          go_loopw [93] (fun c wr => ∃ i : Nat, i ≤ tn ∧ c = .int .i64 i ∧ Below w5.heap.size w5 wr) (fun c _ => tn - (intOf c).toNat)
          case atStart => exact ⟨0, by omega, rfl, unhide HBT⟩
          case round =>
            obtain ⟨i, hi, rfl, hbi⟩ := hrel
            by_cases hlt : i < tn
            · have hll := (unhide HPN).2
              obtain ⟨gb, ob, hao, g1⟩ := int_cells ((unhide HST) wr ((unhide HE5) wr hbi)) rfl (show i < A.ts.length by omega)
              subst hao
              have hmem : A.ts.getD i default ∈ A.ts := getD_mem' (by omega)
              obtain ⟨q, hq⟩ : ∃ q, A.ts.getD i 0 = q := ⟨_, rfl⟩
              rw [hq] at g1
              have hq' : A.ts.getD i default = q := hq
              rw [hq'] at hmem
              have dq : decide (q ∈ A.ps) = true := decide_eq_true ((unhide HAct) q hmem)
              have c16 : wr.cell? ⟨b, 16, none⟩ = some (.slice pa pn pc) := cell_at ((unhide HF) wr ((unhide HE5) wr hbi))
              have HCN := hide (dq ▸ containsN_any ((unhide HSP) _ ((unhide HE5) wr hbi)) q : Calls Try.prog 30 #[.slice pa pn pc, .int .i64 q] wr fun e w' => e = .returned (.bool true) ∧ Below wr.heap.size wr w')
              have HBI := hide hbi
              have hlt0 : (i : Int) < (tn : Int) := by omega
              clear hll hmem hq hq' dq hbi
              go_wp2_with (go_at_call 30; refine (unhide HCN).mono ?_; rintro e w6 ⟨rfl, hb6⟩; have HB6 := hide ((unhide HBI).trans (hb6.mono (unhide HBI).size)); clear hb6 HCN)
              go_roundw
              case rel => exact ⟨i + 1, by omega, by go_num, unhide HB6⟩
              case measure => simp [intOf]; omega
            · obtain rfl : i = tn := by omega
              have HBI := hide hbi
              have H9 := hide (live_any wr)
              have hpp : 0 < pn ∧ 0 < i := by have h1 := unhide HPne; have h2 := unhide HPN; omega
              obtain ⟨hp1, hp2⟩ := hpp
              have dd1 : decide ((0 : Int) < (pn : Int)) = true := decide_eq_true (by omega)
              have dd2 : decide ((pn : Int) > 0) = true := decide_eq_true (by omega)
              have dd3 : decide ((0 : Int) < (i : Int)) = true := decide_eq_true (by omega)
              have dd4 : decide ((i : Int) > 0) = true := decide_eq_true (by omega)
              have dd5 : ((t : Int) == (t : Int)) = true := beq_self_eq_true _
              clear hbi
              go_wp2_with (go_at_call 9; refine (unhide H9).mono ?_; rintro e w7 ⟨rfl, hb7⟩; have t7 : Below w5.heap.size w5 w7 := (unhide HBI).trans (hb7.mono (unhide HBI).size); have hf7 := (unhide HF) w7 ((unhide HE5) w7 t7); have e16 : w7.cell? ⟨b, 16, none⟩ = some (.slice pa pn pc) := cell_at hf7; have e17 : w7.cell? ⟨b, 17, none⟩ = some (.slice ta i tc) := cell_at hf7; have HT7 := hide t7; clear hb7 t7 hf7 H9)
              go_ret
              exact ⟨rfl, (unhide HBY).trans (((unhide HE) _ ((unhide HE5) _ (unhide HT7))).mono (unhide HBY).size)⟩
end Go.Proofs.Ytibjhjkeflbghaa
