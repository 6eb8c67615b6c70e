/- Several texts as one. -/
import Derived.Test.YtibjhjkeflbghaaO1
import Derived.Test.YtibjhjkeflbghaaO5
import Derived.Test.YtibjhjkeflbghaaN7

/- The locks of one partition: the document's At. -/
namespace Go.Proofs.Ytibjhjkeflbghaa
open Go.RowKit
set_option maxRecDepth 100000

set_option maxHeartbeats 3200000 in
theorem rat_any {x : Tx} {w : World} (p n : Int) (hx : SeesX w x) (hsh : Short x) :
    Calls Try.prog 17 #[xV x, .int .i64 p, .int .i64 n] w fun e w' => ∃ r, e = .returned r ∧ w'.ownsRow w.heap.size 39 3 r (atP p n (lkX x)).length ((atP p n (lkX x)).flatMap lC) ∧ Below w.heap.size w w' := by
  obtain ⟨⟨ac, nc, cc, hc⟩, ⟨aa, na, ca, ha⟩⟩ := And.intro hx.shc hx.sha
  obtain ⟨ar, cr, hr⟩ := hx.rs.shape
  obtain ⟨aw, cw, hw⟩ := hx.ws.shape
  obtain ⟨nr, hnr⟩ : ∃ z, x.rs.length = z := ⟨_, rfl⟩
  obtain ⟨nw, hnw⟩ : ∃ z, x.ws.length = z := ⟨_, rfl⟩
  obtain ⟨s, hs⟩ : ∃ z, x.s = z := ⟨_, rfl⟩
  obtain ⟨r, hrr⟩ : ∃ z, x.r = z := ⟨_, rfl⟩
  rw [hnr] at hr
  rw [hnw] at hw
  have hxV : xV x = .agg #[.int .i64 s, .int .i64 r, .slice ac nc cc, .slice aa na ca, .slice ar nr cr, .slice aw nw cw] := by unfold xV; rw [hc, ha, hr, hw, hs, hrr]
  obtain ⟨Y, hY⟩ : ∃ y, w.alloc (.cells #[.int .i64 s, .int .i64 r, .slice ac nc cc, .slice aa na ca, .slice ar nr cr, .slice aw nw cw] 26) = y := ⟨_, rfl⟩
  have bY : Below w.heap.size w Y := hY ▸ below_box _
  have xY : Y.heap[w.heap.size]? = some (.cells #[.int .i64 s, .int .i64 r, .slice ac nc cc, .slice aa na ca, .slice ar nr cr, .slice aw nw cw] 26) := hY ▸ heap_alloc_new w _
  have q0 : Y.cell? ⟨w.heap.size, 0, none⟩ = _ := cell_at xY
  have q1 : Y.cell? ⟨w.heap.size, 1, none⟩ = _ := cell_at xY
  have q2 : Y.cell? ⟨w.heap.size, 2, none⟩ = _ := cell_at xY
  have q3 : Y.cell? ⟨w.heap.size, 3, none⟩ = _ := cell_at xY
  have q4 : Y.cell? ⟨w.heap.size, 4, none⟩ = _ := cell_at xY
  have q5 : Y.cell? ⟨w.heap.size, 5, none⟩ = _ := cell_at xY
  have h14 := rlkX_any (hx.below bY) hsh
  have hok := lkX_ok hx
  have hll := lkX_len hsh
  obtain ⟨L, hL⟩ : ∃ L, lkX x = L := ⟨_, rfl⟩
  obtain ⟨m, hm⟩ : ∃ m, L.length = m := ⟨_, rfl⟩
  rw [hL] at hok hll h14 ⊢
  rw [hm] at hll h14
  rw [hxV] at h14 ⊢
  have H14 := hide h14
  have HOK := hide hok
  have HM := hide hm
  have HBY := hide bY
  have HY := hide hY
  clear hx hsh hc ha hr hw hnr hnw hs hrr hxV bY xY h14 hok hL hm hY
  simp only [List.getElem?_toArray, List.getElem?_cons_zero, List.getElem?_cons_succ] at q0 q1 q2 q3 q4 q5
  go_enter Try.func17, Try.ntmps17
  go_wp2_with (first | rw [unhide HY] | (go_at_call 15; refine (unhide H14).mono ?_; rintro e w1 ⟨v1, rfl, ho1, hb1⟩; have HO1 := hide ho1; have HB1 := hide hb1; obtain ⟨a1, k1, e1⟩ := own_shape ho1; subst e1; clear ho1 hb1 H14))
  have HSL : Hid (∀ z, Below w1.heap.size w1 z → SeesL lC 3 z (.slice a1 m k1) L) := fun z hz => (own_sees lC_len (by decide) (unhide HO1)).2.below lC_len hz
  have HBW : Hid (Below w.heap.size w w1) := (unhide HBY).trans ((unhide HB1).mono (unhide HBY).size)
  clear q0 q1 q2 q3 q4 q5
  go_loopw [8, 9] (fun o c wr => ∃ t k : Nat, t ≤ m ∧ c = .int .i64 t ∧ wr.ownsRow w1.heap.size 39 3 o k ((atP p n (L.take t)).flatMap lC) ∧ Below w1.heap.size w1 wr) (fun _ c _ => m - (intOf c).toNat)
  case atStart => exact ⟨0, 0, by omega, rfl, own_nil _ _ _ _, Below.refl _ _⟩
  case round =>
    obtain ⟨t, k, ht, rfl, hor, hbr⟩ := hrel
    have hk : k = (atP p n (L.take t)).length := (own_sees lC_len (by decide) hor).1
    obtain ⟨av, cv, hov⟩ := own_shape hor
    by_cases hlt : t < m
    · have hml := unhide HM
      have htl : t < L.length := by omega
      obtain ⟨gb, ob, hao, g1, g2, g3⟩ := lock_cells (unhide HSL wr hbr) rfl htl
      subst hao
      obtain ⟨⟨⟨a, b⟩, d⟩, hx⟩ : ∃ k, L.getD t default = k := ⟨_, rfl⟩
      have hx' : L[t] = ((a, b), d) := by rw [← hx]; simp [List.getD, htl]
      rw [hx] at g1 g2 g3
      have htk : atP p n (L.take (t + 1)) = if partF (a, b) n = p then atP p n (L.take t) ++ [((a, b), d)] else atP p n (L.take t) := by rw [List.take_succ_eq_append_getElem htl, hx', atP_snoc]
      have hle : (atP p n (L.take t)).length ≤ t := Nat.le_trans (atP_len _ _ _) (by simp; omega)
      have HP := hide (rpart_any a b n wr)
      obtain ⟨P, hP⟩ : ∃ P, partF (a, b) n = P := ⟨_, rfl⟩
      rw [hP] at HP htk
      have HF : Hid (∀ z, Below wr.heap.size wr z → (z.cell? ⟨gb, ob + t * 3, none⟩ = some (.int .i32 a) ∧ z.cell? ⟨gb, ob + t * 3 + 1, none⟩ = some (.int .i64 b) ∧ z.cell? ⟨gb, ob + t * 3 + 2, none⟩ = some (.bool d)) ∧ z.ownsRow w1.heap.size 39 3 u8 k ((atP p n (L.take t)).flatMap lC) ∧ Below w1.heap.size w1 z) := fun z hz => ⟨⟨(hz.cell (p := ⟨gb, ob + t * 3, none⟩) (World.block_lt_of_cell? wr _ g1)).trans g1, (hz.cell (p := ⟨gb, ob + t * 3 + 1, none⟩) (World.block_lt_of_cell? wr _ g2)).trans g2, (hz.cell (p := ⟨gb, ob + t * 3 + 2, none⟩) (World.block_lt_of_cell? wr _ g3)).trans g3⟩, own_below hor hz, hbr.trans (hz.mono hbr.size)⟩
      have HTK := hide htk
      have HKL : Hid (k ≤ t) := hk ▸ hle
      subst hov
      clear hml htl hx hx' htk hle hP hk hor hbr g3
      by_cases hpp : P = p
      · have hE : (P == p) = true := by simpa using hpp
        rw [if_pos hpp] at HTK
        go_wp2_with (first | (go_at_call 43; refine (unhide HP).mono ?_; rintro e w2 ⟨rfl, hg2⟩; have hb2 := hg2.below; obtain ⟨⟨c0, c1, c2⟩, ho2, hw2⟩ := (unhide HF) w2 hb2; obtain ⟨a5, k5, y5, r5, o5, b5⟩ := lk_app (a := a) (b := b) (d := d) ho2 (Below.refl _ _) hw2.size (by have := unhide HKL; omega); have HG := hide (And.intro o5 (hw2.trans b5.1)); have HR5 := hide r5; clear hg2 hb2 ho2 hw2 o5 b5 r5) | (at_builtin; refine wpList_append_run rfl _ _ 35 35 rfl rfl rfl (unhide HR5) ?_))
        go_roundw
        case rel => exact ⟨t + 1, k + 1, by omega, by go_num, by rw [unhide HTK]; exact (unhide HG).1, (unhide HG).2⟩
        case measure => simp [intOf]; omega
      · have hE : (P == p) = false := by simpa using hpp
        rw [if_neg hpp] at HTK
        go_wp2_with (first | (go_at_call 43; refine (unhide HP).mono ?_; rintro e w2 ⟨rfl, hg2⟩; have hb2 := hg2.below; have HG := hide ((unhide HF) w2 hb2).2; clear hg2 hb2))
        go_roundw
        case rel => exact ⟨t + 1, k, by omega, by go_num, by rw [unhide HTK]; exact (unhide HG).1, (unhide HG).2⟩
        case measure => simp [intOf]; omega
    · obtain rfl : t = m := by omega
      have hml := unhide HM
      rw [List.take_of_length_le (by omega)] at hor hk
      have HF := hide (And.intro (hk ▸ own_mono hor (unhide HBW).size : wr.ownsRow w.heap.size 39 3 u8 (atP p n L).length ((atP p n L).flatMap lC)) ((unhide HBW).trans (hbr.mono (unhide HBW).size)))
      subst hov
      clear hml hor hbr hk
      go_wp2
      go_ret
      exact ⟨_, rfl, (unhide HF).1, (unhide HF).2⟩
end Go.Proofs.Ytibjhjkeflbghaa

/- FootAsks' walk. -/
namespace Go.Proofs.Ytibjhjkeflbghaa
open Go.RowKit
set_option maxRecDepth 100000

theorem rof_o {x : Tx} {w : World} (n : Int) (hx : SeesX w x) : Calls Try.prog 12 #[xV x, .int .i64 n] w fun e w' => ∃ V, e = .returned (.agg V) ∧ FtO w.heap.size V (ofP x n) w' ∧ Below w.heap.size w w' :=
  (rof_any n hx).mono fun _ _ ⟨a, c, a', c', pv, tv, he, hv, hb⟩ => ⟨_, he, ⟨a, c, a', c', pv, tv, rfl, hv⟩, hb⟩
theorem lks_c {N : Nat} {args : Array Value} {z : World} {L : List Lk} (h : Calls Try.prog N args z fun e w' => ∃ v, e = .returned v ∧ w'.ownsRow z.heap.size 39 3 v L.length (L.flatMap lC) ∧ Below z.heap.size z w') : Calls Try.prog N args z fun e w' => ∃ a c, e = .returned (.slice a L.length c) ∧ SeesL lC 3 w' (.slice a L.length c) L ∧ Below z.heap.size z w' :=
  h.mono fun _ _ ⟨v, he, ho, hb⟩ => by
    obtain ⟨a, c, hv⟩ := own_shape ho
    subst hv
    exact ⟨a, c, he, (own_sees lC_len (by decide) ho).2, hb⟩
theorem locks_same {w : World} {u v : Value} {A : List Lk} (ha : SeesL lC 3 w u A) (hb : SeesL lC 3 w v A) : Calls Try.prog 13 #[u, v] w fun e w' => e = .returned (.bool true) ∧ Below w.heap.size w w' := by
  have h := locks_any ha hb
  rwa [decide_eq_true rfl] at h
theorem fsame_yes {w : World} {U V : Array Value} {A : Fp} (hu : SeesF w U A) (hv : SeesF w V A) : Calls Try.prog 10 #[.agg U, .agg V] w fun e w' => e = .returned (.bool true) ∧ Below w.heap.size w w' := by
  have h := rsame_any hu hv
  rwa [sameF_refl] at h

set_option maxHeartbeats 16000000 in
theorem footAsks_walk {x : Tx} {w : World} (n p : Int) (hx : SeesX w x) (hl : x.rs.length + x.ws.length ≤ 4398046511104) : Calls Try.prog 3 #[xV x, .int .i64 n, .int .i64 p] w fun e w' => e = .returned (.bool true) ∧ Below w.heap.size w w' := by
  have hsh : Short x := hl
  obtain ⟨⟨ac0, nc0, cc0, hc0⟩, ⟨aa0, na0, ca0, ha0⟩⟩ := And.intro hx.shc hx.sha
  obtain ⟨ar0, cr0, hr0⟩ := hx.rs.shape
  obtain ⟨aw0, cw0, hw0⟩ := hx.ws.shape
  obtain ⟨nr0, hnr0⟩ : ∃ z, x.rs.length = z := ⟨_, rfl⟩
  obtain ⟨nw0, hnw0⟩ : ∃ z, x.ws.length = z := ⟨_, rfl⟩
  obtain ⟨s0, hs0⟩ : ∃ z, x.s = z := ⟨_, rfl⟩
  obtain ⟨r0, hrr0⟩ : ∃ z, x.r = z := ⟨_, rfl⟩
  rw [hnr0] at hr0
  rw [hnw0] at hw0
  have hxV0 : xV x = .agg #[.int .i64 s0, .int .i64 r0, .slice ac0 nc0 cc0, .slice aa0 na0 ca0, .slice ar0 nr0 cr0, .slice aw0 nw0 cw0] := by unfold xV; rw [hc0, ha0, hr0, hw0, hs0, hrr0]
  obtain ⟨Y, hY⟩ : ∃ y, w.alloc (.cells #[.int .i64 s0, .int .i64 r0, .slice ac0 nc0 cc0, .slice aa0 na0 ca0, .slice ar0 nr0 cr0, .slice aw0 nw0 cw0] 26) = y := ⟨_, rfl⟩
  have bY : Below w.heap.size w Y := hY ▸ below_box _
  have x3 : Y.heap[w.heap.size]? = some (.cells #[.int .i64 s0, .int .i64 r0, .slice ac0 nc0 cc0, .slice aa0 na0 ca0, .slice ar0 nr0 cr0, .slice aw0 nw0 cw0] 26) := by rw [← hY]; exact heap_alloc_new w _
  have HB : Hid (∀ z, Below Y.heap.size Y z → z.heap[w.heap.size]? = some (.cells #[.int .i64 s0, .int .i64 r0, .slice ac0 nc0 cc0, .slice aa0 na0 ca0, .slice ar0 nr0 cr0, .slice aw0 nw0 cw0] 26)) := fun z hz => (hz.block _ (Array.getElem?_eq_some_iff.1 x3).1).trans x3
  have HX : Hid (∀ z, Below Y.heap.size Y z → SeesX z x) := fun z hz => (hx.below bY).below hz
  have H11 : Hid (∀ z, Below Y.heap.size Y z → Calls Try.prog 11 #[.agg #[.int .i64 s0, .int .i64 r0, .slice ac0 nc0 cc0, .slice aa0 na0 ca0, .slice ar0 nr0 cr0, .slice aw0 nw0 cw0], .int .i64 n] z fun e w' => ∃ V, e = .returned (.agg V) ∧ FtO z.heap.size V (ofP x n) w' ∧ Below z.heap.size z w') := fun z hz => hxV0 ▸ of_o n ((unhide HX) z hz)
  have H12 : Hid (∀ z, Below Y.heap.size Y z → Calls Try.prog 12 #[.agg #[.int .i64 s0, .int .i64 r0, .slice ac0 nc0 cc0, .slice aa0 na0 ca0, .slice ar0 nr0 cr0, .slice aw0 nw0 cw0], .int .i64 n] z fun e w' => ∃ V, e = .returned (.agg V) ∧ FtO z.heap.size V (ofP x n) w' ∧ Below z.heap.size z w') := fun z hz => hxV0 ▸ rof_o n ((unhide HX) z hz)
  have H14 : Hid (∀ z, Below Y.heap.size Y z → Calls Try.prog 14 #[.agg #[.int .i64 s0, .int .i64 r0, .slice ac0 nc0 cc0, .slice aa0 na0 ca0, .slice ar0 nr0 cr0, .slice aw0 nw0 cw0]] z fun e w' => ∃ a c, e = .returned (.slice a (lkX x).length c) ∧ SeesL lC 3 w' (.slice a (lkX x).length c) (lkX x) ∧ Below z.heap.size z w') := fun z hz => hxV0 ▸ lks_c (lkX_any ((unhide HX) z hz) hsh)
  have H15 : Hid (∀ z, Below Y.heap.size Y z → Calls Try.prog 15 #[.agg #[.int .i64 s0, .int .i64 r0, .slice ac0 nc0 cc0, .slice aa0 na0 ca0, .slice ar0 nr0 cr0, .slice aw0 nw0 cw0]] z fun e w' => ∃ a c, e = .returned (.slice a (lkX x).length c) ∧ SeesL lC 3 w' (.slice a (lkX x).length c) (lkX x) ∧ Below z.heap.size z w') := fun z hz => hxV0 ▸ lks_c (rlkX_any ((unhide HX) z hz) hsh)
  have H16 : Hid (∀ z, Below Y.heap.size Y z → Calls Try.prog 16 #[.agg #[.int .i64 s0, .int .i64 r0, .slice ac0 nc0 cc0, .slice aa0 na0 ca0, .slice ar0 nr0 cr0, .slice aw0 nw0 cw0], .int .i64 p, .int .i64 n] z fun e w' => ∃ a c, e = .returned (.slice a (atP p n (lkX x)).length c) ∧ SeesL lC 3 w' (.slice a (atP p n (lkX x)).length c) (atP p n (lkX x)) ∧ Below z.heap.size z w') := fun z hz => hxV0 ▸ lks_c (at_any p n ((unhide HX) z hz) hsh)
  have H17 : Hid (∀ z, Below Y.heap.size Y z → Calls Try.prog 17 #[.agg #[.int .i64 s0, .int .i64 r0, .slice ac0 nc0 cc0, .slice aa0 na0 ca0, .slice ar0 nr0 cr0, .slice aw0 nw0 cw0], .int .i64 p, .int .i64 n] z fun e w' => ∃ a c, e = .returned (.slice a (atP p n (lkX x)).length c) ∧ SeesL lC 3 w' (.slice a (atP p n (lkX x)).length c) (atP p n (lkX x)) ∧ Below z.heap.size z w') := fun z hz => hxV0 ▸ lks_c (rat_any p n ((unhide HX) z hz) hsh)
  obtain ⟨A, hA⟩ : ∃ A, ofP x n = A := ⟨_, rfl⟩
  obtain ⟨L1, hL1⟩ : ∃ A, lkX x = A := ⟨_, rfl⟩
  rw [hL1] at H14 H15 H16 H17
  obtain ⟨L2, hL2⟩ : ∃ A, atP p n L1 = A := ⟨_, rfl⟩
  rw [hL2] at H16 H17
  rw [hA] at H11 H12
  obtain ⟨m1, hm1⟩ : ∃ m, L1.length = m := ⟨_, rfl⟩
  obtain ⟨m2, hm2⟩ : ∃ m, L2.length = m := ⟨_, rfl⟩
  rw [hm1] at H14 H15
  rw [hm2] at H16 H17
  rw [hxV0]
  have HBY := hide bY
  have HY := hide hY
  clear hx hl hsh bY x3 hA hL1 hL2 hm1 hm2 hxV0 hY HX
  clear hc0 ha0 hr0 hw0 hnr0 hnw0 hs0 hrr0
  go_enter Try.func3, Try.ntmps3
  go_wp2_with (rw [unhide HY])
  refine wp_region_held_drew (S := fun x => Below Y.heap.size Y x) (by kernel_rfl) ((Below.refl _ _).drew) (fun hHeld => ?_)
  have t0 : Below Y.heap.size Y Y.drew := (Below.refl _ _).drew
  refine wpAnyH_ready (rs := [0]) (by as_aux_lemma => kernel_rfl) (by simp) ?_
  refine AllReadyH.cons rfl (fun K hK => ?_) AllReadyH.nil
  go_simp
  refine (live_any _).mono ?_
  rintro e c1 ⟨rfl, hb1⟩
  refine hK _ _ (t0.trans (hb1.mono t0.size)) ?_
  clear hK hHeld
  have t1 : Below Y.heap.size Y c1 := t0.trans (hb1.mono t0.size)
  intro hHeld
  refine wpAnyH_take (i := 1) (v := ?v1x1) rfl (by as_aux_lemma => kernel_rfl) (by as_aux_lemma => kernel_rfl) (by as_aux_lemma => kernel_rfl) (fun _ _ _ h => h) (Or.inl ⟨by rfl, ?hy1x1⟩) (by assumption) ?rest1x1
  case hy1x1 => intro w hSw; go_simp <;> with_reducible rfl
  simp only [Act.put, List.getElem_toArray, List.getElem_cons_zero, List.getElem_cons_succ, List.setIfInBounds_toArray, List.set_cons_zero, List.set_cons_succ]
  refine wpAnyH_take (i := 2) (v := (.agg #[.int .i64 s0, .int .i64 r0, .slice ac0 nc0 cc0, .slice aa0 na0 ca0, .slice ar0 nr0 cr0, .slice aw0 nw0 cw0])) rfl (by as_aux_lemma => kernel_rfl) (by as_aux_lemma => kernel_rfl) (by as_aux_lemma => kernel_rfl) (fun _ _ _ h => h) (Or.inl ⟨by rfl, ?hy2x2⟩) (by assumption) ?rest2x2
  case hy2x2 => intro w hSw; have ht := (unhide HB) _ hSw; have q0 := cell_at (o := 0) ht; have q1 := cell_at (o := 1) ht; have q2 := cell_at (o := 2) ht; have q3 := cell_at (o := 3) ht; have q4 := cell_at (o := 4) ht; have q5 := cell_at (o := 5) ht; go_simp <;> with_reducible rfl
  simp only [Act.put, List.getElem_toArray, List.getElem_cons_zero, List.getElem_cons_succ, List.setIfInBounds_toArray, List.set_cons_zero, List.set_cons_succ]
  refine wpAnyH_take (i := 3) (v := ?v3x3) rfl (by as_aux_lemma => kernel_rfl) (by as_aux_lemma => kernel_rfl) (by as_aux_lemma => kernel_rfl) (fun _ _ _ h => h) (Or.inl ⟨by rfl, ?hy3x3⟩) (by assumption) ?rest3x3
  case hy3x3 => intro w hSw; go_simp <;> with_reducible rfl
  simp only [Act.put, List.getElem_toArray, List.getElem_cons_zero, List.getElem_cons_succ, List.setIfInBounds_toArray, List.set_cons_zero, List.set_cons_succ]
  refine wpAnyH_take (i := 5) (v := (.agg #[.int .i64 s0, .int .i64 r0, .slice ac0 nc0 cc0, .slice aa0 na0 ca0, .slice ar0 nr0 cr0, .slice aw0 nw0 cw0])) rfl (by as_aux_lemma => kernel_rfl) (by as_aux_lemma => kernel_rfl) (by as_aux_lemma => kernel_rfl) (fun _ _ _ h => h) (Or.inl ⟨by rfl, ?hy4x5⟩) (by assumption) ?rest4x5
  case hy4x5 => intro w hSw; have ht := (unhide HB) _ hSw; have q0 := cell_at (o := 0) ht; have q1 := cell_at (o := 1) ht; have q2 := cell_at (o := 2) ht; have q3 := cell_at (o := 3) ht; have q4 := cell_at (o := 4) ht; have q5 := cell_at (o := 5) ht; go_simp <;> with_reducible rfl
  simp only [Act.put, List.getElem_toArray, List.getElem_cons_zero, List.getElem_cons_succ, List.setIfInBounds_toArray, List.set_cons_zero, List.set_cons_succ]
  refine wpAnyH_take (i := 6) (v := ?v5x6) rfl (by as_aux_lemma => kernel_rfl) (by as_aux_lemma => kernel_rfl) (by as_aux_lemma => kernel_rfl) (fun _ _ _ h => h) (Or.inl ⟨by rfl, ?hy5x6⟩) (by assumption) ?rest5x6
  case hy5x6 => intro w hSw; go_simp <;> with_reducible rfl
  simp only [Act.put, List.getElem_toArray, List.getElem_cons_zero, List.getElem_cons_succ, List.setIfInBounds_toArray, List.set_cons_zero, List.set_cons_succ]
  refine wpAnyH_ready (rs := [4]) (by as_aux_lemma => kernel_rfl) (by simp) ?_
  refine AllReadyH.cons rfl (fun K hK => ?_) AllReadyH.nil
  go_simp
  refine ((unhide H11) _ t1).mono ?_
  rintro e c2 ⟨U, rfl, fU, hb2⟩
  refine hK _ _ (t1.trans (hb2.mono t1.size)) ?_
  clear hK hHeld
  have t2 : Below Y.heap.size Y c2 := t1.trans (hb2.mono t1.size)
  intro hHeld
  refine wpAnyH_ready (rs := [7]) (by as_aux_lemma => kernel_rfl) (by simp) ?_
  refine AllReadyH.cons rfl (fun K hK => ?_) AllReadyH.nil
  go_simp
  refine ((unhide H12) _ t2).mono ?_
  rintro e c3 ⟨V, rfl, fV, hb3⟩
  refine hK _ _ (t2.trans (hb3.mono t2.size)) ?_
  clear hK hHeld
  have t3 : Below Y.heap.size Y c3 := t2.trans (hb3.mono t2.size)
  intro hHeld
  refine wpAnyH_ready (rs := [8]) (by as_aux_lemma => kernel_rfl) (by simp) ?_
  refine AllReadyH.cons rfl (fun K hK => ?_) AllReadyH.nil
  go_simp
  refine (fsame_yes (fU.below hb3).sees fV.sees).mono ?_
  rintro e c4 ⟨rfl, hb4⟩
  refine hK _ _ (t3.trans (hb4.mono t3.size)) ?_
  clear hK hHeld
  have t4 : Below Y.heap.size Y c4 := t3.trans (hb4.mono t3.size)
  intro hHeld
  refine wpAnyH_take (i := 9) (v := (.bool true)) rfl (by as_aux_lemma => kernel_rfl) (by as_aux_lemma => kernel_rfl) (by as_aux_lemma => kernel_rfl) (fun _ _ _ h => h) (Or.inl ⟨by rfl, ?hy6x9⟩) (by assumption) ?rest6x9
  case hy6x9 => intro w hSw; skip; go_simp <;> with_reducible rfl
  simp only [Act.put, List.getElem_toArray, List.getElem_cons_zero, List.getElem_cons_succ, List.setIfInBounds_toArray, List.set_cons_zero, List.set_cons_succ]
  refine wpAnyH_take (i := 10) (v := ?v7x10) rfl (by as_aux_lemma => kernel_rfl) (by as_aux_lemma => kernel_rfl) (by as_aux_lemma => kernel_rfl) (fun _ _ _ h => h) (Or.inl ⟨by rfl, ?hy7x10⟩) (by assumption) ?rest7x10
  case hy7x10 => intro w hSw; go_simp <;> with_reducible rfl
  simp only [Act.put, List.getElem_toArray, List.getElem_cons_zero, List.getElem_cons_succ, List.setIfInBounds_toArray, List.set_cons_zero, List.set_cons_succ]
  refine wpAnyH_take (i := 11) (v := (.agg #[.int .i64 s0, .int .i64 r0, .slice ac0 nc0 cc0, .slice aa0 na0 ca0, .slice ar0 nr0 cr0, .slice aw0 nw0 cw0])) rfl (by as_aux_lemma => kernel_rfl) (by as_aux_lemma => kernel_rfl) (by as_aux_lemma => kernel_rfl) (fun _ _ _ h => h) (Or.inl ⟨by rfl, ?hy8x11⟩) (by assumption) ?rest8x11
  case hy8x11 => intro w hSw; have ht := (unhide HB) _ hSw; have q0 := cell_at (o := 0) ht; have q1 := cell_at (o := 1) ht; have q2 := cell_at (o := 2) ht; have q3 := cell_at (o := 3) ht; have q4 := cell_at (o := 4) ht; have q5 := cell_at (o := 5) ht; go_simp <;> with_reducible rfl
  simp only [Act.put, List.getElem_toArray, List.getElem_cons_zero, List.getElem_cons_succ, List.setIfInBounds_toArray, List.set_cons_zero, List.set_cons_succ]
  refine wpAnyH_take (i := 13) (v := (.agg #[.int .i64 s0, .int .i64 r0, .slice ac0 nc0 cc0, .slice aa0 na0 ca0, .slice ar0 nr0 cr0, .slice aw0 nw0 cw0])) rfl (by as_aux_lemma => kernel_rfl) (by as_aux_lemma => kernel_rfl) (by as_aux_lemma => kernel_rfl) (fun _ _ _ h => h) (Or.inl ⟨by rfl, ?hy9x13⟩) (by assumption) ?rest9x13
  case hy9x13 => intro w hSw; have ht := (unhide HB) _ hSw; have q0 := cell_at (o := 0) ht; have q1 := cell_at (o := 1) ht; have q2 := cell_at (o := 2) ht; have q3 := cell_at (o := 3) ht; have q4 := cell_at (o := 4) ht; have q5 := cell_at (o := 5) ht; go_simp <;> with_reducible rfl
  simp only [Act.put, List.getElem_toArray, List.getElem_cons_zero, List.getElem_cons_succ, List.setIfInBounds_toArray, List.set_cons_zero, List.set_cons_succ]
  refine wpAnyH_ready (rs := [12]) (by as_aux_lemma => kernel_rfl) (by simp) ?_
  refine AllReadyH.cons rfl (fun K hK => ?_) AllReadyH.nil
  go_simp
  refine ((unhide H14) _ t4).mono ?_
  rintro e c5 ⟨a1, k1, rfl, s1, hb5⟩
  refine hK _ _ (t4.trans (hb5.mono t4.size)) ?_
  clear hK hHeld
  have t5 : Below Y.heap.size Y c5 := t4.trans (hb5.mono t4.size)
  intro hHeld
  refine wpAnyH_ready (rs := [14]) (by as_aux_lemma => kernel_rfl) (by simp) ?_
  refine AllReadyH.cons rfl (fun K hK => ?_) AllReadyH.nil
  go_simp
  refine ((unhide H15) _ t5).mono ?_
  rintro e c6 ⟨a2, k2, rfl, s2, hb6⟩
  refine hK _ _ (t5.trans (hb6.mono t5.size)) ?_
  clear hK hHeld
  have t6 : Below Y.heap.size Y c6 := t5.trans (hb6.mono t5.size)
  intro hHeld
  refine wpAnyH_ready (rs := [15]) (by as_aux_lemma => kernel_rfl) (by simp) ?_
  refine AllReadyH.cons rfl (fun K hK => ?_) AllReadyH.nil
  go_simp
  refine (locks_same (s1.below lC_len hb6) s2).mono ?_
  rintro e c7 ⟨rfl, hb7⟩
  refine hK _ _ (t6.trans (hb7.mono t6.size)) ?_
  clear hK hHeld
  have t7 : Below Y.heap.size Y c7 := t6.trans (hb7.mono t6.size)
  intro hHeld
  refine wpAnyH_take (i := 16) (v := (.bool true)) rfl (by as_aux_lemma => kernel_rfl) (by as_aux_lemma => kernel_rfl) (by as_aux_lemma => kernel_rfl) (fun _ _ _ h => h) (Or.inl ⟨by rfl, ?hy10x16⟩) (by assumption) ?rest10x16
  case hy10x16 => intro w hSw; skip; go_simp <;> with_reducible rfl
  simp only [Act.put, List.getElem_toArray, List.getElem_cons_zero, List.getElem_cons_succ, List.setIfInBounds_toArray, List.set_cons_zero, List.set_cons_succ]
  refine wpAnyH_take (i := 17) (v := ?v11x17) rfl (by as_aux_lemma => kernel_rfl) (by as_aux_lemma => kernel_rfl) (by as_aux_lemma => kernel_rfl) (fun _ _ _ h => h) (Or.inl ⟨by rfl, ?hy11x17⟩) (by assumption) ?rest11x17
  case hy11x17 => intro w hSw; go_simp <;> with_reducible rfl
  simp only [Act.put, List.getElem_toArray, List.getElem_cons_zero, List.getElem_cons_succ, List.setIfInBounds_toArray, List.set_cons_zero, List.set_cons_succ]
  refine wpAnyH_take (i := 18) (v := (.agg #[.int .i64 s0, .int .i64 r0, .slice ac0 nc0 cc0, .slice aa0 na0 ca0, .slice ar0 nr0 cr0, .slice aw0 nw0 cw0])) rfl (by as_aux_lemma => kernel_rfl) (by as_aux_lemma => kernel_rfl) (by as_aux_lemma => kernel_rfl) (fun _ _ _ h => h) (Or.inl ⟨by rfl, ?hy12x18⟩) (by assumption) ?rest12x18
  case hy12x18 => intro w hSw; have ht := (unhide HB) _ hSw; have q0 := cell_at (o := 0) ht; have q1 := cell_at (o := 1) ht; have q2 := cell_at (o := 2) ht; have q3 := cell_at (o := 3) ht; have q4 := cell_at (o := 4) ht; have q5 := cell_at (o := 5) ht; go_simp <;> with_reducible rfl
  simp only [Act.put, List.getElem_toArray, List.getElem_cons_zero, List.getElem_cons_succ, List.setIfInBounds_toArray, List.set_cons_zero, List.set_cons_succ]
  refine wpAnyH_take (i := 19) (v := ?v13x19) rfl (by as_aux_lemma => kernel_rfl) (by as_aux_lemma => kernel_rfl) (by as_aux_lemma => kernel_rfl) (fun _ _ _ h => h) (Or.inl ⟨by rfl, ?hy13x19⟩) (by assumption) ?rest13x19
  case hy13x19 => intro w hSw; go_simp <;> with_reducible rfl
  simp only [Act.put, List.getElem_toArray, List.getElem_cons_zero, List.getElem_cons_succ, List.setIfInBounds_toArray, List.set_cons_zero, List.set_cons_succ]
  refine wpAnyH_take (i := 20) (v := ?v14x20) rfl (by as_aux_lemma => kernel_rfl) (by as_aux_lemma => kernel_rfl) (by as_aux_lemma => kernel_rfl) (fun _ _ _ h => h) (Or.inl ⟨by rfl, ?hy14x20⟩) (by assumption) ?rest14x20
  case hy14x20 => intro w hSw; go_simp <;> with_reducible rfl
  simp only [Act.put, List.getElem_toArray, List.getElem_cons_zero, List.getElem_cons_succ, List.setIfInBounds_toArray, List.set_cons_zero, List.set_cons_succ]
  refine wpAnyH_take (i := 22) (v := (.agg #[.int .i64 s0, .int .i64 r0, .slice ac0 nc0 cc0, .slice aa0 na0 ca0, .slice ar0 nr0 cr0, .slice aw0 nw0 cw0])) rfl (by as_aux_lemma => kernel_rfl) (by as_aux_lemma => kernel_rfl) (by as_aux_lemma => kernel_rfl) (fun _ _ _ h => h) (Or.inl ⟨by rfl, ?hy15x22⟩) (by assumption) ?rest15x22
  case hy15x22 => intro w hSw; have ht := (unhide HB) _ hSw; have q0 := cell_at (o := 0) ht; have q1 := cell_at (o := 1) ht; have q2 := cell_at (o := 2) ht; have q3 := cell_at (o := 3) ht; have q4 := cell_at (o := 4) ht; have q5 := cell_at (o := 5) ht; go_simp <;> with_reducible rfl
  simp only [Act.put, List.getElem_toArray, List.getElem_cons_zero, List.getElem_cons_succ, List.setIfInBounds_toArray, List.set_cons_zero, List.set_cons_succ]
  refine wpAnyH_take (i := 23) (v := ?v16x23) rfl (by as_aux_lemma => kernel_rfl) (by as_aux_lemma => kernel_rfl) (by as_aux_lemma => kernel_rfl) (fun _ _ _ h => h) (Or.inl ⟨by rfl, ?hy16x23⟩) (by assumption) ?rest16x23
  case hy16x23 => intro w hSw; go_simp <;> with_reducible rfl
  simp only [Act.put, List.getElem_toArray, List.getElem_cons_zero, List.getElem_cons_succ, List.setIfInBounds_toArray, List.set_cons_zero, List.set_cons_succ]
  refine wpAnyH_take (i := 24) (v := ?v17x24) rfl (by as_aux_lemma => kernel_rfl) (by as_aux_lemma => kernel_rfl) (by as_aux_lemma => kernel_rfl) (fun _ _ _ h => h) (Or.inl ⟨by rfl, ?hy17x24⟩) (by assumption) ?rest17x24
  case hy17x24 => intro w hSw; go_simp <;> with_reducible rfl
  simp only [Act.put, List.getElem_toArray, List.getElem_cons_zero, List.getElem_cons_succ, List.setIfInBounds_toArray, List.set_cons_zero, List.set_cons_succ]
  refine wpAnyH_ready (rs := [21]) (by as_aux_lemma => kernel_rfl) (by simp) ?_
  refine AllReadyH.cons rfl (fun K hK => ?_) AllReadyH.nil
  go_simp
  refine ((unhide H16) _ t7).mono ?_
  rintro e c8 ⟨a3, k3, rfl, s3, hb8⟩
  refine hK _ _ (t7.trans (hb8.mono t7.size)) ?_
  clear hK hHeld
  have t8 : Below Y.heap.size Y c8 := t7.trans (hb8.mono t7.size)
  intro hHeld
  refine wpAnyH_ready (rs := [25]) (by as_aux_lemma => kernel_rfl) (by simp) ?_
  refine AllReadyH.cons rfl (fun K hK => ?_) AllReadyH.nil
  go_simp
  refine ((unhide H17) _ t8).mono ?_
  rintro e c9 ⟨a4, k4, rfl, s4, hb9⟩
  refine hK _ _ (t8.trans (hb9.mono t8.size)) ?_
  clear hK hHeld
  have t9 : Below Y.heap.size Y c9 := t8.trans (hb9.mono t8.size)
  intro hHeld
  refine wpAnyH_ready (rs := [26]) (by as_aux_lemma => kernel_rfl) (by simp) ?_
  refine AllReadyH.cons rfl (fun K hK => ?_) AllReadyH.nil
  go_simp
  refine (locks_same (s3.below lC_len hb9) s4).mono ?_
  rintro e c10 ⟨rfl, hb10⟩
  refine hK _ _ (t9.trans (hb10.mono t9.size)) ?_
  clear hK hHeld
  have t10 : Below Y.heap.size Y c10 := t9.trans (hb10.mono t9.size)
  intro hHeld
  refine wpAnyH_take (i := 27) (v := (.bool true)) rfl (by as_aux_lemma => kernel_rfl) (by as_aux_lemma => kernel_rfl) (by as_aux_lemma => kernel_rfl) (fun _ _ _ h => h) (Or.inl ⟨by rfl, ?hy18x27⟩) (by assumption) ?rest18x27
  case hy18x27 => intro w hSw; skip; go_simp <;> with_reducible rfl
  simp only [Act.put, List.getElem_toArray, List.getElem_cons_zero, List.getElem_cons_succ, List.setIfInBounds_toArray, List.set_cons_zero, List.set_cons_succ]
  refine wpAnyH_take (i := 28) (v := ?v19x28) rfl (by as_aux_lemma => kernel_rfl) (by as_aux_lemma => kernel_rfl) (by as_aux_lemma => kernel_rfl) (fun _ _ _ h => h) (Or.inl ⟨by rfl, ?hy19x28⟩) (by assumption) ?rest19x28
  case hy19x28 => intro w hSw; go_simp <;> with_reducible rfl
  simp only [Act.put, List.getElem_toArray, List.getElem_cons_zero, List.getElem_cons_succ, List.setIfInBounds_toArray, List.set_cons_zero, List.set_cons_succ]
  refine wpAnyH_done (by as_aux_lemma => kernel_rfl) ?_ _
  go_wp2
  go_ret
  exact ⟨rfl, (unhide HBY).trans (t10.mono (unhide HBY).size)⟩
end Go.Proofs.Ytibjhjkeflbghaa
