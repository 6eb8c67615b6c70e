/- From of a made store: what the keys from one on have, rising. -/
import Derived.Test.YtdcmkapfcmibeaaDoorMI
namespace Go.Proofs.YtdcmkapfcmibeaaDoor
open Go.RowKit Go.Shelf
attribute [local go_sem] Oper.semAt_some
set_option maxRecDepth 100000

theorem valsC_any (w : World) (ao : Option Addr) (n cap : Nat) : Calls Tryd.prog 65 #[.slice ao n cap] w fun e w' => e = .returned (.func (.func 79) #[] #[PN w.heap.size]) ∧ w' = w.alloc (.cells #[.slice ao n cap] 63) := by
  go_enter Tryd.func65, Tryd.ntmps65
  go_wp2
  go_ret
  exact ⟨rfl, rfl⟩
/-- What From hands back: an iterator over a list of cells of its own. -/
def VcAt (base : Nat) (w : World) (v : Value) (l : List Pr) : Prop := ∃ bx u n, v = .func (.func 79) #[] #[PN bx] ∧ base ≤ bx ∧ w.cell? ⟨bx, 0, none⟩ = some u ∧ w.ownsRow base 32 4 u n (l.flatMap pC)
theorem VcAt.below {base : Nat} {w w' : World} {v : Value} {l : List Pr} (h : VcAt base w v l) (hb : Below w.heap.size w w') : VcAt base w' v l := by
  obtain ⟨bx, u, n, rfl, hx, hc, hs⟩ := h
  exact ⟨bx, u, n, rfl, hx, (hb.cell (p := ⟨bx, 0, none⟩) (World.block_lt_of_cell? w _ hc)).trans hc, own_below hs hb⟩
theorem vc_seq_own (n bx base m : Nat) (l : List Pr) (w : World) (v : Value) (hbx : base ≤ bx) (hc : w.cell? ⟨bx, 0, none⟩ = some v) (ho : w.ownsRow base 32 4 v m (l.flatMap pC)) (hl : l.length ≤ 140737488351232) :
    ∃ gb, base ≤ gb ∧ gb < w.heap.size ∧ SeqOk Fence.wide n Tryd.prog 79 #[PN bx] encvc (fun pre x => ∃ r, pre ++ x :: r = l) (Keepb (fun k => k = gb)) (fun xs => xs = l) w := by
  have hs := (own_sees (l := l) pC_len (by decide) ho).2
  obtain ⟨ao, cap, gb, ob, rfl, hcap, _, hao, hcells⟩ := hs.pair
  by_cases h0 : 0 < l.length
  · have hg : gb < w.heap.size := World.block_lt_of_cell? w _ (hcells 0 h0).1
    have hge : base ≤ gb := by
      have e0 := hao h0
      subst e0
      rcases ho.2 with ⟨e, _⟩ | ⟨g, cap', cur, e, hgb, _⟩
      · cases e
      · simp only [Value.slice.injEq, Option.some.injEq, Addr.mk.injEq] at e
        omega
    refine ⟨gb, hge, hg, fun lp J Jx W hW hJ hY hj0 => ?_⟩
    have up : ∀ {p : Addr} {u : Value}, w.cell? p = some u → W.cell? p = some u := fun {p u} h => (hW.cell (p := p) (World.block_lt_of_cell? w _ h)).trans h
    exact vc1_in n lp bx gb ob ao cap l hl hcap hao (fun k => k = gb) rfl J Jx (fun s A o h => hJ.alloc o h) hY W (up hc) (fun t ht => ⟨up (hcells t ht).1, up (hcells t ht).2.1, up (hcells t ht).2.2.1, up (hcells t ht).2.2.2⟩) (fun k hk => by have := hW.size; omega) hj0
  · have hb := World.block_lt_of_cell? w _ hc
    refine ⟨bx, hbx, hb, fun lp J Jx W hW hJ hY hj0 => ?_⟩
    exact vc1_in n lp bx bx ob ao cap l hl hcap (fun h => absurd h h0) (fun k => k = bx) rfl J Jx (fun s A o h => hJ.alloc o h) hY W ((hW.cell (p := ⟨bx, 0, none⟩) hb).trans hc) (fun t ht => by omega) (fun k hk => by have := hW.size; have : bx < w.heap.size := hb; omega) hj0
def FrI (lb B : Nat) (W2 : World) (pre : List Nd) (W : World) : Prop := OwnBox lb B (pre.map cl) W ∧ Upd (fun k => k = lb) B W2 W

set_option maxHeartbeats 2000000 in
theorem from_any {w : World} {b0 sb hd : Nat} {L : List Nd} {luck : Int} (h : Sk w b0 sb hd L luck) (k : Int × Int) :
    Calls Tryd.prog 33 #[PN sb, .agg #[.int .i32 k.1, .int .i64 k.2]] w fun e w' => ∃ v, e = .returned v ∧ VcAt w.heap.size w' v ((hi k L).map cl) ∧ Below w.heap.size w w' := by
  obtain ⟨T, hT⟩ : ∃ T, lo k L = T := ⟨_, rfl⟩
  obtain ⟨R, hR⟩ : ∃ R, hi k L = R := ⟨_, rfl⟩
  have hAB : L = T ++ R := by rw [← hT, ← hR]; exact h.rise.split _
  rw [hR]
  obtain ⟨n0, hn0⟩ : ∃ x, w.heap.size = x := ⟨_, rfl⟩
  obtain ⟨fb, hfb⟩ : ∃ x, n0 = x := ⟨_, rfl⟩
  obtain ⟨lb, hlb⟩ : ∃ x, fb + 1 = x := ⟨_, rfl⟩
  obtain ⟨W1, hW1⟩ : ∃ W, (w.alloc (.cells #[.int .i32 k.1, .int .i64 k.2] 30)).alloc (.cells #[.slice none 0 0] 63) = W := ⟨_, rfl⟩
  have hs1 : W1.heap.size = lb + 1 := by rw [← hW1]; simp; omega
  have hB1 : Below n0 w W1 := by rw [← hW1, ← hn0]; exact ((Below.refl _ _).alloc (Nat.le_refl _) _).alloc (by simp) _
  have kf : W1.heap[fb]? = some (.cells #[.int .i32 k.1, .int .i64 k.2] 30) := by
    rw [← hW1, Below.heap_alloc _ _ _ (by simp; omega), ← hfb, ← hn0]; exact heap_new1 _ _
  have kl : W1.heap[lb]? = some (.cells #[.slice none 0 0] 63) := by rw [← hW1, ← hlb, ← hfb, ← hn0]; exact heap_new2 _ _ _
  have h1 : Sk W1 b0 sb hd L luck := h.below (by rw [hn0]; exact hB1)
  have g0 : W1.cell? ⟨fb, 0, none⟩ = some (.int .i32 k.1) := cell_at kf
  have g1 : W1.cell? ⟨fb, 1, none⟩ = some (.int .i64 k.2) := cell_at kf
  have HF := hide (from_yes h1 k hT)
  have H1 := hide (And.intro h1 (And.intro hB1 (And.intro kl hs1)))
  have HAB := hide hAB
  rw [hn0]
  have HR := hide hR
  have H0 := hide h
  clear h h1 hB1 kf kl hs1 hAB hT hR
  refine (callsIn_wide (n := 3)).1 ?_
  refine callsIn_of_wp_marks Tryd.func33 rfl trivial ?_ rfl
  simp only [Tryd.ntmps33, List.size_toArray, List.length_cons, List.length_nil, Nat.reduceAdd, Nat.reduceSub, Array.replicate_succ, Array.replicate_zero, List.push_toArray, List.append_toArray, List.nil_append, List.cons_append]
  gi_wp2_with fail
  try rw [hW1]
  refine ⟨trivial, ((callsIn_wide).2 (unhide HF)).mono ?_⟩
  rintro e W2 ⟨bx, rfl, hit, hb2, hbx⟩
  clear hW1 g0 g1
  obtain ⟨h1, hB1, kl, hs1⟩ := unhide H1
  have h2 : Sk W2 b0 sb hd L luck := h1.below hb2
  have kl2 : W2.heap[lb]? = some (.cells #[.slice none 0 0] 63) := (hb2.block lb (by omega)).trans kl
  have hW2 : Below n0 w W2 := hB1.trans (hb2.mono (by omega))
  obtain ⟨B, hB⟩ : ∃ B, W2.heap.size = B := ⟨_, rfl⟩
  have hlB : lb < B := by rw [← hB]; exact (Array.getElem?_eq_some_iff.1 kl2).1
  have hbxB : bx + 1 < B := by rw [← hB]; exact World.block_lt_of_cell? W2 _ hit.2
  obtain ⟨N, hm, hlk⟩ := h2.mem
  have hAB := unhide HAB
  have hlk0 := hlk 0 (by decide)
  have hAp := h2.apart
  rw [hAB] at hlk0 hAp
  have hqon : On hd L (lstP hd 0 T) := by rw [hAB]; exact lstP_on _ _
  have hRL : ∀ m ∈ R, m ∈ L := fun m hm => by rw [hAB]; exact List.mem_append_right _ hm
  have honR : onL 0 R = R := List.filter_eq_self.2 fun m hm => by have := (h2.ok m (hRL m hm)).h; simp; omega
  have hblt : ∀ k, Bl sb hd L k → k < n0 := fun k hk => by rw [← hn0]; exact (unhide H0).lt hk
  have hRlen : R.length ≤ 1048576 := by have := h2.most; rw [hAB, List.length_append] at this; omega
  have i0 : FrI lb B W2 [] W2 := ⟨⟨_, kl2, own_nil _ _ _ _⟩, Upd.refl _ _ _⟩
  gi_wp2
  refine wpIn_range_ok rfl (by decide) (gf := 84) (lb := #[PN bx, PN (bx + 1)]) rfl trivial (enters_of Tryd.func84 (by kernel_rfl) rfl)
    (behind_seq (3 - 1) bx 0 (lstP hd 0 T) (by decide) R N (fun k => k < B ∧ k ≠ lb) W2 (List.nodup_cons.1 (hAp.rest (lev := 0))).2 hlk0.rest hit.1 hit.2 (hm.next hqon (by decide)) (fun m hm' => hm.next (.inr ⟨m, hRL m hm', rfl⟩) (by decide)) ⟨by omega, by omega⟩ (fun m hm' => by have := hblt m.p (.inr (.inr ⟨m, hRL m hm', rfl⟩)); exact ⟨by omega, by omega⟩))
    keepb_t (fun W o o' => keepb_put (fun c => by have := c.1; omega) W o o') (Below.refl _ _) (fun _ => rfl)
    (FrI lb B W2) (fun _ _ _ => False)
    (by rw [hB]; exact OwnFrom.and (own_from B lb B _ hlB) (ownFrom_upd (by omega)))
    (fun cd => ownFrom_pure _ _) i0
    (fun x => { tmps := #[PN sb, .agg #[.int .i32 k.1, .int .i64 k.2], undef, PN fb, .nilFunc, PN lb, PN x.p, PN sb, .agg #[.int .i32 k.1, .int .i64 k.2], It bx, PN x.p, undef, undef, undef, undef, undef, undef, undef, undef, undef], defers := [] }) ?assign ?body ?done ?stop
  case assign =>
    intro l x W K hK
    clear honR hlk0 hAp hm hlk h2 h1 i0 kl2 hit
    gi_wp2
    exact hK
  case body =>
    rw [honR]
    intro l pre x W hI hOk
    obtain ⟨hown, hU⟩ := hI
    have hxR : x ∈ R := by obtain ⟨r, e⟩ := hOk; rw [← e]; simp
    have hpl : pre.length < 1048576 := by obtain ⟨r, e⟩ := hOk; have := congrArg List.length e; rw [List.length_append, List.length_cons] at this; omega
    have hxb : x.p < n0 := hblt x.p (.inr (.inr ⟨x, hRL x hxR, rfl⟩))
    have hxn : W.heap[x.p]? = some (.cells (nodeC x (N x.p)) 85) := (hU.block x.p (by omega) (by omega)).trans (hm.node x (hRL x hxR))
    have hsW : B ≤ W.heap.size := by have := hU.size; omega
    have hown1 : OwnBox lb B (pre.map cl) W.drew := by obtain ⟨v, hv, ho⟩ := hown; exact ⟨v, hv, own_below ho (Below.refl _ _).drew⟩
    obtain ⟨v, v', W9, hv, ⟨a1, b1, c1, rfl⟩, ⟨a2, b2, c2, rfl⟩, hrun, how, hlb9, hU9⟩ := own_app hown1 (by show B ≤ W.heap.size; omega) hlB (cl x) (by simpa using hpl)
    have m0 : W.cell? ⟨x.p, 0, none⟩ = some (.int .i32 x.k.1) := cell_at hxn
    have m1 : W.cell? ⟨x.p, 1, none⟩ = some (.int .i64 x.k.2) := cell_at hxn
    have m2 : W.cell? ⟨x.p, 2, none⟩ = some (.int .i64 x.v) := cell_at hxn
    have m3 : W.cell? ⟨x.p, 3, none⟩ = some (.int .i64 x.s) := cell_at hxn
    have l0 : W.cell? ⟨lb, 0, none⟩ = some (.slice a1 b1 c1) := cell_at (w := W) hv
    have l0' : ∀ o : Obj, (W.alloc o).cell? ⟨lb, 0, none⟩ = some (.slice a1 b1 c1) := fun _ => cell_old l0
    have HRUN := hide hrun
    have l9 : W9.cell? ⟨lb, 0, none⟩ = some (.slice a1 b1 c1) := cell_at hlb9
    have f9 : W9.frozen? ⟨lb, 0, none⟩ = false := frozen_of_heap hlb9
    have HFIN : Hid (KeepsFrom W2.heap.size W (W9.setCell ⟨lb, 0, none⟩ (.slice a2 b2 c2)) ∧ Keepb (fun k => k < B ∧ k ≠ lb) W (W9.setCell ⟨lb, 0, none⟩ (.slice a2 b2 c2)) ∧ FrI lb B W2 (pre ++ [x]) (W9.setCell ⟨lb, 0, none⟩ (.slice a2 b2 c2))) := by
      obtain ⟨s1, s2⟩ := rg_step (Below.refl W.heap.size W) hU9 hlB hsW (.slice a2 b2 c2)
      rw [hB]
      refine ⟨s1, ⟨s2.size, fun k hk => s2.block k hk.1 hk.2⟩, ⟨.slice a2 b2 c2, box_set _ hlb9, ?_⟩, hU.trans s2⟩
      have := ownsRow_setCell_below how (a := ⟨lb, 0, none⟩) hlB (.slice a2 b2 c2)
      rw [List.map_append, List.length_append]
      exact this
    clear hown hU hOk hxn hown1 how hlb9 hU9 hv hrun honR hlk0 hAp hm hlk h2 h1 i0 kl2 hit hblt hRL hb2 hW2 hxR
    gi_wp2
    refine wpIn_region_any (by kernel_rfl) ?_
    try (change wpAnyIn _ _ _ _ _ _ _ _ _ (World.drew _))
    refine wpAnyIn_ready (rs := [0, 1]) (by kernel_rfl) (by simp) ?_
    refine AllReadyIn.cons rfl (fun K hK => ?_) (AllReadyIn.cons rfl (fun K hK => ?_) AllReadyIn.nil)
    · go_simp
      refine hK _ _ ?_
      clear hK
      refine wpAnyIn_ready (rs := [1]) (by kernel_rfl) (by simp) ?_
      refine AllReadyIn.cons rfl (fun K hK => ?_) AllReadyIn.nil
      go_simp
      refine hK _ _ ?_
      clear hK
      refine wpAnyIn_ready (rs := [2]) (by kernel_rfl) (by simp) ?_
      refine AllReadyIn.cons rfl (fun K hK => ?_) AllReadyIn.nil
      go_simp
      refine hK _ _ ?_
      clear hK
      refine wpAnyIn_ready (rs := [3]) (by kernel_rfl) (by simp) ?_
      refine AllReadyIn.cons rfl (fun K hK => ?_) AllReadyIn.nil
      go_simp
      refine hK _ _ ?_
      clear hK
      refine wpAnyIn_ready (rs := [4]) (by kernel_rfl) (by simp) ?_
      refine AllReadyIn.cons rfl (fun K hK => ?_) AllReadyIn.nil
      go_simp
      refine hK _ _ ?_
      clear hK
      refine wpAnyIn_ready (rs := [5]) (by kernel_rfl) (by simp) ?_
      refine AllReadyIn.cons rfl (fun K hK => ?_) AllReadyIn.nil
      go_simp
      refine hK _ _ ?_
      clear hK
      refine wpAnyIn_ready (rs := [6]) (by kernel_rfl) (by simp) ?_
      refine AllReadyIn.cons rfl (fun K hK => ?_) AllReadyIn.nil
      rw [if_pos (by rfl)]
      refine appendIn_upon rfl rfl rfl (unhide HRUN) ?_
      refine hK _ _ ?_
      clear hK
      refine wpAnyIn_ready (rs := [7]) (by kernel_rfl) (by simp) ?_
      refine AllReadyIn.cons rfl (fun K hK => ?_) AllReadyIn.nil
      go_simp
      refine hK _ _ ?_
      clear hK
      refine wpAnyIn_done (by kernel_rfl) ?_ _
      gi_wp2
      exact unhide HFIN
    · go_simp
      refine hK _ _ ?_
      clear hK
      refine wpAnyIn_ready (rs := [0, 2]) (by kernel_rfl) (by simp) ?_
      refine AllReadyIn.cons rfl (fun K hK => ?_) (AllReadyIn.cons rfl (fun K hK => ?_) AllReadyIn.nil)
      · go_simp
        refine hK _ _ ?_
        clear hK
        refine wpAnyIn_ready (rs := [2]) (by kernel_rfl) (by simp) ?_
        refine AllReadyIn.cons rfl (fun K hK => ?_) AllReadyIn.nil
        go_simp
        refine hK _ _ ?_
        clear hK
        refine wpAnyIn_ready (rs := [3]) (by kernel_rfl) (by simp) ?_
        refine AllReadyIn.cons rfl (fun K hK => ?_) AllReadyIn.nil
        go_simp
        refine hK _ _ ?_
        clear hK
        refine wpAnyIn_ready (rs := [4]) (by kernel_rfl) (by simp) ?_
        refine AllReadyIn.cons rfl (fun K hK => ?_) AllReadyIn.nil
        go_simp
        refine hK _ _ ?_
        clear hK
        refine wpAnyIn_ready (rs := [5]) (by kernel_rfl) (by simp) ?_
        refine AllReadyIn.cons rfl (fun K hK => ?_) AllReadyIn.nil
        go_simp
        refine hK _ _ ?_
        clear hK
        refine wpAnyIn_ready (rs := [6]) (by kernel_rfl) (by simp) ?_
        refine AllReadyIn.cons rfl (fun K hK => ?_) AllReadyIn.nil
        rw [if_pos (by rfl)]
        refine appendIn_upon rfl rfl rfl (unhide HRUN) ?_
        refine hK _ _ ?_
        clear hK
        refine wpAnyIn_ready (rs := [7]) (by kernel_rfl) (by simp) ?_
        refine AllReadyIn.cons rfl (fun K hK => ?_) AllReadyIn.nil
        go_simp
        refine hK _ _ ?_
        clear hK
        refine wpAnyIn_done (by kernel_rfl) ?_ _
        gi_wp2
        exact unhide HFIN
      · go_simp
        refine hK _ _ ?_
        clear hK
        refine wpAnyIn_ready (rs := [0, 3]) (by kernel_rfl) (by simp) ?_
        refine AllReadyIn.cons rfl (fun K hK => ?_) (AllReadyIn.cons rfl (fun K hK => ?_) AllReadyIn.nil)
        · go_simp
          refine hK _ _ ?_
          clear hK
          refine wpAnyIn_ready (rs := [3]) (by kernel_rfl) (by simp) ?_
          refine AllReadyIn.cons rfl (fun K hK => ?_) AllReadyIn.nil
          go_simp
          refine hK _ _ ?_
          clear hK
          refine wpAnyIn_ready (rs := [4]) (by kernel_rfl) (by simp) ?_
          refine AllReadyIn.cons rfl (fun K hK => ?_) AllReadyIn.nil
          go_simp
          refine hK _ _ ?_
          clear hK
          refine wpAnyIn_ready (rs := [5]) (by kernel_rfl) (by simp) ?_
          refine AllReadyIn.cons rfl (fun K hK => ?_) AllReadyIn.nil
          go_simp
          refine hK _ _ ?_
          clear hK
          refine wpAnyIn_ready (rs := [6]) (by kernel_rfl) (by simp) ?_
          refine AllReadyIn.cons rfl (fun K hK => ?_) AllReadyIn.nil
          rw [if_pos (by rfl)]
          refine appendIn_upon rfl rfl rfl (unhide HRUN) ?_
          refine hK _ _ ?_
          clear hK
          refine wpAnyIn_ready (rs := [7]) (by kernel_rfl) (by simp) ?_
          refine AllReadyIn.cons rfl (fun K hK => ?_) AllReadyIn.nil
          go_simp
          refine hK _ _ ?_
          clear hK
          refine wpAnyIn_done (by kernel_rfl) ?_ _
          gi_wp2
          exact unhide HFIN
        · go_simp
          refine hK _ _ ?_
          clear hK
          refine wpAnyIn_ready (rs := [0, 4]) (by kernel_rfl) (by simp) ?_
          refine AllReadyIn.cons rfl (fun K hK => ?_) (AllReadyIn.cons rfl (fun K hK => ?_) AllReadyIn.nil)
          · go_simp
            refine hK _ _ ?_
            clear hK
            refine wpAnyIn_ready (rs := [4]) (by kernel_rfl) (by simp) ?_
            refine AllReadyIn.cons rfl (fun K hK => ?_) AllReadyIn.nil
            go_simp
            refine hK _ _ ?_
            clear hK
            refine wpAnyIn_ready (rs := [5]) (by kernel_rfl) (by simp) ?_
            refine AllReadyIn.cons rfl (fun K hK => ?_) AllReadyIn.nil
            go_simp
            refine hK _ _ ?_
            clear hK
            refine wpAnyIn_ready (rs := [6]) (by kernel_rfl) (by simp) ?_
            refine AllReadyIn.cons rfl (fun K hK => ?_) AllReadyIn.nil
            rw [if_pos (by rfl)]
            refine appendIn_upon rfl rfl rfl (unhide HRUN) ?_
            refine hK _ _ ?_
            clear hK
            refine wpAnyIn_ready (rs := [7]) (by kernel_rfl) (by simp) ?_
            refine AllReadyIn.cons rfl (fun K hK => ?_) AllReadyIn.nil
            go_simp
            refine hK _ _ ?_
            clear hK
            refine wpAnyIn_done (by kernel_rfl) ?_ _
            gi_wp2
            exact unhide HFIN
          · go_simp
            refine hK _ _ ?_
            clear hK
            refine wpAnyIn_ready (rs := [0, 5]) (by kernel_rfl) (by simp) ?_
            refine AllReadyIn.cons rfl (fun K hK => ?_) (AllReadyIn.cons rfl (fun K hK => ?_) AllReadyIn.nil)
            · go_simp
              refine hK _ _ ?_
              clear hK
              refine wpAnyIn_ready (rs := [5]) (by kernel_rfl) (by simp) ?_
              refine AllReadyIn.cons rfl (fun K hK => ?_) AllReadyIn.nil
              go_simp
              refine hK _ _ ?_
              clear hK
              refine wpAnyIn_ready (rs := [6]) (by kernel_rfl) (by simp) ?_
              refine AllReadyIn.cons rfl (fun K hK => ?_) AllReadyIn.nil
              rw [if_pos (by rfl)]
              refine appendIn_upon rfl rfl rfl (unhide HRUN) ?_
              refine hK _ _ ?_
              clear hK
              refine wpAnyIn_ready (rs := [7]) (by kernel_rfl) (by simp) ?_
              refine AllReadyIn.cons rfl (fun K hK => ?_) AllReadyIn.nil
              go_simp
              refine hK _ _ ?_
              clear hK
              refine wpAnyIn_done (by kernel_rfl) ?_ _
              gi_wp2
              exact unhide HFIN
            · go_simp
              refine hK _ _ ?_
              clear hK
              refine wpAnyIn_ready (rs := [0]) (by kernel_rfl) (by simp) ?_
              refine AllReadyIn.cons rfl (fun K hK => ?_) AllReadyIn.nil
              go_simp
              refine hK _ _ ?_
              clear hK
              refine wpAnyIn_ready (rs := [6]) (by kernel_rfl) (by simp) ?_
              refine AllReadyIn.cons rfl (fun K hK => ?_) AllReadyIn.nil
              rw [if_pos (by rfl)]
              refine appendIn_upon rfl rfl rfl (unhide HRUN) ?_
              refine hK _ _ ?_
              clear hK
              refine wpAnyIn_ready (rs := [7]) (by kernel_rfl) (by simp) ?_
              refine AllReadyIn.cons rfl (fun K hK => ?_) AllReadyIn.nil
              go_simp
              refine hK _ _ ?_
              clear hK
              refine wpAnyIn_done (by kernel_rfl) ?_ _
              gi_wp2
              exact unhide HFIN
  case stop =>
    intro D cd pre W hD hX hK
    exact hX.elim
  case done =>
    intro D xs W hD hxs hI hK
    rw [honR] at hxs
    subst hxs
    obtain ⟨⟨v, hv, ho⟩, hU⟩ := hI
    rw [List.length_map] at ho
    have c0 : W.cell? ⟨lb, 0, none⟩ = some v := cell_at hv
    obtain ⟨ao, cap, rfl⟩ := own_shape ho
    have HM : Hid (Marks [{ target := .collected D, args := #[] }] W) := (Marks.nil W).cons hK (fun c => by cases c)
    have HO := hide ho
    have HU := hide hU
    have HW2 := hide hW2
    have hDB : B ≤ D := by rw [← hB]; exact hD
    obtain ⟨len, hlen⟩ : ∃ n, xs.length = n := ⟨_, rfl⟩
    rw [hlen] at c0
    have HV := hide (valsC_any W ao len cap)
    clear honR hlk0 hAp hm hlk h2 h1 i0 kl2 hit hv ho hU hK hblt hRL hW2 hb2
    have HLN := hide hlen
    rw [hlen] at HO
    clear hlen hRlen
    gi_wp2_with fail
    refine ⟨trivial, ((callsIn_wide).2 (unhide HV)).mono ?_⟩
    rintro e W5 ⟨rfl, rfl⟩
    have hb5 : Below W.heap.size W (W.alloc (.cells #[.slice ao len cap] 63)) := (Below.refl _ _).alloc (Nat.le_refl _) _
    have HM5 : Hid (Marks [{ target := .collected D, args := #[] }] (W.alloc (.cells #[.slice ao len cap] 63))) := (unhide HM).keep fun k hk => hb5.block k ((unhide HM).lt hk)
    have HO5 := hide (own_below (unhide HO) hb5)
    have hc5 : Hid ((W.alloc (.cells #[.slice ao len cap] 63)).heap[W.heap.size]? = some (.cells #[.slice ao len cap] 63)) := heap_new1 _ _
    have HB5 := hide hb5
    clear hb5
    gi_wp2
    refine leave_marks (w := W.alloc (.cells #[.slice ao len cap] 63)) (unhide HM5) fun w' hw => ?_
    have hsU := (unhide HU).size
    have ho' := own_mark (unhide HO5) (unhide HM5) hw
    have hbw : Below n0 w w' := (unhide HW2).trans ⟨hw.os.trans (unhide HU).os, hw.tape.trans (unhide HU).tape, hw.output.trans (unhide HU).output, Nat.le_trans (unhide HU).size (Nat.le_trans (unhide HB5).size hw.size), fun k hk => (hw.block k (by have := (unhide HB5).size; omega) fun c => by
      rcases List.mem_cons.1 c with e | e
      · simp only [Deferred.mk.injEq, Target.collected.injEq, and_true] at e; omega
      · cases e).trans (((unhide HB5).block k (by omega)).trans ((unhide HU).block k (by omega) (by omega)))⟩
    refine ⟨_, by simp [results, Tryd.results33, go_sem], _, rfl, ⟨W.heap.size, .slice ao len cap, len, rfl, by omega, ?_, own_mono ho' (by omega)⟩, hbw⟩
    · refine cell_at ((hw.block W.heap.size (by simp) fun c => ?_).trans (unhide hc5))
      have := (unhide HM5).at c
      rw [unhide hc5] at this
      cases this
end Go.Proofs.YtdcmkapfcmibeaaDoor
