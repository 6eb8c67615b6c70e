/- Level of a made store: the keys whose height is above a level, rising. -/
import Derived.Test.YtdcmkapfcmibeaaDoorMI
namespace Go.Proofs.YtdcmkapfcmibeaaDoor
open Go.RowKit Go.Shelf
attribute [local go_sem] Oper.semAt_some
set_option maxRecDepth 100000

def OwnBoxK (lb base : Nat) (l : List Ky) (W : World) : Prop := ∃ v, W.heap[lb]? = some (.cells #[v] 55) ∧ W.ownsRow base 30 2 v l.length (l.flatMap kC)
theorem own_fromK {β : Type} (N lb base : Nat) (f : β → List Ky) (hlb : lb < N) : OwnFrom N (fun (s : β) (W : World) => OwnBoxK lb base (f s) W) := fun s A B row ⟨v, hv, ho⟩ hg hr => by
  refine ⟨v, (hg.block lb (Array.getElem?_eq_some_iff.1 hv).1 (fun e => by have := (hr lb e.symm).1; omega)).trans hv, ho.1, ?_⟩
  rcases ho.2 with hn | ⟨g, cap, cur, e1, e2, hh, r⟩
  · exact .inl hn
  · refine .inr ⟨g, cap, cur, e1, e2, (hg.block g (Array.getElem?_eq_some_iff.1 hh).1 fun e => ?_).trans hh, r⟩
    obtain ⟨_, o, ho, hc⟩ := hr g e.symm
    rw [hh] at ho
    injection ho with ho
    subst ho
    simp [Obj.isCells] at hc
theorem own_appK {W : World} {lb base : Nat} {l : List Ky} (h : OwnBoxK lb base l W) (hbase : base ≤ W.heap.size) (hlb : lb < base) (c : Ky) (hl : l.length < 1048576) :
    ∃ v v' W', W.heap[lb]? = some (.cells #[v] 55) ∧ (∃ ao n cap, v = .slice ao n cap) ∧ (∃ ao n cap, v' = .slice ao n cap) ∧ (Builtin.append_ #[55, 55] 55 #[v, .slice (some ⟨W.heap.size, 0, none⟩) 1 1]).run Tryd.prog (W.alloc (.cells #[.int .i32 c.1, .int .i64 c.2] 30)) = .ok v' W' ∧ W'.ownsRow base 30 2 v' (l.length + 1) ((l ++ [c]).flatMap kC) ∧ W'.heap[lb]? = some (.cells #[v] 55) ∧ Upd (fun k => base ≤ k ∧ ∃ cs T m, W.heap[k]? = some (.cells cs T m)) W.heap.size W W' := by
  obtain ⟨v, hv, ho⟩ := h
  have hb : Below W.heap.size W (W.alloc (.cells #[.int .i32 c.1, .int .i64 c.2] 30)) := (Below.refl _ _).alloc (Nat.le_refl _) _
  obtain ⟨v', W', hr, ho', hg⟩ := append_keys (l2 := [c]) 55 (own_below ho hb) (sees_oneK W c) (by simp; omega) (by simp; omega)
  have hU : Upd (fun k => base ≤ k ∧ ∃ cs T m, W.heap[k]? = some (.cells cs T m)) W.heap.size W W' := by
    refine ⟨hg.os, hg.tape, hg.output, Nat.le_trans hb.size hg.size, fun k hk hn => ?_⟩
    refine (hg.block k (Nat.lt_of_lt_of_le hk hb.size) fun e => hn ?_).trans (hb.block k hk)
    rcases ho.2 with ⟨rfl, _⟩ | ⟨g, cap, cur, rfl, hgb, hh, _⟩
    · simp [Value.ownBlock] at e
    · simp only [Value.ownBlock, Option.some.injEq] at e
      subst e
      exact ⟨hgb, _, _, _, hh⟩
  exact ⟨v, v', W', hv, (by obtain ⟨ao, cap, e⟩ := own_shape ho; exact ⟨ao, _, cap, e⟩), (by obtain ⟨ao, cap, e⟩ := own_shape ho'; exact ⟨ao, _, cap, e⟩), hr, ho', (hU.block lb (Array.getElem?_eq_some_iff.1 hv).1 (by omega)).trans hv, hU⟩
theorem valsK_any (w : World) (ao : Option Addr) (n cap : Nat) : Calls Tryd.prog 60 #[.slice ao n cap] w fun e w' => e = .returned (.func (.func 78) #[] #[PN w.heap.size]) ∧ w' = w.alloc (.cells #[.slice ao n cap] 55) := by
  go_enter Tryd.func60, Tryd.ntmps60
  go_wp2
  go_ret
  exact ⟨rfl, rfl⟩
/-- What Level hands back: an iterator over a list of keys of its own. -/
def VkAt (w : World) (v : Value) (l : List Ky) : Prop := ∃ bx u, v = .func (.func 78) #[] #[PN bx] ∧ w.cell? ⟨bx, 0, none⟩ = some u ∧ SeesL kC 2 w u l
theorem VkAt.below {w w' : World} {v : Value} {l : List Ky} (h : VkAt w v l) (hb : Below w.heap.size w w') : VkAt w' v l := by
  obtain ⟨bx, u, rfl, hc, hs⟩ := h
  exact ⟨bx, u, rfl, (hb.cell (p := ⟨bx, 0, none⟩) (World.block_lt_of_cell? w _ hc)).trans hc, hs.below kC_len hb⟩
def LeI (lb B : Nat) (W2 : World) (pre : List Nd) (W : World) : Prop := OwnBoxK lb B (pre.map (·.k)) W ∧ Upd (fun k => k = lb) B W2 W

set_option maxHeartbeats 2000000 in
theorem level_any {w : World} {b0 sb hd : Nat} {L : List Nd} {luck : Int} (h : Sk w b0 sb hd L luck) (lev : Nat) (hl8 : lev < 8) :
    Calls Tryd.prog 24 #[PN sb, .int .i64 lev] w fun e w' => ∃ v, e = .returned v ∧ VkAt w' v ((onL lev L).map (·.k)) ∧ Below w.heap.size w w' := by
  obtain ⟨n0, hn0⟩ : ∃ x, w.heap.size = x := ⟨_, rfl⟩
  obtain ⟨lb, hlb⟩ : ∃ x, n0 = x := ⟨_, rfl⟩
  obtain ⟨W1, hW1⟩ : ∃ W, w.alloc (.cells #[.slice none 0 0] 55) = W := ⟨_, rfl⟩
  have hs1 : W1.heap.size = lb + 1 := by rw [← hW1, ← hlb, ← hn0]; simp
  have hB1 : Below n0 w W1 := by rw [← hW1, ← hn0]; exact (Below.refl _ _).alloc (Nat.le_refl _) _
  have kl : W1.heap[lb]? = some (.cells #[.slice none 0 0] 55) := by rw [← hW1, ← hlb, ← hn0]; exact heap_new1 _ _
  have h1 : Sk W1 b0 sb hd L luck := h.below (by rw [hn0]; exact hB1)
  have HF := hide (level_yes h1 lev hl8)
  have H1 := hide (And.intro h1 (And.intro hB1 (And.intro kl hs1)))
  rw [hn0]
  have H0 := hide h
  clear h h1 hB1 kl hs1
  refine (callsIn_wide (n := 3)).1 ?_
  refine callsIn_of_wp_marks Tryd.func24 rfl trivial ?_ rfl
  simp only [Tryd.ntmps24, List.size_toArray, List.length_cons, List.length_nil, Nat.reduceAdd, Nat.reduceSub, Array.replicate_succ, Array.replicate_zero, List.push_toArray, List.append_toArray, List.nil_append, List.cons_append]
  gi_wp2_with fail
  try rw [hW1]
  refine ⟨trivial, ((callsIn_wide).2 (unhide HF)).mono ?_⟩
  rintro e W2 ⟨bx, rfl, hit, hb2, hbx⟩
  clear hW1
  obtain ⟨h1, hB1, kl, hs1⟩ := unhide H1
  have h2 : Sk W2 b0 sb hd L luck := h1.below hb2
  have kl2 : W2.heap[lb]? = some (.cells #[.slice none 0 0] 55) := (hb2.block lb (by omega)).trans kl
  have hW2 : Below n0 w W2 := hB1.trans (hb2.mono (by omega))
  obtain ⟨B, hB⟩ : ∃ B, W2.heap.size = B := ⟨_, rfl⟩
  have hlB : lb < B := by rw [← hB]; exact (Array.getElem?_eq_some_iff.1 kl2).1
  have hbxB : bx + 1 < B := by rw [← hB]; exact World.block_lt_of_cell? W2 _ hit.2
  obtain ⟨N, hm, hlk⟩ := h2.mem
  have hlk0 := hlk lev hl8
  have hAp := h2.apart
  have hqon : On hd L hd := .inl rfl
  have hblt : ∀ k, Bl sb hd L k → k < n0 := fun k hk => by rw [← hn0]; exact (unhide H0).lt hk
  have hRlen : (onL lev L).length ≤ 1048576 := by have h1 := h2.most; have h3 := List.length_filter_le (fun n : Nd => decide (lev < n.h)) L; show (List.filter _ L).length ≤ _; omega
  have i0 : LeI lb B W2 [] W2 := ⟨⟨_, kl2, own_nil _ _ _ _⟩, Upd.refl _ _ _⟩
  gi_wp2
  refine wpIn_range_ok rfl (by decide) (gf := 84) (lb := #[PN bx, PN (bx + 1)]) rfl trivial (enters_of Tryd.func84 (by kernel_rfl) rfl)
    (behind_seq (3 - 1) bx lev hd hl8 L N (fun k => k < B ∧ k ≠ lb) W2 (List.nodup_cons.1 hAp).2 hlk0 hit.1 hit.2 (hm.next hqon hl8) (fun m hm' => hm.next (.inr ⟨m, hm', rfl⟩) hl8) ⟨by omega, by omega⟩ (fun m hm' => by have := hblt m.p (.inr (.inr ⟨m, hm', rfl⟩)); exact ⟨by omega, by omega⟩))
    keepb_t (fun W o o' => keepb_put (fun c => by have := c.1; omega) W o o') (Below.refl _ _) (fun _ => rfl)
    (LeI lb B W2) (fun _ _ _ => False)
    (by rw [hB]; exact OwnFrom.and (own_fromK B lb B _ hlB) (ownFrom_upd (by omega)))
    (fun cd => ownFrom_pure _ _) i0
    (fun x => { tmps := #[PN sb, .int .i64 lev, undef, undef, .nilFunc, PN lb, PN x.p, PN sb, .int .i64 lev, It bx, PN x.p, undef, undef, undef, undef, undef, undef, undef, undef, undef, undef], defers := [] }) ?assign ?body ?done ?stop
  case assign =>
    intro l x W K hK
    clear hlk0 hAp hm hlk h2 h1 i0 kl2 hit
    gi_wp2
    exact hK
  case body =>
    intro l pre x W hI hOk
    obtain ⟨hown, hU⟩ := hI
    have hxL : x ∈ L := by obtain ⟨r, e⟩ := hOk; exact (onL_high (by rw [← e]; simp)).1
    have hpl : pre.length < 1048576 := by obtain ⟨r, e⟩ := hOk; have := congrArg List.length e; rw [List.length_append, List.length_cons] at this; omega
    have hxb : x.p < n0 := hblt x.p (.inr (.inr ⟨x, hxL, rfl⟩))
    have hxn : W.heap[x.p]? = some (.cells (nodeC x (N x.p)) 85) := (hU.block x.p (by omega) (by omega)).trans (hm.node x hxL)
    have hsW : B ≤ W.heap.size := by have := hU.size; omega
    have hown1 : OwnBoxK lb B (pre.map (·.k)) W.drew := by obtain ⟨v, hv, ho⟩ := hown; exact ⟨v, hv, own_below ho (Below.refl _ _).drew⟩
    obtain ⟨v, v', W9, hv, ⟨a1, b1, c1, rfl⟩, ⟨a2, b2, c2, rfl⟩, hrun, how, hlb9, hU9⟩ := own_appK hown1 (by show B ≤ W.heap.size; omega) hlB x.k (by simpa using hpl)
    have m0 : W.cell? ⟨x.p, 0, none⟩ = some (.int .i32 x.k.1) := cell_at hxn
    have m1 : W.cell? ⟨x.p, 1, none⟩ = some (.int .i64 x.k.2) := cell_at hxn
    have l0 : W.cell? ⟨lb, 0, none⟩ = some (.slice a1 b1 c1) := cell_at (w := W) hv
    have l0' : ∀ o : Obj, (W.alloc o).cell? ⟨lb, 0, none⟩ = some (.slice a1 b1 c1) := fun _ => cell_old l0
    have HRUN := hide hrun
    have l9 : W9.cell? ⟨lb, 0, none⟩ = some (.slice a1 b1 c1) := cell_at hlb9
    have f9 : W9.frozen? ⟨lb, 0, none⟩ = false := frozen_of_heap hlb9
    have HFIN : Hid (KeepsFrom W2.heap.size W (W9.setCell ⟨lb, 0, none⟩ (.slice a2 b2 c2)) ∧ Keepb (fun k => k < B ∧ k ≠ lb) W (W9.setCell ⟨lb, 0, none⟩ (.slice a2 b2 c2)) ∧ LeI lb B W2 (pre ++ [x]) (W9.setCell ⟨lb, 0, none⟩ (.slice a2 b2 c2))) := by
      obtain ⟨s1, s2⟩ := rg_step (Below.refl W.heap.size W) hU9 hlB hsW (.slice a2 b2 c2)
      rw [hB]
      refine ⟨s1, ⟨s2.size, fun k hk => s2.block k hk.1 hk.2⟩, ⟨.slice a2 b2 c2, box_set _ hlb9, ?_⟩, hU.trans s2⟩
      have := ownsRow_setCell_below how (a := ⟨lb, 0, none⟩) hlB (.slice a2 b2 c2)
      rw [List.map_append, List.length_append]
      exact this
    clear hown hU hOk hxn hown1 how hlb9 hU9 hv hrun hlk0 hAp hm hlk h2 h1 i0 kl2 hit hblt hb2 hW2 hxL
    gi_wp2
    refine wpIn_region_any (by kernel_rfl) ?_
    try (change wpAnyIn _ _ _ _ _ _ _ _ _ (World.drew _))
    refine wpAnyIn_ready (rs := [0, 1]) (by kernel_rfl) (by simp) ?_
    refine AllReadyIn.cons rfl (fun K hK => ?_) (AllReadyIn.cons rfl (fun K hK => ?_) AllReadyIn.nil)
    · go_simp
      refine hK _ _ ?_
      clear hK
      refine wpAnyIn_ready (rs := [1]) (by kernel_rfl) (by simp) ?_
      refine AllReadyIn.cons rfl (fun K hK => ?_) AllReadyIn.nil
      go_simp
      refine hK _ _ ?_
      clear hK
      refine wpAnyIn_ready (rs := [2]) (by kernel_rfl) (by simp) ?_
      refine AllReadyIn.cons rfl (fun K hK => ?_) AllReadyIn.nil
      go_simp
      refine hK _ _ ?_
      clear hK
      refine wpAnyIn_ready (rs := [3]) (by kernel_rfl) (by simp) ?_
      refine AllReadyIn.cons rfl (fun K hK => ?_) AllReadyIn.nil
      go_simp
      refine hK _ _ ?_
      clear hK
      refine wpAnyIn_ready (rs := [4]) (by kernel_rfl) (by simp) ?_
      refine AllReadyIn.cons rfl (fun K hK => ?_) AllReadyIn.nil
      go_simp
      refine hK _ _ ?_
      clear hK
      refine wpAnyIn_ready (rs := [5]) (by kernel_rfl) (by simp) ?_
      refine AllReadyIn.cons rfl (fun K hK => ?_) AllReadyIn.nil
      go_simp
      refine hK _ _ ?_
      clear hK
      refine wpAnyIn_ready (rs := [6]) (by kernel_rfl) (by simp) ?_
      refine AllReadyIn.cons rfl (fun K hK => ?_) AllReadyIn.nil
      go_simp
      refine hK _ _ ?_
      clear hK
      refine wpAnyIn_ready (rs := [7]) (by kernel_rfl) (by simp) ?_
      refine AllReadyIn.cons rfl (fun K hK => ?_) AllReadyIn.nil
      rw [if_pos (by rfl)]
      refine appendIn_upon rfl rfl rfl (unhide HRUN) ?_
      refine hK _ _ ?_
      clear hK
      refine wpAnyIn_ready (rs := [8]) (by kernel_rfl) (by simp) ?_
      refine AllReadyIn.cons rfl (fun K hK => ?_) AllReadyIn.nil
      go_simp
      refine hK _ _ ?_
      clear hK
      refine wpAnyIn_done (by kernel_rfl) ?_ _
      gi_wp2
      exact unhide HFIN
    · go_simp
      refine hK _ _ ?_
      clear hK
      refine wpAnyIn_ready (rs := [0, 2]) (by kernel_rfl) (by simp) ?_
      refine AllReadyIn.cons rfl (fun K hK => ?_) (AllReadyIn.cons rfl (fun K hK => ?_) AllReadyIn.nil)
      · go_simp
        refine hK _ _ ?_
        clear hK
        refine wpAnyIn_ready (rs := [2]) (by kernel_rfl) (by simp) ?_
        refine AllReadyIn.cons rfl (fun K hK => ?_) AllReadyIn.nil
        go_simp
        refine hK _ _ ?_
        clear hK
        refine wpAnyIn_ready (rs := [3]) (by kernel_rfl) (by simp) ?_
        refine AllReadyIn.cons rfl (fun K hK => ?_) AllReadyIn.nil
        go_simp
        refine hK _ _ ?_
        clear hK
        refine wpAnyIn_ready (rs := [4]) (by kernel_rfl) (by simp) ?_
        refine AllReadyIn.cons rfl (fun K hK => ?_) AllReadyIn.nil
        go_simp
        refine hK _ _ ?_
        clear hK
        refine wpAnyIn_ready (rs := [5]) (by kernel_rfl) (by simp) ?_
        refine AllReadyIn.cons rfl (fun K hK => ?_) AllReadyIn.nil
        go_simp
        refine hK _ _ ?_
        clear hK
        refine wpAnyIn_ready (rs := [6]) (by kernel_rfl) (by simp) ?_
        refine AllReadyIn.cons rfl (fun K hK => ?_) AllReadyIn.nil
        go_simp
        refine hK _ _ ?_
        clear hK
        refine wpAnyIn_ready (rs := [7]) (by kernel_rfl) (by simp) ?_
        refine AllReadyIn.cons rfl (fun K hK => ?_) AllReadyIn.nil
        rw [if_pos (by rfl)]
        refine appendIn_upon rfl rfl rfl (unhide HRUN) ?_
        refine hK _ _ ?_
        clear hK
        refine wpAnyIn_ready (rs := [8]) (by kernel_rfl) (by simp) ?_
        refine AllReadyIn.cons rfl (fun K hK => ?_) AllReadyIn.nil
        go_simp
        refine hK _ _ ?_
        clear hK
        refine wpAnyIn_done (by kernel_rfl) ?_ _
        gi_wp2
        exact unhide HFIN
      · go_simp
        refine hK _ _ ?_
        clear hK
        refine wpAnyIn_ready (rs := [0, 3]) (by kernel_rfl) (by simp) ?_
        refine AllReadyIn.cons rfl (fun K hK => ?_) (AllReadyIn.cons rfl (fun K hK => ?_) AllReadyIn.nil)
        · go_simp
          refine hK _ _ ?_
          clear hK
          refine wpAnyIn_ready (rs := [3]) (by kernel_rfl) (by simp) ?_
          refine AllReadyIn.cons rfl (fun K hK => ?_) AllReadyIn.nil
          go_simp
          refine hK _ _ ?_
          clear hK
          refine wpAnyIn_ready (rs := [4]) (by kernel_rfl) (by simp) ?_
          refine AllReadyIn.cons rfl (fun K hK => ?_) AllReadyIn.nil
          go_simp
          refine hK _ _ ?_
          clear hK
          refine wpAnyIn_ready (rs := [5]) (by kernel_rfl) (by simp) ?_
          refine AllReadyIn.cons rfl (fun K hK => ?_) AllReadyIn.nil
          go_simp
          refine hK _ _ ?_
          clear hK
          refine wpAnyIn_ready (rs := [6]) (by kernel_rfl) (by simp) ?_
          refine AllReadyIn.cons rfl (fun K hK => ?_) AllReadyIn.nil
          go_simp
          refine hK _ _ ?_
          clear hK
          refine wpAnyIn_ready (rs := [7]) (by kernel_rfl) (by simp) ?_
          refine AllReadyIn.cons rfl (fun K hK => ?_) AllReadyIn.nil
          rw [if_pos (by rfl)]
          refine appendIn_upon rfl rfl rfl (unhide HRUN) ?_
          refine hK _ _ ?_
          clear hK
          refine wpAnyIn_ready (rs := [8]) (by kernel_rfl) (by simp) ?_
          refine AllReadyIn.cons rfl (fun K hK => ?_) AllReadyIn.nil
          go_simp
          refine hK _ _ ?_
          clear hK
          refine wpAnyIn_done (by kernel_rfl) ?_ _
          gi_wp2
          exact unhide HFIN
        · go_simp
          refine hK _ _ ?_
          clear hK
          refine wpAnyIn_ready (rs := [0, 4]) (by kernel_rfl) (by simp) ?_
          refine AllReadyIn.cons rfl (fun K hK => ?_) (AllReadyIn.cons rfl (fun K hK => ?_) AllReadyIn.nil)
          · go_simp
            refine hK _ _ ?_
            clear hK
            refine wpAnyIn_ready (rs := [4]) (by kernel_rfl) (by simp) ?_
            refine AllReadyIn.cons rfl (fun K hK => ?_) AllReadyIn.nil
            go_simp
            refine hK _ _ ?_
            clear hK
            refine wpAnyIn_ready (rs := [5]) (by kernel_rfl) (by simp) ?_
            refine AllReadyIn.cons rfl (fun K hK => ?_) AllReadyIn.nil
            go_simp
            refine hK _ _ ?_
            clear hK
            refine wpAnyIn_ready (rs := [6]) (by kernel_rfl) (by simp) ?_
            refine AllReadyIn.cons rfl (fun K hK => ?_) AllReadyIn.nil
            go_simp
            refine hK _ _ ?_
            clear hK
            refine wpAnyIn_ready (rs := [7]) (by kernel_rfl) (by simp) ?_
            refine AllReadyIn.cons rfl (fun K hK => ?_) AllReadyIn.nil
            rw [if_pos (by rfl)]
            refine appendIn_upon rfl rfl rfl (unhide HRUN) ?_
            refine hK _ _ ?_
            clear hK
            refine wpAnyIn_ready (rs := [8]) (by kernel_rfl) (by simp) ?_
            refine AllReadyIn.cons rfl (fun K hK => ?_) AllReadyIn.nil
            go_simp
            refine hK _ _ ?_
            clear hK
            refine wpAnyIn_done (by kernel_rfl) ?_ _
            gi_wp2
            exact unhide HFIN
          · go_simp
            refine hK _ _ ?_
            clear hK
            refine wpAnyIn_ready (rs := [0, 5]) (by kernel_rfl) (by simp) ?_
            refine AllReadyIn.cons rfl (fun K hK => ?_) (AllReadyIn.cons rfl (fun K hK => ?_) AllReadyIn.nil)
            · go_simp
              refine hK _ _ ?_
              clear hK
              refine wpAnyIn_ready (rs := [5]) (by kernel_rfl) (by simp) ?_
              refine AllReadyIn.cons rfl (fun K hK => ?_) AllReadyIn.nil
              go_simp
              refine hK _ _ ?_
              clear hK
              refine wpAnyIn_ready (rs := [6]) (by kernel_rfl) (by simp) ?_
              refine AllReadyIn.cons rfl (fun K hK => ?_) AllReadyIn.nil
              go_simp
              refine hK _ _ ?_
              clear hK
              refine wpAnyIn_ready (rs := [7]) (by kernel_rfl) (by simp) ?_
              refine AllReadyIn.cons rfl (fun K hK => ?_) AllReadyIn.nil
              rw [if_pos (by rfl)]
              refine appendIn_upon rfl rfl rfl (unhide HRUN) ?_
              refine hK _ _ ?_
              clear hK
              refine wpAnyIn_ready (rs := [8]) (by kernel_rfl) (by simp) ?_
              refine AllReadyIn.cons rfl (fun K hK => ?_) AllReadyIn.nil
              go_simp
              refine hK _ _ ?_
              clear hK
              refine wpAnyIn_done (by kernel_rfl) ?_ _
              gi_wp2
              exact unhide HFIN
            · go_simp
              refine hK _ _ ?_
              clear hK
              refine wpAnyIn_ready (rs := [0, 6]) (by kernel_rfl) (by simp) ?_
              refine AllReadyIn.cons rfl (fun K hK => ?_) (AllReadyIn.cons rfl (fun K hK => ?_) AllReadyIn.nil)
              · go_simp
                refine hK _ _ ?_
                clear hK
                refine wpAnyIn_ready (rs := [6]) (by kernel_rfl) (by simp) ?_
                refine AllReadyIn.cons rfl (fun K hK => ?_) AllReadyIn.nil
                go_simp
                refine hK _ _ ?_
                clear hK
                refine wpAnyIn_ready (rs := [7]) (by kernel_rfl) (by simp) ?_
                refine AllReadyIn.cons rfl (fun K hK => ?_) AllReadyIn.nil
                rw [if_pos (by rfl)]
                refine appendIn_upon rfl rfl rfl (unhide HRUN) ?_
                refine hK _ _ ?_
                clear hK
                refine wpAnyIn_ready (rs := [8]) (by kernel_rfl) (by simp) ?_
                refine AllReadyIn.cons rfl (fun K hK => ?_) AllReadyIn.nil
                go_simp
                refine hK _ _ ?_
                clear hK
                refine wpAnyIn_done (by kernel_rfl) ?_ _
                gi_wp2
                exact unhide HFIN
              · go_simp
                refine hK _ _ ?_
                clear hK
                refine wpAnyIn_ready (rs := [0]) (by kernel_rfl) (by simp) ?_
                refine AllReadyIn.cons rfl (fun K hK => ?_) AllReadyIn.nil
                go_simp
                refine hK _ _ ?_
                clear hK
                refine wpAnyIn_ready (rs := [7]) (by kernel_rfl) (by simp) ?_
                refine AllReadyIn.cons rfl (fun K hK => ?_) AllReadyIn.nil
                rw [if_pos (by rfl)]
                refine appendIn_upon rfl rfl rfl (unhide HRUN) ?_
                refine hK _ _ ?_
                clear hK
                refine wpAnyIn_ready (rs := [8]) (by kernel_rfl) (by simp) ?_
                refine AllReadyIn.cons rfl (fun K hK => ?_) AllReadyIn.nil
                go_simp
                refine hK _ _ ?_
                clear hK
                refine wpAnyIn_done (by kernel_rfl) ?_ _
                gi_wp2
                exact unhide HFIN
  case stop =>
    intro D cd pre W hD hX hK
    exact hX.elim
  case done =>
    intro D xs W hD hxs hI hK
    subst hxs
    obtain ⟨⟨v, hv, ho⟩, hU⟩ := hI
    rw [List.length_map] at ho
    have c0 : W.cell? ⟨lb, 0, none⟩ = some v := cell_at hv
    obtain ⟨ao, cap, rfl⟩ := own_shape ho
    have HM : Hid (Marks [{ target := .collected D, args := #[] }] W) := (Marks.nil W).cons hK (fun c => by cases c)
    have HO := hide ho
    have HU := hide hU
    have HW2 := hide hW2
    have hDB : B ≤ D := by rw [← hB]; exact hD
    obtain ⟨len, hlen⟩ : ∃ n, (onL lev L).length = n := ⟨_, rfl⟩
    rw [hlen] at c0
    have HV := hide (valsK_any W ao len cap)
    clear hlk0 hAp hm hlk h2 h1 i0 kl2 hit hv ho hU hK hblt hW2 hb2
    have HLN := hide hlen
    rw [hlen] at HO
    clear hlen hRlen
    gi_wp2_with fail
    refine ⟨trivial, ((callsIn_wide).2 (unhide HV)).mono ?_⟩
    rintro e W5 ⟨rfl, rfl⟩
    have hb5 : Below W.heap.size W (W.alloc (.cells #[.slice ao len cap] 55)) := (Below.refl _ _).alloc (Nat.le_refl _) _
    have HM5 : Hid (Marks [{ target := .collected D, args := #[] }] (W.alloc (.cells #[.slice ao len cap] 55))) := (unhide HM).keep fun k hk => hb5.block k ((unhide HM).lt hk)
    have HO5 := hide (own_below (unhide HO) hb5)
    have hc5 : Hid ((W.alloc (.cells #[.slice ao len cap] 55)).heap[W.heap.size]? = some (.cells #[.slice ao len cap] 55)) := heap_new1 _ _
    have HB5 := hide hb5
    clear hb5
    gi_wp2
    refine leave_marks (w := W.alloc (.cells #[.slice ao len cap] 55)) (unhide HM5) fun w' hw => ?_
    have hsU := (unhide HU).size
    have ho' := own_mark (unhide HO5) (unhide HM5) hw
    have hbw : Below n0 w w' := (unhide HW2).trans ⟨hw.os.trans (unhide HU).os, hw.tape.trans (unhide HU).tape, hw.output.trans (unhide HU).output, Nat.le_trans (unhide HU).size (Nat.le_trans (unhide HB5).size hw.size), fun k hk => (hw.block k (by have := (unhide HB5).size; omega) fun c => by
      rcases List.mem_cons.1 c with e | e
      · simp only [Deferred.mk.injEq, Target.collected.injEq, and_true] at e; omega
      · cases e).trans (((unhide HB5).block k (by omega)).trans ((unhide HU).block k (by omega) (by omega)))⟩
    refine ⟨_, by simp [results, Tryd.results24, go_sem], _, rfl, ⟨W.heap.size, .slice ao len cap, rfl, ?_, ?_⟩, hbw⟩
    · refine cell_at ((hw.block W.heap.size (by simp) fun c => ?_).trans (unhide hc5))
      have := (unhide HM5).at c
      rw [unhide hc5] at this
      cases this
    · exact (own_sees (l := (onL lev L).map (·.k)) kC_len (by decide) ho').2
end Go.Proofs.YtdcmkapfcmibeaaDoor
