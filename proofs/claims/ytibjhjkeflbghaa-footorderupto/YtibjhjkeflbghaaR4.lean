/- Levels: the document's. -/
import Derived.Test.YtibjhjkeflbghaaR3
import Derived.Test.YtibjhjkeflbghaaQ2
namespace Go.Proofs.Ytibjhjkeflbghaa
open Go.RowKit
set_option maxRecDepth 100000

theorem make30 (n : Nat) (hn : n ≤ 1099511627776) (W : World) : (Instr.makeSlice 30 (.int .i64 n) (.int .i64 n)).run Try.prog W = .ok (.slice (some ⟨W.heap.size, 0, none⟩) n n) (W.alloc (.cells (List.replicate n (Value.int .i64 0)).toArray 3)) := by
  obtain ⟨i4, hi4, hz0, hz1, hz2⟩ := info_parts Try.info3
  have h := run_make (P := Try.prog) W 30 3 i4 _ Try.underlying30 hi4 hz0 .i64 .i64 n n (by omega) (by omega) (by rw [hz2]; omega) (by omega)
  rw [hz1, Nat.mul_one] at h
  have e : madeCells (Value.int .i64 0).cells ((n : Int).toNat) = (List.replicate n (Value.int .i64 0)).toArray := by
    have hc : (Value.int .i64 0).cells = #[.int .i64 0] := rfl
    rw [hc, Int.toNat_natCast]
    refine Array.ext_getElem? fun j => ?_
    unfold madeCells
    rw [Array.getElem?_map, Array.getElem?_range]
    by_cases hj : j < n
    · rw [if_pos hj]
      simp [Nat.mod_one, hj]
    · rw [if_neg hj]
      simp [hj]
  rw [e] at h
  exact h
/-- The level so far. -/
def rl (L : List Tx) (k : Nat) : Nat → Int
  | 0 => 0
  | i + 1 => if (clashP (lkX (L.getD i default)) (lkX (L.getD k default)) && decide (rl L k i ≤ lvl L i)) = true then lvl L i + 1 else rl L k i
theorem rl_in {L : List Tx} {k : Nat} (hk : k < L.length) : ∀ i, i ≤ k → 0 ≤ rl L k i ∧ rl L k i ≤ lvl L k ∧ ∀ j, j < i → clashP (lkX (L.getD j default)) (lkX (L.getD k default)) = true → lvl L j < rl L k i
  | 0, _ => ⟨Int.le_refl _, (lvl_bounds L hk).1, fun j hj => absurd hj (by omega)⟩
  | i + 1, hi => by
    obtain ⟨h0, h1, h2⟩ := rl_in hk i (by omega)
    have hb := lvl_bounds L (show i < L.length by omega)
    have hc : clashP (lkX (L.getD i default)) (lkX (L.getD k default)) = true → lvl L i < lvl L k := fun h => apart_lvl hk (by omega) h
    unfold rl
    split
    · rename_i hh
      simp only [Bool.and_eq_true, decide_eq_true_eq] at hh
      have := hc hh.1
      refine ⟨by omega, by omega, fun j hj hcl => ?_⟩
      by_cases e : j = i
      · subst e; omega
      · have := h2 j (by omega) hcl; omega
    · rename_i hh
      refine ⟨h0, h1, fun j hj hcl => ?_⟩
      by_cases e : j = i
      · subst e
        rw [hcl, Bool.true_and, decide_eq_true_eq] at hh
        omega
      · exact h2 j (by omega) hcl
theorem rl_top {L : List Tx} {k : Nat} (hk : k < L.length) : rl L k k = lvl L k := by
  obtain ⟨h0, h1, h2⟩ := rl_in hk k (Nat.le_refl _)
  rcases lvl_below L hk with c | ⟨i, hi, hik, hc, e⟩
  · omega
  · rw [← getD_at' hi, ← getD_at' hk] at hc
    have := h2 i hik hc
    omega
def nV (l : List Int) : Array Value := (l.map (Value.int .i64)).toArray
theorem nV_at (l : List Int) {i : Nat} {x : Int} (h : l[i]? = some x) : (nV l)[i]? = some (.int .i64 x) := by simp [nV, h]
theorem nV_set (l : List Int) (i : Nat) (x : Int) : (nV l).setIfInBounds i (.int .i64 x) = nV (l.set i x) := by simp [nV, List.map_set]
/-- What stands in the row: the levels of those ahead, this one's, zeros. -/
def rowL (L : List Tx) (k : Nat) (m : Int) : List Int := (levelsP L).take k ++ m :: List.replicate (L.length - k - 1) 0
theorem rowL_lo {L : List Tx} {k i : Nat} (m : Int) (hk : k < L.length) (hi : i < k) : (rowL L k m)[i]? = some (lvl L i) := by
  have hl := levelsP_len L
  unfold rowL
  rw [List.getElem?_append_left (by rw [List.length_take]; omega), List.getElem?_take, if_pos hi]
  unfold lvl
  simp [List.getD, show i < (levelsP L).length by omega]
theorem rowL_me {L : List Tx} {k : Nat} (m : Int) (hk : k < L.length) : (rowL L k m)[k]? = some m := by
  have hl := levelsP_len L
  unfold rowL
  rw [List.getElem?_append_right (by rw [List.length_take]; omega), List.length_take, Nat.min_eq_left (by omega), Nat.sub_self]
  rfl
theorem rowL_set {L : List Tx} {k : Nat} (m x : Int) (hk : k < L.length) : (rowL L k m).set k x = rowL L k x := by
  have hl := levelsP_len L
  unfold rowL
  rw [List.set_append_right _ _ (by rw [List.length_take]; omega), List.length_take, Nat.min_eq_left (by omega), Nat.sub_self]
  rfl
theorem rowL_start (L : List Tx) {k : Nat} (hk : k < L.length) : (levelsP L).take k ++ List.replicate (L.length - k) 0 = rowL L k 0 := by
  unfold rowL
  rw [show L.length - k = (L.length - k - 1) + 1 by omega, List.replicate_succ]
  rfl
theorem rowL_end (L : List Tx) {k : Nat} (hk : k < L.length) : rowL L k (lvl L k) = (levelsP L).take (k + 1) ++ List.replicate (L.length - (k + 1)) 0 := by
  have hl := levelsP_len L
  unfold rowL
  rw [List.take_succ_eq_append_getElem (by omega), List.append_assoc, show L.length - k - 1 = L.length - (k + 1) by omega]
  unfold lvl
  simp [List.getD, show k < (levelsP L).length by omega]

set_option maxHeartbeats 6400000 in
theorem rlevels_any {v : Value} {L : List Tx} {w : World} (hs : SeesL xC 6 w v L) (hx : ∀ x ∈ L, SeesX w x) (hsh : ∀ x ∈ L, Short x) (hl : L.length ≤ 1099511627776) :
    Calls Try.prog 27 #[v] w fun e w' => ∃ a c, e = .returned (.slice a L.length c) ∧ SeesL nC 1 w' (.slice a L.length c) (levelsP L) ∧ Below w.heap.size w w' := by
  obtain ⟨ao, cap, hv⟩ := hs.shape
  obtain ⟨m, hm⟩ : ∃ m, L.length = m := ⟨_, rfl⟩
  rw [hm] at hv hl
  subst hv
  obtain ⟨Y, hY⟩ : ∃ z, w.alloc (.cells (List.replicate m (Value.int .i64 0)).toArray 3) = z := ⟨_, rfl⟩
  have bY : Below w.heap.size w Y := hY ▸ below_box _
  have hmk : (Instr.makeSlice 30 (.int .i64 m) (.int .i64 m)).run Try.prog w = .ok (.slice (some ⟨w.heap.size, 0, none⟩) m m) Y := hY ▸ make30 m hl w
  have hgY : Y.heap[w.heap.size]? = some (.cells (nV ((levelsP L).take 0 ++ List.replicate (L.length - 0) 0)) 3) := by
    rw [← hY, heap_alloc_new w _]
    simp [nV, hm]
  obtain ⟨g, hg⟩ : ∃ g, w.heap.size = g := ⟨_, rfl⟩
  rw [hg] at hmk hgY
  have hkeep : ∀ z, But g Y z → ∀ p x, w.cell? p = some x → z.cell? p = some x := fun z hz p x hp => by
    have hlt := World.block_lt_of_cell? w p hp
    have h1 : z.heap[p.block]? = Y.heap[p.block]? := hz.block _ (Nat.lt_of_lt_of_le hlt bY.size) (by omega)
    have h2 : Y.heap[p.block]? = w.heap[p.block]? := bY.block _ hlt
    have e := h1.trans h2
    have : z.cell? p = w.cell? p := by unfold World.cell?; rw [e]
    rw [this]; exact hp
  have HST : Hid (∀ z, But g Y z → SeesL xC 6 z (.slice ao m cap) L) := fun z hz => hs.keep xC_len (hkeep z hz)
  have HXZ : Hid (∀ z, But g Y z → ∀ i, i < m → SeesX z (L.getD i default) ∧ Short (L.getD i default)) := fun z hz i hi => by
    rw [getD_at' (show i < L.length by omega)]
    exact ⟨(hx _ (List.getElem_mem _)).keep (hkeep z hz), hsh _ (List.getElem_mem _)⟩
  have HLL := hide hm
  have HBY := hide (And.intro bY hg)
  have HGY := hide hgY
  have hgl : g < Y.heap.size := (Array.getElem?_eq_some_iff.1 hgY).1
  have HGL := hide hgl
  clear hs hx hsh bY hgY hkeep hY hg hgl
  go_enter Try.func27, Try.ntmps27
  go_wp2
  go_loopw [4] (fun c wr => ∃ t : Nat, t ≤ m ∧ c = .int .i64 t ∧ wr.heap[g]? = some (.cells (nV ((levelsP L).take t ++ List.replicate (L.length - t) 0)) 3) ∧ But g Y wr) (fun c _ => m - (intOf c).toNat)
  case atStart => exact ⟨0, by omega, rfl, unhide HGY, But.refl _ _⟩
  case round =>
    obtain ⟨t, ht, rfl, hrow, hbr⟩ := hrel
    by_cases hlt : t < m
    · have hll := unhide HLL
      rw [rowL_start L (by omega)] at hrow
      obtain ⟨gb, ob, hao, hj1⟩ := tx_cells (unhide HST wr hbr) rfl (show t < L.length by omega)
      clear hj1
      subst hao
      have hbt := lvl_bounds L (show t < L.length by omega)
      have HBR := hide (And.intro hrow hbr)
      have hlt0 : (t : Int) < (m : Int) := by omega
      have hltN : t < L.length := by omega
      clear hll hrow hbr
      go_wp2
      go_loopw [5] (fun c wr => ∃ i : Nat, i ≤ t ∧ c = .int .i64 i ∧ wr.heap[g]? = some (.cells (nV (rowL L t (rl L t i))) 3) ∧ But g Y wr) (fun c _ => t - (intOf c).toNat)
      case atStart => exact ⟨0, by omega, rfl, (unhide HBR).1, (unhide HBR).2⟩
      case round =>
        obtain ⟨i, hi, rfl, hrow, hbi⟩ := hrel
        by_cases hli : i < t
        · obtain ⟨c, hc⟩ : ∃ c, clashP (lkX (L.getD i default)) (lkX (L.getD t default)) = c := ⟨_, rfl⟩
          have hsx := (unhide HXZ) wr hbi
          have hiN : i < L.length := by omega
          have him : i < m := by omega
          have HS0 : ∀ z, Below wr.heap.size wr z → SeesL xC 6 z (.slice (some ⟨gb, ob, none⟩) m cap) L := fun z hz => ((unhide HST) wr hbi).below xC_len hz
          obtain ⟨sy, ry, ac1, nc1, cc1, aa1, na1, ca1, ar1, nr1, cr1, aw1, nw1, cw1, hxi, hci⟩ := tx_lit HS0 hiN (hsx i him).1
          obtain ⟨sx, rx, ac0, nc0, cc0, aa0, na0, ca0, ar0, nr0, cr0, aw0, nw0, cw0, hxt, hct⟩ := tx_lit HS0 hltN (hsx t hlt).1
          have HC : Hid (∀ z, Below wr.heap.size wr z → Calls Try.prog 29 #[.agg #[.int .i64 sy, .int .i64 ry, .slice ac1 nc1 cc1, .slice aa1 na1 ca1, .slice ar1 nr1 cr1, .slice aw1 nw1 cw1], .agg #[.int .i64 sx, .int .i64 rx, .slice ac0 nc0 cc0, .slice aa0 na0 ca0, .slice ar0 nr0 cr0, .slice aw0 nw0 cw0]] z fun e w' => e = .returned (.bool c) ∧ Below z.heap.size z w') := fun z hz => by
            have h := rclash_any ((hsx i him).1.below hz) ((hsx t hlt).1.below hz) (hsx i him).2 (hsx t hlt).2
            rw [hxi, hxt, hc] at h
            exact h
          obtain ⟨lvi, hlvi⟩ : ∃ z, lvl L i = z := ⟨_, rfl⟩
          obtain ⟨mi, hmi⟩ : ∃ z, rl L t i = z := ⟨_, rfl⟩
          have hbi2 := lvl_bounds L hiN
          have hrs : rl L t (i + 1) = if (c && decide (mi ≤ lvi)) = true then lvi + 1 else mi := by rw [← hc, ← hmi, ← hlvi]; rfl
          rw [hmi] at hrow
          have HCC : Hid (∀ z, Below wr.heap.size wr z → z.cell? ⟨g, i, none⟩ = some (.int .i64 lvi) ∧ z.cell? ⟨g, t, none⟩ = some (.int .i64 mi)) := fun z hz => by
            have h := (hz.block _ (Array.getElem?_eq_some_iff.1 hrow).1).trans hrow
            exact ⟨by rw [cell_at h, ← hlvi]; exact nV_at _ (rowL_lo mi hltN hli), by rw [cell_at h]; exact nV_at _ (rowL_me mi hltN)⟩
          have HRW : Hid (∀ z, Below wr.heap.size wr z → z.heap[g]? = some (.cells (nV (rowL L t mi)) 3) ∧ But g Y z) := fun z hz => ⟨(hz.block _ (Array.getElem?_eq_some_iff.1 hrow).1).trans hrow, hbi.below' hz⟩
          have HRS := hide hrs
          have HCI := hide hci
          have HCT := hide hct
          rw [hlvi] at hbi2
          have hwr : wrap64 (lvi + 1) = lvi + 1 := by unfold wrap64; omega
          have hwr2 : IntKind.i64.wrap (lvi + 1) = lvi + 1 := by rw [IntKind.wrap_i64]; omega
          have hli0 : (i : Int) < (t : Int) := by omega
          have hli1 : (i : Int) < (m : Int) := by omega
          clear hxi hxt hci hct hc hsx HS0 hlvi hmi hrs hrow hbi
          go_wp2
          have t0 : Below wr.heap.size wr wr.drew := (Below.refl _ _).drew
          refine wp_region_held_drew (S := fun x => Below wr.heap.size wr x) (by kernel_rfl) t0 (fun hHeld => ?_)
          refine wpAnyH_take (i := 0) (v := ?v1x0) rfl (by as_aux_lemma => kernel_rfl) (by as_aux_lemma => kernel_rfl) (by as_aux_lemma => kernel_rfl) (fun _ _ _ h => h) (Or.inl ⟨by rfl, ?hy1x0⟩) (by assumption) ?rest1x0
          case hy1x0 => intro w hSw; go_simp <;> with_reducible rfl
          simp only [Act.put, List.getElem_toArray, List.getElem_cons_zero, List.setIfInBounds_toArray, List.set_cons_zero, List.set_cons_succ]
          refine wpAnyH_take (i := 1) (v := ?v2x1) rfl (by as_aux_lemma => kernel_rfl) (by as_aux_lemma => kernel_rfl) (by as_aux_lemma => kernel_rfl) (fun _ _ _ h => h) (Or.inl ⟨by rfl, ?hy2x1⟩) (by assumption) ?rest2x1
          case hy2x1 => intro w hSw; go_simp <;> with_reducible rfl
          simp only [Act.put, List.getElem_toArray, List.getElem_cons_zero, List.getElem_cons_succ, List.setIfInBounds_toArray, List.set_cons_zero, List.set_cons_succ]
          refine wpAnyH_take (i := 2) (v := ?v3x2) rfl (by as_aux_lemma => kernel_rfl) (by as_aux_lemma => kernel_rfl) (by as_aux_lemma => kernel_rfl) (fun _ _ _ h => h) (Or.inl ⟨by rfl, ?hy3x2⟩) (by assumption) ?rest3x2
          case hy3x2 => intro w hSw; go_simp <;> with_reducible rfl
          simp only [Act.put, List.getElem_toArray, List.getElem_cons_zero, List.getElem_cons_succ, List.setIfInBounds_toArray, List.set_cons_zero, List.set_cons_succ]
          refine wpAnyH_take (i := 3) (v := (.agg #[.int .i64 sy, .int .i64 ry, .slice ac1 nc1 cc1, .slice aa1 na1 ca1, .slice ar1 nr1 cr1, .slice aw1 nw1 cw1])) rfl (by as_aux_lemma => kernel_rfl) (by as_aux_lemma => kernel_rfl) (by as_aux_lemma => kernel_rfl) (fun _ _ _ h => h) (Or.inl ⟨by rfl, ?hy4x3⟩) (by assumption) ?rest4x3
          case hy4x3 => intro w hSw; obtain ⟨q0, q1, q2, q3, q4, q5⟩ := (unhide HCI) _ hSw; go_simp <;> with_reducible rfl
          simp only [Act.put, List.getElem_toArray, List.getElem_cons_zero, List.getElem_cons_succ, List.setIfInBounds_toArray, List.set_cons_zero, List.set_cons_succ]
          refine wpAnyH_take (i := 4) (v := ?v5x4) rfl (by as_aux_lemma => kernel_rfl) (by as_aux_lemma => kernel_rfl) (by as_aux_lemma => kernel_rfl) (fun _ _ _ h => h) (Or.inl ⟨by rfl, ?hy5x4⟩) (by assumption) ?rest5x4
          case hy5x4 => intro w hSw; go_simp <;> with_reducible rfl
          simp only [Act.put, List.getElem_toArray, List.getElem_cons_zero, List.getElem_cons_succ, List.setIfInBounds_toArray, List.set_cons_zero, List.set_cons_succ]
          refine wpAnyH_take (i := 5) (v := ?v6x5) rfl (by as_aux_lemma => kernel_rfl) (by as_aux_lemma => kernel_rfl) (by as_aux_lemma => kernel_rfl) (fun _ _ _ h => h) (Or.inl ⟨by rfl, ?hy6x5⟩) (by assumption) ?rest6x5
          case hy6x5 => intro w hSw; go_simp <;> with_reducible rfl
          simp only [Act.put, List.getElem_toArray, List.getElem_cons_zero, List.getElem_cons_succ, List.setIfInBounds_toArray, List.set_cons_zero, List.set_cons_succ]
          refine wpAnyH_take (i := 6) (v := ?v7x6) rfl (by as_aux_lemma => kernel_rfl) (by as_aux_lemma => kernel_rfl) (by as_aux_lemma => kernel_rfl) (fun _ _ _ h => h) (Or.inl ⟨by rfl, ?hy7x6⟩) (by assumption) ?rest7x6
          case hy7x6 => intro w hSw; go_simp <;> with_reducible rfl
          simp only [Act.put, List.getElem_toArray, List.getElem_cons_zero, List.getElem_cons_succ, List.setIfInBounds_toArray, List.set_cons_zero, List.set_cons_succ]
          refine wpAnyH_take (i := 7) (v := (.agg #[.int .i64 sx, .int .i64 rx, .slice ac0 nc0 cc0, .slice aa0 na0 ca0, .slice ar0 nr0 cr0, .slice aw0 nw0 cw0])) rfl (by as_aux_lemma => kernel_rfl) (by as_aux_lemma => kernel_rfl) (by as_aux_lemma => kernel_rfl) (fun _ _ _ h => h) (Or.inl ⟨by rfl, ?hy8x7⟩) (by assumption) ?rest8x7
          case hy8x7 => intro w hSw; obtain ⟨q0, q1, q2, q3, q4, q5⟩ := (unhide HCT) _ hSw; go_simp <;> with_reducible rfl
          simp only [Act.put, List.getElem_toArray, List.getElem_cons_zero, List.getElem_cons_succ, List.setIfInBounds_toArray, List.set_cons_zero, List.set_cons_succ]
          refine wpAnyH_ready (rs := [8]) (by as_aux_lemma => kernel_rfl) (by simp) ?_
          refine AllReadyH.cons rfl (fun K hK => ?_) AllReadyH.nil
          go_simp
          refine ((unhide HC) _ t0).mono ?_
          rintro e w3 ⟨rfl, hb3⟩
          refine hK _ _ (t0.trans (hb3.mono t0.size)) ?_
          clear hK hHeld
          have t3 : Below wr.heap.size wr w3 := t0.trans (hb3.mono t0.size)
          intro hHeld
          refine wpAnyH_take (i := 9) (v := ?v9x9) rfl (by as_aux_lemma => kernel_rfl) (by as_aux_lemma => kernel_rfl) (by as_aux_lemma => kernel_rfl) (fun _ _ _ h => h) (Or.inl ⟨by rfl, ?hy9x9⟩) (by assumption) ?rest9x9
          case hy9x9 => intro w hSw; go_simp <;> with_reducible rfl
          simp only [Act.put, List.getElem_toArray, List.getElem_cons_zero, List.getElem_cons_succ, List.setIfInBounds_toArray, List.set_cons_zero, List.set_cons_succ]
          have HRW3 := hide ((unhide HRW) w3 t3)
          obtain ⟨k1, k2⟩ := (unhide HCC) w3 t3
          have hfz : w3.frozen? ⟨g, t, none⟩ = false := frozen_of_heap (unhide HRW3).1
          cases c with
          | false =>
            refine wpAnyH_take (i := 10) (v := undef) rfl (by as_aux_lemma => kernel_rfl) (by as_aux_lemma => kernel_rfl) (by as_aux_lemma => kernel_rfl) (fun _ _ _ h => h) (Or.inr ⟨by rfl, rfl⟩) (by assumption) ?_
            simp only [Act.put, List.getElem_toArray, List.getElem_cons_zero, List.getElem_cons_succ, List.setIfInBounds_toArray, List.set_cons_zero, List.set_cons_succ]
            refine wpAnyH_take (i := 11) (v := undef) rfl (by as_aux_lemma => kernel_rfl) (by as_aux_lemma => kernel_rfl) (by as_aux_lemma => kernel_rfl) (fun _ _ _ h => h) (Or.inr ⟨by rfl, rfl⟩) (by assumption) ?_
            simp only [Act.put, List.getElem_toArray, List.getElem_cons_zero, List.getElem_cons_succ, List.setIfInBounds_toArray, List.set_cons_zero, List.set_cons_succ]
            refine wpAnyH_take (i := 12) (v := undef) rfl (by as_aux_lemma => kernel_rfl) (by as_aux_lemma => kernel_rfl) (by as_aux_lemma => kernel_rfl) (fun _ _ _ h => h) (Or.inr ⟨by rfl, rfl⟩) (by assumption) ?_
            simp only [Act.put, List.getElem_toArray, List.getElem_cons_zero, List.getElem_cons_succ, List.setIfInBounds_toArray, List.set_cons_zero, List.set_cons_succ]
            refine wpAnyH_take (i := 13) (v := undef) rfl (by as_aux_lemma => kernel_rfl) (by as_aux_lemma => kernel_rfl) (by as_aux_lemma => kernel_rfl) (fun _ _ _ h => h) (Or.inr ⟨by rfl, rfl⟩) (by assumption) ?_
            simp only [Act.put, List.getElem_toArray, List.getElem_cons_zero, List.getElem_cons_succ, List.setIfInBounds_toArray, List.set_cons_zero, List.set_cons_succ]
            refine wpAnyH_take (i := 14) (v := undef) rfl (by as_aux_lemma => kernel_rfl) (by as_aux_lemma => kernel_rfl) (by as_aux_lemma => kernel_rfl) (fun _ _ _ h => h) (Or.inr ⟨by rfl, rfl⟩) (by assumption) ?_
            simp only [Act.put, List.getElem_toArray, List.getElem_cons_zero, List.getElem_cons_succ, List.setIfInBounds_toArray, List.set_cons_zero, List.set_cons_succ]
            refine wpAnyH_take (i := 15) (v := undef) rfl (by as_aux_lemma => kernel_rfl) (by as_aux_lemma => kernel_rfl) (by as_aux_lemma => kernel_rfl) (fun _ _ _ h => h) (Or.inr ⟨by rfl, rfl⟩) (by assumption) ?_
            simp only [Act.put, List.getElem_toArray, List.getElem_cons_zero, List.getElem_cons_succ, List.setIfInBounds_toArray, List.set_cons_zero, List.set_cons_succ]
            refine wpAnyH_take (i := 16) (v := undef) rfl (by as_aux_lemma => kernel_rfl) (by as_aux_lemma => kernel_rfl) (by as_aux_lemma => kernel_rfl) (fun _ _ _ h => h) (Or.inr ⟨by rfl, rfl⟩) (by assumption) ?_
            simp only [Act.put, List.getElem_toArray, List.getElem_cons_zero, List.getElem_cons_succ, List.setIfInBounds_toArray, List.set_cons_zero, List.set_cons_succ]
            refine wpAnyH_take (i := 17) (v := undef) rfl (by as_aux_lemma => kernel_rfl) (by as_aux_lemma => kernel_rfl) (by as_aux_lemma => kernel_rfl) (fun _ _ _ h => h) (Or.inr ⟨by rfl, rfl⟩) (by assumption) ?_
            simp only [Act.put, List.getElem_toArray, List.getElem_cons_zero, List.getElem_cons_succ, List.setIfInBounds_toArray, List.set_cons_zero, List.set_cons_succ]
            refine wpAnyH_take (i := 18) (v := undef) rfl (by as_aux_lemma => kernel_rfl) (by as_aux_lemma => kernel_rfl) (by as_aux_lemma => kernel_rfl) (fun _ _ _ h => h) (Or.inr ⟨by rfl, rfl⟩) (by assumption) ?_
            simp only [Act.put, List.getElem_toArray, List.getElem_cons_zero, List.getElem_cons_succ, List.setIfInBounds_toArray, List.set_cons_zero, List.set_cons_succ]
            refine wpAnyH_take (i := 19) (v := ?v19x19) rfl (by as_aux_lemma => kernel_rfl) (by as_aux_lemma => kernel_rfl) (by as_aux_lemma => kernel_rfl) (fun _ _ _ h => h) (Or.inl ⟨by rfl, ?hy19x19⟩) (by assumption) ?rest19x19
            case hy19x19 => intro w hSw; go_simp <;> with_reducible rfl
            simp only [Act.put, List.getElem_toArray, List.getElem_cons_zero, List.getElem_cons_succ, List.setIfInBounds_toArray, List.set_cons_zero, List.set_cons_succ]
            refine wpAnyH_done (by as_aux_lemma => kernel_rfl) ?_ _
            clear hHeld
            have HG : Hid (w3.heap[g]? = some (.cells (nV (rowL L t (rl L t (i + 1)))) 3) ∧ But g Y w3) := by rw [unhide HRS]; exact unhide HRW3
            go_wp2
            go_roundw
            case rel => exact ⟨i + 1, by omega, by go_num, (unhide HG).1, (unhide HG).2⟩
            case measure => simp [intOf]; omega
          | true =>
            by_cases hge : mi ≤ lvi
            · have hd1 : decide (lvi ≥ mi) = true := decide_eq_true hge
              have hd2 : decide (mi ≤ lvi) = true := decide_eq_true hge
              have HG : Hid ((w3.setCell ⟨g, t, none⟩ (.int .i64 (lvi + 1))).heap[g]? = some (.cells (nV (rowL L t (rl L t (i + 1)))) 3) ∧ But g Y (w3.setCell ⟨g, t, none⟩ (.int .i64 (lvi + 1)))) := by
                refine ⟨?_, (unhide HRW3).2.setCell⟩
                rw [heap_setCell_same w3 _ _ _ _ _ (unhide HRW3).1, nV_set, rowL_set _ _ hltN, unhide HRS, hd2]
                rfl
              clear hge
              refine wpAnyH_take (i := 10) (v := ?v20x10) rfl (by as_aux_lemma => kernel_rfl) (by as_aux_lemma => kernel_rfl) (by as_aux_lemma => kernel_rfl) (fun _ _ _ h => h) (Or.inl ⟨by rfl, ?hy20x10⟩) (by assumption) ?rest20x10
              case hy20x10 => intro w hSw; go_simp <;> with_reducible rfl
              simp only [Act.put, List.getElem_toArray, List.getElem_cons_zero, List.getElem_cons_succ, List.setIfInBounds_toArray, List.set_cons_zero, List.set_cons_succ]
              refine wpAnyH_take (i := 11) (v := ?v21x11) rfl (by as_aux_lemma => kernel_rfl) (by as_aux_lemma => kernel_rfl) (by as_aux_lemma => kernel_rfl) (fun _ _ _ h => h) (Or.inl ⟨by rfl, ?hy21x11⟩) (by assumption) ?rest21x11
              case hy21x11 => intro w hSw; go_simp <;> with_reducible rfl
              simp only [Act.put, List.getElem_toArray, List.getElem_cons_zero, List.getElem_cons_succ, List.setIfInBounds_toArray, List.set_cons_zero, List.set_cons_succ]
              refine wpAnyH_take (i := 12) (v := ?v22x12) rfl (by as_aux_lemma => kernel_rfl) (by as_aux_lemma => kernel_rfl) (by as_aux_lemma => kernel_rfl) (fun _ _ _ h => h) (Or.inl ⟨by rfl, ?hy22x12⟩) (by assumption) ?rest22x12
              case hy22x12 => intro w hSw; go_simp <;> with_reducible rfl
              simp only [Act.put, List.getElem_toArray, List.getElem_cons_zero, List.getElem_cons_succ, List.setIfInBounds_toArray, List.set_cons_zero, List.set_cons_succ]
              refine wpAnyH_take (i := 13) (v := (.int .i64 lvi)) rfl (by as_aux_lemma => kernel_rfl) (by as_aux_lemma => kernel_rfl) (by as_aux_lemma => kernel_rfl) (fun _ _ _ h => h) (Or.inl ⟨by rfl, ?hy23x13⟩) (by assumption) ?rest23x13
              case hy23x13 => intro w hSw; obtain ⟨c1, c2⟩ := (unhide HCC) _ hSw; go_simp <;> with_reducible rfl
              simp only [Act.put, List.getElem_toArray, List.getElem_cons_zero, List.getElem_cons_succ, List.setIfInBounds_toArray, List.set_cons_zero, List.set_cons_succ]
              refine wpAnyH_take (i := 14) (v := ?v24x14) rfl (by as_aux_lemma => kernel_rfl) (by as_aux_lemma => kernel_rfl) (by as_aux_lemma => kernel_rfl) (fun _ _ _ h => h) (Or.inl ⟨by rfl, ?hy24x14⟩) (by assumption) ?rest24x14
              case hy24x14 => intro w hSw; go_simp <;> with_reducible rfl
              simp only [Act.put, List.getElem_toArray, List.getElem_cons_zero, List.getElem_cons_succ, List.setIfInBounds_toArray, List.set_cons_zero, List.set_cons_succ]
              refine wpAnyH_take (i := 15) (v := ?v25x15) rfl (by as_aux_lemma => kernel_rfl) (by as_aux_lemma => kernel_rfl) (by as_aux_lemma => kernel_rfl) (fun _ _ _ h => h) (Or.inl ⟨by rfl, ?hy25x15⟩) (by assumption) ?rest25x15
              case hy25x15 => intro w hSw; go_simp <;> with_reducible rfl
              simp only [Act.put, List.getElem_toArray, List.getElem_cons_zero, List.getElem_cons_succ, List.setIfInBounds_toArray, List.set_cons_zero, List.set_cons_succ]
              refine wpAnyH_take (i := 16) (v := ?v26x16) rfl (by as_aux_lemma => kernel_rfl) (by as_aux_lemma => kernel_rfl) (by as_aux_lemma => kernel_rfl) (fun _ _ _ h => h) (Or.inl ⟨by rfl, ?hy26x16⟩) (by assumption) ?rest26x16
              case hy26x16 => intro w hSw; go_simp <;> with_reducible rfl
              simp only [Act.put, List.getElem_toArray, List.getElem_cons_zero, List.getElem_cons_succ, List.setIfInBounds_toArray, List.set_cons_zero, List.set_cons_succ]
              refine wpAnyH_take (i := 17) (v := (.int .i64 mi)) rfl (by as_aux_lemma => kernel_rfl) (by as_aux_lemma => kernel_rfl) (by as_aux_lemma => kernel_rfl) (fun _ _ _ h => h) (Or.inl ⟨by rfl, ?hy27x17⟩) (by assumption) ?rest27x17
              case hy27x17 => intro w hSw; obtain ⟨c1, c2⟩ := (unhide HCC) _ hSw; go_simp <;> with_reducible rfl
              simp only [Act.put, List.getElem_toArray, List.getElem_cons_zero, List.getElem_cons_succ, List.setIfInBounds_toArray, List.set_cons_zero, List.set_cons_succ]
              refine wpAnyH_take (i := 18) (v := (.bool true)) rfl (by as_aux_lemma => kernel_rfl) (by as_aux_lemma => kernel_rfl) (by as_aux_lemma => kernel_rfl) (fun _ _ _ h => h) (Or.inl ⟨by rfl, ?hy28x18⟩) (by assumption) ?rest28x18
              case hy28x18 => intro w hSw; skip; go_simp <;> with_reducible rfl
              simp only [Act.put, List.getElem_toArray, List.getElem_cons_zero, List.getElem_cons_succ, List.setIfInBounds_toArray, List.set_cons_zero, List.set_cons_succ]
              refine wpAnyH_take (i := 19) (v := ?v29x19) rfl (by as_aux_lemma => kernel_rfl) (by as_aux_lemma => kernel_rfl) (by as_aux_lemma => kernel_rfl) (fun _ _ _ h => h) (Or.inl ⟨by rfl, ?hy29x19⟩) (by assumption) ?rest29x19
              case hy29x19 => intro w hSw; go_simp <;> with_reducible rfl
              simp only [Act.put, List.getElem_toArray, List.getElem_cons_zero, List.getElem_cons_succ, List.setIfInBounds_toArray, List.set_cons_zero, List.set_cons_succ]
              refine wpAnyH_done (by as_aux_lemma => kernel_rfl) ?_ _
              clear hHeld
              go_wp2
              go_roundw
              case rel => exact ⟨i + 1, by omega, by go_num, (unhide HG).1, (unhide HG).2⟩
              case measure => simp [intOf]; omega
            · have hd1 : decide (lvi ≥ mi) = false := decide_eq_false hge
              have hd2 : decide (mi ≤ lvi) = false := decide_eq_false hge
              have HG : Hid (w3.heap[g]? = some (.cells (nV (rowL L t (rl L t (i + 1)))) 3) ∧ But g Y w3) := by rw [unhide HRS, hd2]; exact unhide HRW3
              clear hge
              refine wpAnyH_take (i := 10) (v := ?v30x10) rfl (by as_aux_lemma => kernel_rfl) (by as_aux_lemma => kernel_rfl) (by as_aux_lemma => kernel_rfl) (fun _ _ _ h => h) (Or.inl ⟨by rfl, ?hy30x10⟩) (by assumption) ?rest30x10
              case hy30x10 => intro w hSw; go_simp <;> with_reducible rfl
              simp only [Act.put, List.getElem_toArray, List.getElem_cons_zero, List.getElem_cons_succ, List.setIfInBounds_toArray, List.set_cons_zero, List.set_cons_succ]
              refine wpAnyH_take (i := 11) (v := ?v31x11) rfl (by as_aux_lemma => kernel_rfl) (by as_aux_lemma => kernel_rfl) (by as_aux_lemma => kernel_rfl) (fun _ _ _ h => h) (Or.inl ⟨by rfl, ?hy31x11⟩) (by assumption) ?rest31x11
              case hy31x11 => intro w hSw; go_simp <;> with_reducible rfl
              simp only [Act.put, List.getElem_toArray, List.getElem_cons_zero, List.getElem_cons_succ, List.setIfInBounds_toArray, List.set_cons_zero, List.set_cons_succ]
              refine wpAnyH_take (i := 12) (v := ?v32x12) rfl (by as_aux_lemma => kernel_rfl) (by as_aux_lemma => kernel_rfl) (by as_aux_lemma => kernel_rfl) (fun _ _ _ h => h) (Or.inl ⟨by rfl, ?hy32x12⟩) (by assumption) ?rest32x12
              case hy32x12 => intro w hSw; go_simp <;> with_reducible rfl
              simp only [Act.put, List.getElem_toArray, List.getElem_cons_zero, List.getElem_cons_succ, List.setIfInBounds_toArray, List.set_cons_zero, List.set_cons_succ]
              refine wpAnyH_take (i := 13) (v := (.int .i64 lvi)) rfl (by as_aux_lemma => kernel_rfl) (by as_aux_lemma => kernel_rfl) (by as_aux_lemma => kernel_rfl) (fun _ _ _ h => h) (Or.inl ⟨by rfl, ?hy33x13⟩) (by assumption) ?rest33x13
              case hy33x13 => intro w hSw; obtain ⟨c1, c2⟩ := (unhide HCC) _ hSw; go_simp <;> with_reducible rfl
              simp only [Act.put, List.getElem_toArray, List.getElem_cons_zero, List.getElem_cons_succ, List.setIfInBounds_toArray, List.set_cons_zero, List.set_cons_succ]
              refine wpAnyH_take (i := 14) (v := ?v34x14) rfl (by as_aux_lemma => kernel_rfl) (by as_aux_lemma => kernel_rfl) (by as_aux_lemma => kernel_rfl) (fun _ _ _ h => h) (Or.inl ⟨by rfl, ?hy34x14⟩) (by assumption) ?rest34x14
              case hy34x14 => intro w hSw; go_simp <;> with_reducible rfl
              simp only [Act.put, List.getElem_toArray, List.getElem_cons_zero, List.getElem_cons_succ, List.setIfInBounds_toArray, List.set_cons_zero, List.set_cons_succ]
              refine wpAnyH_take (i := 15) (v := ?v35x15) rfl (by as_aux_lemma => kernel_rfl) (by as_aux_lemma => kernel_rfl) (by as_aux_lemma => kernel_rfl) (fun _ _ _ h => h) (Or.inl ⟨by rfl, ?hy35x15⟩) (by assumption) ?rest35x15
              case hy35x15 => intro w hSw; go_simp <;> with_reducible rfl
              simp only [Act.put, List.getElem_toArray, List.getElem_cons_zero, List.getElem_cons_succ, List.setIfInBounds_toArray, List.set_cons_zero, List.set_cons_succ]
              refine wpAnyH_take (i := 16) (v := ?v36x16) rfl (by as_aux_lemma => kernel_rfl) (by as_aux_lemma => kernel_rfl) (by as_aux_lemma => kernel_rfl) (fun _ _ _ h => h) (Or.inl ⟨by rfl, ?hy36x16⟩) (by assumption) ?rest36x16
              case hy36x16 => intro w hSw; go_simp <;> with_reducible rfl
              simp only [Act.put, List.getElem_toArray, List.getElem_cons_zero, List.getElem_cons_succ, List.setIfInBounds_toArray, List.set_cons_zero, List.set_cons_succ]
              refine wpAnyH_take (i := 17) (v := (.int .i64 mi)) rfl (by as_aux_lemma => kernel_rfl) (by as_aux_lemma => kernel_rfl) (by as_aux_lemma => kernel_rfl) (fun _ _ _ h => h) (Or.inl ⟨by rfl, ?hy37x17⟩) (by assumption) ?rest37x17
              case hy37x17 => intro w hSw; obtain ⟨c1, c2⟩ := (unhide HCC) _ hSw; go_simp <;> with_reducible rfl
              simp only [Act.put, List.getElem_toArray, List.getElem_cons_zero, List.getElem_cons_succ, List.setIfInBounds_toArray, List.set_cons_zero, List.set_cons_succ]
              refine wpAnyH_take (i := 18) (v := (.bool false)) rfl (by as_aux_lemma => kernel_rfl) (by as_aux_lemma => kernel_rfl) (by as_aux_lemma => kernel_rfl) (fun _ _ _ h => h) (Or.inl ⟨by rfl, ?hy38x18⟩) (by assumption) ?rest38x18
              case hy38x18 => intro w hSw; skip; go_simp <;> with_reducible rfl
              simp only [Act.put, List.getElem_toArray, List.getElem_cons_zero, List.getElem_cons_succ, List.setIfInBounds_toArray, List.set_cons_zero, List.set_cons_succ]
              refine wpAnyH_take (i := 19) (v := ?v39x19) rfl (by as_aux_lemma => kernel_rfl) (by as_aux_lemma => kernel_rfl) (by as_aux_lemma => kernel_rfl) (fun _ _ _ h => h) (Or.inl ⟨by rfl, ?hy39x19⟩) (by assumption) ?rest39x19
              case hy39x19 => intro w hSw; go_simp <;> with_reducible rfl
              simp only [Act.put, List.getElem_toArray, List.getElem_cons_zero, List.getElem_cons_succ, List.setIfInBounds_toArray, List.set_cons_zero, List.set_cons_succ]
              refine wpAnyH_done (by as_aux_lemma => kernel_rfl) ?_ _
              clear hHeld
              go_wp2
              go_roundw
              case rel => exact ⟨i + 1, by omega, by go_num, (unhide HG).1, (unhide HG).2⟩
              case measure => simp [intOf]; omega
        · obtain rfl : i = t := by omega
          rw [rl_top hltN, rowL_end L hltN] at hrow
          have HG := hide (And.intro hrow hbi)
          clear hrow hbi
          go_wp2
          go_roundw
          case rel => exact ⟨i + 1, by omega, by go_num, (unhide HG).1, (unhide HG).2⟩
          case measure => simp [intOf]; omega
    · obtain rfl : t = m := by omega
      have hll := unhide HLL
      have hlv := levelsP_len L
      rw [List.take_of_length_le (by omega), hll, Nat.sub_self, List.replicate_zero, List.append_nil] at hrow
      have hsee : SeesL nC 1 wr (.slice (some ⟨g, 0, none⟩) t t) (levelsP L) := ⟨_, t, g, 0, by rw [hlv, hll], by omega, by omega, (fun h => by cases h), fun _ => rfl, fun q x hq j hj => by
        obtain rfl : j = 0 := by omega
        rw [show 0 + q * 1 + 0 = q by omega, cell_at hrow, nV_at _ hq]
        rfl⟩
      have hbf : Below w.heap.size w wr := (unhide HBY).1.trans (hbr.low (by have := (unhide HBY).2; omega) (unhide HBY).1.size)
      have HF := hide (And.intro hsee hbf)
      clear hll hlv hrow hbr hsee hbf
      go_wp2
      go_ret
      exact ⟨some ⟨g, 0, none⟩, t, by rw [unhide HLL]; rfl, by rw [unhide HLL]; exact (unhide HF).1, (unhide HF).2⟩
end Go.Proofs.Ytibjhjkeflbghaa
