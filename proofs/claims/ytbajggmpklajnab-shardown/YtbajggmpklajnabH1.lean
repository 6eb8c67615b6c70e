/- Merge, Pairs. -/
import Derived.Test.YtbajggmpklajnabH0
namespace Go.Proofs.Ytbajggmpklajnab
open Go.RowKit
set_option maxRecDepth 100000

abbrev Ls := Value × List Pr
def lC (q : Ls) : List Value := [q.1]
theorem lC_len (q : Ls) : (lC q).length = 1 := rfl
/-- Lists of pairs, seen. -/
def SeesLs (w : World) (v : Value) (qs : List Ls) : Prop := SeesL lC 1 w v qs ∧ ∀ q ∈ qs, SeesL pC 3 w q.1 q.2
theorem SeesLs.below {w w' : World} {v : Value} {qs : List Ls} (h : SeesLs w v qs) (hb : Below w.heap.size w w') : SeesLs w' v qs := ⟨h.1.below lC_len hb, fun q hq => (h.2 q hq).below pC_len hb⟩
def allP (qs : List Ls) : List Pr := qs.flatMap (·.2)
theorem pair_cells {y : World} {v : Value} {l : List Pr} (hs : SeesL pC 3 y v l) {ao : Option Addr} {n cap : Nat} (hv : v = .slice ao n cap) {t : Nat} (ht : t < l.length) : ∃ gb ob, ao = some ⟨gb, ob, none⟩ ∧ n = l.length ∧ ∀ x, Below y.heap.size y x → x.cell? ⟨gb, ob + t * 3, none⟩ = some (.int .i32 (l.getD t default).1.1) ∧ x.cell? ⟨gb, ob + t * 3 + 1, none⟩ = some (.int .i64 (l.getD t default).1.2) ∧ x.cell? ⟨gb, ob + t * 3 + 2, none⟩ = some (.int .i64 (l.getD t default).2) := by
  obtain ⟨ao', cap', gb, ob, hv', _, _, hao, hcl⟩ := SeesL.pair hs
  rw [hv] at hv'
  simp only [Value.slice.injEq] at hv'
  obtain ⟨rfl, rfl, rfl⟩ := hv'
  refine ⟨gb, ob, hao (by omega), rfl, fun x hx => ?_⟩
  obtain ⟨c1, c2, c3⟩ := hcl t ht
  exact ⟨(hx.cell (p := ⟨gb, ob + t * 3, none⟩) (World.block_lt_of_cell? y _ c1)).trans c1, (hx.cell (p := ⟨gb, ob + t * 3 + 1, none⟩) (World.block_lt_of_cell? y _ c2)).trans c2, (hx.cell (p := ⟨gb, ob + t * 3 + 2, none⟩) (World.block_lt_of_cell? y _ c3)).trans c3⟩
theorem keysOf_ddP_ok {l : List Pr} (h : ∀ p ∈ l, OkK p.1) : ∀ k ∈ keysOf (ddP l), OkK k := fun k hk => by
  obtain ⟨⟨k', u⟩, hp, rfl⟩ := List.mem_map.1 hk
  have hv := ((ddP_spec l).2.1 k' u).1 hp
  have : ∀ (l : List Pr), valOf l k' = some u → ∃ p ∈ l, p.1 = k' := by
    intro l
    refine snocInd (P := fun l => valOf l k' = some u → ∃ p ∈ l, p.1 = k') (fun h => by simp [valOf] at h) (fun l p ih h => ?_) l
    rw [valOf_snoc] at h
    by_cases e : p.1 = k'
    · exact ⟨p, by simp, e⟩
    · rw [if_neg e] at h
      obtain ⟨q, hq, e'⟩ := ih h
      exact ⟨q, by simp [hq], e'⟩
  obtain ⟨p, hp', e⟩ := this l hv
  exact e ▸ h p hp'

set_option maxHeartbeats 6400000 in
theorem merge_any {v : Value} {qs : List Ls} {w : World} (hs : SeesLs w v qs) (hok : ∀ p ∈ allP qs, OkK p.1) (hll : (allP qs).length ≤ 5864062014805) :
    Calls Try.prog 12 #[v] w fun e w' => ∃ r, e = .returned r ∧ w'.ownsRow w.heap.size 29 3 r (srtP (allP qs)).length ((srtP (allP qs)).flatMap pC) ∧ Below w.heap.size w w' := by
  have HS : Hid (∀ w', Below w.heap.size w w' → SeesLs w' v qs) := fun w' hb => hs.below hb
  have HOK : Hid (∀ l, (∀ p ∈ l, p ∈ allP qs) → ∀ k ∈ keysOf (ddP l), OkK k) := fun l h => keysOf_ddP_ok fun p hp => hok p (h p hp)
  have HO1 := hide hok
  obtain ⟨ao, cap, hv⟩ := hs.1.shape
  have hmax : qs.length ≤ 9223372036854775807 := by obtain ⟨_, _, _, _, _, _, h3, _⟩ := hs.1; exact h3
  have HV := hide hv
  obtain ⟨n, hn⟩ : ∃ n, qs.length = n := ⟨_, rfl⟩
  rw [hn] at HV hmax
  rw [hv, hn]
  have HN := hide hn
  have HLL := hide hll
  have HK0 := hide (PI.start w)
  obtain ⟨y, hy⟩ : ∃ y, w.alloc (.map #[] 0) = y := ⟨_, rfl⟩
  rw [hy] at HK0
  have hmk : (Instr.makeMap 54 none).run Try.prog w = .ok (.map (some w.heap.size)) y := by rw [← hy]; rfl
  clear hs hv hn hok hll
  go_enter Try.func12, Try.ntmps12
  go_wp2_with (rw [hy])
  go_loopw [3, 14] (fun o c wr => ∃ t : Nat, t ≤ n ∧ c = .int .i64 t ∧ PI w w.heap.size wr o (ddP (allP (qs.take t)))) (fun _ c _ => n - (intOf c).toNat)
  case atStart => exact ⟨0, by omega, rfl, unhide HK0⟩
  case round =>
    obtain ⟨t, ht, rfl, hpi⟩ := hrel
    obtain ⟨wo, rfl⟩ : ∃ x, x = wr := ⟨_, rfl⟩
    have HPI := hide hpi
    by_cases hlt : t < n
    · have hnl := unhide HN
      have htl : t < qs.length := by omega
      have hsl := unhide HS wo hpi.bel
      obtain ⟨lv, hlv⟩ : ∃ q, qs[t] = q := ⟨_, rfl⟩
      have hqs := hsl.2 lv (hlv ▸ List.getElem_mem htl)
      have hcell : ∃ gb ob, ao = some ⟨gb, ob, none⟩ ∧ wo.cell? ⟨gb, ob + t, none⟩ = some lv.1 := by
        obtain ⟨ao', cap', gb, ob, e, _, _, _, h5, h6⟩ := hsl.1
        rw [unhide HV] at e
        simp only [Value.slice.injEq] at e
        obtain ⟨rfl, _, rfl⟩ := e
        refine ⟨gb, ob, h5 (by omega), ?_⟩
        have := h6 t lv (by rw [List.getElem?_eq_getElem htl, hlv]) 0 (by omega)
        rw [Nat.mul_one, Nat.add_zero] at this
        exact this
      obtain ⟨gb, ob, hao, hc1⟩ := hcell
      subst hao
      obtain ⟨V, L⟩ := lv
      simp only at hqs hc1
      obtain ⟨al, cl, hshape⟩ := hqs.shape
      subst hshape
      have htk : allP (qs.take (t + 1)) = allP (qs.take t) ++ L := by
        rw [List.take_succ_eq_append_getElem htl, hlv]
        simp [allP]
      have hsub : ∀ s, ∀ p ∈ allP (qs.take t) ++ L.take s, p ∈ allP qs := fun s p hp => by
        have h1 : p ∈ allP (qs.take (t + 1)) := by
          rw [htk]
          rcases List.mem_append.1 hp with c | c
          · exact List.mem_append_left _ c
          · exact List.mem_append_right _ (List.mem_of_mem_take c)
        obtain ⟨q, hq, hpq⟩ := List.mem_flatMap.1 h1
        exact List.mem_flatMap.2 ⟨q, List.mem_of_mem_take hq, hpq⟩
      have hlenall : (allP (qs.take t) ++ L).length ≤ (allP qs).length := by
        rw [← htk]
        have e : allP qs = allP (qs.take (t + 1)) ++ allP (qs.drop (t + 1)) := by
          unfold allP
          rw [← List.flatMap_append, List.take_append_drop]
        rw [e]
        simp
      have HLA : Hid ((allP (qs.take t) ++ L).length ≤ 5864062014805) := Nat.le_trans hlenall (unhide HLL)
      have HSUB := hide hsub
      have HTK := hide htk
      have HSL : Hid (∀ x, Below w.heap.size w x → SeesL pC 3 x (.slice al L.length cl) L) := fun x hx => by
        have h := (unhide HS x hx).2 ((.slice al L.length cl, L) : Ls) (hlv ▸ List.getElem_mem htl)
        exact h
      obtain ⟨hcl, hlmax⟩ : L.length ≤ cl ∧ L.length ≤ 9223372036854775807 := by
        obtain ⟨_, _, _, _, e, h2, h3, _⟩ := hqs
        simp only [Value.slice.injEq] at e
        obtain ⟨_, _, rfl⟩ := e
        exact ⟨h2, h3⟩
      obtain ⟨ln, hln⟩ : ∃ k, L.length = k := ⟨_, rfl⟩
      have HLN := hide hln
      rw [hln] at HSL hc1 hcl hlmax
      obtain ⟨ov, oc, hov⟩ := own_shape hpi.own
      have hpi0 : PI w w.heap.size wo (.slice ov (ddP (allP (qs.take t))).length oc) (ddP (allP (qs.take t) ++ L.take 0)) := by rw [List.take_zero, List.append_nil, ← hov]; exact hpi
      have HP0 := hide hpi0
      subst hov
      clear hnl htl hsl hlv hqs htk hsub hlenall hln hpi hpi0
      go_wp2_with fail
      go_loopw [3, 20] (fun o c wi => ∃ s : Nat, s ≤ ln ∧ c = .int .i64 s ∧ PI w w.heap.size wi o (ddP (allP (qs.take t) ++ L.take s))) (fun _ c _ => ln - (intOf c).toNat)
      case atStart => exact ⟨0, by omega, rfl, unhide HP0⟩
      case round =>
        obtain ⟨s, hsn, rfl, hpi⟩ := hrel
        by_cases hsl : s < ln
        · have hll := unhide HLN
          have hsL : s < L.length := by omega
          obtain ⟨gl, ol, hal, -, hcc⟩ := pair_cells (unhide HSL wr hpi.bel) rfl hsL
          subst hal
          obtain ⟨⟨⟨a, b⟩, c⟩, hx⟩ : ∃ k, L.getD s default = k := ⟨_, rfl⟩
          have hx' : L[s] = ((a, b), c) := by rw [← hx]; simp [List.getD, hsL]
          rw [hx] at hcc
          obtain ⟨g1, g2, g3⟩ := hcc wr (Below.refl _ _)
          have hdd : ddP (allP (qs.take t) ++ L.take (s + 1)) = addP (ddP (allP (qs.take t) ++ L.take s)) ((a, b), c) := by
            rw [List.take_succ_eq_append_getElem hsL, ← List.append_assoc, ddP_snoc, hx']
          have hokx : OkK (a, b) := unhide HO1 ((a, b), c) (unhide HSUB (s + 1) _ (List.mem_append_right _ (by rw [List.take_succ_eq_append_getElem hsL, hx']; simp)))
          have hokD := unhide HOK _ (unhide HSUB s)
          obtain ⟨D, hD⟩ : ∃ D, ddP (allP (qs.take t) ++ L.take s) = D := ⟨_, rfl⟩
          have hDl : D.length < 5864062014805 := by
            have h1 := (ddP_spec (allP (qs.take t) ++ L.take s)).2.2
            have h2 := unhide HLA
            rw [hD] at h1
            simp only [List.length_append, List.length_take] at h1 h2
            omega
          have hDn : (keysOf D).Nodup := hD ▸ (ddP_spec _).1
          rw [hD] at hpi hdd hokD
          have HDD := hide hdd
          obtain ⟨y1, hy1⟩ : ∃ y, wr.alloc (.cells #[.int .i32 a, .int .i64 b, .int .i64 c] 29) = y := ⟨_, rfl⟩
          have b1 : Below wr.heap.size wr y1 := hy1 ▸ below_box _
          have x1 : y1.heap[wr.heap.size]? = some (.cells #[.int .i32 a, .int .i64 b, .int .i64 c] 29) := by rw [← hy1]; exact heap_alloc_new wr _
          have c1 : y1.cell? ⟨wr.heap.size, 0, none⟩ = some (.int .i32 a) := cell_at x1
          have c2 : y1.cell? ⟨wr.heap.size, 1, none⟩ = some (.int .i64 b) := cell_at x1
          have c3 : y1.cell? ⟨wr.heap.size, 2, none⟩ = some (.int .i64 c) := cell_at x1
          by_cases hin : (a, b) ∈ keysOf D
          · have hL := hpi.hit b1 hokD hDn hin
            obtain ⟨i, hi⟩ : ∃ i, (keysOf D).idxOf (a, b) = i := ⟨_, rfl⟩
            have hil := List.idxOf_lt_length_of_mem hin
            have hik := List.getElem_idxOf hil
            rw [hi] at hL
            have hiD : i < D.length := by rw [← hi]; simpa [keysOf] using hil
            have hkk : ∀ (h : i < D.length), D[i].1 = (a, b) := fun h => by
              subst hi
              simp only [keysOf, List.getElem_map] at hik
              exact hik
            have hp1 := hpi.grow b1
            rcases hp1.own.2 with ⟨_, e0⟩ | ⟨g', cap', cur, hv', hbg, hh', hnc, _⟩
            · omega
            obtain ⟨m, hm⟩ : ∃ m, D.length = m := ⟨_, rfl⟩
            rw [hv'] at hp1
            obtain ⟨q1, q2, q3⟩ := hp1.store (p := ((a, b), c)) hiD hkk
            obtain ⟨u0, k0⟩ := q1 0 (by omega)
            obtain ⟨u1, k1⟩ := q1 1 (by omega)
            obtain ⟨u2, k2⟩ := q1 2 (by omega)
            rw [Nat.add_zero] at k0
            have f0 := q2 (i * 3)
            have f1 := q2 (i * 3 + 1)
            have f2 := q2 (i * 3 + 2)
            have HR : Hid (PI w w.heap.size (((y1.setCell ⟨g', i * 3, none⟩ (.int .i32 a)).setCell ⟨g', i * 3 + 1, none⟩ (.int .i64 b)).setCell ⟨g', i * 3 + 2, none⟩ (.int .i64 c)) (.slice (some ⟨g', 0, none⟩) m cap') (ddP (allP (qs.take t) ++ L.take (s + 1)))) := by
              rw [hdd, addP, if_pos hin, hi, ← hm]
              exact q3
            rw [hm] at hv' hiD
            subst hv'
            clear hll hsL hx hx' hcc hdd hokx hokD hD hDl hDn b1 x1 hin hil hik hkk hp1 hpi q1 q2 q3 hi hm hbg hh' hnc
            go_wp2_with (rw [hy1])
            go_roundw
            case rel => exact ⟨s + 1, by omega, by go_num, unhide HR⟩
            case measure => simp [intOf]; omega
          · have hL := hpi.miss b1 hokD hokx hin
            obtain ⟨y3, y5, g', cap', r1, o3, r2, hp5, hcap', hfr⟩ := hpi.more (c := c) b1 hokD hokx hin hDl
            have hmb : wr.heap.size ≠ w.heap.size := hpi.map.below b1 |>.apart x1
            have x3 : y3.heap[wr.heap.size]? = some (.cells #[.int .i32 a, .int .i64 b, .int .i64 c] 29) := (o3 _ hmb).trans x1
            have hvo : ∀ u : Value, u.ownBlock = some wr.heap.size → wr.ownsRow w.heap.size 29 3 u D.length (D.flatMap pC) → False := fun u hu ho => by
              have := (ho.lt _ hu).2
              omega
            have x5 : y5.heap[wr.heap.size]? = some (.cells #[.int .i32 a, .int .i64 b, .int .i64 c] 29) := (hfr _ (.inr fun e => hvo _ e hpi.own) (Array.getElem?_eq_some_iff.1 x3).1 hmb (fun e => hvo _ e hpi.own)).trans x3
            have c4 : y3.cell? ⟨wr.heap.size, 0, none⟩ = some (.int .i32 a) := cell_at x3
            have c5 : y3.cell? ⟨wr.heap.size, 1, none⟩ = some (.int .i64 b) := cell_at x3
            have c6 : y3.cell? ⟨wr.heap.size, 2, none⟩ = some (.int .i64 c) := cell_at x3
            have c7 : y5.cell? ⟨wr.heap.size, 0, none⟩ = some (.int .i32 a) := cell_at x5
            have c8 : y5.cell? ⟨wr.heap.size, 1, none⟩ = some (.int .i64 b) := cell_at x5
            have c9 : y5.cell? ⟨wr.heap.size, 2, none⟩ = some (.int .i64 c) := cell_at x5
            obtain ⟨q1, q2, q3⟩ := hp5.store (i := D.length) (p := ((a, b), c)) (by simp) (fun h => by simp)
            obtain ⟨m, hm⟩ : ∃ m, D.length = m := ⟨_, rfl⟩
            obtain ⟨u0, k0⟩ := q1 0 (by omega)
            obtain ⟨u1, k1⟩ := q1 1 (by omega)
            obtain ⟨u2, k2⟩ := q1 2 (by omega)
            rw [Nat.add_zero] at k0
            have f0 := q2 (D.length * 3)
            have f1 := q2 (D.length * 3 + 1)
            have f2 := q2 (D.length * 3 + 2)
            have hset : (D ++ [((a, b), c)]).set D.length ((a, b), c) = D ++ [((a, b), c)] := by
              rw [List.set_append_right _ _ (Nat.le_refl _)]
              simp
            rw [hset] at q3
            have HR : Hid (PI w w.heap.size (((y5.setCell ⟨g', m * 3, none⟩ (.int .i32 a)).setCell ⟨g', m * 3 + 1, none⟩ (.int .i64 b)).setCell ⟨g', m * 3 + 2, none⟩ (.int .i64 c)) (.slice (some ⟨g', 0, none⟩) (m + 1) cap') (ddP (allP (qs.take t) ++ L.take (s + 1)))) := by
              rw [hdd, addP, if_neg hin, ← hm]
              exact q3
            obtain ⟨ov2, oc2, hov2⟩ := own_shape hpi.own
            rw [hov2] at r2
            rw [hm] at r1 r2 k0 k1 k2 f0 f1 f2 hov2 hcap' hDl
            have hm1 : m < m + 1 := by omega
            subst hov2
            clear hll hsL hx hx' hcc hdd hokx hokD hD hDn b1 x1 x3 x5 hin hpi q1 q2 q3 hm o3 hp5 hfr hmb hvo hset
            go_wp2_with (first | rw [hy1] | (refine wpList_append_wanted (by rfl) _ _ 23 rfl rfl rfl r2 ?_))
            go_roundw
            case rel => exact ⟨s + 1, by omega, by go_num, unhide HR⟩
            case measure => simp [intOf]; omega
        · obtain rfl : s = ln := by omega
          have hll := unhide HLN
          have etk : L.take s = L := List.take_of_length_le (by omega)
          rw [etk, ← unhide HTK] at hpi
          clear etk
          have HR := hide hpi
          obtain ⟨ov2, oc2, hov2⟩ := own_shape hpi.own
          subst hov2
          clear hpi hll
          go_wp2
          go_roundw
          case rel => exact ⟨t + 1, by omega, by go_num, unhide HR⟩
          case measure => simp [intOf]; omega
    · obtain rfl : t = n := by omega
      have hnl := unhide HN
      rw [List.take_of_length_le (by omega)] at hpi
      obtain ⟨d1, d2, d3⟩ := ddP_spec (allP qs)
      have hll := unhide HLL
      have HC := hide (sortP_any hpi.own d1 (by omega) hpi.bel.size)
      have HB := hide hpi.bel
      obtain ⟨ov, oc, hov⟩ := own_shape hpi.own
      subst hov
      obtain ⟨m, hm⟩ : ∃ m, (ddP (allP qs)).length = m := ⟨_, rfl⟩
      have HM := hide hm
      rw [hm] at HC
      rw [hm]
      clear hpi hnl hm d1 d2 d3 hll
      go_wp2_with (go_at_call 22; refine (unhide HC).mono ?_; rintro e w1 ⟨rfl, D', ho, hr, hp, hb1⟩; have HF := hide (And.intro ho (And.intro hr (And.intro hp hb1))); clear ho hr hp hb1)
      go_ret
      obtain ⟨ho, hr, hp, hb1⟩ := unhide HF
      have e := ddP_sorted hp hr
      subst e
      have hl2 : (srtP (allP qs)).length = m := hp.length_eq.trans (unhide HM)
      exact ⟨_, rfl, by rw [hl2]; exact ho, (unhide HB).trans hb1⟩

theorem pairs_any {v : Value} {l : List Pr} {w : World} (hs : SeesL pC 3 w v l) (hok : ∀ p ∈ l, OkK p.1) (hll : l.length ≤ 5864062014805) :
    Calls Try.prog 5 #[v] w fun e w' => ∃ r, e = .returned r ∧ w'.ownsRow w.heap.size 29 3 r (srtP l).length ((srtP l).flatMap pC) ∧ Below w.heap.size w w' := by
  obtain ⟨y, hy⟩ : ∃ y, w.alloc (.cells #[v] 23) = y := ⟨_, rfl⟩
  have hby : Below w.heap.size w y := hy ▸ below_box _
  have hsy : SeesLs y (.slice (some ⟨w.heap.size, 0, none⟩) 1 1) [((v, l) : Ls)] := by
    refine ⟨⟨_, 1, w.heap.size, 0, rfl, by simp, by simp, (fun h => by cases h), fun _ => rfl, fun t x hx j hj => ?_⟩, fun q hq => ?_⟩
    · obtain ⟨ht, rfl⟩ := List.getElem?_eq_some_iff.1 hx
      obtain rfl : t = 0 := by simpa using ht
      obtain rfl : j = 0 := by omega
      rw [← hy, cell_at (heap_alloc_new w _)]
      rfl
    · obtain rfl := List.mem_singleton.1 hq
      exact hs.below pC_len hby
  have hall : allP [((v, l) : Ls)] = l := by simp [allP]
  have HC := hide (merge_any hsy (by rw [hall]; exact hok) (by rw [hall]; exact hll))
  rw [hall] at HC
  have HB := hide hby
  obtain ⟨ao, cap, hv⟩ := hs.shape
  subst hv
  clear hs hby hsy hall
  go_enter Try.func5, Try.ntmps5
  go_wp2_with (first | rw [hy] | (go_at_call 12; refine (unhide HC).mono ?_; rintro e w1 ⟨r, rfl, ho, hb⟩; have HF := hide (And.intro ho hb); clear ho hb))
  go_ret
  obtain ⟨ho, hb⟩ := unhide HF
  exact ⟨_, rfl, own_mono ho (unhide HB).size, (unhide HB).trans (hb.mono (unhide HB).size)⟩
end Go.Proofs.Ytbajggmpklajnab
