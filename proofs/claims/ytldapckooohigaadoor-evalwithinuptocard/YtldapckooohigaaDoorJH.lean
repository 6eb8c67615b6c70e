/- Several texts as one. -/
import Derived.Test.YtldapckooohigaaDoorJE

/- byKey. -/
namespace Go.Proofs.YtldapckooohigaaDoor
open Go.RowKit
set_option maxRecDepth 100000

theorem okE_pr {D : List Pr} (h : ∀ k ∈ keysOf D, OkK k) : ∀ q ∈ D.map prE, OkK q.1 := fun q hq => by
  obtain ⟨p, hp, rfl⟩ := List.mem_map.1 hq
  exact h _ (List.mem_map.2 ⟨p, hp, rfl⟩)
set_option maxHeartbeats 1600000 in
theorem byKey_any {v : Value} {l : List Pr} {w : World} (hs : SeesL pC 3 w v l) (hok : ∀ p ∈ l, OkK p.1) :
    Calls Tryd.prog 33 #[v] w fun e w' => ∃ mb, e = .returned (.map (some mb)) ∧ w.heap.size ≤ mb ∧ MapAt w' mb ((ddP l).map prE) ∧ Below w.heap.size w w' := by
  have HS : Hid (∀ w', Below w.heap.size w w' → SeesL pC 3 w' v l) := fun w' hb => hs.below pC_len hb
  have HO : Hid (∀ t, ∀ k ∈ keysOf (ddP (l.take t)), OkK k) := fun t => keysOf_ddP_ok fun p hp => hok p (List.mem_of_mem_take hp)
  have HOK := hide hok
  obtain ⟨ao, cap, _, _, hv, hcap, hmax, _⟩ := SeesL.pair hs
  have HV := hide hv
  obtain ⟨n, hn⟩ : ∃ n, l.length = n := ⟨_, rfl⟩
  rw [hv, hn]
  have HN := hide hn
  rw [hn] at hcap hmax
  obtain ⟨y, hy⟩ : ∃ y, w.alloc (.map #[] 0) = y := ⟨_, rfl⟩
  have HK0 : Hid (MapAt y w.heap.size ((ddP (l.take 0)).map prE) ∧ Below w.heap.size w y) := ⟨⟨#[], 0, hy ▸ heap_alloc_new w _, rfl, stp_nil⟩, hy ▸ below_box _⟩
  clear hs hv hn hok
  have hmk : (Instr.makeMap 69 none).run Tryd.prog w = .ok (.map (some w.heap.size)) y := by rw [← hy]; rfl
  go_enter Tryd.func33, Tryd.ntmps33
  go_wp2_with (rw [hy])
  go_loopw [9] (fun c wr => ∃ t : Nat, t ≤ n ∧ c = .int .i64 t ∧ MapAt wr w.heap.size ((ddP (l.take t)).map prE) ∧ Below w.heap.size w wr) (fun c _ => n - (intOf c).toNat)
  case atStart => exact ⟨0, by omega, rfl, (unhide HK0).1, (unhide HK0).2⟩
  case round =>
    obtain ⟨t, ht, rfl, hma, hbl⟩ := hrel
    have HMA := hide hma
    have HBL := hide hbl
    by_cases hlt : t < n
    · obtain ⟨ao', cap', gb, ob, hv', _, _, hao, hcl⟩ := SeesL.pair (unhide HS wr hbl)
      rw [unhide HV] at hv'
      simp only [Value.slice.injEq, true_and] at hv'
      obtain ⟨rfl, rfl⟩ := hv'
      have hnl := unhide HN
      obtain rfl := hao (by omega)
      obtain ⟨g1, g2, g3⟩ := hcl t (by omega)
      have htl : t < l.length := by omega
      obtain ⟨⟨⟨a, b⟩, c⟩, hx⟩ : ∃ k, l.getD t default = k := ⟨_, rfl⟩
      have hx' : l[t] = ((a, b), c) := by rw [← hx]; simp [List.getD, htl]
      rw [hx] at g1 g2 g3
      have hokx : OkK (a, b) := by have := unhide HOK _ (List.getElem_mem htl); rw [hx'] at this; exact this
      have hdd : ddP (l.take (t + 1)) = addP (ddP (l.take t)) ((a, b), c) := by
        rw [List.take_succ_eq_append_getElem htl, ddP_snoc, hx']
      obtain ⟨y1, hy1⟩ : ∃ y, wr.alloc (.cells #[.int .i32 a, .int .i64 b, .int .i64 c] 45) = y := ⟨_, rfl⟩
      have b1 : Below wr.heap.size wr y1 := hy1 ▸ below_box _
      have x1 : y1.heap[wr.heap.size]? = some (.cells #[.int .i32 a, .int .i64 b, .int .i64 c] 45) := by rw [← hy1]; exact heap_alloc_new wr _
      have c1 : y1.cell? ⟨wr.heap.size, 0, none⟩ = some (.int .i32 a) := cell_at x1
      have c2 : y1.cell? ⟨wr.heap.size, 1, none⟩ = some (.int .i64 b) := cell_at x1
      have c3 : y1.cell? ⟨wr.heap.size, 2, none⟩ = some (.int .i64 c) := cell_at x1
      have hm1 := hma.below b1
      obtain ⟨y3, r1, m3, o3, z3, p1, p2, p3⟩ := map_put (k := (a, b)) Tryd.underlying69 hm1 (okE_pr (unhide HO t)) (by rw [prE_keys]; exact (ddP_spec _).1) hokx (.int .i64 c)
      have HR : Hid (MapAt y3 w.heap.size ((ddP (l.take (t + 1))).map prE) ∧ Below w.heap.size w y3) := by
        refine ⟨?_, (hbl.trans (b1.mono hbl.size)).trans (below_put (Nat.le_refl _) o3 z3 p1 p2 p3)⟩
        rw [hdd, ← addV_prE]
        exact m3
      have hr1 : (Instr.mapUpdate 69 (.map (some w.heap.size)) (.agg #[.int .i32 a, .int .i64 b]) (.int .i64 c)).run Tryd.prog y1 = .ok () y3 := r1
      clear hcl hao hx hx' hnl hma hbl hdd b1 x1 hm1 hokx htl r1 m3 o3 z3 p1 p2 p3
      go_wp2_with (first | rw [hy1])
      go_roundw
      case rel => exact ⟨t + 1, by omega, by go_num, (unhide HR).1, (unhide HR).2⟩
      case measure => simp [intOf]; omega
    · obtain rfl : t = n := by omega
      have hnl := unhide HN
      rw [List.take_of_length_le (by omega)] at hma
      have HMB := hide hma
      clear hma hbl hnl
      go_wp2
      go_ret
      exact ⟨_, rfl, Nat.le_refl _, unhide HMB, unhide HBL⟩
end Go.Proofs.YtldapckooohigaaDoor

/- Needs. -/
namespace Go.Proofs.YtldapckooohigaaDoor
open Go.RowKit
set_option maxRecDepth 100000

def nedP (rs : List Ky) (m : List Pr) : List Pr := m.filter fun p => decide (p.1 ∈ rs)
def unE (k : Ky) : Ky × Value := (k, .agg #[])
theorem unE_keys (D : List Ky) : (D.map unE).map (·.1) = D := by rw [List.map_map]; exact List.map_id _
theorem addV_unE (D : List Ky) (k : Ky) : addV (D.map unE) (unE k) = (addK D k).map unE := by
  unfold addV addK
  rw [unE_keys]
  show (if k ∈ D then (D.map unE).set (D.idxOf k) (unE k) else D.map unE ++ [unE k]) = _
  by_cases h : k ∈ D
  · rw [if_pos h, if_pos h, ← List.map_set]
    congr 1
    refine List.ext_getElem? fun j => ?_
    by_cases hj : D.idxOf k = j
    · subst hj
      have hi := List.idxOf_lt_length_of_mem h
      rw [List.getElem?_set_self hi, List.getElem?_eq_getElem hi, List.getElem_idxOf hi]
    · rw [List.getElem?_set_ne hj]
  · rw [if_neg h, if_neg h, List.map_append]; rfl
theorem nedP_snoc (rs : List Ky) (m : List Pr) (p : Pr) : nedP rs (m ++ [p]) = if p.1 ∈ rs then nedP rs m ++ [p] else nedP rs m := by
  unfold nedP
  rw [List.filter_append]
  by_cases h : p.1 ∈ rs
  · rw [if_pos h, List.filter_cons_of_pos (by simpa using h)]; rfl
  · rw [if_neg h, List.filter_cons_of_neg (by simpa using h)]; simp
theorem nedP_len (rs : List Ky) (m : List Pr) : (nedP rs m).length ≤ m.length := List.length_filter_le _ _
theorem okE_un {D : List Ky} (h : ∀ k ∈ D, OkK k) : ∀ q ∈ D.map unE, OkK q.1 := fun q hq => by
  obtain ⟨p, hp, rfl⟩ := List.mem_map.1 hq
  exact h _ hp
set_option maxHeartbeats 3200000 in
theorem needs_any {s r : Int} {cv av rv wv mv : Value} {rs : List Ky} {m : List Pr} {w : World} (h1 : SeesL kC 2 w rv rs) (hok1 : ∀ k ∈ rs, OkK k) (h2 : SeesL pC 3 w mv m) (hok2 : ∀ p ∈ m, OkK p.1) (hll : m.length ≤ 5864062014805) :
    Calls Tryd.prog 19 #[.agg #[.int .i64 s, .int .i64 r, cv, av, rv, wv], mv] w fun e w' => ∃ x, e = .returned x ∧ w'.ownsRow w.heap.size 45 3 x (srtP (nedP rs m)).length ((srtP (nedP rs m)).flatMap pC) ∧ Below w.heap.size w w' := by
  obtain ⟨a1, p1, _, _, hv1, hcap1, hmax1, _⟩ := SeesL.keyS h1
  obtain ⟨a2, p2, _, _, hv2, hcap2, hmax2, _⟩ := SeesL.pair h2
  have HV1 := hide hv1
  have HV2 := hide hv2
  obtain ⟨n1, hn1⟩ : ∃ n, rs.length = n := ⟨_, rfl⟩
  obtain ⟨n2, hn2⟩ : ∃ n, m.length = n := ⟨_, rfl⟩
  have HN1 := hide hn1
  have HN2 := hide hn2
  have HLL := hide hll
  rw [hv1, hv2, hn1, hn2]
  rw [hn1] at hcap1 hmax1
  rw [hn2] at hcap2 hmax2
  have HO1 : Hid (∀ t, ∀ k ∈ dd (rs.take t), OkK k) := fun t k hk => hok1 k (List.mem_of_mem_take ((dd_mem _ k).1 hk))
  have HOK1 := hide hok1
  have HOK2 := hide hok2
  obtain ⟨wb, hwb⟩ : ∃ y, w.alloc (.cells #[.int .i64 s, .int .i64 r, cv, av, .slice a1 n1 p1, wv] 35) = y := ⟨_, rfl⟩
  have hbb : Below w.heap.size w wb := hwb ▸ below_box _
  have hzb : wb.heap.size = w.heap.size + 1 := by rw [← hwb]; simp
  have hxb : wb.heap[w.heap.size]? = some (.cells #[.int .i64 s, .int .i64 r, cv, av, .slice a1 n1 p1, wv] 35) := hwb ▸ heap_alloc_new w _
  obtain ⟨y, hy⟩ : ∃ y, wb.alloc (.map #[] 0) = y := ⟨_, rfl⟩
  have hby : Below w.heap.size w y := hy ▸ hbb.alloc hbb.size _
  have cr : y.cell? ⟨w.heap.size, 4, none⟩ = some (.slice a1 n1 p1) := by
    rw [← hy]
    exact ((below_box (.map #[] 0)).cell (by rw [hzb]; exact Nat.lt_succ_self _)).trans (cell_at hxb)
  have HK0 : Hid (MapAt y wb.heap.size ((dd (rs.take 0)).map unE) ∧ Below w.heap.size w y) := ⟨⟨#[], 0, hy ▸ heap_alloc_new wb _, rfl, stp_nil⟩, hby⟩
  have hmk : (Instr.makeMap 72 none).run Tryd.prog wb = .ok (.map (some wb.heap.size)) y := by rw [← hy]; rfl
  have HS1 : Hid (∀ w', Below w.heap.size w w' → SeesL kC 2 w' rv rs) := fun w' hb => h1.below kC_len hb
  have HS2 : Hid (∀ w', Below w.heap.size w w' → SeesL pC 3 w' mv m) := fun w' hb => h2.below pC_len hb
  have HZB : Hid (w.heap.size ≤ wb.heap.size) := by show w.heap.size ≤ wb.heap.size; omega
  have HWB := hide hwb
  have HY := hide hy
  clear h1 h2 hv1 hv2 hn1 hn2 hll hok1 hok2 hwb hbb hxb hy hby hzb
  go_enter Tryd.func19, Tryd.ntmps19
  go_wp2_with (first | rw [unhide HWB] | rw [unhide HY])
  go_loopw [17] (fun c wr => ∃ t : Nat, t ≤ n1 ∧ c = .int .i64 t ∧ MapAt wr wb.heap.size ((dd (rs.take t)).map unE) ∧ Below w.heap.size w wr) (fun c _ => n1 - (intOf c).toNat)
  case atStart => exact ⟨0, by omega, rfl, (unhide HK0).1, (unhide HK0).2⟩
  case round =>
    obtain ⟨t, ht, rfl, hma, hbl⟩ := hrel
    have HMA := hide hma
    have HBL := hide hbl
    by_cases hlt : t < n1
    · obtain ⟨ao', cap', gb, ob, hv', _, _, hao, hcl⟩ := SeesL.keyS (unhide HS1 wr hbl)
      rw [unhide HV1] at hv'
      simp only [Value.slice.injEq, true_and] at hv'
      obtain ⟨rfl, rfl⟩ := hv'
      have hnl := unhide HN1
      obtain rfl := hao (by omega)
      obtain ⟨g1, g2⟩ := hcl t (by omega)
      have htl : t < rs.length := by omega
      obtain ⟨⟨a, b⟩, hx⟩ : ∃ k, rs.getD t default = k := ⟨_, rfl⟩
      have hx' : rs[t] = (a, b) := by rw [← hx]; simp [List.getD, htl]
      rw [hx] at g1 g2
      have hokx : OkK (a, b) := by have := unhide HOK1 _ (List.getElem_mem htl); rw [hx'] at this; exact this
      have hdd : dd (rs.take (t + 1)) = addK (dd (rs.take t)) (a, b) := by
        rw [List.take_succ_eq_append_getElem htl, dd_snoc, hx']
      obtain ⟨y1, hy1⟩ : ∃ y, wr.alloc (.cells #[.int .i32 a, .int .i64 b] 38) = y := ⟨_, rfl⟩
      have b1 : Below wr.heap.size wr y1 := hy1 ▸ below_box _
      have x1 : y1.heap[wr.heap.size]? = some (.cells #[.int .i32 a, .int .i64 b] 38) := by rw [← hy1]; exact heap_alloc_new wr _
      have c1 : y1.cell? ⟨wr.heap.size, 0, none⟩ = some (.int .i32 a) := cell_at x1
      have c2 : y1.cell? ⟨wr.heap.size, 1, none⟩ = some (.int .i64 b) := cell_at x1
      have hm1 := hma.below b1
      obtain ⟨y3, r1, m3, o3, z3, q1, q2, q3⟩ := map_put (k := (a, b)) Tryd.underlying72 hm1 (okE_un (unhide HO1 t)) (by rw [unE_keys]; exact dd_nodup _) hokx (.agg #[])
      have HR : Hid (MapAt y3 wb.heap.size ((dd (rs.take (t + 1))).map unE) ∧ Below w.heap.size w y3) := by
        refine ⟨?_, (hbl.trans (b1.mono hbl.size)).trans (below_put (unhide HZB) o3 z3 q1 q2 q3)⟩
        rw [hdd, ← addV_unE]
        exact m3
      have hr1 : (Instr.mapUpdate 72 (.map (some wb.heap.size)) (.agg #[.int .i32 a, .int .i64 b]) (.agg #[])).run Tryd.prog y1 = .ok () y3 := r1
      clear hcl hao hx hx' hnl hma hbl hdd b1 x1 hm1 hokx htl r1 m3 o3 z3 q1 q2 q3
      go_wp2_with (first | rw [hy1])
      go_roundw
      case rel => exact ⟨t + 1, by omega, by go_num, (unhide HR).1, (unhide HR).2⟩
      case measure => simp [intOf]; omega
    · obtain rfl : t = n1 := by omega
      have hnl := unhide HN1
      rw [List.take_of_length_le (by omega)] at hma
      have HMB := hide hma
      clear hma hbl hnl
      go_wp2
      go_loopw [8, 27] (fun o c wr => ∃ t : Nat, t ≤ n2 ∧ c = .int .i64 t ∧ MapAt wr wb.heap.size ((dd rs).map unE) ∧ Below w.heap.size w wr ∧ wr.ownsRow w.heap.size 45 3 o (nedP rs (m.take t)).length ((nedP rs (m.take t)).flatMap pC)) (fun _ c _ => n2 - (intOf c).toNat)
      case atStart => exact ⟨0, by omega, rfl, unhide HMB, unhide HBL, own_nil _ _ _ _⟩
      case round =>
        obtain ⟨t2, ht2, rfl, hma, hbl, how⟩ := hrel
        have HOW := hide how
        have HBM := hide hbl
        by_cases hlt2 : t2 < n2
        · obtain ⟨ao', cap', gb, ob, hv', _, _, hao, hcl⟩ := SeesL.pair (unhide HS2 wr hbl)
          rw [unhide HV2] at hv'
          simp only [Value.slice.injEq, true_and] at hv'
          obtain ⟨rfl, rfl⟩ := hv'
          have hnl := unhide HN2
          obtain rfl := hao (by omega)
          obtain ⟨g1, g2, g3⟩ := hcl t2 (by omega)
          have htl : t2 < m.length := by omega
          obtain ⟨⟨⟨a, b⟩, c⟩, hx⟩ : ∃ k, m.getD t2 default = k := ⟨_, rfl⟩
          have hx' : m[t2] = ((a, b), c) := by rw [← hx]; simp [List.getD, htl]
          rw [hx] at g1 g2 g3
          have hokx : OkK (a, b) := by have := unhide HOK2 _ (List.getElem_mem htl); rw [hx'] at this; exact this
          have hne : nedP rs (m.take (t2 + 1)) = if (a, b) ∈ rs then nedP rs (m.take t2) ++ [((a, b), c)] else nedP rs (m.take t2) := by
            rw [List.take_succ_eq_append_getElem htl, nedP_snoc, hx']
          obtain ⟨y1, hy1⟩ : ∃ y, wr.alloc (.cells #[.int .i32 a, .int .i64 b, .int .i64 c] 45) = y := ⟨_, rfl⟩
          obtain ⟨y2, hy2⟩ : ∃ y, y1.alloc (.cells #[] 73) = y := ⟨_, rfl⟩
          have b1 : Below wr.heap.size wr y1 := hy1 ▸ below_box _
          have hz1 : y1.heap.size = wr.heap.size + 1 := by rw [← hy1]; simp
          have b2 : Below wr.heap.size wr y2 := hy2 ▸ b1.alloc b1.size _
          have x1 : y1.heap[wr.heap.size]? = some (.cells #[.int .i32 a, .int .i64 b, .int .i64 c] 45) := by rw [← hy1]; exact heap_alloc_new wr _
          have x2 : y2.heap[wr.heap.size]? = some (.cells #[.int .i32 a, .int .i64 b, .int .i64 c] 45) := by rw [← hy2]; exact (Below.heap_alloc y1 _ _ (by omega)).trans x1
          have c1 : y1.cell? ⟨wr.heap.size, 0, none⟩ = some (.int .i32 a) := cell_at x1
          have c2 : y1.cell? ⟨wr.heap.size, 1, none⟩ = some (.int .i64 b) := cell_at x1
          have c3 : y1.cell? ⟨wr.heap.size, 2, none⟩ = some (.int .i64 c) := cell_at x1
          have d1 : y2.cell? ⟨wr.heap.size, 0, none⟩ = some (.int .i32 a) := cell_at x2
          have d2 : y2.cell? ⟨wr.heap.size, 1, none⟩ = some (.int .i64 b) := cell_at x2
          have d3 : y2.cell? ⟨wr.heap.size, 2, none⟩ = some (.int .i64 c) := cell_at x2
          have hlo : (nedP rs (m.take t2)).length ≤ t2 := Nat.le_trans (nedP_len _ _) (by simp; omega)
          have hll := unhide HLL
          have hkd : ∀ k ∈ dd rs, OkK k := fun k hk => unhide HOK1 k ((dd_mem _ k).1 hk)
          by_cases hin : (a, b) ∈ rs
          · have hL : (Instr.lookup 72 (.map (some wb.heap.size)) (.agg #[.int .i32 a, .int .i64 b]) true).run Tryd.prog y1 = .ok (.tuple #[.agg #[], .bool true]) y1 := look_has Tryd.underlying72 (hma.below b1) (okE_un hkd) (by rw [unE_keys]; exact dd_nodup _) (k := (a, b)) (List.mem_map.2 ⟨_, (dd_mem _ _).2 hin, rfl⟩)
            have ho2 := own_below how b2
            have hal : Below y2.heap.size y2 (y2.alloc (.cells #[.int .i32 a, .int .i64 b, .int .i64 c] 45)) := below_box _
            have ho3 := own_below ho2 hal
            have hb3 : Below w.heap.size w (y2.alloc (.cells #[.int .i32 a, .int .i64 b, .int .i64 c] 45)) := (hbl.trans (b2.mono hbl.size)).trans (hal.mono (hbl.trans (b2.mono hbl.size)).size)
            obtain ⟨v', y5, r2, ho5, hg5⟩ := append_pairs 29 ho3 (sees_oneP y2 ((a, b), c)) (by simp only [List.length_cons, List.length_nil]; omega) hb3.size
            have hm5 := map_grown ((hma.below b2).below hal) ho3 hg5
            have hb5 : Below w.heap.size w y5 := hb3.trans ((Below.refl _ _).grown hg5 hb3.size (own_block_le ho3))
            obtain ⟨ov, oc, hov⟩ := own_shape how
            have HR : Hid (MapAt y5 wb.heap.size ((dd rs).map unE) ∧ Below w.heap.size w y5 ∧ y5.ownsRow w.heap.size 45 3 v' (nedP rs (m.take (t2 + 1))).length ((nedP rs (m.take (t2 + 1))).flatMap pC)) := by
              rw [hne, if_pos hin]
              exact ⟨hm5, hb5, by simpa using ho5⟩
            have HR2 := hide r2
            clear hcl hao hx hx' hnl hma hbl hne b1 b2 x1 x2 hz1 hin hokx htl how ho2 hal ho3 hb3 r2 ho5 hg5 hm5 hb5 hlo hll hkd hov
            go_wp2_with (first | rw [hy1] | rw [hy2] | (refine wpList_append_wanted (by rfl) _ _ 29 rfl rfl rfl (unhide HR2) ?_))
            go_roundw
            case rel => exact ⟨t2 + 1, by omega, by go_num, (unhide HR).1, (unhide HR).2.1, (unhide HR).2.2⟩
            case measure => simp [intOf]; omega
          · have hL : (Instr.lookup 72 (.map (some wb.heap.size)) (.agg #[.int .i32 a, .int .i64 b]) true).run Tryd.prog y1 = .ok (.tuple #[.agg #[], .bool false]) y1 := look_no Tryd.underlying72 (z := .agg #[]) Tryd.zeroValue73 (hma.below b1) (okE_un hkd) (k := (a, b)) hokx fun q hq e => by
              obtain ⟨k, hk, rfl⟩ := List.mem_map.1 hq
              exact hin ((dd_mem _ _).1 ((show k = (a, b) from e) ▸ hk))
            obtain ⟨ov, oc, hov⟩ := own_shape how
            subst hov
            have HR : Hid (MapAt y2 wb.heap.size ((dd rs).map unE) ∧ Below w.heap.size w y2 ∧ y2.ownsRow w.heap.size 45 3 (.slice ov (nedP rs (m.take t2)).length oc) (nedP rs (m.take (t2 + 1))).length ((nedP rs (m.take (t2 + 1))).flatMap pC)) := by
              rw [hne, if_neg hin]
              exact ⟨hma.below b2, hbl.trans (b2.mono hbl.size), own_below how b2⟩
            clear hcl hao hx hx' hnl hma hbl hne b1 b2 x1 x2 hz1 hin hokx htl how hlo hll hkd
            go_wp2_with (first | rw [hy1] | rw [hy2])
            go_roundw
            case rel => exact ⟨t2 + 1, by omega, by go_num, (unhide HR).1, (unhide HR).2.1, (unhide HR).2.2⟩
            case measure => simp [intOf]; omega
        · obtain rfl : t2 = n2 := by omega
          have hnl := unhide HN2
          rw [List.take_of_length_le (by omega)] at how
          obtain ⟨_, hse⟩ := own_sees pC_len (by decide) how
          have hok : ∀ p ∈ nedP rs m, OkK p.1 := fun p hp => unhide HOK2 p (List.mem_filter.1 hp).1
          have HC := hide (pairs_any hse hok (Nat.le_trans (nedP_len _ _) (unhide HLL)))
          clear hma hbl hnl how hse hok
          go_wp2_with (go_at_call 34; refine (unhide HC).mono ?_; rintro e w1 ⟨x, rfl, hq⟩; have HQ := hide hq; clear hq)
          go_ret
          obtain ⟨q1, q2⟩ := unhide HQ
          have hb := unhide HBM
          exact ⟨_, rfl, own_mono q1 hb.size, hb.trans (q2.mono hb.size)⟩
end Go.Proofs.YtldapckooohigaaDoor
