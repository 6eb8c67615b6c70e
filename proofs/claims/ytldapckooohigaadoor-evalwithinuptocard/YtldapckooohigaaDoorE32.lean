/- Changes. -/
import Derived.Test.YtldapckooohigaaDoorJH
import Derived.Test.YtldapckooohigaaDoorJI
namespace Go.Proofs.YtldapckooohigaaDoor
open Go.RowKit
set_option maxRecDepth 100000

theorem okE_ch {D : List Ch} (h : ∀ c ∈ D, OkK c.1) : ∀ q ∈ D.map chE, OkK q.1 := fun q hq => by
  obtain ⟨p, hp, rfl⟩ := List.mem_map.1 hq
  exact h _ hp
theorem sees_at4 {w : World} {v : Value} {l : List Ch} (h : SeesL chC 4 w v l) : ∃ ao cap gb ob, v = .slice ao l.length cap ∧ l.length ≤ cap ∧ l.length ≤ 9223372036854775807 ∧ (0 < l.length → ao = some ⟨gb, ob, none⟩) ∧ ∀ t, t < l.length → w.cell? ⟨gb, ob + t * 4, none⟩ = some (.int .i32 (l.getD t default).1.1) ∧ w.cell? ⟨gb, ob + t * 4 + 1, none⟩ = some (.int .i64 (l.getD t default).1.2) ∧ w.cell? ⟨gb, ob + t * 4 + 2, none⟩ = some (.int .i64 (l.getD t default).2.1) ∧ w.cell? ⟨gb, ob + t * 4 + 3, none⟩ = some (.bool (l.getD t default).2.2) := by
  obtain ⟨ao, cap, gb, ob, h1, h2, h3, h4, h5, h6⟩ := h
  refine ⟨ao, cap, gb, ob, h1, h2, h3, h5, fun t ht => ?_⟩
  have e : l[t]? = some (l.getD t default) := by simp [List.getD, ht]
  exact ⟨h6 t _ e 0 (by omega), h6 t _ e 1 (by omega), h6 t _ e 2 (by omega), h6 t _ e 3 (by omega)⟩
set_option maxHeartbeats 1600000 in
theorem changes_any {v : Value} {l : List Ch} {w : World} (hs : SeesL chC 4 w v l) (hok : ∀ p ∈ l, OkK p.1) (hll : l.length < 4398046511104) :
    Calls Tryd.prog 14 #[v] w fun e w' => ∃ x, e = .returned x ∧ w'.ownsRow w.heap.size 40 4 x (srtD l).length ((srtD l).flatMap chC) ∧ Below w.heap.size w w' := by
  have HS : Hid (∀ w', Below w.heap.size w w' → SeesL chC 4 w' v l) := fun w' hb => hs.below chC_len hb
  have HO : Hid (∀ t, ∀ c ∈ ddD (l.take t), OkK c.1) := fun t c hc => hok c (List.mem_of_mem_take (ddD_sub hc))
  have HOK := hide hok
  have HLL := hide hll
  obtain ⟨ao, cap, _, _, hv, hcap, hmax, _⟩ := sees_at4 hs
  have HV := hide hv
  obtain ⟨n, hn⟩ : ∃ n, l.length = n := ⟨_, rfl⟩
  rw [hv, hn]
  have HN := hide hn
  rw [hn] at hcap hmax
  obtain ⟨y, hy⟩ : ∃ y, w.alloc (.map #[] 0) = y := ⟨_, rfl⟩
  have HK0 : Hid (MapAt y w.heap.size ((ddD (l.take 0)).map chE) ∧ Below w.heap.size w y) := ⟨⟨#[], 0, hy ▸ heap_alloc_new w _, rfl, stp_nil⟩, hy ▸ below_box _⟩
  clear hs hv hn hok hll
  have hmk : (Instr.makeMap 67 none).run Tryd.prog w = .ok (.map (some w.heap.size)) y := by rw [← hy]; rfl
  go_enter Tryd.func14, Tryd.ntmps14
  go_wp2_with (rw [hy])
  go_loopw [9] (fun c wr => ∃ t : Nat, t ≤ n ∧ c = .int .i64 t ∧ MapAt wr w.heap.size ((ddD (l.take t)).map chE) ∧ Below w.heap.size w wr) (fun c _ => n - (intOf c).toNat)
  case atStart => exact ⟨0, by omega, rfl, (unhide HK0).1, (unhide HK0).2⟩
  case round =>
    obtain ⟨t, ht, rfl, hma, hbl⟩ := hrel
    have HMA := hide hma
    have HBL := hide hbl
    by_cases hlt : t < n
    · obtain ⟨ao', cap', gb, ob, hv', _, _, hao, hcl⟩ := sees_at4 (unhide HS wr hbl)
      rw [unhide HV] at hv'
      simp only [Value.slice.injEq, true_and] at hv'
      obtain ⟨rfl, rfl⟩ := hv'
      have hnl := unhide HN
      obtain rfl := hao (by omega)
      obtain ⟨g1, g2, g3, g4⟩ := hcl t (by omega)
      have htl : t < l.length := by omega
      obtain ⟨⟨⟨a, b⟩, ⟨c, d⟩⟩, hx⟩ : ∃ k, l.getD t default = k := ⟨_, rfl⟩
      have hx' : l[t] = ((a, b), (c, d)) := by rw [← hx]; simp [List.getD, htl]
      rw [hx] at g1 g2 g3 g4
      have hokx : OkK (a, b) := by have := unhide HOK _ (List.getElem_mem htl); rw [hx'] at this; exact this
      have hdd : ddD (l.take (t + 1)) = addD (ddD (l.take t)) ((a, b), (c, d)) := by
        rw [List.take_succ_eq_append_getElem htl, ddD_snoc, hx']
      obtain ⟨y1, hy1⟩ : ∃ y, wr.alloc (.cells #[.int .i32 a, .int .i64 b, .int .i64 c, .bool d] 40) = y := ⟨_, rfl⟩
      have b1 : Below wr.heap.size wr y1 := hy1 ▸ below_box _
      have x1 : y1.heap[wr.heap.size]? = some (.cells #[.int .i32 a, .int .i64 b, .int .i64 c, .bool d] 40) := by rw [← hy1]; exact heap_alloc_new wr _
      have c1 : y1.cell? ⟨wr.heap.size, 0, none⟩ = some (.int .i32 a) := cell_at x1
      have c2 : y1.cell? ⟨wr.heap.size, 1, none⟩ = some (.int .i64 b) := cell_at x1
      have c3 : y1.cell? ⟨wr.heap.size, 2, none⟩ = some (.int .i64 c) := cell_at x1
      have c4 : y1.cell? ⟨wr.heap.size, 3, none⟩ = some (.bool d) := cell_at x1
      have hm1 := hma.below b1
      obtain ⟨y3, r1, m3, o3, z3, p1, p2, p3⟩ := map_put (k := (a, b)) Tryd.underlying67 hm1 (okE_ch (unhide HO t)) (by rw [chE_keys]; exact (ddD_spec _).1) hokx (.agg #[.int .i32 a, .int .i64 b, .int .i64 c, .bool d])
      have HR : Hid (MapAt y3 w.heap.size ((ddD (l.take (t + 1))).map chE) ∧ Below w.heap.size w y3) := by
        refine ⟨?_, (hbl.trans (b1.mono hbl.size)).trans (below_put (Nat.le_refl _) o3 z3 p1 p2 p3)⟩
        rw [hdd, ← addV_chE]
        exact m3
      have hr1 : (Instr.mapUpdate 67 (.map (some w.heap.size)) (.agg #[.int .i32 a, .int .i64 b]) (.agg #[.int .i32 a, .int .i64 b, .int .i64 c, .bool d])).run Tryd.prog y1 = .ok () y3 := r1
      clear hcl hao hx hx' hnl hma hbl hdd b1 x1 hm1 hokx htl r1 m3 o3 z3 p1 p2 p3
      go_wp2_with (first | rw [hy1])
      go_roundw
      case rel => exact ⟨t + 1, by omega, by go_num, (unhide HR).1, (unhide HR).2⟩
      case measure => simp [intOf]; omega
    · obtain rfl : t = n := by omega
      have hnl := unhide HN
      rw [List.take_of_length_le (by omega)] at hma
      have HC := hide (rising_any hma (ddD_spec _).1 (Nat.lt_of_le_of_lt (ddD_spec l).2.2 (unhide HLL)))
      clear hma hbl hnl
      go_wp2_with (go_at_call 32; have HQ := unhide HC; refine Calls.mono HQ ?_; clear HQ HC; rintro e w1 ⟨x, D', rfl, hq⟩; have HQ := hide hq; clear hq)
      go_ret
      obtain ⟨q1, q2, q3, q4⟩ := unhide HQ
      have hb := unhide HBL
      obtain rfl := ddD_sorted q3 q2
      exact ⟨_, rfl, own_mono q1 hb.size, hb.trans (q4.mono hb.size)⟩
end Go.Proofs.YtldapckooohigaaDoor
