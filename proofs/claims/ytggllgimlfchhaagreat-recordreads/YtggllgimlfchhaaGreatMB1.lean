/- Record: which messages are the same: the program. -/
import Derived.Test.YtggllgimlfchhaaGreatKJ
namespace Go.Proofs.YtggllgimlfchhaaGreat
open Go.RowKit
set_option maxRecDepth 100000

set_option maxHeartbeats 6400000 in
theorem sameMsg_any (cs ds : Array Value) (m n : MsgD) (w : World) (hm : SeesM w cs m) (hn : SeesM w ds n) (om : OkM m) (on : OkM n) :
    Calls Tryz.prog 68 #[.agg cs, .agg ds] w fun e w' => e = .returned (.bool (decide (m = n))) ∧ Below w.heap.size w w' := by
  rw [sameM_eq]
  obtain ⟨aK, aF, aO, aT, aS, aL, aC, aY, alist, ⟨aek, aef, aen, atxns⟩, ⟨aps, api, apm, adata⟩⟩ := m
  obtain ⟨bK, bF, bO, bT, bS, bL, bC, bY, blist, ⟨bek, bef, ben, btxns⟩, ⟨bps, bpi, bpm, bdata⟩⟩ := n
  obtain ⟨_, _, _, rfl, hm1, hm2, hm3⟩ := hm
  obtain ⟨_, _, _, rfl, hn1, hn2, hn3⟩ := hn
  obtain ⟨om1, om2, om3⟩ := om
  obtain ⟨on1, on2, on3⟩ := on
  simp only at hm1 hm2 hm3 hn1 hn2 hn3 om1 om2 om3 on1 on2 on3 ⊢
  obtain ⟨D2, hD2⟩ : ∃ D, decide ((⟨aek, aef, aen, atxns⟩ : EntD) = ⟨bek, bef, ben, btxns⟩) = D := ⟨_, rfl⟩
  obtain ⟨D3, hD3⟩ : ∃ D, decide ((⟨aps, api, apm, adata⟩ : PtD) = ⟨bps, bpi, bpm, bdata⟩) = D := ⟨_, rfl⟩
  rw [hD2, hD3]
  have HD2 := hide hD2
  have HD3 := hide hD3
  clear hD2 hD3
  have M1 := hide hm1
  have M2 := hide hm2
  have M3 := hide hm3
  have N1 := hide hn1
  have N2 := hide hn2
  have N3 := hide hn3
  obtain ⟨ala, alc, _, _, rfl, _⟩ := hm1
  obtain ⟨ata, atc, _, _, rfl, _⟩ := hm2
  obtain ⟨ada, adc, rfl, _⟩ := hm3
  obtain ⟨bla, blc, _, _, rfl, _⟩ := hn1
  obtain ⟨bta, btc, _, _, rfl, _⟩ := hn2
  obtain ⟨bda, bdc, rfl, _⟩ := hn3
  have HB : Hid (Below w.heap.size w ((w.alloc (.cells #[.int .i64 aK, .int .i64 aF, .int .i64 aO, .int .i64 aT, .int .i64 aS, .int .i64 aL, .int .i64 aC, .bool aY, .slice ala alist.length alc, .int .i64 aek, .int .i64 aef, .int .i64 aen, .slice ata atxns.length atc, .int .i64 aps, .int .i64 api, .int .i64 apm, .slice ada adata.length adc] 34)).alloc (.cells #[.int .i64 bK, .int .i64 bF, .int .i64 bO, .int .i64 bT, .int .i64 bS, .int .i64 bL, .int .i64 bC, .bool bY, .slice bla blist.length blc, .int .i64 bek, .int .i64 bef, .int .i64 ben, .slice bta btxns.length btc, .int .i64 bps, .int .i64 bpi, .int .i64 bpm, .slice bda bdata.length bdc] 34))) := ((Below.refl _ _).alloc (Nat.le_refl _) _).alloc (by simp) _
  by_cases h0 : aK = bK
  case neg =>
    go_enter Tryz.func68, Tryz.ntmps68
    go_wp2_with fail
    go_ret
    exact ⟨retBool (by simp [h0]), unhide HB⟩
  subst h0
  by_cases h1 : aF = bF
  case neg =>
    go_enter Tryz.func68, Tryz.ntmps68
    go_wp2_with fail
    go_ret
    exact ⟨retBool (by simp [h1]), unhide HB⟩
  subst h1
  by_cases h2 : aO = bO
  case neg =>
    go_enter Tryz.func68, Tryz.ntmps68
    go_wp2_with fail
    go_ret
    exact ⟨retBool (by simp [h2]), unhide HB⟩
  subst h2
  by_cases h3 : aT = bT
  case neg =>
    go_enter Tryz.func68, Tryz.ntmps68
    go_wp2_with fail
    go_ret
    exact ⟨retBool (by simp [h3]), unhide HB⟩
  subst h3
  by_cases h4 : aS = bS
  case neg =>
    go_enter Tryz.func68, Tryz.ntmps68
    go_wp2_with fail
    go_ret
    exact ⟨retBool (by simp [h4]), unhide HB⟩
  subst h4
  by_cases h5 : aL = bL
  case neg =>
    go_enter Tryz.func68, Tryz.ntmps68
    go_wp2_with fail
    go_ret
    exact ⟨retBool (by simp [h5]), unhide HB⟩
  subst h5
  by_cases h6 : aC = bC
  case neg =>
    go_enter Tryz.func68, Tryz.ntmps68
    go_wp2_with fail
    go_ret
    exact ⟨retBool (by simp [h6]), unhide HB⟩
  subst h6
  by_cases h8 : aY = bY
  case neg =>
    have h8b : (aY == bY) = false := beq_eq_false_iff_ne.2 h8
    go_enter Tryz.func68, Tryz.ntmps68
    go_wp2_with fail
    go_ret
    exact ⟨retBool (by simp [h8]), unhide HB⟩
  subst h8
  have HBX : Hid (∀ x : World, Below (w.heap.size + 2) ((w.alloc (.cells #[.int .i64 aK, .int .i64 aF, .int .i64 aO, .int .i64 aT, .int .i64 aS, .int .i64 aL, .int .i64 aC, .bool aY, .slice ala alist.length alc, .int .i64 aek, .int .i64 aef, .int .i64 aen, .slice ata atxns.length atc, .int .i64 aps, .int .i64 api, .int .i64 apm, .slice ada adata.length adc] 34)).alloc (.cells #[.int .i64 aK, .int .i64 aF, .int .i64 aO, .int .i64 aT, .int .i64 aS, .int .i64 aL, .int .i64 aC, .bool aY, .slice bla blist.length blc, .int .i64 bek, .int .i64 bef, .int .i64 ben, .slice bta btxns.length btc, .int .i64 bps, .int .i64 bpi, .int .i64 bpm, .slice bda bdata.length bdc] 34)) x → x.cell? ⟨w.heap.size, 9, none⟩ = some (.int .i64 aek) ∧ x.cell? ⟨w.heap.size, 10, none⟩ = some (.int .i64 aef) ∧ x.cell? ⟨w.heap.size, 11, none⟩ = some (.int .i64 aen) ∧ x.cell? ⟨w.heap.size, 12, none⟩ = some (.slice ata atxns.length atc) ∧ x.cell? ⟨w.heap.size, 13, none⟩ = some (.int .i64 aps) ∧ x.cell? ⟨w.heap.size, 14, none⟩ = some (.int .i64 api) ∧ x.cell? ⟨w.heap.size, 15, none⟩ = some (.int .i64 apm) ∧ x.cell? ⟨w.heap.size, 16, none⟩ = some (.slice ada adata.length adc) ∧ x.cell? ⟨w.heap.size + 1, 9, none⟩ = some (.int .i64 bek) ∧ x.cell? ⟨w.heap.size + 1, 10, none⟩ = some (.int .i64 bef) ∧ x.cell? ⟨w.heap.size + 1, 11, none⟩ = some (.int .i64 ben) ∧ x.cell? ⟨w.heap.size + 1, 12, none⟩ = some (.slice bta btxns.length btc) ∧ x.cell? ⟨w.heap.size + 1, 13, none⟩ = some (.int .i64 bps) ∧ x.cell? ⟨w.heap.size + 1, 14, none⟩ = some (.int .i64 bpi) ∧ x.cell? ⟨w.heap.size + 1, 15, none⟩ = some (.int .i64 bpm) ∧ x.cell? ⟨w.heap.size + 1, 16, none⟩ = some (.slice bda bdata.length bdc)) := fun x hb => by
    have e : (w.alloc (.cells #[.int .i64 aK, .int .i64 aF, .int .i64 aO, .int .i64 aT, .int .i64 aS, .int .i64 aL, .int .i64 aC, .bool aY, .slice ala alist.length alc, .int .i64 aek, .int .i64 aef, .int .i64 aen, .slice ata atxns.length atc, .int .i64 aps, .int .i64 api, .int .i64 apm, .slice ada adata.length adc] 34)).heap.size = w.heap.size + 1 := by simp
    have q1 : x.heap[w.heap.size]? = some (.cells #[.int .i64 aK, .int .i64 aF, .int .i64 aO, .int .i64 aT, .int .i64 aS, .int .i64 aL, .int .i64 aC, .bool aY, .slice ala alist.length alc, .int .i64 aek, .int .i64 aef, .int .i64 aen, .slice ata atxns.length atc, .int .i64 aps, .int .i64 api, .int .i64 apm, .slice ada adata.length adc] 34) := (hb.block _ (by omega)).trans ((Below.heap_alloc _ _ _ (by simp)).trans (heap_alloc_new w _))
    have q2 : x.heap[w.heap.size + 1]? = some (.cells #[.int .i64 aK, .int .i64 aF, .int .i64 aO, .int .i64 aT, .int .i64 aS, .int .i64 aL, .int .i64 aC, .bool aY, .slice bla blist.length blc, .int .i64 bek, .int .i64 bef, .int .i64 ben, .slice bta btxns.length btc, .int .i64 bps, .int .i64 bpi, .int .i64 bpm, .slice bda bdata.length bdc] 34) := (hb.block _ (by omega)).trans (by have := heap_alloc_new (w.alloc (.cells #[.int .i64 aK, .int .i64 aF, .int .i64 aO, .int .i64 aT, .int .i64 aS, .int .i64 aL, .int .i64 aC, .bool aY, .slice ala alist.length alc, .int .i64 aek, .int .i64 aef, .int .i64 aen, .slice ata atxns.length atc, .int .i64 aps, .int .i64 api, .int .i64 apm, .slice ada adata.length adc] 34)) (.cells #[.int .i64 aK, .int .i64 aF, .int .i64 aO, .int .i64 aT, .int .i64 aS, .int .i64 aL, .int .i64 aC, .bool aY, .slice bla blist.length blc, .int .i64 bek, .int .i64 bef, .int .i64 ben, .slice bta btxns.length btc, .int .i64 bps, .int .i64 bpi, .int .i64 bpm, .slice bda bdata.length bdc] 34); rw [e] at this; exact this)
    exact ⟨cell_heapM q1, cell_heapM q1, cell_heapM q1, cell_heapM q1, cell_heapM q1, cell_heapM q1, cell_heapM q1, cell_heapM q1, cell_heapM q2, cell_heapM q2, cell_heapM q2, cell_heapM q2, cell_heapM q2, cell_heapM q2, cell_heapM q2, cell_heapM q2⟩
  have HQ1 := hide (equalFuncM_any _ _ alist blist ((w.alloc (.cells #[.int .i64 aK, .int .i64 aF, .int .i64 aO, .int .i64 aT, .int .i64 aS, .int .i64 aL, .int .i64 aC, .bool aY, .slice ala alist.length alc, .int .i64 aek, .int .i64 aef, .int .i64 aen, .slice ata atxns.length atc, .int .i64 aps, .int .i64 api, .int .i64 apm, .slice ada adata.length adc] 34)).alloc (.cells #[.int .i64 aK, .int .i64 aF, .int .i64 aO, .int .i64 aT, .int .i64 aS, .int .i64 aL, .int .i64 aC, .bool aY, .slice bla blist.length blc, .int .i64 bek, .int .i64 bef, .int .i64 ben, .slice bta btxns.length btc, .int .i64 bps, .int .i64 bpi, .int .i64 bpm, .slice bda bdata.length bdc] 34)) ((unhide M1).below (unhide HB)) ((unhide N1).below (unhide HB)) om1 on1)
  have O2 := hide om2
  have O3 := hide om3
  have P2 := hide on2
  have P3 := hide on3
  clear om1 on1 om2 om3 on2 on3
  cases hD1 : decide (alist = blist) with
  | false =>
    rw [hD1] at HQ1
    go_enter Tryz.func68, Tryz.ntmps68
    go_wp2_with fail
    refine (unhide HQ1).mono ?_
    rintro e w2 ⟨rfl, hb2⟩
    have HB2 : Hid (Below w.heap.size w w2) := (unhide HB).trans (hb2.mono (unhide HB).size)
    clear hb2
    go_wp2_with fail
    go_ret
    exact ⟨retBool (by simp), unhide HB2⟩
  | true =>
    rw [hD1] at HQ1
    have hsz2 : w.heap.size + 2 = ((w.alloc (.cells #[.int .i64 aK, .int .i64 aF, .int .i64 aO, .int .i64 aT, .int .i64 aS, .int .i64 aL, .int .i64 aC, .bool aY, .slice ala alist.length alc, .int .i64 aek, .int .i64 aef, .int .i64 aen, .slice ata atxns.length atc, .int .i64 aps, .int .i64 api, .int .i64 apm, .slice ada adata.length adc] 34)).alloc (.cells #[.int .i64 aK, .int .i64 aF, .int .i64 aO, .int .i64 aT, .int .i64 aS, .int .i64 aL, .int .i64 aC, .bool aY, .slice bla blist.length blc, .int .i64 bek, .int .i64 bef, .int .i64 ben, .slice bta btxns.length btc, .int .i64 bps, .int .i64 bpi, .int .i64 bpm, .slice bda bdata.length bdc] 34)).heap.size := by simp
    have HSZ2 := hide hsz2
    clear hsz2
    go_enter Tryz.func68, Tryz.ntmps68
    go_wp2_with fail
    refine (unhide HQ1).mono ?_
    rintro e w2 ⟨rfl, hb2⟩
    have HB2 : Hid (Below w.heap.size w w2) := (unhide HB).trans (hb2.mono (unhide HB).size)
    have HX2 : Hid (Below (w.heap.size + 2) ((w.alloc (.cells #[.int .i64 aK, .int .i64 aF, .int .i64 aO, .int .i64 aT, .int .i64 aS, .int .i64 aL, .int .i64 aC, .bool aY, .slice ala alist.length alc, .int .i64 aek, .int .i64 aef, .int .i64 aen, .slice ata atxns.length atc, .int .i64 aps, .int .i64 api, .int .i64 apm, .slice ada adata.length adc] 34)).alloc (.cells #[.int .i64 aK, .int .i64 aF, .int .i64 aO, .int .i64 aT, .int .i64 aS, .int .i64 aL, .int .i64 aC, .bool aY, .slice bla blist.length blc, .int .i64 bek, .int .i64 bef, .int .i64 ben, .slice bta btxns.length btc, .int .i64 bps, .int .i64 bpi, .int .i64 bpm, .slice bda bdata.length bdc] 34)) w2) := by rw [unhide HSZ2]; exact hb2
    obtain ⟨f0, f1, f2, f3, f4, f5, f6, f7, f8, f9, f10, f11, f12, f13, f14, f15⟩ := unhide HBX w2 (unhide HX2)
    have HQ2 := hide (sameEntry_any _ _ ⟨aek, aef, aen, atxns⟩ ⟨bek, bef, ben, btxns⟩ w2 ⟨_, rfl, (unhide M2).below (unhide HB2)⟩ ⟨_, rfl, (unhide N2).below (unhide HB2)⟩ (unhide O2) (unhide P2))
    rw [unhide HD2] at HQ2
    have hs2 : w.heap.size + 2 ≤ w2.heap.size := by rw [unhide HSZ2]; exact hb2.size
    have HS2 := hide hs2
    clear hb2 HQ1 hs2 HD2
    cases D2 with
    | false =>
      clear HD3
      go_wp2_with fail
      refine (unhide HQ2).mono ?_
      rintro e w3 ⟨rfl, hb3⟩
      have HB3 : Hid (Below w.heap.size w w3) := (unhide HB2).trans (hb3.mono (unhide HB2).size)
      clear hb3
      go_wp2_with fail
      go_ret
      exact ⟨retBool (by simp), unhide HB3⟩
    | true =>
      go_wp2_with fail
      refine (unhide HQ2).mono ?_
      rintro e w3 ⟨rfl, hb3⟩
      have HB3 : Hid (Below w.heap.size w w3) := (unhide HB2).trans (hb3.mono (unhide HB2).size)
      obtain ⟨g0, g1, g2, g3, g4, g5, g6, g7, g8, g9, g10, g11, g12, g13, g14, g15⟩ := unhide HBX w3 ((unhide HX2).trans (hb3.mono (unhide HS2)))
      have HQ3 := hide (samePart_any _ _ ⟨aps, api, apm, adata⟩ ⟨bps, bpi, bpm, bdata⟩ w3 ⟨_, rfl, (unhide M3).below (unhide HB3)⟩ ⟨_, rfl, (unhide N3).below (unhide HB3)⟩ (unhide O3) (unhide P3))
      rw [unhide HD3] at HQ3
      clear hb3 HQ2 HD3
      go_wp2_with fail
      refine (unhide HQ3).mono ?_
      rintro e w4 ⟨rfl, hb4⟩
      have HB4 : Hid (Below w.heap.size w w4) := (unhide HB3).trans (hb4.mono (unhide HB3).size)
      clear hb4
      go_wp2_with fail
      go_ret
      exact ⟨retBool (by simp), unhide HB4⟩
end Go.Proofs.YtggllgimlfchhaaGreat
