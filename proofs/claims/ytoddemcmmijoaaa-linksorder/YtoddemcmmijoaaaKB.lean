/- Several texts as one. -/
import Derived.Test.YtoddemcmmijoaaaKL
import Derived.Test.YtoddemcmmijoaaaKA

/- Record: which messages are the same: the program. -/
namespace Go.Proofs.Ytoddemcmmijoaaa
open Go.RowKit
set_option maxRecDepth 100000

set_option maxHeartbeats 6400000 in
theorem sameMsg_any (cs ds : Array Value) (m n : MsgD) (w : World) (hm : SeesM w cs m) (hn : SeesM w ds n) (om : OkM m) (on : OkM n) :
    Calls Try.prog 40 #[.agg cs, .agg ds] w fun e w' => e = .returned (.bool (decide (m = n))) ∧ Below w.heap.size w w' := by
  rw [sameM_eq]
  obtain ⟨aK, aF, aO, aT, aS, aL, aC, aY, alist, ⟨aek, aef, aen, atxns⟩, ⟨aps, api, apm, adata⟩⟩ := m
  obtain ⟨bK, bF, bO, bT, bS, bL, bC, bY, blist, ⟨bek, bef, ben, btxns⟩, ⟨bps, bpi, bpm, bdata⟩⟩ := n
  obtain ⟨_, _, _, rfl, hm1, hm2, hm3⟩ := hm
  obtain ⟨_, _, _, rfl, hn1, hn2, hn3⟩ := hn
  obtain ⟨om1, om2, om3⟩ := om
  obtain ⟨on1, on2, on3⟩ := on
  simp only at hm1 hm2 hm3 hn1 hn2 hn3 om1 om2 om3 on1 on2 on3 ⊢
  obtain ⟨D2, hD2⟩ : ∃ D, decide ((⟨aek, aef, aen, atxns⟩ : EntD) = ⟨bek, bef, ben, btxns⟩) = D := ⟨_, rfl⟩
  obtain ⟨D3, hD3⟩ : ∃ D, decide ((⟨aps, api, apm, adata⟩ : PtD) = ⟨bps, bpi, bpm, bdata⟩) = D := ⟨_, rfl⟩
  rw [hD2, hD3]
  have HD2 := hide hD2
  have HD3 := hide hD3
  clear hD2 hD3
  have M1 := hide hm1
  have M2 := hide hm2
  have M3 := hide hm3
  have N1 := hide hn1
  have N2 := hide hn2
  have N3 := hide hn3
  obtain ⟨ala, alc, _, _, rfl, _⟩ := hm1
  obtain ⟨ata, atc, _, _, rfl, _⟩ := hm2
  obtain ⟨ada, adc, rfl, _⟩ := hm3
  obtain ⟨bla, blc, _, _, rfl, _⟩ := hn1
  obtain ⟨bta, btc, _, _, rfl, _⟩ := hn2
  obtain ⟨bda, bdc, rfl, _⟩ := hn3
  have HB : Hid (Below w.heap.size w ((w.alloc (.cells #[.int .i64 aK, .int .i64 aF, .int .i64 aO, .int .i64 aT, .int .i64 aS, .int .i64 aL, .int .i64 aC, .bool aY, .slice ala alist.length alc, .int .i64 aek, .int .i64 aef, .int .i64 aen, .slice ata atxns.length atc, .int .i64 aps, .int .i64 api, .int .i64 apm, .slice ada adata.length adc] 38)).alloc (.cells #[.int .i64 bK, .int .i64 bF, .int .i64 bO, .int .i64 bT, .int .i64 bS, .int .i64 bL, .int .i64 bC, .bool bY, .slice bla blist.length blc, .int .i64 bek, .int .i64 bef, .int .i64 ben, .slice bta btxns.length btc, .int .i64 bps, .int .i64 bpi, .int .i64 bpm, .slice bda bdata.length bdc] 38))) := ((Below.refl _ _).alloc (Nat.le_refl _) _).alloc (by simp) _
  by_cases h0 : aK = bK
  case neg =>
    go_enter Try.func40, Try.ntmps40
    go_wp2_with fail
    go_ret
    exact ⟨retBool (by simp [h0]), unhide HB⟩
  subst h0
  by_cases h1 : aF = bF
  case neg =>
    go_enter Try.func40, Try.ntmps40
    go_wp2_with fail
    go_ret
    exact ⟨retBool (by simp [h1]), unhide HB⟩
  subst h1
  by_cases h2 : aO = bO
  case neg =>
    go_enter Try.func40, Try.ntmps40
    go_wp2_with fail
    go_ret
    exact ⟨retBool (by simp [h2]), unhide HB⟩
  subst h2
  by_cases h3 : aT = bT
  case neg =>
    go_enter Try.func40, Try.ntmps40
    go_wp2_with fail
    go_ret
    exact ⟨retBool (by simp [h3]), unhide HB⟩
  subst h3
  by_cases h4 : aS = bS
  case neg =>
    go_enter Try.func40, Try.ntmps40
    go_wp2_with fail
    go_ret
    exact ⟨retBool (by simp [h4]), unhide HB⟩
  subst h4
  by_cases h5 : aL = bL
  case neg =>
    go_enter Try.func40, Try.ntmps40
    go_wp2_with fail
    go_ret
    exact ⟨retBool (by simp [h5]), unhide HB⟩
  subst h5
  by_cases h6 : aC = bC
  case neg =>
    go_enter Try.func40, Try.ntmps40
    go_wp2_with fail
    go_ret
    exact ⟨retBool (by simp [h6]), unhide HB⟩
  subst h6
  by_cases h8 : aY = bY
  case neg =>
    have h8b : (aY == bY) = false := beq_eq_false_iff_ne.2 h8
    go_enter Try.func40, Try.ntmps40
    go_wp2_with fail
    go_ret
    exact ⟨retBool (by simp [h8]), unhide HB⟩
  subst h8
  have HBX : Hid (∀ x : World, Below (w.heap.size + 2) ((w.alloc (.cells #[.int .i64 aK, .int .i64 aF, .int .i64 aO, .int .i64 aT, .int .i64 aS, .int .i64 aL, .int .i64 aC, .bool aY, .slice ala alist.length alc, .int .i64 aek, .int .i64 aef, .int .i64 aen, .slice ata atxns.length atc, .int .i64 aps, .int .i64 api, .int .i64 apm, .slice ada adata.length adc] 38)).alloc (.cells #[.int .i64 aK, .int .i64 aF, .int .i64 aO, .int .i64 aT, .int .i64 aS, .int .i64 aL, .int .i64 aC, .bool aY, .slice bla blist.length blc, .int .i64 bek, .int .i64 bef, .int .i64 ben, .slice bta btxns.length btc, .int .i64 bps, .int .i64 bpi, .int .i64 bpm, .slice bda bdata.length bdc] 38)) x → x.cell? ⟨w.heap.size, 9, none⟩ = some (.int .i64 aek) ∧ x.cell? ⟨w.heap.size, 10, none⟩ = some (.int .i64 aef) ∧ x.cell? ⟨w.heap.size, 11, none⟩ = some (.int .i64 aen) ∧ x.cell? ⟨w.heap.size, 12, none⟩ = some (.slice ata atxns.length atc) ∧ x.cell? ⟨w.heap.size, 13, none⟩ = some (.int .i64 aps) ∧ x.cell? ⟨w.heap.size, 14, none⟩ = some (.int .i64 api) ∧ x.cell? ⟨w.heap.size, 15, none⟩ = some (.int .i64 apm) ∧ x.cell? ⟨w.heap.size, 16, none⟩ = some (.slice ada adata.length adc) ∧ x.cell? ⟨w.heap.size + 1, 9, none⟩ = some (.int .i64 bek) ∧ x.cell? ⟨w.heap.size + 1, 10, none⟩ = some (.int .i64 bef) ∧ x.cell? ⟨w.heap.size + 1, 11, none⟩ = some (.int .i64 ben) ∧ x.cell? ⟨w.heap.size + 1, 12, none⟩ = some (.slice bta btxns.length btc) ∧ x.cell? ⟨w.heap.size + 1, 13, none⟩ = some (.int .i64 bps) ∧ x.cell? ⟨w.heap.size + 1, 14, none⟩ = some (.int .i64 bpi) ∧ x.cell? ⟨w.heap.size + 1, 15, none⟩ = some (.int .i64 bpm) ∧ x.cell? ⟨w.heap.size + 1, 16, none⟩ = some (.slice bda bdata.length bdc)) := fun x hb => by
    have e : (w.alloc (.cells #[.int .i64 aK, .int .i64 aF, .int .i64 aO, .int .i64 aT, .int .i64 aS, .int .i64 aL, .int .i64 aC, .bool aY, .slice ala alist.length alc, .int .i64 aek, .int .i64 aef, .int .i64 aen, .slice ata atxns.length atc, .int .i64 aps, .int .i64 api, .int .i64 apm, .slice ada adata.length adc] 38)).heap.size = w.heap.size + 1 := by simp
    have q1 : x.heap[w.heap.size]? = some (.cells #[.int .i64 aK, .int .i64 aF, .int .i64 aO, .int .i64 aT, .int .i64 aS, .int .i64 aL, .int .i64 aC, .bool aY, .slice ala alist.length alc, .int .i64 aek, .int .i64 aef, .int .i64 aen, .slice ata atxns.length atc, .int .i64 aps, .int .i64 api, .int .i64 apm, .slice ada adata.length adc] 38) := (hb.block _ (by omega)).trans ((Below.heap_alloc _ _ _ (by simp)).trans (heap_alloc_new w _))
    have q2 : x.heap[w.heap.size + 1]? = some (.cells #[.int .i64 aK, .int .i64 aF, .int .i64 aO, .int .i64 aT, .int .i64 aS, .int .i64 aL, .int .i64 aC, .bool aY, .slice bla blist.length blc, .int .i64 bek, .int .i64 bef, .int .i64 ben, .slice bta btxns.length btc, .int .i64 bps, .int .i64 bpi, .int .i64 bpm, .slice bda bdata.length bdc] 38) := (hb.block _ (by omega)).trans (by have := heap_alloc_new (w.alloc (.cells #[.int .i64 aK, .int .i64 aF, .int .i64 aO, .int .i64 aT, .int .i64 aS, .int .i64 aL, .int .i64 aC, .bool aY, .slice ala alist.length alc, .int .i64 aek, .int .i64 aef, .int .i64 aen, .slice ata atxns.length atc, .int .i64 aps, .int .i64 api, .int .i64 apm, .slice ada adata.length adc] 38)) (.cells #[.int .i64 aK, .int .i64 aF, .int .i64 aO, .int .i64 aT, .int .i64 aS, .int .i64 aL, .int .i64 aC, .bool aY, .slice bla blist.length blc, .int .i64 bek, .int .i64 bef, .int .i64 ben, .slice bta btxns.length btc, .int .i64 bps, .int .i64 bpi, .int .i64 bpm, .slice bda bdata.length bdc] 38); rw [e] at this; exact this)
    exact ⟨cell_heapM q1, cell_heapM q1, cell_heapM q1, cell_heapM q1, cell_heapM q1, cell_heapM q1, cell_heapM q1, cell_heapM q1, cell_heapM q2, cell_heapM q2, cell_heapM q2, cell_heapM q2, cell_heapM q2, cell_heapM q2, cell_heapM q2, cell_heapM q2⟩
  have HQ1 := hide (equalFuncM_any _ _ alist blist ((w.alloc (.cells #[.int .i64 aK, .int .i64 aF, .int .i64 aO, .int .i64 aT, .int .i64 aS, .int .i64 aL, .int .i64 aC, .bool aY, .slice ala alist.length alc, .int .i64 aek, .int .i64 aef, .int .i64 aen, .slice ata atxns.length atc, .int .i64 aps, .int .i64 api, .int .i64 apm, .slice ada adata.length adc] 38)).alloc (.cells #[.int .i64 aK, .int .i64 aF, .int .i64 aO, .int .i64 aT, .int .i64 aS, .int .i64 aL, .int .i64 aC, .bool aY, .slice bla blist.length blc, .int .i64 bek, .int .i64 bef, .int .i64 ben, .slice bta btxns.length btc, .int .i64 bps, .int .i64 bpi, .int .i64 bpm, .slice bda bdata.length bdc] 38)) ((unhide M1).below (unhide HB)) ((unhide N1).below (unhide HB)) om1 on1)
  have O2 := hide om2
  have O3 := hide om3
  have P2 := hide on2
  have P3 := hide on3
  clear om1 on1 om2 om3 on2 on3
  cases hD1 : decide (alist = blist) with
  | false =>
    rw [hD1] at HQ1
    go_enter Try.func40, Try.ntmps40
    go_wp2_with fail
    refine (unhide HQ1).mono ?_
    rintro e w2 ⟨rfl, hb2⟩
    have HB2 : Hid (Below w.heap.size w w2) := (unhide HB).trans (hb2.mono (unhide HB).size)
    clear hb2
    go_wp2_with fail
    go_ret
    exact ⟨retBool (by simp), unhide HB2⟩
  | true =>
    rw [hD1] at HQ1
    have hsz2 : w.heap.size + 2 = ((w.alloc (.cells #[.int .i64 aK, .int .i64 aF, .int .i64 aO, .int .i64 aT, .int .i64 aS, .int .i64 aL, .int .i64 aC, .bool aY, .slice ala alist.length alc, .int .i64 aek, .int .i64 aef, .int .i64 aen, .slice ata atxns.length atc, .int .i64 aps, .int .i64 api, .int .i64 apm, .slice ada adata.length adc] 38)).alloc (.cells #[.int .i64 aK, .int .i64 aF, .int .i64 aO, .int .i64 aT, .int .i64 aS, .int .i64 aL, .int .i64 aC, .bool aY, .slice bla blist.length blc, .int .i64 bek, .int .i64 bef, .int .i64 ben, .slice bta btxns.length btc, .int .i64 bps, .int .i64 bpi, .int .i64 bpm, .slice bda bdata.length bdc] 38)).heap.size := by simp
    have HSZ2 := hide hsz2
    clear hsz2
    go_enter Try.func40, Try.ntmps40
    go_wp2_with fail
    refine (unhide HQ1).mono ?_
    rintro e w2 ⟨rfl, hb2⟩
    have HB2 : Hid (Below w.heap.size w w2) := (unhide HB).trans (hb2.mono (unhide HB).size)
    have HX2 : Hid (Below (w.heap.size + 2) ((w.alloc (.cells #[.int .i64 aK, .int .i64 aF, .int .i64 aO, .int .i64 aT, .int .i64 aS, .int .i64 aL, .int .i64 aC, .bool aY, .slice ala alist.length alc, .int .i64 aek, .int .i64 aef, .int .i64 aen, .slice ata atxns.length atc, .int .i64 aps, .int .i64 api, .int .i64 apm, .slice ada adata.length adc] 38)).alloc (.cells #[.int .i64 aK, .int .i64 aF, .int .i64 aO, .int .i64 aT, .int .i64 aS, .int .i64 aL, .int .i64 aC, .bool aY, .slice bla blist.length blc, .int .i64 bek, .int .i64 bef, .int .i64 ben, .slice bta btxns.length btc, .int .i64 bps, .int .i64 bpi, .int .i64 bpm, .slice bda bdata.length bdc] 38)) w2) := by rw [unhide HSZ2]; exact hb2
    obtain ⟨f0, f1, f2, f3, f4, f5, f6, f7, f8, f9, f10, f11, f12, f13, f14, f15⟩ := unhide HBX w2 (unhide HX2)
    have HQ2 := hide (sameEntry_any _ _ ⟨aek, aef, aen, atxns⟩ ⟨bek, bef, ben, btxns⟩ w2 ⟨_, rfl, (unhide M2).below (unhide HB2)⟩ ⟨_, rfl, (unhide N2).below (unhide HB2)⟩ (unhide O2) (unhide P2))
    rw [unhide HD2] at HQ2
    have hs2 : w.heap.size + 2 ≤ w2.heap.size := by rw [unhide HSZ2]; exact hb2.size
    have HS2 := hide hs2
    clear hb2 HQ1 hs2 HD2
    cases D2 with
    | false =>
      clear HD3
      go_wp2_with fail
      refine (unhide HQ2).mono ?_
      rintro e w3 ⟨rfl, hb3⟩
      have HB3 : Hid (Below w.heap.size w w3) := (unhide HB2).trans (hb3.mono (unhide HB2).size)
      clear hb3
      go_wp2_with fail
      go_ret
      exact ⟨retBool (by simp), unhide HB3⟩
    | true =>
      go_wp2_with fail
      refine (unhide HQ2).mono ?_
      rintro e w3 ⟨rfl, hb3⟩
      have HB3 : Hid (Below w.heap.size w w3) := (unhide HB2).trans (hb3.mono (unhide HB2).size)
      obtain ⟨g0, g1, g2, g3, g4, g5, g6, g7, g8, g9, g10, g11, g12, g13, g14, g15⟩ := unhide HBX w3 ((unhide HX2).trans (hb3.mono (unhide HS2)))
      have HQ3 := hide (samePart_any _ _ ⟨aps, api, apm, adata⟩ ⟨bps, bpi, bpm, bdata⟩ w3 ⟨_, rfl, (unhide M3).below (unhide HB3)⟩ ⟨_, rfl, (unhide N3).below (unhide HB3)⟩ (unhide O3) (unhide P3))
      rw [unhide HD3] at HQ3
      clear hb3 HQ2 HD3
      go_wp2_with fail
      refine (unhide HQ3).mono ?_
      rintro e w4 ⟨rfl, hb4⟩
      have HB4 : Hid (Below w.heap.size w w4) := (unhide HB3).trans (hb4.mono (unhide HB3).size)
      clear hb4
      go_wp2_with fail
      go_ret
      exact ⟨retBool (by simp), unhide HB4⟩
end Go.Proofs.Ytoddemcmmijoaaa

/- Record: the fields of a message. -/
namespace Go.Proofs.Ytoddemcmmijoaaa
open Go.RowKit
set_option maxRecDepth 100000

def dP : PtD := ⟨0, 0, 0, []⟩
/-- Which fields a message of a kind has. -/
def fieldsL (k : Int) : List Int := if k = 1 then [0, 1, 2] else if k = 2 then [0, 4] else if k = 3 then [0, 1, 2, 3, 5] else if k = 4 then [0, 4, 1] else if k = 5 then [0, 1, 2, 7] else if k = 6 then [6] else []
theorem sees_fresh (w : World) (T : TypeId) (zs : List Int) : Sees (w.alloc (.cells (zs.map (Value.int .i64)).toArray T)) .i64 (.slice (some ⟨w.heap.size, 0, none⟩) zs.length zs.length) zs := by
  refine ⟨some ⟨w.heap.size, 0, none⟩, zs.length, rfl, Nat.le_refl _, (fun h => by cases h), fun a h t ht => ?_⟩
  obtain rfl := Option.some.inj h
  have := heap_alloc_new w (.cells (zs.map (Value.int .i64)).toArray T)
  rw [Addr.add_mid, cell_of_row _ _ _ _ _ _ this]
  simp [List.getD, ht]
set_option maxHeartbeats 800000 in
theorem fieldsOf_any (k : Int) (w : World) : Calls Try.prog 36 #[.int .i64 k] w fun e w' => ∃ v, e = .returned v ∧ Sees w' .i64 v (fieldsL k) ∧ Below w.heap.size w w' := by
  by_cases h1 : k = 1
  case pos =>
    subst h1
    go_enter Try.func36, Try.ntmps36
    go_wp2
    go_ret
    exact ⟨_, rfl, sees_fresh w 85 [0, 1, 2], (Below.refl _ _).alloc (Nat.le_refl _) _⟩
  by_cases h2 : k = 2
  case pos =>
    subst h2
    go_enter Try.func36, Try.ntmps36
    go_wp2
    go_ret
    exact ⟨_, rfl, sees_fresh w 85 [0, 4], (Below.refl _ _).alloc (Nat.le_refl _) _⟩
  by_cases h3 : k = 3
  case pos =>
    subst h3
    go_enter Try.func36, Try.ntmps36
    go_wp2
    go_ret
    exact ⟨_, rfl, sees_fresh w 85 [0, 1, 2, 3, 5], (Below.refl _ _).alloc (Nat.le_refl _) _⟩
  by_cases h4 : k = 4
  case pos =>
    subst h4
    go_enter Try.func36, Try.ntmps36
    go_wp2
    go_ret
    exact ⟨_, rfl, sees_fresh w 85 [0, 4, 1], (Below.refl _ _).alloc (Nat.le_refl _) _⟩
  by_cases h5 : k = 5
  case pos =>
    subst h5
    go_enter Try.func36, Try.ntmps36
    go_wp2
    go_ret
    exact ⟨_, rfl, sees_fresh w 85 [0, 1, 2, 7], (Below.refl _ _).alloc (Nat.le_refl _) _⟩
  by_cases h6 : k = 6
  case pos =>
    subst h6
    go_enter Try.func36, Try.ntmps36
    go_wp2
    go_ret
    exact ⟨_, rfl, sees_fresh w 85 [6], (Below.refl _ _).alloc (Nat.le_refl _) _⟩
  case neg =>
    go_enter Try.func36, Try.ntmps36
    go_wp2
    go_ret
    refine ⟨_, rfl, ?_, Below.refl _ _⟩
    simp only [fieldsL, h1, h2, h3, h4, h5, h6, if_false]
    exact Sees.nil _ _
/-- May a field be? -/
def fMay (f : Int) (m : MsgD) : Bool :=
  if f = 0 then isCnt m.term else if f = 1 then isCnt m.slot else if f = 2 then isCnt m.last else if f = 3 then isCnt m.commit else if f = 4 then true else if f = 5 then decide (m.list.length ≤ 4096) && m.list.all mayTm else if f = 6 then mayE m.ent else if f = 7 then mayP m.part else false
set_option maxHeartbeats 1600000 in
theorem fieldMayBe_any (cs : Array Value) (m : MsgD) (f : Int) (w : World) (hM : SeesM w cs m) (oM : OkM m) (hf0 : 0 ≤ f) (hf7 : f ≤ 7) :
    Calls Try.prog 38 #[.agg cs, .int .i64 f] w fun e w' => e = .returned (.bool (fMay f m)) ∧ Below w.heap.size w w' := by
  obtain ⟨aK, aF, aO, aT, aS, aL, aC, aY, ml, ⟨ek, ef, en, mt⟩, ⟨ps, pi, pm, md⟩⟩ := m
  obtain ⟨_, _, _, rfl, k1, k2, k3⟩ := hM
  obtain ⟨o1, o2, o3⟩ := oM
  simp only at k1 k2 k3 o1 o2 o3 ⊢
  have K1 := hide k1
  have K2 := hide k2
  have K3 := hide k3
  obtain ⟨la, lc, _, _, rfl, _⟩ := k1
  obtain ⟨ta, tc, _, _, rfl, _⟩ := k2
  obtain ⟨da, dc, rfl, _⟩ := k3
  obtain ⟨ll, hll⟩ : ∃ n, ml.length = n := ⟨_, rfl⟩
  obtain ⟨tl, htl⟩ : ∃ n, mt.length = n := ⟨_, rfl⟩
  obtain ⟨dl, hdl⟩ : ∃ n, md.length = n := ⟨_, rfl⟩
  have HLL := hide hll
  rw [hll] at K1
  rw [htl] at K2
  rw [hdl] at K3
  rw [hll, htl, hdl]
  have hB : Below w.heap.size w (w.alloc (.cells #[.int .i64 aK, .int .i64 aF, .int .i64 aO, .int .i64 aT, .int .i64 aS, .int .i64 aL, .int .i64 aC, .bool aY, .slice la ll lc, .int .i64 ek, .int .i64 ef, .int .i64 en, .slice ta tl tc, .int .i64 ps, .int .i64 pi, .int .i64 pm, .slice da dl dc] 38)) := (Below.refl _ _).alloc (Nat.le_refl _) _
  have HB := hide hB
  have HL := hide (allM_any _ ml _ ((unhide K1).below hB) o1)
  have HE : Hid (Calls Try.prog 49 #[.agg #[.int .i64 ek, .int .i64 ef, .int .i64 en, .slice ta tl tc]] (w.alloc (.cells #[.int .i64 aK, .int .i64 aF, .int .i64 aO, .int .i64 aT, .int .i64 aS, .int .i64 aL, .int .i64 aC, .bool aY, .slice la ll lc, .int .i64 ek, .int .i64 ef, .int .i64 en, .slice ta tl tc, .int .i64 ps, .int .i64 pi, .int .i64 pm, .slice da dl dc] 38)) fun e w' => e = .returned (.bool (mayE ⟨ek, ef, en, mt⟩)) ∧ Below (w.alloc (.cells #[.int .i64 aK, .int .i64 aF, .int .i64 aO, .int .i64 aT, .int .i64 aS, .int .i64 aL, .int .i64 aC, .bool aY, .slice la ll lc, .int .i64 ek, .int .i64 ef, .int .i64 en, .slice ta tl tc, .int .i64 ps, .int .i64 pi, .int .i64 pm, .slice da dl dc] 38)).heap.size (w.alloc (.cells #[.int .i64 aK, .int .i64 aF, .int .i64 aO, .int .i64 aT, .int .i64 aS, .int .i64 aL, .int .i64 aC, .bool aY, .slice la ll lc, .int .i64 ek, .int .i64 ef, .int .i64 en, .slice ta tl tc, .int .i64 ps, .int .i64 pi, .int .i64 pm, .slice da dl dc] 38)) w') := entryMayBe_any _ ⟨ek, ef, en, mt⟩ _ ⟨_, rfl, (unhide K2).below hB⟩ o2
  have HP : Hid (Calls Try.prog 50 #[.agg #[.int .i64 ps, .int .i64 pi, .int .i64 pm, .slice da dl dc]] (w.alloc (.cells #[.int .i64 aK, .int .i64 aF, .int .i64 aO, .int .i64 aT, .int .i64 aS, .int .i64 aL, .int .i64 aC, .bool aY, .slice la ll lc, .int .i64 ek, .int .i64 ef, .int .i64 en, .slice ta tl tc, .int .i64 ps, .int .i64 pi, .int .i64 pm, .slice da dl dc] 38)) fun e w' => e = .returned (.bool (mayP ⟨ps, pi, pm, md⟩)) ∧ Below (w.alloc (.cells #[.int .i64 aK, .int .i64 aF, .int .i64 aO, .int .i64 aT, .int .i64 aS, .int .i64 aL, .int .i64 aC, .bool aY, .slice la ll lc, .int .i64 ek, .int .i64 ef, .int .i64 en, .slice ta tl tc, .int .i64 ps, .int .i64 pi, .int .i64 pm, .slice da dl dc] 38)).heap.size (w.alloc (.cells #[.int .i64 aK, .int .i64 aF, .int .i64 aO, .int .i64 aT, .int .i64 aS, .int .i64 aL, .int .i64 aC, .bool aY, .slice la ll lc, .int .i64 ek, .int .i64 ef, .int .i64 en, .slice ta tl tc, .int .i64 ps, .int .i64 pi, .int .i64 pm, .slice da dl dc] 38)) w') := partMayBe_any _ ⟨ps, pi, pm, md⟩ _ ⟨_, rfl, (unhide K3).below hB⟩
  clear hB hll htl hdl
  by_cases h0 : f = 0
  case pos =>
    subst h0
    go_enter Try.func38, Try.ntmps38
    go_wp2_with (first | (go_at_call 46; refine (isCount_any _ _).mono ?_; rintro e w' ⟨rfl, rfl⟩) | fail)
    go_ret
    exact ⟨retBool (by simp [fMay]), unhide HB⟩
  by_cases h1 : f = 1
  case pos =>
    subst h1
    go_enter Try.func38, Try.ntmps38
    go_wp2_with (first | (go_at_call 46; refine (isCount_any _ _).mono ?_; rintro e w' ⟨rfl, rfl⟩) | fail)
    go_ret
    exact ⟨retBool (by simp [fMay]), unhide HB⟩
  by_cases h2 : f = 2
  case pos =>
    subst h2
    go_enter Try.func38, Try.ntmps38
    go_wp2_with (first | (go_at_call 46; refine (isCount_any _ _).mono ?_; rintro e w' ⟨rfl, rfl⟩) | fail)
    go_ret
    exact ⟨retBool (by simp [fMay]), unhide HB⟩
  by_cases h3 : f = 3
  case pos =>
    subst h3
    go_enter Try.func38, Try.ntmps38
    go_wp2_with (first | (go_at_call 46; refine (isCount_any _ _).mono ?_; rintro e w' ⟨rfl, rfl⟩) | fail)
    go_ret
    exact ⟨retBool (by simp [fMay]), unhide HB⟩
  by_cases h4 : f = 4
  case pos =>
    subst h4
    go_enter Try.func38, Try.ntmps38
    go_wp2_with (first | (go_at_call 46; refine (isCount_any _ _).mono ?_; rintro e w' ⟨rfl, rfl⟩) | fail)
    go_ret
    exact ⟨retBool (by simp [fMay]), unhide HB⟩
  by_cases h5 : f = 5
  case pos =>
    subst h5
    by_cases hl : ll ≤ 4096
    case neg =>
      go_enter Try.func38, Try.ntmps38
      go_wp2_with fail
      go_ret
      exact ⟨retBool (by simp only [fMay]; simp; intro h; have := unhide HLL; omega), unhide HB⟩
    case pos =>
      go_enter Try.func38, Try.ntmps38
      go_wp2_with fail
      refine (unhide HL).mono ?_
      rintro e w2 ⟨rfl, hb2⟩
      have HB2 : Hid (Below w.heap.size w w2) := (unhide HB).trans (hb2.mono (unhide HB).size)
      clear hb2 HL
      have hd : decide (ml.length ≤ 4096) = true := decide_eq_true (by rw [unhide HLL]; exact hl)
      go_wp2_with fail
      go_ret
      exact ⟨retBool (by simp [fMay, hd]), unhide HB2⟩
  by_cases h6 : f = 6
  case pos =>
    subst h6
    go_enter Try.func38, Try.ntmps38
    go_wp2_with fail
    refine (unhide HE).mono ?_
    rintro e w2 ⟨rfl, hb2⟩
    have HB2 : Hid (Below w.heap.size w w2) := (unhide HB).trans (hb2.mono (unhide HB).size)
    clear hb2 HE
    go_wp2_with fail
    go_ret
    exact ⟨retBool (by simp [fMay]), unhide HB2⟩
  by_cases h7 : f = 7
  case pos =>
    subst h7
    go_enter Try.func38, Try.ntmps38
    go_wp2_with fail
    refine (unhide HP).mono ?_
    rintro e w2 ⟨rfl, hb2⟩
    have HB2 : Hid (Below w.heap.size w w2) := (unhide HB).trans (hb2.mono (unhide HB).size)
    clear hb2 HP
    go_wp2_with fail
    go_ret
    exact ⟨retBool (by simp [fMay]), unhide HB2⟩
  omega
end Go.Proofs.Ytoddemcmmijoaaa
