/- RecordTurned: the walk, its long ways. -/
import Derived.Test.YtggllgimlfchhabGreatGE
namespace Go.Proofs.YtggllgimlfchhabGreat
open Go.RowKit
set_option maxRecDepth 100000

set_option maxHeartbeats 3200000 in
theorem turned_m {w : World} {cm : Array Value} {m : MsgD} {bit cut : Int} (sm : SeesM w cm m) (om : OkM m) (fm : Fits m) (hbm : marE m = 0) (hbit : 0 ≤ bit) (hbr : bit ≤ 9223372036854775807) (hb8 : bit / 8 < ((marB m).length : Int)) :
    Calls Tryz.prog 4 #[.agg cm, .int .i64 bit, .int .i64 cut] w fun e w' => e = .returned (.bool true) ∧ Below w.heap.size w w' := by
  have HZM : Hid (cm.size = 17) := by obtain ⟨_, _, _, rfl, _⟩ := sm; rfl
  have HSM := hide sm
  have HFM := hide fm
  have HOM := hide om
  have HBM := hide hbm
  have hB2 : Below w.heap.size w (w.alloc (.cells cm 30)) := (Below.refl _ _).alloc (Nat.le_refl _) _
  have hS2 : (w.alloc (.cells cm 30)).heap.size = w.heap.size + 1 := by simp
  have g0 : (w.alloc (.cells cm 30)).heap[w.heap.size]? = some (.cells cm 30) := heap_alloc_new w _
  obtain ⟨w2, hw2⟩ : ∃ y, w.alloc (.cells cm 30) = y := ⟨_, rfl⟩
  rw [hw2] at hB2 hS2 g0
  have HX : Hid (∀ x, Below (w.heap.size + 1) w2 x → x.heap[w.heap.size]? = some (.cells cm 30)) := fun x hb => (hb.block _ (by omega)).trans g0
  have HBW : Hid (∀ x, Below (w.heap.size + 1) w2 x → Below w.heap.size w x) := fun x hb => hB2.trans (hb.mono (by omega))
  have HTR : Hid (∀ x y, Below (w.heap.size + 1) w2 x → Below x.heap.size x y → Below (w.heap.size + 1) w2 y) := fun x y h1 h2 => h1.trans (h2.mono (by have := h1.size; omega))
  have HBI : Hid (Below (w.heap.size + 1) w2 w2) := Below.refl _ _
  have HW2 := hide hS2
  clear sm fm om hbm hB2 hS2 g0
  go_enter Tryz.func4, Tryz.ntmps4
  go_wp2_with (first | rw [hw2] | simp only [Value.cells])
  refine (begun_any _).mono ?_
  rintro r z0 ⟨rfl, b⟩
  have HB0 := hide (unhide HTR _ _ (unhide HBI) b)
  have HXM := hide (unhide HX _ (unhide HB0))
  have HC := hide (marshal_any cm m z0 ((unhide HSM).below (unhide HBW _ (unhide HB0))) (unhide HOM) (unhide HFM).1 (unhide HFM).2.1 (unhide HFM).2.2.1 (unhide HFM).2.2.2)
  rw [unhide HBM] at HC
  clear b HBI
  go_wp2_with (refine wpList_load_wanted (by rfl) 30 _ rfl w.heap.size rfl 30 _ (0, 0) _ (unhide HXM) Tryz.underlying30 rfl (by rw [unhide HZM]; kernel_rfl) ?_)
  refine (unhide HC).mono ?_
  rintro r z1 ⟨u, rfl, ou, b⟩
  have HB1 := hide (unhide HTR _ _ (unhide HB0) b)
  clear b HC HXM
  have hlb := marB_pos (unhide HBM)
  have hlt := marB_le m
  obtain ⟨B, hB⟩ : ∃ z, marB m = z := ⟨_, rfl⟩
  have HBB := hide hB
  have HBY : Hid (Byt B) := hB ▸ marB_byt (unhide HFM).1 (unhide HOM)
  rw [hB] at ou hlb hlt hb8
  obtain ⟨L, hL⟩ : ∃ n, B.length = n := ⟨_, rfl⟩
  have HC := hide (clone_any _ B z1 (sees_of_own ou).2 (by omega))
  have hsB := (sees_of_own ou).2
  rcases id ou.2 with hn | ⟨g0, uc, cur0, rfl, hgb0, hh0, _⟩
  · exact absurd hn.2 (by omega)
  have hcb : z1.cell? ⟨g0, 0, none⟩ = some (.int .u8 (B.getD 0 0)) := by
    have := ou.cells (g := g0) rfl 0 (.int .u8 (B.getD 0 0)) (by simp [ints, List.getD, hlb])
    have hadd : (⟨g0, 0, none⟩ : Addr).add 0 = ⟨g0, 0, none⟩ := by unfold Addr.add; split <;> simp_all
    rw [hadd] at this
    exact this
  rw [hL] at HC hlb hlt hb8 hsB
  rw [hL]
  have HLL := hide hL
  have HSB := hide hsB
  have HCB := hide hcb
  clear ou hB hL hsB hcb hgb0 hh0
  have hl0 : ((L : Int) == 0) = false := by simp; omega
  have hbn : ¬ bit < 0 := by omega
  obtain ⟨p, hp⟩ : ∃ p : Nat, bit / 8 = (p : Int) := ⟨(bit / 8).toNat, by omega⟩
  have hpl : p < L := by omega
  have hwr : wrap64 (bit / 8) = bit / 8 := by unfold wrap64; omega
  have hl1 : wrap64 (bit / 8) < (L : Int) := by rw [hwr]; omega
  go_wp2_with fail
  refine (unhide HC).mono ?_
  rintro r z2 ⟨xc, rfl, oc, b⟩
  have HB2 := hide (unhide HTR _ _ (unhide HB1) b)
  have hLb : B.length = L := unhide HLL
  rcases id oc.2 with hn | ⟨g, cp, cur, rfl, hgb, hh, _⟩
  · exact absurd hn.2 (by omega)
  have hcell : z2.cell? ⟨g, p, none⟩ = some (.int .u8 (B.getD p 0)) := by
    have := oc.cells (g := g) rfl p (.int .u8 (B.getD p 0)) (by simp [ints, List.getD, hLb, hpl])
    have hadd : (⟨g, 0, none⟩ : Addr).add p = ⟨g, p, none⟩ := by unfold Addr.add; split <;> simp_all
    rw [hadd] at this
    exact this
  have hfz : z2.frozen? ⟨g, p, none⟩ = false := oc.frozenAt p
  obtain ⟨u, hu'⟩ : ∃ u, B.getD p 0 = u := ⟨_, rfl⟩
  have hu := (unhide HBY).get p
  rw [hu'] at hcell hu
  have hm0 : 0 ≤ bit % 8 := by omega
  have hm7 : bit % 8 ≤ 7 := by omega
  have hyy := turned_byte hu hm0 hm7
  obtain ⟨y, hy⟩ : ∃ y, bits .xor .u8 u (2 ^ (bit % 8).toNat % 256) = y := ⟨_, rfl⟩
  rw [hy] at hyy
  obtain ⟨hf7, hg7⟩ := oc.stored p (.int .u8 y)
  have hs7 : Sees (z2.setCell ⟨g, p, none⟩ (.int .u8 y)) .u8 (.slice (some ⟨g, 0, none⟩) L cp) (B.set p y) := by
    rw [show (ints .u8 B).set p (.int .u8 y) = ints .u8 (B.set p y) by simp [ints, List.map_set]] at hf7
    exact (sees_of_own hf7).2
  have hb13 : Below z1.heap.size z1 (z2.setCell ⟨g, p, none⟩ (.int .u8 y)).drew := (b.setCell (p := ⟨g, p, none⟩) hgb _).drew
  have hz1 : w.heap.size + 1 ≤ z1.heap.size := by have := (unhide HB1).size; have := unhide HW2; omega
  have HB3 := hide (unhide HTR _ _ (unhide HB1) hb13)
  have hs8 := hs7.below (Below.refl _ _).drew
  obtain ⟨z3, hz3⟩ : ∃ z, (z2.setCell ⟨g, p, none⟩ (.int .u8 y)).drew = z := ⟨_, rfl⟩
  rw [hz3] at hs8 hb13 HB3
  have HSET := hide hs8
  have HB13 := hide hb13
  have hby2 : Byt (B.set p y) := fun x hx => by
    rcases List.mem_or_eq_of_mem_set hx with hx | rfl
    · exact unhide HBY x hx
    · exact ⟨hyy.1, hyy.2.1⟩
  have HBY2 := hide hby2
  have HPY : Hid (p < B.length ∧ (0 ≤ y ∧ y ≤ 255) ∧ y ≠ B.getD p 0) := ⟨by omega, ⟨hyy.1, hyy.2.1⟩, by rw [hu']; exact hyy.2.2⟩
  have HC := hide (Unmarshal_any _ (B.set p y) z3 hs8 hby2 (by rw [List.length_set]; omega))
  have HUF := hide (unm_fit hby2)
  have HUE : Hid ((unm (B.set p y)).2 = 0 → (unm (B.set p y)).1 ≠ m ∧ ¬ B.getD 0 0 / 2 < (p : Int)) := fun h => by
    obtain ⟨q1, q2, q3⟩ := unhide HPY
    have hB := unhide HBB
    subst hB
    refine ⟨turned_near (unhide HFM).1 (unhide HOM) (unhide HBM) q1 q2.1 q2.2 q3 (Prod.ext rfl h), fun g => ?_⟩
    exact turned_far (unhide HFM).1 (unhide HOM) (unhide HBM) q1 g q2.1 q2.2 q3 h
  have HUB : Hid ((unm (B.set p y)).2 ≠ 0 → (unm (B.set p y)).1 = dG) := unm_bad
  obtain ⟨n, f, hun⟩ : ∃ a b, unm (B.set p y) = (a, b) := ⟨_, _, rfl⟩
  rw [hun] at HC
  rw [hun] at HUF
  rw [hun] at HUE
  rw [hun] at HUB
  simp only at HC HUE HUB
  clear b oc hgb hh hu' hLb hyy hf7 hg7 hs7 hs8 hb13 hz1 hby2 hun hu
  go_wp2_with fail
  go_region
  try rw [hy]
  try rw [hz3]
  clear hy hz3
  go_wp2_with fail
  refine (unhide HC).mono ?_
  rintro r z4 ⟨cs, rfl, ow, b⟩
  have HB4 := hide (unhide HTR _ _ (unhide HB3) b)
  have HB14 := hide ((unhide HB13).trans (b.mono (unhide HB13).size))
  have HCS : Hid (cs.size = 17) := ow.size
  have HCO : Hid (cs.all (·.oneCell') = true) := ow.one
  have hse := ow.sees (unhide HUF).2
  have hal : Below z4.heap.size z4 (z4.alloc (.cells #[.int .i64 0, .int .i64 0, .int .i64 0, .int .i64 0, .int .i64 0, .int .i64 0, .int .i64 0, .bool false, .slice none 0 0, .int .i64 0, .int .i64 0, .int .i64 0, .slice none 0 0, .int .i64 0, .int .i64 0, .int .i64 0, .slice none 0 0] 30)) := (Below.refl _ _).alloc (Nat.le_refl _) _
  have hxa : (z4.alloc (.cells #[.int .i64 0, .int .i64 0, .int .i64 0, .int .i64 0, .int .i64 0, .int .i64 0, .int .i64 0, .bool false, .slice none 0 0, .int .i64 0, .int .i64 0, .int .i64 0, .slice none 0 0, .int .i64 0, .int .i64 0, .int .i64 0, .slice none 0 0] 30)).heap[z4.heap.size]? = some (.cells #[.int .i64 0, .int .i64 0, .int .i64 0, .int .i64 0, .int .i64 0, .int .i64 0, .int .i64 0, .bool false, .slice none 0 0, .int .i64 0, .int .i64 0, .int .i64 0, .slice none 0 0, .int .i64 0, .int .i64 0, .int .i64 0, .slice none 0 0] 30) := heap_alloc_new z4 _
  obtain ⟨za, hza⟩ : ∃ y, z4.alloc (.cells #[.int .i64 0, .int .i64 0, .int .i64 0, .int .i64 0, .int .i64 0, .int .i64 0, .int .i64 0, .bool false, .slice none 0 0, .int .i64 0, .int .i64 0, .int .i64 0, .slice none 0 0, .int .i64 0, .int .i64 0, .int .i64 0, .slice none 0 0] 30) = y := ⟨_, rfl⟩
  rw [hza] at hal hxa
  have hbb := below_setRow hal (cs := cs) (g := z4.heap.size) (Nat.le_refl _)
  have hxb := setRow_heap za z4.heap.size _ cs 30 (0, 0) hxa
  obtain ⟨X, hX⟩ : ∃ n, z4.heap.size = n := ⟨_, rfl⟩
  have hs2 := hse.below hbb
  have hbn2 := unhide HTR _ _ (unhide HB4) hbb
  have hb15 := (unhide HB14).trans (hbb.mono (unhide HB14).size)
  rw [hX] at hxa hxb hs2 hbn2 hb15
  obtain ⟨z5, hz5⟩ : ∃ y, za.setRow X cs = y := ⟨_, rfl⟩
  rw [hz5] at hxb hs2 hbn2 hb15
  have HXA := hide hxa
  have HXB := hide hxb
  have HSS := hide hs2
  have HB5 := hide hbn2
  have HB15 := hide hb15
  have HXM := hide (unhide HX _ (unhide HB5))
  clear hse hal hxa hbb hxb hs2 hbn2 hb15 b HC
  have HK : Hid (∀ z6 : World, Below z5.heap.size z5 z6 → Sees z6 .u8 (.slice (some ⟨g0, 0, none⟩) L uc) B ∧ z6.cell? ⟨g0, 0, none⟩ = some (.int .u8 (B.getD 0 0)) ∧ Below (w.heap.size + 1) w2 z6) := fun z6 h => by
    have h16 := (unhide HB15).trans (h.mono (unhide HB15).size)
    exact ⟨(unhide HSB).below h16, (h16.cell (p := ⟨g0, 0, none⟩) (World.block_lt_of_cell? z1 _ (unhide HCB))).trans (unhide HCB), unhide HTR _ _ (unhide HB5) h⟩
  have hv := (unhide HBY).get 0
  obtain ⟨v0, hv0⟩ : ∃ v, B.getD 0 0 = v := ⟨_, rfl⟩
  rw [hv0] at hv
  rw [hv0] at HK
  rw [hv0] at HUE
  clear hv0
  by_cases hf : f = 0
  · subst hf
    obtain ⟨hne, hkn⟩ := unhide HUE rfl
    have HC := hide (refSameMsg_any _ _ n m z5 (unhide HSS) ((unhide HSM).below (unhide HBW _ (unhide HB5))) (unhide HUF).2.ok (unhide HOM))
    rw [show decide (n = m) = false from decide_eq_false hne] at HC
    clear ow hne
    go_wp2_with (first | rw [hza] | rw [hz5] | rw [hX] | refine wpList_store_row rfl 30 _ _ rfl X _ _ rfl rfl 30 (unhide HXA) (by rw [unhide HCS]; kernel_rfl) (by rw [unhide HCS]; rfl) (unhide HCO) ?_ | refine wpList_load_wanted (by rfl) 30 _ rfl X rfl 30 _ (0, 0) _ (unhide HXB) Tryz.underlying30 rfl (by rw [unhide HCS]; kernel_rfl) ?_ | refine wpList_load_wanted (by rfl) 30 _ rfl w.heap.size rfl 30 _ (0, 0) _ (unhide HXM) Tryz.underlying30 rfl (by rw [unhide HZM]; kernel_rfl) ?_)
    refine (unhide HC).mono ?_
    rintro r z6 ⟨rfl, b⟩
    have HB6 := hide (unhide HK z6 b).2.2
    have hcv := (unhide HK z6 b).2.1
    have HSB6 := hide (unhide HK z6 b).1
    clear b HC HK
    by_cases c1 : cut < 0
    · have HF := hide (unhide HBW _ (unhide HB6))
      go_wp2_with fail
      go_ret
      exact ⟨rfl, unhide HF⟩
    by_cases c2 : (L : Int) ≤ cut
    · have HF := hide (unhide HBW _ (unhide HB6))
      go_wp2_with fail
      go_ret
      exact ⟨rfl, unhide HF⟩
    obtain ⟨c, rfl⟩ : ∃ c : Nat, cut = c := ⟨cut.toNat, by omega⟩
    have hcl : c < L := by omega
    have hci : (c : Int) ≤ (uc : Int) := by obtain ⟨_, _, e, h, _⟩ := unhide HSB6; simp only [Value.slice.injEq] at e; have := unhide HLL; omega
    have HSC := hide (sees_take (unhide HSB6) c (by have := unhide HLL; omega))
    have HC := hide (Unmarshal_any _ (B.take c) z6 (unhide HSC) (fun x hx => unhide HBY x (List.mem_of_mem_take hx)) (by rw [List.length_take]; omega))
    rw [show (unm (B.take c)).2 = 10 from (unhide HBB) ▸ cut_short (unhide HBM) (by rw [unhide HBB]; have := unhide HLL; omega)] at HC
    go_wp2_with fail
    refine (unhide HC).mono ?_
    rintro r z7 ⟨cs7, rfl, ow7, b7⟩
    have HF := hide (unhide HBW _ (unhide HTR _ _ (unhide HB6) b7))
    clear ow7 b7 HC
    go_wp2_with fail
    go_ret
    exact ⟨rfl, unhide HF⟩
  · have hfb : (f == 0) = false := by simpa using hf
    have hfc : (f != 0) = true := by simpa using hf
    obtain rfl := unhide HUB hf
    have HC := hide (refSameMsg_any _ #[.int .i64 0, .int .i64 0, .int .i64 0, .int .i64 0, .int .i64 0, .int .i64 0, .int .i64 0, .bool false, .slice none 0 0, .int .i64 0, .int .i64 0, .int .i64 0, .slice none 0 0, .int .i64 0, .int .i64 0, .int .i64 0, .slice none 0 0] dG dG z5 (unhide HSS) ⟨_, _, _, rfl, SeesTms.nil _, SeesTs.nil _, Sees.nil _ _⟩ (unhide HUF).2.ok (unhide HUF).2.ok)
    simp only [decide_true] at HC
    clear ow
    go_wp2_with (first | rw [hza] | rw [hz5] | rw [hX] | refine wpList_store_row rfl 30 _ _ rfl X _ _ rfl rfl 30 (unhide HXA) (by rw [unhide HCS]; kernel_rfl) (by rw [unhide HCS]; rfl) (unhide HCO) ?_ | refine wpList_load_wanted (by rfl) 30 _ rfl X rfl 30 _ (0, 0) _ (unhide HXB) Tryz.underlying30 rfl (by rw [unhide HCS]; kernel_rfl) ?_ | refine wpList_load_wanted (by rfl) 30 _ rfl w.heap.size rfl 30 _ (0, 0) _ (unhide HXM) Tryz.underlying30 rfl (by rw [unhide HZM]; kernel_rfl) ?_)
    refine (unhide HC).mono ?_
    rintro r z6 ⟨rfl, b⟩
    by_cases hkn : v0 / 2 < (p : Int)
    · skip
      have HB6 := hide (unhide HK z6 b).2.2
      have hcv := (unhide HK z6 b).2.1
      have HSB6 := hide (unhide HK z6 b).1
      clear b HC HK
      by_cases c1 : cut < 0
      · have HF := hide (unhide HBW _ (unhide HB6))
        go_wp2_with fail
        go_ret
        exact ⟨rfl, unhide HF⟩
      by_cases c2 : (L : Int) ≤ cut
      · have HF := hide (unhide HBW _ (unhide HB6))
        go_wp2_with fail
        go_ret
        exact ⟨rfl, unhide HF⟩
      obtain ⟨c, rfl⟩ : ∃ c : Nat, cut = c := ⟨cut.toNat, by omega⟩
      have hcl : c < L := by omega
      have hci : (c : Int) ≤ (uc : Int) := by obtain ⟨_, _, e, h, _⟩ := unhide HSB6; simp only [Value.slice.injEq] at e; have := unhide HLL; omega
      have HSC := hide (sees_take (unhide HSB6) c (by have := unhide HLL; omega))
      have HC := hide (Unmarshal_any _ (B.take c) z6 (unhide HSC) (fun x hx => unhide HBY x (List.mem_of_mem_take hx)) (by rw [List.length_take]; omega))
      rw [show (unm (B.take c)).2 = 10 from (unhide HBB) ▸ cut_short (unhide HBM) (by rw [unhide HBB]; have := unhide HLL; omega)] at HC
      go_wp2_with fail
      refine (unhide HC).mono ?_
      rintro r z7 ⟨cs7, rfl, ow7, b7⟩
      have HF := hide (unhide HBW _ (unhide HTR _ _ (unhide HB6) b7))
      clear ow7 b7 HC
      go_wp2_with fail
      go_ret
      exact ⟨rfl, unhide HF⟩
    · skip
      have HB6 := hide (unhide HK z6 b).2.2
      have hcv := (unhide HK z6 b).2.1
      have HSB6 := hide (unhide HK z6 b).1
      clear b HC HK
      by_cases c1 : cut < 0
      · have HF := hide (unhide HBW _ (unhide HB6))
        go_wp2_with fail
        go_ret
        exact ⟨rfl, unhide HF⟩
      by_cases c2 : (L : Int) ≤ cut
      · have HF := hide (unhide HBW _ (unhide HB6))
        go_wp2_with fail
        go_ret
        exact ⟨rfl, unhide HF⟩
      obtain ⟨c, rfl⟩ : ∃ c : Nat, cut = c := ⟨cut.toNat, by omega⟩
      have hcl : c < L := by omega
      have hci : (c : Int) ≤ (uc : Int) := by obtain ⟨_, _, e, h, _⟩ := unhide HSB6; simp only [Value.slice.injEq] at e; have := unhide HLL; omega
      have HSC := hide (sees_take (unhide HSB6) c (by have := unhide HLL; omega))
      have HC := hide (Unmarshal_any _ (B.take c) z6 (unhide HSC) (fun x hx => unhide HBY x (List.mem_of_mem_take hx)) (by rw [List.length_take]; omega))
      rw [show (unm (B.take c)).2 = 10 from (unhide HBB) ▸ cut_short (unhide HBM) (by rw [unhide HBB]; have := unhide HLL; omega)] at HC
      go_wp2_with fail
      refine (unhide HC).mono ?_
      rintro r z7 ⟨cs7, rfl, ow7, b7⟩
      have HF := hide (unhide HBW _ (unhide HTR _ _ (unhide HB6) b7))
      clear ow7 b7 HC
      go_wp2_with fail
      go_ret
      exact ⟨rfl, unhide HF⟩
end Go.Proofs.YtggllgimlfchhabGreat
