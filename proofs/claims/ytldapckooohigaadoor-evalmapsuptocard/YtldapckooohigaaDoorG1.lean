/- The program's Apply. -/
import Derived.Test.YtldapckooohigaaDoorG0
namespace Go.Proofs.YtldapckooohigaaDoor
open Go.RowKit
open Go.ChangeMaps (setBlock heap_setBlock_same heap_setBlock_other)
set_option maxRecDepth 100000

theorem rtP : RT pC 3 29 45 24 := ⟨pC_len, pC_one, by decide, Tryd.underlying29, by
  obtain ⟨i, hi, hz, hs1, hb⟩ := info_parts (show (Tryd.prog.info? 45).map (fun i => (i.zero, i.size, i.bytes)) = some (some (.agg #[.int .i32 0, .int .i64 0, .int .i64 0]), 3, 24) by kernel_rfl)
  exact ⟨i, _, hi, hz, hs1, hb, rfl⟩⟩
/-- Where the range over Apply's map stands. -/
structure RgP (w : World) (mb : Nat) (es : Array MapEntry) (clock : Nat) (D : List Pr) (seen : Array Nat) (o : Value) (wr : World) : Prop where
  it : wr.heap[w.heap.size]? = some (.mapIter (some mb) clock seen clock)
  mp : wr.heap[mb]? = some (.map es clock)
  bel : Below w.heap.size w wr
  own : ∃ D' : List Pr, wr.ownsRow w.heap.size 45 3 o D'.length (D'.flatMap pC) ∧ D'.Perm (((es.toList.zip D).filter fun y => seen.contains y.1.born).map (·.2))
theorem zip_factsP {es : Array MapEntry} {clock : Nat} {D : List Pr} (hst : Stp es clock) (hes : es.toList.map (fun e => (e.key, e.val)) = (D.map prE).map fun q => (keyV q.1.1 q.1.2, q.2)) :
    ((es.toList.zip D).map fun y => y.1.born).Nodup ∧ (es.toList.zip D).map (·.2) = D ∧ ∀ e ∈ es.toList, ∃ c ∈ D, (e, c) ∈ es.toList.zip D ∧ e.key = keyV c.1.1 c.1.2 ∧ e.val = (prE c).2 := by
  have hl : es.toList.length = D.length := by simpa using congrArg List.length hes
  refine ⟨?_, ?_, fun e he => ?_⟩
  · have : (es.toList.zip D).map (fun y => y.1.born) = ((es.toList.zip D).map (·.1)).map (·.born) := by rw [List.map_map]; rfl
    rw [this, List.map_fst_zip (by omega)]
    exact hst.2
  · exact List.map_snd_zip (by omega)
  · obtain ⟨i, hi, rfl⟩ := List.getElem_of_mem he
    have hiD : i < D.length := by omega
    refine ⟨D[i], List.getElem_mem _, ?_, ?_⟩
    · have : (es.toList.zip D)[i]? = some (es.toList[i], D[i]) := by rw [List.getElem?_zip_eq_some]; exact ⟨List.getElem?_eq_getElem hi, List.getElem?_eq_getElem hiD⟩
      exact List.mem_of_getElem? this
    · have h4 : (es.toList.map (fun e => (e.key, e.val)))[i]? = some (es.toList[i].key, es.toList[i].val) := by rw [List.getElem?_map, List.getElem?_eq_getElem hi]; rfl
      rw [hes, List.map_map, List.getElem?_map, List.getElem?_eq_getElem hiD] at h4
      simp only [Option.map_some, Option.some.injEq, Prod.mk.injEq, Function.comp] at h4
      exact ⟨h4.1.symm, h4.2.symm⟩

set_option maxHeartbeats 3200000 in
theorem apply_any {mv lv : Value} {m : List Pr} {l : List Ch} {w : World} (h1 : SeesL pC 3 w mv m) (ok1 : ∀ p ∈ m, OkK p.1) (h2 : SeesL chC 4 w lv l) (ok2 : ∀ c ∈ l, OkK c.1) (hll : m.length + l.length ≤ 4398046510976) :
    Calls Tryd.prog 17 #[mv, lv] w fun e w' => ∃ r, e = .returned r ∧ w'.ownsRow w.heap.size 45 3 r (appD m l).length ((appD m l).flatMap pC) ∧ Below w.heap.size w w' := by
  have HS : Hid (∀ w', Below w.heap.size w w' → SeesL chC 4 w' lv l) := fun w' hb => h2.below chC_len hb
  have HBK := hide (byKey_any h1 ok1)
  have HOK := hide ok2
  have HOD : Hid (∀ t, ∀ k ∈ keysOf (dA m (l.take t)), OkK k) := fun t => dA_ok ok1 fun c hc => ok2 c (List.mem_of_mem_take hc)
  have HODL : Hid (∀ k ∈ keysOf (dA m l), OkK k) := dA_ok ok1 ok2
  obtain ⟨ma, mc, hmv⟩ := h1.shape
  obtain ⟨ao, cap, _, _, hv, hcap, hmax, _⟩ := sees_at4 h2
  have HV := hide hv
  obtain ⟨n, hn⟩ : ∃ n, l.length = n := ⟨_, rfl⟩
  obtain ⟨mn, hmn⟩ : ∃ n, m.length = n := ⟨_, rfl⟩
  rw [hmn] at hmv
  subst hmv
  rw [hv, hn]
  rw [hn] at HV
  have HN := hide hn
  have HMN := hide hmn
  rw [hn] at hcap hmax hll
  rw [hmn] at hll
  have HLL : Hid (mn + n ≤ 4398046510976) := hll
  clear h1 ok1 h2 ok2 hv hn hmn hll
  go_enter Tryd.func17, Tryd.ntmps17
  go_wp2_with (go_at_call 33; refine (unhide HBK).mono ?_; rintro e w0 ⟨mb, rfl, hmb, hma, hb0⟩; have H0 := hide (And.intro hmb (And.intro hma hb0)); clear hmb hma hb0 HBK)
  go_loopw [15] (fun c wr => ∃ t : Nat, t ≤ n ∧ c = .int .i64 t ∧ MapAt wr mb ((dA m (l.take t)).map prE) ∧ Below w.heap.size w wr) (fun c _ => n - (intOf c).toNat)
  case atStart => exact ⟨0, by omega, rfl, (unhide H0).2.1, (unhide H0).2.2⟩
  case round =>
    obtain ⟨t, ht, rfl, hma, hbw⟩ := hrel
    by_cases hlt : t < n
    · have hnl := unhide HN
      have htl : t < l.length := by omega
      obtain ⟨gb, ob, hao, -, hcx⟩ := ch_cells (unhide HS wr hbw) (unhide HV) htl
      subst hao
      obtain ⟨⟨⟨a, b⟩, ⟨c, q⟩⟩, hx⟩ : ∃ k, l.getD t default = k := ⟨_, rfl⟩
      have hx' : l[t] = ((a, b), (c, q)) := by rw [← hx]; simp [List.getD, htl]
      rw [hx] at hcx
      obtain ⟨g1, g2, g3, g4⟩ := hcx wr (Below.refl _ _)
      clear hcx
      have hokx : OkK (a, b) := by have := unhide HOK _ (List.getElem_mem htl); rw [hx'] at this; exact this
      have htk : dA m (l.take (t + 1)) = stepA (dA m (l.take t)) ((a, b), (c, q)) := by rw [List.take_succ_eq_append_getElem htl, dA_snoc, hx']
      have hod := unhide HOD t
      obtain ⟨D, hD⟩ : ∃ D, dA m (l.take t) = D := ⟨_, rfl⟩
      have hnd : (keysOf D).Nodup := hD ▸ (dA_spec m (l.take t)).1
      rw [hD] at hma htk hod
      obtain ⟨y1, hy1⟩ : ∃ y, wr.alloc (.cells #[.int .i32 a, .int .i64 b, .int .i64 c, .bool q] 40) = y := ⟨_, rfl⟩
      have b1 : Below wr.heap.size wr y1 := hy1 ▸ below_box _
      have x1 : y1.heap[wr.heap.size]? = some (.cells #[.int .i32 a, .int .i64 b, .int .i64 c, .bool q] 40) := by rw [← hy1]; exact heap_alloc_new wr _
      have c1 : y1.cell? ⟨wr.heap.size, 0, none⟩ = some (.int .i32 a) := cell_at x1
      have c2 : y1.cell? ⟨wr.heap.size, 1, none⟩ = some (.int .i64 b) := cell_at x1
      have c3 : y1.cell? ⟨wr.heap.size, 2, none⟩ = some (.int .i64 c) := cell_at x1
      have c4 : y1.cell? ⟨wr.heap.size, 3, none⟩ = some (.bool q) := cell_at x1
      have hm1 := hma.below b1
      have hb1 : Below w.heap.size w y1 := hbw.trans (b1.mono hbw.size)
      have hmb := (unhide H0).1
      cases q with
      | true =>
        obtain ⟨y3, r3, m3, o3, z3, p1, p2, p3⟩ := map_del (k := (a, b)) Tryd.underlying69 hm1 (okE_pr hod) (by rw [prE_keys]; exact hnd) hokx
        have HR : Hid (MapAt y3 mb ((dA m (l.take (t + 1))).map prE) ∧ Below w.heap.size w y3) := by
          refine ⟨?_, hb1.trans (below_put hmb o3 z3 p1 p2 p3)⟩
          rw [htk]
          show MapAt y3 mb ((offP (a, b) D).map prE)
          rw [← offV_prE]
          exact m3
        have HY1 := hide hy1
        clear hnl htl hx hx' hokx htk hod hD hnd hma hbw b1 x1 hm1 hb1 hmb m3 o3 z3 p1 p2 p3 hy1
        go_wp2_with (rw [unhide HY1])
        go_roundw
        case rel => exact ⟨t + 1, by omega, by go_num, (unhide HR).1, (unhide HR).2⟩
        case measure => simp [intOf]; omega
      | false =>
        obtain ⟨y3, r3, m3, o3, z3, p1, p2, p3⟩ := map_put (k := (a, b)) Tryd.underlying69 hm1 (okE_pr hod) (by rw [prE_keys]; exact hnd) hokx (.int .i64 c)
        have HR : Hid (MapAt y3 mb ((dA m (l.take (t + 1))).map prE) ∧ Below w.heap.size w y3) := by
          refine ⟨?_, hb1.trans (below_put hmb o3 z3 p1 p2 p3)⟩
          rw [htk]
          show MapAt y3 mb ((addP D ((a, b), c)).map prE)
          rw [← addV_prE]
          exact m3
        have hr3 : (Instr.mapUpdate 69 (.map (some mb)) (.agg #[.int .i32 a, .int .i64 b]) (.int .i64 c)).run Tryd.prog y1 = .ok () y3 := r3
        have HY1 := hide hy1
        clear hnl htl hx hx' hokx htk hod hD hnd hma hbw b1 x1 hm1 hb1 hmb m3 o3 z3 p1 p2 p3 hy1 r3
        go_wp2_with (rw [unhide HY1])
        go_roundw
        case rel => exact ⟨t + 1, by omega, by go_num, (unhide HR).1, (unhide HR).2⟩
        case measure => simp [intOf]; omega
    · obtain rfl : t = n := by omega
      have hnl := unhide HN
      rw [List.take_of_length_le (by omega)] at hma
      obtain ⟨dn, dm, dl⟩ := dA_spec m l
      rw [unhide HN, unhide HMN] at dl
      obtain ⟨D, hD⟩ : ∃ D, dA m l = D := ⟨_, rfl⟩
      rw [hD] at hma dn dl
      obtain ⟨es, clock, hb, hes, hst⟩ := hma
      obtain ⟨zn, zs, zf⟩ := zip_factsP hst hes
      obtain ⟨wA, hwA⟩ : ∃ z, wr = z := ⟨_, rfl⟩
      rw [hwA] at hb hbw
      rw [hwA]
      have hlt := (Array.getElem?_eq_some_iff.1 hb).1
      have hrg := run_range_map (P := Tryd.prog) wA 69 38 2 mb es clock Tryd.underlying69 hb
      obtain ⟨y0, hy0⟩ : ∃ y, wA.alloc (.mapIter (some mb) clock #[] clock) = y := ⟨_, rfl⟩
      rw [hy0] at hrg
      have HI0 : Hid (RgP wA mb es clock D #[] (.slice none 0 0) y0) := ⟨hy0 ▸ heap_alloc_new wA _, by rw [← hy0]; exact ((below_box (.mapIter (some mb) clock #[] clock)).block mb hlt).trans hb, hy0 ▸ below_box _, [], own_nil _ _ _ _, by simp⟩
      have HZ := hide (And.intro zn (And.intro zs zf))
      have HB := hide hb
      have HST := hide hst
      have HDN := hide dn
      have HDL := hide dl
      have HD := hide hD
      have HBW := hide hbw
      clear hnl hb hes hst zn zs zf hlt dn dm dl hD hbw hwA
      go_wp2
      go_loopw [8] (fun o wr => ∃ seen, RgP wA mb es clock D seen o wr) (fun _ wr => (leftOf es (wr.iterSeen wA.heap.size)).size)
      case atStart => exact ⟨#[], unhide HI0⟩
      case round =>
        obtain ⟨seen, hr⟩ := hrel
        obtain ⟨zn, zs, zf⟩ := unhide HZ
        have hseen : wr.iterSeen wA.heap.size = seen := by unfold World.iterSeen; rw [hr.it]
        obtain ⟨D', how, hpe⟩ := hr.own
        obtain ⟨ov, oc, hov⟩ := own_shape how
        subst hov
        rcases run_next_at (P := Tryd.prog) wr 0 wA.heap.size mb clock clock seen es clock hr.it hr.mp (unhide HST).1 (Nat.le_refl _) with ⟨h0, hrun⟩ | ⟨e, he, w1, hal, hrun⟩
        · have hnx : ∀ ty, (Instr.next (.pointer (some ⟨wA.heap.size, 0, none⟩)) false ty).run Tryd.prog wr = _ := fun _ => hrun
          have hall : ((es.toList.zip D).filter fun y => seen.contains y.1.born) = es.toList.zip D := List.filter_eq_self.2 fun y hy => all_seen es seen h0 y.1 (List.of_mem_zip hy).1
          rw [hall, zs] at hpe
          have hl := hpe.length_eq
          have hokD : ∀ p ∈ D', OkK p.1 := fun p hp => unhide HODL _ (by rw [unhide HD]; exact List.mem_map.2 ⟨p, hpe.mem_iff.1 hp, rfl⟩)
          have hfin : srtP D' = appD m l := dA_fin (by rw [unhide HD]; exact hpe)
          have hpa := pairs_any (own_sees pC_len (by decide) how).2 hokD (by have := unhide HDL; have := unhide HLL; omega)
          rw [hfin] at hpa
          have HC := hide hpa
          have HBL := hide hr.bel
          obtain ⟨dn, hdn⟩ : ∃ n, D'.length = n := ⟨_, rfl⟩
          rw [hdn] at HC
          rw [hdn]
          clear hrun hr hall how hpe h0 hseen zn zs zf hl hdn hokD hfin hpa
          go_wp2_with (go_at_call 34; refine (unhide HC).mono ?_; rintro e w2 ⟨r, rfl, hq1, hq2⟩; have HQ := hide (And.intro hq1 hq2); clear hq1 hq2)
          go_ret
          have hbw2 : Below w.heap.size w wr := (unhide HBW).trans ((unhide HBL).mono (unhide HBW).size)
          exact ⟨_, rfl, own_mono (unhide HQ).1 hbw2.size, hbw2.trans ((unhide HQ).2.mono hbw2.size)⟩
        · have hmem := mem_left he
          obtain ⟨c, hcD, hcz, hck, hcv⟩ := zf e hmem.1
          have hcv' : e.val = .int .i64 c.2 := hcv
          rw [hck, hcv'] at hrun
          have hnx : ∀ ty, (Instr.next (.pointer (some ⟨wA.heap.size, 0, none⟩)) false ty).run Tryd.prog wr = _ := fun _ => hrun
          have hw1 : Below wr.heap.size wr w1 := by
            rcases hal with rfl | rfl
            · exact Below.refl _ _
            · exact (Below.refl _ _).drew
          have hit1 : w1.heap[wA.heap.size]? = some (.mapIter (some mb) clock seen clock) := (hw1.block _ (Array.getElem?_eq_some_iff.1 hr.it).1).trans hr.it
          have hmp1 : w1.heap[mb]? = some (.map es clock) := (hw1.block _ (Array.getElem?_eq_some_iff.1 hr.mp).1).trans hr.mp
          have how1 := own_below how hw1
          have hb1 : Below wA.heap.size wA w1 := hr.bel.trans (hw1.mono hr.bel.size)
          have hmne : mb ≠ wA.heap.size := fun e1 => by rw [e1, hit1] at hmp1; cases hmp1
          obtain ⟨w2, hw2⟩ : ∃ y, setBlock w1 wA.heap.size (.mapIter (some mb) clock (seen.push e.born) clock) = y := ⟨_, rfl⟩
          rw [hw2] at hnx hrun
          have hit2 : w2.heap[wA.heap.size]? = some (.mapIter (some mb) clock (seen.push e.born) clock) := hw2 ▸ heap_setBlock_at hit1
          have hne2 : ∀ j, j ≠ wA.heap.size → w2.heap[j]? = w1.heap[j]? := fun j hj => hw2 ▸ heap_setBlock_ne _ hj
          have hsz2 : w2.heap.size = w1.heap.size := by rw [← hw2]; simp [setBlock]
          have hmp2 : w2.heap[mb]? = some (.map es clock) := (hne2 mb hmne).trans hmp1
          have hb2 : Below wA.heap.size wA w2 := hb1.trans ⟨by rw [← hw2]; rfl, by rw [← hw2]; rfl, by rw [← hw2]; rfl, by omega, fun j hj => hne2 j (by omega)⟩
          have how2 : w2.ownsRow wA.heap.size 45 3 (.slice ov D'.length oc) D'.length (D'.flatMap pC) := by
            refine ⟨how1.1, ?_⟩
            rcases how1.2 with hn | ⟨g', cap', cur, hv, hb', hh, r⟩
            · exact .inl hn
            · exact .inr ⟨g', cap', cur, hv, hb', (hne2 g' fun e1 => by rw [e1, hit1] at hh; cases hh).trans hh, r⟩
          have hen : (Instr.entry (.pointer (some ⟨wA.heap.size, 0, none⟩))).run Tryd.prog w2 = .ok (.tuple #[e.key, e.val]) w2 := run_entry_at w2 wA.heap.size mb clock seen es clock e hit2 hmp2 hmem.1 (unhide HST).2
          rw [hck, hcv'] at hen
          obtain ⟨⟨a, b⟩, u⟩ := c
          replace hen : (Instr.entry (.pointer (some ⟨wA.heap.size, 0, none⟩))).run Tryd.prog w2 = .ok (.tuple #[.agg #[.int .i32 a, .int .i64 b], .int .i64 u]) w2 := hen
          obtain ⟨y1, hy1⟩ : ∃ y, w2.alloc (.cells #[.int .i32 a, .int .i64 b] 38) = y := ⟨_, rfl⟩
          have b1 : Below w2.heap.size w2 y1 := hy1 ▸ below_box _
          have x1 : y1.heap[w2.heap.size]? = some (.cells #[.int .i32 a, .int .i64 b] 38) := hy1 ▸ heap_alloc_new w2 _
          have c0 : y1.cell? ⟨w2.heap.size, 0, none⟩ = some (.int .i32 a) := cell_at x1
          have c1 : y1.cell? ⟨w2.heap.size, 1, none⟩ = some (.int .i64 b) := cell_at x1
          have hby1 : Below wA.heap.size wA y1 := hb2.trans (b1.mono hb2.size)
          obtain ⟨y2, hy2⟩ : ∃ y, y1.alloc (.cells #[.int .i32 a, .int .i64 b, .int .i64 u] 45) = y := ⟨_, rfl⟩
          have hbox : Below y1.heap.size y1 y2 := hy2 ▸ below_box _
          have hlD : D'.length ≤ D.length := by
            rw [hpe.length_eq, List.length_map]
            refine Nat.le_trans (List.length_filter_le _ _) ?_
            rw [← List.length_map (f := (·.2)), zs]
            exact Nat.le_refl _
          have hdl := unhide HDL
          have hll := unhide HLL
          have hso : SeesL pC 3 y2 (.slice (some ⟨y1.heap.size, 0, none⟩) 1 1) [((a, b), u)] := hy2 ▸ sees_oneP y1 _
          obtain ⟨ao2, cap2, y3, r2, o3, b3, oth⟩ := rtP.appB (l := D') 29 (own_below (own_below how2 b1) hbox) hso (by simp only [List.length_cons, List.length_nil]; omega) (by simp only [List.length_cons, List.length_nil]; omega) (by have := hby1.size; have := hbox.size; omega)
          have hb3 : Below wA.heap.size wA y3 := (hby1.trans (hbox.mono hby1.size)).trans b3
          have hit3 : y3.heap[wA.heap.size]? = some (.mapIter (some mb) clock (seen.push e.born) clock) := oth _ _ ((hbox.block _ (by have := (Array.getElem?_eq_some_iff.1 hit2).1; have := b1.size; omega)).trans ((b1.block _ (Array.getElem?_eq_some_iff.1 hit2).1).trans hit2)) (fun cs e1 => by cases e1)
          have hmp3 : y3.heap[mb]? = some (.map es clock) := oth _ _ ((hbox.block _ (by have := (Array.getElem?_eq_some_iff.1 hmp2).1; have := b1.size; omega)).trans ((b1.block _ (Array.getElem?_eq_some_iff.1 hmp2).1).trans hmp2)) (fun cs e1 => by cases e1)
          have hR : RgP wA mb es clock D (seen.push e.born) (.slice ao2 (D'.length + 1) cap2) y3 := by
            refine ⟨hit3, hmp3, hb3, D' ++ [((a, b), u)], by rw [List.length_append]; exact o3, ?_⟩
            have hpp := perm_push (fun y : MapEntry × Pr => y.1.born) (fun b => seen.contains b) (es.toList.zip D) zn (e, ((a, b), u)) hcz hmem.2
            have hfe : ((es.toList.zip D).filter fun y => (seen.push e.born).contains y.1.born) = (es.toList.zip D).filter fun y => seen.contains y.1.born || y.1.born == e.born := List.filter_congr fun y _ => contains_push _ _ _
            rw [hfe]
            refine List.Perm.trans ?_ (hpp.map _).symm
            rw [List.map_cons]
            exact (List.perm_append_singleton _ D').trans (List.Perm.cons _ hpe)
          have HR := hide hR
          have HM := hide (left_shrinks es seen e he)
          have r2' : (Builtin.append_ #[29, 29] 29 #[.slice ov D'.length oc, .slice (some ⟨y1.heap.size, 0, none⟩) 1 1]).run Tryd.prog y2 = .ok (.slice ao2 (D'.length + 1) cap2) y3 := r2
          have HR2 := hide r2'
          have HS3 : Hid (y3.iterSeen wA.heap.size = seen.push e.born) := by show y3.iterSeen wA.heap.size = _; unfold World.iterSeen; rw [hit3]
          have HY1 := hide hy1
          have HY2 := hide hy2
          clear hr zn zs zf how hpe hmem hcD hcz hck hcv hcv' hrun hw1 hit1 hmp1 how1 hb1 hmne hw2 hit2 hne2 hsz2 hmp2 hb2 how2 b1 x1 hby1 hbox hlD hdl hll hso r2 o3 b3 oth hb3 hit3 hmp3 hR r2' hal he hy1 hy2
          go_wp2_with (first | rw [unhide HY1] | rw [unhide HY2] | (refine wpList_append_wanted (by rfl) _ _ 29 rfl rfl rfl (unhide HR2) ?_))
          go_roundw
          case rel => exact ⟨_, unhide HR⟩
          case measure => rw [unhide HS3, hseen]; exact unhide HM
end Go.Proofs.YtldapckooohigaaDoor
