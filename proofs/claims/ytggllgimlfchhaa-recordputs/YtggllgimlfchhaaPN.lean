/- RecordPuts' walk. -/
import Derived.Test.YtggllgimlfchhaaPB
import Derived.Test.YtggllgimlfchhaaPH
import Derived.Test.YtggllgimlfchhaaPK
import Derived.Test.YtggllgimlfchhaaPL
import Derived.Test.YtggllgimlfchhaaPM
import Derived.Test.YtggllgimlfchhaaWJ
import Derived.Test.YtggllgimlfchhaaZJ
import Derived.Deep.RegionHeld3
namespace Go.Proofs.Ytggllgimlfchhaa
open Go.RowKit
set_option maxRecDepth 100000

theorem wpList_append_wanted {P : Program} {w w' : World} {ops : Array Oper} {rest : List Oper} {o : Oper} {a : Act} {Q : Exit → Act → World → Prop} {v sv v' : Value} (hw : Region.wanted o (yielded ops a.tmps) = true) (s x : Operand) (t : TypeId)
    (ho : o.op = .call { callee := .builtin .append, args := #[s, x], argTypes := #[t, t] }) (hs : a.eval s = v) (hx : a.eval x = sv) (hr : (Builtin.append_ #[t, t] o.type #[v, sv]).run P w = .ok v' w') (h : wpList P ops Q rest (a.put o.dst v') w') : wpList P ops Q (o :: rest) a w := by
  unfold wpList
  rw [if_pos hw]
  exact Or.inl (append_upon ho hs hx hr h)
theorem own_apart {w w' : World} {base e size n : Nat} {v v' : Value} {xs : List Value} (h : w.ownsRow base e size v n xs) (hb : ∀ k, v'.ownBlock = some k → k < base) (hg : w.grownBy w' v'.ownBlock) : w'.ownsRow base e size v n xs := by
  refine ⟨h.1, ?_⟩
  rcases h.2 with hn | ⟨g, cap, cur, hv, hg', hh, r⟩
  · exact .inl hn
  · exact .inr ⟨g, cap, cur, hv, hg', (hg.block g (Array.getElem?_eq_some_iff.1 hh).1 (fun e => by have := hb g e.symm; omega)).trans hh, r⟩
theorem dtxn_read {s : RS} (h : Byt s.zs) : ReadT s.dtxn.1 :=
  ⟨(blob_byt (num_byt (num_byt h))).2, list_len _ _, list_len _ _, list_len _ _⟩
theorem fault_same (s : RS) : s.txn.2.fault (mayT s.dtxn.1) = s.txn.2.fault (mayT s.txn.1) := by
  cases hu : s.txn.2.un with
  | false => rw [dtxn_same s hu]
  | true => unfold RS.fault; rw [hu]; simp
theorem fault_zero {s : RS} {b : Bool} (h : s.fault b = 0) : s.er = 0 ∧ s.un = false ∧ b = true := by
  unfold RS.fault at h
  by_cases he : s.er = 0
  · rw [if_neg (by simpa using he)] at h
    cases b <;> cases hu : s.un <;> simp [hu] at h ⊢
    exact he
  · rw [if_pos he] at h
    exact absurd h he
/-- What the law asks of what is read. -/
theorem take_ok {zs : List Int} (h : (RS.mk zs 0 false).dtxn.2.fault (mayT (RS.mk zs 0 false).dtxn.1) = 0) : takeT zs = ((RS.mk zs 0 false).dtxn.1, zs.length - (RS.mk zs 0 false).dtxn.2.zs.length, 0) := by
  rw [dtxn_st] at h
  obtain ⟨_, hu, _⟩ := fault_zero h
  have e := dtxn_same (RS.mk zs 0 false) hu
  rw [fault_same] at h
  unfold takeT
  simp only
  rw [if_pos h, e]
theorem take_no {zs : List Int} (h : (RS.mk zs 0 false).dtxn.2.fault (mayT (RS.mk zs 0 false).dtxn.1) ≠ 0) : takeT zs = (dT, 0, (RS.mk zs 0 false).dtxn.2.fault (mayT (RS.mk zs 0 false).dtxn.1)) := by
  rw [dtxn_st, fault_same] at h ⊢
  unfold takeT
  simp only
  rw [if_neg h]
theorem putL_byt (l : List Int) : Byt (putL l) := by
  induction l with
  | nil => intro b hb; cases hb
  | cons x r ih => exact Byt.append (numB_byte x) ih
theorem txnB_byt {t : TxnD} (hf : FitT t) : Byt (txnB t) := by
  unfold txnB
  exact (((((putL_byt _).append ((putL_byt _).append hf.code)).append (putL_byt _)).append (putL_byt _)).append (putL_byt _)).append (putL_byt _)

set_option maxHeartbeats 1600000 in
theorem recordPuts_walk (cs : Array Value) (t : TxnD) (hv bv : Value) (hs zs : List Int) (w : World) (hT : SeesT w cs t) (hf : FitT t) (hh : Sees w .u8 hv hs) (hz : Sees w .u8 bv zs) (hhb : Byt hs) (hzb : Byt zs) (hhl : hs.length ≤ 140737488351232) (hzl : zs.length ≤ 140737488351232) :
    Calls Try.prog 4 #[.agg cs, hv, bv] w fun e w' => e = .returned (.bool true) ∧ Below w.heap.size w w' := by
  have HT := hide hT
  have HH := hide hh
  have HZ := hide hz
  have HHB := hide hhb
  have HZB := hide hzb
  obtain ⟨ah, ch, rfl, _⟩ := hh
  obtain ⟨ab, cb, rfl, _⟩ := hz
  obtain ⟨cv, av, rv, wv, rfl, k1, k2, k3, k4⟩ := hT
  obtain ⟨ac, cc, rfl, _⟩ := k1
  obtain ⟨aa, ca, rfl, _⟩ := k2
  obtain ⟨ar, cr, _, _, rfl, _⟩ := k3
  obtain ⟨aw, cw, _, _, rfl, _⟩ := k4
  have HFT := hide hf
  obtain ⟨s, es⟩ : ∃ x, t.ses = x := ⟨_, rfl⟩
  obtain ⟨q, eq⟩ : ∃ x, t.req = x := ⟨_, rfl⟩
  obtain ⟨cn, ec⟩ : ∃ x, t.code.length = x := ⟨_, rfl⟩
  obtain ⟨an, ea⟩ : ∃ x, t.args.length = x := ⟨_, rfl⟩
  obtain ⟨rn, er⟩ : ∃ x, t.reads.length = x := ⟨_, rfl⟩
  obtain ⟨wn, ew⟩ : ∃ x, t.writes.length = x := ⟨_, rfl⟩
  rw [es, eq, ec, ea, er, ew] at HT
  rw [es, eq, ec, ea, er, ew]
  obtain ⟨HL, hHL⟩ : ∃ n, hs.length = n := ⟨_, rfl⟩
  obtain ⟨ZL, hZL⟩ : ∃ n, zs.length = n := ⟨_, rfl⟩
  rw [hHL] at HH hhl
  rw [hZL] at HZ hzl
  rw [hHL, hZL]
  have HHL := hide hHL
  have HZL := hide hZL
  clear es eq ec ea er ew hf hhb hzb hHL hZL
  have hal : Below w.heap.size w (w.alloc (.cells #[.int .i64 s, .int .i64 q, .slice ac cn cc, .slice aa an ca, .slice ar rn cr, .slice aw wn cw] 35)) := (Below.refl _ _).alloc (Nat.le_refl _) _
  have HAL := hide hal
  have HBX : Hid (∀ x, Below (w.heap.size + 1) (w.alloc (.cells #[.int .i64 s, .int .i64 q, .slice ac cn cc, .slice aa an ca, .slice ar rn cr, .slice aw wn cw] 35)) x → x.cell? ⟨w.heap.size, 0, none⟩ = some (.int .i64 s) ∧ x.cell? ⟨w.heap.size, 1, none⟩ = some (.int .i64 q) ∧ x.cell? ⟨w.heap.size, 2, none⟩ = some (.slice ac cn cc) ∧ x.cell? ⟨w.heap.size, 3, none⟩ = some (.slice aa an ca) ∧ x.cell? ⟨w.heap.size, 4, none⟩ = some (.slice ar rn cr) ∧ x.cell? ⟨w.heap.size, 5, none⟩ = some (.slice aw wn cw)) := fun x hb => by
    have hx : x.heap[w.heap.size]? = some (.cells #[.int .i64 s, .int .i64 q, .slice ac cn cc, .slice aa an ca, .slice ar rn cr, .slice aw wn cw] 35) := (hb.block _ (Nat.lt_succ_self _)).trans (heap_alloc_new w _)
    exact ⟨cell_heap hx, cell_heap hx, cell_heap hx, cell_heap hx, cell_heap hx, cell_heap hx⟩
  clear hal
  have HPT : Hid (∀ w', Below w.heap.size w w' → Calls Try.prog 17 #[.slice ah HL ch, .agg #[.int .i64 s, .int .i64 q, .slice ac cn cc, .slice aa an ca, .slice ar rn cr, .slice aw wn cw]] w' fun r w'' => ∃ x, r = .returned (.tuple #[x, .int .i64 (putE hs t)]) ∧ w''.ownsRow w'.heap.size 5 1 x (putB hs t).length (ints .u8 (putB hs t)) ∧ Below w'.heap.size w' w'') := fun w' hb => PutTxn_any w.heap.size _ hs _ t w' hb.size ((unhide HH).below hb) (by rw [unhide HHL]; omega) (fun w'' hb2 => (unhide HT).below (hb.trans hb2)) (unhide HFT)
  have HPE : Hid (∀ w', Below w.heap.size w w' → Calls Try.prog 18 #[.slice ah HL ch, .agg #[.int .i64 s, .int .i64 q, .slice ac cn cc, .slice aa an ca, .slice ar rn cr, .slice aw wn cw]] w' fun r w'' => r = .returned (.int .i64 (putE hs t)) ∧ Below w'.heap.size w' w'') := fun w' hb => putError_any _ hs _ t w' ((unhide HH).below hb) (by rw [unhide HHL]; omega) ((unhide HT).below hb) (unhide HFT)
  have HTF : Hid (mayT t = true → ∀ w', Below w.heap.size w w' → Calls Try.prog 20 #[.agg #[.int .i64 s, .int .i64 q, .slice ac cn cc, .slice aa an ca, .slice ar rn cr, .slice aw wn cw]] w' fun e w'' => ∃ v, e = .returned v ∧ w''.ownsRow w'.heap.size 5 1 v (txnB t).length (ints .u8 (txnB t)) ∧ Below w'.heap.size w' w'') := fun hm w' hb => txnForm_any _ t w' ((unhide HT).below hb) (unhide HFT) hm
  obtain ⟨PE, hPE⟩ : ∃ e, putE hs t = e := ⟨_, rfl⟩
  obtain ⟨PBB, hPB⟩ : ∃ e, putB hs t = e := ⟨_, rfl⟩
  rw [hPE, hPB] at HPT
  rw [hPE] at HPE
  have HE := hide hPE
  have HB := hide hPB
  clear hPE hPB
  go_enter Try.func4, Try.ntmps4
  go_wp2_with fail
  refine (begun_any _).mono ?_
  rintro e w1 ⟨rfl, hb1⟩
  have HX1 : Hid (Below (w.heap.size + 1) (w.alloc (.cells #[.int .i64 s, .int .i64 q, .slice ac cn cc, .slice aa an ca, .slice ar rn cr, .slice aw wn cw] 35)) w1) := hb1.mono (by simp)
  have HB1 : Hid (Below w.heap.size w w1) := (unhide HAL).trans (hb1.mono (by simp))
  have HC1 := hide (clone_any _ hs w1 ((unhide HH).below (unhide HB1)) (by rw [unhide HHL]; omega))
  rw [unhide HHL] at HC1
  clear hb1
  go_wp2_with fail
  refine (unhide HC1).mono ?_
  rintro e w2 ⟨v2, rfl, ho2, hb2⟩
  have hs1 : w.heap.size + 1 ≤ w1.heap.size := by have := (unhide HX1).size; simpa using this
  have HX2 : Hid (Below (w.heap.size + 1) (w.alloc (.cells #[.int .i64 s, .int .i64 q, .slice ac cn cc, .slice aa an ca, .slice ar rn cr, .slice aw wn cw] 35)) w2) := (unhide HX1).trans (hb2.mono hs1)
  have HB2 : Hid (Below w.heap.size w w2) := (unhide HB1).trans (hb2.mono (unhide HB1).size)
  obtain ⟨a2, c2, rfl⟩ := own_shape ho2
  have HO2 : Hid (w2.ownsRow (w.heap.size + 1) 5 1 (.slice a2 HL c2) HL (ints .u8 hs)) := own_mono ho2 hs1
  obtain ⟨d0, d1, d2, d3, d4, d5⟩ := unhide HBX _ (unhide HX2)
  have HC2 := hide (unhide HPT w2 (unhide HB2))
  clear hb2 ho2 HC1 HPT
  go_wp2_with fail
  refine (unhide HC2).mono ?_
  rintro e w3 ⟨v3, rfl, ho3, hb3⟩
  have hs2 : w.heap.size + 1 ≤ w2.heap.size := by have := (unhide HX2).size; simpa using this
  have HX3 : Hid (Below (w.heap.size + 1) (w.alloc (.cells #[.int .i64 s, .int .i64 q, .slice ac cn cc, .slice aa an ca, .slice ar rn cr, .slice aw wn cw] 35)) w3) := (unhide HX2).trans (hb3.mono hs2)
  have HB3 : Hid (Below w.heap.size w w3) := (unhide HB2).trans (hb3.mono (unhide HB2).size)
  obtain ⟨a3, c3, rfl⟩ := own_shape ho3
  have HO3 : Hid (w3.ownsRow w2.heap.size 5 1 (.slice a3 PBB.length c3) PBB.length (ints .u8 PBB)) := ho3
  have HO23 := hide (own_below (unhide HO2) hb3)
  have HO2L : Hid (∀ k, (Value.slice a2 HL c2).ownBlock = some k → k < w2.heap.size) := fun k e => ((unhide HO2).lt k e).2
  obtain ⟨f0, f1, f2, f3, f4, f5⟩ := unhide HBX _ (unhide HX3)
  have HC3 := hide (unhide HPE w3 (unhide HB3))
  clear hb3 ho3 HC2 HPE HO2
  go_wp2_with fail
  refine (unhide HC3).mono ?_
  rintro e w4 ⟨rfl, hb4⟩
  have hs3 : w.heap.size + 1 ≤ w3.heap.size := by have := (unhide HX3).size; simpa using this
  have HX4 : Hid (Below (w.heap.size + 1) (w.alloc (.cells #[.int .i64 s, .int .i64 q, .slice ac cn cc, .slice aa an ca, .slice ar rn cr, .slice aw wn cw] 35)) w4) := (unhide HX3).trans (hb4.mono hs3)
  have HB4 : Hid (Below w.heap.size w w4) := (unhide HB3).trans (hb4.mono (unhide HB3).size)
  have HO24 := hide (own_below (unhide HO23) hb4)
  have HO34 := hide (own_below (unhide HO3) hb4)
  have HC4 := hide (equal_any _ _ hs hs w4 ((unhide HH).below (unhide HB4)) (sees_of_own (unhide HO24)).2 (unhide HHB) (unhide HHB))
  rw [decide_eq_true rfl] at HC4
  obtain ⟨g0, g1, g2, g3, g4, g5⟩ := unhide HBX _ (unhide HX4)
  clear hb4 HC3 HO23 HO3
  go_wp2_with fail
  refine (unhide HC4).mono ?_
  rintro e w5 ⟨rfl, rfl⟩
  clear HC4
  by_cases hP0 : PE = 0
  · have hmy : mayT t = true := by
      cases hm : mayT t with
      | true => rfl
      | false => have := unhide HE; rw [putE_no hm] at this; omega
    have hPBe : PBB = hs ++ txnB t := by rw [← unhide HB]; unfold putB; rw [unhide HE, hP0]; rfl
    have HPBE := hide hPBe
    clear hPBe
    subst hP0
    have HSUM : Hid (hs.length + (txnB t).length ≤ 1048576) := by
      by_cases h : 1048576 < hs.length + (txnB t).length
      · have := unhide HE
        rw [putE_long hmy h] at this
        exact absurd this (by decide)
      · show _ ≤ _
        omega
    have HTF4 := hide (unhide HTF hmy w4 (unhide HB4))
    obtain ⟨i0, hi, hz0, hz1, hz2⟩ := info_parts Try.info5
    go_wp2_with fail
    refine (unhide HTF4).mono ?_
    rintro e w5 ⟨v5, rfl, ho5, hb5⟩
    obtain ⟨a5, c5, rfl⟩ := own_shape ho5
    have hs4 : w.heap.size + 1 ≤ w4.heap.size := by have := (unhide HX4).size; simpa using this
    have HB5 : Hid (Below w.heap.size w w5) := (unhide HB4).trans (hb5.mono (unhide HB4).size)
    have ho25 := own_below (unhide HO24) hb5
    have HO25 := hide ho25
    have HO35 := hide (own_below (unhide HO34) hb5)
    have hse5 := (sees_of_own ho5).2
    have HTL : Hid ((txnB t).length ≤ 2000) := txnB_le hmy
    have hs5 : w.heap.size + 1 ≤ w5.heap.size := by have := hb5.size; omega
    obtain ⟨FL, hFL⟩ : ∃ n, (txnB t).length = n := ⟨_, rfl⟩
    have HFL := hide hFL
    rw [hFL] at hse5
    rw [hFL]
    clear hb5 ho5 HTF4 HO24 HO34 hFL
    obtain ⟨v6, w6, hr6, ho6, hg6⟩ := run_append_sees (w.heap.size + 1) (.slice a2 HL c2) hs (by rw [unhide HHL]; exact ho25) (.slice a5 FL c5) (txnB t) hse5 (by rw [unhide HHL, unhide HFL]; have := unhide HSUM; rw [unhide HHL, unhide HFL] at this; omega) hs5 26
    have ho36 := own_apart (unhide HO35) (fun k e => ((unhide HO2L) k e)) hg6
    have HB6 : Hid (Below w.heap.size w w6) := (unhide HB5).grown hg6 (unhide HB5).size (own_block_le (own_mono ho25 (by omega)))
    have HC6 := hide (equal_any _ _ PBB (hs ++ txnB t) w6 (sees_of_own ho36).2 (sees_of_own ho6).2 (by rw [unhide HPBE]; exact (unhide HHB).append (txnB_byt (unhide HFT))) ((unhide HHB).append (txnB_byt (unhide HFT))))
    rw [decide_eq_true (unhide HPBE)] at HC6
    obtain ⟨a6, c6, rfl⟩ := own_shape ho6
    obtain ⟨n6, hn6⟩ : ∃ n, (hs ++ txnB t).length = n := ⟨_, rfl⟩
    rw [hn6] at HC6 hr6
    clear ho6 ho36 ho25 hg6 hse5 hn6 HO25 HO35
    go_wp2_with (at_builtin; refine wpList_append_wanted (by rfl) _ _ 26 rfl rfl rfl hr6 ?_)
    refine (unhide HC6).mono ?_
    rintro e w6' ⟨rfl, rfl⟩
    clear HC6 hr6
    have hrdr : (w6.alloc (.cells #[.slice ab ZL cb, .int .i64 0, .int .i64 0, .bool false] 52)).heap[w6.heap.size]? = some (.cells #[.slice ab ZL cb, .int .i64 0, .int .i64 0, .bool false] 52) := heap_alloc_new w6 _
    have halr : Below w6.heap.size w6 (w6.alloc (.cells #[.slice ab ZL cb, .int .i64 0, .int .i64 0, .bool false] 52)) := (Below.refl _ _).alloc (Nat.le_refl _) _
    have hbz : Below w.heap.size w w6 := unhide HB6
    have hzy := (unhide HZ).below hbz
    have hDr : Dr (w6.alloc (.cells #[.slice ab ZL cb, .int .i64 0, .int .i64 0, .bool false] 52)) w6.heap.size w6.heap.size zs ⟨zs, 0, false⟩ :=
      ⟨⟨_, cell_heap hrdr, hzy.upto.below halr (Nat.le_refl _)⟩, ⟨0, cell_heap hrdr, by omega, rfl⟩, cell_heap hrdr, cell_heap hrdr, fun o => frozen_of_heap hrdr, Nat.le_refl _, unhide HZB, by rw [unhide HZL]; omega⟩
    have HDR := hide hDr
    have HB7a : Hid (Below w.heap.size w (w6.alloc (.cells #[.slice ab ZL cb, .int .i64 0, .int .i64 0, .bool false] 52))) := hbz.trans (halr.mono hbz.size)
    have HC7 := hide (TakeTxn_any _ zs _ (hzy.below halr) (unhide HZB) (by rw [unhide HZL]; omega))
    have hsr : (w6.alloc (.cells #[.slice ab ZL cb, .int .i64 0, .int .i64 0, .bool false] 52)).heap.size = w6.heap.size + 1 := by simp
    obtain ⟨TX, TN, TE, hTT⟩ : ∃ a b c, takeT zs = (a, b, c) := ⟨_, _, _, rfl⟩
    have HTT := hide hTT
    rw [hTT] at HC7
    simp only at HC7
    obtain ⟨DX, sD, hDD⟩ : ∃ a b, (RS.mk zs 0 false).dtxn = (a, b) := ⟨_, _, rfl⟩
    have HDD := hide hDD
    have HRD : Hid (ReadT DX) := by have := dtxn_read (s := ⟨zs, 0, false⟩) (unhide HZB); rw [hDD] at this; exact this
    clear hrdr halr hbz hzy hDr hTT hDD
    go_wp2_with fail
    refine (unhide HC7).mono ?_
    rintro e w7 ⟨cs7, rfl, ho7, hb7⟩
    obtain ⟨cv7, av7, rv7, wv7, rfl, o1, o2, o3, o4⟩ := id ho7
    obtain ⟨p3, r3, rfl⟩ := own_shapeN o1
    obtain ⟨p4, r4, rfl⟩ := own_shapeN o2
    obtain ⟨p5, r5, rfl⟩ := own_shapeN o3
    obtain ⟨p6, r6, rfl⟩ := own_shapeN o4
    have hal7 : Below w7.heap.size w7 (w7.alloc (.cells #[.int .i64 TX.ses, .int .i64 TX.req, .slice p3 TX.code.length r3, .slice p4 TX.args.length r4, .slice p5 TX.reads.length r5, .slice p6 TX.writes.length r6] 35)) := (Below.refl _ _).alloc (Nat.le_refl _) _
    have hx7 : (w7.alloc (.cells #[.int .i64 TX.ses, .int .i64 TX.req, .slice p3 TX.code.length r3, .slice p4 TX.args.length r4, .slice p5 TX.reads.length r5, .slice p6 TX.writes.length r6] 35)).heap[w7.heap.size]? = some (.cells #[.int .i64 TX.ses, .int .i64 TX.req, .slice p3 TX.code.length r3, .slice p4 TX.args.length r4, .slice p5 TX.reads.length r5, .slice p6 TX.writes.length r6] 35) := heap_alloc_new w7 _
    have hdr7 := ((unhide HDR).below hb7).below hal7
    have hb7s := hb7.size
    have HC8 := hide (txn_d hdr7)
    rw [unhide HDD] at HC8
    simp only at HC8
    have HO7 := hide (ho7.below hal7)
    have HX7 := hide hx7
    have HB7 : Hid (Below w.heap.size w (w7.alloc (.cells #[.int .i64 TX.ses, .int .i64 TX.req, .slice p3 TX.code.length r3, .slice p4 TX.args.length r4, .slice p5 TX.reads.length r5, .slice p6 TX.writes.length r6] 35))) := ((unhide HB7a).trans (hb7.mono (unhide HB7a).size)).trans (hal7.mono (Nat.le_trans (unhide HB7a).size hb7s))
    have HS7 : Hid (w6.heap.size + 1 ≤ w7.heap.size) := by show _ ≤ _; omega
    clear o1 o2 o3 o4 ho7 hb7 hal7 hx7 hdr7 HC7 HDR hb7s
    go_wp2_with fail
    refine (unhide HC8).mono ?_
    rintro e w8 ⟨cs8, rfl, ho8, hd8, hq8⟩
    obtain ⟨cv8, av8, rv8, wv8, rfl, o1, o2, o3, o4⟩ := id ho8
    obtain ⟨u3, z3, rfl⟩ := own_shapeN o1
    obtain ⟨u4, z4, rfl⟩ := own_shapeN o2
    obtain ⟨u5, z5, rfl⟩ := own_shapeN o3
    obtain ⟨u6, z6, rfl⟩ := own_shapeN o4
    have hs7 := unhide HS7
    have hal8 : Below w8.heap.size w8 (w8.alloc (.cells #[.int .i64 DX.ses, .int .i64 DX.req, .slice u3 DX.code.length z3, .slice u4 DX.args.length z4, .slice u5 DX.reads.length z5, .slice u6 DX.writes.length z6] 35)) := (Below.refl _ _).alloc (Nat.le_refl _) _
    have hx8 : w8.heap[w7.heap.size]? = some (.cells #[.int .i64 TX.ses, .int .i64 TX.req, .slice p3 TX.code.length r3, .slice p4 TX.args.length r4, .slice p5 TX.reads.length r5, .slice p6 TX.writes.length r6] 35) := hq8.same (unhide HX7) (by omega)
    have hx8l : w7.heap.size < w8.heap.size := (Array.getElem?_eq_some_iff.1 hx8).1
    have hx8a : (w8.alloc (.cells #[.int .i64 DX.ses, .int .i64 DX.req, .slice u3 DX.code.length z3, .slice u4 DX.args.length z4, .slice u5 DX.reads.length z5, .slice u6 DX.writes.length z6] 35)).heap[w7.heap.size]? = some (.cells #[.int .i64 TX.ses, .int .i64 TX.req, .slice p3 TX.code.length r3, .slice p4 TX.args.length r4, .slice p5 TX.reads.length r5, .slice p6 TX.writes.length r6] 35) := (Below.heap_alloc _ _ _ hx8l).trans hx8
    have hy8 : (w8.alloc (.cells #[.int .i64 DX.ses, .int .i64 DX.req, .slice u3 DX.code.length z3, .slice u4 DX.args.length z4, .slice u5 DX.reads.length z5, .slice u6 DX.writes.length z6] 35)).heap[w8.heap.size]? = some (.cells #[.int .i64 DX.ses, .int .i64 DX.req, .slice u3 DX.code.length z3, .slice u4 DX.args.length z4, .slice u5 DX.reads.length z5, .slice u6 DX.writes.length z6] 35) := heap_alloc_new w8 _
    have ho78 := ((unhide HO7).but hq8 (by omega)).below hal8
    have ho88 := ho8.below hal8
    have HB8 : Hid (Below w.heap.size w (w8.alloc (.cells #[.int .i64 DX.ses, .int .i64 DX.req, .slice u3 DX.code.length z3, .slice u4 DX.args.length z4, .slice u5 DX.reads.length z5, .slice u6 DX.writes.length z6] 35))) := ((unhide HB7).trans (hq8.below (by have := (unhide HB6).size; omega) (unhide HB7).size)).trans (hal8.mono (Nat.le_trans (unhide HB7).size hq8.size))
    have HC9 := hide (mayTxn_any _ DX _ (ho88.sees (unhide HRD)))
    have HD8 := hide (hd8.below hal8)
    have HO78 := hide ho78
    have HO88 := hide ho88
    have HXY8 := hide (And.intro hx8a hy8)
    have HL8 : Hid (w7.heap.size < (w8.alloc (.cells #[.int .i64 DX.ses, .int .i64 DX.req, .slice u3 DX.code.length z3, .slice u4 DX.args.length z4, .slice u5 DX.reads.length z5, .slice u6 DX.writes.length z6] 35)).heap.size ∧ w8.heap.size < (w8.alloc (.cells #[.int .i64 DX.ses, .int .i64 DX.req, .slice u3 DX.code.length z3, .slice u4 DX.args.length z4, .slice u5 DX.reads.length z5, .slice u6 DX.writes.length z6] 35)).heap.size) := ⟨(Array.getElem?_eq_some_iff.1 hx8a).1, (Array.getElem?_eq_some_iff.1 hy8).1⟩
    obtain ⟨y8, hy8e⟩ : ∃ y, w8.alloc (.cells #[.int .i64 DX.ses, .int .i64 DX.req, .slice u3 DX.code.length z3, .slice u4 DX.args.length z4, .slice u5 DX.reads.length z5, .slice u6 DX.writes.length z6] 35) = y := ⟨_, rfl⟩
    obtain ⟨YB, hYB⟩ : ∃ y, w8.heap.size = y := ⟨_, rfl⟩
    obtain ⟨XB, hXB⟩ : ∃ y, w7.heap.size = y := ⟨_, rfl⟩
    rw [hy8e] at HC9 HD8 HO78 HO88 HXY8 HL8 HB8
    rw [hYB, hXB] at HXY8 HL8
    have hy8x := (unhide HXY8).1
    have hy8y := (unhide HXY8).2
    have i0 : y8.cell? ⟨YB, 0, none⟩ = some (.int .i64 DX.ses) := cell_heap hy8y
    have i1 : y8.cell? ⟨YB, 1, none⟩ = some (.int .i64 DX.req) := cell_heap hy8y
    have i2 : y8.cell? ⟨YB, 2, none⟩ = some (.slice u3 DX.code.length z3) := cell_heap hy8y
    have i3 : y8.cell? ⟨YB, 3, none⟩ = some (.slice u4 DX.args.length z4) := cell_heap hy8y
    have i4 : y8.cell? ⟨YB, 4, none⟩ = some (.slice u5 DX.reads.length z5) := cell_heap hy8y
    have i5 : y8.cell? ⟨YB, 5, none⟩ = some (.slice u6 DX.writes.length z6) := cell_heap hy8y
    clear o1 o2 o3 o4 ho8 hd8 hq8 hal8 hx8 hx8l hx8a hy8 ho78 ho88 HC8 HO7 HX7 hy8x hy8y
    go_wp2_with (first | rw [hy8e] | rw [hYB] | rw [hXB])
    refine (unhide HC9).mono ?_
    rintro e w9 ⟨rfl, hb9⟩
    have hd9 := (unhide HD8).below hb9
    have HC10 := hide (ends_d hd9 (mayT DX))
    have HB9 : Hid (Below w.heap.size w w9) := (unhide HB8).trans (hb9.mono (unhide HB8).size)
    have hx9 : w9.heap[XB]? = some (.cells #[.int .i64 TX.ses, .int .i64 TX.req, .slice p3 TX.code.length r3, .slice p4 TX.args.length r4, .slice p5 TX.reads.length r5, .slice p6 TX.writes.length r6] 35) := (hb9.block XB (unhide HL8).1).trans (unhide HXY8).1
    have hy9 : w9.heap[YB]? = some (.cells #[.int .i64 DX.ses, .int .i64 DX.req, .slice u3 DX.code.length z3, .slice u4 DX.args.length z4, .slice u5 DX.reads.length z5, .slice u6 DX.writes.length z6] 35) := (hb9.block YB (unhide HL8).2).trans (unhide HXY8).2
    have HO79 := hide ((unhide HO78).below hb9)
    have HO89 := hide ((unhide HO88).below hb9)
    obtain ⟨kA, hkA, hkl, hkz⟩ := hd9.ca
    obtain ⟨G, hG⟩ : ∃ g, sD.fault (mayT DX) = g := ⟨_, rfl⟩
    rw [hG] at HC10
    have HG := hide hG
    have HKZ := hide hkz
    have j0 : w9.cell? ⟨XB, 0, none⟩ = some (.int .i64 TX.ses) := cell_heap hx9
    have j1 : w9.cell? ⟨XB, 1, none⟩ = some (.int .i64 TX.req) := cell_heap hx9
    have j2 : w9.cell? ⟨XB, 2, none⟩ = some (.slice p3 TX.code.length r3) := cell_heap hx9
    have j3 : w9.cell? ⟨XB, 3, none⟩ = some (.slice p4 TX.args.length r4) := cell_heap hx9
    have j4 : w9.cell? ⟨XB, 4, none⟩ = some (.slice p5 TX.reads.length r5) := cell_heap hx9
    have j5 : w9.cell? ⟨XB, 5, none⟩ = some (.slice p6 TX.writes.length r6) := cell_heap hx9
    have k0 : w9.cell? ⟨YB, 0, none⟩ = some (.int .i64 DX.ses) := cell_heap hy9
    have k1 : w9.cell? ⟨YB, 1, none⟩ = some (.int .i64 DX.req) := cell_heap hy9
    have k2 : w9.cell? ⟨YB, 2, none⟩ = some (.slice u3 DX.code.length z3) := cell_heap hy9
    have k3 : w9.cell? ⟨YB, 3, none⟩ = some (.slice u4 DX.args.length z4) := cell_heap hy9
    have k4 : w9.cell? ⟨YB, 4, none⟩ = some (.slice u5 DX.reads.length z5) := cell_heap hy9
    have k5 : w9.cell? ⟨YB, 5, none⟩ = some (.slice u6 DX.writes.length z6) := cell_heap hy9
    clear hb9 hd9 hx9 hy9 HC9 HD8 HO78 HO88 HXY8 hG hkz
    go_wp2_with fail
    refine (unhide HC10).mono ?_
    rintro e w10 ⟨rfl, rfl⟩
    clear HC10
    by_cases hG0 : G = 0
    · subst hG0
      have htk : takeT zs = (DX, zs.length - sD.zs.length, 0) := by
        have := take_ok (zs := zs) (by rw [unhide HDD]; exact unhide HG)
        rw [unhide HDD] at this
        exact this
      rw [unhide HTT] at htk
      simp only [Prod.mk.injEq] at htk
      obtain ⟨e1, e2, e3⟩ := htk
      subst e3
      have hTN : (TN : Int) = (kA : Int) := by
        have : TN = kA := by rw [e2, unhide HKZ, List.length_drop]; omega
        rw [this]
      have hdec : decide (TX = DX) = true := decide_eq_true e1
      have HC11 := hide (refSameTxn_any _ _ TX DX w9 ((unhide HO79).sees (by rw [e1]; exact unhide HRD)) ((unhide HO89).sees (unhide HRD)) (by rw [e1]; exact (unhide HRD).code) (unhide HRD).code (by rw [e1]; have := (unhide HRD).args; omega))
      rw [hdec] at HC11
      clear e1 e2 hdec HO79 HO89
      go_wp2_with fail
      refine (unhide HC11).mono ?_
      rintro e w11 ⟨rfl, hb11⟩
      have HB11 : Hid (Below w.heap.size w w11) := (unhide HB9).trans (hb11.mono (unhide HB9).size)
      have hk11 : w11.cell? ⟨w6.heap.size, 1, none⟩ = some (.int .i64 (kA : Int)) := (hb11.cell (p := ⟨w6.heap.size, 1, none⟩) (World.block_lt_of_cell? _ _ hkA)).trans hkA
      clear hb11 HC11
      go_wp2_with fail
      go_ret
      exact ⟨rfl, unhide HB11⟩
    · have htk : takeT zs = (dT, 0, G) := by
        have := take_no (zs := zs) (by rw [unhide HDD]; rw [unhide HG]; exact hG0)
        rw [unhide HDD] at this
        simp only at this
        rw [unhide HG] at this
        exact this
      rw [unhide HTT] at htk
      simp only [Prod.mk.injEq] at htk
      obtain ⟨e1, e2, e3⟩ := htk
      subst e2 e3
      have hGb : (TE != 0) = true := bne_iff_ne.2 hG0
      have hdec : decide (TX = dT) = true := decide_eq_true e1
      have hrt : ReadT TX := by rw [e1]; exact ⟨(fun b hb => by cases hb), Nat.zero_le _, Nat.zero_le _, Nat.zero_le _⟩
      have HC11 := hide (refSameTxn_any _ _ TX dT w9 ((unhide HO79).sees hrt) (⟨_, _, _, _, rfl, Sees.nil _ _, Sees.nil _ _, seesK_nil _, seesK_nil _⟩ : SeesT w9 #[.int .i64 0, .int .i64 0, .slice none 0 0, .slice none 0 0, .slice none 0 0, .slice none 0 0] dT) hrt.code (fun b hb => by cases hb) (by have := hrt.args; omega))
      rw [hdec] at HC11
      clear e1 hdec hrt HO79 HO89
      go_wp2_with fail
      refine (unhide HC11).mono ?_
      rintro e w11 ⟨rfl, hb11⟩
      have HB11 : Hid (Below w.heap.size w w11) := (unhide HB9).trans (hb11.mono (unhide HB9).size)
      clear hb11 HC11
      go_wp2_with fail
      go_ret
      exact ⟨rfl, unhide HB11⟩
  · have hPBe : PBB.length = 0 := by rw [← unhide HB]; unfold putB; rw [if_neg (by rw [unhide HE]; exact hP0)]; rfl
    rw [hPBe]
    have hPb : (PE != 0) = true := bne_iff_ne.2 hP0
    have hPb2 : (PE == 0) = false := beq_eq_false_iff_ne.2 hP0
    clear HTF HO24 HO34
    have hrdr : (w4.alloc (.cells #[.slice ab ZL cb, .int .i64 0, .int .i64 0, .bool false] 52)).heap[w4.heap.size]? = some (.cells #[.slice ab ZL cb, .int .i64 0, .int .i64 0, .bool false] 52) := heap_alloc_new w4 _
    have halr : Below w4.heap.size w4 (w4.alloc (.cells #[.slice ab ZL cb, .int .i64 0, .int .i64 0, .bool false] 52)) := (Below.refl _ _).alloc (Nat.le_refl _) _
    have hbz : Below w.heap.size w w4 := unhide HB4
    have hzy := (unhide HZ).below hbz
    have hDr : Dr (w4.alloc (.cells #[.slice ab ZL cb, .int .i64 0, .int .i64 0, .bool false] 52)) w4.heap.size w4.heap.size zs ⟨zs, 0, false⟩ :=
      ⟨⟨_, cell_heap hrdr, hzy.upto.below halr (Nat.le_refl _)⟩, ⟨0, cell_heap hrdr, by omega, rfl⟩, cell_heap hrdr, cell_heap hrdr, fun o => frozen_of_heap hrdr, Nat.le_refl _, unhide HZB, by rw [unhide HZL]; omega⟩
    have HDR := hide hDr
    have HB7a : Hid (Below w.heap.size w (w4.alloc (.cells #[.slice ab ZL cb, .int .i64 0, .int .i64 0, .bool false] 52))) := hbz.trans (halr.mono hbz.size)
    have HC7 := hide (TakeTxn_any _ zs _ (hzy.below halr) (unhide HZB) (by rw [unhide HZL]; omega))
    have hsr : (w4.alloc (.cells #[.slice ab ZL cb, .int .i64 0, .int .i64 0, .bool false] 52)).heap.size = w4.heap.size + 1 := by simp
    obtain ⟨TX, TN, TE, hTT⟩ : ∃ a b c, takeT zs = (a, b, c) := ⟨_, _, _, rfl⟩
    have HTT := hide hTT
    rw [hTT] at HC7
    simp only at HC7
    obtain ⟨DX, sD, hDD⟩ : ∃ a b, (RS.mk zs 0 false).dtxn = (a, b) := ⟨_, _, rfl⟩
    have HDD := hide hDD
    have HRD : Hid (ReadT DX) := by have := dtxn_read (s := ⟨zs, 0, false⟩) (unhide HZB); rw [hDD] at this; exact this
    clear hrdr halr hbz hzy hDr hTT hDD
    go_wp2_with fail
    refine (unhide HC7).mono ?_
    rintro e w7 ⟨cs7, rfl, ho7, hb7⟩
    obtain ⟨cv7, av7, rv7, wv7, rfl, o1, o2, o3, o4⟩ := id ho7
    obtain ⟨p3, r3, rfl⟩ := own_shapeN o1
    obtain ⟨p4, r4, rfl⟩ := own_shapeN o2
    obtain ⟨p5, r5, rfl⟩ := own_shapeN o3
    obtain ⟨p6, r6, rfl⟩ := own_shapeN o4
    have hal7 : Below w7.heap.size w7 (w7.alloc (.cells #[.int .i64 TX.ses, .int .i64 TX.req, .slice p3 TX.code.length r3, .slice p4 TX.args.length r4, .slice p5 TX.reads.length r5, .slice p6 TX.writes.length r6] 35)) := (Below.refl _ _).alloc (Nat.le_refl _) _
    have hx7 : (w7.alloc (.cells #[.int .i64 TX.ses, .int .i64 TX.req, .slice p3 TX.code.length r3, .slice p4 TX.args.length r4, .slice p5 TX.reads.length r5, .slice p6 TX.writes.length r6] 35)).heap[w7.heap.size]? = some (.cells #[.int .i64 TX.ses, .int .i64 TX.req, .slice p3 TX.code.length r3, .slice p4 TX.args.length r4, .slice p5 TX.reads.length r5, .slice p6 TX.writes.length r6] 35) := heap_alloc_new w7 _
    have hdr7 := ((unhide HDR).below hb7).below hal7
    have hb7s := hb7.size
    have HC8 := hide (txn_d hdr7)
    rw [unhide HDD] at HC8
    simp only at HC8
    have HO7 := hide (ho7.below hal7)
    have HX7 := hide hx7
    have HB7 : Hid (Below w.heap.size w (w7.alloc (.cells #[.int .i64 TX.ses, .int .i64 TX.req, .slice p3 TX.code.length r3, .slice p4 TX.args.length r4, .slice p5 TX.reads.length r5, .slice p6 TX.writes.length r6] 35))) := ((unhide HB7a).trans (hb7.mono (unhide HB7a).size)).trans (hal7.mono (Nat.le_trans (unhide HB7a).size hb7s))
    have HS7 : Hid (w4.heap.size + 1 ≤ w7.heap.size) := by show _ ≤ _; omega
    clear o1 o2 o3 o4 ho7 hb7 hal7 hx7 hdr7 HC7 HDR hb7s
    go_wp2_with fail
    refine (unhide HC8).mono ?_
    rintro e w8 ⟨cs8, rfl, ho8, hd8, hq8⟩
    obtain ⟨cv8, av8, rv8, wv8, rfl, o1, o2, o3, o4⟩ := id ho8
    obtain ⟨u3, z3, rfl⟩ := own_shapeN o1
    obtain ⟨u4, z4, rfl⟩ := own_shapeN o2
    obtain ⟨u5, z5, rfl⟩ := own_shapeN o3
    obtain ⟨u6, z6, rfl⟩ := own_shapeN o4
    have hs7 := unhide HS7
    have hal8 : Below w8.heap.size w8 (w8.alloc (.cells #[.int .i64 DX.ses, .int .i64 DX.req, .slice u3 DX.code.length z3, .slice u4 DX.args.length z4, .slice u5 DX.reads.length z5, .slice u6 DX.writes.length z6] 35)) := (Below.refl _ _).alloc (Nat.le_refl _) _
    have hx8 : w8.heap[w7.heap.size]? = some (.cells #[.int .i64 TX.ses, .int .i64 TX.req, .slice p3 TX.code.length r3, .slice p4 TX.args.length r4, .slice p5 TX.reads.length r5, .slice p6 TX.writes.length r6] 35) := hq8.same (unhide HX7) (by omega)
    have hx8l : w7.heap.size < w8.heap.size := (Array.getElem?_eq_some_iff.1 hx8).1
    have hx8a : (w8.alloc (.cells #[.int .i64 DX.ses, .int .i64 DX.req, .slice u3 DX.code.length z3, .slice u4 DX.args.length z4, .slice u5 DX.reads.length z5, .slice u6 DX.writes.length z6] 35)).heap[w7.heap.size]? = some (.cells #[.int .i64 TX.ses, .int .i64 TX.req, .slice p3 TX.code.length r3, .slice p4 TX.args.length r4, .slice p5 TX.reads.length r5, .slice p6 TX.writes.length r6] 35) := (Below.heap_alloc _ _ _ hx8l).trans hx8
    have hy8 : (w8.alloc (.cells #[.int .i64 DX.ses, .int .i64 DX.req, .slice u3 DX.code.length z3, .slice u4 DX.args.length z4, .slice u5 DX.reads.length z5, .slice u6 DX.writes.length z6] 35)).heap[w8.heap.size]? = some (.cells #[.int .i64 DX.ses, .int .i64 DX.req, .slice u3 DX.code.length z3, .slice u4 DX.args.length z4, .slice u5 DX.reads.length z5, .slice u6 DX.writes.length z6] 35) := heap_alloc_new w8 _
    have ho78 := ((unhide HO7).but hq8 (by omega)).below hal8
    have ho88 := ho8.below hal8
    have HB8 : Hid (Below w.heap.size w (w8.alloc (.cells #[.int .i64 DX.ses, .int .i64 DX.req, .slice u3 DX.code.length z3, .slice u4 DX.args.length z4, .slice u5 DX.reads.length z5, .slice u6 DX.writes.length z6] 35))) := ((unhide HB7).trans (hq8.below (by have := (unhide HB4).size; omega) (unhide HB7).size)).trans (hal8.mono (Nat.le_trans (unhide HB7).size hq8.size))
    have HC9 := hide (mayTxn_any _ DX _ (ho88.sees (unhide HRD)))
    have HD8 := hide (hd8.below hal8)
    have HO78 := hide ho78
    have HO88 := hide ho88
    have HXY8 := hide (And.intro hx8a hy8)
    have HL8 : Hid (w7.heap.size < (w8.alloc (.cells #[.int .i64 DX.ses, .int .i64 DX.req, .slice u3 DX.code.length z3, .slice u4 DX.args.length z4, .slice u5 DX.reads.length z5, .slice u6 DX.writes.length z6] 35)).heap.size ∧ w8.heap.size < (w8.alloc (.cells #[.int .i64 DX.ses, .int .i64 DX.req, .slice u3 DX.code.length z3, .slice u4 DX.args.length z4, .slice u5 DX.reads.length z5, .slice u6 DX.writes.length z6] 35)).heap.size) := ⟨(Array.getElem?_eq_some_iff.1 hx8a).1, (Array.getElem?_eq_some_iff.1 hy8).1⟩
    obtain ⟨y8, hy8e⟩ : ∃ y, w8.alloc (.cells #[.int .i64 DX.ses, .int .i64 DX.req, .slice u3 DX.code.length z3, .slice u4 DX.args.length z4, .slice u5 DX.reads.length z5, .slice u6 DX.writes.length z6] 35) = y := ⟨_, rfl⟩
    obtain ⟨YB, hYB⟩ : ∃ y, w8.heap.size = y := ⟨_, rfl⟩
    obtain ⟨XB, hXB⟩ : ∃ y, w7.heap.size = y := ⟨_, rfl⟩
    rw [hy8e] at HC9 HD8 HO78 HO88 HXY8 HL8 HB8
    rw [hYB, hXB] at HXY8 HL8
    have hy8x := (unhide HXY8).1
    have hy8y := (unhide HXY8).2
    have i0 : y8.cell? ⟨YB, 0, none⟩ = some (.int .i64 DX.ses) := cell_heap hy8y
    have i1 : y8.cell? ⟨YB, 1, none⟩ = some (.int .i64 DX.req) := cell_heap hy8y
    have i2 : y8.cell? ⟨YB, 2, none⟩ = some (.slice u3 DX.code.length z3) := cell_heap hy8y
    have i3 : y8.cell? ⟨YB, 3, none⟩ = some (.slice u4 DX.args.length z4) := cell_heap hy8y
    have i4 : y8.cell? ⟨YB, 4, none⟩ = some (.slice u5 DX.reads.length z5) := cell_heap hy8y
    have i5 : y8.cell? ⟨YB, 5, none⟩ = some (.slice u6 DX.writes.length z6) := cell_heap hy8y
    clear o1 o2 o3 o4 ho8 hd8 hq8 hal8 hx8 hx8l hx8a hy8 ho78 ho88 HC8 HO7 HX7 hy8x hy8y
    go_wp2_with (first | rw [hy8e] | rw [hYB] | rw [hXB])
    refine (unhide HC9).mono ?_
    rintro e w9 ⟨rfl, hb9⟩
    have hd9 := (unhide HD8).below hb9
    have HC10 := hide (ends_d hd9 (mayT DX))
    have HB9 : Hid (Below w.heap.size w w9) := (unhide HB8).trans (hb9.mono (unhide HB8).size)
    have hx9 : w9.heap[XB]? = some (.cells #[.int .i64 TX.ses, .int .i64 TX.req, .slice p3 TX.code.length r3, .slice p4 TX.args.length r4, .slice p5 TX.reads.length r5, .slice p6 TX.writes.length r6] 35) := (hb9.block XB (unhide HL8).1).trans (unhide HXY8).1
    have hy9 : w9.heap[YB]? = some (.cells #[.int .i64 DX.ses, .int .i64 DX.req, .slice u3 DX.code.length z3, .slice u4 DX.args.length z4, .slice u5 DX.reads.length z5, .slice u6 DX.writes.length z6] 35) := (hb9.block YB (unhide HL8).2).trans (unhide HXY8).2
    have HO79 := hide ((unhide HO78).below hb9)
    have HO89 := hide ((unhide HO88).below hb9)
    obtain ⟨kA, hkA, hkl, hkz⟩ := hd9.ca
    obtain ⟨G, hG⟩ : ∃ g, sD.fault (mayT DX) = g := ⟨_, rfl⟩
    rw [hG] at HC10
    have HG := hide hG
    have HKZ := hide hkz
    have j0 : w9.cell? ⟨XB, 0, none⟩ = some (.int .i64 TX.ses) := cell_heap hx9
    have j1 : w9.cell? ⟨XB, 1, none⟩ = some (.int .i64 TX.req) := cell_heap hx9
    have j2 : w9.cell? ⟨XB, 2, none⟩ = some (.slice p3 TX.code.length r3) := cell_heap hx9
    have j3 : w9.cell? ⟨XB, 3, none⟩ = some (.slice p4 TX.args.length r4) := cell_heap hx9
    have j4 : w9.cell? ⟨XB, 4, none⟩ = some (.slice p5 TX.reads.length r5) := cell_heap hx9
    have j5 : w9.cell? ⟨XB, 5, none⟩ = some (.slice p6 TX.writes.length r6) := cell_heap hx9
    have k0 : w9.cell? ⟨YB, 0, none⟩ = some (.int .i64 DX.ses) := cell_heap hy9
    have k1 : w9.cell? ⟨YB, 1, none⟩ = some (.int .i64 DX.req) := cell_heap hy9
    have k2 : w9.cell? ⟨YB, 2, none⟩ = some (.slice u3 DX.code.length z3) := cell_heap hy9
    have k3 : w9.cell? ⟨YB, 3, none⟩ = some (.slice u4 DX.args.length z4) := cell_heap hy9
    have k4 : w9.cell? ⟨YB, 4, none⟩ = some (.slice u5 DX.reads.length z5) := cell_heap hy9
    have k5 : w9.cell? ⟨YB, 5, none⟩ = some (.slice u6 DX.writes.length z6) := cell_heap hy9
    clear hb9 hd9 hx9 hy9 HC9 HD8 HO78 HO88 HXY8 hG hkz
    go_wp2_with fail
    refine (unhide HC10).mono ?_
    rintro e w10 ⟨rfl, rfl⟩
    clear HC10
    by_cases hG0 : G = 0
    · subst hG0
      have htk : takeT zs = (DX, zs.length - sD.zs.length, 0) := by
        have := take_ok (zs := zs) (by rw [unhide HDD]; exact unhide HG)
        rw [unhide HDD] at this
        exact this
      rw [unhide HTT] at htk
      simp only [Prod.mk.injEq] at htk
      obtain ⟨e1, e2, e3⟩ := htk
      subst e3
      have hTN : (TN : Int) = (kA : Int) := by
        have : TN = kA := by rw [e2, unhide HKZ, List.length_drop]; omega
        rw [this]
      have hdec : decide (TX = DX) = true := decide_eq_true e1
      have HC11 := hide (refSameTxn_any _ _ TX DX w9 ((unhide HO79).sees (by rw [e1]; exact unhide HRD)) ((unhide HO89).sees (unhide HRD)) (by rw [e1]; exact (unhide HRD).code) (unhide HRD).code (by rw [e1]; have := (unhide HRD).args; omega))
      rw [hdec] at HC11
      clear e1 e2 hdec HO79 HO89
      go_wp2_with fail
      refine (unhide HC11).mono ?_
      rintro e w11 ⟨rfl, hb11⟩
      have HB11 : Hid (Below w.heap.size w w11) := (unhide HB9).trans (hb11.mono (unhide HB9).size)
      have hk11 : w11.cell? ⟨w4.heap.size, 1, none⟩ = some (.int .i64 (kA : Int)) := (hb11.cell (p := ⟨w4.heap.size, 1, none⟩) (World.block_lt_of_cell? _ _ hkA)).trans hkA
      clear hb11 HC11
      go_wp2_with fail
      go_ret
      exact ⟨rfl, unhide HB11⟩
    · have htk : takeT zs = (dT, 0, G) := by
        have := take_no (zs := zs) (by rw [unhide HDD]; rw [unhide HG]; exact hG0)
        rw [unhide HDD] at this
        simp only at this
        rw [unhide HG] at this
        exact this
      rw [unhide HTT] at htk
      simp only [Prod.mk.injEq] at htk
      obtain ⟨e1, e2, e3⟩ := htk
      subst e2 e3
      have hGb : (TE != 0) = true := bne_iff_ne.2 hG0
      have hdec : decide (TX = dT) = true := decide_eq_true e1
      have hrt : ReadT TX := by rw [e1]; exact ⟨(fun b hb => by cases hb), Nat.zero_le _, Nat.zero_le _, Nat.zero_le _⟩
      have HC11 := hide (refSameTxn_any _ _ TX dT w9 ((unhide HO79).sees hrt) (⟨_, _, _, _, rfl, Sees.nil _ _, Sees.nil _ _, seesK_nil _, seesK_nil _⟩ : SeesT w9 #[.int .i64 0, .int .i64 0, .slice none 0 0, .slice none 0 0, .slice none 0 0, .slice none 0 0] dT) hrt.code (fun b hb => by cases hb) (by have := hrt.args; omega))
      rw [hdec] at HC11
      clear e1 hdec hrt HO79 HO89
      go_wp2_with fail
      refine (unhide HC11).mono ?_
      rintro e w11 ⟨rfl, hb11⟩
      have HB11 : Hid (Below w.heap.size w w11) := (unhide HB9).trans (hb11.mono (unhide HB9).size)
      clear hb11 HC11
      go_wp2_with fail
      go_ret
      exact ⟨rfl, unhide HB11⟩
end Go.Proofs.Ytggllgimlfchhaa
