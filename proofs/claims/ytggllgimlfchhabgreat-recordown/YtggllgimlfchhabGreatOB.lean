/- Record: the document's CloneEntry. -/
import Derived.Test.YtggllgimlfchhabGreatOA
import Derived.Test.YtggllgimlfchhabGreatKI
namespace Go.Proofs.YtggllgimlfchhabGreat
open Go.RowKit
set_option maxRecDepth 100000

/-- A transaction that can be copied. -/
structure SmT (t : TxnD) : Prop where
  code : t.code.length ≤ 140737488351232
  args : t.args.length ≤ 17592186043904
  reads : t.reads.length ≤ 8796093021952
  writes : t.writes.length ≤ 8796093021952

set_option maxHeartbeats 1600000 in
theorem refCloneEntry_any (cs : Array Value) (e : EntD) (w : World) (hE : SeesE w cs e) (hl : e.txns.length ≤ 1256584717421) (hsm : ∀ t ∈ e.txns, SmT t) :
    Calls Tryz.prog 17 #[.agg cs] w fun r w' => ∃ cs', r = .returned (.agg cs') ∧ OwnE w.heap.size w' cs' e ∧ Below w.heap.size w w' := by
  obtain ⟨i0, hi, hz0, hz1, hz2⟩ := info_parts Tryz.info70
  obtain ⟨ek, ef, en, l⟩ := e
  obtain ⟨tv, rfl, hs⟩ := hE
  simp only at hs hl hsm ⊢
  have HS := hide hs
  have HSM := hide hsm
  obtain ⟨ta, tc, _, _, rfl, hcap, _⟩ := hs
  obtain ⟨n, hn⟩ : ∃ n, l.length = n := ⟨_, rfl⟩
  rw [hn] at HS hl hcap
  rw [hn]
  have HN := hide hn
  have hal : Below w.heap.size w ((w.alloc (.cells #[.int .i64 ek, .int .i64 ef, .int .i64 en, .slice ta n tc] 24)).alloc (.cells #[.int .i64 0, .int .i64 0, .int .i64 0, .slice none 0 0] 24)) := ((Below.refl _ _).alloc (Nat.le_refl _) _).alloc (by simp) _
  have e0 : (w.alloc (.cells #[.int .i64 ek, .int .i64 ef, .int .i64 en, .slice ta n tc] 24)).heap.size = w.heap.size + 1 := by simp
  have hx0 : ((w.alloc (.cells #[.int .i64 ek, .int .i64 ef, .int .i64 en, .slice ta n tc] 24)).alloc (.cells #[.int .i64 0, .int .i64 0, .int .i64 0, .slice none 0 0] 24)).heap[w.heap.size]? = some (.cells #[.int .i64 ek, .int .i64 ef, .int .i64 en, .slice ta n tc] 24) := (Below.heap_alloc _ _ _ (by omega)).trans (heap_alloc_new w _)
  have hz0' : ((w.alloc (.cells #[.int .i64 ek, .int .i64 ef, .int .i64 en, .slice ta n tc] 24)).alloc (.cells #[.int .i64 0, .int .i64 0, .int .i64 0, .slice none 0 0] 24)).heap[w.heap.size + 1]? = some (.cells #[.int .i64 0, .int .i64 0, .int .i64 0, .slice none 0 0] 24) := by have := heap_alloc_new (w.alloc (.cells #[.int .i64 ek, .int .i64 ef, .int .i64 en, .slice ta n tc] 24)) (.cells #[.int .i64 0, .int .i64 0, .int .i64 0, .slice none 0 0] 24); rw [e0] at this; exact this
  have hs0 : ((w.alloc (.cells #[.int .i64 ek, .int .i64 ef, .int .i64 en, .slice ta n tc] 24)).alloc (.cells #[.int .i64 0, .int .i64 0, .int .i64 0, .slice none 0 0] 24)).heap.size = w.heap.size + 2 := by simp
  obtain ⟨y0, hy0⟩ : ∃ y, ((w.alloc (.cells #[.int .i64 ek, .int .i64 ef, .int .i64 en, .slice ta n tc] 24)).alloc (.cells #[.int .i64 0, .int .i64 0, .int .i64 0, .slice none 0 0] 24)) = y := ⟨_, rfl⟩
  rw [hy0] at hal hx0 hz0' hs0
  have HX : Hid (∀ x, Below (w.heap.size + 2) y0 x → x.heap[w.heap.size]? = some (.cells #[.int .i64 ek, .int .i64 ef, .int .i64 en, .slice ta n tc] 24) ∧ x.heap[w.heap.size + 1]? = some (.cells #[.int .i64 0, .int .i64 0, .int .i64 0, .slice none 0 0] 24) ∧ Below w.heap.size w x ∧ w.heap.size + 2 ≤ x.heap.size) := fun x hb => ⟨(hb.block _ (by omega)).trans hx0, (hb.block _ (by omega)).trans hz0', hal.trans (hb.mono (by omega)), by have := hb.size; omega⟩
  clear hal e0 hx0 hz0' hs0 hsm hn
  go_enter Tryz.func17, Tryz.ntmps17
  go_wp2_with (rw [hy0])
  go_loopw [3, 4] (fun v c wr => ∃ i : Nat, i ≤ n ∧ c = .int .i64 i ∧ OwnTs (w.heap.size + 2) wr v (l.take i) ∧ Below (w.heap.size + 2) y0 wr) (fun _ c _ => n - (intOf c).toNat)
  case atStart => exact ⟨0, by omega, rfl, OwnTs.nil _ _, Below.refl _ _⟩
  case round =>
    obtain ⟨i, him, rfl, ho, hb⟩ := hrel
    obtain ⟨ao, ca, rfl⟩ := ho.shape
    obtain ⟨hx, hz, hbw, hsz⟩ := unhide HX wr hb
    have k3' : wr.cell? ⟨w.heap.size, 3, none⟩ = some (.slice ta n tc) := cell_of_heap hx
    have hlen : (l.take i).length = i := by rw [List.length_take, unhide HN]; omega
    rw [hlen]
    by_cases hlt : i < n
    · obtain ⟨ta', tc', ga, oa, hv, _, _, hao, hcl⟩ := (unhide HS).below hbw
      simp only [Value.slice.injEq] at hv
      obtain ⟨rfl, hj, rfl⟩ := hv
      obtain rfl := hao (by omega)
      have hltl : i < l.length := by rw [unhide HN]; exact hlt
      obtain ⟨cv, av, rv, wv, q0, q1, q2, q3, q4, q5, hst⟩ := hcl i hltl
      have hmem : l.getD i dT ∈ l := by
        have e : l.getD i dT = l[i] := by simp [List.getD, hltl]
        rw [e]; exact List.getElem_mem hltl
      have hsm := unhide HSM _ hmem
      have htk : l.take (i + 1) = l.take i ++ [l.getD i dT] := by
        rw [List.take_succ_eq_append_getElem hltl]
        simp [List.getD, hltl]
      obtain ⟨d, hd⟩ : ∃ d, l.getD i dT = d := ⟨_, rfl⟩
      rw [hd] at q0 q1 hst hsm htk
      have HC := hide (refCloneTxn_any _ d wr hst hsm.code hsm.args hsm.reads hsm.writes)
      obtain ⟨d1, d2, d3, d4, d5, d6⟩ := d
      obtain ⟨cv2, av2, rv2, wv2, hcs, s1, s2, s3, s4⟩ := hst
      simp only [Array.mk.injEq, List.cons.injEq, and_true] at hcs
      obtain ⟨_, _, rfl, rfl, rfl, rfl⟩ := hcs
      simp only at q0 q1
      obtain ⟨p1, u1, rfl, _⟩ := s1
      obtain ⟨p2, u2, rfl, _⟩ := s2
      obtain ⟨p3, u3, _, _, rfl, _⟩ := s3
      obtain ⟨p4, u4, _, _, rfl, _⟩ := s4
      have HO := hide ho
      have HB := hide hb
      have HTK := hide htk
      clear hcl hao hj hmem hd hsm htk ho hb hx hz
      go_wp2_with fail
      refine (unhide HC).mono ?_
      rintro r y1 ⟨cs1, rfl, hot, b1⟩
      have hot0 := hot
      obtain ⟨cv, av, rv, wv, rfl, g5, g2, g73, g74⟩ := hot
      obtain ⟨k1, c1, rfl⟩ := own_shapeN g5
      obtain ⟨k2, c2, rfl⟩ := own_shapeN g2
      obtain ⟨k3, c3, rfl⟩ := own_shapeN g73
      obtain ⟨k4, c4, rfl⟩ := own_shapeN g74
      simp only at hot0 ⊢
      have hb1 := (unhide HB).trans (b1.mono (by omega))
      have hal : Below y1.heap.size y1 (y1.alloc (.cells #[.int .i64 d1, .int .i64 d2, .slice k1 d3.length c1, .slice k2 d4.length c2, .slice k3 d5.length c3, .slice k4 d6.length c4] 70)) := (Below.refl _ _).alloc (Nat.le_refl _) _
      obtain ⟨vs, hvs, hrow, hall⟩ := unhide HO
      have ho3 := own_below (own_below hrow b1) hal
      have hot3 : OwnT (w.heap.size + 2) (y1.alloc (.cells #[.int .i64 d1, .int .i64 d2, .slice k1 d3.length c1, .slice k2 d4.length c2, .slice k3 d5.length c3, .slice k4 d6.length c4] 70)) #[.int .i64 d1, .int .i64 d2, .slice k1 d3.length c1, .slice k2 d4.length c2, .slice k3 d5.length c3, .slice k4 d6.length c4] ⟨d1, d2, d3, d4, d5, d6⟩ := by
        obtain ⟨e1, e2, e3, e4, f0, f1, f2, f3, f4⟩ := hot0.below hal
        exact ⟨e1, e2, e3, e4, f0, own_monoN f1 hsz, own_monoN f2 hsz, own_monoN f3 hsz, own_monoN f4 hsz⟩
      have HALL : Hid (∀ p ∈ vs ++ [((⟨d1, d2, d3, d4, d5, d6⟩ : TxnD), Value.slice k1 d3.length c1, Value.slice k2 d4.length c2, Value.slice k3 d5.length c3, Value.slice k4 d6.length c4)], OwnT (w.heap.size + 2) (y1.alloc (.cells #[.int .i64 d1, .int .i64 d2, .slice k1 d3.length c1, .slice k2 d4.length c2, .slice k3 d5.length c3, .slice k4 d6.length c4] 70)) #[.int .i64 p.1.ses, .int .i64 p.1.req, p.2.1, p.2.2.1, p.2.2.2.1, p.2.2.2.2] p.1) := fun p hp => by
        rcases List.mem_append.1 hp with hp | hp
        · exact ((hall p hp).below b1).below hal
        · rw [List.mem_singleton] at hp
          subst hp
          exact hot3
      have HO3 := hide ho3
      have HVS := hide hvs
      have HB3 := hide (hb1.trans (hal.mono (by have := b1.size; omega)))
      have HSZ : Hid (w.heap.size + 2 ≤ y1.heap.size + 1) := by show _ ≤ _; have := b1.size; omega
      clear hot0 g5 g2 g73 g74 hal hrow hall ho3 hot3 hb1 b1 HC hvs
      rw [hlen] at HO3
      go_wp2_with (at_builtin; refine wpList_append_own _ rfl _ _ 22 rfl (w.heap.size + 2) 70 i0 (.agg #[.int .i64 0, .int .i64 0, .slice none 0 0, .slice none 0 0, .slice none 0 0, .slice none 0 0]) 6 112 Tryz.underlying22 hi hz0 hz1 hz2 rfl (by decide) _ _ _ rfl (unhide HO3) ⟨y1.heap.size, 0, none⟩ 1 1 [.int .i64 d1, .int .i64 d2, .slice k1 d3.length c1, .slice k2 d4.length c2, .slice k3 d5.length c3, .slice k4 d6.length c4] rfl rfl ?d0 ?d1 ?d2 ?d3 ?d4 ?_)
      case d0 =>
        intro j u hu
        have hj : j < 6 := by have := (List.getElem?_eq_some_iff.1 hu).1; simpa using this
        have hadd : (⟨y1.heap.size, 0, none⟩ : Addr).add j = ⟨y1.heap.size, j, none⟩ := by unfold Addr.add; split <;> simp_all
        rw [hadd, World.cell?_alloc_new]
        simpa using hu
      case d1 => intro u hu; simp at hu; rcases hu with rfl | rfl | rfl | rfl | rfl | rfl <;> rfl
      case d2 => unfold maxLen; omega
      case d3 => omega
      case d4 => have := unhide HSZ; simpa using this
      intro v' w4 ho4 hg4 _
      obtain ⟨ao', ca', rfl⟩ := own_shapeN ho4
      have HF : Hid (OwnTs (w.heap.size + 2) w4 (.slice ao' (i + 1) ca') (l.take (i + 1)) ∧ Below (w.heap.size + 2) y0 w4) := by
        have hl2 : (l.take (i + 1)).length = i + 1 := by rw [unhide HTK, List.length_append, hlen]; rfl
        refine ⟨⟨vs ++ [((⟨d1, d2, d3, d4, d5, d6⟩ : TxnD), Value.slice k1 d3.length c1, Value.slice k2 d4.length c2, Value.slice k3 d5.length c3, Value.slice k4 d6.length c4)], ?_, ?_, fun p hp => (unhide HALL p hp).grown (unhide HO3) hg4⟩, (unhide HB3).grown hg4 (by have := unhide HSZ; simpa using this) (own_block_le (unhide HO3))⟩
        · rw [List.map_append, unhide HVS, unhide HTK]; rfl
        · rw [hl2, List.flatMap_append]
          simp only [List.flatMap_cons, List.flatMap_nil, List.append_nil]
          exact ho4
      clear ho4 hg4
      go_wp2
      go_roundw
      case rel => exact ⟨i + 1, by omega, by go_num, (unhide HF).1, (unhide HF).2⟩
      case measure => simp [intOf]; omega
    · obtain rfl : i = n := by omega
      have hti : l.take i = l := List.take_of_length_le (by rw [unhide HN]; exact Nat.le_refl _)
      rw [hti] at ho
      obtain ⟨va, hva⟩ : ∃ x, ao = x := ⟨_, rfl⟩
      obtain ⟨vc, hvc⟩ : ∃ x, ca = x := ⟨_, rfl⟩
      rw [hva, hvc, unhide HN] at ho
      rw [hva, hvc]
      have fz : ∀ o, wr.frozen? ⟨w.heap.size, o, none⟩ = false := fun o => frozen_of_heap hx
      have hx2 : (wr.setCell ⟨w.heap.size, 3, none⟩ (.slice va i vc)).heap[w.heap.size]? = some (.cells #[.int .i64 ek, .int .i64 ef, .int .i64 en, .slice va i vc] 24) := setCell_heap hx
      have hz2' : (wr.setCell ⟨w.heap.size, 3, none⟩ (.slice va i vc)).heap[w.heap.size + 1]? = some (.cells #[.int .i64 0, .int .i64 0, .int .i64 0, .slice none 0 0] 24) := (Below.heap_setCell _ _ _ _ (fun e => by simp only at e; omega)).trans hz
      have hb2 := hbw.setCell (p := ⟨w.heap.size, 3, none⟩) (Nat.le_refl _) (.slice va i vc)
      have ho2 : OwnTs (w.heap.size + 2) (wr.setCell ⟨w.heap.size, 3, none⟩ (.slice va i vc)) (.slice va i vc) l := ho.setR (by omega)
      obtain ⟨y9, hy9⟩ : ∃ y, wr.setCell ⟨w.heap.size, 3, none⟩ (.slice va i vc) = y := ⟨_, rfl⟩
      rw [hy9] at hx2 hz2' hb2 ho2
      have HX9 := hide hx2
      have HZ9 := hide hz2'
      have HF : Hid (∀ cr, OwnTs w.heap.size (y9.setRow (w.heap.size + 1) cr) (.slice va i vc) l ∧ Below w.heap.size w (y9.setRow (w.heap.size + 1) cr)) := fun cr => ⟨(ho2.same (row_same cr (by omega))).mono (by omega), below_setRow hb2 (by omega)⟩
      clear ho hx hz hbw hsz hb hx2 hz2' hb2 ho2 hva hvc
      go_wp2_with (first | rw [hy9] | refine wpList_load_row rfl 24 _ rfl w.heap.size rfl 24 _ (0, 0) _ (unhide HX9) Tryz.underlying24 rfl (by kernel_rfl) ?_ | refine wpList_store_row rfl 24 _ _ rfl (w.heap.size + 1) _ _ rfl rfl 24 (unhide HZ9) (by kernel_rfl) rfl (by first | kernel_rfl | simp [Value.oneCell']) ?_)
      refine bodyPost_ret (results_cell_row rfl _ _ (w.heap.size + 1) 24 #[.int .i64 ek, .int .i64 ef, .int .i64 en, .slice va i vc] (0, 0) _ rfl (setRow_heap _ _ _ _ _ _ (unhide HZ9)) Tryz.underlying24 rfl (by kernel_rfl)) rfl ?_
      exact ⟨_, rfl, ⟨_, rfl, (unhide HF _).1⟩, (unhide HF _).2⟩
end Go.Proofs.YtggllgimlfchhabGreat
