/- Several texts as one. -/
import Derived.Test.YtoddemcmmijoaaaKK

/- Record: which messages are the same. -/
namespace Go.Proofs.Ytoddemcmmijoaaa
open Go.RowKit
set_option maxRecDepth 100000

/-- A message as memory shows it. -/
def SeesM (w : World) (cs : Array Value) (m : MsgD) : Prop :=
  ∃ lv tv dv, cs = #[.int .i64 m.kind, .int .i64 m.frm, .int .i64 m.to, .int .i64 m.term, .int .i64 m.slot, .int .i64 m.last, .int .i64 m.commit, .bool m.yes, lv, .int .i64 m.ent.kind, .int .i64 m.ent.frm, .int .i64 m.ent.num, tv, .int .i64 m.part.slot, .int .i64 m.part.idx, .int .i64 m.part.many, dv] ∧ SeesTms w lv m.list ∧ SeesTs w tv m.ent.txns ∧ Sees w .u8 dv m.part.data
theorem SeesM.below {w w' : World} {cs : Array Value} {m : MsgD} (h : SeesM w cs m) (hb : Below w.heap.size w w') : SeesM w' cs m := by
  obtain ⟨lv, tv, dv, h0, h1, h2, h3⟩ := h
  exact ⟨lv, tv, dv, h0, h1.below hb, h2.below hb, h3.below hb⟩
structure OkM (m : MsgD) : Prop where
  list : OkTms m.list
  ent : OkTs m.ent.txns
  part : Byt m.part.data
theorem sameM_eq (t u : MsgD) : decide (t = u) = (decide (t.kind = u.kind) && decide (t.frm = u.frm) && decide (t.to = u.to) && decide (t.term = u.term) && decide (t.slot = u.slot) && decide (t.last = u.last) && decide (t.commit = u.commit) && decide (t.yes = u.yes) && decide (t.list = u.list) && decide (t.ent = u.ent) && decide (t.part = u.part)) := by
  obtain ⟨a, b, c, d, e, f, g, h, i, j, k⟩ := t
  obtain ⟨a', b', c', d', e', f', g', h', i', j', k'⟩ := u
  simp [MsgD.mk.injEq, Bool.and_assoc]

set_option maxHeartbeats 3200000 in
theorem refSameList_any (av bv : Value) (xs ys : List TmD) (w : World) (ha : SeesTms w av xs) (hb : SeesTms w bv ys) (hx : OkTms xs) (hy : OkTms ys) :
    Calls Try.prog 22 #[av, bv] w fun e w' => e = .returned (.bool (decide (xs = ys))) ∧ Below w.heap.size w w' := by
  have HA : Hid (∀ w', Below w.heap.size w w' → SeesTms w' av xs) := fun w' h => ha.below h
  have HB : Hid (∀ w', Below w.heap.size w w' → SeesTms w' bv ys) := fun w' h => hb.below h
  have HX := hide hx
  have HY := hide hy
  obtain ⟨ao, ca, _, _, rfl, hca, hma, _⟩ := ha
  obtain ⟨bo, cb, _, _, rfl, hcb, _⟩ := hb
  clear hx hy
  by_cases hl : xs.length = ys.length
  · rw [← hl] at hcb ⊢
    have HL := hide hl
    rw [← hl] at HB
    clear hl
    go_enter Try.func22, Try.ntmps22
    go_wp2
    go_loopw [5] (fun c wr => ∃ t : Nat, t ≤ xs.length ∧ c = .int .i64 t ∧ (∀ u, u < t → xs.getD u dM = ys.getD u dM) ∧ Below w.heap.size w wr) (fun c _ => xs.length - (intOf c).toNat)
    case atStart => exact ⟨0, by omega, rfl, fun u hu => absurd hu (by omega), Below.refl _ _⟩
    case round =>
      obtain ⟨t, ht, rfl, heq, hb⟩ := hrel
      have HE := hide heq
      have HW := hide hb
      by_cases hlt : t < xs.length
      · obtain ⟨ao', ca', ga, oa, hv, _, _, ha', h1⟩ := unhide HA wr hb
        obtain ⟨bo', cb', gb, ob, hv', _, _, hb', h2⟩ := unhide HB wr hb
        simp only [Value.slice.injEq, true_and] at hv hv'
        obtain ⟨rfl, rfl⟩ := hv
        obtain ⟨rfl, hjunk, rfl⟩ := hv'
        clear hjunk
        obtain rfl := ha' (by omega)
        obtain rfl := hb' (by have := unhide HL; omega)
        have hlt2 : t < ys.length := by have := unhide HL; omega
        obtain ⟨ktv, kh0, kh1, kh2, kh3, kh4, khs⟩ := h1 t hlt
        obtain ⟨kd, ke⟩ : ∃ d, xs.getD t dM = d := ⟨_, rfl⟩
        rw [ke] at kh0 kh1 kh2 kh3 khs
        have kS : SeesTm wr #[.int .i64 kd.term, .int .i64 kd.ent.kind, .int .i64 kd.ent.frm, .int .i64 kd.ent.num, ktv] kd := ⟨_, rfl, khs⟩
        obtain ⟨ka, kc, _, _, rfl, _⟩ := khs
        obtain ⟨kt, ket⟩ : ∃ n, kd.term = n := ⟨_, rfl⟩
        obtain ⟨kk, kek⟩ : ∃ n, kd.ent.kind = n := ⟨_, rfl⟩
        obtain ⟨kf, kef⟩ : ∃ n, kd.ent.frm = n := ⟨_, rfl⟩
        obtain ⟨kn, ken⟩ : ∃ n, kd.ent.num = n := ⟨_, rfl⟩
        obtain ⟨kl, kel⟩ : ∃ n, kd.ent.txns.length = n := ⟨_, rfl⟩
        rw [ket, kek, kef, ken, kel] at kS
        rw [ket] at kh0
        rw [kek] at kh1
        rw [kef] at kh2
        rw [ken] at kh3
        rw [kel] at kh4
        have kE := hide ke
        have kHS := hide kS
        clear ke kS ket kek kef ken kel
        obtain ⟨mtv, mh0, mh1, mh2, mh3, mh4, mhs⟩ := h2 t hlt2
        obtain ⟨md, me⟩ : ∃ d, ys.getD t dM = d := ⟨_, rfl⟩
        rw [me] at mh0 mh1 mh2 mh3 mhs
        have mS : SeesTm wr #[.int .i64 md.term, .int .i64 md.ent.kind, .int .i64 md.ent.frm, .int .i64 md.ent.num, mtv] md := ⟨_, rfl, mhs⟩
        obtain ⟨ma, mc, _, _, rfl, _⟩ := mhs
        obtain ⟨mt, met⟩ : ∃ n, md.term = n := ⟨_, rfl⟩
        obtain ⟨mk, mek⟩ : ∃ n, md.ent.kind = n := ⟨_, rfl⟩
        obtain ⟨mf, mef⟩ : ∃ n, md.ent.frm = n := ⟨_, rfl⟩
        obtain ⟨mn, men⟩ : ∃ n, md.ent.num = n := ⟨_, rfl⟩
        obtain ⟨ml, mel⟩ : ∃ n, md.ent.txns.length = n := ⟨_, rfl⟩
        rw [met, mek, mef, men, mel] at mS
        rw [met] at mh0
        rw [mek] at mh1
        rw [mef] at mh2
        rw [men] at mh3
        rw [mel] at mh4
        have mE := hide me
        have mHS := hide mS
        clear me mS met mek mef men mel
        have hok := (unhide HX).at hlt
        have hoy := (unhide HY).at hlt2
        rw [unhide kE] at hok
        rw [unhide mE] at hoy
        have HM := hide (refSameTermed_any _ _ kd md wr.drew ((unhide kHS).below (Below.refl _ _).drew) ((unhide mHS).below (Below.refl _ _).drew) hok hoy)
        have HB1 : Hid (Below w.heap.size w wr.drew) := hb.drew
        clear h1 h2 ha' hb' heq hb hok hoy
        go_wp2_with fail
        have HCX : Hid (∀ x : World, Below wr.heap.size wr.drew x → x.cell? ⟨ga, oa + t * 5, none⟩ = some (.int .i64 kt) ∧ x.cell? ⟨ga, oa + t * 5 + 1, none⟩ = some (.int .i64 kk) ∧ x.cell? ⟨ga, oa + t * 5 + 2, none⟩ = some (.int .i64 kf) ∧ x.cell? ⟨ga, oa + t * 5 + 3, none⟩ = some (.int .i64 kn) ∧ x.cell? ⟨ga, oa + t * 5 + 4, none⟩ = some (.slice ka kl kc) ∧ x.cell? ⟨gb, ob + t * 5, none⟩ = some (.int .i64 mt) ∧ x.cell? ⟨gb, ob + t * 5 + 1, none⟩ = some (.int .i64 mk) ∧ x.cell? ⟨gb, ob + t * 5 + 2, none⟩ = some (.int .i64 mf) ∧ x.cell? ⟨gb, ob + t * 5 + 3, none⟩ = some (.int .i64 mn) ∧ x.cell? ⟨gb, ob + t * 5 + 4, none⟩ = some (.slice ma ml mc)) := fun x hb => ⟨((hb.cell (p := ⟨ga, oa + t * 5, none⟩) (World.block_lt_of_cell? _ _ kh0)).trans kh0), ((hb.cell (p := ⟨ga, oa + t * 5 + 1, none⟩) (World.block_lt_of_cell? _ _ kh1)).trans kh1), ((hb.cell (p := ⟨ga, oa + t * 5 + 2, none⟩) (World.block_lt_of_cell? _ _ kh2)).trans kh2), ((hb.cell (p := ⟨ga, oa + t * 5 + 3, none⟩) (World.block_lt_of_cell? _ _ kh3)).trans kh3), ((hb.cell (p := ⟨ga, oa + t * 5 + 4, none⟩) (World.block_lt_of_cell? _ _ kh4)).trans kh4), ((hb.cell (p := ⟨gb, ob + t * 5, none⟩) (World.block_lt_of_cell? _ _ mh0)).trans mh0), ((hb.cell (p := ⟨gb, ob + t * 5 + 1, none⟩) (World.block_lt_of_cell? _ _ mh1)).trans mh1), ((hb.cell (p := ⟨gb, ob + t * 5 + 2, none⟩) (World.block_lt_of_cell? _ _ mh2)).trans mh2), ((hb.cell (p := ⟨gb, ob + t * 5 + 3, none⟩) (World.block_lt_of_cell? _ _ mh3)).trans mh3), ((hb.cell (p := ⟨gb, ob + t * 5 + 4, none⟩) (World.block_lt_of_cell? _ _ mh4)).trans mh4)⟩
        refine wp_region_held_drew (S := fun x => x.cell? ⟨ga, oa + t * 5, none⟩ = some (.int .i64 kt) ∧ x.cell? ⟨ga, oa + t * 5 + 1, none⟩ = some (.int .i64 kk) ∧ x.cell? ⟨ga, oa + t * 5 + 2, none⟩ = some (.int .i64 kf) ∧ x.cell? ⟨ga, oa + t * 5 + 3, none⟩ = some (.int .i64 kn) ∧ x.cell? ⟨ga, oa + t * 5 + 4, none⟩ = some (.slice ka kl kc) ∧ x.cell? ⟨gb, ob + t * 5, none⟩ = some (.int .i64 mt) ∧ x.cell? ⟨gb, ob + t * 5 + 1, none⟩ = some (.int .i64 mk) ∧ x.cell? ⟨gb, ob + t * 5 + 2, none⟩ = some (.int .i64 mf) ∧ x.cell? ⟨gb, ob + t * 5 + 3, none⟩ = some (.int .i64 mn) ∧ x.cell? ⟨gb, ob + t * 5 + 4, none⟩ = some (.slice ma ml mc)) (by kernel_rfl) ⟨kh0, kh1, kh2, kh3, kh4, mh0, mh1, mh2, mh3, mh4⟩ (fun hHeld => ?_)
        refine wpAnyH_take (i := 0) (v := ?v1x0) rfl (by kernel_rfl) (by kernel_rfl) (by kernel_rfl) (fun _ _ _ h => h) (Or.inl ⟨by rfl, ?hy1x0⟩) (by assumption) ?rest1x0
        case hy1x0 => intro w hSw; obtain ⟨q0, q1, q2, q3, q4, q5, q6, q7, q8, q9⟩ := hSw; go_simp <;> with_reducible rfl
        simp only [Act.put, List.getElem_toArray, List.getElem_cons_zero, List.setIfInBounds_toArray, List.set_cons_zero, List.set_cons_succ]
        refine wpAnyH_take (i := 1) (v := ?v2x1) rfl (by kernel_rfl) (by kernel_rfl) (by kernel_rfl) (fun _ _ _ h => h) (Or.inl ⟨by rfl, ?hy2x1⟩) (by assumption) ?rest2x1
        case hy2x1 => intro w hSw; obtain ⟨q0, q1, q2, q3, q4, q5, q6, q7, q8, q9⟩ := hSw; go_simp <;> with_reducible rfl
        simp only [Act.put, List.getElem_toArray, List.getElem_cons_zero, List.getElem_cons_succ, List.setIfInBounds_toArray, List.set_cons_zero, List.set_cons_succ]
        refine wpAnyH_take (i := 2) (v := ?v3x2) rfl (by kernel_rfl) (by kernel_rfl) (by kernel_rfl) (fun _ _ _ h => h) (Or.inl ⟨by rfl, ?hy3x2⟩) (by assumption) ?rest3x2
        case hy3x2 => intro w hSw; obtain ⟨q0, q1, q2, q3, q4, q5, q6, q7, q8, q9⟩ := hSw; go_simp <;> with_reducible rfl
        simp only [Act.put, List.getElem_toArray, List.getElem_cons_zero, List.getElem_cons_succ, List.setIfInBounds_toArray, List.set_cons_zero, List.set_cons_succ]
        refine wpAnyH_take (i := 3) (v := (.agg #[.int .i64 kt, .int .i64 kk, .int .i64 kf, .int .i64 kn, .slice ka kl kc])) rfl (by kernel_rfl) (by kernel_rfl) (by kernel_rfl) (fun _ _ _ h => h) (Or.inl ⟨by rfl, ?hy4x3⟩) (by assumption) ?rest4x3
        case hy4x3 => intro w hSw; obtain ⟨q0, q1, q2, q3, q4, q5, q6, q7, q8, q9⟩ := hSw; go_simp <;> with_reducible rfl
        simp only [Act.put, List.getElem_toArray, List.getElem_cons_zero, List.getElem_cons_succ, List.setIfInBounds_toArray, List.set_cons_zero, List.set_cons_succ]
        refine wpAnyH_take (i := 4) (v := ?v5x4) rfl (by kernel_rfl) (by kernel_rfl) (by kernel_rfl) (fun _ _ _ h => h) (Or.inl ⟨by rfl, ?hy5x4⟩) (by assumption) ?rest5x4
        case hy5x4 => intro w hSw; obtain ⟨q0, q1, q2, q3, q4, q5, q6, q7, q8, q9⟩ := hSw; go_simp <;> with_reducible rfl
        simp only [Act.put, List.getElem_toArray, List.getElem_cons_zero, List.getElem_cons_succ, List.setIfInBounds_toArray, List.set_cons_zero, List.set_cons_succ]
        refine wpAnyH_take (i := 5) (v := ?v6x5) rfl (by kernel_rfl) (by kernel_rfl) (by kernel_rfl) (fun _ _ _ h => h) (Or.inl ⟨by rfl, ?hy6x5⟩) (by assumption) ?rest6x5
        case hy6x5 => intro w hSw; obtain ⟨q0, q1, q2, q3, q4, q5, q6, q7, q8, q9⟩ := hSw; go_simp <;> with_reducible rfl
        simp only [Act.put, List.getElem_toArray, List.getElem_cons_zero, List.getElem_cons_succ, List.setIfInBounds_toArray, List.set_cons_zero, List.set_cons_succ]
        refine wpAnyH_take (i := 6) (v := ?v7x6) rfl (by kernel_rfl) (by kernel_rfl) (by kernel_rfl) (fun _ _ _ h => h) (Or.inl ⟨by rfl, ?hy7x6⟩) (by assumption) ?rest7x6
        case hy7x6 => intro w hSw; obtain ⟨q0, q1, q2, q3, q4, q5, q6, q7, q8, q9⟩ := hSw; go_simp <;> with_reducible rfl
        simp only [Act.put, List.getElem_toArray, List.getElem_cons_zero, List.getElem_cons_succ, List.setIfInBounds_toArray, List.set_cons_zero, List.set_cons_succ]
        refine wpAnyH_take (i := 7) (v := (.agg #[.int .i64 mt, .int .i64 mk, .int .i64 mf, .int .i64 mn, .slice ma ml mc])) rfl (by kernel_rfl) (by kernel_rfl) (by kernel_rfl) (fun _ _ _ h => h) (Or.inl ⟨by rfl, ?hy8x7⟩) (by assumption) ?rest8x7
        case hy8x7 => intro w hSw; obtain ⟨q0, q1, q2, q3, q4, q5, q6, q7, q8, q9⟩ := hSw; go_simp <;> with_reducible rfl
        simp only [Act.put, List.getElem_toArray, List.getElem_cons_zero, List.getElem_cons_succ, List.setIfInBounds_toArray, List.set_cons_zero, List.set_cons_succ]
        refine wpAnyH_ready (rs := [8]) (by kernel_rfl) (by simp) ?_
        refine AllReadyH.cons rfl (fun K hK => ?_) AllReadyH.nil
        go_simp
        refine (unhide HM).mono ?_
        rintro e w2 ⟨rfl, hb2⟩
        refine hK _ _ (unhide HCX _ hb2) ?_
        clear hK hHeld
        intro hHeld
        refine wpAnyH_take (i := 9) (v := ?v9x9) rfl (by kernel_rfl) (by kernel_rfl) (by kernel_rfl) (fun _ _ _ h => h) (Or.inl ⟨by rfl, ?hy9x9⟩) (by assumption) ?rest9x9
        case hy9x9 => intro w hSw; obtain ⟨q0, q1, q2, q3, q4, q5, q6, q7, q8, q9⟩ := hSw; go_simp <;> with_reducible rfl
        simp only [Act.put, List.getElem_toArray, List.getElem_cons_zero, List.getElem_cons_succ, List.setIfInBounds_toArray, List.set_cons_zero, List.set_cons_succ]
        refine wpAnyH_done (by kernel_rfl) ?_ _
        have HB2 : Hid (Below w.heap.size w w2) := (unhide HB1).trans (hb2.mono (unhide HB1).size)
        clear hb2 HM
        by_cases hxy : kd = md
        · have hd : decide (kd = md) = true := by simpa using hxy
          rw [hd]
          go_wp2
          go_roundw
          case rel =>
            have hall : ∀ u, u < t + 1 → xs.getD u dM = ys.getD u dM := fun u hu => by
              by_cases hut : u < t
              · exact unhide HE u hut
              · obtain rfl : u = t := by omega
                rw [unhide kE, unhide mE, hxy]
            exact ⟨t + 1, by omega, by go_num, hall, unhide HB2⟩
          case measure => simp [intOf]; omega
        · have hd : decide (kd = md) = false := by simpa using hxy
          rw [hd]
          go_wp2
          go_ret
          refine ⟨retBool ?_, unhide HB2⟩
          rw [eq_comm, decide_eq_false_iff_not]
          exact list_differ (d := dM) (t := t) (by rw [unhide kE, unhide mE]; exact hxy)
      · clear hb heq
        go_wp2
        go_ret
        refine ⟨retBool ?_, unhide HW⟩
        rw [eq_comm, decide_eq_true_iff]
        exact list_alike (d := dM) (unhide HL) (fun u hu => unhide HE u (by omega))
  · have hd : decide (xs = ys) = false := by rw [decide_eq_false_iff_not]; exact fun e => hl (by rw [e])
    rw [hd]
    go_enter Try.func22, Try.ntmps22
    go_wp2
    go_ret
    exact ⟨rfl, Below.refl _ _⟩

theorem cell_heapM {w : World} {b o : Nat} {cs : Array Value} {T : TypeId} (h : w.heap[b]? = some (.cells cs T)) : w.cell? ⟨b, o, none⟩ = cs[o]? := by
  simp [World.cell?, h]
end Go.Proofs.Ytoddemcmmijoaaa

/- Record: which messages are the same: the document. -/
namespace Go.Proofs.Ytoddemcmmijoaaa
open Go.RowKit
set_option maxRecDepth 100000

set_option maxHeartbeats 6400000 in
theorem refSameMsg_any (cs ds : Array Value) (m n : MsgD) (w : World) (hm : SeesM w cs m) (hn : SeesM w ds n) (om : OkM m) (on : OkM n) :
    Calls Try.prog 8 #[.agg cs, .agg ds] w fun e w' => e = .returned (.bool (decide (m = n))) ∧ Below w.heap.size w w' := by
  rw [sameM_eq]
  obtain ⟨aK, aF, aO, aT, aS, aL, aC, aY, alist, ⟨aek, aef, aen, atxns⟩, ⟨aps, api, apm, adata⟩⟩ := m
  obtain ⟨bK, bF, bO, bT, bS, bL, bC, bY, blist, ⟨bek, bef, ben, btxns⟩, ⟨bps, bpi, bpm, bdata⟩⟩ := n
  obtain ⟨_, _, _, rfl, hm1, hm2, hm3⟩ := hm
  obtain ⟨_, _, _, rfl, hn1, hn2, hn3⟩ := hn
  obtain ⟨om1, om2, om3⟩ := om
  obtain ⟨on1, on2, on3⟩ := on
  simp only at hm1 hm2 hm3 hn1 hn2 hn3 om1 om2 om3 on1 on2 on3 ⊢
  obtain ⟨D2, hD2⟩ : ∃ D, decide ((⟨aek, aef, aen, atxns⟩ : EntD) = ⟨bek, bef, ben, btxns⟩) = D := ⟨_, rfl⟩
  obtain ⟨D3, hD3⟩ : ∃ D, decide ((⟨aps, api, apm, adata⟩ : PtD) = ⟨bps, bpi, bpm, bdata⟩) = D := ⟨_, rfl⟩
  rw [hD2, hD3]
  have HD2 := hide hD2
  have HD3 := hide hD3
  clear hD2 hD3
  have M1 := hide hm1
  have M2 := hide hm2
  have M3 := hide hm3
  have N1 := hide hn1
  have N2 := hide hn2
  have N3 := hide hn3
  obtain ⟨ala, alc, _, _, rfl, _⟩ := hm1
  obtain ⟨ata, atc, _, _, rfl, _⟩ := hm2
  obtain ⟨ada, adc, rfl, _⟩ := hm3
  obtain ⟨bla, blc, _, _, rfl, _⟩ := hn1
  obtain ⟨bta, btc, _, _, rfl, _⟩ := hn2
  obtain ⟨bda, bdc, rfl, _⟩ := hn3
  have HB : Hid (Below w.heap.size w ((w.alloc (.cells #[.int .i64 aK, .int .i64 aF, .int .i64 aO, .int .i64 aT, .int .i64 aS, .int .i64 aL, .int .i64 aC, .bool aY, .slice ala alist.length alc, .int .i64 aek, .int .i64 aef, .int .i64 aen, .slice ata atxns.length atc, .int .i64 aps, .int .i64 api, .int .i64 apm, .slice ada adata.length adc] 38)).alloc (.cells #[.int .i64 bK, .int .i64 bF, .int .i64 bO, .int .i64 bT, .int .i64 bS, .int .i64 bL, .int .i64 bC, .bool bY, .slice bla blist.length blc, .int .i64 bek, .int .i64 bef, .int .i64 ben, .slice bta btxns.length btc, .int .i64 bps, .int .i64 bpi, .int .i64 bpm, .slice bda bdata.length bdc] 38))) := ((Below.refl _ _).alloc (Nat.le_refl _) _).alloc (by simp) _
  by_cases h0 : aK = bK
  case neg =>
    go_enter Try.func8, Try.ntmps8
    go_wp2_with fail
    go_ret
    exact ⟨retBool (by simp [h0]), unhide HB⟩
  subst h0
  by_cases h1 : aF = bF
  case neg =>
    go_enter Try.func8, Try.ntmps8
    go_wp2_with fail
    go_ret
    exact ⟨retBool (by simp [h1]), unhide HB⟩
  subst h1
  by_cases h2 : aO = bO
  case neg =>
    go_enter Try.func8, Try.ntmps8
    go_wp2_with fail
    go_ret
    exact ⟨retBool (by simp [h2]), unhide HB⟩
  subst h2
  by_cases h3 : aT = bT
  case neg =>
    go_enter Try.func8, Try.ntmps8
    go_wp2_with fail
    go_ret
    exact ⟨retBool (by simp [h3]), unhide HB⟩
  subst h3
  by_cases h4 : aS = bS
  case neg =>
    go_enter Try.func8, Try.ntmps8
    go_wp2_with fail
    go_ret
    exact ⟨retBool (by simp [h4]), unhide HB⟩
  subst h4
  by_cases h5 : aL = bL
  case neg =>
    go_enter Try.func8, Try.ntmps8
    go_wp2_with fail
    go_ret
    exact ⟨retBool (by simp [h5]), unhide HB⟩
  subst h5
  by_cases h6 : aC = bC
  case neg =>
    go_enter Try.func8, Try.ntmps8
    go_wp2_with fail
    go_ret
    exact ⟨retBool (by simp [h6]), unhide HB⟩
  subst h6
  by_cases h8 : aY = bY
  case neg =>
    have h8b : (aY == bY) = false := beq_eq_false_iff_ne.2 h8
    go_enter Try.func8, Try.ntmps8
    go_wp2_with fail
    go_ret
    exact ⟨retBool (by simp [h8]), unhide HB⟩
  subst h8
  have HBX : Hid (∀ x : World, Below (w.heap.size + 2) ((w.alloc (.cells #[.int .i64 aK, .int .i64 aF, .int .i64 aO, .int .i64 aT, .int .i64 aS, .int .i64 aL, .int .i64 aC, .bool aY, .slice ala alist.length alc, .int .i64 aek, .int .i64 aef, .int .i64 aen, .slice ata atxns.length atc, .int .i64 aps, .int .i64 api, .int .i64 apm, .slice ada adata.length adc] 38)).alloc (.cells #[.int .i64 aK, .int .i64 aF, .int .i64 aO, .int .i64 aT, .int .i64 aS, .int .i64 aL, .int .i64 aC, .bool aY, .slice bla blist.length blc, .int .i64 bek, .int .i64 bef, .int .i64 ben, .slice bta btxns.length btc, .int .i64 bps, .int .i64 bpi, .int .i64 bpm, .slice bda bdata.length bdc] 38)) x → x.cell? ⟨w.heap.size, 9, none⟩ = some (.int .i64 aek) ∧ x.cell? ⟨w.heap.size, 10, none⟩ = some (.int .i64 aef) ∧ x.cell? ⟨w.heap.size, 11, none⟩ = some (.int .i64 aen) ∧ x.cell? ⟨w.heap.size, 12, none⟩ = some (.slice ata atxns.length atc) ∧ x.cell? ⟨w.heap.size, 13, none⟩ = some (.int .i64 aps) ∧ x.cell? ⟨w.heap.size, 14, none⟩ = some (.int .i64 api) ∧ x.cell? ⟨w.heap.size, 15, none⟩ = some (.int .i64 apm) ∧ x.cell? ⟨w.heap.size, 16, none⟩ = some (.slice ada adata.length adc) ∧ x.cell? ⟨w.heap.size + 1, 9, none⟩ = some (.int .i64 bek) ∧ x.cell? ⟨w.heap.size + 1, 10, none⟩ = some (.int .i64 bef) ∧ x.cell? ⟨w.heap.size + 1, 11, none⟩ = some (.int .i64 ben) ∧ x.cell? ⟨w.heap.size + 1, 12, none⟩ = some (.slice bta btxns.length btc) ∧ x.cell? ⟨w.heap.size + 1, 13, none⟩ = some (.int .i64 bps) ∧ x.cell? ⟨w.heap.size + 1, 14, none⟩ = some (.int .i64 bpi) ∧ x.cell? ⟨w.heap.size + 1, 15, none⟩ = some (.int .i64 bpm) ∧ x.cell? ⟨w.heap.size + 1, 16, none⟩ = some (.slice bda bdata.length bdc)) := fun x hb => by
    have e : (w.alloc (.cells #[.int .i64 aK, .int .i64 aF, .int .i64 aO, .int .i64 aT, .int .i64 aS, .int .i64 aL, .int .i64 aC, .bool aY, .slice ala alist.length alc, .int .i64 aek, .int .i64 aef, .int .i64 aen, .slice ata atxns.length atc, .int .i64 aps, .int .i64 api, .int .i64 apm, .slice ada adata.length adc] 38)).heap.size = w.heap.size + 1 := by simp
    have q1 : x.heap[w.heap.size]? = some (.cells #[.int .i64 aK, .int .i64 aF, .int .i64 aO, .int .i64 aT, .int .i64 aS, .int .i64 aL, .int .i64 aC, .bool aY, .slice ala alist.length alc, .int .i64 aek, .int .i64 aef, .int .i64 aen, .slice ata atxns.length atc, .int .i64 aps, .int .i64 api, .int .i64 apm, .slice ada adata.length adc] 38) := (hb.block _ (by omega)).trans ((Below.heap_alloc _ _ _ (by simp)).trans (heap_alloc_new w _))
    have q2 : x.heap[w.heap.size + 1]? = some (.cells #[.int .i64 aK, .int .i64 aF, .int .i64 aO, .int .i64 aT, .int .i64 aS, .int .i64 aL, .int .i64 aC, .bool aY, .slice bla blist.length blc, .int .i64 bek, .int .i64 bef, .int .i64 ben, .slice bta btxns.length btc, .int .i64 bps, .int .i64 bpi, .int .i64 bpm, .slice bda bdata.length bdc] 38) := (hb.block _ (by omega)).trans (by have := heap_alloc_new (w.alloc (.cells #[.int .i64 aK, .int .i64 aF, .int .i64 aO, .int .i64 aT, .int .i64 aS, .int .i64 aL, .int .i64 aC, .bool aY, .slice ala alist.length alc, .int .i64 aek, .int .i64 aef, .int .i64 aen, .slice ata atxns.length atc, .int .i64 aps, .int .i64 api, .int .i64 apm, .slice ada adata.length adc] 38)) (.cells #[.int .i64 aK, .int .i64 aF, .int .i64 aO, .int .i64 aT, .int .i64 aS, .int .i64 aL, .int .i64 aC, .bool aY, .slice bla blist.length blc, .int .i64 bek, .int .i64 bef, .int .i64 ben, .slice bta btxns.length btc, .int .i64 bps, .int .i64 bpi, .int .i64 bpm, .slice bda bdata.length bdc] 38); rw [e] at this; exact this)
    exact ⟨cell_heapM q1, cell_heapM q1, cell_heapM q1, cell_heapM q1, cell_heapM q1, cell_heapM q1, cell_heapM q1, cell_heapM q1, cell_heapM q2, cell_heapM q2, cell_heapM q2, cell_heapM q2, cell_heapM q2, cell_heapM q2, cell_heapM q2, cell_heapM q2⟩
  have HQ1 := hide (refSameList_any _ _ alist blist ((w.alloc (.cells #[.int .i64 aK, .int .i64 aF, .int .i64 aO, .int .i64 aT, .int .i64 aS, .int .i64 aL, .int .i64 aC, .bool aY, .slice ala alist.length alc, .int .i64 aek, .int .i64 aef, .int .i64 aen, .slice ata atxns.length atc, .int .i64 aps, .int .i64 api, .int .i64 apm, .slice ada adata.length adc] 38)).alloc (.cells #[.int .i64 aK, .int .i64 aF, .int .i64 aO, .int .i64 aT, .int .i64 aS, .int .i64 aL, .int .i64 aC, .bool aY, .slice bla blist.length blc, .int .i64 bek, .int .i64 bef, .int .i64 ben, .slice bta btxns.length btc, .int .i64 bps, .int .i64 bpi, .int .i64 bpm, .slice bda bdata.length bdc] 38)) ((unhide M1).below (unhide HB)) ((unhide N1).below (unhide HB)) om1 on1)
  have O2 := hide om2
  have O3 := hide om3
  have P2 := hide on2
  have P3 := hide on3
  clear om1 on1 om2 om3 on2 on3
  cases hD1 : decide (alist = blist) with
  | false =>
    rw [hD1] at HQ1
    go_enter Try.func8, Try.ntmps8
    go_wp2_with fail
    refine (unhide HQ1).mono ?_
    rintro e w2 ⟨rfl, hb2⟩
    have HB2 : Hid (Below w.heap.size w w2) := (unhide HB).trans (hb2.mono (unhide HB).size)
    clear hb2
    go_wp2_with fail
    go_ret
    exact ⟨retBool (by simp), unhide HB2⟩
  | true =>
    rw [hD1] at HQ1
    have hsz2 : w.heap.size + 2 = ((w.alloc (.cells #[.int .i64 aK, .int .i64 aF, .int .i64 aO, .int .i64 aT, .int .i64 aS, .int .i64 aL, .int .i64 aC, .bool aY, .slice ala alist.length alc, .int .i64 aek, .int .i64 aef, .int .i64 aen, .slice ata atxns.length atc, .int .i64 aps, .int .i64 api, .int .i64 apm, .slice ada adata.length adc] 38)).alloc (.cells #[.int .i64 aK, .int .i64 aF, .int .i64 aO, .int .i64 aT, .int .i64 aS, .int .i64 aL, .int .i64 aC, .bool aY, .slice bla blist.length blc, .int .i64 bek, .int .i64 bef, .int .i64 ben, .slice bta btxns.length btc, .int .i64 bps, .int .i64 bpi, .int .i64 bpm, .slice bda bdata.length bdc] 38)).heap.size := by simp
    have HSZ2 := hide hsz2
    clear hsz2
    go_enter Try.func8, Try.ntmps8
    go_wp2_with fail
    refine (unhide HQ1).mono ?_
    rintro e w2 ⟨rfl, hb2⟩
    have HB2 : Hid (Below w.heap.size w w2) := (unhide HB).trans (hb2.mono (unhide HB).size)
    have HX2 : Hid (Below (w.heap.size + 2) ((w.alloc (.cells #[.int .i64 aK, .int .i64 aF, .int .i64 aO, .int .i64 aT, .int .i64 aS, .int .i64 aL, .int .i64 aC, .bool aY, .slice ala alist.length alc, .int .i64 aek, .int .i64 aef, .int .i64 aen, .slice ata atxns.length atc, .int .i64 aps, .int .i64 api, .int .i64 apm, .slice ada adata.length adc] 38)).alloc (.cells #[.int .i64 aK, .int .i64 aF, .int .i64 aO, .int .i64 aT, .int .i64 aS, .int .i64 aL, .int .i64 aC, .bool aY, .slice bla blist.length blc, .int .i64 bek, .int .i64 bef, .int .i64 ben, .slice bta btxns.length btc, .int .i64 bps, .int .i64 bpi, .int .i64 bpm, .slice bda bdata.length bdc] 38)) w2) := by rw [unhide HSZ2]; exact hb2
    obtain ⟨f0, f1, f2, f3, f4, f5, f6, f7, f8, f9, f10, f11, f12, f13, f14, f15⟩ := unhide HBX w2 (unhide HX2)
    have HQ2 := hide (refSameEntry_any _ _ ⟨aek, aef, aen, atxns⟩ ⟨bek, bef, ben, btxns⟩ w2 ⟨_, rfl, (unhide M2).below (unhide HB2)⟩ ⟨_, rfl, (unhide N2).below (unhide HB2)⟩ (unhide O2) (unhide P2))
    rw [unhide HD2] at HQ2
    have hs2 : w.heap.size + 2 ≤ w2.heap.size := by rw [unhide HSZ2]; exact hb2.size
    have HS2 := hide hs2
    clear hb2 HQ1 hs2 HD2
    cases D2 with
    | false =>
      clear HD3
      go_wp2_with fail
      refine (unhide HQ2).mono ?_
      rintro e w3 ⟨rfl, hb3⟩
      have HB3 : Hid (Below w.heap.size w w3) := (unhide HB2).trans (hb3.mono (unhide HB2).size)
      clear hb3
      go_wp2_with fail
      go_ret
      exact ⟨retBool (by simp), unhide HB3⟩
    | true =>
      go_wp2_with fail
      refine (unhide HQ2).mono ?_
      rintro e w3 ⟨rfl, hb3⟩
      have HB3 : Hid (Below w.heap.size w w3) := (unhide HB2).trans (hb3.mono (unhide HB2).size)
      obtain ⟨g0, g1, g2, g3, g4, g5, g6, g7, g8, g9, g10, g11, g12, g13, g14, g15⟩ := unhide HBX w3 ((unhide HX2).trans (hb3.mono (unhide HS2)))
      have HQ3 := hide (refSamePart_any _ _ ⟨aps, api, apm, adata⟩ ⟨bps, bpi, bpm, bdata⟩ w3 ⟨_, rfl, (unhide M3).below (unhide HB3)⟩ ⟨_, rfl, (unhide N3).below (unhide HB3)⟩ (unhide O3) (unhide P3))
      rw [unhide HD3] at HQ3
      clear hb3 HQ2 HD3
      go_wp2_with fail
      refine (unhide HQ3).mono ?_
      rintro e w4 ⟨rfl, hb4⟩
      have HB4 : Hid (Below w.heap.size w w4) := (unhide HB3).trans (hb4.mono (unhide HB3).size)
      clear hb4
      go_wp2_with fail
      go_ret
      exact ⟨retBool (by simp), unhide HB4⟩
end Go.Proofs.Ytoddemcmmijoaaa
