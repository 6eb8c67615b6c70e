/- Record: the document's CloneMsg. -/
import Derived.Test.YtggllgimlfchhabGreatOB
import Derived.Test.YtggllgimlfchhabGreatKA
import Derived.Deep.RegionHeld3
namespace Go.Proofs.YtggllgimlfchhabGreat
open Go.RowKit
set_option maxRecDepth 100000

theorem append_tm {w : World} {base g : Nat} {v : Value} {l : List TmD} {q : TmD} {k1 : Option Addr} {n1 c1 : Nat} (hown : OwnTms base w v l) (hot : OwnTs base w (.slice k1 n1 c1) q.ent.txns) (hc : w.heap[g]? = some (.cells #[.int .i64 q.term, .int .i64 q.ent.kind, .int .i64 q.ent.frm, .int .i64 q.ent.num, .slice k1 n1 c1] 52)) (hl : l.length ≤ 2513169434843) (hb : base ≤ w.heap.size) (ty : TypeId) :
    ∃ a' c' w', (Builtin.append_ #[25, 25] ty #[v, .slice (some ⟨g, 0, none⟩) 1 1]).run Tryz.prog w = .ok (.slice a' (l.length + 1) c') w' ∧ OwnTms base w' (.slice a' (l.length + 1) c') (l ++ [q]) ∧ (∃ n xs, w.ownsRow base 52 5 v n xs) ∧ w.grownBy w' v.ownBlock := by
  obtain ⟨i0, hi, hz0, hz1, hz2⟩ := info_parts Tryz.info52
  obtain ⟨vs, hvs, hrow, hall⟩ := hown
  obtain ⟨v', w', h1, h2, h3, _⟩ := run_append_own (P := Tryz.prog) (w := w) base 25 ty 52 i0 (.agg #[.int .i64 0, .int .i64 0, .int .i64 0, .int .i64 0, .slice none 0 0]) 5 56 Tryz.underlying25 hi hz0 hz1 hz2 rfl (by decide) v l.length (vs.flatMap tmCells) hrow ⟨g, 0, none⟩ 1 1 [.int .i64 q.term, .int .i64 q.ent.kind, .int .i64 q.ent.frm, .int .i64 q.ent.num, .slice k1 n1 c1] rfl
    (fun j u hu => by
      have hj : j < 5 := by have := (List.getElem?_eq_some_iff.1 hu).1; simpa using this
      have ha : (⟨g, 0, none⟩ : Addr).add j = ⟨g, j, none⟩ := by unfold Addr.add; split <;> simp_all
      rw [ha, cell_of_heap hc]; simpa using hu) (fun u hu => by simp at hu; rcases hu with rfl | rfl | rfl | rfl | rfl <;> rfl) (by unfold maxLen; omega) (by omega) hb
  obtain ⟨a', c', rfl⟩ := own_shapeN h2
  refine ⟨a', c', w', h1, ⟨vs ++ [(q, .slice k1 n1 c1)], ?_, ?_, fun p hp => ?_⟩, ⟨_, _, hrow⟩, h3⟩
  · rw [List.map_append, hvs]; rfl
  · rw [List.flatMap_append, List.length_append]
    simp only [List.flatMap_cons, List.flatMap_nil, List.append_nil, List.length_cons, List.length_nil]
    exact h2
  · rcases List.mem_append.1 hp with hp | hp
    · exact (hall p hp).grownM hrow h3
    · rw [List.mem_singleton] at hp
      subst hp
      exact hot.grownM hrow h3
/-- A message that can be copied. -/
structure SmM (m : MsgD) : Prop where
  list : m.list.length ≤ 2513169434843
  item : ∀ t ∈ m.list, t.ent.txns.length ≤ 1256584717421 ∧ ∀ x ∈ t.ent.txns, SmT x
  ent : m.ent.txns.length ≤ 1256584717421 ∧ ∀ x ∈ m.ent.txns, SmT x
  data : m.part.data.length ≤ 140737488351232

set_option maxHeartbeats 3200000 in
theorem refCloneMsg_any (cs : Array Value) (m : MsgD) (w : World) (hM : SeesM w cs m) (hsm : SmM m) :
    Calls Tryz.prog 18 #[.agg cs] w fun r w' => ∃ cs', r = .returned (.agg cs') ∧ OwnM w.heap.size w' cs' m ∧ Below w.heap.size w w' := by
  obtain ⟨i5, hi5, hz50, hz51, hz52⟩ := info_parts Tryz.info5
  obtain ⟨aK, aF, aO, aT, aS, aL, aC, aY, l, ⟨ek, ef, en, lt⟩, ⟨ps, pi, pm, ld⟩⟩ := m
  obtain ⟨lv, tv, dv, rfl, k1, k2, k3⟩ := hM
  have hm1 := hsm.list
  have hm4 := hsm.data
  simp only at k1 k2 k3 hm1 hm4 ⊢
  have HS := hide k1
  have HS2 : Hid (∀ x, Below w.heap.size w x → SeesE x #[.int .i64 ek, .int .i64 ef, .int .i64 en, tv] ⟨ek, ef, en, lt⟩) := fun x hb => ⟨_, rfl, k2.below hb⟩
  have HS3 := hide k3
  have HSM := hide hsm
  obtain ⟨la, lc, _, _, rfl, hcap, _⟩ := k1
  obtain ⟨ta, tc, _, _, rfl, _⟩ := k2
  obtain ⟨da, dc, rfl, _⟩ := k3
  obtain ⟨n, hn⟩ : ∃ n, l.length = n := ⟨_, rfl⟩
  obtain ⟨tl, htl⟩ : ∃ n, lt.length = n := ⟨_, rfl⟩
  obtain ⟨dl, hdl⟩ : ∃ n, ld.length = n := ⟨_, rfl⟩
  rw [hn] at HS hm1 hcap
  rw [htl] at HS2
  rw [hdl] at HS3 hm4
  rw [hn, htl, hdl]
  have HN := hide hn
  have HTL := hide htl
  have HDL := hide hdl
  have hal : Below w.heap.size w ((w.alloc (.cells #[.int .i64 aK, .int .i64 aF, .int .i64 aO, .int .i64 aT, .int .i64 aS, .int .i64 aL, .int .i64 aC, .bool aY, .slice la n lc, .int .i64 ek, .int .i64 ef, .int .i64 en, .slice ta tl tc, .int .i64 ps, .int .i64 pi, .int .i64 pm, .slice da dl dc] 30)).alloc (.cells #[.int .i64 0, .int .i64 0, .int .i64 0, .int .i64 0, .int .i64 0, .int .i64 0, .int .i64 0, .bool false, .slice none 0 0, .int .i64 0, .int .i64 0, .int .i64 0, .slice none 0 0, .int .i64 0, .int .i64 0, .int .i64 0, .slice none 0 0] 30)) := ((Below.refl _ _).alloc (Nat.le_refl _) _).alloc (by simp) _
  have e0 : (w.alloc (.cells #[.int .i64 aK, .int .i64 aF, .int .i64 aO, .int .i64 aT, .int .i64 aS, .int .i64 aL, .int .i64 aC, .bool aY, .slice la n lc, .int .i64 ek, .int .i64 ef, .int .i64 en, .slice ta tl tc, .int .i64 ps, .int .i64 pi, .int .i64 pm, .slice da dl dc] 30)).heap.size = w.heap.size + 1 := by simp
  have hx0 : ((w.alloc (.cells #[.int .i64 aK, .int .i64 aF, .int .i64 aO, .int .i64 aT, .int .i64 aS, .int .i64 aL, .int .i64 aC, .bool aY, .slice la n lc, .int .i64 ek, .int .i64 ef, .int .i64 en, .slice ta tl tc, .int .i64 ps, .int .i64 pi, .int .i64 pm, .slice da dl dc] 30)).alloc (.cells #[.int .i64 0, .int .i64 0, .int .i64 0, .int .i64 0, .int .i64 0, .int .i64 0, .int .i64 0, .bool false, .slice none 0 0, .int .i64 0, .int .i64 0, .int .i64 0, .slice none 0 0, .int .i64 0, .int .i64 0, .int .i64 0, .slice none 0 0] 30)).heap[w.heap.size]? = some (.cells #[.int .i64 aK, .int .i64 aF, .int .i64 aO, .int .i64 aT, .int .i64 aS, .int .i64 aL, .int .i64 aC, .bool aY, .slice la n lc, .int .i64 ek, .int .i64 ef, .int .i64 en, .slice ta tl tc, .int .i64 ps, .int .i64 pi, .int .i64 pm, .slice da dl dc] 30) := (Below.heap_alloc _ _ _ (by omega)).trans (heap_alloc_new w _)
  have hz0' : ((w.alloc (.cells #[.int .i64 aK, .int .i64 aF, .int .i64 aO, .int .i64 aT, .int .i64 aS, .int .i64 aL, .int .i64 aC, .bool aY, .slice la n lc, .int .i64 ek, .int .i64 ef, .int .i64 en, .slice ta tl tc, .int .i64 ps, .int .i64 pi, .int .i64 pm, .slice da dl dc] 30)).alloc (.cells #[.int .i64 0, .int .i64 0, .int .i64 0, .int .i64 0, .int .i64 0, .int .i64 0, .int .i64 0, .bool false, .slice none 0 0, .int .i64 0, .int .i64 0, .int .i64 0, .slice none 0 0, .int .i64 0, .int .i64 0, .int .i64 0, .slice none 0 0] 30)).heap[w.heap.size + 1]? = some (.cells #[.int .i64 0, .int .i64 0, .int .i64 0, .int .i64 0, .int .i64 0, .int .i64 0, .int .i64 0, .bool false, .slice none 0 0, .int .i64 0, .int .i64 0, .int .i64 0, .slice none 0 0, .int .i64 0, .int .i64 0, .int .i64 0, .slice none 0 0] 30) := by have := heap_alloc_new (w.alloc (.cells #[.int .i64 aK, .int .i64 aF, .int .i64 aO, .int .i64 aT, .int .i64 aS, .int .i64 aL, .int .i64 aC, .bool aY, .slice la n lc, .int .i64 ek, .int .i64 ef, .int .i64 en, .slice ta tl tc, .int .i64 ps, .int .i64 pi, .int .i64 pm, .slice da dl dc] 30)) (.cells #[.int .i64 0, .int .i64 0, .int .i64 0, .int .i64 0, .int .i64 0, .int .i64 0, .int .i64 0, .bool false, .slice none 0 0, .int .i64 0, .int .i64 0, .int .i64 0, .slice none 0 0, .int .i64 0, .int .i64 0, .int .i64 0, .slice none 0 0] 30); rw [e0] at this; exact this
  have hs0 : ((w.alloc (.cells #[.int .i64 aK, .int .i64 aF, .int .i64 aO, .int .i64 aT, .int .i64 aS, .int .i64 aL, .int .i64 aC, .bool aY, .slice la n lc, .int .i64 ek, .int .i64 ef, .int .i64 en, .slice ta tl tc, .int .i64 ps, .int .i64 pi, .int .i64 pm, .slice da dl dc] 30)).alloc (.cells #[.int .i64 0, .int .i64 0, .int .i64 0, .int .i64 0, .int .i64 0, .int .i64 0, .int .i64 0, .bool false, .slice none 0 0, .int .i64 0, .int .i64 0, .int .i64 0, .slice none 0 0, .int .i64 0, .int .i64 0, .int .i64 0, .slice none 0 0] 30)).heap.size = w.heap.size + 2 := by simp
  obtain ⟨y0, hy0⟩ : ∃ y, ((w.alloc (.cells #[.int .i64 aK, .int .i64 aF, .int .i64 aO, .int .i64 aT, .int .i64 aS, .int .i64 aL, .int .i64 aC, .bool aY, .slice la n lc, .int .i64 ek, .int .i64 ef, .int .i64 en, .slice ta tl tc, .int .i64 ps, .int .i64 pi, .int .i64 pm, .slice da dl dc] 30)).alloc (.cells #[.int .i64 0, .int .i64 0, .int .i64 0, .int .i64 0, .int .i64 0, .int .i64 0, .int .i64 0, .bool false, .slice none 0 0, .int .i64 0, .int .i64 0, .int .i64 0, .slice none 0 0, .int .i64 0, .int .i64 0, .int .i64 0, .slice none 0 0] 30)) = y := ⟨_, rfl⟩
  rw [hy0] at hal hx0 hz0' hs0
  have HX : Hid (∀ x, Below (w.heap.size + 2) y0 x → x.heap[w.heap.size]? = some (.cells #[.int .i64 aK, .int .i64 aF, .int .i64 aO, .int .i64 aT, .int .i64 aS, .int .i64 aL, .int .i64 aC, .bool aY, .slice la n lc, .int .i64 ek, .int .i64 ef, .int .i64 en, .slice ta tl tc, .int .i64 ps, .int .i64 pi, .int .i64 pm, .slice da dl dc] 30) ∧ x.heap[w.heap.size + 1]? = some (.cells #[.int .i64 0, .int .i64 0, .int .i64 0, .int .i64 0, .int .i64 0, .int .i64 0, .int .i64 0, .bool false, .slice none 0 0, .int .i64 0, .int .i64 0, .int .i64 0, .slice none 0 0, .int .i64 0, .int .i64 0, .int .i64 0, .slice none 0 0] 30) ∧ Below w.heap.size w x ∧ w.heap.size + 2 ≤ x.heap.size) := fun x hb => ⟨(hb.block _ (by omega)).trans hx0, (hb.block _ (by omega)).trans hz0', hal.trans (hb.mono (by omega)), by have := hb.size; omega⟩
  have HC8 : Hid (∀ x, Below (w.heap.size + 2) y0 x → x.cell? ⟨w.heap.size, 8, none⟩ = some (.slice la n lc)) := fun x hb => cell_of_heap (unhide HX x hb).1
  clear hal e0 hx0 hz0' hs0 hsm hn htl hdl
  go_enter Tryz.func18, Tryz.ntmps18
  go_wp2_with (rw [hy0])
  go_loopw [3, 4] (fun v c wr => ∃ i : Nat, i ≤ n ∧ c = .int .i64 i ∧ OwnTms (w.heap.size + 2) wr v (l.take i) ∧ Below (w.heap.size + 2) y0 wr) (fun _ c _ => n - (intOf c).toNat)
  case atStart => exact ⟨0, by omega, rfl, OwnTms.nil _ _, Below.refl _ _⟩
  case round =>
    obtain ⟨i, him, rfl, ho, hb⟩ := hrel
    obtain ⟨ao, ca, rfl⟩ := ho.shape
    obtain ⟨hx, hz, hbw, hsz⟩ := unhide HX wr hb
    have k8 : wr.cell? ⟨w.heap.size, 8, none⟩ = some (.slice la n lc) := unhide HC8 wr hb
    have hlen : (l.take i).length = i := by rw [List.length_take, unhide HN]; omega
    rw [hlen]
    by_cases hlt : i < n
    · obtain ⟨ta', tc', ga, oa, hv, _, _, hao, hcl⟩ := unhide HS
      simp only [Value.slice.injEq] at hv
      obtain ⟨rfl, hj, rfl⟩ := hv
      obtain rfl := hao (by omega)
      have hltl : i < l.length := by rw [unhide HN]; exact hlt
      obtain ⟨tvi, q0, q1, q2, q3, q4, qs⟩ := hcl i hltl
      have hmem : l.getD i dM ∈ l := by
        have e : l.getD i dM = l[i] := by simp [List.getD, hltl]
        rw [e]; exact List.getElem_mem hltl
      have hsm := (unhide HSM).item _ hmem
      have htk : l.take (i + 1) = l.take i ++ [l.getD i dM] := by
        rw [List.take_succ_eq_append_getElem hltl]
        simp [List.getD, hltl]
      obtain ⟨q, hd⟩ : ∃ d, l.getD i dM = d := ⟨_, rfl⟩
      rw [hd] at q0 q1 q2 q3 qs hsm htk
      obtain ⟨d1, ⟨d2, d3, d4, d5⟩⟩ := q
      simp only at q0 q1 q2 q3 qs hsm
      have HEF : Hid (∀ x, Below w.heap.size w x → Calls Tryz.prog 17 #[.agg #[.int .i64 d2, .int .i64 d3, .int .i64 d4, tvi]] x fun r w' => ∃ cs', r = .returned (.agg cs') ∧ OwnE x.heap.size w' cs' ⟨d2, d3, d4, d5⟩ ∧ Below x.heap.size x w') := fun x hb => refCloneEntry_any _ ⟨d2, d3, d4, d5⟩ x ⟨_, rfl, qs.below hb⟩ hsm.1 hsm.2
      obtain ⟨pa, pc, _, _, rfl, _⟩ := qs
      obtain ⟨pl, hpl⟩ : ∃ z, d5.length = z := ⟨_, rfl⟩
      rw [hpl] at q4 HEF
      have HPL := hide hpl
      have cc : ∀ o u, w.cell? ⟨ga, o, none⟩ = some u → ∀ x, Below (w.heap.size + 2) y0 x → x.cell? ⟨ga, o, none⟩ = some u := fun o u h x hx => ((unhide HX x hx).2.2.1.cell (p := ⟨ga, o, none⟩) (World.block_lt_of_cell? w _ h)).trans h
      have HT0 := hide (cc _ _ q0)
      have HT1 : Hid (∀ x, Below (w.heap.size + 2) y0 x → x.cell? ⟨ga, oa + i * 5 + 1, none⟩ = some (.int .i64 d2) ∧ x.cell? ⟨ga, oa + i * 5 + 2, none⟩ = some (.int .i64 d3) ∧ x.cell? ⟨ga, oa + i * 5 + 3, none⟩ = some (.int .i64 d4) ∧ x.cell? ⟨ga, oa + i * 5 + 4, none⟩ = some (.slice pa pl pc)) := fun x hx => ⟨cc _ _ q1 x hx, cc _ _ q2 x hx, cc _ _ q3 x hx, cc _ _ q4 x hx⟩
      have HO := hide ho
      have HB := hide hb
      have HBD : Hid (Below (w.heap.size + 2) y0 wr.drew) := hb.drew
      have HTK := hide htk
      have HE7 := hide (unhide HEF wr.drew (unhide HX _ hb.drew).2.2.1)
      clear hcl hao hj hmem hd hsm htk ho hb hx hz q0 q1 q2 q3 q4 cc hpl HEF
      go_wp2_with fail
      refine wp_region_held_drew (S := fun x => Below (w.heap.size + 2) y0 x) (by kernel_rfl) (unhide HBD) (fun hHeld => ?_)
      refine wpAnyH_take (i := 0) (v := ?v1x0) rfl (by as_aux_lemma => kernel_rfl) (by as_aux_lemma => kernel_rfl) (by as_aux_lemma => kernel_rfl) (fun _ _ _ h => h) (Or.inl ⟨by rfl, ?hy1x0⟩) (by assumption) ?rest1x0
      case hy1x0 => intro w hSw; go_simp <;> with_reducible rfl
      simp only [Act.put, List.getElem_toArray, List.getElem_cons_zero, List.setIfInBounds_toArray, List.set_cons_zero, List.set_cons_succ]
      refine wpAnyH_take (i := 1) (v := ?v2x1) rfl (by as_aux_lemma => kernel_rfl) (by as_aux_lemma => kernel_rfl) (by as_aux_lemma => kernel_rfl) (fun _ _ _ h => h) (Or.inl ⟨by rfl, ?hy2x1⟩) (by assumption) ?rest2x1
      case hy2x1 => intro w hSw; go_simp <;> with_reducible rfl
      simp only [Act.put, List.getElem_toArray, List.getElem_cons_zero, List.getElem_cons_succ, List.setIfInBounds_toArray, List.set_cons_zero, List.set_cons_succ]
      refine wpAnyH_take (i := 2) (v := (.slice (some ⟨ga, oa, none⟩) n lc)) rfl (by as_aux_lemma => kernel_rfl) (by as_aux_lemma => kernel_rfl) (by as_aux_lemma => kernel_rfl) (fun _ _ _ h => h) (Or.inl ⟨by rfl, ?hy3x2⟩) (by assumption) ?rest3x2
      case hy3x2 => intro w hSw; have g0 := unhide HC8 _ hSw; go_simp <;> with_reducible rfl
      simp only [Act.put, List.getElem_toArray, List.getElem_cons_zero, List.getElem_cons_succ, List.setIfInBounds_toArray, List.set_cons_zero, List.set_cons_succ]
      refine wpAnyH_take (i := 3) (v := ?v4x3) rfl (by as_aux_lemma => kernel_rfl) (by as_aux_lemma => kernel_rfl) (by as_aux_lemma => kernel_rfl) (fun _ _ _ h => h) (Or.inl ⟨by rfl, ?hy4x3⟩) (by assumption) ?rest4x3
      case hy4x3 => intro w hSw; go_simp <;> with_reducible rfl
      simp only [Act.put, List.getElem_toArray, List.getElem_cons_zero, List.getElem_cons_succ, List.setIfInBounds_toArray, List.set_cons_zero, List.set_cons_succ]
      refine wpAnyH_take (i := 4) (v := ?v5x4) rfl (by as_aux_lemma => kernel_rfl) (by as_aux_lemma => kernel_rfl) (by as_aux_lemma => kernel_rfl) (fun _ _ _ h => h) (Or.inl ⟨by rfl, ?hy5x4⟩) (by assumption) ?rest5x4
      case hy5x4 => intro w hSw; go_simp <;> with_reducible rfl
      simp only [Act.put, List.getElem_toArray, List.getElem_cons_zero, List.getElem_cons_succ, List.setIfInBounds_toArray, List.set_cons_zero, List.set_cons_succ]
      refine wpAnyH_take (i := 5) (v := ?v6x5) rfl (by as_aux_lemma => kernel_rfl) (by as_aux_lemma => kernel_rfl) (by as_aux_lemma => kernel_rfl) (fun _ _ _ h => h) (Or.inl ⟨by rfl, ?hy6x5⟩) (by assumption) ?rest6x5
      case hy6x5 => intro w hSw; go_simp <;> with_reducible rfl
      simp only [Act.put, List.getElem_toArray, List.getElem_cons_zero, List.getElem_cons_succ, List.setIfInBounds_toArray, List.set_cons_zero, List.set_cons_succ]
      refine wpAnyH_take (i := 6) (v := (.int .i64 d1)) rfl (by as_aux_lemma => kernel_rfl) (by as_aux_lemma => kernel_rfl) (by as_aux_lemma => kernel_rfl) (fun _ _ _ h => h) (Or.inl ⟨by rfl, ?hy7x6⟩) (by assumption) ?rest7x6
      case hy7x6 => intro w hSw; have g0 := unhide HT0 _ hSw; go_simp <;> with_reducible rfl
      simp only [Act.put, List.getElem_toArray, List.getElem_cons_zero, List.getElem_cons_succ, List.setIfInBounds_toArray, List.set_cons_zero, List.set_cons_succ]
      refine wpAnyH_take (i := 7) (v := ?v8x7) rfl (by as_aux_lemma => kernel_rfl) (by as_aux_lemma => kernel_rfl) (by as_aux_lemma => kernel_rfl) (fun _ _ _ h => h) (Or.inl ⟨by rfl, ?hy8x7⟩) (by assumption) ?rest8x7
      case hy8x7 => intro w hSw; go_simp <;> with_reducible rfl
      simp only [Act.put, List.getElem_toArray, List.getElem_cons_zero, List.getElem_cons_succ, List.setIfInBounds_toArray, List.set_cons_zero, List.set_cons_succ]
      refine wpAnyH_take (i := 8) (v := (.slice (some ⟨ga, oa, none⟩) n lc)) rfl (by as_aux_lemma => kernel_rfl) (by as_aux_lemma => kernel_rfl) (by as_aux_lemma => kernel_rfl) (fun _ _ _ h => h) (Or.inl ⟨by rfl, ?hy9x8⟩) (by assumption) ?rest9x8
      case hy9x8 => intro w hSw; have g0 := unhide HC8 _ hSw; go_simp <;> with_reducible rfl
      simp only [Act.put, List.getElem_toArray, List.getElem_cons_zero, List.getElem_cons_succ, List.setIfInBounds_toArray, List.set_cons_zero, List.set_cons_succ]
      refine wpAnyH_take (i := 9) (v := ?v10x9) rfl (by as_aux_lemma => kernel_rfl) (by as_aux_lemma => kernel_rfl) (by as_aux_lemma => kernel_rfl) (fun _ _ _ h => h) (Or.inl ⟨by rfl, ?hy10x9⟩) (by assumption) ?rest10x9
      case hy10x9 => intro w hSw; go_simp <;> with_reducible rfl
      simp only [Act.put, List.getElem_toArray, List.getElem_cons_zero, List.getElem_cons_succ, List.setIfInBounds_toArray, List.set_cons_zero, List.set_cons_succ]
      refine wpAnyH_take (i := 10) (v := ?v11x10) rfl (by as_aux_lemma => kernel_rfl) (by as_aux_lemma => kernel_rfl) (by as_aux_lemma => kernel_rfl) (fun _ _ _ h => h) (Or.inl ⟨by rfl, ?hy11x10⟩) (by assumption) ?rest11x10
      case hy11x10 => intro w hSw; go_simp <;> with_reducible rfl
      simp only [Act.put, List.getElem_toArray, List.getElem_cons_zero, List.getElem_cons_succ, List.setIfInBounds_toArray, List.set_cons_zero, List.set_cons_succ]
      refine wpAnyH_take (i := 11) (v := ?v12x11) rfl (by as_aux_lemma => kernel_rfl) (by as_aux_lemma => kernel_rfl) (by as_aux_lemma => kernel_rfl) (fun _ _ _ h => h) (Or.inl ⟨by rfl, ?hy12x11⟩) (by assumption) ?rest12x11
      case hy12x11 => intro w hSw; go_simp <;> with_reducible rfl
      simp only [Act.put, List.getElem_toArray, List.getElem_cons_zero, List.getElem_cons_succ, List.setIfInBounds_toArray, List.set_cons_zero, List.set_cons_succ]
      refine wpAnyH_take (i := 12) (v := (.agg #[.int .i64 d2, .int .i64 d3, .int .i64 d4, .slice pa pl pc])) rfl (by as_aux_lemma => kernel_rfl) (by as_aux_lemma => kernel_rfl) (by as_aux_lemma => kernel_rfl) (fun _ _ _ h => h) (Or.inl ⟨by rfl, ?hy13x12⟩) (by assumption) ?rest13x12
      case hy13x12 => intro w hSw; obtain ⟨g0, g1, g2, g3⟩ := unhide HT1 _ hSw; go_simp <;> with_reducible rfl
      simp only [Act.put, List.getElem_toArray, List.getElem_cons_zero, List.getElem_cons_succ, List.setIfInBounds_toArray, List.set_cons_zero, List.set_cons_succ]
      refine wpAnyH_ready (rs := [13]) (by as_aux_lemma => kernel_rfl) (by simp) ?_
      refine AllReadyH.cons rfl (fun K hK => ?_) AllReadyH.nil
      go_simp
      refine (unhide HE7).mono ?_
      rintro e y2 ⟨cs2, rfl, oe, r2⟩
      refine hK _ _ ((unhide HBD).trans (r2.mono (unhide HX _ (unhide HBD)).2.2.2)) ?_
      clear hK hHeld
      have HB3 : Hid (Below (w.heap.size + 2) y0 y2) := (unhide HBD).trans (r2.mono (unhide HX _ (unhide HBD)).2.2.2)
      obtain ⟨tv2, rfl, ot⟩ := oe
      obtain ⟨k1, c1, rfl⟩ := ot.shape
      have ot2 := ot.mono (unhide HX _ (unhide HBD)).2.2.2
      simp only at ot2 ⊢
      rw [unhide HPL] at ot2
      rw [unhide HPL]
      have hal5 : Below y2.heap.size y2 (y2.alloc (.cells #[.int .i64 d1, .int .i64 d2, .int .i64 d3, .int .i64 d4, .slice k1 pl c1] 52)) := (Below.refl _ _).alloc (Nat.le_refl _) _
      have hsz2 := (unhide HX _ (unhide HB3)).2.2.2
      have hO2 : OwnTms (w.heap.size + 2) (y2.alloc (.cells #[.int .i64 d1, .int .i64 d2, .int .i64 d3, .int .i64 d4, .slice k1 pl c1] 52)) (.slice ao (l.take i).length ca) (l.take i) := (((unhide HO).same (fun k _ hl => (Below.refl _ _).drew.block k hl)).same (fun k _ hl => r2.block k hl)).same (fun k _ hl => hal5.block k hl)
      obtain ⟨va, vc, w6, hr6, hO6, ⟨rn, rx, hrow⟩, hg6⟩ := append_tm (q := ⟨d1, ⟨d2, d3, d4, d5⟩⟩) hO2 (ot2.below hal5) (heap_alloc_new y2 _) (by rw [hlen]; omega) (by simp; omega) 25
      rw [hlen] at hr6 hO6
      rw [← unhide HTK] at hO6
      have HB5 : Hid (Below (w.heap.size + 2) y0 (y2.alloc (.cells #[.int .i64 d1, .int .i64 d2, .int .i64 d3, .int .i64 d4, .slice k1 pl c1] 52))) := (unhide HB3).trans (hal5.mono (by omega))
      have HB6 : Hid (Below (w.heap.size + 2) y0 w6) := (unhide HB5).grown hg6 (by simp; omega) (own_block_le hrow)
      have HO6 := hide hO6
      clear ot ot2 hal5 hO2 hrow hg6 hO6 r2 HE7
      intro hHeld
      refine wpAnyH_take (i := 14) (v := ?v14x14) rfl (by as_aux_lemma => kernel_rfl) (by as_aux_lemma => kernel_rfl) (by as_aux_lemma => kernel_rfl) (fun _ _ _ h => h) (Or.inl ⟨by rfl, ?hy14x14⟩) (by assumption) ?rest14x14
      case hy14x14 => intro w hSw; go_simp <;> with_reducible rfl
      simp only [Act.put, List.getElem_toArray, List.getElem_cons_zero, List.getElem_cons_succ, List.setIfInBounds_toArray, List.set_cons_zero, List.set_cons_succ]
      refine wpAnyH_ready (rs := [15]) (by as_aux_lemma => kernel_rfl) (by simp) ?_
      refine AllReadyH.cons rfl (fun K hK => ?_) AllReadyH.nil
      go_simp
      refine hK _ _ (unhide HB5) ?_
      clear hK hHeld
      intro hHeld
      refine wpAnyH_ready (rs := [16]) (by as_aux_lemma => kernel_rfl) (by simp) ?_
      refine AllReadyH.cons rfl (fun K hK => ?_) AllReadyH.nil
      rw [if_pos (by rfl)]
      refine append_upon rfl rfl rfl hr6 ?_
      simp only [Act.put, List.getElem_toArray, List.getElem_cons_zero, List.getElem_cons_succ, List.setIfInBounds_toArray, List.set_cons_zero, List.set_cons_succ]
      refine hK _ _ (unhide HB6) ?_
      clear hK hHeld
      intro hHeld
      refine wpAnyH_take (i := 17) (v := ?v15x17) rfl (by as_aux_lemma => kernel_rfl) (by as_aux_lemma => kernel_rfl) (by as_aux_lemma => kernel_rfl) (fun _ _ _ h => h) (Or.inl ⟨by rfl, ?hy15x17⟩) (by assumption) ?rest15x17
      case hy15x17 => intro w hSw; go_simp <;> with_reducible rfl
      simp only [Act.put, List.getElem_toArray, List.getElem_cons_zero, List.getElem_cons_succ, List.setIfInBounds_toArray, List.set_cons_zero, List.set_cons_succ]
      refine wpAnyH_done (by as_aux_lemma => kernel_rfl) ?_ _
      clear hHeld hr6
      go_wp2
      go_roundw
      case rel => exact ⟨i + 1, by omega, by go_num, unhide HO6, unhide HB6⟩
      case measure => simp [intOf]; omega
    · obtain rfl : i = n := by omega
      have hti : l.take i = l := List.take_of_length_le (by rw [unhide HN]; exact Nat.le_refl _)
      rw [hti] at ho
      obtain ⟨va, hva⟩ : ∃ x, ao = x := ⟨_, rfl⟩
      obtain ⟨vc, hvc⟩ : ∃ x, ca = x := ⟨_, rfl⟩
      rw [hva, hvc, unhide HN] at ho
      rw [hva, hvc]
      have fz : ∀ o, wr.frozen? ⟨w.heap.size, o, none⟩ = false := fun o => frozen_of_heap hx
      have hx2 : (wr.setCell ⟨w.heap.size, 8, none⟩ (.slice va i vc)).heap[w.heap.size]? = some (.cells #[.int .i64 aK, .int .i64 aF, .int .i64 aO, .int .i64 aT, .int .i64 aS, .int .i64 aL, .int .i64 aC, .bool aY, .slice va i vc, .int .i64 ek, .int .i64 ef, .int .i64 en, .slice ta tl tc, .int .i64 ps, .int .i64 pi, .int .i64 pm, .slice da dl dc] 30) := setCell_heap hx
      have hz2' : (wr.setCell ⟨w.heap.size, 8, none⟩ (.slice va i vc)).heap[w.heap.size + 1]? = some (.cells #[.int .i64 0, .int .i64 0, .int .i64 0, .int .i64 0, .int .i64 0, .int .i64 0, .int .i64 0, .bool false, .slice none 0 0, .int .i64 0, .int .i64 0, .int .i64 0, .slice none 0 0, .int .i64 0, .int .i64 0, .int .i64 0, .slice none 0 0] 30) := (Below.heap_setCell _ _ _ _ (fun e => by simp only at e; omega)).trans hz
      have hb2 := hbw.setCell (p := ⟨w.heap.size, 8, none⟩) (Nat.le_refl _) (.slice va i vc)
      have ho2 : OwnTms (w.heap.size + 2) (wr.setCell ⟨w.heap.size, 8, none⟩ (.slice va i vc)) (.slice va i vc) l := ho.same (cell_same (by omega))
      have hs2 : w.heap.size + 2 ≤ (wr.setCell ⟨w.heap.size, 8, none⟩ (.slice va i vc)).heap.size := by simp only [World.setCell, Array.size_modify]; exact hsz
      obtain ⟨y9, hy9⟩ : ∃ y, wr.setCell ⟨w.heap.size, 8, none⟩ (.slice va i vc) = y := ⟨_, rfl⟩
      rw [hy9] at hx2 hz2' hb2 ho2 hs2
      have e9 : y9.cell? ⟨w.heap.size, 9, none⟩ = some (.int .i64 ek) := cell_of_heap hx2
      have e10 : y9.cell? ⟨w.heap.size, 10, none⟩ = some (.int .i64 ef) := cell_of_heap hx2
      have e11 : y9.cell? ⟨w.heap.size, 11, none⟩ = some (.int .i64 en) := cell_of_heap hx2
      have e12 : y9.cell? ⟨w.heap.size, 12, none⟩ = some (.slice ta tl tc) := cell_of_heap hx2
      have HC2 := hide (refCloneEntry_any _ ⟨ek, ef, en, lt⟩ y9 (unhide HS2 y9 hb2) (unhide HSM).ent.1 (unhide HSM).ent.2)
      have HX9 := hide hx2
      have HZ9 := hide hz2'
      have HB9 := hide hb2
      have HO9 := hide ho2
      have HS9 := hide hs2
      clear ho hx hz hbw hsz hb hx2 hz2' hb2 ho2 hs2 hva hvc hlen hti
      go_wp2_with (rw [hy9])
      refine (unhide HC2).mono ?_
      rintro r z1 ⟨cs2, rfl, ⟨tv2, rfl, ot⟩, b⟩
      obtain ⟨xa, xc, rfl⟩ := ot.shape
      have ot2 := ot.mono (unhide HS9)
      simp only at ot2 ⊢
      rw [unhide HTL] at ot2
      rw [unhide HTL]
      have hx := (b.block _ (Array.getElem?_eq_some_iff.1 (unhide HX9)).1).trans (unhide HX9)
      have hz := (b.block _ (Array.getElem?_eq_some_iff.1 (unhide HZ9)).1).trans (unhide HZ9)
      have s9 : z1.cell? ⟨w.heap.size, 9, none⟩ = some (.int .i64 ek) := cell_of_heap hx
      have s10 : z1.cell? ⟨w.heap.size, 10, none⟩ = some (.int .i64 ef) := cell_of_heap hx
      have s11 : z1.cell? ⟨w.heap.size, 11, none⟩ = some (.int .i64 en) := cell_of_heap hx
      have s12 : z1.cell? ⟨w.heap.size, 12, none⟩ = some (.slice ta tl tc) := cell_of_heap hx
      have fz1 : ∀ o, z1.frozen? ⟨w.heap.size, o, none⟩ = false := fun o => frozen_of_heap hx
      have hx2 : ((((z1.setCell ⟨w.heap.size, 9, none⟩ (.int .i64 ek)).setCell ⟨w.heap.size, 10, none⟩ (.int .i64 ef)).setCell ⟨w.heap.size, 11, none⟩ (.int .i64 en)).setCell ⟨w.heap.size, 12, none⟩ (.slice xa tl xc)).heap[w.heap.size]? = some (.cells #[.int .i64 aK, .int .i64 aF, .int .i64 aO, .int .i64 aT, .int .i64 aS, .int .i64 aL, .int .i64 aC, .bool aY, .slice va i vc, .int .i64 ek, .int .i64 ef, .int .i64 en, .slice xa tl xc, .int .i64 ps, .int .i64 pi, .int .i64 pm, .slice da dl dc] 30) := setCell_heap (setCell_heap (setCell_heap (setCell_heap hx)))
      have ne1 : ∀ (z : World) (o : Nat) (u : Value), (z.setCell ⟨w.heap.size, o, none⟩ u).heap[w.heap.size + 1]? = z.heap[w.heap.size + 1]? := fun z o u => Below.heap_setCell _ _ _ _ (fun e => by simp only at e; omega)
      have hz2' : ((((z1.setCell ⟨w.heap.size, 9, none⟩ (.int .i64 ek)).setCell ⟨w.heap.size, 10, none⟩ (.int .i64 ef)).setCell ⟨w.heap.size, 11, none⟩ (.int .i64 en)).setCell ⟨w.heap.size, 12, none⟩ (.slice xa tl xc)).heap[w.heap.size + 1]? = some (.cells #[.int .i64 0, .int .i64 0, .int .i64 0, .int .i64 0, .int .i64 0, .int .i64 0, .int .i64 0, .bool false, .slice none 0 0, .int .i64 0, .int .i64 0, .int .i64 0, .slice none 0 0, .int .i64 0, .int .i64 0, .int .i64 0, .slice none 0 0] 30) := (ne1 _ _ _).trans ((ne1 _ _ _).trans ((ne1 _ _ _).trans ((ne1 _ _ _).trans hz)))
      have hb2 := (((((unhide HB9).trans (b.mono (unhide HB9).size)).setCell (p := ⟨w.heap.size, 9, none⟩) (Nat.le_refl _) (.int .i64 ek)).setCell (p := ⟨w.heap.size, 10, none⟩) (Nat.le_refl _) (.int .i64 ef)).setCell (p := ⟨w.heap.size, 11, none⟩) (Nat.le_refl _) (.int .i64 en)).setCell (p := ⟨w.heap.size, 12, none⟩) (Nat.le_refl _) (.slice xa tl xc)
      have sm : ∀ {z : World} {o : Nat} {u : Value}, ∀ k, w.heap.size + 2 ≤ k → k < z.heap.size → (z.setCell ⟨w.heap.size, o, none⟩ u).heap[k]? = z.heap[k]? := cell_same (by omega)
      have ho2 := ((((unhide HO9).same (fun k _ hl => b.block k hl)).same (sm (o := 9) (u := .int .i64 ek))).same (sm (o := 10) (u := .int .i64 ef))).same (sm (o := 11) (u := .int .i64 en))
      have ho2 := ho2.same (sm (o := 12) (u := .slice xa tl xc))
      have hot2 := (((ot2.same (sm (o := 9) (u := .int .i64 ek))).same (sm (o := 10) (u := .int .i64 ef))).same (sm (o := 11) (u := .int .i64 en))).same (sm (o := 12) (u := .slice xa tl xc))
      have hs2 : w.heap.size + 2 ≤ ((((z1.setCell ⟨w.heap.size, 9, none⟩ (.int .i64 ek)).setCell ⟨w.heap.size, 10, none⟩ (.int .i64 ef)).setCell ⟨w.heap.size, 11, none⟩ (.int .i64 en)).setCell ⟨w.heap.size, 12, none⟩ (.slice xa tl xc)).heap.size := by simp only [World.setCell, Array.size_modify]; exact Nat.le_trans (unhide HS9) b.size
      obtain ⟨z2, hz2''⟩ : ∃ y, ((((z1.setCell ⟨w.heap.size, 9, none⟩ (.int .i64 ek)).setCell ⟨w.heap.size, 10, none⟩ (.int .i64 ef)).setCell ⟨w.heap.size, 11, none⟩ (.int .i64 en)).setCell ⟨w.heap.size, 12, none⟩ (.slice xa tl xc)) = y := ⟨_, rfl⟩
      rw [hz2''] at hx2 hz2' hb2 ho2 hot2 hs2
      have e16 : z2.cell? ⟨w.heap.size, 16, none⟩ = some (.slice da dl dc) := cell_of_heap hx2
      have HX9 := hide hx2
      have HZ9 := hide hz2'
      have HB9 := hide hb2
      have HO9 := hide ho2
      have HOT := hide hot2
      have HS9 := hide hs2
      have HSD := hide ((unhide HS3).below hb2)
      clear ot ot2 hx hz hx2 hz2' hb2 ho2 hot2 hs2 b HC2 ne1 sm
      go_wp2_with (first | rw [hz2''] | (at_builtin; refine wpList_append_sees rfl _ _ 26 rfl (w.heap.size + 2) 5 i5 (.int .u8 0) 1 Tryz.underlying26 hi5 hz50 hz51 hz52 rfl _ 0 [] rfl (World.ownsRow_nil _ _ _ _) .u8 _ ld rfl (unhide HSD) ?d1 ?d2 ?d3 ?_))
      case d1 => rw [unhide HDL]; unfold maxLen; omega
      case d2 => rw [unhide HDL]; omega
      case d3 => exact unhide HS9
      intro v3 z3 ho3 hg3
      have ho3 : z3.ownsRow (w.heap.size + 2) 5 1 v3 ld.length (ints .u8 ld) := by simpa using ho3
      obtain ⟨ya, yc, rfl⟩ := own_shapeN ho3
      rw [unhide HDL] at ho3
      rw [unhide HDL]
      have b : Below z2.heap.size z2 z3 := (Below.refl _ _).grown hg3 (Nat.le_refl _) (fun k h => by cases h)
      have hx := (b.block _ (Array.getElem?_eq_some_iff.1 (unhide HX9)).1).trans (unhide HX9)
      have hz := (b.block _ (Array.getElem?_eq_some_iff.1 (unhide HZ9)).1).trans (unhide HZ9)
      have s16 : z3.cell? ⟨w.heap.size, 16, none⟩ = some (.slice da dl dc) := cell_of_heap hx
      have fz3 : ∀ o, z3.frozen? ⟨w.heap.size, o, none⟩ = false := fun o => frozen_of_heap hx
      have hx2 : (z3.setCell ⟨w.heap.size, 16, none⟩ (.slice ya dl yc)).heap[w.heap.size]? = some (.cells #[.int .i64 aK, .int .i64 aF, .int .i64 aO, .int .i64 aT, .int .i64 aS, .int .i64 aL, .int .i64 aC, .bool aY, .slice va i vc, .int .i64 ek, .int .i64 ef, .int .i64 en, .slice xa tl xc, .int .i64 ps, .int .i64 pi, .int .i64 pm, .slice ya dl yc] 30) := setCell_heap hx
      have hz2' : (z3.setCell ⟨w.heap.size, 16, none⟩ (.slice ya dl yc)).heap[w.heap.size + 1]? = some (.cells #[.int .i64 0, .int .i64 0, .int .i64 0, .int .i64 0, .int .i64 0, .int .i64 0, .int .i64 0, .bool false, .slice none 0 0, .int .i64 0, .int .i64 0, .int .i64 0, .slice none 0 0, .int .i64 0, .int .i64 0, .int .i64 0, .slice none 0 0] 30) := (Below.heap_setCell _ _ _ _ (fun e => by simp only at e; omega)).trans hz
      have hb2 := ((unhide HB9).trans (b.mono (unhide HB9).size)).setCell (p := ⟨w.heap.size, 16, none⟩) (Nat.le_refl _) (.slice ya dl yc)
      have sm : ∀ k, w.heap.size + 2 ≤ k → k < z3.heap.size → (z3.setCell ⟨w.heap.size, 16, none⟩ (.slice ya dl yc)).heap[k]? = z3.heap[k]? := cell_same (by omega)
      have ho2 := ((unhide HO9).same (fun k _ hl => b.block k hl)).same sm
      have hot2 := ((unhide HOT).same (fun k _ hl => b.block k hl)).same sm
      have hod2 := own_same ho3 sm
      obtain ⟨z4, hz4⟩ : ∃ y, z3.setCell ⟨w.heap.size, 16, none⟩ (.slice ya dl yc) = y := ⟨_, rfl⟩
      rw [hz4] at hx2 hz2' hb2 ho2 hot2 hod2
      have HX5 := hide hx2
      have HZ5 := hide hz2'
      have HF : Hid (∀ cr, OwnM w.heap.size (z4.setRow (w.heap.size + 1) cr) #[.int .i64 aK, .int .i64 aF, .int .i64 aO, .int .i64 aT, .int .i64 aS, .int .i64 aL, .int .i64 aC, .bool aY, .slice va i vc, .int .i64 ek, .int .i64 ef, .int .i64 en, .slice xa tl xc, .int .i64 ps, .int .i64 pi, .int .i64 pm, .slice ya dl yc] ⟨aK, aF, aO, aT, aS, aL, aC, aY, l, ⟨ek, ef, en, lt⟩, ⟨ps, pi, pm, ld⟩⟩ ∧ Below w.heap.size w (z4.setRow (w.heap.size + 1) cr)) := fun cr => by
        have hr := row_same (w := z4) (base := w.heap.size + 2) (b := w.heap.size + 1) cr (by omega)
        refine ⟨OwnM.mono (base := w.heap.size + 2) ⟨_, _, _, rfl, ho2.same hr, hot2.same hr, ?_⟩ (by omega), below_setRow hb2 (by omega)⟩
        simp only
        rw [unhide HDL]
        exact own_same hod2 hr
      clear ho3 hg3 b hx hz hx2 hz2' hb2 sm ho2 hot2 hod2 HX9 HZ9
      go_wp2_with (first | rw [hz4] | refine wpList_load_row rfl 30 _ rfl w.heap.size rfl 30 _ (0, 0) _ (unhide HX5) Tryz.underlying30 rfl (by kernel_rfl) ?_ | refine wpList_store_row rfl 30 _ _ rfl (w.heap.size + 1) _ _ rfl rfl 30 (unhide HZ5) (by kernel_rfl) rfl (by first | kernel_rfl | simp [Value.oneCell']) ?_)
      refine bodyPost_ret (results_cell_row rfl _ _ (w.heap.size + 1) 30 #[.int .i64 aK, .int .i64 aF, .int .i64 aO, .int .i64 aT, .int .i64 aS, .int .i64 aL, .int .i64 aC, .bool aY, .slice va i vc, .int .i64 ek, .int .i64 ef, .int .i64 en, .slice xa tl xc, .int .i64 ps, .int .i64 pi, .int .i64 pm, .slice ya dl yc] (0, 0) _ rfl (setRow_heap _ _ _ _ _ _ (unhide HZ5)) Tryz.underlying30 rfl (by kernel_rfl)) rfl ?_
      exact ⟨_, rfl, unhide HF _⟩
end Go.Proofs.YtggllgimlfchhabGreat
