/- EvalMaps' walk. -/
import Derived.Test.YtldapckooohigaaDoorG1
import Derived.Test.YtldapckooohigaaDoorE34
import Derived.Test.YtldapckooohigaaDoorJN
namespace Go.Proofs.YtldapckooohigaaDoor
open Go.RowKit
set_option maxRecDepth 100000

theorem own_c {α : Type} [Inhabited α] {c : α → List Value} {k e N : Nat} {args : Array Value} {z : World} {L : List α} (hk : ∀ x, (c x).length = k) (h0 : 0 < k) (h : Calls Tryd.prog N args z fun ee w' => ∃ v, ee = .returned v ∧ w'.ownsRow z.heap.size e k v L.length (L.flatMap c) ∧ Below z.heap.size z w') : Calls Tryd.prog N args z fun ee w' => ∃ a cp, ee = .returned (.slice a L.length cp) ∧ SeesL c k w' (.slice a L.length cp) L ∧ Below z.heap.size z w' :=
  h.mono fun _ _ ⟨v, he, ho, hb⟩ => by
    obtain ⟨a, cp, hv⟩ := own_shape ho
    subst hv
    exact ⟨a, cp, he, (own_sees hk h0 ho).2, hb⟩
theorem chs_same {w : World} {u v : Value} {A : List Ch} (ha : SeesL chC 4 w u A) (hb : SeesL chC 4 w v A) : Calls Tryd.prog 13 #[u, v] w fun e w' => e = .returned (.bool true) ∧ Below w.heap.size w w' := by
  have h := chs_any ha hb
  rwa [decide_eq_true rfl] at h
theorem prs_same {w : World} {u v : Value} {A : List Pr} (ha : SeesL pC 3 w u A) (hb : SeesL pC 3 w v A) : Calls Tryd.prog 16 #[u, v] w fun e w' => e = .returned (.bool true) ∧ Below w.heap.size w w' := by
  have h := prs_any ha hb
  rwa [decide_eq_true rfl] at h

set_option maxHeartbeats 16000000 in
theorem evalMaps_walk {mv lv cv av rv wv : Value} {m : List Pr} {l : List Ch} {rs : List Ky} {s0 r0 : Int} {w : World} (hT : Tab w) (h1 : SeesL pC 3 w mv m) (ok1 : ∀ p ∈ m, OkK p.1) (h2 : SeesL chC 4 w lv l) (ok2 : ∀ c ∈ l, OkK c.1) (h3 : SeesL kC 2 w rv rs) (ok3 : ∀ k ∈ rs, OkK k)
    (hc : ∃ a n c, cv = .slice a n c) (ha : ∃ a n c, av = .slice a n c) (hw : ∃ a n c, wv = .slice a n c) (hm : m.length ≤ 1048576) (hl : l.length ≤ 1048576) :
    Calls Tryd.prog 4 #[mv, lv, .agg #[.int .i64 s0, .int .i64 r0, cv, av, rv, wv]] w fun e w' => e = .returned (.bool true) ∧ Below w.heap.size w w' := by
  obtain ⟨ac, nc, cc, rfl⟩ := hc
  obtain ⟨aa, na, ca, rfl⟩ := ha
  obtain ⟨aw, nw, cw, rfl⟩ := hw
  obtain ⟨ar, cr, hr⟩ := h3.shape
  obtain ⟨nr, hnr⟩ : ∃ z, rs.length = z := ⟨_, rfl⟩
  rw [hnr] at hr
  subst hr
  obtain ⟨am, cm, hmv⟩ := h1.shape
  obtain ⟨nm, hnm⟩ : ∃ z, m.length = z := ⟨_, rfl⟩
  rw [hnm] at hmv
  subst hmv
  obtain ⟨al, cl, hlv⟩ := h2.shape
  obtain ⟨nl, hnl⟩ : ∃ z, l.length = z := ⟨_, rfl⟩
  rw [hnl] at hlv
  subst hlv
  obtain ⟨Y, hY⟩ : ∃ y, w.alloc (.cells #[.int .i64 s0, .int .i64 r0, .slice ac nc cc, .slice aa na ca, .slice ar nr cr, .slice aw nw cw] 35) = y := ⟨_, rfl⟩
  have bY : Below w.heap.size w Y := hY ▸ below_box _
  have x3 : Y.heap[w.heap.size]? = some (.cells #[.int .i64 s0, .int .i64 r0, .slice ac nc cc, .slice aa na ca, .slice ar nr cr, .slice aw nw cw] 35) := by rw [← hY]; exact heap_alloc_new w _
  have HB : Hid (∀ z, Below Y.heap.size Y z → z.heap[w.heap.size]? = some (.cells #[.int .i64 s0, .int .i64 r0, .slice ac nc cc, .slice aa na ca, .slice ar nr cr, .slice aw nw cw] 35)) := fun z hz => (hz.block _ (Array.getElem?_eq_some_iff.1 x3).1).trans x3
  have b0 : ∀ z, Below Y.heap.size Y z → Below w.heap.size w z := fun z hz => bY.trans (hz.mono bY.size)
  have HT : Hid (∀ z, Below Y.heap.size Y z → Calls Tryd.prog 10 #[] z fun e w' => e = .returned (.bool true) ∧ Below z.heap.size z w') := fun z hz => begun_any (hT.below (b0 z hz) hT.pos)
  have H14 : Hid (∀ z, Below Y.heap.size Y z → Calls Tryd.prog 14 #[.slice al nl cl] z fun e w' => ∃ a c, e = .returned (.slice a (srtD l).length c) ∧ SeesL chC 4 w' (.slice a (srtD l).length c) (srtD l) ∧ Below z.heap.size z w') := fun z hz => own_c chC_len (by decide) (changes_any (h2.below chC_len (b0 z hz)) ok2 (by omega))
  have H15 : Hid (∀ z, Below Y.heap.size Y z → Calls Tryd.prog 15 #[.slice al nl cl] z fun e w' => ∃ a c, e = .returned (.slice a (srtD l).length c) ∧ SeesL chC 4 w' (.slice a (srtD l).length c) (srtD l) ∧ Below z.heap.size z w') := fun z hz => own_c chC_len (by decide) (rchanges_any (h2.below chC_len (b0 z hz)) (by omega))
  have H17 : Hid (∀ z, Below Y.heap.size Y z → Calls Tryd.prog 17 #[.slice am nm cm, .slice al nl cl] z fun e w' => ∃ a c, e = .returned (.slice a (appD m l).length c) ∧ SeesL pC 3 w' (.slice a (appD m l).length c) (appD m l) ∧ Below z.heap.size z w') := fun z hz => own_c pC_len (by decide) (apply_any (h1.below pC_len (b0 z hz)) ok1 (h2.below chC_len (b0 z hz)) ok2 (by omega))
  have H18 : Hid (∀ z, Below Y.heap.size Y z → Calls Tryd.prog 18 #[.slice am nm cm, .slice al nl cl] z fun e w' => ∃ a c, e = .returned (.slice a (appD m l).length c) ∧ SeesL pC 3 w' (.slice a (appD m l).length c) (appD m l) ∧ Below z.heap.size z w') := fun z hz => own_c pC_len (by decide) (rapply_any (h1.below pC_len (b0 z hz)) (h2.below chC_len (b0 z hz)) (by omega))
  have H19 : Hid (∀ z, Below Y.heap.size Y z → Calls Tryd.prog 19 #[.agg #[.int .i64 s0, .int .i64 r0, .slice ac nc cc, .slice aa na ca, .slice ar nr cr, .slice aw nw cw], .slice am nm cm] z fun e w' => ∃ a c, e = .returned (.slice a (srtP (nedP rs m)).length c) ∧ SeesL pC 3 w' (.slice a (srtP (nedP rs m)).length c) (srtP (nedP rs m)) ∧ Below z.heap.size z w') := fun z hz => own_c pC_len (by decide) (needs_any (h3.below kC_len (b0 z hz)) ok3 (h1.below pC_len (b0 z hz)) ok1 (by omega))
  have H20 : Hid (∀ z, Below Y.heap.size Y z → Calls Tryd.prog 20 #[.agg #[.int .i64 s0, .int .i64 r0, .slice ac nc cc, .slice aa na ca, .slice ar nr cr, .slice aw nw cw], .slice am nm cm] z fun e w' => ∃ a c, e = .returned (.slice a (srtP (nedP rs m)).length c) ∧ SeesL pC 3 w' (.slice a (srtP (nedP rs m)).length c) (srtP (nedP rs m)) ∧ Below z.heap.size z w') := fun z hz => own_c pC_len (by decide) (rneeds_any (h3.below kC_len (b0 z hz)) (h1.below pC_len (b0 z hz)) (by omega))
  obtain ⟨D1, hD1⟩ : ∃ D, srtD l = D := ⟨_, rfl⟩
  obtain ⟨D2, hD2⟩ : ∃ D, appD m l = D := ⟨_, rfl⟩
  obtain ⟨D3, hD3⟩ : ∃ D, srtP (nedP rs m) = D := ⟨_, rfl⟩
  rw [hD1] at H14 H15
  rw [hD2] at H17 H18
  rw [hD3] at H19 H20
  obtain ⟨n1, hn1⟩ : ∃ n, D1.length = n := ⟨_, rfl⟩
  obtain ⟨n2, hn2⟩ : ∃ n, D2.length = n := ⟨_, rfl⟩
  obtain ⟨n3, hn3⟩ : ∃ n, D3.length = n := ⟨_, rfl⟩
  rw [hn1] at H14 H15
  rw [hn2] at H17 H18
  rw [hn3] at H19 H20
  have HBY := hide bY
  have HY := hide hY
  clear hT h1 ok1 h2 ok2 h3 ok3 hm hl hnr hnm hnl bY x3 b0 hD1 hD2 hD3 hn1 hn2 hn3 hY
  go_enter Tryd.func4, Tryd.ntmps4
  go_wp2_with (rw [unhide HY])
  refine wp_region_held_drew (S := fun x => Below Y.heap.size Y x) (by kernel_rfl) ((Below.refl _ _).drew) (fun hHeld => ?_)
  have t0 : Below Y.heap.size Y Y.drew := (Below.refl _ _).drew
  refine wpAnyH_ready (rs := [0]) (by as_aux_lemma => kernel_rfl) (by simp) ?_
  refine AllReadyH.cons rfl (fun K hK => ?_) AllReadyH.nil
  go_simp
  refine ((unhide HT) _ t0).mono ?_
  rintro e c1 ⟨rfl, hb1⟩
  refine hK _ _ (t0.trans (hb1.mono t0.size)) ?_
  clear hK hHeld
  have t1 : Below Y.heap.size Y c1 := t0.trans (hb1.mono t0.size)
  intro hHeld
  refine wpAnyH_take (i := 1) (v := ?v1x1) rfl (by as_aux_lemma => kernel_rfl) (by as_aux_lemma => kernel_rfl) (by as_aux_lemma => kernel_rfl) (fun _ _ _ h => h) (Or.inl ⟨by rfl, ?hy1x1⟩) (by assumption) ?rest1x1
  case hy1x1 => intro w hSw; go_simp <;> with_reducible rfl
  simp only [Act.put, List.getElem_toArray, List.getElem_cons_zero, List.getElem_cons_succ, List.setIfInBounds_toArray, List.set_cons_zero, List.set_cons_succ]
  refine wpAnyH_take (i := 2) (v := ?v2x2) rfl (by as_aux_lemma => kernel_rfl) (by as_aux_lemma => kernel_rfl) (by as_aux_lemma => kernel_rfl) (fun _ _ _ h => h) (Or.inl ⟨by rfl, ?hy2x2⟩) (by assumption) ?rest2x2
  case hy2x2 => intro w hSw; go_simp <;> with_reducible rfl
  simp only [Act.put, List.getElem_toArray, List.getElem_cons_zero, List.getElem_cons_succ, List.setIfInBounds_toArray, List.set_cons_zero, List.set_cons_succ]
  refine wpAnyH_take (i := 4) (v := ?v3x4) rfl (by as_aux_lemma => kernel_rfl) (by as_aux_lemma => kernel_rfl) (by as_aux_lemma => kernel_rfl) (fun _ _ _ h => h) (Or.inl ⟨by rfl, ?hy3x4⟩) (by assumption) ?rest3x4
  case hy3x4 => intro w hSw; go_simp <;> with_reducible rfl
  simp only [Act.put, List.getElem_toArray, List.getElem_cons_zero, List.getElem_cons_succ, List.setIfInBounds_toArray, List.set_cons_zero, List.set_cons_succ]
  refine wpAnyH_ready (rs := [3]) (by as_aux_lemma => kernel_rfl) (by simp) ?_
  refine AllReadyH.cons rfl (fun K hK => ?_) AllReadyH.nil
  go_simp
  refine ((unhide H14) _ t1).mono ?_
  rintro e c2 ⟨a1, k1, rfl, s1, hb2⟩
  refine hK _ _ (t1.trans (hb2.mono t1.size)) ?_
  clear hK hHeld
  have t2 : Below Y.heap.size Y c2 := t1.trans (hb2.mono t1.size)
  intro hHeld
  refine wpAnyH_ready (rs := [5]) (by as_aux_lemma => kernel_rfl) (by simp) ?_
  refine AllReadyH.cons rfl (fun K hK => ?_) AllReadyH.nil
  go_simp
  refine ((unhide H15) _ t2).mono ?_
  rintro e c3 ⟨a2, k2, rfl, s2, hb3⟩
  refine hK _ _ (t2.trans (hb3.mono t2.size)) ?_
  clear hK hHeld
  have t3 : Below Y.heap.size Y c3 := t2.trans (hb3.mono t2.size)
  intro hHeld
  refine wpAnyH_ready (rs := [6]) (by as_aux_lemma => kernel_rfl) (by simp) ?_
  refine AllReadyH.cons rfl (fun K hK => ?_) AllReadyH.nil
  go_simp
  refine (chs_same (s1.below chC_len hb3) s2).mono ?_
  rintro e c4 ⟨rfl, hb4⟩
  refine hK _ _ (t3.trans (hb4.mono t3.size)) ?_
  clear hK hHeld
  have t4 : Below Y.heap.size Y c4 := t3.trans (hb4.mono t3.size)
  intro hHeld
  refine wpAnyH_take (i := 7) (v := (.bool true)) rfl (by as_aux_lemma => kernel_rfl) (by as_aux_lemma => kernel_rfl) (by as_aux_lemma => kernel_rfl) (fun _ _ _ h => h) (Or.inl ⟨by rfl, ?hy4x7⟩) (by assumption) ?rest4x7
  case hy4x7 => intro w hSw; skip; go_simp <;> with_reducible rfl
  simp only [Act.put, List.getElem_toArray, List.getElem_cons_zero, List.getElem_cons_succ, List.setIfInBounds_toArray, List.set_cons_zero, List.set_cons_succ]
  refine wpAnyH_take (i := 8) (v := ?v5x8) rfl (by as_aux_lemma => kernel_rfl) (by as_aux_lemma => kernel_rfl) (by as_aux_lemma => kernel_rfl) (fun _ _ _ h => h) (Or.inl ⟨by rfl, ?hy5x8⟩) (by assumption) ?rest5x8
  case hy5x8 => intro w hSw; go_simp <;> with_reducible rfl
  simp only [Act.put, List.getElem_toArray, List.getElem_cons_zero, List.getElem_cons_succ, List.setIfInBounds_toArray, List.set_cons_zero, List.set_cons_succ]
  refine wpAnyH_take (i := 9) (v := ?v6x9) rfl (by as_aux_lemma => kernel_rfl) (by as_aux_lemma => kernel_rfl) (by as_aux_lemma => kernel_rfl) (fun _ _ _ h => h) (Or.inl ⟨by rfl, ?hy6x9⟩) (by assumption) ?rest6x9
  case hy6x9 => intro w hSw; go_simp <;> with_reducible rfl
  simp only [Act.put, List.getElem_toArray, List.getElem_cons_zero, List.getElem_cons_succ, List.setIfInBounds_toArray, List.set_cons_zero, List.set_cons_succ]
  refine wpAnyH_take (i := 10) (v := ?v7x10) rfl (by as_aux_lemma => kernel_rfl) (by as_aux_lemma => kernel_rfl) (by as_aux_lemma => kernel_rfl) (fun _ _ _ h => h) (Or.inl ⟨by rfl, ?hy7x10⟩) (by assumption) ?rest7x10
  case hy7x10 => intro w hSw; go_simp <;> with_reducible rfl
  simp only [Act.put, List.getElem_toArray, List.getElem_cons_zero, List.getElem_cons_succ, List.setIfInBounds_toArray, List.set_cons_zero, List.set_cons_succ]
  refine wpAnyH_take (i := 12) (v := ?v8x12) rfl (by as_aux_lemma => kernel_rfl) (by as_aux_lemma => kernel_rfl) (by as_aux_lemma => kernel_rfl) (fun _ _ _ h => h) (Or.inl ⟨by rfl, ?hy8x12⟩) (by assumption) ?rest8x12
  case hy8x12 => intro w hSw; go_simp <;> with_reducible rfl
  simp only [Act.put, List.getElem_toArray, List.getElem_cons_zero, List.getElem_cons_succ, List.setIfInBounds_toArray, List.set_cons_zero, List.set_cons_succ]
  refine wpAnyH_take (i := 13) (v := ?v9x13) rfl (by as_aux_lemma => kernel_rfl) (by as_aux_lemma => kernel_rfl) (by as_aux_lemma => kernel_rfl) (fun _ _ _ h => h) (Or.inl ⟨by rfl, ?hy9x13⟩) (by assumption) ?rest9x13
  case hy9x13 => intro w hSw; go_simp <;> with_reducible rfl
  simp only [Act.put, List.getElem_toArray, List.getElem_cons_zero, List.getElem_cons_succ, List.setIfInBounds_toArray, List.set_cons_zero, List.set_cons_succ]
  refine wpAnyH_ready (rs := [11]) (by as_aux_lemma => kernel_rfl) (by simp) ?_
  refine AllReadyH.cons rfl (fun K hK => ?_) AllReadyH.nil
  go_simp
  refine ((unhide H17) _ t4).mono ?_
  rintro e c5 ⟨a3, k3, rfl, s3, hb5⟩
  refine hK _ _ (t4.trans (hb5.mono t4.size)) ?_
  clear hK hHeld
  have t5 : Below Y.heap.size Y c5 := t4.trans (hb5.mono t4.size)
  intro hHeld
  refine wpAnyH_ready (rs := [14]) (by as_aux_lemma => kernel_rfl) (by simp) ?_
  refine AllReadyH.cons rfl (fun K hK => ?_) AllReadyH.nil
  go_simp
  refine ((unhide H18) _ t5).mono ?_
  rintro e c6 ⟨a4, k4, rfl, s4, hb6⟩
  refine hK _ _ (t5.trans (hb6.mono t5.size)) ?_
  clear hK hHeld
  have t6 : Below Y.heap.size Y c6 := t5.trans (hb6.mono t5.size)
  intro hHeld
  refine wpAnyH_ready (rs := [15]) (by as_aux_lemma => kernel_rfl) (by simp) ?_
  refine AllReadyH.cons rfl (fun K hK => ?_) AllReadyH.nil
  go_simp
  refine (prs_same (s3.below pC_len hb6) s4).mono ?_
  rintro e c7 ⟨rfl, hb7⟩
  refine hK _ _ (t6.trans (hb7.mono t6.size)) ?_
  clear hK hHeld
  have t7 : Below Y.heap.size Y c7 := t6.trans (hb7.mono t6.size)
  intro hHeld
  refine wpAnyH_take (i := 16) (v := (.bool true)) rfl (by as_aux_lemma => kernel_rfl) (by as_aux_lemma => kernel_rfl) (by as_aux_lemma => kernel_rfl) (fun _ _ _ h => h) (Or.inl ⟨by rfl, ?hy10x16⟩) (by assumption) ?rest10x16
  case hy10x16 => intro w hSw; skip; go_simp <;> with_reducible rfl
  simp only [Act.put, List.getElem_toArray, List.getElem_cons_zero, List.getElem_cons_succ, List.setIfInBounds_toArray, List.set_cons_zero, List.set_cons_succ]
  refine wpAnyH_take (i := 17) (v := ?v11x17) rfl (by as_aux_lemma => kernel_rfl) (by as_aux_lemma => kernel_rfl) (by as_aux_lemma => kernel_rfl) (fun _ _ _ h => h) (Or.inl ⟨by rfl, ?hy11x17⟩) (by assumption) ?rest11x17
  case hy11x17 => intro w hSw; go_simp <;> with_reducible rfl
  simp only [Act.put, List.getElem_toArray, List.getElem_cons_zero, List.getElem_cons_succ, List.setIfInBounds_toArray, List.set_cons_zero, List.set_cons_succ]
  refine wpAnyH_take (i := 18) (v := (.agg #[.int .i64 s0, .int .i64 r0, .slice ac nc cc, .slice aa na ca, .slice ar nr cr, .slice aw nw cw])) rfl (by as_aux_lemma => kernel_rfl) (by as_aux_lemma => kernel_rfl) (by as_aux_lemma => kernel_rfl) (fun _ _ _ h => h) (Or.inl ⟨by rfl, ?hy12x18⟩) (by assumption) ?rest12x18
  case hy12x18 => intro w hSw; have ht := (unhide HB) _ hSw; have q0 := cell_at (o := 0) ht; have q1 := cell_at (o := 1) ht; have q2 := cell_at (o := 2) ht; have q3 := cell_at (o := 3) ht; have q4 := cell_at (o := 4) ht; have q5 := cell_at (o := 5) ht; go_simp <;> with_reducible rfl
  simp only [Act.put, List.getElem_toArray, List.getElem_cons_zero, List.getElem_cons_succ, List.setIfInBounds_toArray, List.set_cons_zero, List.set_cons_succ]
  refine wpAnyH_take (i := 19) (v := ?v13x19) rfl (by as_aux_lemma => kernel_rfl) (by as_aux_lemma => kernel_rfl) (by as_aux_lemma => kernel_rfl) (fun _ _ _ h => h) (Or.inl ⟨by rfl, ?hy13x19⟩) (by assumption) ?rest13x19
  case hy13x19 => intro w hSw; go_simp <;> with_reducible rfl
  simp only [Act.put, List.getElem_toArray, List.getElem_cons_zero, List.getElem_cons_succ, List.setIfInBounds_toArray, List.set_cons_zero, List.set_cons_succ]
  refine wpAnyH_take (i := 21) (v := (.agg #[.int .i64 s0, .int .i64 r0, .slice ac nc cc, .slice aa na ca, .slice ar nr cr, .slice aw nw cw])) rfl (by as_aux_lemma => kernel_rfl) (by as_aux_lemma => kernel_rfl) (by as_aux_lemma => kernel_rfl) (fun _ _ _ h => h) (Or.inl ⟨by rfl, ?hy14x21⟩) (by assumption) ?rest14x21
  case hy14x21 => intro w hSw; have ht := (unhide HB) _ hSw; have q0 := cell_at (o := 0) ht; have q1 := cell_at (o := 1) ht; have q2 := cell_at (o := 2) ht; have q3 := cell_at (o := 3) ht; have q4 := cell_at (o := 4) ht; have q5 := cell_at (o := 5) ht; go_simp <;> with_reducible rfl
  simp only [Act.put, List.getElem_toArray, List.getElem_cons_zero, List.getElem_cons_succ, List.setIfInBounds_toArray, List.set_cons_zero, List.set_cons_succ]
  refine wpAnyH_take (i := 22) (v := ?v15x22) rfl (by as_aux_lemma => kernel_rfl) (by as_aux_lemma => kernel_rfl) (by as_aux_lemma => kernel_rfl) (fun _ _ _ h => h) (Or.inl ⟨by rfl, ?hy15x22⟩) (by assumption) ?rest15x22
  case hy15x22 => intro w hSw; go_simp <;> with_reducible rfl
  simp only [Act.put, List.getElem_toArray, List.getElem_cons_zero, List.getElem_cons_succ, List.setIfInBounds_toArray, List.set_cons_zero, List.set_cons_succ]
  refine wpAnyH_ready (rs := [20]) (by as_aux_lemma => kernel_rfl) (by simp) ?_
  refine AllReadyH.cons rfl (fun K hK => ?_) AllReadyH.nil
  go_simp
  refine ((unhide H19) _ t7).mono ?_
  rintro e c8 ⟨a5, k5, rfl, s5, hb8⟩
  refine hK _ _ (t7.trans (hb8.mono t7.size)) ?_
  clear hK hHeld
  have t8 : Below Y.heap.size Y c8 := t7.trans (hb8.mono t7.size)
  intro hHeld
  refine wpAnyH_ready (rs := [23]) (by as_aux_lemma => kernel_rfl) (by simp) ?_
  refine AllReadyH.cons rfl (fun K hK => ?_) AllReadyH.nil
  go_simp
  refine ((unhide H20) _ t8).mono ?_
  rintro e c9 ⟨a6, k6, rfl, s6, hb9⟩
  refine hK _ _ (t8.trans (hb9.mono t8.size)) ?_
  clear hK hHeld
  have t9 : Below Y.heap.size Y c9 := t8.trans (hb9.mono t8.size)
  intro hHeld
  refine wpAnyH_ready (rs := [24]) (by as_aux_lemma => kernel_rfl) (by simp) ?_
  refine AllReadyH.cons rfl (fun K hK => ?_) AllReadyH.nil
  go_simp
  refine (prs_same (s5.below pC_len hb9) s6).mono ?_
  rintro e c10 ⟨rfl, hb10⟩
  refine hK _ _ (t9.trans (hb10.mono t9.size)) ?_
  clear hK hHeld
  have t10 : Below Y.heap.size Y c10 := t9.trans (hb10.mono t9.size)
  intro hHeld
  refine wpAnyH_take (i := 25) (v := (.bool true)) rfl (by as_aux_lemma => kernel_rfl) (by as_aux_lemma => kernel_rfl) (by as_aux_lemma => kernel_rfl) (fun _ _ _ h => h) (Or.inl ⟨by rfl, ?hy16x25⟩) (by assumption) ?rest16x25
  case hy16x25 => intro w hSw; skip; go_simp <;> with_reducible rfl
  simp only [Act.put, List.getElem_toArray, List.getElem_cons_zero, List.getElem_cons_succ, List.setIfInBounds_toArray, List.set_cons_zero, List.set_cons_succ]
  refine wpAnyH_take (i := 26) (v := ?v17x26) rfl (by as_aux_lemma => kernel_rfl) (by as_aux_lemma => kernel_rfl) (by as_aux_lemma => kernel_rfl) (fun _ _ _ h => h) (Or.inl ⟨by rfl, ?hy17x26⟩) (by assumption) ?rest17x26
  case hy17x26 => intro w hSw; go_simp <;> with_reducible rfl
  simp only [Act.put, List.getElem_toArray, List.getElem_cons_zero, List.getElem_cons_succ, List.setIfInBounds_toArray, List.set_cons_zero, List.set_cons_succ]
  refine wpAnyH_done (by as_aux_lemma => kernel_rfl) ?_ _
  go_wp2
  go_ret
  exact ⟨rfl, (unhide HBY).trans (t10.mono (unhide HBY).size)⟩
end Go.Proofs.YtldapckooohigaaDoor
