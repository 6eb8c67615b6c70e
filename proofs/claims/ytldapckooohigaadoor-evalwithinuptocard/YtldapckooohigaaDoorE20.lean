/- begin, up to the list. -/
import Derived.Test.YtldapckooohigaaDoorJH
import Derived.Test.YtldapckooohigaaDoorJG
import Derived.Test.YtldapckooohigaaDoorJJ
import Derived.Deep.DeepCutAuto
namespace Go.Proofs.YtldapckooohigaaDoor
open Go.RowKit
set_option maxRecDepth 100000

theorem rC_setLv {E : Env} {s : Mc} {ov : Value} (v : Value) : (rC E s ov).setIfInBounds 6 v = rC { E with lv := v } s ov := by
  unfold rC
  rw [List.setIfInBounds_toArray, List.set_append_left _ _ (by simp [hdV])]
  rfl
theorem rC_setPl {E : Env} {s : Mc} {ov : Value} {p : Nat} (hp : E.pl.length = 512) (h : p < 512) (v : Int) : (rC E s ov).setIfInBounds (7 + p) (iv v) = rC { E with pl := E.pl.set p v } s ov := by
  unfold rC
  rw [List.setIfInBounds_toArray, List.set_append_right _ _ (by simp [hdV])]
  have e : 7 + p - (hdV E).length = p := by simp [hdV]
  rw [e, List.set_append_left _ _ (by simp; omega), ← List.map_set]
  rfl
theorem ddP_rises : ∀ (l : List Pr), (keysOf l).Nodup → ddP l = l := fun l => by
  refine snocInd (P := fun l => (keysOf l).Nodup → ddP l = l) (fun _ => rfl) (fun l p ih h => ?_) l
  have h1 : (keysOf l ++ [p.1]).Nodup := by simpa [keysOf] using h
  obtain ⟨h2, _, h3⟩ := List.nodup_append.1 h1
  rw [ddP_snoc, ih h2]
  unfold addP
  rw [if_neg fun hk => h3 _ hk p.1 (List.mem_singleton_self _) rfl]
theorem rises_nodup {l : List Pr} (h : RisesP l) : (keysOf l).Nodup := by
  unfold keysOf
  rw [List.Nodup, List.pairwise_map]
  exact h.imp fun hab e => by rw [e] at hab; exact ltK_irrefl _ hab
theorem srtP_ok {l : List Pr} (h : ∀ p ∈ l, OkK p.1) : ∀ p ∈ srtP l, OkK p.1 := fun p hp => by
  have hv := ((srtP_spec l).2.1 p.1 p.2).1 hp
  have : ∀ (l : List Pr), valOf l p.1 = some p.2 → ∃ q ∈ l, q.1 = p.1 := by
    intro l
    refine snocInd (P := fun l => valOf l p.1 = some p.2 → ∃ q ∈ l, q.1 = p.1) (fun h => by simp [valOf] at h) (fun l q ih h => ?_) l
    rw [valOf_snoc] at h
    by_cases e : q.1 = p.1
    · exact ⟨q, by simp, e⟩
    · rw [if_neg e] at h
      obtain ⟨q', hq, e'⟩ := ih h
      exact ⟨q', by simp [hq], e'⟩
  obtain ⟨q, hq, e⟩ := this l hv
  exact e ▸ h q hq
/-- Where begin stands behind the run's box. -/
def Bg (w : World) (s r : Int) (cv av rv wv : Value) (ar : List Int) (rs ws : List Ky) (vals : List Pr) (p : Value) (wc : World) : Prop :=
  ∃ mr mw b, p = .pointer (some ⟨b, 0, none⟩) ∧ RunIs w b (envB s r cv av rv wv nilV pl0 mr mw) ⟨[], ar, rs, ws, vals⟩ mc0 nilV wc ∧ wc.cell? ⟨w.heap.size, 2, none⟩ = some cv ∧ w.heap.size < b
theorem bg_of {w : World} {s r : Int} {cv av rv wv : Value} {ar : List Int} {rs ws : List Ky} {vals : List Pr} {mr mw : Nat} {z : World} (hz : Below w.heap.size w z) (hlz : w.heap.size < z.heap.size) (hc : z.cell? ⟨w.heap.size, 2, none⟩ = some cv) (hr : MapAt z mr (vals.map prE)) (hw : MapAt z mw []) (hlw : w.heap.size ≤ mw) (hne : mw ≠ mr) :
    Bg w s r cv av rv wv ar rs ws vals (.pointer (some ⟨z.heap.size, 0, none⟩)) (z.alloc (.cells (rC (envB s r cv av rv wv nilV pl0 mr mw) mc0 nilV) 82)) := by
  have hb : Below z.heap.size z (z.alloc (.cells (rC (envB s r cv av rv wv nilV pl0 mr mw) mc0 nilV) 82)) := below_box _
  refine ⟨mr, mw, z.heap.size, rfl, ?_, (hb.cell hlz).trans hc, hlz⟩
  exact
  { bel := hz.trans (hb.mono hz.size)
    blk := heap_alloc_new z _
    out := own_nil _ _ _ _
    wmap := hw.below hb
    rmap := hr.below hb
    lst := own_nil _ _ _ _
    lb := hz.size
    lw := hlw
    ne := hne
    rgl := rfl
    oks := fun c hc => by cases hc }

theorem RunIs.storeE {w0 w : World} {b : Nat} {E E' : Env} {P P' : Tp} {s : Mc} {ov : Value} (h : RunIs w0 b E P s ov w) {i : Nat} {v : Value} (hC : (rC E s ov).setIfInBounds i v = rC E' s ov) (hmw : E'.mw = E.mw) (hmr : E'.mr = E.mr) (hv : P'.vals = P.vals) (hl : w.ownsRow w0.heap.size 89 5 E'.lv P'.L.length (P'.L.flatMap iC)) : RunIs w0 b E' P' s ov (w.setCell ⟨b, i, none⟩ v) :=
  have ho1 : ∀ j, j ≠ b → (w.setCell ⟨b, i, none⟩ v).heap[j]? = w.heap[j]? := fun j hj => heap_setCell_other _ _ _ _ hj
  { bel := h.bel.trans ⟨rfl, rfl, rfl, by simp [World.setCell], fun j hj => ho1 j (by have := h.lb; omega)⟩
    blk := by rw [heap_setCell_same w b i _ 82 v h.blk, hC]
    out := own_apart h.out h.blk (by decide) ho1
    wmap := by rw [hmw]; exact h.wmap.keep (ho1 _ (Ne.symm (h.wmap.apart h.blk)))
    rmap := by rw [hmr, hv]; exact h.rmap.keep (ho1 _ (Ne.symm (h.rmap.apart h.blk)))
    lst := own_apart hl h.blk (by decide) ho1
    lb := h.lb
    lw := by rw [hmw]; exact h.lw
    ne := by rw [hmw, hmr]; exact h.ne
    rgl := h.rgl
    oks := h.oks }
set_option maxHeartbeats 6400000 in
theorem begin_any {s r : Int} {cv av rv wv mv : Value} {ar : List Int} {rs ws : List Ky} {m : List Pr} {code : List Int} {w : World} (hT : Tab w) (h0 : SeesL yC 1 w cv code) (hby : Byt code) (h1 : SeesL kC 2 w rv rs) (hok1 : ∀ k ∈ rs, OkK k) (h2 : SeesL pC 3 w mv m) (hok2 : ∀ p ∈ m, OkK p.1) (hll : m.length ≤ 5864062014805) :
    Calls Tryd.prog 38 #[.agg #[.int .i64 s, .int .i64 r, cv, av, rv, wv], mv] w fun e w' => ∃ b mr mw x, e = .returned (.pointer (some ⟨b, 0, none⟩)) ∧ RunIs w b (envB s r cv av rv wv x (plN (dec code).1 (dec code).1.length) mr mw) ⟨(dec code).1, ar, rs, ws, srtP (nedP rs m)⟩ mc0 nilV w' := by
  obtain ⟨w1, hw1⟩ : ∃ y, w.alloc (.cells #[.int .i64 s, .int .i64 r, cv, av, rv, wv] 35) = y := ⟨_, rfl⟩
  have hx : w1.heap[w.heap.size]? = some (.cells #[.int .i64 s, .int .i64 r, cv, av, rv, wv] 35) := hw1 ▸ heap_alloc_new w _
  have hb1 : Below w.heap.size w w1 := hw1 ▸ below_box _
  have hz1 : w1.heap.size = w.heap.size + 1 := by rw [← hw1]; simp
  have HC : Hid (∀ z, Below w1.heap.size w1 z → (z.cell? ⟨w.heap.size, 0, none⟩ = some (.int .i64 s) ∧ z.cell? ⟨w.heap.size, 1, none⟩ = some (.int .i64 r) ∧ z.cell? ⟨w.heap.size, 2, none⟩ = some cv ∧ z.cell? ⟨w.heap.size, 3, none⟩ = some av ∧ z.cell? ⟨w.heap.size, 4, none⟩ = some rv ∧ z.cell? ⟨w.heap.size, 5, none⟩ = some wv)) := fun z hz => by
    have hxz : z.heap[w.heap.size]? = some (.cells #[.int .i64 s, .int .i64 r, cv, av, rv, wv] 35) := (hz.block _ (by omega)).trans hx
    exact ⟨cell_at hxz, cell_at hxz, cell_at hxz, cell_at hxz, cell_at hxz, cell_at hxz⟩
  obtain ⟨vals, hvals⟩ : ∃ v, srtP (nedP rs m) = v := ⟨_, rfl⟩
  rw [hvals]
  have hdb : (dec code).1.length ≤ 512 ∧ ∀ x ∈ (dec code).1, 0 ≤ x.ad ∧ x.ad < 512 := by
    by_cases hd : (dec code).2 = 0
    · obtain ⟨h512, hw, _⟩ := dec_ok hd
      obtain ⟨_, har⟩ := wk_ads (l := code) code.length 0 (by omega)
      rw [hw] at har
      exact ⟨(dec_okI hby hd).2, fun x hx => by have := har x hx; omega⟩
    · have : (dec code).1 = [] := by
        unfold dec at hd ⊢
        (repeat' split) <;> first | rfl | (exfalso; simp_all)
      rw [this]
      exact ⟨by simp, fun x hx => by cases hx⟩
  have HDC : Hid (∀ z, Below w.heap.size w z → Calls Tryd.prog 43 #[cv] z fun e w' => DeR z (dec code) e w') := fun z hz => (decode_any (hT.below hz hT.pos) (h0.below yC_len hz) hby).mono fun e w' ⟨x, q1, q2, q3⟩ => ⟨x, q1, q2, q3⟩
  obtain ⟨L, hL⟩ : ∃ L, (dec code).1 = L := ⟨_, rfl⟩
  obtain ⟨er, her⟩ : ∃ er, (dec code).2 = er := ⟨_, rfl⟩
  unfold DeR at HDC
  rw [hL, her] at HDC
  rw [hL] at hdb ⊢
  have HDB := hide hdb
  clear hdb hL her hT h0 hby
  have hvo : ∀ p ∈ vals, OkK p.1 := hvals ▸ srtP_ok fun p hp => hok2 p (List.mem_filter.1 hp).1
  have hvn : ddP vals = vals := ddP_rises _ (rises_nodup (hvals ▸ (srtP_spec _).1))
  have HN : Hid (∀ z, Below w1.heap.size w1 z → Calls Tryd.prog 19 #[.agg #[.int .i64 s, .int .i64 r, cv, av, rv, wv], mv] z fun e w' => ∃ x, e = .returned x ∧ Below z.heap.size z w' ∧ ∀ y, Below w'.heap.size w' y → SeesL pC 3 y x vals) := fun z hz => by
    have hwz : Below w.heap.size w z := hb1.trans (hz.mono hb1.size)
    refine (needs_any (h1.below kC_len hwz) hok1 (h2.below pC_len hwz) hok2 hll).mono fun e w' ⟨x, q1, q2, q3⟩ => ⟨x, q1, q3, fun y hy => ?_⟩
    rw [hvals] at q2
    exact (own_sees pC_len (by decide) q2).2.below pC_len hy
  have HB : Hid (∀ x z, SeesL pC 3 z x vals → Calls Tryd.prog 33 #[x] z fun e w' => ∃ mb, e = .returned (.map (some mb)) ∧ z.heap.size ≤ mb ∧ MapAt w' mb (vals.map prE) ∧ Below z.heap.size z w') := fun x z hz => by
    have := byKey_any hz hvo
    rw [hvn] at this
    exact this
  have HW1 := hide hw1
  have HB1 := hide hb1
  have HZ1 := hide hz1
  clear h1 hok1 h2 hok2 hll hx hb1 hw1 hz1 hvals hvo hvn
  go_enter Tryd.func38, Tryd.ntmps38
  go_wp2_with (rw [unhide HW1])
  go_cut [5] (fun p wc => Bg w s r cv av rv wv ar rs ws vals p wc)
  case first =>
    refine wp_region_held_drew (S := fun x => Below w1.heap.size w1 x) (by kernel_rfl) (Below.refl _ _).drew (fun hHeld => ?_)
    refine wpAnyH_take (i := 0) (v := (.agg #[.int .i64 s, .int .i64 r, cv, av, rv, wv])) rfl (by kernel_rfl) (by kernel_rfl) (by kernel_rfl) (fun _ _ _ h => h) (Or.inl ⟨by rfl, ?hy1x0⟩) (by assumption) ?rest1x0
    case hy1x0 => intro w hSw; obtain ⟨s0, s1, s2, s3, s4, s5⟩ := unhide HC _ hSw; go_simp <;> with_reducible rfl
    simp only [Act.put, List.getElem_toArray, List.getElem_cons_zero, List.setIfInBounds_toArray, List.set_cons_zero, List.set_cons_succ]
    refine wpAnyH_take (i := 1) (v := (.agg #[.int .i64 s, .int .i64 r, cv, av, rv, wv])) rfl (by kernel_rfl) (by kernel_rfl) (by kernel_rfl) (fun _ _ _ h => h) (Or.inl ⟨by rfl, ?hy2x1⟩) (by assumption) ?rest2x1
    case hy2x1 => intro w hSw; obtain ⟨s0, s1, s2, s3, s4, s5⟩ := unhide HC _ hSw; go_simp <;> with_reducible rfl
    simp only [Act.put, List.getElem_toArray, List.getElem_cons_zero, List.getElem_cons_succ, List.setIfInBounds_toArray, List.set_cons_zero, List.set_cons_succ]
    refine wpAnyH_take (i := 2) (v := ?v3x2) rfl (by kernel_rfl) (by kernel_rfl) (by kernel_rfl) (fun _ _ _ h => h) (Or.inl ⟨by rfl, ?hy3x2⟩) (by assumption) ?rest3x2
    case hy3x2 => intro w hSw; go_simp <;> with_reducible rfl
    simp only [Act.put, List.getElem_toArray, List.getElem_cons_zero, List.getElem_cons_succ, List.setIfInBounds_toArray, List.set_cons_zero, List.set_cons_succ]
    refine wpAnyH_ready (rs := [3, 5]) (by kernel_rfl) (by simp) ?_
    refine AllReadyH.cons rfl (fun K hK => ?_) (AllReadyH.cons rfl (fun K hK => ?_) AllReadyH.nil)
    · go_simp
      refine (unhide HN _ hHeld).mono ?_
      rintro e z1 ⟨x, rfl, g1, g2⟩
      refine hK _ _ (hHeld.trans (g1.mono hHeld.size)) ?_
      have HL1 := hide (hHeld.trans (g1.mono hHeld.size))
      clear hK hHeld
      intro hHeld
      refine wpAnyH_ready (rs := [4, 5]) (by kernel_rfl) (by simp) ?_
      refine AllReadyH.cons rfl (fun K hK => ?_) (AllReadyH.cons rfl (fun K hK => ?_) AllReadyH.nil)
      · go_simp
        refine (unhide HB x _ (g2 _ (Below.refl _ _))).mono ?_
        rintro e z2 ⟨mb, rfl, k1, k2, k3⟩
        refine hK _ _ (hHeld.trans (k3.mono hHeld.size)) ?_
        clear hK hHeld
        intro hHeld
        refine wpAnyH_ready (rs := [5]) (by kernel_rfl) (by simp) ?_
        refine AllReadyH.cons rfl (fun K hK => ?_) AllReadyH.nil
        go_simp
        refine hK _ _ (hHeld.alloc hHeld.size _) ?_
        clear hK hHeld
        intro hHeld
        refine wpAnyH_take (i := 6) (v := ?v4x6) rfl (by kernel_rfl) (by kernel_rfl) (by kernel_rfl) (fun _ _ _ h => h) (Or.inl ⟨by rfl, ?hy4x6⟩) (by assumption) ?rest4x6
        case hy4x6 => intro w hSw; go_simp <;> with_reducible rfl
        simp only [Act.put, List.getElem_toArray, List.getElem_cons_zero, List.getElem_cons_succ, List.setIfInBounds_toArray, List.set_cons_zero, List.set_cons_succ]
        refine wpAnyH_ready (rs := [7]) (by kernel_rfl) (by simp) ?_
        refine AllReadyH.cons rfl (fun K hK => ?_) AllReadyH.nil
        go_simp
        have HZ := hide hHeld
        refine hK _ _ (hHeld.alloc hHeld.size _) ?_
        clear hK hHeld
        intro hHeld
        refine wpAnyH_take (i := 8) (v := ?v5x8) rfl (by kernel_rfl) (by kernel_rfl) (by kernel_rfl) (fun _ _ _ h => h) (Or.inl ⟨by rfl, ?hy5x8⟩) (by assumption) ?rest5x8
        case hy5x8 => intro w hSw; go_simp <;> with_reducible rfl
        simp only [Act.put, List.getElem_toArray, List.getElem_cons_zero, List.getElem_cons_succ, List.setIfInBounds_toArray, List.set_cons_zero, List.set_cons_succ]
        refine wpAnyH_done (by kernel_rfl) ?_ _
        go_wp2_with fail
        go_meet
        case rel =>
          have hz : Below w1.heap.size w1 (z2.alloc (.map #[] 0)) := unhide HZ
          have hl1 := (unhide HL1).size
          have hk3 := k3.size
          have hsz : (z2.alloc (.map #[] 0)).heap.size = z2.heap.size + 1 := by simp
          have hzw := (unhide HB1).trans (hz.mono (unhide HB1).size)
          have hq := unhide HZ1
          have hzz := hz.size
          have hmw : MapAt (z2.alloc (.map #[] 0)) z2.heap.size [] := ⟨#[], 0, heap_alloc_new z2 _, rfl, stp_nil⟩
          have hne : z2.heap.size ≠ mb := fun e => absurd k2.lt (by omega)
          rw [cells82]
          have hres := bg_of (s := s) (r := r) (cv := cv) (av := av) (rv := rv) (wv := wv) (ar := ar) (rs := rs) (ws := ws) (vals := vals) hzw (by omega) (unhide HC _ hz).2.2.1 (k2.below (below_box _)) hmw (mw := z2.heap.size) (by omega) hne
          rw [hsz] at hres
          exact hres
      · go_simp
        refine hK _ _ (hHeld.alloc hHeld.size _) ?_
        clear hK hHeld
        intro hHeld
        refine wpAnyH_ready (rs := [4]) (by kernel_rfl) (by simp) ?_
        refine AllReadyH.cons rfl (fun K hK => ?_) AllReadyH.nil
        go_simp
        refine (unhide HB x _ (g2 _ (below_box _))).mono ?_
        rintro e z2 ⟨mb, rfl, k1, k2, k3⟩
        refine hK _ _ (hHeld.trans (k3.mono hHeld.size)) ?_
        clear hK hHeld
        intro hHeld
        refine wpAnyH_take (i := 6) (v := ?v6x6) rfl (by kernel_rfl) (by kernel_rfl) (by kernel_rfl) (fun _ _ _ h => h) (Or.inl ⟨by rfl, ?hy6x6⟩) (by assumption) ?rest6x6
        case hy6x6 => intro w hSw; go_simp <;> with_reducible rfl
        simp only [Act.put, List.getElem_toArray, List.getElem_cons_zero, List.getElem_cons_succ, List.setIfInBounds_toArray, List.set_cons_zero, List.set_cons_succ]
        refine wpAnyH_ready (rs := [7]) (by kernel_rfl) (by simp) ?_
        refine AllReadyH.cons rfl (fun K hK => ?_) AllReadyH.nil
        go_simp
        have HZ := hide hHeld
        refine hK _ _ (hHeld.alloc hHeld.size _) ?_
        clear hK hHeld
        intro hHeld
        refine wpAnyH_take (i := 8) (v := ?v7x8) rfl (by kernel_rfl) (by kernel_rfl) (by kernel_rfl) (fun _ _ _ h => h) (Or.inl ⟨by rfl, ?hy7x8⟩) (by assumption) ?rest7x8
        case hy7x8 => intro w hSw; go_simp <;> with_reducible rfl
        simp only [Act.put, List.getElem_toArray, List.getElem_cons_zero, List.getElem_cons_succ, List.setIfInBounds_toArray, List.set_cons_zero, List.set_cons_succ]
        refine wpAnyH_done (by kernel_rfl) ?_ _
        go_wp2_with fail
        go_meet
        case rel =>
          have hz := unhide HZ
          have hl1 := (unhide HL1).size
          have hzw := (unhide HB1).trans (hz.mono (unhide HB1).size)
          have hq := unhide HZ1
          have hzz := hz.size
          have hmw : MapAt z2 z1.heap.size [] := (show MapAt (z1.alloc (.map #[] 0)) z1.heap.size [] from ⟨#[], 0, heap_alloc_new z1 _, rfl, stp_nil⟩).below k3
          have hne : z1.heap.size ≠ mb := fun e => by have h1 := k1; simp at h1; omega
          rw [cells82]
          have hres := bg_of (s := s) (r := r) (cv := cv) (av := av) (rv := rv) (wv := wv) (ar := ar) (rs := rs) (ws := ws) (vals := vals) hzw (by omega) (unhide HC _ hz).2.2.1 (k2) hmw (mw := z1.heap.size) (by omega) hne
          exact hres
    · go_simp
      refine hK _ _ (hHeld.alloc hHeld.size _) ?_
      clear hK hHeld
      intro hHeld
      refine wpAnyH_ready (rs := [3]) (by kernel_rfl) (by simp) ?_
      refine AllReadyH.cons rfl (fun K hK => ?_) AllReadyH.nil
      go_simp
      refine (unhide HN _ hHeld).mono ?_
      rintro e z1 ⟨x, rfl, g1, g2⟩
      refine hK _ _ (hHeld.trans (g1.mono hHeld.size)) ?_
      clear hK hHeld
      intro hHeld
      refine wpAnyH_ready (rs := [4]) (by kernel_rfl) (by simp) ?_
      refine AllReadyH.cons rfl (fun K hK => ?_) AllReadyH.nil
      go_simp
      refine (unhide HB x _ (g2 _ (Below.refl _ _))).mono ?_
      rintro e z2 ⟨mb, rfl, k1, k2, k3⟩
      refine hK _ _ (hHeld.trans (k3.mono hHeld.size)) ?_
      clear hK hHeld
      intro hHeld
      refine wpAnyH_take (i := 6) (v := ?v8x6) rfl (by kernel_rfl) (by kernel_rfl) (by kernel_rfl) (fun _ _ _ h => h) (Or.inl ⟨by rfl, ?hy8x6⟩) (by assumption) ?rest8x6
      case hy8x6 => intro w hSw; go_simp <;> with_reducible rfl
      simp only [Act.put, List.getElem_toArray, List.getElem_cons_zero, List.getElem_cons_succ, List.setIfInBounds_toArray, List.set_cons_zero, List.set_cons_succ]
      refine wpAnyH_ready (rs := [7]) (by kernel_rfl) (by simp) ?_
      refine AllReadyH.cons rfl (fun K hK => ?_) AllReadyH.nil
      go_simp
      have HZ := hide hHeld
      refine hK _ _ (hHeld.alloc hHeld.size _) ?_
      clear hK hHeld
      intro hHeld
      refine wpAnyH_take (i := 8) (v := ?v9x8) rfl (by kernel_rfl) (by kernel_rfl) (by kernel_rfl) (fun _ _ _ h => h) (Or.inl ⟨by rfl, ?hy9x8⟩) (by assumption) ?rest9x8
      case hy9x8 => intro w hSw; go_simp <;> with_reducible rfl
      simp only [Act.put, List.getElem_toArray, List.getElem_cons_zero, List.getElem_cons_succ, List.setIfInBounds_toArray, List.set_cons_zero, List.set_cons_succ]
      refine wpAnyH_done (by kernel_rfl) ?_ _
      go_wp2_with fail
      go_meet
      case rel =>
        have hz := unhide HZ
        have hzw := (unhide HB1).trans (hz.mono (unhide HB1).size)
        have hq := unhide HZ1
        have hzz := hz.size
        have hmw : MapAt z2 w1.heap.size [] := ((show MapAt (w1.drew.alloc (.map #[] 0)) w1.heap.size [] from ⟨#[], 0, heap_alloc_new w1.drew _, rfl, stp_nil⟩).below g1).below k3
        have hne : w1.heap.size ≠ mb := fun e => by have h1 := k1; have h2 := g1.size; simp at h2; omega
        rw [cells82]
        have hres := bg_of (s := s) (r := r) (cv := cv) (av := av) (rv := rv) (wv := wv) (ar := ar) (rs := rs) (ws := ws) (vals := vals) hzw (by omega) (unhide HC _ hz).2.2.1 (k2) hmw (mw := w1.heap.size) (by omega) hne
        exact hres
  case rest =>
    obtain ⟨mr, mw, b, rfl, hr, hc2, hlb⟩ := hcut
    have HRG := hide (fun (z : World) (hz : Below wc.heap.size wc z) => hr.grew hz)
    have HCD := hide (unhide HDC wc hr.bel)
    have HBW := hide hr.bel
    clear hr HC HN HB
    obtain ⟨n, hn⟩ : ∃ n, L.length = n := ⟨_, rfl⟩
    have HN := hide hn
    rw [hn] at HCD
    clear hn
    go_wp2_with (go_at_call 43; refine (unhide HCD).mono ?_; rintro e z1 ⟨x, rfl, g1, g2⟩; have hr1 := unhide HRG z1 g1; have cz6 : z1.cell? ⟨b, 6, none⟩ = some (.slice none 0 0) := (hr1.cell _).trans (rC_hd (by omega)); have fz6 : z1.frozen? ⟨b, 6, none⟩ = false := frozen_of_heap hr1.blk; obtain ⟨ax, cx, rfl⟩ := own_shape g2; have HS1 := hide (hr1.storeE (E' := envB s r cv av rv wv (.slice ax n cx) pl0 mr mw) (P' := ⟨L, ar, rs, ws, vals⟩) (rC_setLv _) rfl rfl rfl (by show z1.ownsRow _ _ _ _ L.length _; rw [unhide HN]; exact own_mono g2 (unhide HBW).size)); clear hr1 g1 g2)
    generalize hwl : z1.setCell ⟨b, 6, none⟩ (.slice ax n cx) = wl
    rw [hwl] at HS1
    have hs1 := unhide HS1
    have c6 : wl.cell? ⟨b, 6, none⟩ = some (.slice ax n cx) := (hs1.cell _).trans (rC_hd (by omega))
    clear hs1 hwl cz6 fz6
    go_wp2
    go_loopw [30] (fun c wr => ∃ i : Nat, i ≤ n ∧ c = .int .i64 i ∧ RunIs w b (envB s r cv av rv wv (.slice ax n cx) (plN L i) mr mw) ⟨L, ar, rs, ws, vals⟩ mc0 nilV wr) (fun c _ => n - (intOf c).toNat)
    case atStart => exact ⟨0, by omega, rfl, unhide HS1⟩
    case round =>
      obtain ⟨i, hi, rfl, hri⟩ := hrel
      have HRI := hide hri
      by_cases hlt : i < n
      · have hnl := unhide HN
        obtain ⟨g, cp, hlv, _, hins⟩ := hri.ins
        have hil : i < L.length := by omega
        obtain ⟨x, hxs⟩ : ∃ x, L[i]? = some x := ⟨_, List.getElem?_eq_getElem hil⟩
        have hxm := (unhide HDB).2 x (List.mem_of_getElem? hxs)
        have hlv' : (.slice ax n cx : Value) = .slice (some ⟨g, 0, none⟩) L.length cp := hlv (by simp only; omega)
        simp only [Value.slice.injEq] at hlv'
        obtain ⟨rfl, hnn, rfl⟩ := hlv'
        clear hnn
        obtain ⟨z0, z1', z2, z3, z4⟩ := hins i x hxs
        obtain ⟨xd, xo, xa, xb, xm⟩ := x
        simp only at z0 z1' z2 z3 z4 hxm
        obtain ⟨p, rfl⟩ := Int.eq_ofNat_of_zero_le hxm.1
        have hp5 : p < 512 := by omega
        have hp0 : (p : Int) < 512 := by omega
        have hc1 : (i : Int) < (n : Int) := by omega
        have hn5 : n ≤ 512 := by have := (unhide HDB).1; omega
        obtain ⟨y1, hy1⟩ : ∃ y, wr.alloc (.cells #[.int .i64 (p : Int), .int .i64 xo, .int .i64 xa, .int .i64 xb, .int .i64 xm] 89) = y := ⟨_, rfl⟩
        have hb1 : Below wr.heap.size wr y1 := hy1 ▸ below_box _
        have h1 := hri.grew hb1
        have x0 : y1.cell? ⟨wr.heap.size, 0, none⟩ = some (.int .i64 (p : Int)) := by rw [← hy1]; exact cell_at (heap_alloc_new wr _)
        have cpl : y1.cell? ⟨b, 7 + p, none⟩ = some (.int .i64 ((plN L i).getD p 0)) := (h1.cell _).trans (rC_pl (plN_len L i) hp5)
        have fpl : y1.frozen? ⟨b, 7 + p, none⟩ = false := frozen_of_heap h1.blk
        have hnx : (plN L i).set p (i : Int) = plN L (i + 1) := by
          rw [plN]
          have e : L.getD i zeroI = ⟨(p : Int), xo, xa, xb, xm⟩ := by rw [List.getD_eq_getElem?_getD, hxs]; rfl
          rw [e]
          rfl
        have h2 := h1.storeE (i := 7 + p) (v := iv (i : Int)) (E' := envB s r cv av rv wv (.slice (some ⟨g, 0, none⟩) n cx) (plN L (i + 1)) mr mw) (P' := ⟨L, ar, rs, ws, vals⟩) (by
          rw [rC_setPl (E := envB s r cv av rv wv (.slice (some ⟨g, 0, none⟩) n cx) (plN L i) mr mw) (plN_len L i) hp5]
          show rC (envB s r cv av rv wv _ ((plN L i).set p (i : Int)) mr mw) _ _ = _
          rw [hnx]
          rfl) rfl rfl rfl h1.lst
        have H2 := hide h2
        have HY := hide hy1
        clear hri hins hlv hxs hil hxm hnl h1 h2 hb1 hnx hy1
        go_wp2_with (rw [unhide HY])
        go_region
        all_goals
          go_wp2
          go_roundw
          case rel => exact ⟨i + 1, by omega, by go_num, (unhide H2).drew⟩
          case measure => simp [intOf]; omega
      · obtain rfl : i = n := by omega
        have hnl := unhide HN
        clear hri
        go_wp2
        go_ret
        exact ⟨b, mr, mw, _, rfl, by rw [hnl]; exact unhide HRI⟩
end Go.Proofs.YtldapckooohigaaDoor
