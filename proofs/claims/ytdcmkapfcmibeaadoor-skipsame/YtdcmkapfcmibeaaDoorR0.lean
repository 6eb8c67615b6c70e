/- The document's store in memory: New; SameCells. -/
import Derived.Test.YtdcmkapfcmibeaaDoorMR
import Derived.Deep.RegionHeld3
namespace Go.Proofs.YtdcmkapfcmibeaaDoor
open Go.RowKit Go.Shelf
attribute [local go_sem] Oper.semAt_some
set_option maxRecDepth 100000

/-- A height's cell. -/
def iC (h : Int) : List Value := [.int .i64 h]
/-- The document's store: its cells, their heights, the number of the next height. -/
structure Rf (w : World) (base xb : Nat) (l : List Pr) (hs : List Int) (X : Int) : Prop where
  at_ : ∃ vl vh, w.heap[xb]? = some (.cells #[vl, vh, .int .u64 X] 69) ∧ w.ownsRow base 32 4 vl l.length (l.flatMap pC) ∧ w.ownsRow base 3 1 vh hs.length (hs.flatMap iC)
theorem Rf.lt {w : World} {base xb : Nat} {l : List Pr} {hs : List Int} {X : Int} (h : Rf w base xb l hs X) : xb < w.heap.size := by
  obtain ⟨vl, vh, hx, _⟩ := h.at_
  exact (Array.getElem?_eq_some_iff.1 hx).1
theorem Rf.below {w w' : World} {base xb : Nat} {l : List Pr} {hs : List Int} {X : Int} (h : Rf w base xb l hs X) (hb : Below w.heap.size w w') : Rf w' base xb l hs X := by
  have hlt := h.lt
  obtain ⟨⟨vl, vh, hx, h1, h2⟩⟩ := h
  exact ⟨⟨vl, vh, (hb.block xb hlt).trans hx, own_below h1 hb, own_below h2 hb⟩⟩
theorem rnew_any (w : World) (seed : Int) : Calls Tryd.prog 10 #[.int .u64 seed] w fun e w' => e = .returned (PN w.heap.size) ∧ Rf w' w.heap.size w.heap.size [] [] seed ∧ Below w.heap.size w w' := by
  have HR : Hid (Rf (w.alloc (.cells #[.slice none 0 0, .slice none 0 0, .int .u64 seed] 69)) w.heap.size w.heap.size [] [] seed ∧ Below w.heap.size w (w.alloc (.cells #[.slice none 0 0, .slice none 0 0, .int .u64 seed] 69))) :=
    ⟨⟨⟨_, _, heap_new1 _ _, own_nil _ _ _ _, own_nil _ _ _ _⟩⟩, (Below.refl _ _).alloc (Nat.le_refl _) _⟩
  go_enter Tryd.func10, Tryd.ntmps10
  go_wp2
  go_ret
  exact ⟨rfl, unhide HR⟩
set_option maxHeartbeats 3200000 in
theorem samecells_any {av bv : Value} {l m : List Pr} {w : World} (ha : SeesL pC 4 w av l) (hb : SeesL pC 4 w bv m) :
    Calls Tryd.prog 29 #[av, bv] w fun e w' => e = .returned (.bool (decide (l = m))) ∧ Grew w w' := by
  have HA : Hid (∀ w', Grew w w' → SeesL pC 4 w' av l) := fun w' hg => ha.below pC_len hg.below
  have HB : Hid (∀ w', Grew w w' → SeesL pC 4 w' bv m) := fun w' hg => hb.below pC_len hg.below
  obtain ⟨ao, ca, _, _, hv, hca, hmax, _⟩ := SeesL.pair ha
  obtain ⟨bo, cb, _, _, hv2, hcb, _⟩ := SeesL.pair hb
  have HV := hide hv
  have HV2 := hide hv2
  obtain ⟨n, hn⟩ : ∃ n, l.length = n := ⟨_, rfl⟩
  obtain ⟨n2, hn2⟩ : ∃ n, m.length = n := ⟨_, rfl⟩
  obtain ⟨r, hr⟩ : ∃ r, decide (l = m) = r := ⟨_, rfl⟩
  rw [hv, hv2, hn, hn2, hr]
  have HN := hide hn
  have HN2 := hide hn2
  have HRr := hide hr
  rw [hn] at hca hmax
  rw [hn2] at hcb
  clear ha hb hv hv2 hn hn2 hr
  by_cases hl : n = n2
  · subst hl
    go_enter Tryd.func29, Tryd.ntmps29
    go_wp2
    go_loopw [5] (fun c wr => ∃ t : Nat, t ≤ n ∧ c = .int .i64 t ∧ (∀ u, u < t → l.getD u default = m.getD u default) ∧ Grew w wr) (fun c _ => n - (intOf c).toNat)
    case atStart => exact ⟨0, by omega, rfl, fun u hu => absurd hu (by omega), grew_refl _⟩
    case round =>
      obtain ⟨t, ht, rfl, hall, hgr⟩ := hrel
      have HL := hide hall
      have HR := hide hgr
      by_cases hlt : t < n
      · obtain ⟨ao', ca', gb, ob, hv', _, _, hao, hcl⟩ := SeesL.pair (unhide HA wr hgr)
        obtain ⟨bo', cb', gc, oc, hv2', _, _, hbo, hcm⟩ := SeesL.pair (unhide HB wr hgr)
        rw [unhide HV] at hv'
        rw [unhide HV2] at hv2'
        simp only [Value.slice.injEq, true_and] at hv' hv2'
        obtain ⟨rfl, rfl⟩ := hv'
        obtain ⟨rfl, rfl⟩ := hv2'
        have hnl := unhide HN
        have hnl2 := unhide HN2
        obtain rfl := hao (by omega)
        obtain rfl := hbo (by omega)
        obtain ⟨g0, g1, g2, g3⟩ := hcl t (by omega)
        obtain ⟨h0, h1, h2, h3⟩ := hcm t (by omega)
        obtain ⟨⟨⟨x0, x1⟩, x2, x3⟩, hx⟩ : ∃ k, l.getD t default = k := ⟨_, rfl⟩
        obtain ⟨⟨⟨y0, y1⟩, y2, y3⟩, hy⟩ : ∃ k, m.getD t default = k := ⟨_, rfl⟩
        rw [hx] at g0 g1 g2 g3
        rw [hy] at h0 h1 h2 h3
        have HX := hide hx
        have HY := hide hy
        have hE := neq_cell x0 x1 x2 x3 y0 y1 y2 y3
        clear hcl hcm hao hbo hx hy hgr hall hnl hnl2
        go_wp2_with fail
        refine wp_region_held_drew (S := fun x => x.cell? ⟨gb, ob + t * 4, none⟩ = some (.int .i32 x0) ∧ x.cell? ⟨gb, ob + t * 4 + 1, none⟩ = some (.int .i64 x1) ∧ x.cell? ⟨gb, ob + t * 4 + 2, none⟩ = some (.int .i64 x2) ∧ x.cell? ⟨gb, ob + t * 4 + 3, none⟩ = some (.int .i64 x3) ∧ x.cell? ⟨gc, oc + t * 4, none⟩ = some (.int .i32 y0) ∧ x.cell? ⟨gc, oc + t * 4 + 1, none⟩ = some (.int .i64 y1) ∧ x.cell? ⟨gc, oc + t * 4 + 2, none⟩ = some (.int .i64 y2) ∧ x.cell? ⟨gc, oc + t * 4 + 3, none⟩ = some (.int .i64 y3)) (by kernel_rfl) ⟨g0, g1, g2, g3, h0, h1, h2, h3⟩ (fun hHeld => ?_)
        by_cases he : (((x0, x1), x2, x3) : Pr) = (((y0, y1), y2, y3) : Pr)
        · have hd : decide ((((x0, x1), x2, x3) : Pr) = (((y0, y1), y2, y3) : Pr)) = true := decide_eq_true he
          refine wpAnyH_take (i := 0) (v := ?v1x0) rfl (by kernel_rfl) (by kernel_rfl) (by kernel_rfl) (fun _ _ _ h => h) (Or.inl ⟨by rfl, ?hy1x0⟩) (by assumption) ?rest1x0
          case hy1x0 => intro w hSw; obtain ⟨s0, s1, s2, s3, s4, s5, s6, s7⟩ := hSw; go_simp <;> with_reducible rfl
          simp only [Act.put, List.getElem_toArray, List.getElem_cons_zero, List.setIfInBounds_toArray, List.set_cons_zero, List.set_cons_succ]
          refine wpAnyH_take (i := 1) (v := ?v2x1) rfl (by kernel_rfl) (by kernel_rfl) (by kernel_rfl) (fun _ _ _ h => h) (Or.inl ⟨by rfl, ?hy2x1⟩) (by assumption) ?rest2x1
          case hy2x1 => intro w hSw; obtain ⟨s0, s1, s2, s3, s4, s5, s6, s7⟩ := hSw; go_simp <;> with_reducible rfl
          simp only [Act.put, List.getElem_toArray, List.getElem_cons_zero, List.getElem_cons_succ, List.setIfInBounds_toArray, List.set_cons_zero, List.set_cons_succ]
          refine wpAnyH_take (i := 2) (v := ?v3x2) rfl (by kernel_rfl) (by kernel_rfl) (by kernel_rfl) (fun _ _ _ h => h) (Or.inl ⟨by rfl, ?hy3x2⟩) (by assumption) ?rest3x2
          case hy3x2 => intro w hSw; obtain ⟨s0, s1, s2, s3, s4, s5, s6, s7⟩ := hSw; go_simp <;> with_reducible rfl
          simp only [Act.put, List.getElem_toArray, List.getElem_cons_zero, List.getElem_cons_succ, List.setIfInBounds_toArray, List.set_cons_zero, List.set_cons_succ]
          refine wpAnyH_take (i := 3) (v := (.agg #[.int .i32 x0, .int .i64 x1, .int .i64 x2, .int .i64 x3])) rfl (by kernel_rfl) (by kernel_rfl) (by kernel_rfl) (fun _ _ _ h => h) (Or.inl ⟨by rfl, ?hy4x3⟩) (by assumption) ?rest4x3
          case hy4x3 => intro w hSw; obtain ⟨s0, s1, s2, s3, s4, s5, s6, s7⟩ := hSw; go_simp <;> with_reducible rfl
          simp only [Act.put, List.getElem_toArray, List.getElem_cons_zero, List.getElem_cons_succ, List.setIfInBounds_toArray, List.set_cons_zero, List.set_cons_succ]
          refine wpAnyH_take (i := 4) (v := ?v5x4) rfl (by kernel_rfl) (by kernel_rfl) (by kernel_rfl) (fun _ _ _ h => h) (Or.inl ⟨by rfl, ?hy5x4⟩) (by assumption) ?rest5x4
          case hy5x4 => intro w hSw; obtain ⟨s0, s1, s2, s3, s4, s5, s6, s7⟩ := hSw; go_simp <;> with_reducible rfl
          simp only [Act.put, List.getElem_toArray, List.getElem_cons_zero, List.getElem_cons_succ, List.setIfInBounds_toArray, List.set_cons_zero, List.set_cons_succ]
          refine wpAnyH_take (i := 5) (v := ?v6x5) rfl (by kernel_rfl) (by kernel_rfl) (by kernel_rfl) (fun _ _ _ h => h) (Or.inl ⟨by rfl, ?hy6x5⟩) (by assumption) ?rest6x5
          case hy6x5 => intro w hSw; obtain ⟨s0, s1, s2, s3, s4, s5, s6, s7⟩ := hSw; go_simp <;> with_reducible rfl
          simp only [Act.put, List.getElem_toArray, List.getElem_cons_zero, List.getElem_cons_succ, List.setIfInBounds_toArray, List.set_cons_zero, List.set_cons_succ]
          refine wpAnyH_take (i := 6) (v := ?v7x6) rfl (by kernel_rfl) (by kernel_rfl) (by kernel_rfl) (fun _ _ _ h => h) (Or.inl ⟨by rfl, ?hy7x6⟩) (by assumption) ?rest7x6
          case hy7x6 => intro w hSw; obtain ⟨s0, s1, s2, s3, s4, s5, s6, s7⟩ := hSw; go_simp <;> with_reducible rfl
          simp only [Act.put, List.getElem_toArray, List.getElem_cons_zero, List.getElem_cons_succ, List.setIfInBounds_toArray, List.set_cons_zero, List.set_cons_succ]
          refine wpAnyH_take (i := 7) (v := (.agg #[.int .i32 y0, .int .i64 y1, .int .i64 y2, .int .i64 y3])) rfl (by kernel_rfl) (by kernel_rfl) (by kernel_rfl) (fun _ _ _ h => h) (Or.inl ⟨by rfl, ?hy8x7⟩) (by assumption) ?rest8x7
          case hy8x7 => intro w hSw; obtain ⟨s0, s1, s2, s3, s4, s5, s6, s7⟩ := hSw; go_simp <;> with_reducible rfl
          simp only [Act.put, List.getElem_toArray, List.getElem_cons_zero, List.getElem_cons_succ, List.setIfInBounds_toArray, List.set_cons_zero, List.set_cons_succ]
          refine wpAnyH_take (i := 8) (v := (.bool false)) rfl (by kernel_rfl) (by kernel_rfl) (by kernel_rfl) (fun _ _ _ h => h) (Or.inl ⟨by rfl, ?hy9x8⟩) (by assumption) ?rest9x8
          case hy9x8 => intro w hSw; obtain ⟨s0, s1, s2, s3, s4, s5, s6, s7⟩ := hSw; go_simp <;> with_reducible rfl
          simp only [Act.put, List.getElem_toArray, List.getElem_cons_zero, List.getElem_cons_succ, List.setIfInBounds_toArray, List.set_cons_zero, List.set_cons_succ]
          refine wpAnyH_done (by kernel_rfl) ?_ _
          go_wp2
          go_roundw
          case rel =>
            refine ⟨t + 1, by omega, by go_num, fun u hu => ?_, grew_drew (unhide HR)⟩
            by_cases hu' : u = t
            · subst hu'; rw [unhide HX, unhide HY]; exact he
            · exact unhide HL u (by omega)
          case measure => simp [intOf]; omega
        · have hd : decide ((((x0, x1), x2, x3) : Pr) = (((y0, y1), y2, y3) : Pr)) = false := decide_eq_false he
          refine wpAnyH_take (i := 0) (v := ?v10x0) rfl (by kernel_rfl) (by kernel_rfl) (by kernel_rfl) (fun _ _ _ h => h) (Or.inl ⟨by rfl, ?hy10x0⟩) (by assumption) ?rest10x0
          case hy10x0 => intro w hSw; obtain ⟨s0, s1, s2, s3, s4, s5, s6, s7⟩ := hSw; go_simp <;> with_reducible rfl
          simp only [Act.put, List.getElem_toArray, List.getElem_cons_zero, List.setIfInBounds_toArray, List.set_cons_zero, List.set_cons_succ]
          refine wpAnyH_take (i := 1) (v := ?v11x1) rfl (by kernel_rfl) (by kernel_rfl) (by kernel_rfl) (fun _ _ _ h => h) (Or.inl ⟨by rfl, ?hy11x1⟩) (by assumption) ?rest11x1
          case hy11x1 => intro w hSw; obtain ⟨s0, s1, s2, s3, s4, s5, s6, s7⟩ := hSw; go_simp <;> with_reducible rfl
          simp only [Act.put, List.getElem_toArray, List.getElem_cons_zero, List.getElem_cons_succ, List.setIfInBounds_toArray, List.set_cons_zero, List.set_cons_succ]
          refine wpAnyH_take (i := 2) (v := ?v12x2) rfl (by kernel_rfl) (by kernel_rfl) (by kernel_rfl) (fun _ _ _ h => h) (Or.inl ⟨by rfl, ?hy12x2⟩) (by assumption) ?rest12x2
          case hy12x2 => intro w hSw; obtain ⟨s0, s1, s2, s3, s4, s5, s6, s7⟩ := hSw; go_simp <;> with_reducible rfl
          simp only [Act.put, List.getElem_toArray, List.getElem_cons_zero, List.getElem_cons_succ, List.setIfInBounds_toArray, List.set_cons_zero, List.set_cons_succ]
          refine wpAnyH_take (i := 3) (v := (.agg #[.int .i32 x0, .int .i64 x1, .int .i64 x2, .int .i64 x3])) rfl (by kernel_rfl) (by kernel_rfl) (by kernel_rfl) (fun _ _ _ h => h) (Or.inl ⟨by rfl, ?hy13x3⟩) (by assumption) ?rest13x3
          case hy13x3 => intro w hSw; obtain ⟨s0, s1, s2, s3, s4, s5, s6, s7⟩ := hSw; go_simp <;> with_reducible rfl
          simp only [Act.put, List.getElem_toArray, List.getElem_cons_zero, List.getElem_cons_succ, List.setIfInBounds_toArray, List.set_cons_zero, List.set_cons_succ]
          refine wpAnyH_take (i := 4) (v := ?v14x4) rfl (by kernel_rfl) (by kernel_rfl) (by kernel_rfl) (fun _ _ _ h => h) (Or.inl ⟨by rfl, ?hy14x4⟩) (by assumption) ?rest14x4
          case hy14x4 => intro w hSw; obtain ⟨s0, s1, s2, s3, s4, s5, s6, s7⟩ := hSw; go_simp <;> with_reducible rfl
          simp only [Act.put, List.getElem_toArray, List.getElem_cons_zero, List.getElem_cons_succ, List.setIfInBounds_toArray, List.set_cons_zero, List.set_cons_succ]
          refine wpAnyH_take (i := 5) (v := ?v15x5) rfl (by kernel_rfl) (by kernel_rfl) (by kernel_rfl) (fun _ _ _ h => h) (Or.inl ⟨by rfl, ?hy15x5⟩) (by assumption) ?rest15x5
          case hy15x5 => intro w hSw; obtain ⟨s0, s1, s2, s3, s4, s5, s6, s7⟩ := hSw; go_simp <;> with_reducible rfl
          simp only [Act.put, List.getElem_toArray, List.getElem_cons_zero, List.getElem_cons_succ, List.setIfInBounds_toArray, List.set_cons_zero, List.set_cons_succ]
          refine wpAnyH_take (i := 6) (v := ?v16x6) rfl (by kernel_rfl) (by kernel_rfl) (by kernel_rfl) (fun _ _ _ h => h) (Or.inl ⟨by rfl, ?hy16x6⟩) (by assumption) ?rest16x6
          case hy16x6 => intro w hSw; obtain ⟨s0, s1, s2, s3, s4, s5, s6, s7⟩ := hSw; go_simp <;> with_reducible rfl
          simp only [Act.put, List.getElem_toArray, List.getElem_cons_zero, List.getElem_cons_succ, List.setIfInBounds_toArray, List.set_cons_zero, List.set_cons_succ]
          refine wpAnyH_take (i := 7) (v := (.agg #[.int .i32 y0, .int .i64 y1, .int .i64 y2, .int .i64 y3])) rfl (by kernel_rfl) (by kernel_rfl) (by kernel_rfl) (fun _ _ _ h => h) (Or.inl ⟨by rfl, ?hy17x7⟩) (by assumption) ?rest17x7
          case hy17x7 => intro w hSw; obtain ⟨s0, s1, s2, s3, s4, s5, s6, s7⟩ := hSw; go_simp <;> with_reducible rfl
          simp only [Act.put, List.getElem_toArray, List.getElem_cons_zero, List.getElem_cons_succ, List.setIfInBounds_toArray, List.set_cons_zero, List.set_cons_succ]
          refine wpAnyH_take (i := 8) (v := (.bool true)) rfl (by kernel_rfl) (by kernel_rfl) (by kernel_rfl) (fun _ _ _ h => h) (Or.inl ⟨by rfl, ?hy18x8⟩) (by assumption) ?rest18x8
          case hy18x8 => intro w hSw; obtain ⟨s0, s1, s2, s3, s4, s5, s6, s7⟩ := hSw; go_simp <;> with_reducible rfl
          simp only [Act.put, List.getElem_toArray, List.getElem_cons_zero, List.getElem_cons_succ, List.setIfInBounds_toArray, List.set_cons_zero, List.set_cons_succ]
          refine wpAnyH_done (by kernel_rfl) ?_ _
          go_wp2
          go_ret
          refine ⟨retBool ?_, grew_drew (unhide HR)⟩
          rw [← unhide HRr]
          symm
          refine decide_eq_false fun h => he ?_
          have h1 := unhide HX
          have h2 := unhide HY
          rw [h] at h1
          exact h1.symm.trans h2
      · obtain rfl : t = n := by omega
        go_wp2
        go_ret
        refine ⟨retBool ?_, unhide HR⟩
        rw [← unhide HRr]
        symm
        exact decide_eq_true (list_alike ((unhide HN).trans (unhide HN2).symm) fun t ht => unhide HL t (by rw [unhide HN] at ht; exact ht))
  · have hb : decide ((n : Int) = (n2 : Int)) = false := by simp; omega
    go_enter Tryd.func29, Tryd.ntmps29
    go_wp2
    go_ret
    refine ⟨retBool ?_, grew_refl _⟩
    rw [← unhide HRr]
    symm
    exact decide_eq_false fun h => hl (by rw [← unhide HN, ← unhide HN2, h])
end Go.Proofs.YtdcmkapfcmibeaaDoor
