/- SameKeys, SamePairs, Has. -/
import Derived.Test.YtibjhjkeflbghaaKA
namespace Go.Proofs.Ytibjhjkeflbghaa
open Go.RowKit
set_option maxRecDepth 100000

set_option maxHeartbeats 3200000 in
theorem samekeys_any {av bv : Value} {l m : List Ky} {w : World} (ha : SeesL kC 2 w av l) (hb : SeesL kC 2 w bv m) :
    Calls Try.prog 34 #[av, bv] w fun e w' => e = .returned (.bool (decide (l = m))) ∧ Grew w w' := by
  have HA : Hid (∀ w', Grew w w' → SeesL kC 2 w' av l) := fun w' hg => ha.below kC_len hg.below
  have HB : Hid (∀ w', Grew w w' → SeesL kC 2 w' bv m) := fun w' hg => hb.below kC_len hg.below
  obtain ⟨ao, ca, _, _, hv, hca, hmax, _⟩ := SeesL.key ha
  obtain ⟨bo, cb, _, _, hv2, hcb, _⟩ := SeesL.key hb
  have HV := hide hv
  have HV2 := hide hv2
  obtain ⟨n, hn⟩ : ∃ n, l.length = n := ⟨_, rfl⟩
  obtain ⟨n2, hn2⟩ : ∃ n, m.length = n := ⟨_, rfl⟩
  obtain ⟨r, hr⟩ : ∃ r, decide (l = m) = r := ⟨_, rfl⟩
  rw [hv, hv2, hn, hn2, hr]
  have HN := hide hn
  have HN2 := hide hn2
  have HRr := hide hr
  rw [hn] at hca hmax
  rw [hn2] at hcb
  clear ha hb hv hv2 hn hn2 hr
  by_cases hl : n = n2
  · subst hl
    go_enter Try.func34, Try.ntmps34
    go_wp2
    go_loopw [5] (fun c wr => ∃ t : Nat, t ≤ n ∧ c = .int .i64 t ∧ (∀ u, u < t → l.getD u default = m.getD u default) ∧ Grew w wr) (fun c _ => n - (intOf c).toNat)
    case atStart => exact ⟨0, by omega, rfl, fun u hu => absurd hu (by omega), grew_refl _⟩
    case round =>
      obtain ⟨t, ht, rfl, hall, hgr⟩ := hrel
      have HL := hide hall
      have HR := hide hgr
      by_cases hlt : t < n
      · obtain ⟨ao', ca', gb, ob, hv', _, _, hao, hcl⟩ := SeesL.key (unhide HA wr hgr)
        obtain ⟨bo', cb', gc, oc, hv2', _, _, hbo, hcm⟩ := SeesL.key (unhide HB wr hgr)
        rw [unhide HV] at hv'
        rw [unhide HV2] at hv2'
        simp only [Value.slice.injEq, true_and] at hv' hv2'
        obtain ⟨rfl, rfl⟩ := hv'
        obtain ⟨rfl, rfl⟩ := hv2'
        have hnl := unhide HN
        have hnl2 := unhide HN2
        obtain rfl := hao (by omega)
        obtain rfl := hbo (by omega)
        obtain ⟨g0, g1⟩ := hcl t (by omega)
        obtain ⟨h0, h1⟩ := hcm t (by omega)
        obtain ⟨⟨x0, x1⟩, hx⟩ : ∃ k, l.getD t default = k := ⟨_, rfl⟩
        obtain ⟨⟨y0, y1⟩, hy⟩ : ∃ k, m.getD t default = k := ⟨_, rfl⟩
        rw [hx] at g0 g1
        rw [hy] at h0 h1
        have HX := hide hx
        have HY := hide hy
        have hE := neq_key x0 x1 y0 y1
        clear hcl hcm hao hbo hx hy hgr hall hnl hnl2
        go_wp2_with fail
        refine wp_region_held_drew (S := fun x => x.cell? ⟨gb, ob + t * 2, none⟩ = some (.int .i32 x0) ∧ x.cell? ⟨gb, ob + t * 2 + 1, none⟩ = some (.int .i64 x1) ∧ x.cell? ⟨gc, oc + t * 2, none⟩ = some (.int .i32 y0) ∧ x.cell? ⟨gc, oc + t * 2 + 1, none⟩ = some (.int .i64 y1)) (by kernel_rfl) ⟨g0, g1, h0, h1⟩ (fun hHeld => ?_)
        by_cases he : (x0, x1) = (y0, y1)
        · have hd : decide ((x0, x1) = (y0, y1)) = true := decide_eq_true he
          refine wpAnyH_take (i := 0) (v := ?v1x0) rfl (by kernel_rfl) (by kernel_rfl) (by kernel_rfl) (fun _ _ _ h => h) (Or.inl ⟨by rfl, ?hy1x0⟩) (by assumption) ?rest1x0
          case hy1x0 => intro w hSw; obtain ⟨s0, s1, s2, s3⟩ := hSw; go_simp <;> with_reducible rfl
          simp only [Act.put, List.getElem_toArray, List.getElem_cons_zero, List.setIfInBounds_toArray, List.set_cons_zero, List.set_cons_succ]
          refine wpAnyH_take (i := 1) (v := ?v2x1) rfl (by kernel_rfl) (by kernel_rfl) (by kernel_rfl) (fun _ _ _ h => h) (Or.inl ⟨by rfl, ?hy2x1⟩) (by assumption) ?rest2x1
          case hy2x1 => intro w hSw; obtain ⟨s0, s1, s2, s3⟩ := hSw; go_simp <;> with_reducible rfl
          simp only [Act.put, List.getElem_toArray, List.getElem_cons_zero, List.getElem_cons_succ, List.setIfInBounds_toArray, List.set_cons_zero, List.set_cons_succ]
          refine wpAnyH_take (i := 2) (v := ?v3x2) rfl (by kernel_rfl) (by kernel_rfl) (by kernel_rfl) (fun _ _ _ h => h) (Or.inl ⟨by rfl, ?hy3x2⟩) (by assumption) ?rest3x2
          case hy3x2 => intro w hSw; obtain ⟨s0, s1, s2, s3⟩ := hSw; go_simp <;> with_reducible rfl
          simp only [Act.put, List.getElem_toArray, List.getElem_cons_zero, List.getElem_cons_succ, List.setIfInBounds_toArray, List.set_cons_zero, List.set_cons_succ]
          refine wpAnyH_take (i := 3) (v := (.agg #[.int .i32 x0, .int .i64 x1])) rfl (by kernel_rfl) (by kernel_rfl) (by kernel_rfl) (fun _ _ _ h => h) (Or.inl ⟨by rfl, ?hy4x3⟩) (by assumption) ?rest4x3
          case hy4x3 => intro w hSw; obtain ⟨s0, s1, s2, s3⟩ := hSw; go_simp <;> with_reducible rfl
          simp only [Act.put, List.getElem_toArray, List.getElem_cons_zero, List.getElem_cons_succ, List.setIfInBounds_toArray, List.set_cons_zero, List.set_cons_succ]
          refine wpAnyH_take (i := 4) (v := ?v5x4) rfl (by kernel_rfl) (by kernel_rfl) (by kernel_rfl) (fun _ _ _ h => h) (Or.inl ⟨by rfl, ?hy5x4⟩) (by assumption) ?rest5x4
          case hy5x4 => intro w hSw; obtain ⟨s0, s1, s2, s3⟩ := hSw; go_simp <;> with_reducible rfl
          simp only [Act.put, List.getElem_toArray, List.getElem_cons_zero, List.getElem_cons_succ, List.setIfInBounds_toArray, List.set_cons_zero, List.set_cons_succ]
          refine wpAnyH_take (i := 5) (v := ?v6x5) rfl (by kernel_rfl) (by kernel_rfl) (by kernel_rfl) (fun _ _ _ h => h) (Or.inl ⟨by rfl, ?hy6x5⟩) (by assumption) ?rest6x5
          case hy6x5 => intro w hSw; obtain ⟨s0, s1, s2, s3⟩ := hSw; go_simp <;> with_reducible rfl
          simp only [Act.put, List.getElem_toArray, List.getElem_cons_zero, List.getElem_cons_succ, List.setIfInBounds_toArray, List.set_cons_zero, List.set_cons_succ]
          refine wpAnyH_take (i := 6) (v := ?v7x6) rfl (by kernel_rfl) (by kernel_rfl) (by kernel_rfl) (fun _ _ _ h => h) (Or.inl ⟨by rfl, ?hy7x6⟩) (by assumption) ?rest7x6
          case hy7x6 => intro w hSw; obtain ⟨s0, s1, s2, s3⟩ := hSw; go_simp <;> with_reducible rfl
          simp only [Act.put, List.getElem_toArray, List.getElem_cons_zero, List.getElem_cons_succ, List.setIfInBounds_toArray, List.set_cons_zero, List.set_cons_succ]
          refine wpAnyH_take (i := 7) (v := (.agg #[.int .i32 y0, .int .i64 y1])) rfl (by kernel_rfl) (by kernel_rfl) (by kernel_rfl) (fun _ _ _ h => h) (Or.inl ⟨by rfl, ?hy8x7⟩) (by assumption) ?rest8x7
          case hy8x7 => intro w hSw; obtain ⟨s0, s1, s2, s3⟩ := hSw; go_simp <;> with_reducible rfl
          simp only [Act.put, List.getElem_toArray, List.getElem_cons_zero, List.getElem_cons_succ, List.setIfInBounds_toArray, List.set_cons_zero, List.set_cons_succ]
          refine wpAnyH_take (i := 8) (v := (.bool false)) rfl (by kernel_rfl) (by kernel_rfl) (by kernel_rfl) (fun _ _ _ h => h) (Or.inl ⟨by rfl, ?hy9x8⟩) (by assumption) ?rest9x8
          case hy9x8 => intro w hSw; obtain ⟨s0, s1, s2, s3⟩ := hSw; go_simp <;> with_reducible rfl
          simp only [Act.put, List.getElem_toArray, List.getElem_cons_zero, List.getElem_cons_succ, List.setIfInBounds_toArray, List.set_cons_zero, List.set_cons_succ]
          refine wpAnyH_done (by kernel_rfl) ?_ _
          go_wp2
          go_roundw
          case rel =>
            refine ⟨t + 1, by omega, by go_num, fun u hu => ?_, grew_drew (unhide HR)⟩
            by_cases hu' : u = t
            · subst hu'; rw [unhide HX, unhide HY]; exact he
            · exact unhide HL u (by omega)
          case measure => simp [intOf]; omega
        · have hd : decide ((x0, x1) = (y0, y1)) = false := decide_eq_false he
          refine wpAnyH_take (i := 0) (v := ?v10x0) rfl (by kernel_rfl) (by kernel_rfl) (by kernel_rfl) (fun _ _ _ h => h) (Or.inl ⟨by rfl, ?hy10x0⟩) (by assumption) ?rest10x0
          case hy10x0 => intro w hSw; obtain ⟨s0, s1, s2, s3⟩ := hSw; go_simp <;> with_reducible rfl
          simp only [Act.put, List.getElem_toArray, List.getElem_cons_zero, List.setIfInBounds_toArray, List.set_cons_zero, List.set_cons_succ]
          refine wpAnyH_take (i := 1) (v := ?v11x1) rfl (by kernel_rfl) (by kernel_rfl) (by kernel_rfl) (fun _ _ _ h => h) (Or.inl ⟨by rfl, ?hy11x1⟩) (by assumption) ?rest11x1
          case hy11x1 => intro w hSw; obtain ⟨s0, s1, s2, s3⟩ := hSw; go_simp <;> with_reducible rfl
          simp only [Act.put, List.getElem_toArray, List.getElem_cons_zero, List.getElem_cons_succ, List.setIfInBounds_toArray, List.set_cons_zero, List.set_cons_succ]
          refine wpAnyH_take (i := 2) (v := ?v12x2) rfl (by kernel_rfl) (by kernel_rfl) (by kernel_rfl) (fun _ _ _ h => h) (Or.inl ⟨by rfl, ?hy12x2⟩) (by assumption) ?rest12x2
          case hy12x2 => intro w hSw; obtain ⟨s0, s1, s2, s3⟩ := hSw; go_simp <;> with_reducible rfl
          simp only [Act.put, List.getElem_toArray, List.getElem_cons_zero, List.getElem_cons_succ, List.setIfInBounds_toArray, List.set_cons_zero, List.set_cons_succ]
          refine wpAnyH_take (i := 3) (v := (.agg #[.int .i32 x0, .int .i64 x1])) rfl (by kernel_rfl) (by kernel_rfl) (by kernel_rfl) (fun _ _ _ h => h) (Or.inl ⟨by rfl, ?hy13x3⟩) (by assumption) ?rest13x3
          case hy13x3 => intro w hSw; obtain ⟨s0, s1, s2, s3⟩ := hSw; go_simp <;> with_reducible rfl
          simp only [Act.put, List.getElem_toArray, List.getElem_cons_zero, List.getElem_cons_succ, List.setIfInBounds_toArray, List.set_cons_zero, List.set_cons_succ]
          refine wpAnyH_take (i := 4) (v := ?v14x4) rfl (by kernel_rfl) (by kernel_rfl) (by kernel_rfl) (fun _ _ _ h => h) (Or.inl ⟨by rfl, ?hy14x4⟩) (by assumption) ?rest14x4
          case hy14x4 => intro w hSw; obtain ⟨s0, s1, s2, s3⟩ := hSw; go_simp <;> with_reducible rfl
          simp only [Act.put, List.getElem_toArray, List.getElem_cons_zero, List.getElem_cons_succ, List.setIfInBounds_toArray, List.set_cons_zero, List.set_cons_succ]
          refine wpAnyH_take (i := 5) (v := ?v15x5) rfl (by kernel_rfl) (by kernel_rfl) (by kernel_rfl) (fun _ _ _ h => h) (Or.inl ⟨by rfl, ?hy15x5⟩) (by assumption) ?rest15x5
          case hy15x5 => intro w hSw; obtain ⟨s0, s1, s2, s3⟩ := hSw; go_simp <;> with_reducible rfl
          simp only [Act.put, List.getElem_toArray, List.getElem_cons_zero, List.getElem_cons_succ, List.setIfInBounds_toArray, List.set_cons_zero, List.set_cons_succ]
          refine wpAnyH_take (i := 6) (v := ?v16x6) rfl (by kernel_rfl) (by kernel_rfl) (by kernel_rfl) (fun _ _ _ h => h) (Or.inl ⟨by rfl, ?hy16x6⟩) (by assumption) ?rest16x6
          case hy16x6 => intro w hSw; obtain ⟨s0, s1, s2, s3⟩ := hSw; go_simp <;> with_reducible rfl
          simp only [Act.put, List.getElem_toArray, List.getElem_cons_zero, List.getElem_cons_succ, List.setIfInBounds_toArray, List.set_cons_zero, List.set_cons_succ]
          refine wpAnyH_take (i := 7) (v := (.agg #[.int .i32 y0, .int .i64 y1])) rfl (by kernel_rfl) (by kernel_rfl) (by kernel_rfl) (fun _ _ _ h => h) (Or.inl ⟨by rfl, ?hy17x7⟩) (by assumption) ?rest17x7
          case hy17x7 => intro w hSw; obtain ⟨s0, s1, s2, s3⟩ := hSw; go_simp <;> with_reducible rfl
          simp only [Act.put, List.getElem_toArray, List.getElem_cons_zero, List.getElem_cons_succ, List.setIfInBounds_toArray, List.set_cons_zero, List.set_cons_succ]
          refine wpAnyH_take (i := 8) (v := (.bool true)) rfl (by kernel_rfl) (by kernel_rfl) (by kernel_rfl) (fun _ _ _ h => h) (Or.inl ⟨by rfl, ?hy18x8⟩) (by assumption) ?rest18x8
          case hy18x8 => intro w hSw; obtain ⟨s0, s1, s2, s3⟩ := hSw; go_simp <;> with_reducible rfl
          simp only [Act.put, List.getElem_toArray, List.getElem_cons_zero, List.getElem_cons_succ, List.setIfInBounds_toArray, List.set_cons_zero, List.set_cons_succ]
          refine wpAnyH_done (by kernel_rfl) ?_ _
          go_wp2
          go_ret
          refine ⟨retBool ?_, grew_drew (unhide HR)⟩
          rw [← unhide HRr]
          symm
          refine decide_eq_false fun h => he ?_
          have h1 := unhide HX
          have h2 := unhide HY
          rw [h] at h1
          exact h1.symm.trans h2
      · obtain rfl : t = n := by omega
        go_wp2
        go_ret
        refine ⟨retBool ?_, unhide HR⟩
        rw [← unhide HRr]
        symm
        exact decide_eq_true (list_alike ((unhide HN).trans (unhide HN2).symm) fun t ht => unhide HL t (by rw [unhide HN] at ht; exact ht))
  · have hb : decide ((n : Int) = (n2 : Int)) = false := by simp; omega
    go_enter Try.func34, Try.ntmps34
    go_wp2
    go_ret
    refine ⟨retBool ?_, grew_refl _⟩
    rw [← unhide HRr]
    symm
    exact decide_eq_false fun h => hl (by rw [← unhide HN, ← unhide HN2, h])
set_option maxHeartbeats 3200000 in
theorem index_any {v : Value} {l : List Ky} {w : World} (hs : SeesL kC 2 w v l) (a b : Int) :
    Calls Try.prog 71 #[v, .agg #[.int .i32 a, .int .i64 b]] w fun e w' => (∃ n : Int, e = .returned (.int .i64 n) ∧ decide (n ≥ 0) = decide ((a, b) ∈ l)) ∧ Grew w w' := by
  have HS : Hid (∀ w', Grew w w' → SeesL kC 2 w' v l) := fun w' hb => hs.below kC_len hb.below
  obtain ⟨y, hy⟩ : ∃ y, w.alloc (.cells #[.int .i32 a, .int .i64 b] 37) = y := ⟨_, rfl⟩
  have hg : Grew w y := hy ▸ grew_alloc (grew_refl _) _
  have g0 : y.heap[w.heap.size]? = some (.cells #[.int .i32 a, .int .i64 b] 37) := by rw [← hy]; exact heap_alloc_new w _
  have HK : Hid (∀ w', Grew y w' → w'.cell? ⟨w.heap.size, 0, none⟩ = some (.int .i32 a) ∧ w'.cell? ⟨w.heap.size, 1, none⟩ = some (.int .i64 b)) := fun w' hb => by
    have h := (hb.below.block _ (Array.getElem?_eq_some_iff.1 g0).1).trans g0
    exact ⟨cell_at h, cell_at h⟩
  obtain ⟨ao, cap, _, _, hv, hcap, hmax, _⟩ := SeesL.key hs
  have HV := hide hv
  have HG := hide hg
  obtain ⟨n, hn⟩ : ∃ n, l.length = n := ⟨_, rfl⟩
  rw [hv, hn]
  have HN := hide hn
  rw [hn] at hcap hmax
  clear hs hg g0 hv hn
  go_enter Try.func71, Try.ntmps71
  go_wp2_with (rw [hy])
  go_loopw [8] (fun c wr => ∃ t : Nat, t ≤ n ∧ c = .int .i64 t ∧ (∀ u, u < t → l.getD u default ≠ (a, b)) ∧ Grew y wr) (fun c _ => n - (intOf c).toNat)
  case atStart => exact ⟨0, by omega, rfl, fun u hu => absurd hu (by omega), grew_refl _⟩
  case round =>
    obtain ⟨t, ht, rfl, hall, hgr⟩ := hrel
    have HA := hide hall
    have HR := hide hgr
    by_cases hlt : t < n
    · obtain ⟨ao', cap', gb, ob, hv', _, _, hao, hcl⟩ := SeesL.key (unhide HS wr (grew_trans (unhide HG) hgr))
      rw [unhide HV] at hv'
      simp only [Value.slice.injEq, true_and] at hv'
      obtain ⟨rfl, rfl⟩ := hv'
      have hnl := unhide HN
      obtain rfl := hao (by omega)
      obtain ⟨g1, g2⟩ := hcl t (by omega)
      obtain ⟨g3, g4⟩ := unhide HK wr hgr
      obtain ⟨⟨x0, x1⟩, hx⟩ : ∃ k, l.getD t default = k := ⟨_, rfl⟩
      rw [hx] at g1 g2
      have HX := hide hx
      have hE := eql_key a b x0 x1
      clear hcl hao hx hgr hall hnl
      go_wp2_with fail
      refine wp_region_held_drew (S := fun x => x.cell? ⟨gb, ob + t * 2, none⟩ = some (.int .i32 x0) ∧ x.cell? ⟨gb, ob + t * 2 + 1, none⟩ = some (.int .i64 x1) ∧ x.cell? ⟨w.heap.size, 0, none⟩ = some (.int .i32 a) ∧ x.cell? ⟨w.heap.size, 1, none⟩ = some (.int .i64 b)) (by kernel_rfl) ⟨g1, g2, g3, g4⟩ (fun hHeld => ?_)
      by_cases he : (a, b) = (x0, x1)
      · have hd : decide ((a, b) = (x0, x1)) = true := decide_eq_true he
        refine wpAnyH_take (i := 0) (v := (.agg #[.int .i32 a, .int .i64 b])) rfl (by kernel_rfl) (by kernel_rfl) (by kernel_rfl) (fun _ _ _ h => h) (Or.inl ⟨by rfl, ?hy37x0⟩) (by assumption) ?rest37x0
        case hy37x0 => intro w hSw; obtain ⟨s1, s2, s3, s4⟩ := hSw; go_simp <;> with_reducible rfl
        simp only [Act.put, List.getElem_toArray, List.getElem_cons_zero, List.setIfInBounds_toArray, List.set_cons_zero, List.set_cons_succ]
        refine wpAnyH_take (i := 1) (v := ?v38x1) rfl (by kernel_rfl) (by kernel_rfl) (by kernel_rfl) (fun _ _ _ h => h) (Or.inl ⟨by rfl, ?hy38x1⟩) (by assumption) ?rest38x1
        case hy38x1 => intro w hSw; obtain ⟨s1, s2, s3, s4⟩ := hSw; go_simp <;> with_reducible rfl
        simp only [Act.put, List.getElem_toArray, List.getElem_cons_zero, List.getElem_cons_succ, List.setIfInBounds_toArray, List.set_cons_zero, List.set_cons_succ]
        refine wpAnyH_take (i := 2) (v := ?v39x2) rfl (by kernel_rfl) (by kernel_rfl) (by kernel_rfl) (fun _ _ _ h => h) (Or.inl ⟨by rfl, ?hy39x2⟩) (by assumption) ?rest39x2
        case hy39x2 => intro w hSw; obtain ⟨s1, s2, s3, s4⟩ := hSw; go_simp <;> with_reducible rfl
        simp only [Act.put, List.getElem_toArray, List.getElem_cons_zero, List.getElem_cons_succ, List.setIfInBounds_toArray, List.set_cons_zero, List.set_cons_succ]
        refine wpAnyH_take (i := 3) (v := ?v40x3) rfl (by kernel_rfl) (by kernel_rfl) (by kernel_rfl) (fun _ _ _ h => h) (Or.inl ⟨by rfl, ?hy40x3⟩) (by assumption) ?rest40x3
        case hy40x3 => intro w hSw; obtain ⟨s1, s2, s3, s4⟩ := hSw; go_simp <;> with_reducible rfl
        simp only [Act.put, List.getElem_toArray, List.getElem_cons_zero, List.getElem_cons_succ, List.setIfInBounds_toArray, List.set_cons_zero, List.set_cons_succ]
        refine wpAnyH_take (i := 4) (v := (.agg #[.int .i32 x0, .int .i64 x1])) rfl (by kernel_rfl) (by kernel_rfl) (by kernel_rfl) (fun _ _ _ h => h) (Or.inl ⟨by rfl, ?hy41x4⟩) (by assumption) ?rest41x4
        case hy41x4 => intro w hSw; obtain ⟨s1, s2, s3, s4⟩ := hSw; go_simp <;> with_reducible rfl
        simp only [Act.put, List.getElem_toArray, List.getElem_cons_zero, List.getElem_cons_succ, List.setIfInBounds_toArray, List.set_cons_zero, List.set_cons_succ]
        refine wpAnyH_take (i := 5) (v := (.bool true)) rfl (by kernel_rfl) (by kernel_rfl) (by kernel_rfl) (fun _ _ _ h => h) (Or.inl ⟨by rfl, ?hy42x5⟩) (by assumption) ?rest42x5
        case hy42x5 => intro w hSw; obtain ⟨s1, s2, s3, s4⟩ := hSw; go_simp <;> with_reducible rfl
        simp only [Act.put, List.getElem_toArray, List.getElem_cons_zero, List.getElem_cons_succ, List.setIfInBounds_toArray, List.set_cons_zero, List.set_cons_succ]
        refine wpAnyH_done (by kernel_rfl) ?_ _
        go_wp2
        go_ret
        refine ⟨⟨_, rfl, ?_⟩, grew_drew (grew_trans (unhide HG) (unhide HR))⟩
        have : (a, b) ∈ l := by
          have h1 := unhide HX
          rw [he, ← h1]
          have h2 := unhide HN
          have h3 : t < l.length := by omega
          simp [List.getD, h3]
        simp [this]
      · have hd : decide ((a, b) = (x0, x1)) = false := decide_eq_false he
        refine wpAnyH_take (i := 0) (v := (.agg #[.int .i32 a, .int .i64 b])) rfl (by kernel_rfl) (by kernel_rfl) (by kernel_rfl) (fun _ _ _ h => h) (Or.inl ⟨by rfl, ?hy43x0⟩) (by assumption) ?rest43x0
        case hy43x0 => intro w hSw; obtain ⟨s1, s2, s3, s4⟩ := hSw; go_simp <;> with_reducible rfl
        simp only [Act.put, List.getElem_toArray, List.getElem_cons_zero, List.setIfInBounds_toArray, List.set_cons_zero, List.set_cons_succ]
        refine wpAnyH_take (i := 1) (v := ?v44x1) rfl (by kernel_rfl) (by kernel_rfl) (by kernel_rfl) (fun _ _ _ h => h) (Or.inl ⟨by rfl, ?hy44x1⟩) (by assumption) ?rest44x1
        case hy44x1 => intro w hSw; obtain ⟨s1, s2, s3, s4⟩ := hSw; go_simp <;> with_reducible rfl
        simp only [Act.put, List.getElem_toArray, List.getElem_cons_zero, List.getElem_cons_succ, List.setIfInBounds_toArray, List.set_cons_zero, List.set_cons_succ]
        refine wpAnyH_take (i := 2) (v := ?v45x2) rfl (by kernel_rfl) (by kernel_rfl) (by kernel_rfl) (fun _ _ _ h => h) (Or.inl ⟨by rfl, ?hy45x2⟩) (by assumption) ?rest45x2
        case hy45x2 => intro w hSw; obtain ⟨s1, s2, s3, s4⟩ := hSw; go_simp <;> with_reducible rfl
        simp only [Act.put, List.getElem_toArray, List.getElem_cons_zero, List.getElem_cons_succ, List.setIfInBounds_toArray, List.set_cons_zero, List.set_cons_succ]
        refine wpAnyH_take (i := 3) (v := ?v46x3) rfl (by kernel_rfl) (by kernel_rfl) (by kernel_rfl) (fun _ _ _ h => h) (Or.inl ⟨by rfl, ?hy46x3⟩) (by assumption) ?rest46x3
        case hy46x3 => intro w hSw; obtain ⟨s1, s2, s3, s4⟩ := hSw; go_simp <;> with_reducible rfl
        simp only [Act.put, List.getElem_toArray, List.getElem_cons_zero, List.getElem_cons_succ, List.setIfInBounds_toArray, List.set_cons_zero, List.set_cons_succ]
        refine wpAnyH_take (i := 4) (v := (.agg #[.int .i32 x0, .int .i64 x1])) rfl (by kernel_rfl) (by kernel_rfl) (by kernel_rfl) (fun _ _ _ h => h) (Or.inl ⟨by rfl, ?hy47x4⟩) (by assumption) ?rest47x4
        case hy47x4 => intro w hSw; obtain ⟨s1, s2, s3, s4⟩ := hSw; go_simp <;> with_reducible rfl
        simp only [Act.put, List.getElem_toArray, List.getElem_cons_zero, List.getElem_cons_succ, List.setIfInBounds_toArray, List.set_cons_zero, List.set_cons_succ]
        refine wpAnyH_take (i := 5) (v := (.bool false)) rfl (by kernel_rfl) (by kernel_rfl) (by kernel_rfl) (fun _ _ _ h => h) (Or.inl ⟨by rfl, ?hy48x5⟩) (by assumption) ?rest48x5
        case hy48x5 => intro w hSw; obtain ⟨s1, s2, s3, s4⟩ := hSw; go_simp <;> with_reducible rfl
        simp only [Act.put, List.getElem_toArray, List.getElem_cons_zero, List.getElem_cons_succ, List.setIfInBounds_toArray, List.set_cons_zero, List.set_cons_succ]
        refine wpAnyH_done (by kernel_rfl) ?_ _
        go_wp2
        go_roundw
        case rel =>
          refine ⟨t + 1, by omega, by go_num, fun u hu => ?_, grew_drew (unhide HR)⟩
          by_cases hu' : u = t
          · subst hu'; rw [unhide HX]; exact fun h => he h.symm
          · exact unhide HA u (by omega)
        case measure => simp [intOf]; omega
    · obtain rfl : t = n := by omega
      go_wp2
      go_ret
      refine ⟨⟨_, rfl, ?_⟩, grew_trans (unhide HG) (unhide HR)⟩
      have h2 := unhide HN
      have : (a, b) ∉ l := fun hm => by
        obtain ⟨i, hi, he⟩ := List.getElem_of_mem hm
        exact unhide HA i (by omega) (by simp [List.getD, hi, he])
      simp [this]
set_option maxHeartbeats 800000 in
theorem contains_any {v : Value} {l : List Ky} {w : World} (hs : SeesL kC 2 w v l) (a b : Int) :
    Calls Try.prog 62 #[v, .agg #[.int .i32 a, .int .i64 b]] w fun e w' => e = .returned (.bool (decide ((a, b) ∈ l))) ∧ Grew w w' := by
  obtain ⟨y, hy⟩ : ∃ y, w.alloc (.cells #[.int .i32 a, .int .i64 b] 37) = y := ⟨_, rfl⟩
  have hg : Grew w y := hy ▸ grew_alloc (grew_refl _) _
  have g0 : y.cell? ⟨w.heap.size, 0, none⟩ = some (.int .i32 a) := by rw [← hy]; exact cell_at (heap_alloc_new w _)
  have g1 : y.cell? ⟨w.heap.size, 1, none⟩ = some (.int .i64 b) := by rw [← hy]; exact cell_at (heap_alloc_new w _)
  have HC := hide (index_any (hs.below kC_len hg.below) a b)
  have HG := hide hg
  obtain ⟨ao, cap, hv⟩ := hs.shape
  subst hv
  clear hs hg
  go_enter Try.func62, Try.ntmps62
  go_wp2_with (first | rw [hy] | (go_at_call 71; refine (unhide HC).mono ?_; rintro e w1 ⟨⟨n, rfl, hn⟩, hg1⟩; have HN := hide hn; have HG1 := hide hg1; clear hn hg1))
  go_ret
  exact ⟨retBool (unhide HN), grew_trans (unhide HG) (unhide HG1)⟩
set_option maxHeartbeats 800000 in
theorem has_any {v : Value} {l : List Ky} {w : World} (hs : SeesL kC 2 w v l) (a b : Int) :
    Calls Try.prog 44 #[v, .agg #[.int .i32 a, .int .i64 b]] w fun e w' => e = .returned (.bool (decide ((a, b) ∈ l))) ∧ Grew w w' := by
  obtain ⟨y, hy⟩ : ∃ y, w.alloc (.cells #[.int .i32 a, .int .i64 b] 37) = y := ⟨_, rfl⟩
  have hg : Grew w y := hy ▸ grew_alloc (grew_refl _) _
  have g0 : y.cell? ⟨w.heap.size, 0, none⟩ = some (.int .i32 a) := by rw [← hy]; exact cell_at (heap_alloc_new w _)
  have g1 : y.cell? ⟨w.heap.size, 1, none⟩ = some (.int .i64 b) := by rw [← hy]; exact cell_at (heap_alloc_new w _)
  have HC := hide (contains_any (hs.below kC_len hg.below) a b)
  have HG := hide hg
  obtain ⟨ao, cap, hv⟩ := hs.shape
  subst hv
  obtain ⟨r, hr⟩ : ∃ r, decide ((a, b) ∈ l) = r := ⟨_, rfl⟩
  rw [hr] at HC ⊢
  clear hs hg hr
  go_enter Try.func44, Try.ntmps44
  go_wp2_with (first | rw [hy] | (go_at_call 62; refine (unhide HC).mono ?_; rintro e w1 ⟨rfl, hg1⟩; have HG1 := hide hg1; clear hg1))
  go_ret
  exact ⟨rfl, grew_trans (unhide HG) (unhide HG1)⟩
set_option maxHeartbeats 3200000 in
theorem rhas_any {v : Value} {l : List Ky} {w : World} (hs : SeesL kC 2 w v l) (a b : Int) :
    Calls Try.prog 19 #[v, .agg #[.int .i32 a, .int .i64 b]] w fun e w' => e = .returned (.bool (decide ((a, b) ∈ l))) ∧ Grew w w' := by
  have HS : Hid (∀ w', Grew w w' → SeesL kC 2 w' v l) := fun w' hb => hs.below kC_len hb.below
  obtain ⟨y, hy⟩ : ∃ y, w.alloc (.cells #[.int .i32 a, .int .i64 b] 37) = y := ⟨_, rfl⟩
  have hg : Grew w y := hy ▸ grew_alloc (grew_refl _) _
  have g0 : y.heap[w.heap.size]? = some (.cells #[.int .i32 a, .int .i64 b] 37) := by rw [← hy]; exact heap_alloc_new w _
  have HK : Hid (∀ w', Grew y w' → w'.cell? ⟨w.heap.size, 0, none⟩ = some (.int .i32 a) ∧ w'.cell? ⟨w.heap.size, 1, none⟩ = some (.int .i64 b)) := fun w' hb => by
    have h := (hb.below.block _ (Array.getElem?_eq_some_iff.1 g0).1).trans g0
    exact ⟨cell_at h, cell_at h⟩
  obtain ⟨ao, cap, _, _, hv, hcap, hmax, _⟩ := SeesL.key hs
  have HV := hide hv
  have HG := hide hg
  obtain ⟨n, hn⟩ : ∃ n, l.length = n := ⟨_, rfl⟩
  rw [hv, hn]
  have HN := hide hn
  rw [hn] at hcap hmax
  obtain ⟨r, hr⟩ : ∃ r, decide ((a, b) ∈ l) = r := ⟨_, rfl⟩
  rw [hr]
  have HRr := hide hr
  clear hs hg g0 hv hn hr
  go_enter Try.func19, Try.ntmps19
  go_wp2_with (rw [hy])
  go_loopw [5] (fun c wr => ∃ t : Nat, t ≤ n ∧ c = .int .i64 t ∧ (∀ u, u < t → l.getD u default ≠ (a, b)) ∧ Grew y wr) (fun c _ => n - (intOf c).toNat)
  case atStart => exact ⟨0, by omega, rfl, fun u hu => absurd hu (by omega), grew_refl _⟩
  case round =>
    obtain ⟨t, ht, rfl, hall, hgr⟩ := hrel
    have HA := hide hall
    have HR := hide hgr
    by_cases hlt : t < n
    · obtain ⟨ao', cap', gb, ob, hv', _, _, hao, hcl⟩ := SeesL.key (unhide HS wr (grew_trans (unhide HG) hgr))
      rw [unhide HV] at hv'
      simp only [Value.slice.injEq, true_and] at hv'
      obtain ⟨rfl, rfl⟩ := hv'
      have hnl := unhide HN
      obtain rfl := hao (by omega)
      obtain ⟨g1, g2⟩ := hcl t (by omega)
      obtain ⟨g3, g4⟩ := unhide HK wr hgr
      obtain ⟨⟨x0, x1⟩, hx⟩ : ∃ k, l.getD t default = k := ⟨_, rfl⟩
      rw [hx] at g1 g2
      have HX := hide hx
      have hE := eql_key x0 x1 a b
      clear hcl hao hx hgr hall hnl
      go_wp2_with fail
      refine wp_region_held_drew (S := fun x => x.cell? ⟨gb, ob + t * 2, none⟩ = some (.int .i32 x0) ∧ x.cell? ⟨gb, ob + t * 2 + 1, none⟩ = some (.int .i64 x1) ∧ x.cell? ⟨w.heap.size, 0, none⟩ = some (.int .i32 a) ∧ x.cell? ⟨w.heap.size, 1, none⟩ = some (.int .i64 b)) (by kernel_rfl) ⟨g1, g2, g3, g4⟩ (fun hHeld => ?_)
      by_cases he : (x0, x1) = (a, b)
      · have hd : decide ((x0, x1) = (a, b)) = true := decide_eq_true he
        refine wpAnyH_take (i := 0) (v := ?v49x0) rfl (by kernel_rfl) (by kernel_rfl) (by kernel_rfl) (fun _ _ _ h => h) (Or.inl ⟨by rfl, ?hy49x0⟩) (by assumption) ?rest49x0
        case hy49x0 => intro w hSw; obtain ⟨s1, s2, s3, s4⟩ := hSw; go_simp <;> with_reducible rfl
        simp only [Act.put, List.getElem_toArray, List.getElem_cons_zero, List.setIfInBounds_toArray, List.set_cons_zero, List.set_cons_succ]
        refine wpAnyH_take (i := 1) (v := ?v50x1) rfl (by kernel_rfl) (by kernel_rfl) (by kernel_rfl) (fun _ _ _ h => h) (Or.inl ⟨by rfl, ?hy50x1⟩) (by assumption) ?rest50x1
        case hy50x1 => intro w hSw; obtain ⟨s1, s2, s3, s4⟩ := hSw; go_simp <;> with_reducible rfl
        simp only [Act.put, List.getElem_toArray, List.getElem_cons_zero, List.getElem_cons_succ, List.setIfInBounds_toArray, List.set_cons_zero, List.set_cons_succ]
        refine wpAnyH_take (i := 2) (v := ?v51x2) rfl (by kernel_rfl) (by kernel_rfl) (by kernel_rfl) (fun _ _ _ h => h) (Or.inl ⟨by rfl, ?hy51x2⟩) (by assumption) ?rest51x2
        case hy51x2 => intro w hSw; obtain ⟨s1, s2, s3, s4⟩ := hSw; go_simp <;> with_reducible rfl
        simp only [Act.put, List.getElem_toArray, List.getElem_cons_zero, List.getElem_cons_succ, List.setIfInBounds_toArray, List.set_cons_zero, List.set_cons_succ]
        refine wpAnyH_take (i := 3) (v := (.agg #[.int .i32 x0, .int .i64 x1])) rfl (by kernel_rfl) (by kernel_rfl) (by kernel_rfl) (fun _ _ _ h => h) (Or.inl ⟨by rfl, ?hy52x3⟩) (by assumption) ?rest52x3
        case hy52x3 => intro w hSw; obtain ⟨s1, s2, s3, s4⟩ := hSw; go_simp <;> with_reducible rfl
        simp only [Act.put, List.getElem_toArray, List.getElem_cons_zero, List.getElem_cons_succ, List.setIfInBounds_toArray, List.set_cons_zero, List.set_cons_succ]
        refine wpAnyH_take (i := 4) (v := (.agg #[.int .i32 a, .int .i64 b])) rfl (by kernel_rfl) (by kernel_rfl) (by kernel_rfl) (fun _ _ _ h => h) (Or.inl ⟨by rfl, ?hy53x4⟩) (by assumption) ?rest53x4
        case hy53x4 => intro w hSw; obtain ⟨s1, s2, s3, s4⟩ := hSw; go_simp <;> with_reducible rfl
        simp only [Act.put, List.getElem_toArray, List.getElem_cons_zero, List.getElem_cons_succ, List.setIfInBounds_toArray, List.set_cons_zero, List.set_cons_succ]
        refine wpAnyH_take (i := 5) (v := (.bool true)) rfl (by kernel_rfl) (by kernel_rfl) (by kernel_rfl) (fun _ _ _ h => h) (Or.inl ⟨by rfl, ?hy54x5⟩) (by assumption) ?rest54x5
        case hy54x5 => intro w hSw; obtain ⟨s1, s2, s3, s4⟩ := hSw; go_simp <;> with_reducible rfl
        simp only [Act.put, List.getElem_toArray, List.getElem_cons_zero, List.getElem_cons_succ, List.setIfInBounds_toArray, List.set_cons_zero, List.set_cons_succ]
        refine wpAnyH_done (by kernel_rfl) ?_ _
        go_wp2
        go_ret
        refine ⟨retBool ?_, grew_drew (grew_trans (unhide HG) (unhide HR))⟩
        have : (a, b) ∈ l := by
          have h1 := unhide HX
          rw [← he, ← h1]
          have h2 := unhide HN
          have h3 : t < l.length := by omega
          simp [List.getD, h3]
        rw [← unhide HRr]
        simp [this]
      · have hd : decide ((x0, x1) = (a, b)) = false := decide_eq_false he
        refine wpAnyH_take (i := 0) (v := ?v55x0) rfl (by kernel_rfl) (by kernel_rfl) (by kernel_rfl) (fun _ _ _ h => h) (Or.inl ⟨by rfl, ?hy55x0⟩) (by assumption) ?rest55x0
        case hy55x0 => intro w hSw; obtain ⟨s1, s2, s3, s4⟩ := hSw; go_simp <;> with_reducible rfl
        simp only [Act.put, List.getElem_toArray, List.getElem_cons_zero, List.setIfInBounds_toArray, List.set_cons_zero, List.set_cons_succ]
        refine wpAnyH_take (i := 1) (v := ?v56x1) rfl (by kernel_rfl) (by kernel_rfl) (by kernel_rfl) (fun _ _ _ h => h) (Or.inl ⟨by rfl, ?hy56x1⟩) (by assumption) ?rest56x1
        case hy56x1 => intro w hSw; obtain ⟨s1, s2, s3, s4⟩ := hSw; go_simp <;> with_reducible rfl
        simp only [Act.put, List.getElem_toArray, List.getElem_cons_zero, List.getElem_cons_succ, List.setIfInBounds_toArray, List.set_cons_zero, List.set_cons_succ]
        refine wpAnyH_take (i := 2) (v := ?v57x2) rfl (by kernel_rfl) (by kernel_rfl) (by kernel_rfl) (fun _ _ _ h => h) (Or.inl ⟨by rfl, ?hy57x2⟩) (by assumption) ?rest57x2
        case hy57x2 => intro w hSw; obtain ⟨s1, s2, s3, s4⟩ := hSw; go_simp <;> with_reducible rfl
        simp only [Act.put, List.getElem_toArray, List.getElem_cons_zero, List.getElem_cons_succ, List.setIfInBounds_toArray, List.set_cons_zero, List.set_cons_succ]
        refine wpAnyH_take (i := 3) (v := (.agg #[.int .i32 x0, .int .i64 x1])) rfl (by kernel_rfl) (by kernel_rfl) (by kernel_rfl) (fun _ _ _ h => h) (Or.inl ⟨by rfl, ?hy58x3⟩) (by assumption) ?rest58x3
        case hy58x3 => intro w hSw; obtain ⟨s1, s2, s3, s4⟩ := hSw; go_simp <;> with_reducible rfl
        simp only [Act.put, List.getElem_toArray, List.getElem_cons_zero, List.getElem_cons_succ, List.setIfInBounds_toArray, List.set_cons_zero, List.set_cons_succ]
        refine wpAnyH_take (i := 4) (v := (.agg #[.int .i32 a, .int .i64 b])) rfl (by kernel_rfl) (by kernel_rfl) (by kernel_rfl) (fun _ _ _ h => h) (Or.inl ⟨by rfl, ?hy59x4⟩) (by assumption) ?rest59x4
        case hy59x4 => intro w hSw; obtain ⟨s1, s2, s3, s4⟩ := hSw; go_simp <;> with_reducible rfl
        simp only [Act.put, List.getElem_toArray, List.getElem_cons_zero, List.getElem_cons_succ, List.setIfInBounds_toArray, List.set_cons_zero, List.set_cons_succ]
        refine wpAnyH_take (i := 5) (v := (.bool false)) rfl (by kernel_rfl) (by kernel_rfl) (by kernel_rfl) (fun _ _ _ h => h) (Or.inl ⟨by rfl, ?hy60x5⟩) (by assumption) ?rest60x5
        case hy60x5 => intro w hSw; obtain ⟨s1, s2, s3, s4⟩ := hSw; go_simp <;> with_reducible rfl
        simp only [Act.put, List.getElem_toArray, List.getElem_cons_zero, List.getElem_cons_succ, List.setIfInBounds_toArray, List.set_cons_zero, List.set_cons_succ]
        refine wpAnyH_done (by kernel_rfl) ?_ _
        go_wp2
        go_roundw
        case rel =>
          refine ⟨t + 1, by omega, by go_num, fun u hu => ?_, grew_drew (unhide HR)⟩
          by_cases hu' : u = t
          · subst hu'; rw [unhide HX]; exact he
          · exact unhide HA u (by omega)
        case measure => simp [intOf]; omega
    · obtain rfl : t = n := by omega
      go_wp2
      go_ret
      refine ⟨retBool ?_, grew_trans (unhide HG) (unhide HR)⟩
      have h2 := unhide HN
      have : (a, b) ∉ l := fun hm => by
        obtain ⟨i, hi, he⟩ := List.getElem_of_mem hm
        exact unhide HA i (by omega) (by simp [List.getD, hi, he])
      rw [← unhide HRr]
      simp [this]
end Go.Proofs.Ytibjhjkeflbghaa
