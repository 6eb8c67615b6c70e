/- The document's Pairs. -/
import Derived.Test.YtldapckooohigaaDoorSF
namespace Go.Proofs.YtldapckooohigaaDoor
open Go.RowKit
set_option maxRecDepth 100000
set_option maxHeartbeats 6400000 in
theorem rpairs_any {v : Value} {l : List Pr} {w : World} (hs : SeesL pC 3 w v l) (hll : l.length ≤ 5864062014804) :
    Calls Tryd.prog 35 #[v] w fun e w' => ∃ r, e = .returned r ∧ w'.ownsRow w.heap.size 45 3 r (srtP l).length ((srtP l).flatMap pC) ∧ Below w.heap.size w w' := by
  have HS : Hid (∀ w', Below w.heap.size w w' → SeesL pC 3 w' v l) := fun w' hb => hs.below pC_len hb
  obtain ⟨ao, cap, _, _, hv, hcap, hmax, _⟩ := SeesL.pair hs
  have HV := hide hv
  obtain ⟨n, hn⟩ : ∃ n, l.length = n := ⟨_, rfl⟩
  rw [hv, hn]
  rw [hn] at HV
  have HN := hide hn
  rw [hn] at hcap hmax hll
  clear hs hv hn
  go_enter Tryd.func35, Tryd.ntmps35
  go_wp2
  go_loopw [3, 4] (fun o c wr => ∃ t : Nat, t ≤ n ∧ c = .int .i64 t ∧ wr.ownsRow w.heap.size 45 3 o (srtP (l.take t)).length ((srtP (l.take t)).flatMap pC) ∧ Below w.heap.size w wr) (fun _ c _ => n - (intOf c).toNat)
  case atStart => exact ⟨0, by omega, rfl, own_nil _ _ _ _, Below.refl _ _⟩
  case round =>
    obtain ⟨t, ht, rfl, hown, hbw⟩ := hrel
    obtain ⟨wo, rfl⟩ : ∃ x, x = wr := ⟨_, rfl⟩
    have HBW := hide hbw
    by_cases hlt : t < n
    · have hnl := unhide HN
      have htl : t < l.length := by omega
      obtain ⟨gb, ob, hao, -, hcx⟩ := pair_cells (unhide HS wo hbw) (unhide HV) htl
      subst hao
      obtain ⟨⟨⟨a, b⟩, c⟩, hx⟩ : ∃ k, l.getD t default = k := ⟨_, rfl⟩
      have hx' : l[t] = ((a, b), c) := by rw [← hx]; simp [List.getD, htl]
      rw [hx] at hcx
      have HCX := hide hcx
      obtain ⟨D, hD⟩ : ∃ D, srtP (l.take t) = D := ⟨_, rfl⟩
      have hdd : srtP (l.take (t + 1)) = insQ ((a, b), c) D := by
        rw [List.take_succ_eq_append_getElem htl, srtP_snoc, hx', hD]
      have hlen : D.length ≤ t := by rw [← hD]; exact Nat.le_trans (srtP_spec _).2.2 (by simp; omega)
      rw [hD] at hown
      have HDD := hide hdd
      have HOW := hide hown
      obtain ⟨m, hm⟩ : ∃ m, D.length = m := ⟨_, rfl⟩
      have hsees := (own_sees pC_len (by decide) hown).2
      have HSD := hide hsees
      obtain ⟨ov, oc, hov⟩ := own_shape hown
      have hoc : m ≤ oc := by
        obtain ⟨_, _, _, _, e, h2, _⟩ := hsees
        rw [hov] at e
        simp only [Value.slice.injEq] at e
        obtain ⟨rfl, _, rfl⟩ := e
        omega
      rw [hm] at hov hlen
      subst hov
      have HM := hide hm
      clear hx hx' hcx hdd hD hown hsees hm htl hnl
      go_wp2
      go_loopw [5] (fun c wi => ∃ j : Nat, j ≤ m ∧ c = .int .i64 j ∧ (∀ i x, i < j → (keysOf D)[i]? = some x → ltK x (a, b)) ∧ Below wo.heap.size wo wi) (fun c _ => m - (intOf c).toNat)
      case atStart => exact ⟨0, by omega, rfl, fun i x h => absurd h (by omega), Below.refl _ _⟩
      case round =>
        obtain ⟨j, hj, rfl, hall, hbi⟩ := hrel
        have HAL := hide hall
        have HBI := hide hbi
        by_cases hjm : j < m
        · have hmd := unhide HM
          have hjd : j < D.length := by omega
          obtain ⟨gd, od, hod, -, hcd⟩ := pair_cells (unhide HSD) rfl hjd
          subst hod
          obtain ⟨⟨⟨d, f⟩, h⟩, hdj⟩ : ∃ k, D.getD j default = k := ⟨_, rfl⟩
          have hdj' : (keysOf D)[j]? = some (d, f) := by
            have : D[j]? = some ((d, f), h) := by rw [← hdj]; simp [List.getD, hjd]
            simp [keysOf, this]
          rw [hdj] at hcd
          have HCD := hide hcd
          have HDJ := hide hdj'
          obtain ⟨r, hr⟩ : ∃ r, cmpK (d, f) (a, b) = r := ⟨_, rfl⟩
          have HRC : Hid (∀ x, Below wo.heap.size wo x → Calls Tryd.prog 49 #[.agg #[.int .i32 d, .int .i64 f], .agg #[.int .i32 a, .int .i64 b]] x fun e w' => e = .returned (.int .i64 r) ∧ Below wo.heap.size wo w') := fun x hx => rcmp_from (a := (d, f)) (b := (a, b)) hr hx
          have hrl : r < 0 ↔ ltK (d, f) (a, b) := by rw [← hr]; exact cmpK_neg _ _
          clear hmd hjd hcd hdj hdj' hr hall hbi
          have hjd : decide ((j : Int) < (m : Int)) = true := by simp; omega
          by_cases hneg : r < 0
          · have hnd : decide (r < 0) = true := decide_eq_true hneg
            have hL := hrl.1 hneg
            have HL := hide hL
            clear hrl hL
            go_wp2_with fail
            refine wp_region_held_drew (S := fun x => Below wo.heap.size wo x) (by kernel_rfl) (unhide HBI).drew (fun hHeld => ?_)
            refine wpAnyH_take (i := 0) (v := ?v1x0) rfl (by kernel_rfl) (by kernel_rfl) (by kernel_rfl) (fun _ _ _ h => h) (Or.inl ⟨by rfl, ?hy1x0⟩) (by assumption) ?rest1x0
            case hy1x0 => intro w hSw; go_simp <;> with_reducible rfl
            simp only [Act.put, List.getElem_toArray, List.getElem_cons_zero, List.setIfInBounds_toArray, List.set_cons_zero, List.set_cons_succ]
            refine wpAnyH_take (i := 1) (v := ?v2x1) rfl (by kernel_rfl) (by kernel_rfl) (by kernel_rfl) (fun _ _ _ h => h) (Or.inl ⟨by rfl, ?hy2x1⟩) (by assumption) ?rest2x1
            case hy2x1 => intro w hSw; go_simp <;> with_reducible rfl
            simp only [Act.put, List.getElem_toArray, List.getElem_cons_zero, List.getElem_cons_succ, List.setIfInBounds_toArray, List.set_cons_zero, List.set_cons_succ]
            refine wpAnyH_take (i := 2) (v := ?v3x2) rfl (by kernel_rfl) (by kernel_rfl) (by kernel_rfl) (fun _ _ _ h => h) (Or.inl ⟨by rfl, ?hy3x2⟩) (by assumption) ?rest3x2
            case hy3x2 => intro w hSw; go_simp <;> with_reducible rfl
            simp only [Act.put, List.getElem_toArray, List.getElem_cons_zero, List.getElem_cons_succ, List.setIfInBounds_toArray, List.set_cons_zero, List.set_cons_succ]
            refine wpAnyH_take (i := 3) (v := (.bool true)) rfl (by kernel_rfl) (by kernel_rfl) (by kernel_rfl) (fun _ _ _ h => h) (Or.inl ⟨by rfl, ?hy4x3⟩) (by assumption) ?rest4x3
            case hy4x3 => intro w hSw; go_simp <;> with_reducible rfl
            simp only [Act.put, List.getElem_toArray, List.getElem_cons_zero, List.getElem_cons_succ, List.setIfInBounds_toArray, List.set_cons_zero, List.set_cons_succ]
            refine wpAnyH_take (i := 4) (v := (.bool true)) rfl (by kernel_rfl) (by kernel_rfl) (by kernel_rfl) (fun _ _ _ h => h) (Or.inl ⟨by rfl, ?hy5x4⟩) (by assumption) ?rest5x4
            case hy5x4 => intro w hSw; go_simp <;> with_reducible rfl
            simp only [Act.put, List.getElem_toArray, List.getElem_cons_zero, List.getElem_cons_succ, List.setIfInBounds_toArray, List.set_cons_zero, List.set_cons_succ]
            refine wpAnyH_take (i := 5) (v := ?v6x5) rfl (by kernel_rfl) (by kernel_rfl) (by kernel_rfl) (fun _ _ _ h => h) (Or.inl ⟨by rfl, ?hy6x5⟩) (by assumption) ?rest6x5
            case hy6x5 => intro w hSw; go_simp <;> with_reducible rfl
            simp only [Act.put, List.getElem_toArray, List.getElem_cons_zero, List.getElem_cons_succ, List.setIfInBounds_toArray, List.set_cons_zero, List.set_cons_succ]
            refine wpAnyH_take (i := 6) (v := ?v7x6) rfl (by kernel_rfl) (by kernel_rfl) (by kernel_rfl) (fun _ _ _ h => h) (Or.inl ⟨by rfl, ?hy7x6⟩) (by assumption) ?rest7x6
            case hy7x6 => intro w hSw; go_simp <;> with_reducible rfl
            simp only [Act.put, List.getElem_toArray, List.getElem_cons_zero, List.getElem_cons_succ, List.setIfInBounds_toArray, List.set_cons_zero, List.set_cons_succ]
            refine wpAnyH_take (i := 7) (v := ?v8x7) rfl (by kernel_rfl) (by kernel_rfl) (by kernel_rfl) (fun _ _ _ h => h) (Or.inl ⟨by rfl, ?hy8x7⟩) (by assumption) ?rest8x7
            case hy8x7 => intro w hSw; go_simp <;> with_reducible rfl
            simp only [Act.put, List.getElem_toArray, List.getElem_cons_zero, List.getElem_cons_succ, List.setIfInBounds_toArray, List.set_cons_zero, List.set_cons_succ]
            refine wpAnyH_take (i := 8) (v := ?v9x8) rfl (by kernel_rfl) (by kernel_rfl) (by kernel_rfl) (fun _ _ _ h => h) (Or.inl ⟨by rfl, ?hy9x8⟩) (by assumption) ?rest9x8
            case hy9x8 => intro w hSw; go_simp <;> with_reducible rfl
            simp only [Act.put, List.getElem_toArray, List.getElem_cons_zero, List.getElem_cons_succ, List.setIfInBounds_toArray, List.set_cons_zero, List.set_cons_succ]
            refine wpAnyH_take (i := 9) (v := (.agg #[.int .i32 d, .int .i64 f])) rfl (by kernel_rfl) (by kernel_rfl) (by kernel_rfl) (fun _ _ _ h => h) (Or.inl ⟨by rfl, ?hy10x9⟩) (by assumption) ?rest10x9
            case hy10x9 => intro w hSw; obtain ⟨s1, s2, s3⟩ := unhide HCD _ hSw; go_simp <;> with_reducible rfl
            simp only [Act.put, List.getElem_toArray, List.getElem_cons_zero, List.getElem_cons_succ, List.setIfInBounds_toArray, List.set_cons_zero, List.set_cons_succ]
            refine wpAnyH_take (i := 10) (v := ?v11x10) rfl (by kernel_rfl) (by kernel_rfl) (by kernel_rfl) (fun _ _ _ h => h) (Or.inl ⟨by rfl, ?hy11x10⟩) (by assumption) ?rest11x10
            case hy11x10 => intro w hSw; go_simp <;> with_reducible rfl
            simp only [Act.put, List.getElem_toArray, List.getElem_cons_zero, List.getElem_cons_succ, List.setIfInBounds_toArray, List.set_cons_zero, List.set_cons_succ]
            refine wpAnyH_take (i := 11) (v := ?v12x11) rfl (by kernel_rfl) (by kernel_rfl) (by kernel_rfl) (fun _ _ _ h => h) (Or.inl ⟨by rfl, ?hy12x11⟩) (by assumption) ?rest12x11
            case hy12x11 => intro w hSw; go_simp <;> with_reducible rfl
            simp only [Act.put, List.getElem_toArray, List.getElem_cons_zero, List.getElem_cons_succ, List.setIfInBounds_toArray, List.set_cons_zero, List.set_cons_succ]
            refine wpAnyH_take (i := 12) (v := ?v13x12) rfl (by kernel_rfl) (by kernel_rfl) (by kernel_rfl) (fun _ _ _ h => h) (Or.inl ⟨by rfl, ?hy13x12⟩) (by assumption) ?rest13x12
            case hy13x12 => intro w hSw; go_simp <;> with_reducible rfl
            simp only [Act.put, List.getElem_toArray, List.getElem_cons_zero, List.getElem_cons_succ, List.setIfInBounds_toArray, List.set_cons_zero, List.set_cons_succ]
            refine wpAnyH_take (i := 13) (v := ?v14x13) rfl (by kernel_rfl) (by kernel_rfl) (by kernel_rfl) (fun _ _ _ h => h) (Or.inl ⟨by rfl, ?hy14x13⟩) (by assumption) ?rest14x13
            case hy14x13 => intro w hSw; go_simp <;> with_reducible rfl
            simp only [Act.put, List.getElem_toArray, List.getElem_cons_zero, List.getElem_cons_succ, List.setIfInBounds_toArray, List.set_cons_zero, List.set_cons_succ]
            refine wpAnyH_take (i := 14) (v := (.agg #[.int .i32 a, .int .i64 b])) rfl (by kernel_rfl) (by kernel_rfl) (by kernel_rfl) (fun _ _ _ h => h) (Or.inl ⟨by rfl, ?hy15x14⟩) (by assumption) ?rest15x14
            case hy15x14 => intro w hSw; obtain ⟨s1, s2, s3⟩ := unhide HCX _ hSw; go_simp <;> with_reducible rfl
            simp only [Act.put, List.getElem_toArray, List.getElem_cons_zero, List.getElem_cons_succ, List.setIfInBounds_toArray, List.set_cons_zero, List.set_cons_succ]
            refine wpAnyH_ready (rs := [15]) (by kernel_rfl) (by simp) ?_
            refine AllReadyH.cons rfl (fun K hK => ?_) AllReadyH.nil
            go_simp
            refine (unhide HRC _ (by assumption)).mono ?_
            rintro e wq ⟨rfl, hb1⟩
            refine hK _ _ hb1 ?_
            clear hK hHeld
            intro hHeld
            refine wpAnyH_take (i := 16) (v := (.bool true)) rfl (by kernel_rfl) (by kernel_rfl) (by kernel_rfl) (fun _ _ _ h => h) (Or.inl ⟨by rfl, ?hy16x16⟩) (by assumption) ?rest16x16
            case hy16x16 => intro w hSw; go_simp <;> with_reducible rfl
            simp only [Act.put, List.getElem_toArray, List.getElem_cons_zero, List.getElem_cons_succ, List.setIfInBounds_toArray, List.set_cons_zero, List.set_cons_succ]
            refine wpAnyH_take (i := 17) (v := (.bool true)) rfl (by kernel_rfl) (by kernel_rfl) (by kernel_rfl) (fun _ _ _ h => h) (Or.inl ⟨by rfl, ?hy17x17⟩) (by assumption) ?rest17x17
            case hy17x17 => intro w hSw; go_simp <;> with_reducible rfl
            simp only [Act.put, List.getElem_toArray, List.getElem_cons_zero, List.getElem_cons_succ, List.setIfInBounds_toArray, List.set_cons_zero, List.set_cons_succ]
            refine wpAnyH_done (by kernel_rfl) ?_ _
            go_wp2
            go_roundw
            case rel =>
              refine ⟨j + 1, by omega, by go_num, fun i x hi hxi => ?_, hb1⟩
              by_cases e : i = j
              · subst e
                rw [unhide HDJ] at hxi
                obtain rfl := Option.some.inj hxi
                exact unhide HL
              · exact unhide HAL i x (by omega) hxi
            case measure => simp [intOf]; omega
          · have hnd : decide (r < 0) = false := decide_eq_false hneg
            have hnl : ¬ ltK (d, f) (a, b) := fun c => hneg (hrl.2 c)
            have HNL := hide hnl
            clear hrl hnl
            have hplc : j = plc (a, b) (keysOf D) := plc_unique (by have := unhide HM; simp [keysOf]; omega) (unhide HAL) (fun x hx => by rw [unhide HDJ] at hx; obtain rfl := Option.some.inj hx; exact unhide HNL)
            have HPL := hide hplc
            clear hplc
            go_wp2_with fail
            refine wp_region_held_drew (S := fun x => Below wo.heap.size wo x) (by kernel_rfl) (unhide HBI).drew (fun hHeld => ?_)
            refine wpAnyH_take (i := 0) (v := ?v18x0) rfl (by kernel_rfl) (by kernel_rfl) (by kernel_rfl) (fun _ _ _ h => h) (Or.inl ⟨by rfl, ?hy18x0⟩) (by assumption) ?rest18x0
            case hy18x0 => intro w hSw; go_simp <;> with_reducible rfl
            simp only [Act.put, List.getElem_toArray, List.getElem_cons_zero, List.setIfInBounds_toArray, List.set_cons_zero, List.set_cons_succ]
            refine wpAnyH_take (i := 1) (v := ?v19x1) rfl (by kernel_rfl) (by kernel_rfl) (by kernel_rfl) (fun _ _ _ h => h) (Or.inl ⟨by rfl, ?hy19x1⟩) (by assumption) ?rest19x1
            case hy19x1 => intro w hSw; go_simp <;> with_reducible rfl
            simp only [Act.put, List.getElem_toArray, List.getElem_cons_zero, List.getElem_cons_succ, List.setIfInBounds_toArray, List.set_cons_zero, List.set_cons_succ]
            refine wpAnyH_take (i := 2) (v := ?v20x2) rfl (by kernel_rfl) (by kernel_rfl) (by kernel_rfl) (fun _ _ _ h => h) (Or.inl ⟨by rfl, ?hy20x2⟩) (by assumption) ?rest20x2
            case hy20x2 => intro w hSw; go_simp <;> with_reducible rfl
            simp only [Act.put, List.getElem_toArray, List.getElem_cons_zero, List.getElem_cons_succ, List.setIfInBounds_toArray, List.set_cons_zero, List.set_cons_succ]
            refine wpAnyH_take (i := 3) (v := (.bool true)) rfl (by kernel_rfl) (by kernel_rfl) (by kernel_rfl) (fun _ _ _ h => h) (Or.inl ⟨by rfl, ?hy21x3⟩) (by assumption) ?rest21x3
            case hy21x3 => intro w hSw; go_simp <;> with_reducible rfl
            simp only [Act.put, List.getElem_toArray, List.getElem_cons_zero, List.getElem_cons_succ, List.setIfInBounds_toArray, List.set_cons_zero, List.set_cons_succ]
            refine wpAnyH_take (i := 4) (v := (.bool true)) rfl (by kernel_rfl) (by kernel_rfl) (by kernel_rfl) (fun _ _ _ h => h) (Or.inl ⟨by rfl, ?hy22x4⟩) (by assumption) ?rest22x4
            case hy22x4 => intro w hSw; go_simp <;> with_reducible rfl
            simp only [Act.put, List.getElem_toArray, List.getElem_cons_zero, List.getElem_cons_succ, List.setIfInBounds_toArray, List.set_cons_zero, List.set_cons_succ]
            refine wpAnyH_take (i := 5) (v := ?v23x5) rfl (by kernel_rfl) (by kernel_rfl) (by kernel_rfl) (fun _ _ _ h => h) (Or.inl ⟨by rfl, ?hy23x5⟩) (by assumption) ?rest23x5
            case hy23x5 => intro w hSw; go_simp <;> with_reducible rfl
            simp only [Act.put, List.getElem_toArray, List.getElem_cons_zero, List.getElem_cons_succ, List.setIfInBounds_toArray, List.set_cons_zero, List.set_cons_succ]
            refine wpAnyH_take (i := 6) (v := ?v24x6) rfl (by kernel_rfl) (by kernel_rfl) (by kernel_rfl) (fun _ _ _ h => h) (Or.inl ⟨by rfl, ?hy24x6⟩) (by assumption) ?rest24x6
            case hy24x6 => intro w hSw; go_simp <;> with_reducible rfl
            simp only [Act.put, List.getElem_toArray, List.getElem_cons_zero, List.getElem_cons_succ, List.setIfInBounds_toArray, List.set_cons_zero, List.set_cons_succ]
            refine wpAnyH_take (i := 7) (v := ?v25x7) rfl (by kernel_rfl) (by kernel_rfl) (by kernel_rfl) (fun _ _ _ h => h) (Or.inl ⟨by rfl, ?hy25x7⟩) (by assumption) ?rest25x7
            case hy25x7 => intro w hSw; go_simp <;> with_reducible rfl
            simp only [Act.put, List.getElem_toArray, List.getElem_cons_zero, List.getElem_cons_succ, List.setIfInBounds_toArray, List.set_cons_zero, List.set_cons_succ]
            refine wpAnyH_take (i := 8) (v := ?v26x8) rfl (by kernel_rfl) (by kernel_rfl) (by kernel_rfl) (fun _ _ _ h => h) (Or.inl ⟨by rfl, ?hy26x8⟩) (by assumption) ?rest26x8
            case hy26x8 => intro w hSw; go_simp <;> with_reducible rfl
            simp only [Act.put, List.getElem_toArray, List.getElem_cons_zero, List.getElem_cons_succ, List.setIfInBounds_toArray, List.set_cons_zero, List.set_cons_succ]
            refine wpAnyH_take (i := 9) (v := (.agg #[.int .i32 d, .int .i64 f])) rfl (by kernel_rfl) (by kernel_rfl) (by kernel_rfl) (fun _ _ _ h => h) (Or.inl ⟨by rfl, ?hy27x9⟩) (by assumption) ?rest27x9
            case hy27x9 => intro w hSw; obtain ⟨s1, s2, s3⟩ := unhide HCD _ hSw; go_simp <;> with_reducible rfl
            simp only [Act.put, List.getElem_toArray, List.getElem_cons_zero, List.getElem_cons_succ, List.setIfInBounds_toArray, List.set_cons_zero, List.set_cons_succ]
            refine wpAnyH_take (i := 10) (v := ?v28x10) rfl (by kernel_rfl) (by kernel_rfl) (by kernel_rfl) (fun _ _ _ h => h) (Or.inl ⟨by rfl, ?hy28x10⟩) (by assumption) ?rest28x10
            case hy28x10 => intro w hSw; go_simp <;> with_reducible rfl
            simp only [Act.put, List.getElem_toArray, List.getElem_cons_zero, List.getElem_cons_succ, List.setIfInBounds_toArray, List.set_cons_zero, List.set_cons_succ]
            refine wpAnyH_take (i := 11) (v := ?v29x11) rfl (by kernel_rfl) (by kernel_rfl) (by kernel_rfl) (fun _ _ _ h => h) (Or.inl ⟨by rfl, ?hy29x11⟩) (by assumption) ?rest29x11
            case hy29x11 => intro w hSw; go_simp <;> with_reducible rfl
            simp only [Act.put, List.getElem_toArray, List.getElem_cons_zero, List.getElem_cons_succ, List.setIfInBounds_toArray, List.set_cons_zero, List.set_cons_succ]
            refine wpAnyH_take (i := 12) (v := ?v30x12) rfl (by kernel_rfl) (by kernel_rfl) (by kernel_rfl) (fun _ _ _ h => h) (Or.inl ⟨by rfl, ?hy30x12⟩) (by assumption) ?rest30x12
            case hy30x12 => intro w hSw; go_simp <;> with_reducible rfl
            simp only [Act.put, List.getElem_toArray, List.getElem_cons_zero, List.getElem_cons_succ, List.setIfInBounds_toArray, List.set_cons_zero, List.set_cons_succ]
            refine wpAnyH_take (i := 13) (v := ?v31x13) rfl (by kernel_rfl) (by kernel_rfl) (by kernel_rfl) (fun _ _ _ h => h) (Or.inl ⟨by rfl, ?hy31x13⟩) (by assumption) ?rest31x13
            case hy31x13 => intro w hSw; go_simp <;> with_reducible rfl
            simp only [Act.put, List.getElem_toArray, List.getElem_cons_zero, List.getElem_cons_succ, List.setIfInBounds_toArray, List.set_cons_zero, List.set_cons_succ]
            refine wpAnyH_take (i := 14) (v := (.agg #[.int .i32 a, .int .i64 b])) rfl (by kernel_rfl) (by kernel_rfl) (by kernel_rfl) (fun _ _ _ h => h) (Or.inl ⟨by rfl, ?hy32x14⟩) (by assumption) ?rest32x14
            case hy32x14 => intro w hSw; obtain ⟨s1, s2, s3⟩ := unhide HCX _ hSw; go_simp <;> with_reducible rfl
            simp only [Act.put, List.getElem_toArray, List.getElem_cons_zero, List.getElem_cons_succ, List.setIfInBounds_toArray, List.set_cons_zero, List.set_cons_succ]
            refine wpAnyH_ready (rs := [15]) (by kernel_rfl) (by simp) ?_
            refine AllReadyH.cons rfl (fun K hK => ?_) AllReadyH.nil
            go_simp
            refine (unhide HRC _ (by assumption)).mono ?_
            rintro e wq ⟨rfl, hb1⟩
            refine hK _ _ hb1 ?_
            clear hK hHeld
            intro hHeld
            refine wpAnyH_take (i := 16) (v := (.bool false)) rfl (by kernel_rfl) (by kernel_rfl) (by kernel_rfl) (fun _ _ _ h => h) (Or.inl ⟨by rfl, ?hy33x16⟩) (by assumption) ?rest33x16
            case hy33x16 => intro w hSw; go_simp <;> with_reducible rfl
            simp only [Act.put, List.getElem_toArray, List.getElem_cons_zero, List.getElem_cons_succ, List.setIfInBounds_toArray, List.set_cons_zero, List.set_cons_succ]
            refine wpAnyH_take (i := 17) (v := (.bool false)) rfl (by kernel_rfl) (by kernel_rfl) (by kernel_rfl) (fun _ _ _ h => h) (Or.inl ⟨by rfl, ?hy34x17⟩) (by assumption) ?rest34x17
            case hy34x17 => intro w hSw; go_simp <;> with_reducible rfl
            simp only [Act.put, List.getElem_toArray, List.getElem_cons_zero, List.getElem_cons_succ, List.setIfInBounds_toArray, List.set_cons_zero, List.set_cons_succ]
            refine wpAnyH_done (by kernel_rfl) ?_ _
            clear hHeld hnd hneg
            have HB2 := hide hb1
            clear hb1
            obtain ⟨xx, hxx⟩ : ∃ x : World, x = wq := ⟨_, rfl⟩
            rw [← hxx] at HB2 ⊢
            clear hxx
            have hE := eql_key d f a b
            by_cases heq : (d, f) = (a, b)
            · have hqd : decide ((d, f) = (a, b)) = true := decide_eq_true heq
              have HKX : Hid ((keysOf D)[j]? = some (a, b)) := (unhide HDJ).trans (by rw [heq])
              have hXX : Below wo.heap.size wo xx := unhide HB2
              have hsX := (unhide HSD).below pC_len hXX
              have hml : m < 5864062014804 := by omega
              obtain ⟨a1, c1, z1, r1, o1, b1⟩ := insP1 (Z := xx.drew) (j := j) hsX hj (by omega)
              obtain ⟨a2, c2, z2, r2, o2, b2⟩ := insP2 (Z := xx.drew) (Y := z1.alloc (.cells #[.int .i32 a, .int .i64 b, .int .i64 c] 45)) (x := ((a, b), c)) (own_below o1 (below_box _)) (b1.trans ((below_box _).mono b1.size)) (sees_oneP z1 ((a, b), c)) (by omega)
              obtain ⟨a3, c3, z3, r3, o3, b3⟩ := insP3 (Z := xx.drew) (Y := z2.drew) (j := (j + 1)) o2 b2.drew hsX (by omega) (by omega)
              have hsB : SeesL pC 3 (xx.alloc (.cells #[.int .i32 a, .int .i64 b, .int .i64 c] 45)).drew (.slice (some ⟨gd, od, none⟩) m oc) D := hsX.below pC_len ((below_box _).drew)
              obtain ⟨e1, f1, y1, q1, p1, g1⟩ := insP1 (Z := (xx.alloc (.cells #[.int .i32 a, .int .i64 b, .int .i64 c] 45)).drew) (j := j) hsB hj (by omega)
              obtain ⟨e2, f2, y2, q2, p2, g2⟩ := insP2 (Z := (xx.alloc (.cells #[.int .i32 a, .int .i64 b, .int .i64 c] 45)).drew) (vx := .slice (some ⟨xx.heap.size, 0, none⟩) 1 1) (x := ((a, b), c)) p1 g1 (((sees_oneP xx ((a, b), c)).below pC_len ((Below.refl _ _).drew)).below pC_len g1) (by omega)
              obtain ⟨e3, f3, y3, q3, p3, g3⟩ := insP3 (Z := (xx.alloc (.cells #[.int .i32 a, .int .i64 b, .int .i64 c] 45)).drew) (Y := y2.drew) (j := (j + 1)) p2 g2.drew hsB (by omega) (by omega)
              have hins : srtP (l.take (t + 1)) = D.take j ++ [((a, b), c)] ++ D.drop (j + 1) := by
                have h := insQ_plc ((a, b), c) D
                simp only at h
                rw [← unhide HPL, if_pos (unhide HKX)] at h
                rw [unhide HDD, h]
                simp
              have hinl : (srtP (l.take (t + 1))).length = j + 1 + (m - (j + 1)) := by
                rw [hins]
                have := unhide HM
                simp only [List.length_append, List.length_take, List.length_drop, List.length_cons, List.length_nil]
                omega
              have hXs := hXX.size
              have RH3 : Hid (z3.ownsRow w.heap.size 45 3 (.slice a3 (j + 1 + (m - (j + 1))) c3) (srtP (l.take (t + 1))).length ((srtP (l.take (t + 1))).flatMap pC) ∧ Below w.heap.size w z3) := by
                rw [hinl, hins]
                have hb0 := unhide HBW
                exact ⟨own_mono o3 (Nat.le_trans hb0.size hXs), hb0.trans ((hXX.drew.mono hb0.size).trans (b3.mono (Nat.le_trans hb0.size hXs)))⟩
              have RG3 : Hid (y3.ownsRow w.heap.size 45 3 (.slice e3 (j + 1 + (m - (j + 1))) f3) (srtP (l.take (t + 1))).length ((srtP (l.take (t + 1))).flatMap pC) ∧ Below w.heap.size w y3) := by
                rw [hinl, hins]
                have hb0 := unhide HBW
                have hle : w.heap.size ≤ (xx.alloc (.cells #[.int .i32 a, .int .i64 b, .int .i64 c] 45)).drew.heap.size := Nat.le_trans hb0.size (Nat.le_trans hXs (below_box _).size)
                exact ⟨own_mono p3 hle, hb0.trans ((hXX.mono hb0.size).trans ((((below_box _).drew).mono (Nat.le_trans hb0.size hXs)).trans (g3.mono hle)))⟩
              have HW1 : Hid (Below wo.heap.size wo z1 ∧ Below wo.heap.size wo (z1.alloc (.cells #[.int .i32 a, .int .i64 b, .int .i64 c] 45)) ∧ Below wo.heap.size wo z2) := by
                have k1 : Below wo.heap.size wo z1 := hXX.drew.trans (b1.mono hXs)
                exact ⟨k1, k1.alloc k1.size _, hXX.drew.trans (b2.mono hXs)⟩
              have HW2 : Hid (Below wo.heap.size wo (xx.alloc (.cells #[.int .i32 a, .int .i64 b, .int .i64 c] 45)).drew ∧ Below wo.heap.size wo y1 ∧ Below wo.heap.size wo y2) := by
                have k0 : Below wo.heap.size wo (xx.alloc (.cells #[.int .i32 a, .int .i64 b, .int .i64 c] 45)).drew := (hXX.alloc hXs _).drew
                exact ⟨k0, k0.trans (g1.mono k0.size), k0.trans (g2.mono k0.size)⟩
              have HXX := hide hXX
              have hjoc : j ≤ oc := by omega
              have hjjm : (j + 1) ≤ m := by omega
              have HHK := hide (head_pairs (some ⟨gd, od, none⟩) m oc j hjoc)
              have hTK : ∀ w, (Instr.slice 29 (.slice (some ⟨gd, od, none⟩) m oc) (some (.int .i64 ((j : Int) + 1))) none none).run Tryd.prog w = .ok (.slice (if oc = (j + 1) then (some ⟨gd, od, none⟩) else ((some ⟨gd, od, none⟩) : Option Addr).map (·.add ((j + 1) * 3))) (m - (j + 1)) (oc - (j + 1))) w := fun w => tail_pairs (some ⟨gd, od, none⟩) m oc (j + 1) hjjm w
              obtain ⟨tl, htl⟩ : ∃ v : Option Addr, (if oc = (j + 1) then (some ⟨gd, od, none⟩) else ((some ⟨gd, od, none⟩) : Option Addr).map (·.add ((j + 1) * 3))) = v := ⟨_, rfl⟩
              obtain ⟨md, hmd⟩ : ∃ v : Nat, m - (j + 1) = v := ⟨_, rfl⟩
              obtain ⟨cd, hcd⟩ : ∃ v : Nat, oc - (j + 1) = v := ⟨_, rfl⟩
              rw [htl, hmd, hcd] at r3 q3 hTK
              rw [hmd] at RH3 RG3
              have HTK := hide hTK
              have H3 := hide r3
              have G3 := hide q3
              clear htl hmd hcd hTK
              clear hsX hsB o1 b1 o2 b2 o3 b3 p1 g1 p2 g2 p3 g3 hins hinl hXX hXs r3 q3
              go_wp2_with fail
              refine wp_region_held_drew (S := fun x => Below wo.heap.size wo x) (by kernel_rfl) (unhide HXX).drew (fun hHeld => ?_)
              refine wpAnyH_take (i := 0) (v := ?v35x0) rfl (by kernel_rfl) (by kernel_rfl) (by kernel_rfl) (fun _ _ _ h => h) (Or.inl ⟨by rfl, ?hy35x0⟩) (by assumption) ?rest35x0
              case hy35x0 => intro w hSw; go_simp <;> with_reducible rfl
              simp only [Act.put, List.getElem_toArray, List.getElem_cons_zero, List.setIfInBounds_toArray, List.set_cons_zero, List.set_cons_succ]
              refine wpAnyH_take (i := 1) (v := ?v36x1) rfl (by kernel_rfl) (by kernel_rfl) (by kernel_rfl) (fun _ _ _ h => h) (Or.inl ⟨by rfl, ?hy36x1⟩) (by assumption) ?rest36x1
              case hy36x1 => intro w hSw; go_simp <;> with_reducible rfl
              simp only [Act.put, List.getElem_toArray, List.getElem_cons_zero, List.getElem_cons_succ, List.setIfInBounds_toArray, List.set_cons_zero, List.set_cons_succ]
              refine wpAnyH_take (i := 2) (v := ?v37x2) rfl (by kernel_rfl) (by kernel_rfl) (by kernel_rfl) (fun _ _ _ h => h) (Or.inl ⟨by rfl, ?hy37x2⟩) (by assumption) ?rest37x2
              case hy37x2 => intro w hSw; go_simp <;> with_reducible rfl
              simp only [Act.put, List.getElem_toArray, List.getElem_cons_zero, List.getElem_cons_succ, List.setIfInBounds_toArray, List.set_cons_zero, List.set_cons_succ]
              refine wpAnyH_take (i := 3) (v := (.slice (some ⟨gd, od, none⟩) j oc)) rfl (by kernel_rfl) (by kernel_rfl) (by kernel_rfl) (fun _ _ _ h => h) (Or.inl ⟨by rfl, ?hy38x3⟩) (by assumption) ?rest38x3
              case hy38x3 => intro w hSw; exact run_sliceE Tryd.underlying29 rfl rfl (unhide HHK w)
              simp only [Act.put, List.getElem_toArray, List.getElem_cons_zero, List.getElem_cons_succ, List.setIfInBounds_toArray, List.set_cons_zero, List.set_cons_succ]
              refine wpAnyH_take (i := 5) (v := ?v39x5) rfl (by kernel_rfl) (by kernel_rfl) (by kernel_rfl) (fun _ _ _ h => h) (Or.inl ⟨by rfl, ?hy39x5⟩) (by assumption) ?rest39x5
              case hy39x5 => intro w hSw; go_simp <;> with_reducible rfl
              simp only [Act.put, List.getElem_toArray, List.getElem_cons_zero, List.getElem_cons_succ, List.setIfInBounds_toArray, List.set_cons_zero, List.set_cons_succ]
              refine wpAnyH_take (i := 6) (v := ?v40x6) rfl (by kernel_rfl) (by kernel_rfl) (by kernel_rfl) (fun _ _ _ h => h) (Or.inl ⟨by rfl, ?hy40x6⟩) (by assumption) ?rest40x6
              case hy40x6 => intro w hSw; go_simp <;> with_reducible rfl
              simp only [Act.put, List.getElem_toArray, List.getElem_cons_zero, List.getElem_cons_succ, List.setIfInBounds_toArray, List.set_cons_zero, List.set_cons_succ]
              refine wpAnyH_take (i := 7) (v := ?v41x7) rfl (by kernel_rfl) (by kernel_rfl) (by kernel_rfl) (fun _ _ _ h => h) (Or.inl ⟨by rfl, ?hy41x7⟩) (by assumption) ?rest41x7
              case hy41x7 => intro w hSw; go_simp <;> with_reducible rfl
              simp only [Act.put, List.getElem_toArray, List.getElem_cons_zero, List.getElem_cons_succ, List.setIfInBounds_toArray, List.set_cons_zero, List.set_cons_succ]
              refine wpAnyH_take (i := 8) (v := (.agg #[.int .i32 a, .int .i64 b, .int .i64 c])) rfl (by kernel_rfl) (by kernel_rfl) (by kernel_rfl) (fun _ _ _ h => h) (Or.inl ⟨by rfl, ?hy42x8⟩) (by assumption) ?rest42x8
              case hy42x8 => intro w hSw; obtain ⟨s1, s2, s3⟩ := unhide HCX _ hSw; go_simp <;> with_reducible rfl
              simp only [Act.put, List.getElem_toArray, List.getElem_cons_zero, List.getElem_cons_succ, List.setIfInBounds_toArray, List.set_cons_zero, List.set_cons_succ]
              refine wpAnyH_ready (rs := [4, 9]) (by kernel_rfl) (by simp) ?_
              refine AllReadyH.cons rfl (fun K hK => ?_) (AllReadyH.cons rfl (fun K hK => ?_) AllReadyH.nil)
              · rw [if_pos (by rfl)]
                refine append_upon rfl rfl rfl r1 ?_
                simp only [Act.put, List.getElem_toArray, List.getElem_cons_zero, List.getElem_cons_succ, List.setIfInBounds_toArray, List.set_cons_zero, List.set_cons_succ]
                refine hK _ _ (unhide HW1).1 ?_
                clear hK hHeld
                intro hHeld
                refine wpAnyH_ready (rs := [9]) (by kernel_rfl) (by simp) ?_
                refine AllReadyH.cons rfl (fun K hK => ?_) AllReadyH.nil
                go_simp
                refine hK _ _ (unhide HW1).2.1 ?_
                clear hK hHeld
                intro hHeld
                refine wpAnyH_ready (rs := [10]) (by kernel_rfl) (by simp) ?_
                refine AllReadyH.cons rfl (fun K hK => ?_) AllReadyH.nil
                rw [if_pos (by rfl)]
                refine append_upon rfl rfl rfl r2 ?_
                simp only [Act.put, List.getElem_toArray, List.getElem_cons_zero, List.getElem_cons_succ, List.setIfInBounds_toArray, List.set_cons_zero, List.set_cons_succ]
                refine hK _ _ (unhide HW1).2.2 ?_
                clear hK hHeld
                intro hHeld
                refine wpAnyH_take (i := 11) (v := ?v43x11) rfl (by kernel_rfl) (by kernel_rfl) (by kernel_rfl) (fun _ _ _ h => h) (Or.inl ⟨by rfl, ?hy43x11⟩) (by assumption) ?rest43x11
                case hy43x11 => intro w hSw; go_simp <;> with_reducible rfl
                simp only [Act.put, List.getElem_toArray, List.getElem_cons_zero, List.getElem_cons_succ, List.setIfInBounds_toArray, List.set_cons_zero, List.set_cons_succ]
                refine wpAnyH_done (by kernel_rfl) ?_ _
                clear hHeld
                go_wp2_with fail
                refine wp_region_held_drew (S := fun x => Below wo.heap.size wo x) (by kernel_rfl) (unhide HW1).2.2.drew (fun hHeld => ?_)
                refine wpAnyH_take (i := 0) (v := ?v44x0) rfl (by kernel_rfl) (by kernel_rfl) (by kernel_rfl) (fun _ _ _ h => h) (Or.inl ⟨by rfl, ?hy44x0⟩) (by assumption) ?rest44x0
                case hy44x0 => intro w hSw; go_simp <;> with_reducible rfl
                simp only [Act.put, List.getElem_toArray, List.getElem_cons_zero, List.setIfInBounds_toArray, List.set_cons_zero, List.set_cons_succ]
                refine wpAnyH_take (i := 1) (v := ?v45x1) rfl (by kernel_rfl) (by kernel_rfl) (by kernel_rfl) (fun _ _ _ h => h) (Or.inl ⟨by rfl, ?hy45x1⟩) (by assumption) ?rest45x1
                case hy45x1 => intro w hSw; go_simp <;> with_reducible rfl
                simp only [Act.put, List.getElem_toArray, List.getElem_cons_zero, List.getElem_cons_succ, List.setIfInBounds_toArray, List.set_cons_zero, List.set_cons_succ]
                refine wpAnyH_take (i := 2) (v := ?v46x2) rfl (by kernel_rfl) (by kernel_rfl) (by kernel_rfl) (fun _ _ _ h => h) (Or.inl ⟨by rfl, ?hy46x2⟩) (by assumption) ?rest46x2
                case hy46x2 => intro w hSw; go_simp <;> with_reducible rfl
                simp only [Act.put, List.getElem_toArray, List.getElem_cons_zero, List.getElem_cons_succ, List.setIfInBounds_toArray, List.set_cons_zero, List.set_cons_succ]
                refine wpAnyH_take (i := 3) (v := (.bool true)) rfl (by kernel_rfl) (by kernel_rfl) (by kernel_rfl) (fun _ _ _ h => h) (Or.inl ⟨by rfl, ?hy47x3⟩) (by assumption) ?rest47x3
                case hy47x3 => intro w hSw; go_simp <;> with_reducible rfl
                simp only [Act.put, List.getElem_toArray, List.getElem_cons_zero, List.getElem_cons_succ, List.setIfInBounds_toArray, List.set_cons_zero, List.set_cons_succ]
                refine wpAnyH_take (i := 4) (v := (.bool true)) rfl (by kernel_rfl) (by kernel_rfl) (by kernel_rfl) (fun _ _ _ h => h) (Or.inl ⟨by rfl, ?hy48x4⟩) (by assumption) ?rest48x4
                case hy48x4 => intro w hSw; go_simp <;> with_reducible rfl
                simp only [Act.put, List.getElem_toArray, List.getElem_cons_zero, List.getElem_cons_succ, List.setIfInBounds_toArray, List.set_cons_zero, List.set_cons_succ]
                refine wpAnyH_take (i := 5) (v := ?v49x5) rfl (by kernel_rfl) (by kernel_rfl) (by kernel_rfl) (fun _ _ _ h => h) (Or.inl ⟨by rfl, ?hy49x5⟩) (by assumption) ?rest49x5
                case hy49x5 => intro w hSw; go_simp <;> with_reducible rfl
                simp only [Act.put, List.getElem_toArray, List.getElem_cons_zero, List.getElem_cons_succ, List.setIfInBounds_toArray, List.set_cons_zero, List.set_cons_succ]
                refine wpAnyH_take (i := 6) (v := ?v50x6) rfl (by kernel_rfl) (by kernel_rfl) (by kernel_rfl) (fun _ _ _ h => h) (Or.inl ⟨by rfl, ?hy50x6⟩) (by assumption) ?rest50x6
                case hy50x6 => intro w hSw; go_simp <;> with_reducible rfl
                simp only [Act.put, List.getElem_toArray, List.getElem_cons_zero, List.getElem_cons_succ, List.setIfInBounds_toArray, List.set_cons_zero, List.set_cons_succ]
                refine wpAnyH_take (i := 7) (v := ?v51x7) rfl (by kernel_rfl) (by kernel_rfl) (by kernel_rfl) (fun _ _ _ h => h) (Or.inl ⟨by rfl, ?hy51x7⟩) (by assumption) ?rest51x7
                case hy51x7 => intro w hSw; go_simp <;> with_reducible rfl
                simp only [Act.put, List.getElem_toArray, List.getElem_cons_zero, List.getElem_cons_succ, List.setIfInBounds_toArray, List.set_cons_zero, List.set_cons_succ]
                refine wpAnyH_take (i := 8) (v := ?v52x8) rfl (by kernel_rfl) (by kernel_rfl) (by kernel_rfl) (fun _ _ _ h => h) (Or.inl ⟨by rfl, ?hy52x8⟩) (by assumption) ?rest52x8
                case hy52x8 => intro w hSw; go_simp <;> with_reducible rfl
                simp only [Act.put, List.getElem_toArray, List.getElem_cons_zero, List.getElem_cons_succ, List.setIfInBounds_toArray, List.set_cons_zero, List.set_cons_succ]
                refine wpAnyH_take (i := 9) (v := (.agg #[.int .i32 d, .int .i64 f])) rfl (by kernel_rfl) (by kernel_rfl) (by kernel_rfl) (fun _ _ _ h => h) (Or.inl ⟨by rfl, ?hy53x9⟩) (by assumption) ?rest53x9
                case hy53x9 => intro w hSw; obtain ⟨s1, s2, s3⟩ := unhide HCD _ hSw; go_simp <;> with_reducible rfl
                simp only [Act.put, List.getElem_toArray, List.getElem_cons_zero, List.getElem_cons_succ, List.setIfInBounds_toArray, List.set_cons_zero, List.set_cons_succ]
                refine wpAnyH_take (i := 10) (v := ?v54x10) rfl (by kernel_rfl) (by kernel_rfl) (by kernel_rfl) (fun _ _ _ h => h) (Or.inl ⟨by rfl, ?hy54x10⟩) (by assumption) ?rest54x10
                case hy54x10 => intro w hSw; go_simp <;> with_reducible rfl
                simp only [Act.put, List.getElem_toArray, List.getElem_cons_zero, List.getElem_cons_succ, List.setIfInBounds_toArray, List.set_cons_zero, List.set_cons_succ]
                refine wpAnyH_take (i := 11) (v := ?v55x11) rfl (by kernel_rfl) (by kernel_rfl) (by kernel_rfl) (fun _ _ _ h => h) (Or.inl ⟨by rfl, ?hy55x11⟩) (by assumption) ?rest55x11
                case hy55x11 => intro w hSw; go_simp <;> with_reducible rfl
                simp only [Act.put, List.getElem_toArray, List.getElem_cons_zero, List.getElem_cons_succ, List.setIfInBounds_toArray, List.set_cons_zero, List.set_cons_succ]
                refine wpAnyH_take (i := 12) (v := ?v56x12) rfl (by kernel_rfl) (by kernel_rfl) (by kernel_rfl) (fun _ _ _ h => h) (Or.inl ⟨by rfl, ?hy56x12⟩) (by assumption) ?rest56x12
                case hy56x12 => intro w hSw; go_simp <;> with_reducible rfl
                simp only [Act.put, List.getElem_toArray, List.getElem_cons_zero, List.getElem_cons_succ, List.setIfInBounds_toArray, List.set_cons_zero, List.set_cons_succ]
                refine wpAnyH_take (i := 13) (v := ?v57x13) rfl (by kernel_rfl) (by kernel_rfl) (by kernel_rfl) (fun _ _ _ h => h) (Or.inl ⟨by rfl, ?hy57x13⟩) (by assumption) ?rest57x13
                case hy57x13 => intro w hSw; go_simp <;> with_reducible rfl
                simp only [Act.put, List.getElem_toArray, List.getElem_cons_zero, List.getElem_cons_succ, List.setIfInBounds_toArray, List.set_cons_zero, List.set_cons_succ]
                refine wpAnyH_take (i := 14) (v := (.agg #[.int .i32 a, .int .i64 b])) rfl (by kernel_rfl) (by kernel_rfl) (by kernel_rfl) (fun _ _ _ h => h) (Or.inl ⟨by rfl, ?hy58x14⟩) (by assumption) ?rest58x14
                case hy58x14 => intro w hSw; obtain ⟨s1, s2, s3⟩ := unhide HCX _ hSw; go_simp <;> with_reducible rfl
                simp only [Act.put, List.getElem_toArray, List.getElem_cons_zero, List.getElem_cons_succ, List.setIfInBounds_toArray, List.set_cons_zero, List.set_cons_succ]
                refine wpAnyH_take (i := 15) (v := (.bool true)) rfl (by kernel_rfl) (by kernel_rfl) (by kernel_rfl) (fun _ _ _ h => h) (Or.inl ⟨by rfl, ?hy59x15⟩) (by assumption) ?rest59x15
                case hy59x15 => intro w hSw; go_simp <;> with_reducible rfl
                simp only [Act.put, List.getElem_toArray, List.getElem_cons_zero, List.getElem_cons_succ, List.setIfInBounds_toArray, List.set_cons_zero, List.set_cons_succ]
                refine wpAnyH_take (i := 16) (v := (.bool true)) rfl (by kernel_rfl) (by kernel_rfl) (by kernel_rfl) (fun _ _ _ h => h) (Or.inl ⟨by rfl, ?hy60x16⟩) (by assumption) ?rest60x16
                case hy60x16 => intro w hSw; go_simp <;> with_reducible rfl
                simp only [Act.put, List.getElem_toArray, List.getElem_cons_zero, List.getElem_cons_succ, List.setIfInBounds_toArray, List.set_cons_zero, List.set_cons_succ]
                refine wpAnyH_done (by kernel_rfl) ?_ _
                clear hHeld hE hqd hjd
                go_wp2_with (first | (refine wpList_slice_wanted (by rfl) Tryd.underlying29 rfl rfl (unhide HTK _) ?_) | (refine wpList_append_wanted (by rfl) _ _ 29 rfl rfl rfl (unhide H3) ?_))
                go_roundw
                case rel => exact ⟨t + 1, by omega, by go_num, unhide RH3⟩
                case measure => simp [intOf]; omega
              · go_simp
                refine hK _ _ (unhide HW2).1 ?_
                clear hK hHeld
                intro hHeld
                refine wpAnyH_ready (rs := [4]) (by kernel_rfl) (by simp) ?_
                refine AllReadyH.cons rfl (fun K hK => ?_) AllReadyH.nil
                rw [if_pos (by rfl)]
                refine append_upon rfl rfl rfl q1 ?_
                simp only [Act.put, List.getElem_toArray, List.getElem_cons_zero, List.getElem_cons_succ, List.setIfInBounds_toArray, List.set_cons_zero, List.set_cons_succ]
                refine hK _ _ (unhide HW2).2.1 ?_
                clear hK hHeld
                intro hHeld
                refine wpAnyH_ready (rs := [10]) (by kernel_rfl) (by simp) ?_
                refine AllReadyH.cons rfl (fun K hK => ?_) AllReadyH.nil
                rw [if_pos (by rfl)]
                refine append_upon rfl rfl rfl q2 ?_
                simp only [Act.put, List.getElem_toArray, List.getElem_cons_zero, List.getElem_cons_succ, List.setIfInBounds_toArray, List.set_cons_zero, List.set_cons_succ]
                refine hK _ _ (unhide HW2).2.2 ?_
                clear hK hHeld
                intro hHeld
                refine wpAnyH_take (i := 11) (v := ?v61x11) rfl (by kernel_rfl) (by kernel_rfl) (by kernel_rfl) (fun _ _ _ h => h) (Or.inl ⟨by rfl, ?hy61x11⟩) (by assumption) ?rest61x11
                case hy61x11 => intro w hSw; go_simp <;> with_reducible rfl
                simp only [Act.put, List.getElem_toArray, List.getElem_cons_zero, List.getElem_cons_succ, List.setIfInBounds_toArray, List.set_cons_zero, List.set_cons_succ]
                refine wpAnyH_done (by kernel_rfl) ?_ _
                clear hHeld
                go_wp2_with fail
                refine wp_region_held_drew (S := fun x => Below wo.heap.size wo x) (by kernel_rfl) (unhide HW2).2.2.drew (fun hHeld => ?_)
                refine wpAnyH_take (i := 0) (v := ?v62x0) rfl (by kernel_rfl) (by kernel_rfl) (by kernel_rfl) (fun _ _ _ h => h) (Or.inl ⟨by rfl, ?hy62x0⟩) (by assumption) ?rest62x0
                case hy62x0 => intro w hSw; go_simp <;> with_reducible rfl
                simp only [Act.put, List.getElem_toArray, List.getElem_cons_zero, List.setIfInBounds_toArray, List.set_cons_zero, List.set_cons_succ]
                refine wpAnyH_take (i := 1) (v := ?v63x1) rfl (by kernel_rfl) (by kernel_rfl) (by kernel_rfl) (fun _ _ _ h => h) (Or.inl ⟨by rfl, ?hy63x1⟩) (by assumption) ?rest63x1
                case hy63x1 => intro w hSw; go_simp <;> with_reducible rfl
                simp only [Act.put, List.getElem_toArray, List.getElem_cons_zero, List.getElem_cons_succ, List.setIfInBounds_toArray, List.set_cons_zero, List.set_cons_succ]
                refine wpAnyH_take (i := 2) (v := ?v64x2) rfl (by kernel_rfl) (by kernel_rfl) (by kernel_rfl) (fun _ _ _ h => h) (Or.inl ⟨by rfl, ?hy64x2⟩) (by assumption) ?rest64x2
                case hy64x2 => intro w hSw; go_simp <;> with_reducible rfl
                simp only [Act.put, List.getElem_toArray, List.getElem_cons_zero, List.getElem_cons_succ, List.setIfInBounds_toArray, List.set_cons_zero, List.set_cons_succ]
                refine wpAnyH_take (i := 3) (v := (.bool true)) rfl (by kernel_rfl) (by kernel_rfl) (by kernel_rfl) (fun _ _ _ h => h) (Or.inl ⟨by rfl, ?hy65x3⟩) (by assumption) ?rest65x3
                case hy65x3 => intro w hSw; go_simp <;> with_reducible rfl
                simp only [Act.put, List.getElem_toArray, List.getElem_cons_zero, List.getElem_cons_succ, List.setIfInBounds_toArray, List.set_cons_zero, List.set_cons_succ]
                refine wpAnyH_take (i := 4) (v := (.bool true)) rfl (by kernel_rfl) (by kernel_rfl) (by kernel_rfl) (fun _ _ _ h => h) (Or.inl ⟨by rfl, ?hy66x4⟩) (by assumption) ?rest66x4
                case hy66x4 => intro w hSw; go_simp <;> with_reducible rfl
                simp only [Act.put, List.getElem_toArray, List.getElem_cons_zero, List.getElem_cons_succ, List.setIfInBounds_toArray, List.set_cons_zero, List.set_cons_succ]
                refine wpAnyH_take (i := 5) (v := ?v67x5) rfl (by kernel_rfl) (by kernel_rfl) (by kernel_rfl) (fun _ _ _ h => h) (Or.inl ⟨by rfl, ?hy67x5⟩) (by assumption) ?rest67x5
                case hy67x5 => intro w hSw; go_simp <;> with_reducible rfl
                simp only [Act.put, List.getElem_toArray, List.getElem_cons_zero, List.getElem_cons_succ, List.setIfInBounds_toArray, List.set_cons_zero, List.set_cons_succ]
                refine wpAnyH_take (i := 6) (v := ?v68x6) rfl (by kernel_rfl) (by kernel_rfl) (by kernel_rfl) (fun _ _ _ h => h) (Or.inl ⟨by rfl, ?hy68x6⟩) (by assumption) ?rest68x6
                case hy68x6 => intro w hSw; go_simp <;> with_reducible rfl
                simp only [Act.put, List.getElem_toArray, List.getElem_cons_zero, List.getElem_cons_succ, List.setIfInBounds_toArray, List.set_cons_zero, List.set_cons_succ]
                refine wpAnyH_take (i := 7) (v := ?v69x7) rfl (by kernel_rfl) (by kernel_rfl) (by kernel_rfl) (fun _ _ _ h => h) (Or.inl ⟨by rfl, ?hy69x7⟩) (by assumption) ?rest69x7
                case hy69x7 => intro w hSw; go_simp <;> with_reducible rfl
                simp only [Act.put, List.getElem_toArray, List.getElem_cons_zero, List.getElem_cons_succ, List.setIfInBounds_toArray, List.set_cons_zero, List.set_cons_succ]
                refine wpAnyH_take (i := 8) (v := ?v70x8) rfl (by kernel_rfl) (by kernel_rfl) (by kernel_rfl) (fun _ _ _ h => h) (Or.inl ⟨by rfl, ?hy70x8⟩) (by assumption) ?rest70x8
                case hy70x8 => intro w hSw; go_simp <;> with_reducible rfl
                simp only [Act.put, List.getElem_toArray, List.getElem_cons_zero, List.getElem_cons_succ, List.setIfInBounds_toArray, List.set_cons_zero, List.set_cons_succ]
                refine wpAnyH_take (i := 9) (v := (.agg #[.int .i32 d, .int .i64 f])) rfl (by kernel_rfl) (by kernel_rfl) (by kernel_rfl) (fun _ _ _ h => h) (Or.inl ⟨by rfl, ?hy71x9⟩) (by assumption) ?rest71x9
                case hy71x9 => intro w hSw; obtain ⟨s1, s2, s3⟩ := unhide HCD _ hSw; go_simp <;> with_reducible rfl
                simp only [Act.put, List.getElem_toArray, List.getElem_cons_zero, List.getElem_cons_succ, List.setIfInBounds_toArray, List.set_cons_zero, List.set_cons_succ]
                refine wpAnyH_take (i := 10) (v := ?v72x10) rfl (by kernel_rfl) (by kernel_rfl) (by kernel_rfl) (fun _ _ _ h => h) (Or.inl ⟨by rfl, ?hy72x10⟩) (by assumption) ?rest72x10
                case hy72x10 => intro w hSw; go_simp <;> with_reducible rfl
                simp only [Act.put, List.getElem_toArray, List.getElem_cons_zero, List.getElem_cons_succ, List.setIfInBounds_toArray, List.set_cons_zero, List.set_cons_succ]
                refine wpAnyH_take (i := 11) (v := ?v73x11) rfl (by kernel_rfl) (by kernel_rfl) (by kernel_rfl) (fun _ _ _ h => h) (Or.inl ⟨by rfl, ?hy73x11⟩) (by assumption) ?rest73x11
                case hy73x11 => intro w hSw; go_simp <;> with_reducible rfl
                simp only [Act.put, List.getElem_toArray, List.getElem_cons_zero, List.getElem_cons_succ, List.setIfInBounds_toArray, List.set_cons_zero, List.set_cons_succ]
                refine wpAnyH_take (i := 12) (v := ?v74x12) rfl (by kernel_rfl) (by kernel_rfl) (by kernel_rfl) (fun _ _ _ h => h) (Or.inl ⟨by rfl, ?hy74x12⟩) (by assumption) ?rest74x12
                case hy74x12 => intro w hSw; go_simp <;> with_reducible rfl
                simp only [Act.put, List.getElem_toArray, List.getElem_cons_zero, List.getElem_cons_succ, List.setIfInBounds_toArray, List.set_cons_zero, List.set_cons_succ]
                refine wpAnyH_take (i := 13) (v := ?v75x13) rfl (by kernel_rfl) (by kernel_rfl) (by kernel_rfl) (fun _ _ _ h => h) (Or.inl ⟨by rfl, ?hy75x13⟩) (by assumption) ?rest75x13
                case hy75x13 => intro w hSw; go_simp <;> with_reducible rfl
                simp only [Act.put, List.getElem_toArray, List.getElem_cons_zero, List.getElem_cons_succ, List.setIfInBounds_toArray, List.set_cons_zero, List.set_cons_succ]
                refine wpAnyH_take (i := 14) (v := (.agg #[.int .i32 a, .int .i64 b])) rfl (by kernel_rfl) (by kernel_rfl) (by kernel_rfl) (fun _ _ _ h => h) (Or.inl ⟨by rfl, ?hy76x14⟩) (by assumption) ?rest76x14
                case hy76x14 => intro w hSw; obtain ⟨s1, s2, s3⟩ := unhide HCX _ hSw; go_simp <;> with_reducible rfl
                simp only [Act.put, List.getElem_toArray, List.getElem_cons_zero, List.getElem_cons_succ, List.setIfInBounds_toArray, List.set_cons_zero, List.set_cons_succ]
                refine wpAnyH_take (i := 15) (v := (.bool true)) rfl (by kernel_rfl) (by kernel_rfl) (by kernel_rfl) (fun _ _ _ h => h) (Or.inl ⟨by rfl, ?hy77x15⟩) (by assumption) ?rest77x15
                case hy77x15 => intro w hSw; go_simp <;> with_reducible rfl
                simp only [Act.put, List.getElem_toArray, List.getElem_cons_zero, List.getElem_cons_succ, List.setIfInBounds_toArray, List.set_cons_zero, List.set_cons_succ]
                refine wpAnyH_take (i := 16) (v := (.bool true)) rfl (by kernel_rfl) (by kernel_rfl) (by kernel_rfl) (fun _ _ _ h => h) (Or.inl ⟨by rfl, ?hy78x16⟩) (by assumption) ?rest78x16
                case hy78x16 => intro w hSw; go_simp <;> with_reducible rfl
                simp only [Act.put, List.getElem_toArray, List.getElem_cons_zero, List.getElem_cons_succ, List.setIfInBounds_toArray, List.set_cons_zero, List.set_cons_succ]
                refine wpAnyH_done (by kernel_rfl) ?_ _
                clear hHeld hE hqd hjd
                go_wp2_with (first | (refine wpList_slice_wanted (by rfl) Tryd.underlying29 rfl rfl (unhide HTK _) ?_) | (refine wpList_append_wanted (by rfl) _ _ 29 rfl rfl rfl (unhide G3) ?_))
                go_roundw
                case rel => exact ⟨t + 1, by omega, by go_num, unhide RG3⟩
                case measure => simp [intOf]; omega
            · have hqd : decide ((d, f) = (a, b)) = false := decide_eq_false heq
              have HKX : Hid (¬ (keysOf D)[j]? = some (a, b)) := fun c => by rw [unhide HDJ] at c; exact heq (Option.some.inj c)
              have hXX : Below wo.heap.size wo xx := unhide HB2
              have hsX := (unhide HSD).below pC_len hXX
              have hml : m < 5864062014804 := by omega
              obtain ⟨a1, c1, z1, r1, o1, b1⟩ := insP1 (Z := xx.drew) (j := j) hsX hj (by omega)
              obtain ⟨a2, c2, z2, r2, o2, b2⟩ := insP2 (Z := xx.drew) (Y := z1.alloc (.cells #[.int .i32 a, .int .i64 b, .int .i64 c] 45)) (x := ((a, b), c)) (own_below o1 (below_box _)) (b1.trans ((below_box _).mono b1.size)) (sees_oneP z1 ((a, b), c)) (by omega)
              obtain ⟨a3, c3, z3, r3, o3, b3⟩ := insP3 (Z := xx.drew) (Y := z2.drew) (j := j) o2 b2.drew hsX (by omega) (by omega)
              have hsB : SeesL pC 3 (xx.alloc (.cells #[.int .i32 a, .int .i64 b, .int .i64 c] 45)).drew (.slice (some ⟨gd, od, none⟩) m oc) D := hsX.below pC_len ((below_box _).drew)
              obtain ⟨e1, f1, y1, q1, p1, g1⟩ := insP1 (Z := (xx.alloc (.cells #[.int .i32 a, .int .i64 b, .int .i64 c] 45)).drew) (j := j) hsB hj (by omega)
              obtain ⟨e2, f2, y2, q2, p2, g2⟩ := insP2 (Z := (xx.alloc (.cells #[.int .i32 a, .int .i64 b, .int .i64 c] 45)).drew) (vx := .slice (some ⟨xx.heap.size, 0, none⟩) 1 1) (x := ((a, b), c)) p1 g1 (((sees_oneP xx ((a, b), c)).below pC_len ((Below.refl _ _).drew)).below pC_len g1) (by omega)
              obtain ⟨e3, f3, y3, q3, p3, g3⟩ := insP3 (Z := (xx.alloc (.cells #[.int .i32 a, .int .i64 b, .int .i64 c] 45)).drew) (Y := y2.drew) (j := j) p2 g2.drew hsB (by omega) (by omega)
              have hins : srtP (l.take (t + 1)) = D.take j ++ [((a, b), c)] ++ D.drop j := by
                have h := insQ_plc ((a, b), c) D
                simp only at h
                rw [← unhide HPL, if_neg (unhide HKX)] at h
                rw [unhide HDD, h]
                simp
              have hinl : (srtP (l.take (t + 1))).length = j + 1 + (m - j) := by
                rw [hins]
                have := unhide HM
                simp only [List.length_append, List.length_take, List.length_drop, List.length_cons, List.length_nil]
                omega
              have hXs := hXX.size
              have RH3 : Hid (z3.ownsRow w.heap.size 45 3 (.slice a3 (j + 1 + (m - j)) c3) (srtP (l.take (t + 1))).length ((srtP (l.take (t + 1))).flatMap pC) ∧ Below w.heap.size w z3) := by
                rw [hinl, hins]
                have hb0 := unhide HBW
                exact ⟨own_mono o3 (Nat.le_trans hb0.size hXs), hb0.trans ((hXX.drew.mono hb0.size).trans (b3.mono (Nat.le_trans hb0.size hXs)))⟩
              have RG3 : Hid (y3.ownsRow w.heap.size 45 3 (.slice e3 (j + 1 + (m - j)) f3) (srtP (l.take (t + 1))).length ((srtP (l.take (t + 1))).flatMap pC) ∧ Below w.heap.size w y3) := by
                rw [hinl, hins]
                have hb0 := unhide HBW
                have hle : w.heap.size ≤ (xx.alloc (.cells #[.int .i32 a, .int .i64 b, .int .i64 c] 45)).drew.heap.size := Nat.le_trans hb0.size (Nat.le_trans hXs (below_box _).size)
                exact ⟨own_mono p3 hle, hb0.trans ((hXX.mono hb0.size).trans ((((below_box _).drew).mono (Nat.le_trans hb0.size hXs)).trans (g3.mono hle)))⟩
              have HW1 : Hid (Below wo.heap.size wo z1 ∧ Below wo.heap.size wo (z1.alloc (.cells #[.int .i32 a, .int .i64 b, .int .i64 c] 45)) ∧ Below wo.heap.size wo z2) := by
                have k1 : Below wo.heap.size wo z1 := hXX.drew.trans (b1.mono hXs)
                exact ⟨k1, k1.alloc k1.size _, hXX.drew.trans (b2.mono hXs)⟩
              have HW2 : Hid (Below wo.heap.size wo (xx.alloc (.cells #[.int .i32 a, .int .i64 b, .int .i64 c] 45)).drew ∧ Below wo.heap.size wo y1 ∧ Below wo.heap.size wo y2) := by
                have k0 : Below wo.heap.size wo (xx.alloc (.cells #[.int .i32 a, .int .i64 b, .int .i64 c] 45)).drew := (hXX.alloc hXs _).drew
                exact ⟨k0, k0.trans (g1.mono k0.size), k0.trans (g2.mono k0.size)⟩
              have HXX := hide hXX
              have hjoc : j ≤ oc := by omega
              have hjjm : j ≤ m := by omega
              have HHK := hide (head_pairs (some ⟨gd, od, none⟩) m oc j hjoc)
              have hTK : ∀ w, (Instr.slice 29 (.slice (some ⟨gd, od, none⟩) m oc) (some (.int .i64 (j : Int))) none none).run Tryd.prog w = .ok (.slice (if oc = j then (some ⟨gd, od, none⟩) else ((some ⟨gd, od, none⟩) : Option Addr).map (·.add (j * 3))) (m - j) (oc - j)) w := fun w => tail_pairs (some ⟨gd, od, none⟩) m oc j hjjm w
              obtain ⟨tl, htl⟩ : ∃ v : Option Addr, (if oc = j then (some ⟨gd, od, none⟩) else ((some ⟨gd, od, none⟩) : Option Addr).map (·.add (j * 3))) = v := ⟨_, rfl⟩
              obtain ⟨md, hmd⟩ : ∃ v : Nat, m - j = v := ⟨_, rfl⟩
              obtain ⟨cd, hcd⟩ : ∃ v : Nat, oc - j = v := ⟨_, rfl⟩
              rw [htl, hmd, hcd] at r3 q3 hTK
              rw [hmd] at RH3 RG3
              have HTK := hide hTK
              have H3 := hide r3
              have G3 := hide q3
              clear htl hmd hcd hTK
              clear hsX hsB o1 b1 o2 b2 o3 b3 p1 g1 p2 g2 p3 g3 hins hinl hXX hXs r3 q3
              go_wp2_with fail
              refine wp_region_held_drew (S := fun x => Below wo.heap.size wo x) (by kernel_rfl) (unhide HXX).drew (fun hHeld => ?_)
              refine wpAnyH_take (i := 0) (v := ?v79x0) rfl (by kernel_rfl) (by kernel_rfl) (by kernel_rfl) (fun _ _ _ h => h) (Or.inl ⟨by rfl, ?hy79x0⟩) (by assumption) ?rest79x0
              case hy79x0 => intro w hSw; go_simp <;> with_reducible rfl
              simp only [Act.put, List.getElem_toArray, List.getElem_cons_zero, List.setIfInBounds_toArray, List.set_cons_zero, List.set_cons_succ]
              refine wpAnyH_take (i := 1) (v := ?v80x1) rfl (by kernel_rfl) (by kernel_rfl) (by kernel_rfl) (fun _ _ _ h => h) (Or.inl ⟨by rfl, ?hy80x1⟩) (by assumption) ?rest80x1
              case hy80x1 => intro w hSw; go_simp <;> with_reducible rfl
              simp only [Act.put, List.getElem_toArray, List.getElem_cons_zero, List.getElem_cons_succ, List.setIfInBounds_toArray, List.set_cons_zero, List.set_cons_succ]
              refine wpAnyH_take (i := 2) (v := ?v81x2) rfl (by kernel_rfl) (by kernel_rfl) (by kernel_rfl) (fun _ _ _ h => h) (Or.inl ⟨by rfl, ?hy81x2⟩) (by assumption) ?rest81x2
              case hy81x2 => intro w hSw; go_simp <;> with_reducible rfl
              simp only [Act.put, List.getElem_toArray, List.getElem_cons_zero, List.getElem_cons_succ, List.setIfInBounds_toArray, List.set_cons_zero, List.set_cons_succ]
              refine wpAnyH_take (i := 3) (v := (.slice (some ⟨gd, od, none⟩) j oc)) rfl (by kernel_rfl) (by kernel_rfl) (by kernel_rfl) (fun _ _ _ h => h) (Or.inl ⟨by rfl, ?hy82x3⟩) (by assumption) ?rest82x3
              case hy82x3 => intro w hSw; exact run_sliceE Tryd.underlying29 rfl rfl (unhide HHK w)
              simp only [Act.put, List.getElem_toArray, List.getElem_cons_zero, List.getElem_cons_succ, List.setIfInBounds_toArray, List.set_cons_zero, List.set_cons_succ]
              refine wpAnyH_take (i := 5) (v := ?v83x5) rfl (by kernel_rfl) (by kernel_rfl) (by kernel_rfl) (fun _ _ _ h => h) (Or.inl ⟨by rfl, ?hy83x5⟩) (by assumption) ?rest83x5
              case hy83x5 => intro w hSw; go_simp <;> with_reducible rfl
              simp only [Act.put, List.getElem_toArray, List.getElem_cons_zero, List.getElem_cons_succ, List.setIfInBounds_toArray, List.set_cons_zero, List.set_cons_succ]
              refine wpAnyH_take (i := 6) (v := ?v84x6) rfl (by kernel_rfl) (by kernel_rfl) (by kernel_rfl) (fun _ _ _ h => h) (Or.inl ⟨by rfl, ?hy84x6⟩) (by assumption) ?rest84x6
              case hy84x6 => intro w hSw; go_simp <;> with_reducible rfl
              simp only [Act.put, List.getElem_toArray, List.getElem_cons_zero, List.getElem_cons_succ, List.setIfInBounds_toArray, List.set_cons_zero, List.set_cons_succ]
              refine wpAnyH_take (i := 7) (v := ?v85x7) rfl (by kernel_rfl) (by kernel_rfl) (by kernel_rfl) (fun _ _ _ h => h) (Or.inl ⟨by rfl, ?hy85x7⟩) (by assumption) ?rest85x7
              case hy85x7 => intro w hSw; go_simp <;> with_reducible rfl
              simp only [Act.put, List.getElem_toArray, List.getElem_cons_zero, List.getElem_cons_succ, List.setIfInBounds_toArray, List.set_cons_zero, List.set_cons_succ]
              refine wpAnyH_take (i := 8) (v := (.agg #[.int .i32 a, .int .i64 b, .int .i64 c])) rfl (by kernel_rfl) (by kernel_rfl) (by kernel_rfl) (fun _ _ _ h => h) (Or.inl ⟨by rfl, ?hy86x8⟩) (by assumption) ?rest86x8
              case hy86x8 => intro w hSw; obtain ⟨s1, s2, s3⟩ := unhide HCX _ hSw; go_simp <;> with_reducible rfl
              simp only [Act.put, List.getElem_toArray, List.getElem_cons_zero, List.getElem_cons_succ, List.setIfInBounds_toArray, List.set_cons_zero, List.set_cons_succ]
              refine wpAnyH_ready (rs := [4, 9]) (by kernel_rfl) (by simp) ?_
              refine AllReadyH.cons rfl (fun K hK => ?_) (AllReadyH.cons rfl (fun K hK => ?_) AllReadyH.nil)
              · rw [if_pos (by rfl)]
                refine append_upon rfl rfl rfl r1 ?_
                simp only [Act.put, List.getElem_toArray, List.getElem_cons_zero, List.getElem_cons_succ, List.setIfInBounds_toArray, List.set_cons_zero, List.set_cons_succ]
                refine hK _ _ (unhide HW1).1 ?_
                clear hK hHeld
                intro hHeld
                refine wpAnyH_ready (rs := [9]) (by kernel_rfl) (by simp) ?_
                refine AllReadyH.cons rfl (fun K hK => ?_) AllReadyH.nil
                go_simp
                refine hK _ _ (unhide HW1).2.1 ?_
                clear hK hHeld
                intro hHeld
                refine wpAnyH_ready (rs := [10]) (by kernel_rfl) (by simp) ?_
                refine AllReadyH.cons rfl (fun K hK => ?_) AllReadyH.nil
                rw [if_pos (by rfl)]
                refine append_upon rfl rfl rfl r2 ?_
                simp only [Act.put, List.getElem_toArray, List.getElem_cons_zero, List.getElem_cons_succ, List.setIfInBounds_toArray, List.set_cons_zero, List.set_cons_succ]
                refine hK _ _ (unhide HW1).2.2 ?_
                clear hK hHeld
                intro hHeld
                refine wpAnyH_take (i := 11) (v := ?v87x11) rfl (by kernel_rfl) (by kernel_rfl) (by kernel_rfl) (fun _ _ _ h => h) (Or.inl ⟨by rfl, ?hy87x11⟩) (by assumption) ?rest87x11
                case hy87x11 => intro w hSw; go_simp <;> with_reducible rfl
                simp only [Act.put, List.getElem_toArray, List.getElem_cons_zero, List.getElem_cons_succ, List.setIfInBounds_toArray, List.set_cons_zero, List.set_cons_succ]
                refine wpAnyH_done (by kernel_rfl) ?_ _
                clear hHeld
                go_wp2_with fail
                refine wp_region_held_drew (S := fun x => Below wo.heap.size wo x) (by kernel_rfl) (unhide HW1).2.2.drew (fun hHeld => ?_)
                refine wpAnyH_take (i := 0) (v := ?v88x0) rfl (by kernel_rfl) (by kernel_rfl) (by kernel_rfl) (fun _ _ _ h => h) (Or.inl ⟨by rfl, ?hy88x0⟩) (by assumption) ?rest88x0
                case hy88x0 => intro w hSw; go_simp <;> with_reducible rfl
                simp only [Act.put, List.getElem_toArray, List.getElem_cons_zero, List.setIfInBounds_toArray, List.set_cons_zero, List.set_cons_succ]
                refine wpAnyH_take (i := 1) (v := ?v89x1) rfl (by kernel_rfl) (by kernel_rfl) (by kernel_rfl) (fun _ _ _ h => h) (Or.inl ⟨by rfl, ?hy89x1⟩) (by assumption) ?rest89x1
                case hy89x1 => intro w hSw; go_simp <;> with_reducible rfl
                simp only [Act.put, List.getElem_toArray, List.getElem_cons_zero, List.getElem_cons_succ, List.setIfInBounds_toArray, List.set_cons_zero, List.set_cons_succ]
                refine wpAnyH_take (i := 2) (v := ?v90x2) rfl (by kernel_rfl) (by kernel_rfl) (by kernel_rfl) (fun _ _ _ h => h) (Or.inl ⟨by rfl, ?hy90x2⟩) (by assumption) ?rest90x2
                case hy90x2 => intro w hSw; go_simp <;> with_reducible rfl
                simp only [Act.put, List.getElem_toArray, List.getElem_cons_zero, List.getElem_cons_succ, List.setIfInBounds_toArray, List.set_cons_zero, List.set_cons_succ]
                refine wpAnyH_take (i := 3) (v := (.bool true)) rfl (by kernel_rfl) (by kernel_rfl) (by kernel_rfl) (fun _ _ _ h => h) (Or.inl ⟨by rfl, ?hy91x3⟩) (by assumption) ?rest91x3
                case hy91x3 => intro w hSw; go_simp <;> with_reducible rfl
                simp only [Act.put, List.getElem_toArray, List.getElem_cons_zero, List.getElem_cons_succ, List.setIfInBounds_toArray, List.set_cons_zero, List.set_cons_succ]
                refine wpAnyH_take (i := 4) (v := (.bool true)) rfl (by kernel_rfl) (by kernel_rfl) (by kernel_rfl) (fun _ _ _ h => h) (Or.inl ⟨by rfl, ?hy92x4⟩) (by assumption) ?rest92x4
                case hy92x4 => intro w hSw; go_simp <;> with_reducible rfl
                simp only [Act.put, List.getElem_toArray, List.getElem_cons_zero, List.getElem_cons_succ, List.setIfInBounds_toArray, List.set_cons_zero, List.set_cons_succ]
                refine wpAnyH_take (i := 5) (v := ?v93x5) rfl (by kernel_rfl) (by kernel_rfl) (by kernel_rfl) (fun _ _ _ h => h) (Or.inl ⟨by rfl, ?hy93x5⟩) (by assumption) ?rest93x5
                case hy93x5 => intro w hSw; go_simp <;> with_reducible rfl
                simp only [Act.put, List.getElem_toArray, List.getElem_cons_zero, List.getElem_cons_succ, List.setIfInBounds_toArray, List.set_cons_zero, List.set_cons_succ]
                refine wpAnyH_take (i := 6) (v := ?v94x6) rfl (by kernel_rfl) (by kernel_rfl) (by kernel_rfl) (fun _ _ _ h => h) (Or.inl ⟨by rfl, ?hy94x6⟩) (by assumption) ?rest94x6
                case hy94x6 => intro w hSw; go_simp <;> with_reducible rfl
                simp only [Act.put, List.getElem_toArray, List.getElem_cons_zero, List.getElem_cons_succ, List.setIfInBounds_toArray, List.set_cons_zero, List.set_cons_succ]
                refine wpAnyH_take (i := 7) (v := ?v95x7) rfl (by kernel_rfl) (by kernel_rfl) (by kernel_rfl) (fun _ _ _ h => h) (Or.inl ⟨by rfl, ?hy95x7⟩) (by assumption) ?rest95x7
                case hy95x7 => intro w hSw; go_simp <;> with_reducible rfl
                simp only [Act.put, List.getElem_toArray, List.getElem_cons_zero, List.getElem_cons_succ, List.setIfInBounds_toArray, List.set_cons_zero, List.set_cons_succ]
                refine wpAnyH_take (i := 8) (v := ?v96x8) rfl (by kernel_rfl) (by kernel_rfl) (by kernel_rfl) (fun _ _ _ h => h) (Or.inl ⟨by rfl, ?hy96x8⟩) (by assumption) ?rest96x8
                case hy96x8 => intro w hSw; go_simp <;> with_reducible rfl
                simp only [Act.put, List.getElem_toArray, List.getElem_cons_zero, List.getElem_cons_succ, List.setIfInBounds_toArray, List.set_cons_zero, List.set_cons_succ]
                refine wpAnyH_take (i := 9) (v := (.agg #[.int .i32 d, .int .i64 f])) rfl (by kernel_rfl) (by kernel_rfl) (by kernel_rfl) (fun _ _ _ h => h) (Or.inl ⟨by rfl, ?hy97x9⟩) (by assumption) ?rest97x9
                case hy97x9 => intro w hSw; obtain ⟨s1, s2, s3⟩ := unhide HCD _ hSw; go_simp <;> with_reducible rfl
                simp only [Act.put, List.getElem_toArray, List.getElem_cons_zero, List.getElem_cons_succ, List.setIfInBounds_toArray, List.set_cons_zero, List.set_cons_succ]
                refine wpAnyH_take (i := 10) (v := ?v98x10) rfl (by kernel_rfl) (by kernel_rfl) (by kernel_rfl) (fun _ _ _ h => h) (Or.inl ⟨by rfl, ?hy98x10⟩) (by assumption) ?rest98x10
                case hy98x10 => intro w hSw; go_simp <;> with_reducible rfl
                simp only [Act.put, List.getElem_toArray, List.getElem_cons_zero, List.getElem_cons_succ, List.setIfInBounds_toArray, List.set_cons_zero, List.set_cons_succ]
                refine wpAnyH_take (i := 11) (v := ?v99x11) rfl (by kernel_rfl) (by kernel_rfl) (by kernel_rfl) (fun _ _ _ h => h) (Or.inl ⟨by rfl, ?hy99x11⟩) (by assumption) ?rest99x11
                case hy99x11 => intro w hSw; go_simp <;> with_reducible rfl
                simp only [Act.put, List.getElem_toArray, List.getElem_cons_zero, List.getElem_cons_succ, List.setIfInBounds_toArray, List.set_cons_zero, List.set_cons_succ]
                refine wpAnyH_take (i := 12) (v := ?v100x12) rfl (by kernel_rfl) (by kernel_rfl) (by kernel_rfl) (fun _ _ _ h => h) (Or.inl ⟨by rfl, ?hy100x12⟩) (by assumption) ?rest100x12
                case hy100x12 => intro w hSw; go_simp <;> with_reducible rfl
                simp only [Act.put, List.getElem_toArray, List.getElem_cons_zero, List.getElem_cons_succ, List.setIfInBounds_toArray, List.set_cons_zero, List.set_cons_succ]
                refine wpAnyH_take (i := 13) (v := ?v101x13) rfl (by kernel_rfl) (by kernel_rfl) (by kernel_rfl) (fun _ _ _ h => h) (Or.inl ⟨by rfl, ?hy101x13⟩) (by assumption) ?rest101x13
                case hy101x13 => intro w hSw; go_simp <;> with_reducible rfl
                simp only [Act.put, List.getElem_toArray, List.getElem_cons_zero, List.getElem_cons_succ, List.setIfInBounds_toArray, List.set_cons_zero, List.set_cons_succ]
                refine wpAnyH_take (i := 14) (v := (.agg #[.int .i32 a, .int .i64 b])) rfl (by kernel_rfl) (by kernel_rfl) (by kernel_rfl) (fun _ _ _ h => h) (Or.inl ⟨by rfl, ?hy102x14⟩) (by assumption) ?rest102x14
                case hy102x14 => intro w hSw; obtain ⟨s1, s2, s3⟩ := unhide HCX _ hSw; go_simp <;> with_reducible rfl
                simp only [Act.put, List.getElem_toArray, List.getElem_cons_zero, List.getElem_cons_succ, List.setIfInBounds_toArray, List.set_cons_zero, List.set_cons_succ]
                refine wpAnyH_take (i := 15) (v := (.bool false)) rfl (by kernel_rfl) (by kernel_rfl) (by kernel_rfl) (fun _ _ _ h => h) (Or.inl ⟨by rfl, ?hy103x15⟩) (by assumption) ?rest103x15
                case hy103x15 => intro w hSw; go_simp <;> with_reducible rfl
                simp only [Act.put, List.getElem_toArray, List.getElem_cons_zero, List.getElem_cons_succ, List.setIfInBounds_toArray, List.set_cons_zero, List.set_cons_succ]
                refine wpAnyH_take (i := 16) (v := (.bool false)) rfl (by kernel_rfl) (by kernel_rfl) (by kernel_rfl) (fun _ _ _ h => h) (Or.inl ⟨by rfl, ?hy104x16⟩) (by assumption) ?rest104x16
                case hy104x16 => intro w hSw; go_simp <;> with_reducible rfl
                simp only [Act.put, List.getElem_toArray, List.getElem_cons_zero, List.getElem_cons_succ, List.setIfInBounds_toArray, List.set_cons_zero, List.set_cons_succ]
                refine wpAnyH_done (by kernel_rfl) ?_ _
                clear hHeld hE hqd hjd
                go_wp2_with (first | (refine wpList_slice_wanted (by rfl) Tryd.underlying29 rfl rfl (unhide HTK _) ?_) | (refine wpList_append_wanted (by rfl) _ _ 29 rfl rfl rfl (unhide H3) ?_))
                go_roundw
                case rel => exact ⟨t + 1, by omega, by go_num, unhide RH3⟩
                case measure => simp [intOf]; omega
              · go_simp
                refine hK _ _ (unhide HW2).1 ?_
                clear hK hHeld
                intro hHeld
                refine wpAnyH_ready (rs := [4]) (by kernel_rfl) (by simp) ?_
                refine AllReadyH.cons rfl (fun K hK => ?_) AllReadyH.nil
                rw [if_pos (by rfl)]
                refine append_upon rfl rfl rfl q1 ?_
                simp only [Act.put, List.getElem_toArray, List.getElem_cons_zero, List.getElem_cons_succ, List.setIfInBounds_toArray, List.set_cons_zero, List.set_cons_succ]
                refine hK _ _ (unhide HW2).2.1 ?_
                clear hK hHeld
                intro hHeld
                refine wpAnyH_ready (rs := [10]) (by kernel_rfl) (by simp) ?_
                refine AllReadyH.cons rfl (fun K hK => ?_) AllReadyH.nil
                rw [if_pos (by rfl)]
                refine append_upon rfl rfl rfl q2 ?_
                simp only [Act.put, List.getElem_toArray, List.getElem_cons_zero, List.getElem_cons_succ, List.setIfInBounds_toArray, List.set_cons_zero, List.set_cons_succ]
                refine hK _ _ (unhide HW2).2.2 ?_
                clear hK hHeld
                intro hHeld
                refine wpAnyH_take (i := 11) (v := ?v105x11) rfl (by kernel_rfl) (by kernel_rfl) (by kernel_rfl) (fun _ _ _ h => h) (Or.inl ⟨by rfl, ?hy105x11⟩) (by assumption) ?rest105x11
                case hy105x11 => intro w hSw; go_simp <;> with_reducible rfl
                simp only [Act.put, List.getElem_toArray, List.getElem_cons_zero, List.getElem_cons_succ, List.setIfInBounds_toArray, List.set_cons_zero, List.set_cons_succ]
                refine wpAnyH_done (by kernel_rfl) ?_ _
                clear hHeld
                go_wp2_with fail
                refine wp_region_held_drew (S := fun x => Below wo.heap.size wo x) (by kernel_rfl) (unhide HW2).2.2.drew (fun hHeld => ?_)
                refine wpAnyH_take (i := 0) (v := ?v106x0) rfl (by kernel_rfl) (by kernel_rfl) (by kernel_rfl) (fun _ _ _ h => h) (Or.inl ⟨by rfl, ?hy106x0⟩) (by assumption) ?rest106x0
                case hy106x0 => intro w hSw; go_simp <;> with_reducible rfl
                simp only [Act.put, List.getElem_toArray, List.getElem_cons_zero, List.setIfInBounds_toArray, List.set_cons_zero, List.set_cons_succ]
                refine wpAnyH_take (i := 1) (v := ?v107x1) rfl (by kernel_rfl) (by kernel_rfl) (by kernel_rfl) (fun _ _ _ h => h) (Or.inl ⟨by rfl, ?hy107x1⟩) (by assumption) ?rest107x1
                case hy107x1 => intro w hSw; go_simp <;> with_reducible rfl
                simp only [Act.put, List.getElem_toArray, List.getElem_cons_zero, List.getElem_cons_succ, List.setIfInBounds_toArray, List.set_cons_zero, List.set_cons_succ]
                refine wpAnyH_take (i := 2) (v := ?v108x2) rfl (by kernel_rfl) (by kernel_rfl) (by kernel_rfl) (fun _ _ _ h => h) (Or.inl ⟨by rfl, ?hy108x2⟩) (by assumption) ?rest108x2
                case hy108x2 => intro w hSw; go_simp <;> with_reducible rfl
                simp only [Act.put, List.getElem_toArray, List.getElem_cons_zero, List.getElem_cons_succ, List.setIfInBounds_toArray, List.set_cons_zero, List.set_cons_succ]
                refine wpAnyH_take (i := 3) (v := (.bool true)) rfl (by kernel_rfl) (by kernel_rfl) (by kernel_rfl) (fun _ _ _ h => h) (Or.inl ⟨by rfl, ?hy109x3⟩) (by assumption) ?rest109x3
                case hy109x3 => intro w hSw; go_simp <;> with_reducible rfl
                simp only [Act.put, List.getElem_toArray, List.getElem_cons_zero, List.getElem_cons_succ, List.setIfInBounds_toArray, List.set_cons_zero, List.set_cons_succ]
                refine wpAnyH_take (i := 4) (v := (.bool true)) rfl (by kernel_rfl) (by kernel_rfl) (by kernel_rfl) (fun _ _ _ h => h) (Or.inl ⟨by rfl, ?hy110x4⟩) (by assumption) ?rest110x4
                case hy110x4 => intro w hSw; go_simp <;> with_reducible rfl
                simp only [Act.put, List.getElem_toArray, List.getElem_cons_zero, List.getElem_cons_succ, List.setIfInBounds_toArray, List.set_cons_zero, List.set_cons_succ]
                refine wpAnyH_take (i := 5) (v := ?v111x5) rfl (by kernel_rfl) (by kernel_rfl) (by kernel_rfl) (fun _ _ _ h => h) (Or.inl ⟨by rfl, ?hy111x5⟩) (by assumption) ?rest111x5
                case hy111x5 => intro w hSw; go_simp <;> with_reducible rfl
                simp only [Act.put, List.getElem_toArray, List.getElem_cons_zero, List.getElem_cons_succ, List.setIfInBounds_toArray, List.set_cons_zero, List.set_cons_succ]
                refine wpAnyH_take (i := 6) (v := ?v112x6) rfl (by kernel_rfl) (by kernel_rfl) (by kernel_rfl) (fun _ _ _ h => h) (Or.inl ⟨by rfl, ?hy112x6⟩) (by assumption) ?rest112x6
                case hy112x6 => intro w hSw; go_simp <;> with_reducible rfl
                simp only [Act.put, List.getElem_toArray, List.getElem_cons_zero, List.getElem_cons_succ, List.setIfInBounds_toArray, List.set_cons_zero, List.set_cons_succ]
                refine wpAnyH_take (i := 7) (v := ?v113x7) rfl (by kernel_rfl) (by kernel_rfl) (by kernel_rfl) (fun _ _ _ h => h) (Or.inl ⟨by rfl, ?hy113x7⟩) (by assumption) ?rest113x7
                case hy113x7 => intro w hSw; go_simp <;> with_reducible rfl
                simp only [Act.put, List.getElem_toArray, List.getElem_cons_zero, List.getElem_cons_succ, List.setIfInBounds_toArray, List.set_cons_zero, List.set_cons_succ]
                refine wpAnyH_take (i := 8) (v := ?v114x8) rfl (by kernel_rfl) (by kernel_rfl) (by kernel_rfl) (fun _ _ _ h => h) (Or.inl ⟨by rfl, ?hy114x8⟩) (by assumption) ?rest114x8
                case hy114x8 => intro w hSw; go_simp <;> with_reducible rfl
                simp only [Act.put, List.getElem_toArray, List.getElem_cons_zero, List.getElem_cons_succ, List.setIfInBounds_toArray, List.set_cons_zero, List.set_cons_succ]
                refine wpAnyH_take (i := 9) (v := (.agg #[.int .i32 d, .int .i64 f])) rfl (by kernel_rfl) (by kernel_rfl) (by kernel_rfl) (fun _ _ _ h => h) (Or.inl ⟨by rfl, ?hy115x9⟩) (by assumption) ?rest115x9
                case hy115x9 => intro w hSw; obtain ⟨s1, s2, s3⟩ := unhide HCD _ hSw; go_simp <;> with_reducible rfl
                simp only [Act.put, List.getElem_toArray, List.getElem_cons_zero, List.getElem_cons_succ, List.setIfInBounds_toArray, List.set_cons_zero, List.set_cons_succ]
                refine wpAnyH_take (i := 10) (v := ?v116x10) rfl (by kernel_rfl) (by kernel_rfl) (by kernel_rfl) (fun _ _ _ h => h) (Or.inl ⟨by rfl, ?hy116x10⟩) (by assumption) ?rest116x10
                case hy116x10 => intro w hSw; go_simp <;> with_reducible rfl
                simp only [Act.put, List.getElem_toArray, List.getElem_cons_zero, List.getElem_cons_succ, List.setIfInBounds_toArray, List.set_cons_zero, List.set_cons_succ]
                refine wpAnyH_take (i := 11) (v := ?v117x11) rfl (by kernel_rfl) (by kernel_rfl) (by kernel_rfl) (fun _ _ _ h => h) (Or.inl ⟨by rfl, ?hy117x11⟩) (by assumption) ?rest117x11
                case hy117x11 => intro w hSw; go_simp <;> with_reducible rfl
                simp only [Act.put, List.getElem_toArray, List.getElem_cons_zero, List.getElem_cons_succ, List.setIfInBounds_toArray, List.set_cons_zero, List.set_cons_succ]
                refine wpAnyH_take (i := 12) (v := ?v118x12) rfl (by kernel_rfl) (by kernel_rfl) (by kernel_rfl) (fun _ _ _ h => h) (Or.inl ⟨by rfl, ?hy118x12⟩) (by assumption) ?rest118x12
                case hy118x12 => intro w hSw; go_simp <;> with_reducible rfl
                simp only [Act.put, List.getElem_toArray, List.getElem_cons_zero, List.getElem_cons_succ, List.setIfInBounds_toArray, List.set_cons_zero, List.set_cons_succ]
                refine wpAnyH_take (i := 13) (v := ?v119x13) rfl (by kernel_rfl) (by kernel_rfl) (by kernel_rfl) (fun _ _ _ h => h) (Or.inl ⟨by rfl, ?hy119x13⟩) (by assumption) ?rest119x13
                case hy119x13 => intro w hSw; go_simp <;> with_reducible rfl
                simp only [Act.put, List.getElem_toArray, List.getElem_cons_zero, List.getElem_cons_succ, List.setIfInBounds_toArray, List.set_cons_zero, List.set_cons_succ]
                refine wpAnyH_take (i := 14) (v := (.agg #[.int .i32 a, .int .i64 b])) rfl (by kernel_rfl) (by kernel_rfl) (by kernel_rfl) (fun _ _ _ h => h) (Or.inl ⟨by rfl, ?hy120x14⟩) (by assumption) ?rest120x14
                case hy120x14 => intro w hSw; obtain ⟨s1, s2, s3⟩ := unhide HCX _ hSw; go_simp <;> with_reducible rfl
                simp only [Act.put, List.getElem_toArray, List.getElem_cons_zero, List.getElem_cons_succ, List.setIfInBounds_toArray, List.set_cons_zero, List.set_cons_succ]
                refine wpAnyH_take (i := 15) (v := (.bool false)) rfl (by kernel_rfl) (by kernel_rfl) (by kernel_rfl) (fun _ _ _ h => h) (Or.inl ⟨by rfl, ?hy121x15⟩) (by assumption) ?rest121x15
                case hy121x15 => intro w hSw; go_simp <;> with_reducible rfl
                simp only [Act.put, List.getElem_toArray, List.getElem_cons_zero, List.getElem_cons_succ, List.setIfInBounds_toArray, List.set_cons_zero, List.set_cons_succ]
                refine wpAnyH_take (i := 16) (v := (.bool false)) rfl (by kernel_rfl) (by kernel_rfl) (by kernel_rfl) (fun _ _ _ h => h) (Or.inl ⟨by rfl, ?hy122x16⟩) (by assumption) ?rest122x16
                case hy122x16 => intro w hSw; go_simp <;> with_reducible rfl
                simp only [Act.put, List.getElem_toArray, List.getElem_cons_zero, List.getElem_cons_succ, List.setIfInBounds_toArray, List.set_cons_zero, List.set_cons_succ]
                refine wpAnyH_done (by kernel_rfl) ?_ _
                clear hHeld hE hqd hjd
                go_wp2_with (first | (refine wpList_slice_wanted (by rfl) Tryd.underlying29 rfl rfl (unhide HTK _) ?_) | (refine wpList_append_wanted (by rfl) _ _ 29 rfl rfl rfl (unhide G3) ?_))
                go_roundw
                case rel => exact ⟨t + 1, by omega, by go_num, unhide RG3⟩
                case measure => simp [intOf]; omega
        · obtain rfl : j = m := by omega
          have hmd := unhide HM
          have hkl : (keysOf D).length = j := by simp [keysOf]; omega
          have hplc : j = plc (a, b) (keysOf D) := plc_unique (by omega) (unhide HAL) (fun x hx => by rw [List.getElem?_eq_none (by omega)] at hx; cases hx)
          have HPL := hide hplc
          have HKX : Hid (¬ (keysOf D)[j]? = some (a, b)) := fun c => by rw [List.getElem?_eq_none (by omega)] at c; cases c
          clear hplc hmd hall hbi hkl
          have hjd : decide ((j : Int) < (j : Int)) = false := by simp
          go_wp2_with fail
          refine wp_region_held_drew (S := fun x => Below wo.heap.size wo x) (by kernel_rfl) (unhide HBI).drew (fun hHeld => ?_)
          refine wpAnyH_take (i := 0) (v := ?v123x0) rfl (by kernel_rfl) (by kernel_rfl) (by kernel_rfl) (fun _ _ _ h => h) (Or.inl ⟨by rfl, ?hy123x0⟩) (by assumption) ?rest123x0
          case hy123x0 => intro w hSw; go_simp <;> with_reducible rfl
          simp only [Act.put, List.getElem_toArray, List.getElem_cons_zero, List.setIfInBounds_toArray, List.set_cons_zero, List.set_cons_succ]
          refine wpAnyH_take (i := 1) (v := ?v124x1) rfl (by kernel_rfl) (by kernel_rfl) (by kernel_rfl) (fun _ _ _ h => h) (Or.inl ⟨by rfl, ?hy124x1⟩) (by assumption) ?rest124x1
          case hy124x1 => intro w hSw; go_simp <;> with_reducible rfl
          simp only [Act.put, List.getElem_toArray, List.getElem_cons_zero, List.getElem_cons_succ, List.setIfInBounds_toArray, List.set_cons_zero, List.set_cons_succ]
          refine wpAnyH_take (i := 2) (v := ?v125x2) rfl (by kernel_rfl) (by kernel_rfl) (by kernel_rfl) (fun _ _ _ h => h) (Or.inl ⟨by rfl, ?hy125x2⟩) (by assumption) ?rest125x2
          case hy125x2 => intro w hSw; go_simp <;> with_reducible rfl
          simp only [Act.put, List.getElem_toArray, List.getElem_cons_zero, List.getElem_cons_succ, List.setIfInBounds_toArray, List.set_cons_zero, List.set_cons_succ]
          refine wpAnyH_take (i := 3) (v := (.bool false)) rfl (by kernel_rfl) (by kernel_rfl) (by kernel_rfl) (fun _ _ _ h => h) (Or.inl ⟨by rfl, ?hy126x3⟩) (by assumption) ?rest126x3
          case hy126x3 => intro w hSw; go_simp <;> with_reducible rfl
          simp only [Act.put, List.getElem_toArray, List.getElem_cons_zero, List.getElem_cons_succ, List.setIfInBounds_toArray, List.set_cons_zero, List.set_cons_succ]
          refine wpAnyH_take (i := 4) (v := (.bool false)) rfl (by kernel_rfl) (by kernel_rfl) (by kernel_rfl) (fun _ _ _ h => h) (Or.inl ⟨by rfl, ?hy127x4⟩) (by assumption) ?rest127x4
          case hy127x4 => intro w hSw; go_simp <;> with_reducible rfl
          simp only [Act.put, List.getElem_toArray, List.getElem_cons_zero, List.getElem_cons_succ, List.setIfInBounds_toArray, List.set_cons_zero, List.set_cons_succ]
          refine wpAnyH_take (i := 5) (v := undef) rfl (by kernel_rfl) (by kernel_rfl) (by kernel_rfl) (fun _ _ _ h => h) (Or.inr ⟨by rfl, rfl⟩) (by assumption) ?_
          simp only [Act.put, List.getElem_toArray, List.getElem_cons_zero, List.getElem_cons_succ, List.setIfInBounds_toArray, List.set_cons_zero, List.set_cons_succ]
          refine wpAnyH_take (i := 6) (v := undef) rfl (by kernel_rfl) (by kernel_rfl) (by kernel_rfl) (fun _ _ _ h => h) (Or.inr ⟨by rfl, rfl⟩) (by assumption) ?_
          simp only [Act.put, List.getElem_toArray, List.getElem_cons_zero, List.getElem_cons_succ, List.setIfInBounds_toArray, List.set_cons_zero, List.set_cons_succ]
          refine wpAnyH_take (i := 7) (v := undef) rfl (by kernel_rfl) (by kernel_rfl) (by kernel_rfl) (fun _ _ _ h => h) (Or.inr ⟨by rfl, rfl⟩) (by assumption) ?_
          simp only [Act.put, List.getElem_toArray, List.getElem_cons_zero, List.getElem_cons_succ, List.setIfInBounds_toArray, List.set_cons_zero, List.set_cons_succ]
          refine wpAnyH_take (i := 8) (v := undef) rfl (by kernel_rfl) (by kernel_rfl) (by kernel_rfl) (fun _ _ _ h => h) (Or.inr ⟨by rfl, rfl⟩) (by assumption) ?_
          simp only [Act.put, List.getElem_toArray, List.getElem_cons_zero, List.getElem_cons_succ, List.setIfInBounds_toArray, List.set_cons_zero, List.set_cons_succ]
          refine wpAnyH_take (i := 9) (v := undef) rfl (by kernel_rfl) (by kernel_rfl) (by kernel_rfl) (fun _ _ _ h => h) (Or.inr ⟨by rfl, rfl⟩) (by assumption) ?_
          simp only [Act.put, List.getElem_toArray, List.getElem_cons_zero, List.getElem_cons_succ, List.setIfInBounds_toArray, List.set_cons_zero, List.set_cons_succ]
          refine wpAnyH_take (i := 10) (v := undef) rfl (by kernel_rfl) (by kernel_rfl) (by kernel_rfl) (fun _ _ _ h => h) (Or.inr ⟨by rfl, rfl⟩) (by assumption) ?_
          simp only [Act.put, List.getElem_toArray, List.getElem_cons_zero, List.getElem_cons_succ, List.setIfInBounds_toArray, List.set_cons_zero, List.set_cons_succ]
          refine wpAnyH_take (i := 11) (v := undef) rfl (by kernel_rfl) (by kernel_rfl) (by kernel_rfl) (fun _ _ _ h => h) (Or.inr ⟨by rfl, rfl⟩) (by assumption) ?_
          simp only [Act.put, List.getElem_toArray, List.getElem_cons_zero, List.getElem_cons_succ, List.setIfInBounds_toArray, List.set_cons_zero, List.set_cons_succ]
          refine wpAnyH_take (i := 12) (v := undef) rfl (by kernel_rfl) (by kernel_rfl) (by kernel_rfl) (fun _ _ _ h => h) (Or.inr ⟨by rfl, rfl⟩) (by assumption) ?_
          simp only [Act.put, List.getElem_toArray, List.getElem_cons_zero, List.getElem_cons_succ, List.setIfInBounds_toArray, List.set_cons_zero, List.set_cons_succ]
          refine wpAnyH_take (i := 13) (v := undef) rfl (by kernel_rfl) (by kernel_rfl) (by kernel_rfl) (fun _ _ _ h => h) (Or.inr ⟨by rfl, rfl⟩) (by assumption) ?_
          simp only [Act.put, List.getElem_toArray, List.getElem_cons_zero, List.getElem_cons_succ, List.setIfInBounds_toArray, List.set_cons_zero, List.set_cons_succ]
          refine wpAnyH_take (i := 14) (v := undef) rfl (by kernel_rfl) (by kernel_rfl) (by kernel_rfl) (fun _ _ _ h => h) (Or.inr ⟨by rfl, rfl⟩) (by assumption) ?_
          simp only [Act.put, List.getElem_toArray, List.getElem_cons_zero, List.getElem_cons_succ, List.setIfInBounds_toArray, List.set_cons_zero, List.set_cons_succ]
          refine wpAnyH_take (i := 15) (v := undef) rfl (by kernel_rfl) (by kernel_rfl) (by kernel_rfl) (fun _ _ _ h => h) (Or.inr ⟨by rfl, rfl⟩) (by assumption) ?_
          simp only [Act.put, List.getElem_toArray, List.getElem_cons_zero, List.getElem_cons_succ, List.setIfInBounds_toArray, List.set_cons_zero, List.set_cons_succ]
          refine wpAnyH_take (i := 16) (v := undef) rfl (by kernel_rfl) (by kernel_rfl) (by kernel_rfl) (fun _ _ _ h => h) (Or.inr ⟨by rfl, rfl⟩) (by assumption) ?_
          simp only [Act.put, List.getElem_toArray, List.getElem_cons_zero, List.getElem_cons_succ, List.setIfInBounds_toArray, List.set_cons_zero, List.set_cons_succ]
          refine wpAnyH_take (i := 17) (v := (.bool false)) rfl (by kernel_rfl) (by kernel_rfl) (by kernel_rfl) (fun _ _ _ h => h) (Or.inl ⟨by rfl, ?hy140x17⟩) (by assumption) ?rest140x17
          case hy140x17 => intro w hSw; go_simp <;> with_reducible rfl
          simp only [Act.put, List.getElem_toArray, List.getElem_cons_zero, List.getElem_cons_succ, List.setIfInBounds_toArray, List.set_cons_zero, List.set_cons_succ]
          refine wpAnyH_done (by kernel_rfl) ?_ _
          clear hHeld
          obtain ⟨xx, hxx⟩ : ∃ x : World, x = wr.drew := ⟨_, rfl⟩
          have HB2 : Hid (Below wo.heap.size wo xx) := hxx ▸ (unhide HBI).drew
          rw [← hxx]
          clear hxx
          have hXX : Below wo.heap.size wo xx := unhide HB2
          have hsX := (unhide HSD).below pC_len hXX
          have hml : j < 5864062014804 := by omega
          obtain ⟨a1, c1, z1, r1, o1, b1⟩ := insP1 (Z := xx.drew) (j := j) hsX hj (by omega)
          obtain ⟨a2, c2, z2, r2, o2, b2⟩ := insP2 (Z := xx.drew) (Y := z1.alloc (.cells #[.int .i32 a, .int .i64 b, .int .i64 c] 45)) (x := ((a, b), c)) (own_below o1 (below_box _)) (b1.trans ((below_box _).mono b1.size)) (sees_oneP z1 ((a, b), c)) (by omega)
          obtain ⟨a3, c3, z3, r3, o3, b3⟩ := insP3 (Z := xx.drew) (Y := z2.drew) (j := j) o2 b2.drew hsX (by omega) (by omega)
          have hsB : SeesL pC 3 (xx.alloc (.cells #[.int .i32 a, .int .i64 b, .int .i64 c] 45)).drew (.slice ov j oc) D := hsX.below pC_len ((below_box _).drew)
          obtain ⟨e1, f1, y1, q1, p1, g1⟩ := insP1 (Z := (xx.alloc (.cells #[.int .i32 a, .int .i64 b, .int .i64 c] 45)).drew) (j := j) hsB hj (by omega)
          obtain ⟨e2, f2, y2, q2, p2, g2⟩ := insP2 (Z := (xx.alloc (.cells #[.int .i32 a, .int .i64 b, .int .i64 c] 45)).drew) (vx := .slice (some ⟨xx.heap.size, 0, none⟩) 1 1) (x := ((a, b), c)) p1 g1 (((sees_oneP xx ((a, b), c)).below pC_len ((Below.refl _ _).drew)).below pC_len g1) (by omega)
          obtain ⟨e3, f3, y3, q3, p3, g3⟩ := insP3 (Z := (xx.alloc (.cells #[.int .i32 a, .int .i64 b, .int .i64 c] 45)).drew) (Y := y2.drew) (j := j) p2 g2.drew hsB (by omega) (by omega)
          have hins : srtP (l.take (t + 1)) = D.take j ++ [((a, b), c)] ++ D.drop j := by
            have h := insQ_plc ((a, b), c) D
            simp only at h
            rw [← unhide HPL, if_neg (unhide HKX)] at h
            rw [unhide HDD, h]
            simp
          have hinl : (srtP (l.take (t + 1))).length = j + 1 + (j - j) := by
            rw [hins]
            have := unhide HM
            simp only [List.length_append, List.length_take, List.length_drop, List.length_cons, List.length_nil]
            omega
          have hXs := hXX.size
          have RH3 : Hid (z3.ownsRow w.heap.size 45 3 (.slice a3 (j + 1 + (j - j)) c3) (srtP (l.take (t + 1))).length ((srtP (l.take (t + 1))).flatMap pC) ∧ Below w.heap.size w z3) := by
            rw [hinl, hins]
            have hb0 := unhide HBW
            exact ⟨own_mono o3 (Nat.le_trans hb0.size hXs), hb0.trans ((hXX.drew.mono hb0.size).trans (b3.mono (Nat.le_trans hb0.size hXs)))⟩
          have RG3 : Hid (y3.ownsRow w.heap.size 45 3 (.slice e3 (j + 1 + (j - j)) f3) (srtP (l.take (t + 1))).length ((srtP (l.take (t + 1))).flatMap pC) ∧ Below w.heap.size w y3) := by
            rw [hinl, hins]
            have hb0 := unhide HBW
            have hle : w.heap.size ≤ (xx.alloc (.cells #[.int .i32 a, .int .i64 b, .int .i64 c] 45)).drew.heap.size := Nat.le_trans hb0.size (Nat.le_trans hXs (below_box _).size)
            exact ⟨own_mono p3 hle, hb0.trans ((hXX.mono hb0.size).trans ((((below_box _).drew).mono (Nat.le_trans hb0.size hXs)).trans (g3.mono hle)))⟩
          have HW1 : Hid (Below wo.heap.size wo z1 ∧ Below wo.heap.size wo (z1.alloc (.cells #[.int .i32 a, .int .i64 b, .int .i64 c] 45)) ∧ Below wo.heap.size wo z2) := by
            have k1 : Below wo.heap.size wo z1 := hXX.drew.trans (b1.mono hXs)
            exact ⟨k1, k1.alloc k1.size _, hXX.drew.trans (b2.mono hXs)⟩
          have HW2 : Hid (Below wo.heap.size wo (xx.alloc (.cells #[.int .i32 a, .int .i64 b, .int .i64 c] 45)).drew ∧ Below wo.heap.size wo y1 ∧ Below wo.heap.size wo y2) := by
            have k0 : Below wo.heap.size wo (xx.alloc (.cells #[.int .i32 a, .int .i64 b, .int .i64 c] 45)).drew := (hXX.alloc hXs _).drew
            exact ⟨k0, k0.trans (g1.mono k0.size), k0.trans (g2.mono k0.size)⟩
          have HXX := hide hXX
          have hjoc : j ≤ oc := by omega
          have hjjm : j ≤ j := by omega
          have HHK := hide (head_pairs ov j oc j hjoc)
          have hTK : ∀ w, (Instr.slice 29 (.slice ov j oc) (some (.int .i64 (j : Int))) none none).run Tryd.prog w = .ok (.slice (if oc = j then ov else (ov : Option Addr).map (·.add (j * 3))) (j - j) (oc - j)) w := fun w => tail_pairs ov j oc j hjjm w
          obtain ⟨tl, htl⟩ : ∃ v : Option Addr, (if oc = j then ov else (ov : Option Addr).map (·.add (j * 3))) = v := ⟨_, rfl⟩
          obtain ⟨md, hmd⟩ : ∃ v : Nat, j - j = v := ⟨_, rfl⟩
          obtain ⟨cd, hcd⟩ : ∃ v : Nat, oc - j = v := ⟨_, rfl⟩
          rw [htl, hmd, hcd] at r3 q3 hTK
          rw [hmd] at RH3 RG3
          have HTK := hide hTK
          have H3 := hide r3
          have G3 := hide q3
          clear htl hmd hcd hTK
          clear hsX hsB o1 b1 o2 b2 o3 b3 p1 g1 p2 g2 p3 g3 hins hinl hXX hXs r3 q3
          go_wp2_with fail
          refine wp_region_held_drew (S := fun x => Below wo.heap.size wo x) (by kernel_rfl) (unhide HXX).drew (fun hHeld => ?_)
          refine wpAnyH_take (i := 0) (v := ?v141x0) rfl (by kernel_rfl) (by kernel_rfl) (by kernel_rfl) (fun _ _ _ h => h) (Or.inl ⟨by rfl, ?hy141x0⟩) (by assumption) ?rest141x0
          case hy141x0 => intro w hSw; go_simp <;> with_reducible rfl
          simp only [Act.put, List.getElem_toArray, List.getElem_cons_zero, List.setIfInBounds_toArray, List.set_cons_zero, List.set_cons_succ]
          refine wpAnyH_take (i := 1) (v := ?v142x1) rfl (by kernel_rfl) (by kernel_rfl) (by kernel_rfl) (fun _ _ _ h => h) (Or.inl ⟨by rfl, ?hy142x1⟩) (by assumption) ?rest142x1
          case hy142x1 => intro w hSw; go_simp <;> with_reducible rfl
          simp only [Act.put, List.getElem_toArray, List.getElem_cons_zero, List.getElem_cons_succ, List.setIfInBounds_toArray, List.set_cons_zero, List.set_cons_succ]
          refine wpAnyH_take (i := 2) (v := ?v143x2) rfl (by kernel_rfl) (by kernel_rfl) (by kernel_rfl) (fun _ _ _ h => h) (Or.inl ⟨by rfl, ?hy143x2⟩) (by assumption) ?rest143x2
          case hy143x2 => intro w hSw; go_simp <;> with_reducible rfl
          simp only [Act.put, List.getElem_toArray, List.getElem_cons_zero, List.getElem_cons_succ, List.setIfInBounds_toArray, List.set_cons_zero, List.set_cons_succ]
          refine wpAnyH_take (i := 3) (v := (.slice ov j oc)) rfl (by kernel_rfl) (by kernel_rfl) (by kernel_rfl) (fun _ _ _ h => h) (Or.inl ⟨by rfl, ?hy144x3⟩) (by assumption) ?rest144x3
          case hy144x3 => intro w hSw; exact run_sliceE Tryd.underlying29 rfl rfl (unhide HHK w)
          simp only [Act.put, List.getElem_toArray, List.getElem_cons_zero, List.getElem_cons_succ, List.setIfInBounds_toArray, List.set_cons_zero, List.set_cons_succ]
          refine wpAnyH_take (i := 5) (v := ?v145x5) rfl (by kernel_rfl) (by kernel_rfl) (by kernel_rfl) (fun _ _ _ h => h) (Or.inl ⟨by rfl, ?hy145x5⟩) (by assumption) ?rest145x5
          case hy145x5 => intro w hSw; go_simp <;> with_reducible rfl
          simp only [Act.put, List.getElem_toArray, List.getElem_cons_zero, List.getElem_cons_succ, List.setIfInBounds_toArray, List.set_cons_zero, List.set_cons_succ]
          refine wpAnyH_take (i := 6) (v := ?v146x6) rfl (by kernel_rfl) (by kernel_rfl) (by kernel_rfl) (fun _ _ _ h => h) (Or.inl ⟨by rfl, ?hy146x6⟩) (by assumption) ?rest146x6
          case hy146x6 => intro w hSw; go_simp <;> with_reducible rfl
          simp only [Act.put, List.getElem_toArray, List.getElem_cons_zero, List.getElem_cons_succ, List.setIfInBounds_toArray, List.set_cons_zero, List.set_cons_succ]
          refine wpAnyH_take (i := 7) (v := ?v147x7) rfl (by kernel_rfl) (by kernel_rfl) (by kernel_rfl) (fun _ _ _ h => h) (Or.inl ⟨by rfl, ?hy147x7⟩) (by assumption) ?rest147x7
          case hy147x7 => intro w hSw; go_simp <;> with_reducible rfl
          simp only [Act.put, List.getElem_toArray, List.getElem_cons_zero, List.getElem_cons_succ, List.setIfInBounds_toArray, List.set_cons_zero, List.set_cons_succ]
          refine wpAnyH_take (i := 8) (v := (.agg #[.int .i32 a, .int .i64 b, .int .i64 c])) rfl (by kernel_rfl) (by kernel_rfl) (by kernel_rfl) (fun _ _ _ h => h) (Or.inl ⟨by rfl, ?hy148x8⟩) (by assumption) ?rest148x8
          case hy148x8 => intro w hSw; obtain ⟨s1, s2, s3⟩ := unhide HCX _ hSw; go_simp <;> with_reducible rfl
          simp only [Act.put, List.getElem_toArray, List.getElem_cons_zero, List.getElem_cons_succ, List.setIfInBounds_toArray, List.set_cons_zero, List.set_cons_succ]
          refine wpAnyH_ready (rs := [4, 9]) (by kernel_rfl) (by simp) ?_
          refine AllReadyH.cons rfl (fun K hK => ?_) (AllReadyH.cons rfl (fun K hK => ?_) AllReadyH.nil)
          · rw [if_pos (by rfl)]
            refine append_upon rfl rfl rfl r1 ?_
            simp only [Act.put, List.getElem_toArray, List.getElem_cons_zero, List.getElem_cons_succ, List.setIfInBounds_toArray, List.set_cons_zero, List.set_cons_succ]
            refine hK _ _ (unhide HW1).1 ?_
            clear hK hHeld
            intro hHeld
            refine wpAnyH_ready (rs := [9]) (by kernel_rfl) (by simp) ?_
            refine AllReadyH.cons rfl (fun K hK => ?_) AllReadyH.nil
            go_simp
            refine hK _ _ (unhide HW1).2.1 ?_
            clear hK hHeld
            intro hHeld
            refine wpAnyH_ready (rs := [10]) (by kernel_rfl) (by simp) ?_
            refine AllReadyH.cons rfl (fun K hK => ?_) AllReadyH.nil
            rw [if_pos (by rfl)]
            refine append_upon rfl rfl rfl r2 ?_
            simp only [Act.put, List.getElem_toArray, List.getElem_cons_zero, List.getElem_cons_succ, List.setIfInBounds_toArray, List.set_cons_zero, List.set_cons_succ]
            refine hK _ _ (unhide HW1).2.2 ?_
            clear hK hHeld
            intro hHeld
            refine wpAnyH_take (i := 11) (v := ?v149x11) rfl (by kernel_rfl) (by kernel_rfl) (by kernel_rfl) (fun _ _ _ h => h) (Or.inl ⟨by rfl, ?hy149x11⟩) (by assumption) ?rest149x11
            case hy149x11 => intro w hSw; go_simp <;> with_reducible rfl
            simp only [Act.put, List.getElem_toArray, List.getElem_cons_zero, List.getElem_cons_succ, List.setIfInBounds_toArray, List.set_cons_zero, List.set_cons_succ]
            refine wpAnyH_done (by kernel_rfl) ?_ _
            clear hHeld
            go_wp2_with fail
            refine wp_region_held_drew (S := fun x => Below wo.heap.size wo x) (by kernel_rfl) (unhide HW1).2.2.drew (fun hHeld => ?_)
            refine wpAnyH_take (i := 0) (v := ?v150x0) rfl (by kernel_rfl) (by kernel_rfl) (by kernel_rfl) (fun _ _ _ h => h) (Or.inl ⟨by rfl, ?hy150x0⟩) (by assumption) ?rest150x0
            case hy150x0 => intro w hSw; go_simp <;> with_reducible rfl
            simp only [Act.put, List.getElem_toArray, List.getElem_cons_zero, List.setIfInBounds_toArray, List.set_cons_zero, List.set_cons_succ]
            refine wpAnyH_take (i := 1) (v := ?v151x1) rfl (by kernel_rfl) (by kernel_rfl) (by kernel_rfl) (fun _ _ _ h => h) (Or.inl ⟨by rfl, ?hy151x1⟩) (by assumption) ?rest151x1
            case hy151x1 => intro w hSw; go_simp <;> with_reducible rfl
            simp only [Act.put, List.getElem_toArray, List.getElem_cons_zero, List.getElem_cons_succ, List.setIfInBounds_toArray, List.set_cons_zero, List.set_cons_succ]
            refine wpAnyH_take (i := 2) (v := ?v152x2) rfl (by kernel_rfl) (by kernel_rfl) (by kernel_rfl) (fun _ _ _ h => h) (Or.inl ⟨by rfl, ?hy152x2⟩) (by assumption) ?rest152x2
            case hy152x2 => intro w hSw; go_simp <;> with_reducible rfl
            simp only [Act.put, List.getElem_toArray, List.getElem_cons_zero, List.getElem_cons_succ, List.setIfInBounds_toArray, List.set_cons_zero, List.set_cons_succ]
            refine wpAnyH_take (i := 3) (v := (.bool false)) rfl (by kernel_rfl) (by kernel_rfl) (by kernel_rfl) (fun _ _ _ h => h) (Or.inl ⟨by rfl, ?hy153x3⟩) (by assumption) ?rest153x3
            case hy153x3 => intro w hSw; go_simp <;> with_reducible rfl
            simp only [Act.put, List.getElem_toArray, List.getElem_cons_zero, List.getElem_cons_succ, List.setIfInBounds_toArray, List.set_cons_zero, List.set_cons_succ]
            refine wpAnyH_take (i := 4) (v := (.bool false)) rfl (by kernel_rfl) (by kernel_rfl) (by kernel_rfl) (fun _ _ _ h => h) (Or.inl ⟨by rfl, ?hy154x4⟩) (by assumption) ?rest154x4
            case hy154x4 => intro w hSw; go_simp <;> with_reducible rfl
            simp only [Act.put, List.getElem_toArray, List.getElem_cons_zero, List.getElem_cons_succ, List.setIfInBounds_toArray, List.set_cons_zero, List.set_cons_succ]
            refine wpAnyH_take (i := 5) (v := undef) rfl (by kernel_rfl) (by kernel_rfl) (by kernel_rfl) (fun _ _ _ h => h) (Or.inr ⟨by rfl, rfl⟩) (by assumption) ?_
            simp only [Act.put, List.getElem_toArray, List.getElem_cons_zero, List.getElem_cons_succ, List.setIfInBounds_toArray, List.set_cons_zero, List.set_cons_succ]
            refine wpAnyH_take (i := 6) (v := undef) rfl (by kernel_rfl) (by kernel_rfl) (by kernel_rfl) (fun _ _ _ h => h) (Or.inr ⟨by rfl, rfl⟩) (by assumption) ?_
            simp only [Act.put, List.getElem_toArray, List.getElem_cons_zero, List.getElem_cons_succ, List.setIfInBounds_toArray, List.set_cons_zero, List.set_cons_succ]
            refine wpAnyH_take (i := 7) (v := undef) rfl (by kernel_rfl) (by kernel_rfl) (by kernel_rfl) (fun _ _ _ h => h) (Or.inr ⟨by rfl, rfl⟩) (by assumption) ?_
            simp only [Act.put, List.getElem_toArray, List.getElem_cons_zero, List.getElem_cons_succ, List.setIfInBounds_toArray, List.set_cons_zero, List.set_cons_succ]
            refine wpAnyH_take (i := 8) (v := undef) rfl (by kernel_rfl) (by kernel_rfl) (by kernel_rfl) (fun _ _ _ h => h) (Or.inr ⟨by rfl, rfl⟩) (by assumption) ?_
            simp only [Act.put, List.getElem_toArray, List.getElem_cons_zero, List.getElem_cons_succ, List.setIfInBounds_toArray, List.set_cons_zero, List.set_cons_succ]
            refine wpAnyH_take (i := 9) (v := undef) rfl (by kernel_rfl) (by kernel_rfl) (by kernel_rfl) (fun _ _ _ h => h) (Or.inr ⟨by rfl, rfl⟩) (by assumption) ?_
            simp only [Act.put, List.getElem_toArray, List.getElem_cons_zero, List.getElem_cons_succ, List.setIfInBounds_toArray, List.set_cons_zero, List.set_cons_succ]
            refine wpAnyH_take (i := 10) (v := undef) rfl (by kernel_rfl) (by kernel_rfl) (by kernel_rfl) (fun _ _ _ h => h) (Or.inr ⟨by rfl, rfl⟩) (by assumption) ?_
            simp only [Act.put, List.getElem_toArray, List.getElem_cons_zero, List.getElem_cons_succ, List.setIfInBounds_toArray, List.set_cons_zero, List.set_cons_succ]
            refine wpAnyH_take (i := 11) (v := undef) rfl (by kernel_rfl) (by kernel_rfl) (by kernel_rfl) (fun _ _ _ h => h) (Or.inr ⟨by rfl, rfl⟩) (by assumption) ?_
            simp only [Act.put, List.getElem_toArray, List.getElem_cons_zero, List.getElem_cons_succ, List.setIfInBounds_toArray, List.set_cons_zero, List.set_cons_succ]
            refine wpAnyH_take (i := 12) (v := undef) rfl (by kernel_rfl) (by kernel_rfl) (by kernel_rfl) (fun _ _ _ h => h) (Or.inr ⟨by rfl, rfl⟩) (by assumption) ?_
            simp only [Act.put, List.getElem_toArray, List.getElem_cons_zero, List.getElem_cons_succ, List.setIfInBounds_toArray, List.set_cons_zero, List.set_cons_succ]
            refine wpAnyH_take (i := 13) (v := undef) rfl (by kernel_rfl) (by kernel_rfl) (by kernel_rfl) (fun _ _ _ h => h) (Or.inr ⟨by rfl, rfl⟩) (by assumption) ?_
            simp only [Act.put, List.getElem_toArray, List.getElem_cons_zero, List.getElem_cons_succ, List.setIfInBounds_toArray, List.set_cons_zero, List.set_cons_succ]
            refine wpAnyH_take (i := 14) (v := undef) rfl (by kernel_rfl) (by kernel_rfl) (by kernel_rfl) (fun _ _ _ h => h) (Or.inr ⟨by rfl, rfl⟩) (by assumption) ?_
            simp only [Act.put, List.getElem_toArray, List.getElem_cons_zero, List.getElem_cons_succ, List.setIfInBounds_toArray, List.set_cons_zero, List.set_cons_succ]
            refine wpAnyH_take (i := 15) (v := undef) rfl (by kernel_rfl) (by kernel_rfl) (by kernel_rfl) (fun _ _ _ h => h) (Or.inr ⟨by rfl, rfl⟩) (by assumption) ?_
            simp only [Act.put, List.getElem_toArray, List.getElem_cons_zero, List.getElem_cons_succ, List.setIfInBounds_toArray, List.set_cons_zero, List.set_cons_succ]
            refine wpAnyH_take (i := 16) (v := (.bool false)) rfl (by kernel_rfl) (by kernel_rfl) (by kernel_rfl) (fun _ _ _ h => h) (Or.inl ⟨by rfl, ?hy166x16⟩) (by assumption) ?rest166x16
            case hy166x16 => intro w hSw; go_simp <;> with_reducible rfl
            simp only [Act.put, List.getElem_toArray, List.getElem_cons_zero, List.getElem_cons_succ, List.setIfInBounds_toArray, List.set_cons_zero, List.set_cons_succ]
            refine wpAnyH_done (by kernel_rfl) ?_ _
            clear hHeld hjd
            go_wp2_with (first | (refine wpList_slice_wanted (by rfl) Tryd.underlying29 rfl rfl (unhide HTK _) ?_) | (refine wpList_append_wanted (by rfl) _ _ 29 rfl rfl rfl (unhide H3) ?_))
            go_roundw
            case rel => exact ⟨t + 1, by omega, by go_num, unhide RH3⟩
            case measure => simp [intOf]; omega
          · go_simp
            refine hK _ _ (unhide HW2).1 ?_
            clear hK hHeld
            intro hHeld
            refine wpAnyH_ready (rs := [4]) (by kernel_rfl) (by simp) ?_
            refine AllReadyH.cons rfl (fun K hK => ?_) AllReadyH.nil
            rw [if_pos (by rfl)]
            refine append_upon rfl rfl rfl q1 ?_
            simp only [Act.put, List.getElem_toArray, List.getElem_cons_zero, List.getElem_cons_succ, List.setIfInBounds_toArray, List.set_cons_zero, List.set_cons_succ]
            refine hK _ _ (unhide HW2).2.1 ?_
            clear hK hHeld
            intro hHeld
            refine wpAnyH_ready (rs := [10]) (by kernel_rfl) (by simp) ?_
            refine AllReadyH.cons rfl (fun K hK => ?_) AllReadyH.nil
            rw [if_pos (by rfl)]
            refine append_upon rfl rfl rfl q2 ?_
            simp only [Act.put, List.getElem_toArray, List.getElem_cons_zero, List.getElem_cons_succ, List.setIfInBounds_toArray, List.set_cons_zero, List.set_cons_succ]
            refine hK _ _ (unhide HW2).2.2 ?_
            clear hK hHeld
            intro hHeld
            refine wpAnyH_take (i := 11) (v := ?v167x11) rfl (by kernel_rfl) (by kernel_rfl) (by kernel_rfl) (fun _ _ _ h => h) (Or.inl ⟨by rfl, ?hy167x11⟩) (by assumption) ?rest167x11
            case hy167x11 => intro w hSw; go_simp <;> with_reducible rfl
            simp only [Act.put, List.getElem_toArray, List.getElem_cons_zero, List.getElem_cons_succ, List.setIfInBounds_toArray, List.set_cons_zero, List.set_cons_succ]
            refine wpAnyH_done (by kernel_rfl) ?_ _
            clear hHeld
            go_wp2_with fail
            refine wp_region_held_drew (S := fun x => Below wo.heap.size wo x) (by kernel_rfl) (unhide HW2).2.2.drew (fun hHeld => ?_)
            refine wpAnyH_take (i := 0) (v := ?v168x0) rfl (by kernel_rfl) (by kernel_rfl) (by kernel_rfl) (fun _ _ _ h => h) (Or.inl ⟨by rfl, ?hy168x0⟩) (by assumption) ?rest168x0
            case hy168x0 => intro w hSw; go_simp <;> with_reducible rfl
            simp only [Act.put, List.getElem_toArray, List.getElem_cons_zero, List.setIfInBounds_toArray, List.set_cons_zero, List.set_cons_succ]
            refine wpAnyH_take (i := 1) (v := ?v169x1) rfl (by kernel_rfl) (by kernel_rfl) (by kernel_rfl) (fun _ _ _ h => h) (Or.inl ⟨by rfl, ?hy169x1⟩) (by assumption) ?rest169x1
            case hy169x1 => intro w hSw; go_simp <;> with_reducible rfl
            simp only [Act.put, List.getElem_toArray, List.getElem_cons_zero, List.getElem_cons_succ, List.setIfInBounds_toArray, List.set_cons_zero, List.set_cons_succ]
            refine wpAnyH_take (i := 2) (v := ?v170x2) rfl (by kernel_rfl) (by kernel_rfl) (by kernel_rfl) (fun _ _ _ h => h) (Or.inl ⟨by rfl, ?hy170x2⟩) (by assumption) ?rest170x2
            case hy170x2 => intro w hSw; go_simp <;> with_reducible rfl
            simp only [Act.put, List.getElem_toArray, List.getElem_cons_zero, List.getElem_cons_succ, List.setIfInBounds_toArray, List.set_cons_zero, List.set_cons_succ]
            refine wpAnyH_take (i := 3) (v := (.bool false)) rfl (by kernel_rfl) (by kernel_rfl) (by kernel_rfl) (fun _ _ _ h => h) (Or.inl ⟨by rfl, ?hy171x3⟩) (by assumption) ?rest171x3
            case hy171x3 => intro w hSw; go_simp <;> with_reducible rfl
            simp only [Act.put, List.getElem_toArray, List.getElem_cons_zero, List.getElem_cons_succ, List.setIfInBounds_toArray, List.set_cons_zero, List.set_cons_succ]
            refine wpAnyH_take (i := 4) (v := (.bool false)) rfl (by kernel_rfl) (by kernel_rfl) (by kernel_rfl) (fun _ _ _ h => h) (Or.inl ⟨by rfl, ?hy172x4⟩) (by assumption) ?rest172x4
            case hy172x4 => intro w hSw; go_simp <;> with_reducible rfl
            simp only [Act.put, List.getElem_toArray, List.getElem_cons_zero, List.getElem_cons_succ, List.setIfInBounds_toArray, List.set_cons_zero, List.set_cons_succ]
            refine wpAnyH_take (i := 5) (v := undef) rfl (by kernel_rfl) (by kernel_rfl) (by kernel_rfl) (fun _ _ _ h => h) (Or.inr ⟨by rfl, rfl⟩) (by assumption) ?_
            simp only [Act.put, List.getElem_toArray, List.getElem_cons_zero, List.getElem_cons_succ, List.setIfInBounds_toArray, List.set_cons_zero, List.set_cons_succ]
            refine wpAnyH_take (i := 6) (v := undef) rfl (by kernel_rfl) (by kernel_rfl) (by kernel_rfl) (fun _ _ _ h => h) (Or.inr ⟨by rfl, rfl⟩) (by assumption) ?_
            simp only [Act.put, List.getElem_toArray, List.getElem_cons_zero, List.getElem_cons_succ, List.setIfInBounds_toArray, List.set_cons_zero, List.set_cons_succ]
            refine wpAnyH_take (i := 7) (v := undef) rfl (by kernel_rfl) (by kernel_rfl) (by kernel_rfl) (fun _ _ _ h => h) (Or.inr ⟨by rfl, rfl⟩) (by assumption) ?_
            simp only [Act.put, List.getElem_toArray, List.getElem_cons_zero, List.getElem_cons_succ, List.setIfInBounds_toArray, List.set_cons_zero, List.set_cons_succ]
            refine wpAnyH_take (i := 8) (v := undef) rfl (by kernel_rfl) (by kernel_rfl) (by kernel_rfl) (fun _ _ _ h => h) (Or.inr ⟨by rfl, rfl⟩) (by assumption) ?_
            simp only [Act.put, List.getElem_toArray, List.getElem_cons_zero, List.getElem_cons_succ, List.setIfInBounds_toArray, List.set_cons_zero, List.set_cons_succ]
            refine wpAnyH_take (i := 9) (v := undef) rfl (by kernel_rfl) (by kernel_rfl) (by kernel_rfl) (fun _ _ _ h => h) (Or.inr ⟨by rfl, rfl⟩) (by assumption) ?_
            simp only [Act.put, List.getElem_toArray, List.getElem_cons_zero, List.getElem_cons_succ, List.setIfInBounds_toArray, List.set_cons_zero, List.set_cons_succ]
            refine wpAnyH_take (i := 10) (v := undef) rfl (by kernel_rfl) (by kernel_rfl) (by kernel_rfl) (fun _ _ _ h => h) (Or.inr ⟨by rfl, rfl⟩) (by assumption) ?_
            simp only [Act.put, List.getElem_toArray, List.getElem_cons_zero, List.getElem_cons_succ, List.setIfInBounds_toArray, List.set_cons_zero, List.set_cons_succ]
            refine wpAnyH_take (i := 11) (v := undef) rfl (by kernel_rfl) (by kernel_rfl) (by kernel_rfl) (fun _ _ _ h => h) (Or.inr ⟨by rfl, rfl⟩) (by assumption) ?_
            simp only [Act.put, List.getElem_toArray, List.getElem_cons_zero, List.getElem_cons_succ, List.setIfInBounds_toArray, List.set_cons_zero, List.set_cons_succ]
            refine wpAnyH_take (i := 12) (v := undef) rfl (by kernel_rfl) (by kernel_rfl) (by kernel_rfl) (fun _ _ _ h => h) (Or.inr ⟨by rfl, rfl⟩) (by assumption) ?_
            simp only [Act.put, List.getElem_toArray, List.getElem_cons_zero, List.getElem_cons_succ, List.setIfInBounds_toArray, List.set_cons_zero, List.set_cons_succ]
            refine wpAnyH_take (i := 13) (v := undef) rfl (by kernel_rfl) (by kernel_rfl) (by kernel_rfl) (fun _ _ _ h => h) (Or.inr ⟨by rfl, rfl⟩) (by assumption) ?_
            simp only [Act.put, List.getElem_toArray, List.getElem_cons_zero, List.getElem_cons_succ, List.setIfInBounds_toArray, List.set_cons_zero, List.set_cons_succ]
            refine wpAnyH_take (i := 14) (v := undef) rfl (by kernel_rfl) (by kernel_rfl) (by kernel_rfl) (fun _ _ _ h => h) (Or.inr ⟨by rfl, rfl⟩) (by assumption) ?_
            simp only [Act.put, List.getElem_toArray, List.getElem_cons_zero, List.getElem_cons_succ, List.setIfInBounds_toArray, List.set_cons_zero, List.set_cons_succ]
            refine wpAnyH_take (i := 15) (v := undef) rfl (by kernel_rfl) (by kernel_rfl) (by kernel_rfl) (fun _ _ _ h => h) (Or.inr ⟨by rfl, rfl⟩) (by assumption) ?_
            simp only [Act.put, List.getElem_toArray, List.getElem_cons_zero, List.getElem_cons_succ, List.setIfInBounds_toArray, List.set_cons_zero, List.set_cons_succ]
            refine wpAnyH_take (i := 16) (v := (.bool false)) rfl (by kernel_rfl) (by kernel_rfl) (by kernel_rfl) (fun _ _ _ h => h) (Or.inl ⟨by rfl, ?hy184x16⟩) (by assumption) ?rest184x16
            case hy184x16 => intro w hSw; go_simp <;> with_reducible rfl
            simp only [Act.put, List.getElem_toArray, List.getElem_cons_zero, List.getElem_cons_succ, List.setIfInBounds_toArray, List.set_cons_zero, List.set_cons_succ]
            refine wpAnyH_done (by kernel_rfl) ?_ _
            clear hHeld hjd
            go_wp2_with (first | (refine wpList_slice_wanted (by rfl) Tryd.underlying29 rfl rfl (unhide HTK _) ?_) | (refine wpList_append_wanted (by rfl) _ _ 29 rfl rfl rfl (unhide G3) ?_))
            go_roundw
            case rel => exact ⟨t + 1, by omega, by go_num, unhide RG3⟩
            case measure => simp [intOf]; omega
    · obtain rfl : t = n := by omega
      have hnl := unhide HN
      rw [List.take_of_length_le (by omega)] at hown
      obtain ⟨ov, oc, hov⟩ := own_shape hown
      have HOW := hide hown
      subst hov
      clear hown hnl
      go_wp2
      go_ret
      exact ⟨_, rfl, unhide HOW, unhide HBW⟩
end Go.Proofs.YtldapckooohigaaDoor
