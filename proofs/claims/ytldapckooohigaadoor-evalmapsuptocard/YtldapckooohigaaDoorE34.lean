/- The document's Changes. -/
import Derived.Test.YtldapckooohigaaDoorE33
namespace Go.Proofs.YtldapckooohigaaDoor
open Go.RowKit
set_option maxRecDepth 100000

set_option maxHeartbeats 6400000 in
theorem rchanges_any {v : Value} {l : List Ch} {w : World} (hs : SeesL chC 4 w v l) (hll : l.length < 4398046511103) :
    Calls Tryd.prog 15 #[v] w fun e w' => ∃ r, e = .returned r ∧ w'.ownsRow w.heap.size 40 4 r (srtD l).length ((srtD l).flatMap chC) ∧ Below w.heap.size w w' := by
  have HS : Hid (∀ w', Below w.heap.size w w' → SeesL chC 4 w' v l) := fun w' hb => hs.below chC_len hb
  obtain ⟨ao, cap, _, _, hv, hcap, hmax, _⟩ := sees_at4 hs
  have HV := hide hv
  obtain ⟨n, hn⟩ : ∃ n, l.length = n := ⟨_, rfl⟩
  rw [hv, hn]
  rw [hn] at HV
  have HN := hide hn
  rw [hn] at hcap hmax hll
  clear hs hv hn
  go_enter Tryd.func15, Tryd.ntmps15
  go_wp2
  go_loopw [3, 4] (fun o c wr => ∃ t : Nat, t ≤ n ∧ c = .int .i64 t ∧ wr.ownsRow w.heap.size 40 4 o (srtD (l.take t)).length ((srtD (l.take t)).flatMap chC) ∧ Below w.heap.size w wr) (fun _ c _ => n - (intOf c).toNat)
  case atStart => exact ⟨0, by omega, rfl, own_nil _ _ _ _, Below.refl _ _⟩
  case round =>
    obtain ⟨t, ht, rfl, hown, hbw⟩ := hrel
    obtain ⟨wo, rfl⟩ : ∃ x, x = wr := ⟨_, rfl⟩
    have HBW := hide hbw
    by_cases hlt : t < n
    · have hnl := unhide HN
      have htl : t < l.length := by omega
      obtain ⟨gb, ob, hao, -, hcx⟩ := ch_cells (unhide HS wo hbw) (unhide HV) htl
      subst hao
      obtain ⟨⟨⟨a, b⟩, ⟨c, q⟩⟩, hx⟩ : ∃ k, l.getD t default = k := ⟨_, rfl⟩
      have hx' : l[t] = ((a, b), (c, q)) := by rw [← hx]; simp [List.getD, htl]
      rw [hx] at hcx
      have HCX := hide hcx
      obtain ⟨D, hD⟩ : ∃ D, srtD (l.take t) = D := ⟨_, rfl⟩
      have hdd : srtD (l.take (t + 1)) = insD ((a, b), (c, q)) D := by
        rw [List.take_succ_eq_append_getElem htl, srtD_snoc, hx', hD]
      have hlen : D.length ≤ t := by rw [← hD]; exact Nat.le_trans (srtD_spec _).2.2 (by simp; omega)
      rw [hD] at hown
      have HDD := hide hdd
      have HOW := hide hown
      obtain ⟨m, hm⟩ : ∃ m, D.length = m := ⟨_, rfl⟩
      have hsees := (own_sees chC_len (by decide) hown).2
      have HSD := hide hsees
      obtain ⟨ov, oc, hov⟩ := own_shape hown
      have hoc : m ≤ oc := by
        obtain ⟨_, _, _, _, e, h2, _⟩ := hsees
        rw [hov] at e
        simp only [Value.slice.injEq] at e
        obtain ⟨rfl, _, rfl⟩ := e
        omega
      rw [hm] at hov hlen
      subst hov
      have HM := hide hm
      clear hx hx' hcx hdd hD hown hsees hm htl hnl
      go_wp2
      go_loopw [5] (fun c wi => ∃ j : Nat, j ≤ m ∧ c = .int .i64 j ∧ (∀ i x, i < j → (keysD D)[i]? = some x → ltK x (a, b)) ∧ Below wo.heap.size wo wi) (fun c _ => m - (intOf c).toNat)
      case atStart => exact ⟨0, by omega, rfl, fun i x h => absurd h (by omega), Below.refl _ _⟩
      case round =>
        obtain ⟨j, hj, rfl, hall, hbi⟩ := hrel
        have HAL := hide hall
        have HBI := hide hbi
        by_cases hjm : j < m
        · have hmd := unhide HM
          have hjd : j < D.length := by omega
          obtain ⟨gd, od, hod, -, hcd⟩ := ch_cells (unhide HSD) rfl hjd
          subst hod
          obtain ⟨⟨⟨d, f⟩, ⟨h, g⟩⟩, hdj⟩ : ∃ k, D.getD j default = k := ⟨_, rfl⟩
          have hdj' : (keysD D)[j]? = some (d, f) := by
            have : D[j]? = some ((d, f), (h, g)) := by rw [← hdj]; simp [List.getD, hjd]
            simp [keysD, this]
          rw [hdj] at hcd
          have HCD := hide hcd
          have HDJ := hide hdj'
          obtain ⟨r, hr⟩ : ∃ r, decide (ltK (d, f) (a, b)) = r := ⟨_, rfl⟩
          have HRC : Hid (∀ x, Below wo.heap.size wo x → Calls Tryd.prog 26 #[.agg #[.int .i32 d, .int .i64 f], .agg #[.int .i32 a, .int .i64 b]] x fun e w' => e = .returned (.bool r) ∧ Below wo.heap.size wo w') := fun x hx => rless_from (a := (d, f)) (b := (a, b)) hr hx
          have HR := hide hr
          clear hmd hjd hcd hdj hdj' hr hall hbi
          have hjd : decide ((j : Int) < (m : Int)) = true := by simp; omega
          cases r with
          | true =>
            go_wp2_with fail
            refine wp_region_held_drew (S := fun x => Below wo.heap.size wo x) (by kernel_rfl) (unhide HBI).drew (fun hHeld => ?_)
            refine wpAnyH_take (i := 0) (v := ?v1x0) rfl (by kernel_rfl) (by kernel_rfl) (by kernel_rfl) (fun _ _ _ h => h) (Or.inl ⟨by rfl, ?hy1x0⟩) (by assumption) ?rest1x0
            case hy1x0 => intro w hSw; go_simp <;> with_reducible rfl
            simp only [Act.put, List.getElem_toArray, List.getElem_cons_zero, List.setIfInBounds_toArray, List.set_cons_zero, List.set_cons_succ]
            refine wpAnyH_take (i := 1) (v := ?v2x1) rfl (by kernel_rfl) (by kernel_rfl) (by kernel_rfl) (fun _ _ _ h => h) (Or.inl ⟨by rfl, ?hy2x1⟩) (by assumption) ?rest2x1
            case hy2x1 => intro w hSw; go_simp <;> with_reducible rfl
            simp only [Act.put, List.getElem_toArray, List.getElem_cons_zero, List.getElem_cons_succ, List.setIfInBounds_toArray, List.set_cons_zero, List.set_cons_succ]
            refine wpAnyH_take (i := 2) (v := ?v3x2) rfl (by kernel_rfl) (by kernel_rfl) (by kernel_rfl) (fun _ _ _ h => h) (Or.inl ⟨by rfl, ?hy3x2⟩) (by assumption) ?rest3x2
            case hy3x2 => intro w hSw; go_simp <;> with_reducible rfl
            simp only [Act.put, List.getElem_toArray, List.getElem_cons_zero, List.getElem_cons_succ, List.setIfInBounds_toArray, List.set_cons_zero, List.set_cons_succ]
            refine wpAnyH_take (i := 3) (v := (.bool true)) rfl (by kernel_rfl) (by kernel_rfl) (by kernel_rfl) (fun _ _ _ h => h) (Or.inl ⟨by rfl, ?hy4x3⟩) (by assumption) ?rest4x3
            case hy4x3 => intro w hSw; go_simp <;> with_reducible rfl
            simp only [Act.put, List.getElem_toArray, List.getElem_cons_zero, List.getElem_cons_succ, List.setIfInBounds_toArray, List.set_cons_zero, List.set_cons_succ]
            refine wpAnyH_take (i := 4) (v := (.bool true)) rfl (by kernel_rfl) (by kernel_rfl) (by kernel_rfl) (fun _ _ _ h => h) (Or.inl ⟨by rfl, ?hy5x4⟩) (by assumption) ?rest5x4
            case hy5x4 => intro w hSw; go_simp <;> with_reducible rfl
            simp only [Act.put, List.getElem_toArray, List.getElem_cons_zero, List.getElem_cons_succ, List.setIfInBounds_toArray, List.set_cons_zero, List.set_cons_succ]
            refine wpAnyH_take (i := 5) (v := ?v6x5) rfl (by kernel_rfl) (by kernel_rfl) (by kernel_rfl) (fun _ _ _ h => h) (Or.inl ⟨by rfl, ?hy6x5⟩) (by assumption) ?rest6x5
            case hy6x5 => intro w hSw; go_simp <;> with_reducible rfl
            simp only [Act.put, List.getElem_toArray, List.getElem_cons_zero, List.getElem_cons_succ, List.setIfInBounds_toArray, List.set_cons_zero, List.set_cons_succ]
            refine wpAnyH_take (i := 6) (v := ?v7x6) rfl (by kernel_rfl) (by kernel_rfl) (by kernel_rfl) (fun _ _ _ h => h) (Or.inl ⟨by rfl, ?hy7x6⟩) (by assumption) ?rest7x6
            case hy7x6 => intro w hSw; go_simp <;> with_reducible rfl
            simp only [Act.put, List.getElem_toArray, List.getElem_cons_zero, List.getElem_cons_succ, List.setIfInBounds_toArray, List.set_cons_zero, List.set_cons_succ]
            refine wpAnyH_take (i := 7) (v := ?v8x7) rfl (by kernel_rfl) (by kernel_rfl) (by kernel_rfl) (fun _ _ _ h => h) (Or.inl ⟨by rfl, ?hy8x7⟩) (by assumption) ?rest8x7
            case hy8x7 => intro w hSw; go_simp <;> with_reducible rfl
            simp only [Act.put, List.getElem_toArray, List.getElem_cons_zero, List.getElem_cons_succ, List.setIfInBounds_toArray, List.set_cons_zero, List.set_cons_succ]
            refine wpAnyH_take (i := 8) (v := ?v9x8) rfl (by kernel_rfl) (by kernel_rfl) (by kernel_rfl) (fun _ _ _ h => h) (Or.inl ⟨by rfl, ?hy9x8⟩) (by assumption) ?rest9x8
            case hy9x8 => intro w hSw; go_simp <;> with_reducible rfl
            simp only [Act.put, List.getElem_toArray, List.getElem_cons_zero, List.getElem_cons_succ, List.setIfInBounds_toArray, List.set_cons_zero, List.set_cons_succ]
            refine wpAnyH_take (i := 9) (v := (.agg #[.int .i32 d, .int .i64 f])) rfl (by kernel_rfl) (by kernel_rfl) (by kernel_rfl) (fun _ _ _ h => h) (Or.inl ⟨by rfl, ?hy10x9⟩) (by assumption) ?rest10x9
            case hy10x9 => intro w hSw; obtain ⟨s1, s2, s3, s4⟩ := unhide HCD _ hSw; go_simp <;> with_reducible rfl
            simp only [Act.put, List.getElem_toArray, List.getElem_cons_zero, List.getElem_cons_succ, List.setIfInBounds_toArray, List.set_cons_zero, List.set_cons_succ]
            refine wpAnyH_take (i := 10) (v := ?v11x10) rfl (by kernel_rfl) (by kernel_rfl) (by kernel_rfl) (fun _ _ _ h => h) (Or.inl ⟨by rfl, ?hy11x10⟩) (by assumption) ?rest11x10
            case hy11x10 => intro w hSw; go_simp <;> with_reducible rfl
            simp only [Act.put, List.getElem_toArray, List.getElem_cons_zero, List.getElem_cons_succ, List.setIfInBounds_toArray, List.set_cons_zero, List.set_cons_succ]
            refine wpAnyH_take (i := 11) (v := ?v12x11) rfl (by kernel_rfl) (by kernel_rfl) (by kernel_rfl) (fun _ _ _ h => h) (Or.inl ⟨by rfl, ?hy12x11⟩) (by assumption) ?rest12x11
            case hy12x11 => intro w hSw; go_simp <;> with_reducible rfl
            simp only [Act.put, List.getElem_toArray, List.getElem_cons_zero, List.getElem_cons_succ, List.setIfInBounds_toArray, List.set_cons_zero, List.set_cons_succ]
            refine wpAnyH_take (i := 12) (v := ?v13x12) rfl (by kernel_rfl) (by kernel_rfl) (by kernel_rfl) (fun _ _ _ h => h) (Or.inl ⟨by rfl, ?hy13x12⟩) (by assumption) ?rest13x12
            case hy13x12 => intro w hSw; go_simp <;> with_reducible rfl
            simp only [Act.put, List.getElem_toArray, List.getElem_cons_zero, List.getElem_cons_succ, List.setIfInBounds_toArray, List.set_cons_zero, List.set_cons_succ]
            refine wpAnyH_take (i := 13) (v := ?v14x13) rfl (by kernel_rfl) (by kernel_rfl) (by kernel_rfl) (fun _ _ _ h => h) (Or.inl ⟨by rfl, ?hy14x13⟩) (by assumption) ?rest14x13
            case hy14x13 => intro w hSw; go_simp <;> with_reducible rfl
            simp only [Act.put, List.getElem_toArray, List.getElem_cons_zero, List.getElem_cons_succ, List.setIfInBounds_toArray, List.set_cons_zero, List.set_cons_succ]
            refine wpAnyH_take (i := 14) (v := (.agg #[.int .i32 a, .int .i64 b])) rfl (by kernel_rfl) (by kernel_rfl) (by kernel_rfl) (fun _ _ _ h => h) (Or.inl ⟨by rfl, ?hy15x14⟩) (by assumption) ?rest15x14
            case hy15x14 => intro w hSw; obtain ⟨s1, s2, s3, s4⟩ := unhide HCX _ hSw; go_simp <;> with_reducible rfl
            simp only [Act.put, List.getElem_toArray, List.getElem_cons_zero, List.getElem_cons_succ, List.setIfInBounds_toArray, List.set_cons_zero, List.set_cons_succ]
            refine wpAnyH_ready (rs := [15]) (by kernel_rfl) (by simp) ?_
            refine AllReadyH.cons rfl (fun K hK => ?_) AllReadyH.nil
            go_simp
            refine (unhide HRC _ (by assumption)).mono ?_
            rintro e wq ⟨rfl, hb1⟩
            refine hK _ _ hb1 ?_
            clear hK hHeld
            intro hHeld
            refine wpAnyH_take (i := 16) (v := (.bool true)) rfl (by kernel_rfl) (by kernel_rfl) (by kernel_rfl) (fun _ _ _ h => h) (Or.inl ⟨by rfl, ?hy16x16⟩) (by assumption) ?rest16x16
            case hy16x16 => intro w hSw; go_simp <;> with_reducible rfl
            simp only [Act.put, List.getElem_toArray, List.getElem_cons_zero, List.getElem_cons_succ, List.setIfInBounds_toArray, List.set_cons_zero, List.set_cons_succ]
            refine wpAnyH_done (by kernel_rfl) ?_ _
            go_wp2
            go_roundw
            case rel =>
              refine ⟨j + 1, by omega, by go_num, fun i x hi hxi => ?_, hb1⟩
              by_cases e : i = j
              · subst e
                rw [unhide HDJ] at hxi
                obtain rfl := Option.some.inj hxi
                exact of_decide_eq_true (unhide HR)
              · exact unhide HAL i x (by omega) hxi
            case measure => simp [intOf]; omega
          | false =>
            have hplc : j = plc (a, b) (keysD D) := plc_unique (by have := unhide HM; simp [keysD]; omega) (unhide HAL) (fun x hx => by rw [unhide HDJ] at hx; obtain rfl := Option.some.inj hx; exact of_decide_eq_false (unhide HR))
            have HPL := hide hplc
            clear hplc
            go_wp2_with fail
            refine wp_region_held_drew (S := fun x => Below wo.heap.size wo x) (by kernel_rfl) (unhide HBI).drew (fun hHeld => ?_)
            refine wpAnyH_take (i := 0) (v := ?v17x0) rfl (by kernel_rfl) (by kernel_rfl) (by kernel_rfl) (fun _ _ _ h => h) (Or.inl ⟨by rfl, ?hy17x0⟩) (by assumption) ?rest17x0
            case hy17x0 => intro w hSw; go_simp <;> with_reducible rfl
            simp only [Act.put, List.getElem_toArray, List.getElem_cons_zero, List.setIfInBounds_toArray, List.set_cons_zero, List.set_cons_succ]
            refine wpAnyH_take (i := 1) (v := ?v18x1) rfl (by kernel_rfl) (by kernel_rfl) (by kernel_rfl) (fun _ _ _ h => h) (Or.inl ⟨by rfl, ?hy18x1⟩) (by assumption) ?rest18x1
            case hy18x1 => intro w hSw; go_simp <;> with_reducible rfl
            simp only [Act.put, List.getElem_toArray, List.getElem_cons_zero, List.getElem_cons_succ, List.setIfInBounds_toArray, List.set_cons_zero, List.set_cons_succ]
            refine wpAnyH_take (i := 2) (v := ?v19x2) rfl (by kernel_rfl) (by kernel_rfl) (by kernel_rfl) (fun _ _ _ h => h) (Or.inl ⟨by rfl, ?hy19x2⟩) (by assumption) ?rest19x2
            case hy19x2 => intro w hSw; go_simp <;> with_reducible rfl
            simp only [Act.put, List.getElem_toArray, List.getElem_cons_zero, List.getElem_cons_succ, List.setIfInBounds_toArray, List.set_cons_zero, List.set_cons_succ]
            refine wpAnyH_take (i := 3) (v := (.bool true)) rfl (by kernel_rfl) (by kernel_rfl) (by kernel_rfl) (fun _ _ _ h => h) (Or.inl ⟨by rfl, ?hy20x3⟩) (by assumption) ?rest20x3
            case hy20x3 => intro w hSw; go_simp <;> with_reducible rfl
            simp only [Act.put, List.getElem_toArray, List.getElem_cons_zero, List.getElem_cons_succ, List.setIfInBounds_toArray, List.set_cons_zero, List.set_cons_succ]
            refine wpAnyH_take (i := 4) (v := (.bool true)) rfl (by kernel_rfl) (by kernel_rfl) (by kernel_rfl) (fun _ _ _ h => h) (Or.inl ⟨by rfl, ?hy21x4⟩) (by assumption) ?rest21x4
            case hy21x4 => intro w hSw; go_simp <;> with_reducible rfl
            simp only [Act.put, List.getElem_toArray, List.getElem_cons_zero, List.getElem_cons_succ, List.setIfInBounds_toArray, List.set_cons_zero, List.set_cons_succ]
            refine wpAnyH_take (i := 5) (v := ?v22x5) rfl (by kernel_rfl) (by kernel_rfl) (by kernel_rfl) (fun _ _ _ h => h) (Or.inl ⟨by rfl, ?hy22x5⟩) (by assumption) ?rest22x5
            case hy22x5 => intro w hSw; go_simp <;> with_reducible rfl
            simp only [Act.put, List.getElem_toArray, List.getElem_cons_zero, List.getElem_cons_succ, List.setIfInBounds_toArray, List.set_cons_zero, List.set_cons_succ]
            refine wpAnyH_take (i := 6) (v := ?v23x6) rfl (by kernel_rfl) (by kernel_rfl) (by kernel_rfl) (fun _ _ _ h => h) (Or.inl ⟨by rfl, ?hy23x6⟩) (by assumption) ?rest23x6
            case hy23x6 => intro w hSw; go_simp <;> with_reducible rfl
            simp only [Act.put, List.getElem_toArray, List.getElem_cons_zero, List.getElem_cons_succ, List.setIfInBounds_toArray, List.set_cons_zero, List.set_cons_succ]
            refine wpAnyH_take (i := 7) (v := ?v24x7) rfl (by kernel_rfl) (by kernel_rfl) (by kernel_rfl) (fun _ _ _ h => h) (Or.inl ⟨by rfl, ?hy24x7⟩) (by assumption) ?rest24x7
            case hy24x7 => intro w hSw; go_simp <;> with_reducible rfl
            simp only [Act.put, List.getElem_toArray, List.getElem_cons_zero, List.getElem_cons_succ, List.setIfInBounds_toArray, List.set_cons_zero, List.set_cons_succ]
            refine wpAnyH_take (i := 8) (v := ?v25x8) rfl (by kernel_rfl) (by kernel_rfl) (by kernel_rfl) (fun _ _ _ h => h) (Or.inl ⟨by rfl, ?hy25x8⟩) (by assumption) ?rest25x8
            case hy25x8 => intro w hSw; go_simp <;> with_reducible rfl
            simp only [Act.put, List.getElem_toArray, List.getElem_cons_zero, List.getElem_cons_succ, List.setIfInBounds_toArray, List.set_cons_zero, List.set_cons_succ]
            refine wpAnyH_take (i := 9) (v := (.agg #[.int .i32 d, .int .i64 f])) rfl (by kernel_rfl) (by kernel_rfl) (by kernel_rfl) (fun _ _ _ h => h) (Or.inl ⟨by rfl, ?hy26x9⟩) (by assumption) ?rest26x9
            case hy26x9 => intro w hSw; obtain ⟨s1, s2, s3, s4⟩ := unhide HCD _ hSw; go_simp <;> with_reducible rfl
            simp only [Act.put, List.getElem_toArray, List.getElem_cons_zero, List.getElem_cons_succ, List.setIfInBounds_toArray, List.set_cons_zero, List.set_cons_succ]
            refine wpAnyH_take (i := 10) (v := ?v27x10) rfl (by kernel_rfl) (by kernel_rfl) (by kernel_rfl) (fun _ _ _ h => h) (Or.inl ⟨by rfl, ?hy27x10⟩) (by assumption) ?rest27x10
            case hy27x10 => intro w hSw; go_simp <;> with_reducible rfl
            simp only [Act.put, List.getElem_toArray, List.getElem_cons_zero, List.getElem_cons_succ, List.setIfInBounds_toArray, List.set_cons_zero, List.set_cons_succ]
            refine wpAnyH_take (i := 11) (v := ?v28x11) rfl (by kernel_rfl) (by kernel_rfl) (by kernel_rfl) (fun _ _ _ h => h) (Or.inl ⟨by rfl, ?hy28x11⟩) (by assumption) ?rest28x11
            case hy28x11 => intro w hSw; go_simp <;> with_reducible rfl
            simp only [Act.put, List.getElem_toArray, List.getElem_cons_zero, List.getElem_cons_succ, List.setIfInBounds_toArray, List.set_cons_zero, List.set_cons_succ]
            refine wpAnyH_take (i := 12) (v := ?v29x12) rfl (by kernel_rfl) (by kernel_rfl) (by kernel_rfl) (fun _ _ _ h => h) (Or.inl ⟨by rfl, ?hy29x12⟩) (by assumption) ?rest29x12
            case hy29x12 => intro w hSw; go_simp <;> with_reducible rfl
            simp only [Act.put, List.getElem_toArray, List.getElem_cons_zero, List.getElem_cons_succ, List.setIfInBounds_toArray, List.set_cons_zero, List.set_cons_succ]
            refine wpAnyH_take (i := 13) (v := ?v30x13) rfl (by kernel_rfl) (by kernel_rfl) (by kernel_rfl) (fun _ _ _ h => h) (Or.inl ⟨by rfl, ?hy30x13⟩) (by assumption) ?rest30x13
            case hy30x13 => intro w hSw; go_simp <;> with_reducible rfl
            simp only [Act.put, List.getElem_toArray, List.getElem_cons_zero, List.getElem_cons_succ, List.setIfInBounds_toArray, List.set_cons_zero, List.set_cons_succ]
            refine wpAnyH_take (i := 14) (v := (.agg #[.int .i32 a, .int .i64 b])) rfl (by kernel_rfl) (by kernel_rfl) (by kernel_rfl) (fun _ _ _ h => h) (Or.inl ⟨by rfl, ?hy31x14⟩) (by assumption) ?rest31x14
            case hy31x14 => intro w hSw; obtain ⟨s1, s2, s3, s4⟩ := unhide HCX _ hSw; go_simp <;> with_reducible rfl
            simp only [Act.put, List.getElem_toArray, List.getElem_cons_zero, List.getElem_cons_succ, List.setIfInBounds_toArray, List.set_cons_zero, List.set_cons_succ]
            refine wpAnyH_ready (rs := [15]) (by kernel_rfl) (by simp) ?_
            refine AllReadyH.cons rfl (fun K hK => ?_) AllReadyH.nil
            go_simp
            refine (unhide HRC _ (by assumption)).mono ?_
            rintro e wq ⟨rfl, hb1⟩
            refine hK _ _ hb1 ?_
            clear hK hHeld
            intro hHeld
            refine wpAnyH_take (i := 16) (v := (.bool false)) rfl (by kernel_rfl) (by kernel_rfl) (by kernel_rfl) (fun _ _ _ h => h) (Or.inl ⟨by rfl, ?hy32x16⟩) (by assumption) ?rest32x16
            case hy32x16 => intro w hSw; go_simp <;> with_reducible rfl
            simp only [Act.put, List.getElem_toArray, List.getElem_cons_zero, List.getElem_cons_succ, List.setIfInBounds_toArray, List.set_cons_zero, List.set_cons_succ]
            refine wpAnyH_done (by kernel_rfl) ?_ _
            clear hHeld
            have HB2 := hide hb1
            clear hb1
            obtain ⟨xx, hxx⟩ : ∃ x : World, x = wq := ⟨_, rfl⟩
            rw [← hxx] at HB2 ⊢
            clear hxx
            have hE := eql_key d f a b
            by_cases heq : (d, f) = (a, b)
            · have hqd : decide ((d, f) = (a, b)) = true := decide_eq_true heq
              have HKX : Hid ((keysD D)[j]? = some (a, b)) := (unhide HDJ).trans (by rw [heq])
              have hXX : Below wo.heap.size wo xx := unhide HB2
              have hXs := hXX.size
              have hsX := (unhide HSD).below chC_len hXX
              have hml : m < 4398046511103 := by omega
              obtain ⟨a1, c1, z1, r1, o1, b1⟩ := insC1 (Z := xx) (j := j) hsX hj (by omega)
              obtain ⟨a2, c2, z2, r2, o2, b2⟩ := insC2 (Z := xx) (Y := z1.alloc (.cells #[.int .i32 a, .int .i64 b, .int .i64 c, .bool q] 40)) (x := ((a, b), (c, q))) (own_below o1 (below_box _)) (b1.trans ((below_box _).mono b1.size)) (sees_oneC z1 ((a, b), (c, q))) (by omega)
              have k1 : Below wo.heap.size wo z1 := hXX.trans (b1.mono hXs)
              have k2 : Below wo.heap.size wo z2 := hXX.trans (b2.mono hXs)
              obtain ⟨s1, s2, s3, s4⟩ := unhide HCX z1 k1
              obtain ⟨t1, t2, t3, t4⟩ := unhide HCX z2 k2
              obtain ⟨u1, u2, u3, u4⟩ := unhide HCD z2 k2
              have HINS : Hid (∀ W2, Below z2.heap.size z2 W2 → ∃ a3 c3 z3, (Builtin.append_ #[30, 30] 30 #[.slice a2 (j + 1) c2, .slice (if oc = (j + 1) then (some ⟨gd, od, none⟩) else ((some ⟨gd, od, none⟩) : Option Addr).map (·.add ((j + 1) * 4))) (m - (j + 1)) (oc - (j + 1))]).run Tryd.prog W2 = .ok (.slice a3 (j + 1 + (m - (j + 1))) c3) z3 ∧ z3.ownsRow w.heap.size 40 4 (.slice a3 (j + 1 + (m - (j + 1))) c3) (srtD (l.take (t + 1))).length ((srtD (l.take (t + 1))).flatMap chC) ∧ Below w.heap.size w z3) := fun W2 hW => by
                obtain ⟨a3, c3, z3, r3, o3, b3⟩ := insC3 (Z := xx) (Y := W2) (j := (j + 1)) (own_below o2 hW) (b2.trans (hW.mono b2.size)) hsX (by omega) (by omega)
                have hins : srtD (l.take (t + 1)) = D.take j ++ [((a, b), (c, q))] ++ D.drop (j + 1) := by
                  have h := insD_plc ((a, b), (c, q)) D
                  simp only at h
                  rw [← unhide HPL, if_pos (unhide HKX)] at h
                  rw [unhide HDD, h]
                  simp
                have hinl : (srtD (l.take (t + 1))).length = j + 1 + (m - (j + 1)) := by
                  rw [hins]
                  have := unhide HM
                  simp only [List.length_append, List.length_take, List.length_drop, List.length_cons, List.length_nil]
                  omega
                refine ⟨a3, c3, z3, r3, ?_⟩
                rw [hinl, hins]
                have hb0 := unhide HBW
                exact ⟨own_mono o3 (Nat.le_trans hb0.size hXs), hb0.trans ((hXX.mono hb0.size).trans (b3.mono (Nat.le_trans hb0.size hXs)))⟩
              have hjoc : j ≤ oc := by omega
              have hjjm : (j + 1) ≤ m := by omega
              have HHK := hide (head_chs (some ⟨gd, od, none⟩) m oc j hjoc)
              have hTK : ∀ w, (Instr.slice 30 (.slice (some ⟨gd, od, none⟩) m oc) (some (.int .i64 ((j : Int) + 1))) none none).run Tryd.prog w = .ok (.slice (if oc = (j + 1) then (some ⟨gd, od, none⟩) else ((some ⟨gd, od, none⟩) : Option Addr).map (·.add ((j + 1) * 4))) (m - (j + 1)) (oc - (j + 1))) w := fun w => tail_chs (some ⟨gd, od, none⟩) m oc (j + 1) hjjm w
              obtain ⟨tl, htl⟩ : ∃ v : Option Addr, (if oc = (j + 1) then (some ⟨gd, od, none⟩) else ((some ⟨gd, od, none⟩) : Option Addr).map (·.add ((j + 1) * 4))) = v := ⟨_, rfl⟩
              obtain ⟨md, hmd⟩ : ∃ v : Nat, m - (j + 1) = v := ⟨_, rfl⟩
              obtain ⟨cd, hcd⟩ : ∃ v : Nat, oc - (j + 1) = v := ⟨_, rfl⟩
              rw [htl, hmd, hcd] at hTK
              simp only [htl, hmd, hcd] at HINS
              have HTK := hide hTK
              have H1 := hide r1
              have H2 := hide r2
              clear htl hmd hcd hTK hsX o1 b1 o2 b2 hXX hXs r1 r2 k1 k2
              go_wp2_with (first | (refine wpList_slice_wanted (by rfl) Tryd.underlying30 rfl rfl (unhide HHK _) ?_) | (refine wpList_append_wanted (by rfl) _ _ 30 rfl rfl rfl (unhide H1) ?_) | (refine wpList_append_wanted (by rfl) _ _ 30 rfl rfl rfl (unhide H2) ?_))
              go_quiet (fail)
              generalize hW2 : z2.drewN _ = W2
              obtain ⟨a3, c3, z3, r3, hR⟩ := unhide HINS W2 (hW2 ▸ Below.drewN (Below.refl _ _) _)
              have H3 := hide r3
              have HRR := hide hR
              clear r3 hR hW2 hjd
              go_wp2_with (first | (refine wpList_slice_wanted (by rfl) Tryd.underlying30 rfl rfl (unhide HTK _) ?_) | (refine wpList_append_wanted (by rfl) _ _ 30 rfl rfl rfl (unhide H3) ?_))
              go_roundw
              case rel => exact ⟨t + 1, by omega, by go_num, (unhide HRR).1, (unhide HRR).2⟩
              case measure => simp [intOf]; omega
            · have hqd : decide ((d, f) = (a, b)) = false := decide_eq_false heq
              have HKX : Hid (¬ (keysD D)[j]? = some (a, b)) := fun c => by rw [unhide HDJ] at c; exact heq (Option.some.inj c)
              have hXX : Below wo.heap.size wo xx := unhide HB2
              have hXs := hXX.size
              have hsX := (unhide HSD).below chC_len hXX
              have hml : m < 4398046511103 := by omega
              obtain ⟨a1, c1, z1, r1, o1, b1⟩ := insC1 (Z := xx) (j := j) hsX hj (by omega)
              obtain ⟨a2, c2, z2, r2, o2, b2⟩ := insC2 (Z := xx) (Y := z1.alloc (.cells #[.int .i32 a, .int .i64 b, .int .i64 c, .bool q] 40)) (x := ((a, b), (c, q))) (own_below o1 (below_box _)) (b1.trans ((below_box _).mono b1.size)) (sees_oneC z1 ((a, b), (c, q))) (by omega)
              have k1 : Below wo.heap.size wo z1 := hXX.trans (b1.mono hXs)
              have k2 : Below wo.heap.size wo z2 := hXX.trans (b2.mono hXs)
              obtain ⟨s1, s2, s3, s4⟩ := unhide HCX z1 k1
              obtain ⟨t1, t2, t3, t4⟩ := unhide HCX z2 k2
              obtain ⟨u1, u2, u3, u4⟩ := unhide HCD z2 k2
              have HINS : Hid (∀ W2, Below z2.heap.size z2 W2 → ∃ a3 c3 z3, (Builtin.append_ #[30, 30] 30 #[.slice a2 (j + 1) c2, .slice (if oc = j then (some ⟨gd, od, none⟩) else ((some ⟨gd, od, none⟩) : Option Addr).map (·.add (j * 4))) (m - j) (oc - j)]).run Tryd.prog W2 = .ok (.slice a3 (j + 1 + (m - j)) c3) z3 ∧ z3.ownsRow w.heap.size 40 4 (.slice a3 (j + 1 + (m - j)) c3) (srtD (l.take (t + 1))).length ((srtD (l.take (t + 1))).flatMap chC) ∧ Below w.heap.size w z3) := fun W2 hW => by
                obtain ⟨a3, c3, z3, r3, o3, b3⟩ := insC3 (Z := xx) (Y := W2) (j := j) (own_below o2 hW) (b2.trans (hW.mono b2.size)) hsX (by omega) (by omega)
                have hins : srtD (l.take (t + 1)) = D.take j ++ [((a, b), (c, q))] ++ D.drop j := by
                  have h := insD_plc ((a, b), (c, q)) D
                  simp only at h
                  rw [← unhide HPL, if_neg (unhide HKX)] at h
                  rw [unhide HDD, h]
                  simp
                have hinl : (srtD (l.take (t + 1))).length = j + 1 + (m - j) := by
                  rw [hins]
                  have := unhide HM
                  simp only [List.length_append, List.length_take, List.length_drop, List.length_cons, List.length_nil]
                  omega
                refine ⟨a3, c3, z3, r3, ?_⟩
                rw [hinl, hins]
                have hb0 := unhide HBW
                exact ⟨own_mono o3 (Nat.le_trans hb0.size hXs), hb0.trans ((hXX.mono hb0.size).trans (b3.mono (Nat.le_trans hb0.size hXs)))⟩
              have hjoc : j ≤ oc := by omega
              have hjjm : j ≤ m := by omega
              have HHK := hide (head_chs (some ⟨gd, od, none⟩) m oc j hjoc)
              have hTK : ∀ w, (Instr.slice 30 (.slice (some ⟨gd, od, none⟩) m oc) (some (.int .i64 (j : Int))) none none).run Tryd.prog w = .ok (.slice (if oc = j then (some ⟨gd, od, none⟩) else ((some ⟨gd, od, none⟩) : Option Addr).map (·.add (j * 4))) (m - j) (oc - j)) w := fun w => tail_chs (some ⟨gd, od, none⟩) m oc j hjjm w
              obtain ⟨tl, htl⟩ : ∃ v : Option Addr, (if oc = j then (some ⟨gd, od, none⟩) else ((some ⟨gd, od, none⟩) : Option Addr).map (·.add (j * 4))) = v := ⟨_, rfl⟩
              obtain ⟨md, hmd⟩ : ∃ v : Nat, m - j = v := ⟨_, rfl⟩
              obtain ⟨cd, hcd⟩ : ∃ v : Nat, oc - j = v := ⟨_, rfl⟩
              rw [htl, hmd, hcd] at hTK
              simp only [htl, hmd, hcd] at HINS
              have HTK := hide hTK
              have H1 := hide r1
              have H2 := hide r2
              clear htl hmd hcd hTK hsX o1 b1 o2 b2 hXX hXs r1 r2 k1 k2
              go_wp2_with (first | (refine wpList_slice_wanted (by rfl) Tryd.underlying30 rfl rfl (unhide HHK _) ?_) | (refine wpList_append_wanted (by rfl) _ _ 30 rfl rfl rfl (unhide H1) ?_) | (refine wpList_append_wanted (by rfl) _ _ 30 rfl rfl rfl (unhide H2) ?_))
              go_quiet (fail)
              generalize hW2 : z2.drewN _ = W2
              obtain ⟨a3, c3, z3, r3, hR⟩ := unhide HINS W2 (hW2 ▸ Below.drewN (Below.refl _ _) _)
              have H3 := hide r3
              have HRR := hide hR
              clear r3 hR hW2 hjd
              go_wp2_with (first | (refine wpList_slice_wanted (by rfl) Tryd.underlying30 rfl rfl (unhide HTK _) ?_) | (refine wpList_append_wanted (by rfl) _ _ 30 rfl rfl rfl (unhide H3) ?_))
              go_roundw
              case rel => exact ⟨t + 1, by omega, by go_num, (unhide HRR).1, (unhide HRR).2⟩
              case measure => simp [intOf]; omega
        · obtain rfl : j = m := by omega
          have hmd := unhide HM
          have hkl : (keysD D).length = j := by simp [keysD]; omega
          have hplc : j = plc (a, b) (keysD D) := plc_unique (by omega) (unhide HAL) (fun x hx => by rw [List.getElem?_eq_none (by omega)] at hx; cases hx)
          have HPL := hide hplc
          have HKX : Hid (¬ (keysD D)[j]? = some (a, b)) := fun c => by rw [List.getElem?_eq_none (by omega)] at c; cases c
          clear hplc hmd hall hbi hkl
          have hjd : decide ((j : Int) < (j : Int)) = false := by simp
          go_wp2_with fail
          refine wp_region_held_drew (S := fun x => Below wo.heap.size wo x) (by kernel_rfl) (unhide HBI).drew (fun hHeld => ?_)
          refine wpAnyH_take (i := 0) (v := ?v33x0) rfl (by kernel_rfl) (by kernel_rfl) (by kernel_rfl) (fun _ _ _ h => h) (Or.inl ⟨by rfl, ?hy33x0⟩) (by assumption) ?rest33x0
          case hy33x0 => intro w hSw; go_simp <;> with_reducible rfl
          simp only [Act.put, List.getElem_toArray, List.getElem_cons_zero, List.setIfInBounds_toArray, List.set_cons_zero, List.set_cons_succ]
          refine wpAnyH_take (i := 1) (v := ?v34x1) rfl (by kernel_rfl) (by kernel_rfl) (by kernel_rfl) (fun _ _ _ h => h) (Or.inl ⟨by rfl, ?hy34x1⟩) (by assumption) ?rest34x1
          case hy34x1 => intro w hSw; go_simp <;> with_reducible rfl
          simp only [Act.put, List.getElem_toArray, List.getElem_cons_zero, List.getElem_cons_succ, List.setIfInBounds_toArray, List.set_cons_zero, List.set_cons_succ]
          refine wpAnyH_take (i := 2) (v := ?v35x2) rfl (by kernel_rfl) (by kernel_rfl) (by kernel_rfl) (fun _ _ _ h => h) (Or.inl ⟨by rfl, ?hy35x2⟩) (by assumption) ?rest35x2
          case hy35x2 => intro w hSw; go_simp <;> with_reducible rfl
          simp only [Act.put, List.getElem_toArray, List.getElem_cons_zero, List.getElem_cons_succ, List.setIfInBounds_toArray, List.set_cons_zero, List.set_cons_succ]
          refine wpAnyH_take (i := 3) (v := (.bool false)) rfl (by kernel_rfl) (by kernel_rfl) (by kernel_rfl) (fun _ _ _ h => h) (Or.inl ⟨by rfl, ?hy36x3⟩) (by assumption) ?rest36x3
          case hy36x3 => intro w hSw; go_simp <;> with_reducible rfl
          simp only [Act.put, List.getElem_toArray, List.getElem_cons_zero, List.getElem_cons_succ, List.setIfInBounds_toArray, List.set_cons_zero, List.set_cons_succ]
          refine wpAnyH_take (i := 4) (v := (.bool false)) rfl (by kernel_rfl) (by kernel_rfl) (by kernel_rfl) (fun _ _ _ h => h) (Or.inl ⟨by rfl, ?hy37x4⟩) (by assumption) ?rest37x4
          case hy37x4 => intro w hSw; go_simp <;> with_reducible rfl
          simp only [Act.put, List.getElem_toArray, List.getElem_cons_zero, List.getElem_cons_succ, List.setIfInBounds_toArray, List.set_cons_zero, List.set_cons_succ]
          refine wpAnyH_take (i := 5) (v := undef) rfl (by kernel_rfl) (by kernel_rfl) (by kernel_rfl) (fun _ _ _ h => h) (Or.inr ⟨by rfl, rfl⟩) (by assumption) ?_
          simp only [Act.put, List.getElem_toArray, List.getElem_cons_zero, List.getElem_cons_succ, List.setIfInBounds_toArray, List.set_cons_zero, List.set_cons_succ]
          refine wpAnyH_take (i := 6) (v := undef) rfl (by kernel_rfl) (by kernel_rfl) (by kernel_rfl) (fun _ _ _ h => h) (Or.inr ⟨by rfl, rfl⟩) (by assumption) ?_
          simp only [Act.put, List.getElem_toArray, List.getElem_cons_zero, List.getElem_cons_succ, List.setIfInBounds_toArray, List.set_cons_zero, List.set_cons_succ]
          refine wpAnyH_take (i := 7) (v := undef) rfl (by kernel_rfl) (by kernel_rfl) (by kernel_rfl) (fun _ _ _ h => h) (Or.inr ⟨by rfl, rfl⟩) (by assumption) ?_
          simp only [Act.put, List.getElem_toArray, List.getElem_cons_zero, List.getElem_cons_succ, List.setIfInBounds_toArray, List.set_cons_zero, List.set_cons_succ]
          refine wpAnyH_take (i := 8) (v := undef) rfl (by kernel_rfl) (by kernel_rfl) (by kernel_rfl) (fun _ _ _ h => h) (Or.inr ⟨by rfl, rfl⟩) (by assumption) ?_
          simp only [Act.put, List.getElem_toArray, List.getElem_cons_zero, List.getElem_cons_succ, List.setIfInBounds_toArray, List.set_cons_zero, List.set_cons_succ]
          refine wpAnyH_take (i := 9) (v := undef) rfl (by kernel_rfl) (by kernel_rfl) (by kernel_rfl) (fun _ _ _ h => h) (Or.inr ⟨by rfl, rfl⟩) (by assumption) ?_
          simp only [Act.put, List.getElem_toArray, List.getElem_cons_zero, List.getElem_cons_succ, List.setIfInBounds_toArray, List.set_cons_zero, List.set_cons_succ]
          refine wpAnyH_take (i := 10) (v := undef) rfl (by kernel_rfl) (by kernel_rfl) (by kernel_rfl) (fun _ _ _ h => h) (Or.inr ⟨by rfl, rfl⟩) (by assumption) ?_
          simp only [Act.put, List.getElem_toArray, List.getElem_cons_zero, List.getElem_cons_succ, List.setIfInBounds_toArray, List.set_cons_zero, List.set_cons_succ]
          refine wpAnyH_take (i := 11) (v := undef) rfl (by kernel_rfl) (by kernel_rfl) (by kernel_rfl) (fun _ _ _ h => h) (Or.inr ⟨by rfl, rfl⟩) (by assumption) ?_
          simp only [Act.put, List.getElem_toArray, List.getElem_cons_zero, List.getElem_cons_succ, List.setIfInBounds_toArray, List.set_cons_zero, List.set_cons_succ]
          refine wpAnyH_take (i := 12) (v := undef) rfl (by kernel_rfl) (by kernel_rfl) (by kernel_rfl) (fun _ _ _ h => h) (Or.inr ⟨by rfl, rfl⟩) (by assumption) ?_
          simp only [Act.put, List.getElem_toArray, List.getElem_cons_zero, List.getElem_cons_succ, List.setIfInBounds_toArray, List.set_cons_zero, List.set_cons_succ]
          refine wpAnyH_take (i := 13) (v := undef) rfl (by kernel_rfl) (by kernel_rfl) (by kernel_rfl) (fun _ _ _ h => h) (Or.inr ⟨by rfl, rfl⟩) (by assumption) ?_
          simp only [Act.put, List.getElem_toArray, List.getElem_cons_zero, List.getElem_cons_succ, List.setIfInBounds_toArray, List.set_cons_zero, List.set_cons_succ]
          refine wpAnyH_take (i := 14) (v := undef) rfl (by kernel_rfl) (by kernel_rfl) (by kernel_rfl) (fun _ _ _ h => h) (Or.inr ⟨by rfl, rfl⟩) (by assumption) ?_
          simp only [Act.put, List.getElem_toArray, List.getElem_cons_zero, List.getElem_cons_succ, List.setIfInBounds_toArray, List.set_cons_zero, List.set_cons_succ]
          refine wpAnyH_take (i := 15) (v := undef) rfl (by kernel_rfl) (by kernel_rfl) (by kernel_rfl) (fun _ _ _ h => h) (Or.inr ⟨by rfl, rfl⟩) (by assumption) ?_
          simp only [Act.put, List.getElem_toArray, List.getElem_cons_zero, List.getElem_cons_succ, List.setIfInBounds_toArray, List.set_cons_zero, List.set_cons_succ]
          refine wpAnyH_take (i := 16) (v := (.bool false)) rfl (by kernel_rfl) (by kernel_rfl) (by kernel_rfl) (fun _ _ _ h => h) (Or.inl ⟨by rfl, ?hy49x16⟩) (by assumption) ?rest49x16
          case hy49x16 => intro w hSw; go_simp <;> with_reducible rfl
          simp only [Act.put, List.getElem_toArray, List.getElem_cons_zero, List.getElem_cons_succ, List.setIfInBounds_toArray, List.set_cons_zero, List.set_cons_succ]
          refine wpAnyH_done (by kernel_rfl) ?_ _
          clear hHeld
          obtain ⟨xx, hxx⟩ : ∃ x : World, x = wr.drew := ⟨_, rfl⟩
          have HB2 : Hid (Below wo.heap.size wo xx) := hxx ▸ (unhide HBI).drew
          rw [← hxx]
          clear hxx
          have hXX : Below wo.heap.size wo xx := unhide HB2
          have hXs := hXX.size
          have hsX := (unhide HSD).below chC_len hXX
          have hml : j < 4398046511103 := by omega
          obtain ⟨a1, c1, z1, r1, o1, b1⟩ := insC1 (Z := xx) (j := j) hsX hj (by omega)
          obtain ⟨a2, c2, z2, r2, o2, b2⟩ := insC2 (Z := xx) (Y := z1.alloc (.cells #[.int .i32 a, .int .i64 b, .int .i64 c, .bool q] 40)) (x := ((a, b), (c, q))) (own_below o1 (below_box _)) (b1.trans ((below_box _).mono b1.size)) (sees_oneC z1 ((a, b), (c, q))) (by omega)
          have k1 : Below wo.heap.size wo z1 := hXX.trans (b1.mono hXs)
          have k2 : Below wo.heap.size wo z2 := hXX.trans (b2.mono hXs)
          obtain ⟨s1, s2, s3, s4⟩ := unhide HCX z1 k1
          obtain ⟨t1, t2, t3, t4⟩ := unhide HCX z2 k2
          have HINS : Hid (∀ W2, Below z2.heap.size z2 W2 → ∃ a3 c3 z3, (Builtin.append_ #[30, 30] 30 #[.slice a2 (j + 1) c2, .slice (if oc = j then ov else (ov : Option Addr).map (·.add (j * 4))) (j - j) (oc - j)]).run Tryd.prog W2 = .ok (.slice a3 (j + 1 + (j - j)) c3) z3 ∧ z3.ownsRow w.heap.size 40 4 (.slice a3 (j + 1 + (j - j)) c3) (srtD (l.take (t + 1))).length ((srtD (l.take (t + 1))).flatMap chC) ∧ Below w.heap.size w z3) := fun W2 hW => by
            obtain ⟨a3, c3, z3, r3, o3, b3⟩ := insC3 (Z := xx) (Y := W2) (j := j) (own_below o2 hW) (b2.trans (hW.mono b2.size)) hsX (by omega) (by omega)
            have hins : srtD (l.take (t + 1)) = D.take j ++ [((a, b), (c, q))] ++ D.drop j := by
              have h := insD_plc ((a, b), (c, q)) D
              simp only at h
              rw [← unhide HPL, if_neg (unhide HKX)] at h
              rw [unhide HDD, h]
              simp
            have hinl : (srtD (l.take (t + 1))).length = j + 1 + (j - j) := by
              rw [hins]
              have := unhide HM
              simp only [List.length_append, List.length_take, List.length_drop, List.length_cons, List.length_nil]
              omega
            refine ⟨a3, c3, z3, r3, ?_⟩
            rw [hinl, hins]
            have hb0 := unhide HBW
            exact ⟨own_mono o3 (Nat.le_trans hb0.size hXs), hb0.trans ((hXX.mono hb0.size).trans (b3.mono (Nat.le_trans hb0.size hXs)))⟩
          have hjoc : j ≤ oc := by omega
          have hjjm : j ≤ j := by omega
          have HHK := hide (head_chs ov j oc j hjoc)
          have hTK : ∀ w, (Instr.slice 30 (.slice ov j oc) (some (.int .i64 (j : Int))) none none).run Tryd.prog w = .ok (.slice (if oc = j then ov else (ov : Option Addr).map (·.add (j * 4))) (j - j) (oc - j)) w := fun w => tail_chs ov j oc j hjjm w
          obtain ⟨tl, htl⟩ : ∃ v : Option Addr, (if oc = j then ov else (ov : Option Addr).map (·.add (j * 4))) = v := ⟨_, rfl⟩
          obtain ⟨md, hmd⟩ : ∃ v : Nat, j - j = v := ⟨_, rfl⟩
          obtain ⟨cd, hcd⟩ : ∃ v : Nat, oc - j = v := ⟨_, rfl⟩
          rw [htl, hmd, hcd] at hTK
          simp only [htl, hmd, hcd] at HINS
          have HTK := hide hTK
          have H1 := hide r1
          have H2 := hide r2
          clear htl hmd hcd hTK hsX o1 b1 o2 b2 hXX hXs r1 r2 k1 k2
          go_wp2_with (first | (refine wpList_slice_wanted (by rfl) Tryd.underlying30 rfl rfl (unhide HHK _) ?_) | (refine wpList_append_wanted (by rfl) _ _ 30 rfl rfl rfl (unhide H1) ?_) | (refine wpList_append_wanted (by rfl) _ _ 30 rfl rfl rfl (unhide H2) ?_))
          go_quiet (fail)
          generalize hW2 : z2.drewN _ = W2
          obtain ⟨a3, c3, z3, r3, hR⟩ := unhide HINS W2 (hW2 ▸ Below.drewN (Below.refl _ _) _)
          have H3 := hide r3
          have HRR := hide hR
          clear r3 hR hW2 hjd
          go_wp2_with (first | (refine wpList_slice_wanted (by rfl) Tryd.underlying30 rfl rfl (unhide HTK _) ?_) | (refine wpList_append_wanted (by rfl) _ _ 30 rfl rfl rfl (unhide H3) ?_))
          go_roundw
          case rel => exact ⟨t + 1, by omega, by go_num, (unhide HRR).1, (unhide HRR).2⟩
          case measure => simp [intOf]; omega
    · obtain rfl : t = n := by omega
      have hnl := unhide HN
      rw [List.take_of_length_le (by omega)] at hown
      obtain ⟨ov, oc, hov⟩ := own_shape hown
      have HOW := hide hown
      subst hov
      clear hown hnl
      go_wp2
      go_ret
      exact ⟨_, rfl, unhide HOW, unhide HBW⟩
end Go.Proofs.YtldapckooohigaaDoor
