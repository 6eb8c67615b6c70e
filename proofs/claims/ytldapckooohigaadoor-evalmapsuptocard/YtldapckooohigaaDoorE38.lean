/- The document's Apply. -/
import Derived.Test.YtldapckooohigaaDoorE37
namespace Go.Proofs.YtldapckooohigaaDoor
open Go.RowKit
set_option maxRecDepth 100000

set_option maxHeartbeats 6400000 in
theorem rapply_any {mv lv : Value} {m : List Pr} {l : List Ch} {w : World} (h1 : SeesL pC 3 w mv m) (h2 : SeesL chC 4 w lv l) (hll : m.length + l.length ≤ 5864062014803) :
    Calls Tryd.prog 18 #[mv, lv] w fun e w' => ∃ r, e = .returned r ∧ w'.ownsRow w.heap.size 45 3 r (appD m l).length ((appD m l).flatMap pC) ∧ Below w.heap.size w w' := by
  have HS : Hid (∀ w', Below w.heap.size w w' → SeesL chC 4 w' lv l) := fun w' hb => h2.below chC_len hb
  have HRP := hide (rpairs_any h1 (by omega))
  obtain ⟨ao, cap, _, _, hv, hcap, hmax, _⟩ := sees_at4 h2
  have HV := hide hv
  obtain ⟨n, hn⟩ : ∃ n, l.length = n := ⟨_, rfl⟩
  rw [hv, hn]
  rw [hn] at HV
  have HN := hide hn
  rw [hn] at hcap hmax hll
  have HA0 : Hid (appD m (l.take 0) = srtP m) := rfl
  have HLL : Hid (m.length + n ≤ 5864062014803) := hll
  clear h1 h2 hv hn hll
  go_enter Tryd.func18, Tryd.ntmps18
  go_wp2_with (go_at_call 35; have HQ := unhide HRP; refine Calls.mono HQ ?_; clear HQ HRP; rintro e w0 ⟨x, rfl, hq1, hq2⟩; have HQ1 := hide hq1; have HQ2 := hide hq2; clear hq1 hq2)
  go_loopw [5, 6] (fun o c wr => ∃ t : Nat, t ≤ n ∧ c = .int .i64 t ∧ wr.ownsRow w.heap.size 45 3 o (appD m (l.take t)).length ((appD m (l.take t)).flatMap pC) ∧ Below w.heap.size w wr) (fun _ c _ => n - (intOf c).toNat)
  case atStart => exact ⟨0, by omega, rfl, by rw [unhide HA0]; exact unhide HQ1, unhide HQ2⟩
  case round =>
    obtain ⟨t, ht, rfl, hown, hbw⟩ := hrel
    obtain ⟨wo, rfl⟩ : ∃ x, x = wr := ⟨_, rfl⟩
    have HBW := hide hbw
    by_cases hlt : t < n
    · have hnl := unhide HN
      have htl : t < l.length := by omega
      obtain ⟨gb, ob, hao, -, hcx⟩ := ch_cells (unhide HS wo hbw) (unhide HV) htl
      subst hao
      obtain ⟨⟨⟨a, b⟩, ⟨c, q⟩⟩, hx⟩ : ∃ k, l.getD t default = k := ⟨_, rfl⟩
      have hx' : l[t] = ((a, b), (c, q)) := by rw [← hx]; simp [List.getD, htl]
      rw [hx] at hcx
      have HCX := hide hcx
      obtain ⟨D, hD⟩ : ∃ D, appD m (l.take t) = D := ⟨_, rfl⟩
      have hdd : appD m (l.take (t + 1)) = srtP (offP (a, b) D ++ tailP ((a, b), (c, q))) := by
        rw [List.take_succ_eq_append_getElem htl, appD_snoc, hx', hD]; rfl
      have hlen : D.length ≤ m.length + t := by rw [← hD]; exact Nat.le_trans (appD_spec m _).2.2 (by simp; omega)
      rw [hD] at hown
      have HDD := hide hdd
      obtain ⟨k, hk⟩ : ∃ k, D.length = k := ⟨_, rfl⟩
      have hsees := (own_sees pC_len (by decide) hown).2
      have HSD := hide hsees
      obtain ⟨ov, oc, hov⟩ := own_shape hown
      have hkm : k ≤ 9223372036854775807 := by have := unhide HLL; omega
      have hlk : k ≤ m.length + t := by omega
      have HLK := hide hlk
      rw [hk] at hov
      subst hov
      have HK := hide hk
      clear hx hx' hcx hdd hD hown hsees hk htl hnl hlen hlk
      go_wp2
      go_loopw [7, 8] (fun o c wi => ∃ j : Nat, j ≤ k ∧ c = .int .i64 j ∧ wi.ownsRow wo.heap.size 45 3 o (offP (a, b) (D.take j)).length ((offP (a, b) (D.take j)).flatMap pC) ∧ Below wo.heap.size wo wi) (fun _ c _ => k - (intOf c).toNat)
      case atStart => exact ⟨0, by omega, rfl, own_nil _ _ _ _, Below.refl _ _⟩
      case round =>
        obtain ⟨j, hj, rfl, hown, hbi⟩ := hrel
        obtain ⟨xv, xc, hxv⟩ := own_shape hown
        subst hxv
        have HOW := hide hown
        have HBI := hide hbi
        by_cases hjk : j < k
        · have hkd := unhide HK
          have hjd : j < D.length := by omega
          obtain ⟨gd, od, hod, -, hcd⟩ := pair_cells (unhide HSD) rfl hjd
          subst hod
          obtain ⟨⟨⟨d, f⟩, h⟩, hdj⟩ : ∃ k, D.getD j default = k := ⟨_, rfl⟩
          have hdj' : D[j] = ((d, f), h) := by rw [← hdj]; simp [List.getD, hjd]
          rw [hdj] at hcd
          obtain ⟨s1, s2, s3⟩ := hcd wr hbi
          have HCD := hide hcd
          obtain ⟨t1, t2, t3, t4⟩ := unhide HCX wr hbi
          have hE := neq_key d f a b
          have hne : offP (a, b) (D.take (j + 1)) = if (d, f) = (a, b) then offP (a, b) (D.take j) else offP (a, b) (D.take j) ++ [((d, f), h)] := by
            rw [List.take_succ_eq_append_getElem hjd, offP_snoc, hdj']
          have hlo : (offP (a, b) (D.take j)).length ≤ j := Nat.le_trans (List.length_filter_le _ _) (by simp; omega)
          obtain ⟨L, hL⟩ : ∃ L, offP (a, b) (D.take j) = L := ⟨_, rfl⟩
          rw [hL] at hne hlo HOW hown
          obtain ⟨p, hp⟩ : ∃ p, L.length = p := ⟨_, rfl⟩
          have HNE := hide hne
          have HP := hide hp
          rw [hL, hp]
          rw [hp] at hlo
          obtain ⟨rq, hr⟩ : ∃ rq, decide ((d, f) = (a, b)) = rq := ⟨_, rfl⟩
          rw [hr] at hE
          clear hkd hjd hcd hdj hdj' hne hown hbi hL hp
          cases rq with
          | true =>
            have HI := hide (of_decide_eq_true hr)
            clear hr
            simp only [Bool.not_true] at hE
            go_wp2_with fail
            go_quiet (fail)
            generalize hW2 : wr.drewN _ = W2
            have hb2 : Below wr.heap.size wr W2 := hW2 ▸ Below.drewN (Below.refl _ _) _
            have HB2 := hide hb2
            clear hW2 hb2
            go_wp2
            go_roundw
            case rel =>
              have h0 := unhide HBI
              refine ⟨j + 1, by omega, by go_num, ?_, h0.trans ((unhide HB2).mono h0.size)⟩
              rw [unhide HNE, if_pos (unhide HI), unhide HP]
              have ho := own_below (unhide HOW) (unhide HB2)
              rw [unhide HP] at ho
              exact ho
            case measure => simp [intOf]; omega
          | false =>
            have HI := hide (of_decide_eq_false hr)
            clear hr
            simp only [Bool.not_false] at hE
            go_wp2_with fail
            go_quiet (fail)
            generalize hW2 : wr.drewN _ = W2
            have hb2 : Below wr.heap.size wr W2 := hW2 ▸ Below.drewN (Below.refl _ _) _
            have h0 := unhide HBI
            have hbw2 : Below wo.heap.size wo W2 := h0.trans (hb2.mono h0.size)
            obtain ⟨y1, y2, y3⟩ := unhide HCD W2 hbw2
            have ho2 := own_below (unhide HOW) hb2
            obtain ⟨a3, c3, y5, r2, ho5, hb5⟩ := app_pairs 29 (own_below ho2 (below_box (.cells #[.int .i32 d, .int .i64 f, .int .i64 h] 45))) (sees_oneP W2 ((d, f), h)) (by have := unhide HP; have := unhide HLK; have := unhide HLL; simp only [List.length_cons, List.length_nil]; omega) (hbw2.alloc hbw2.size _).size
            have HR : Hid (y5.ownsRow wo.heap.size 45 3 (.slice a3 (L.length + 1) c3) (offP (a, b) (D.take (j + 1))).length ((offP (a, b) (D.take (j + 1))).flatMap pC) ∧ Below wo.heap.size wo y5) := by
              rw [unhide HNE, if_neg (unhide HI)]
              exact ⟨by simpa using ho5, (hbw2.alloc hbw2.size _).trans hb5⟩
            rw [unhide HP] at HR
            have r3 : (Builtin.append_ #[29, 29] 29 #[.slice xv p xc, .slice (some ⟨W2.heap.size, 0, none⟩) 1 1]).run Tryd.prog (W2.alloc (.cells #[.int .i32 d, .int .i64 f, .int .i64 h] 45)) = .ok (.slice a3 (p + 1) c3) y5 := by
              rw [← unhide HP]; exact r2
            have HR2 := hide r3
            clear hW2 hb2 h0 hbw2 ho2 r2 r3 ho5 hb5
            go_wp2_with (refine wpList_append_wanted (by rfl) _ _ 29 rfl rfl rfl (unhide HR2) ?_)
            go_roundw
            case rel => exact ⟨j + 1, by omega, by go_num, (unhide HR).1, (unhide HR).2⟩
            case measure => simp [intOf]; omega
        · obtain rfl : j = k := by omega
          have hkd := unhide HK
          have eD : D.take j = D := List.take_of_length_le (by omega)
          rw [eD] at hown ⊢
          obtain ⟨P, hP⟩ : ∃ P, offP (a, b) D = P := ⟨_, rfl⟩
          have hlp : P.length ≤ j := by rw [← hP]; exact Nat.le_trans (List.length_filter_le _ _) (by omega)
          rw [hP] at hown ⊢
          have HPP := hide hP
          have hml := unhide HLL
          have hmk := unhide HLK
          have hse := (own_sees pC_len (by decide) hown).2
          obtain ⟨p, hp⟩ : ∃ p, P.length = p := ⟨_, rfl⟩
          have HC := hide (rpairs_any hse (by omega))
          have HOP := hide hown
          rw [hp] at HC HOP hlp ⊢
          have HP := hide hp
          obtain ⟨t1, t2, t3, t4⟩ := unhide HCX wr hbi
          clear hP hp hse hown HOW eD hkd hml hmk hbi
          cases q with
          | true =>
            go_wp2_with (go_at_call 35; have HQ := unhide HC; refine Calls.mono HQ ?_; clear HQ HC; rintro e z1 ⟨x, rfl, hq1, hq2⟩; obtain ⟨xa, xc2, rfl⟩ := own_shape hq1; have HQ3 := hide hq1; have HQ4 := hide hq2; clear hq1 hq2)
            go_roundw
            case rel =>
              have h0 := unhide HBW
              have h1 := unhide HBI
              have h2 := h0.trans (h1.mono h0.size)
              refine ⟨t + 1, by omega, by go_num, ?_, h2.trans ((unhide HQ4).mono h2.size)⟩
              have eT : tailP ((a, b), (c, true)) = [] := rfl
              rw [unhide HDD, eT, List.append_nil, unhide HPP]
              exact own_mono (unhide HQ3) h2.size
            case measure => simp [intOf]; omega
          | false =>
            clear HC
            have h1 := unhide HBI
            have hdr : Below wo.heap.size wo wr.drew := h1.drew
            have hal : Below wo.heap.size wo (wr.drew.alloc (.cells #[.int .i32 a, .int .i64 b, .int .i64 c] 45)) := hdr.alloc hdr.size _
            have ho3 := own_below (own_below (unhide HOP) (Below.refl _ _).drew) (below_box (.cells #[.int .i32 a, .int .i64 b, .int .i64 c] 45))
            rw [← unhide HP] at ho3
            obtain ⟨a3, c3, y5, r2, ho5, hb5⟩ := app_pairs 29 ho3 (sees_oneP wr.drew ((a, b), c)) (by have := unhide HP; have := unhide HLK; have := unhide HLL; simp only [List.length_cons, List.length_nil]; omega) hal.size
            have r3 : (Builtin.append_ #[29, 29] 29 #[.slice xv p xc, .slice (some ⟨wr.heap.size, 0, none⟩) 1 1]).run Tryd.prog (wr.drew.alloc (.cells #[.int .i32 a, .int .i64 b, .int .i64 c] 45)) = .ok (.slice a3 (p + 1) c3) y5 := by
              rw [← unhide HP]; exact r2
            have hb6 : Below wo.heap.size wo y5 := hal.trans hb5
            have hse := (own_sees pC_len (by decide) ho5).2
            have HC := hide (rpairs_any hse (by have := unhide HP; have := unhide HLK; have := unhide HLL; simp only [List.length_append, List.length_cons, List.length_nil]; omega))
            have eL : P.length + [((a, b), c)].length = p + 1 := by rw [unhide HP]; rfl
            rw [eL] at HC
            have HAL := hide hal
            have HB6 := hide hb6
            have HR2 := hide r3
            clear h1 hdr hal ho3 r2 ho5 hb5 r3 hb6 hse eL
            go_wp2_with fail
            refine wp_region_held_drew (S := fun x => Below wo.heap.size wo x) (by kernel_rfl) (unhide HBI).drew (fun hHeld => ?_)
            refine wpAnyH_take (i := 0) (v := ?v1x0) rfl (by kernel_rfl) (by kernel_rfl) (by kernel_rfl) (fun _ _ _ h => h) (Or.inl ⟨by rfl, ?hy1x0⟩) (by assumption) ?rest1x0
            case hy1x0 => intro w hSw; go_simp <;> with_reducible rfl
            simp only [Act.put, List.getElem_toArray, List.getElem_cons_zero, List.setIfInBounds_toArray, List.set_cons_zero, List.set_cons_succ]
            refine wpAnyH_take (i := 1) (v := ?v2x1) rfl (by kernel_rfl) (by kernel_rfl) (by kernel_rfl) (fun _ _ _ h => h) (Or.inl ⟨by rfl, ?hy2x1⟩) (by assumption) ?rest2x1
            case hy2x1 => intro w hSw; go_simp <;> with_reducible rfl
            simp only [Act.put, List.getElem_toArray, List.getElem_cons_zero, List.getElem_cons_succ, List.setIfInBounds_toArray, List.set_cons_zero, List.set_cons_succ]
            refine wpAnyH_take (i := 2) (v := ?v3x2) rfl (by kernel_rfl) (by kernel_rfl) (by kernel_rfl) (fun _ _ _ h => h) (Or.inl ⟨by rfl, ?hy3x2⟩) (by assumption) ?rest3x2
            case hy3x2 => intro w hSw; go_simp <;> with_reducible rfl
            simp only [Act.put, List.getElem_toArray, List.getElem_cons_zero, List.getElem_cons_succ, List.setIfInBounds_toArray, List.set_cons_zero, List.set_cons_succ]
            refine wpAnyH_take (i := 3) (v := ?v4x3) rfl (by kernel_rfl) (by kernel_rfl) (by kernel_rfl) (fun _ _ _ h => h) (Or.inl ⟨by rfl, ?hy4x3⟩) (by assumption) ?rest4x3
            case hy4x3 => intro w hSw; go_simp <;> with_reducible rfl
            simp only [Act.put, List.getElem_toArray, List.getElem_cons_zero, List.getElem_cons_succ, List.setIfInBounds_toArray, List.set_cons_zero, List.set_cons_succ]
            refine wpAnyH_take (i := 4) (v := ?v5x4) rfl (by kernel_rfl) (by kernel_rfl) (by kernel_rfl) (fun _ _ _ h => h) (Or.inl ⟨by rfl, ?hy5x4⟩) (by assumption) ?rest5x4
            case hy5x4 => intro w hSw; go_simp <;> with_reducible rfl
            simp only [Act.put, List.getElem_toArray, List.getElem_cons_zero, List.getElem_cons_succ, List.setIfInBounds_toArray, List.set_cons_zero, List.set_cons_succ]
            refine wpAnyH_take (i := 5) (v := (.agg #[.int .i32 a, .int .i64 b])) rfl (by kernel_rfl) (by kernel_rfl) (by kernel_rfl) (fun _ _ _ h => h) (Or.inl ⟨by rfl, ?hy6x5⟩) (by assumption) ?rest6x5
            case hy6x5 => intro w hSw; obtain ⟨s1, s2, s3, s4⟩ := unhide HCX _ hSw; go_simp <;> with_reducible rfl
            simp only [Act.put, List.getElem_toArray, List.getElem_cons_zero, List.getElem_cons_succ, List.setIfInBounds_toArray, List.set_cons_zero, List.set_cons_succ]
            refine wpAnyH_take (i := 6) (v := ?v7x6) rfl (by kernel_rfl) (by kernel_rfl) (by kernel_rfl) (fun _ _ _ h => h) (Or.inl ⟨by rfl, ?hy7x6⟩) (by assumption) ?rest7x6
            case hy7x6 => intro w hSw; go_simp <;> with_reducible rfl
            simp only [Act.put, List.getElem_toArray, List.getElem_cons_zero, List.getElem_cons_succ, List.setIfInBounds_toArray, List.set_cons_zero, List.set_cons_succ]
            refine wpAnyH_take (i := 7) (v := ?v8x7) rfl (by kernel_rfl) (by kernel_rfl) (by kernel_rfl) (fun _ _ _ h => h) (Or.inl ⟨by rfl, ?hy8x7⟩) (by assumption) ?rest8x7
            case hy8x7 => intro w hSw; go_simp <;> with_reducible rfl
            simp only [Act.put, List.getElem_toArray, List.getElem_cons_zero, List.getElem_cons_succ, List.setIfInBounds_toArray, List.set_cons_zero, List.set_cons_succ]
            refine wpAnyH_take (i := 8) (v := ?v9x8) rfl (by kernel_rfl) (by kernel_rfl) (by kernel_rfl) (fun _ _ _ h => h) (Or.inl ⟨by rfl, ?hy9x8⟩) (by assumption) ?rest9x8
            case hy9x8 => intro w hSw; go_simp <;> with_reducible rfl
            simp only [Act.put, List.getElem_toArray, List.getElem_cons_zero, List.getElem_cons_succ, List.setIfInBounds_toArray, List.set_cons_zero, List.set_cons_succ]
            refine wpAnyH_take (i := 9) (v := ?v10x9) rfl (by kernel_rfl) (by kernel_rfl) (by kernel_rfl) (fun _ _ _ h => h) (Or.inl ⟨by rfl, ?hy10x9⟩) (by assumption) ?rest10x9
            case hy10x9 => intro w hSw; go_simp <;> with_reducible rfl
            simp only [Act.put, List.getElem_toArray, List.getElem_cons_zero, List.getElem_cons_succ, List.setIfInBounds_toArray, List.set_cons_zero, List.set_cons_succ]
            refine wpAnyH_take (i := 10) (v := (.int .i64 c)) rfl (by kernel_rfl) (by kernel_rfl) (by kernel_rfl) (fun _ _ _ h => h) (Or.inl ⟨by rfl, ?hy11x10⟩) (by assumption) ?rest11x10
            case hy11x10 => intro w hSw; obtain ⟨s1, s2, s3, s4⟩ := unhide HCX _ hSw; go_simp <;> with_reducible rfl
            simp only [Act.put, List.getElem_toArray, List.getElem_cons_zero, List.getElem_cons_succ, List.setIfInBounds_toArray, List.set_cons_zero, List.set_cons_succ]
            refine wpAnyH_take (i := 11) (v := ?v12x11) rfl (by kernel_rfl) (by kernel_rfl) (by kernel_rfl) (fun _ _ _ h => h) (Or.inl ⟨by rfl, ?hy12x11⟩) (by assumption) ?rest12x11
            case hy12x11 => intro w hSw; go_simp <;> with_reducible rfl
            simp only [Act.put, List.getElem_toArray, List.getElem_cons_zero, List.getElem_cons_succ, List.setIfInBounds_toArray, List.set_cons_zero, List.set_cons_succ]
            refine wpAnyH_ready (rs := [12]) (by kernel_rfl) (by simp) ?_
            refine AllReadyH.cons rfl (fun K hK => ?_) AllReadyH.nil
            go_simp
            refine hK _ _ (unhide HAL) ?_
            clear hK hHeld
            intro hHeld
            refine wpAnyH_ready (rs := [13]) (by kernel_rfl) (by simp) ?_
            refine AllReadyH.cons rfl (fun K hK => ?_) AllReadyH.nil
            rw [if_pos (by rfl)]
            refine append_upon rfl rfl rfl (unhide HR2) ?_
            simp only [Act.put, List.getElem_toArray, List.getElem_cons_zero, List.getElem_cons_succ, List.setIfInBounds_toArray, List.set_cons_zero, List.set_cons_succ]
            refine hK _ _ (unhide HB6) ?_
            clear hK hHeld
            intro hHeld
            refine wpAnyH_take (i := 14) (v := ?v13x14) rfl (by kernel_rfl) (by kernel_rfl) (by kernel_rfl) (fun _ _ _ h => h) (Or.inl ⟨by rfl, ?hy13x14⟩) (by assumption) ?rest13x14
            case hy13x14 => intro w hSw; go_simp <;> with_reducible rfl
            simp only [Act.put, List.getElem_toArray, List.getElem_cons_zero, List.getElem_cons_succ, List.setIfInBounds_toArray, List.set_cons_zero, List.set_cons_succ]
            refine wpAnyH_done (by kernel_rfl) ?_ _
            clear hHeld
            go_wp2_with (go_at_call 35; have HQ := unhide HC; refine Calls.mono HQ ?_; clear HQ HC; rintro e z1 ⟨x, rfl, hq1, hq2⟩; obtain ⟨xa, xc2, rfl⟩ := own_shape hq1; have HQ3 := hide hq1; have HQ4 := hide hq2; clear hq1 hq2)
            go_roundw
            case rel =>
              have h0 := unhide HBW
              have h1 := unhide HB6
              have h2 := h0.trans (h1.mono h0.size)
              refine ⟨t + 1, by omega, by go_num, ?_, h2.trans ((unhide HQ4).mono h2.size)⟩
              have eT : tailP ((a, b), (c, false)) = [((a, b), c)] := rfl
              rw [unhide HDD, eT, unhide HPP]
              exact own_mono (unhide HQ3) h2.size
            case measure => simp [intOf]; omega
    · obtain rfl : t = n := by omega
      have hnl := unhide HN
      rw [List.take_of_length_le (by omega)] at hown
      obtain ⟨ov, oc, hov⟩ := own_shape hown
      have HOW := hide hown
      subst hov
      clear hown hnl
      go_wp2
      go_ret
      exact ⟨_, rfl, unhide HOW, unhide HBW⟩
end Go.Proofs.YtldapckooohigaaDoor
