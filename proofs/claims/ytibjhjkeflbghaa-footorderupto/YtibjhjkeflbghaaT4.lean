/- FootOrder's walk. -/
import Derived.Test.YtibjhjkeflbghaaT3
namespace Go.Proofs.Ytibjhjkeflbghaa
open Go.RowKit
set_option maxRecDepth 100000

set_option maxHeartbeats 6400000 in
theorem footOrder_walk {v : Value} {l : List Tx} {w : World} (stop : Int) (hs : SeesL xC 6 w v l) (hx : ∀ x ∈ l, SeesX w x) (hsh : ∀ x ∈ l, Short x) : Calls Try.prog 5 #[v, .int .i64 stop] w fun e w' => e = .returned (.bool true) ∧ Below w.heap.size w w' := by
  have hcap : ∃ ao cap, v = .slice ao l.length cap ∧ l.length ≤ cap := by obtain ⟨ao, cap, _, _, h, h2, _⟩ := hs; exact ⟨ao, cap, h, h2⟩
  obtain ⟨ao, cap, hv, hcap⟩ := hcap
  obtain ⟨n, hn⟩ : ∃ n, l.length = n := ⟨_, rfl⟩
  rw [hn] at hv hcap
  subst hv
  obtain ⟨m, hm⟩ : ∃ m, min n 40 = m := ⟨_, rfl⟩
  have hs' := hs.take m (by omega)
  obtain ⟨L, hL⟩ : ∃ L, l.take m = L := ⟨_, rfl⟩
  have hLl : L.length = m := by rw [← hL, List.length_take]; omega
  rw [hL] at hs'
  have hx' : ∀ x ∈ L, SeesX w x := fun x h => hx x (List.mem_of_mem_take (hL ▸ h))
  have hsh' : ∀ x ∈ L, Short x := fun x h => hsh x (List.mem_of_mem_take (hL ▸ h))
  have hm40 : m ≤ 40 := by omega
  have HSX : Hid (∀ z, Below w.heap.size w z → SeesL xC 6 z (.slice ao m cap) L) := fun z hz => hs'.below xC_len hz
  have HX : Hid (∀ z, Below w.heap.size w z → ∀ x ∈ L, SeesX z x) := fun z hz x h => (hx' x h).below hz
  have HOK : ∀ i, i < m → ∀ y ∈ lkX (L.getD i default), OkK y.1 := fun i hi => by
    rw [getD_at' (show i < L.length by omega)]
    exact lkX_ok (hx' _ (List.getElem_mem _))
  have HLEN : ∀ i, i < m → (lkX (L.getD i default)).length ≤ 4398046511104 := fun i hi => by
    rw [getD_at' (show i < L.length by omega)]
    exact lkX_len (hsh' _ (List.getElem_mem _))
  have H22 := hide (rorder_any hs' hx' hsh' (by omega))
  rw [hLl] at H22
  have H24 : Hid (∀ z, Below w.heap.size w z → Calls Try.prog 24 #[.slice ao m cap] z fun e w' => e = .returned (.func (.func 45) #[] #[PN (z.heap.size + 1)]) ∧ (∃ rows, Wants z.heap.size w' z.heap.size m L rows) ∧ Below z.heap.size z w') := fun z hz => by
    have h := order_any (hs'.below xC_len hz) (fun x h => (hx' x h).below hz) hsh' (by omega)
    rw [hLl] at h
    exact h
  have H26 : Hid (∀ z, Below w.heap.size w z → Calls Try.prog 26 #[.slice ao m cap] z fun e w' => ∃ a c, e = .returned (.slice a m c) ∧ SeesL nC 1 w' (.slice a m c) (levelsP L) ∧ Below z.heap.size z w') := fun z hz =>
    (levels_any (hs'.below xC_len hz) (fun x h => (hx' x h).below hz) hsh' (by omega)).mono fun e w' ⟨r, he, ho, hb⟩ => by
      obtain ⟨a, c, hr⟩ := own_shape ho
      subst hr
      rw [hLl] at he ho
      exact ⟨a, c, he, (own_sees nC_len (by decide) ho).2, hb⟩
  have H27 : Hid (∀ z, Below w.heap.size w z → Calls Try.prog 27 #[.slice ao m cap] z fun e w' => ∃ a c, e = .returned (.slice a m c) ∧ SeesL nC 1 w' (.slice a m c) (levelsP L) ∧ Below z.heap.size z w') := fun z hz => by
    have h := rlevels_any (hs'.below xC_len hz) (fun x h => (hx' x h).below hz) hsh' (by omega)
    rw [hLl] at h
    exact h
  have HTE : Hid (∀ (st : Int) (z u : World) (g wn wc : Nat) (wa : Option Addr) (rows : List Value), Wants g u g m L rows → SeesL qC 2 z (.slice wa wn wc) (ordP L m) → Below z.heap.size z u → Calls Try.prog 23 #[.func (.func 45) #[] #[PN (g + 1)], .slice wa wn wc, .int .i64 st] u fun e w' => e = .returned (.bool true) ∧ Below u.heap.size u w') := fun st z u g wn wc wa rows hW hsee hb => tells_any st hW (hsee.below qC_len hb) hLl hm40 HOK HLEN
  have hmi : min ((n : Nat) : Int) 40 = (m : Int) := by omega
  have HSL := hide (head_txs ao n cap m (by omega))
  have HLL := hide hLl
  have HSH := hide hsh'
  clear hs hx hsh hs' hx' hsh' hL hLl hm hn HOK HLEN
  go_enter Try.func5, Try.ntmps5
  go_wp2_with (first
    | ((with_reducible show wpList _ _ _ (⟨some 10, _, _, _, _, _⟩ :: _) _ _); refine wpList_slice_wanted (x := .tmp 6) (by rfl) Try.underlying46 rfl rfl (unhide HSL _) ?_)
    | (go_at_call 22; refine (unhide H22).mono ?_; rintro e w1 ⟨qa, qc, rfl, hq1, hb1⟩; obtain ⟨qn, hqn⟩ : ∃ z, (ordP L m).length = z := ⟨_, rfl⟩; rw [hqn] at hq1 ⊢; have HQ1 := hide hq1; have HB1 := hide hb1; have H9 := hide (live_any w1); clear hq1 hb1 hqn H22)
    | (go_at_call 9; refine (unhide H9).mono ?_; rintro e w2 ⟨rfl, hb2⟩; have t2 : Below w.heap.size w w2 := (unhide HB1).trans (hb2.mono (unhide HB1).size); have hq2 := (unhide HQ1).below qC_len hb2; have HA1 := hide ((unhide H24) w2 t2); have HB2 := hide t2; have HQ2 := hide hq2; clear hb2 t2 hq2 H9)
    | (go_at_call 24; refine (unhide HA1).mono ?_; rintro e w3 ⟨rfl, ⟨rows3, hW3⟩, hb3⟩; have t3 : Below w.heap.size w w3 := (unhide HB2).trans (hb3.mono (unhide HB2).size); have HT1 := hide ((unhide HTE) stop w2 w3 _ _ _ _ _ hW3 (unhide HQ2) hb3); have HB3 := hide t3; have HQ3 := hide ((unhide HQ2).below qC_len hb3); clear hb3 t3 hW3 HA1)
    | (go_at_call 23; refine (unhide HT1).mono ?_; rintro e w4 ⟨rfl, hb4⟩; have t4 : Below w.heap.size w w4 := (unhide HB3).trans (hb4.mono (unhide HB3).size); have HA2 := hide ((unhide H24) w4 t4); have HB4 := hide t4; have HQ4 := hide ((unhide HQ3).below qC_len hb4); clear hb4 t4 HT1)
    | (go_at_call 24; refine (unhide HA2).mono ?_; rintro e w5 ⟨rfl, ⟨rows5, hW5⟩, hb5⟩; have t5 : Below w.heap.size w w5 := (unhide HB4).trans (hb5.mono (unhide HB4).size); have HT2 := hide ((unhide HTE) 0 w4 w5 _ _ _ _ _ hW5 (unhide HQ4) hb5); have HB5 := hide t5; clear hb5 t5 hW5 HA2)
    | (go_at_call 23; refine (unhide HT2).mono ?_; rintro e w6 ⟨rfl, hb6⟩; have t6 : Below w.heap.size w w6 := (unhide HB5).trans (hb6.mono (unhide HB5).size); have HV1 := hide ((unhide H26) w6 t6); have HB6 := hide t6; clear hb6 t6 HT2)
    | (go_at_call 26; refine (unhide HV1).mono ?_; rintro e w7 ⟨va, vc, rfl, hs7, hb7⟩; have t7 : Below w.heap.size w w7 := (unhide HB6).trans (hb7.mono (unhide HB6).size); have HV2 := hide ((unhide H27) w7 t7); have HB7 := hide t7; have HS7 := hide hs7; clear hb7 t7 hs7 HV1)
    | (go_at_call 27; refine (unhide HV2).mono ?_; rintro e w8 ⟨ua, uc, rfl, hs8, hb8⟩; have t8 : Below w.heap.size w w8 := (unhide HB7).trans (hb8.mono (unhide HB7).size); have h25 := ints_any ((unhide HS7).below nC_len hb8) hs8; rw [decide_eq_true rfl] at h25; have HV3 := hide h25; have HB8 := hide t8; clear hb8 t8 hs8 h25 HV2)
    | (go_at_call 25; refine (unhide HV3).mono ?_; rintro e w9 ⟨rfl, hb9⟩; have HB9 := hide ((unhide HB8).trans (hb9.mono (unhide HB8).size)); clear hb9 HV3))
  by_cases hm2 : m < 2
  · have hd1 : decide ((m : Int) < 2) = true := decide_eq_true (by omega)
    have t0 : Below w.heap.size w w9.drew := (unhide HB9).drew
    refine wp_region_held_drew (S := fun x => Below w.heap.size w x) (by kernel_rfl) t0 (fun hHeld => ?_)
    refine wpAnyH_take (i := 0) (v := ?v1x0) rfl (by as_aux_lemma => kernel_rfl) (by as_aux_lemma => kernel_rfl) (by as_aux_lemma => kernel_rfl) (fun _ _ _ h => h) (Or.inl ⟨by rfl, ?hy1x0⟩) (by assumption) ?rest1x0
    case hy1x0 => intro w hSw; go_simp <;> with_reducible rfl
    simp only [Act.put, List.getElem_toArray, List.getElem_cons_zero, List.setIfInBounds_toArray, List.set_cons_zero, List.set_cons_succ]
    refine wpAnyH_take (i := 1) (v := ?v2x1) rfl (by as_aux_lemma => kernel_rfl) (by as_aux_lemma => kernel_rfl) (by as_aux_lemma => kernel_rfl) (fun _ _ _ h => h) (Or.inl ⟨by rfl, ?hy2x1⟩) (by assumption) ?rest2x1
    case hy2x1 => intro w hSw; go_simp <;> with_reducible rfl
    simp only [Act.put, List.getElem_toArray, List.getElem_cons_zero, List.getElem_cons_succ, List.setIfInBounds_toArray, List.set_cons_zero, List.set_cons_succ]
    refine wpAnyH_take (i := 2) (v := (.bool true)) rfl (by as_aux_lemma => kernel_rfl) (by as_aux_lemma => kernel_rfl) (by as_aux_lemma => kernel_rfl) (fun _ _ _ h => h) (Or.inl ⟨by rfl, ?hy3x2⟩) (by assumption) ?rest3x2
    case hy3x2 => intro w hSw; skip; go_simp <;> with_reducible rfl
    simp only [Act.put, List.getElem_toArray, List.getElem_cons_zero, List.getElem_cons_succ, List.setIfInBounds_toArray, List.set_cons_zero, List.set_cons_succ]
    refine wpAnyH_take (i := 3) (v := ?v4x3) rfl (by as_aux_lemma => kernel_rfl) (by as_aux_lemma => kernel_rfl) (by as_aux_lemma => kernel_rfl) (fun _ _ _ h => h) (Or.inl ⟨by rfl, ?hy4x3⟩) (by assumption) ?rest4x3
    case hy4x3 => intro w hSw; go_simp <;> with_reducible rfl
    simp only [Act.put, List.getElem_toArray, List.getElem_cons_zero, List.getElem_cons_succ, List.setIfInBounds_toArray, List.set_cons_zero, List.set_cons_succ]
    refine wpAnyH_take (i := 4) (v := undef) rfl (by as_aux_lemma => kernel_rfl) (by as_aux_lemma => kernel_rfl) (by as_aux_lemma => kernel_rfl) (fun _ _ _ h => h) (Or.inr ⟨by rfl, rfl⟩) (by assumption) ?_
    simp only [Act.put, List.getElem_toArray, List.getElem_cons_zero, List.getElem_cons_succ, List.setIfInBounds_toArray, List.set_cons_zero, List.set_cons_succ]
    refine wpAnyH_take (i := 5) (v := undef) rfl (by as_aux_lemma => kernel_rfl) (by as_aux_lemma => kernel_rfl) (by as_aux_lemma => kernel_rfl) (fun _ _ _ h => h) (Or.inr ⟨by rfl, rfl⟩) (by assumption) ?_
    simp only [Act.put, List.getElem_toArray, List.getElem_cons_zero, List.getElem_cons_succ, List.setIfInBounds_toArray, List.set_cons_zero, List.set_cons_succ]
    refine wpAnyH_take (i := 6) (v := undef) rfl (by as_aux_lemma => kernel_rfl) (by as_aux_lemma => kernel_rfl) (by as_aux_lemma => kernel_rfl) (fun _ _ _ h => h) (Or.inr ⟨by rfl, rfl⟩) (by assumption) ?_
    simp only [Act.put, List.getElem_toArray, List.getElem_cons_zero, List.getElem_cons_succ, List.setIfInBounds_toArray, List.set_cons_zero, List.set_cons_succ]
    refine wpAnyH_take (i := 7) (v := undef) rfl (by as_aux_lemma => kernel_rfl) (by as_aux_lemma => kernel_rfl) (by as_aux_lemma => kernel_rfl) (fun _ _ _ h => h) (Or.inr ⟨by rfl, rfl⟩) (by assumption) ?_
    simp only [Act.put, List.getElem_toArray, List.getElem_cons_zero, List.getElem_cons_succ, List.setIfInBounds_toArray, List.set_cons_zero, List.set_cons_succ]
    refine wpAnyH_take (i := 8) (v := undef) rfl (by as_aux_lemma => kernel_rfl) (by as_aux_lemma => kernel_rfl) (by as_aux_lemma => kernel_rfl) (fun _ _ _ h => h) (Or.inr ⟨by rfl, rfl⟩) (by assumption) ?_
    simp only [Act.put, List.getElem_toArray, List.getElem_cons_zero, List.getElem_cons_succ, List.setIfInBounds_toArray, List.set_cons_zero, List.set_cons_succ]
    refine wpAnyH_take (i := 9) (v := undef) rfl (by as_aux_lemma => kernel_rfl) (by as_aux_lemma => kernel_rfl) (by as_aux_lemma => kernel_rfl) (fun _ _ _ h => h) (Or.inr ⟨by rfl, rfl⟩) (by assumption) ?_
    simp only [Act.put, List.getElem_toArray, List.getElem_cons_zero, List.getElem_cons_succ, List.setIfInBounds_toArray, List.set_cons_zero, List.set_cons_succ]
    refine wpAnyH_take (i := 10) (v := undef) rfl (by as_aux_lemma => kernel_rfl) (by as_aux_lemma => kernel_rfl) (by as_aux_lemma => kernel_rfl) (fun _ _ _ h => h) (Or.inr ⟨by rfl, rfl⟩) (by assumption) ?_
    simp only [Act.put, List.getElem_toArray, List.getElem_cons_zero, List.getElem_cons_succ, List.setIfInBounds_toArray, List.set_cons_zero, List.set_cons_succ]
    refine wpAnyH_take (i := 11) (v := undef) rfl (by as_aux_lemma => kernel_rfl) (by as_aux_lemma => kernel_rfl) (by as_aux_lemma => kernel_rfl) (fun _ _ _ h => h) (Or.inr ⟨by rfl, rfl⟩) (by assumption) ?_
    simp only [Act.put, List.getElem_toArray, List.getElem_cons_zero, List.getElem_cons_succ, List.setIfInBounds_toArray, List.set_cons_zero, List.set_cons_succ]
    refine wpAnyH_take (i := 12) (v := undef) rfl (by as_aux_lemma => kernel_rfl) (by as_aux_lemma => kernel_rfl) (by as_aux_lemma => kernel_rfl) (fun _ _ _ h => h) (Or.inr ⟨by rfl, rfl⟩) (by assumption) ?_
    simp only [Act.put, List.getElem_toArray, List.getElem_cons_zero, List.getElem_cons_succ, List.setIfInBounds_toArray, List.set_cons_zero, List.set_cons_succ]
    refine wpAnyH_take (i := 13) (v := undef) rfl (by as_aux_lemma => kernel_rfl) (by as_aux_lemma => kernel_rfl) (by as_aux_lemma => kernel_rfl) (fun _ _ _ h => h) (Or.inr ⟨by rfl, rfl⟩) (by assumption) ?_
    simp only [Act.put, List.getElem_toArray, List.getElem_cons_zero, List.getElem_cons_succ, List.setIfInBounds_toArray, List.set_cons_zero, List.set_cons_succ]
    refine wpAnyH_take (i := 14) (v := undef) rfl (by as_aux_lemma => kernel_rfl) (by as_aux_lemma => kernel_rfl) (by as_aux_lemma => kernel_rfl) (fun _ _ _ h => h) (Or.inr ⟨by rfl, rfl⟩) (by assumption) ?_
    simp only [Act.put, List.getElem_toArray, List.getElem_cons_zero, List.getElem_cons_succ, List.setIfInBounds_toArray, List.set_cons_zero, List.set_cons_succ]
    refine wpAnyH_take (i := 15) (v := undef) rfl (by as_aux_lemma => kernel_rfl) (by as_aux_lemma => kernel_rfl) (by as_aux_lemma => kernel_rfl) (fun _ _ _ h => h) (Or.inr ⟨by rfl, rfl⟩) (by assumption) ?_
    simp only [Act.put, List.getElem_toArray, List.getElem_cons_zero, List.getElem_cons_succ, List.setIfInBounds_toArray, List.set_cons_zero, List.set_cons_succ]
    refine wpAnyH_take (i := 16) (v := undef) rfl (by as_aux_lemma => kernel_rfl) (by as_aux_lemma => kernel_rfl) (by as_aux_lemma => kernel_rfl) (fun _ _ _ h => h) (Or.inr ⟨by rfl, rfl⟩) (by assumption) ?_
    simp only [Act.put, List.getElem_toArray, List.getElem_cons_zero, List.getElem_cons_succ, List.setIfInBounds_toArray, List.set_cons_zero, List.set_cons_succ]
    refine wpAnyH_take (i := 17) (v := undef) rfl (by as_aux_lemma => kernel_rfl) (by as_aux_lemma => kernel_rfl) (by as_aux_lemma => kernel_rfl) (fun _ _ _ h => h) (Or.inr ⟨by rfl, rfl⟩) (by assumption) ?_
    simp only [Act.put, List.getElem_toArray, List.getElem_cons_zero, List.getElem_cons_succ, List.setIfInBounds_toArray, List.set_cons_zero, List.set_cons_succ]
    refine wpAnyH_take (i := 18) (v := undef) rfl (by as_aux_lemma => kernel_rfl) (by as_aux_lemma => kernel_rfl) (by as_aux_lemma => kernel_rfl) (fun _ _ _ h => h) (Or.inr ⟨by rfl, rfl⟩) (by assumption) ?_
    simp only [Act.put, List.getElem_toArray, List.getElem_cons_zero, List.getElem_cons_succ, List.setIfInBounds_toArray, List.set_cons_zero, List.set_cons_succ]
    refine wpAnyH_take (i := 19) (v := undef) rfl (by as_aux_lemma => kernel_rfl) (by as_aux_lemma => kernel_rfl) (by as_aux_lemma => kernel_rfl) (fun _ _ _ h => h) (Or.inr ⟨by rfl, rfl⟩) (by assumption) ?_
    simp only [Act.put, List.getElem_toArray, List.getElem_cons_zero, List.getElem_cons_succ, List.setIfInBounds_toArray, List.set_cons_zero, List.set_cons_succ]
    refine wpAnyH_take (i := 20) (v := undef) rfl (by as_aux_lemma => kernel_rfl) (by as_aux_lemma => kernel_rfl) (by as_aux_lemma => kernel_rfl) (fun _ _ _ h => h) (Or.inr ⟨by rfl, rfl⟩) (by assumption) ?_
    simp only [Act.put, List.getElem_toArray, List.getElem_cons_zero, List.getElem_cons_succ, List.setIfInBounds_toArray, List.set_cons_zero, List.set_cons_succ]
    refine wpAnyH_take (i := 21) (v := undef) rfl (by as_aux_lemma => kernel_rfl) (by as_aux_lemma => kernel_rfl) (by as_aux_lemma => kernel_rfl) (fun _ _ _ h => h) (Or.inr ⟨by rfl, rfl⟩) (by assumption) ?_
    simp only [Act.put, List.getElem_toArray, List.getElem_cons_zero, List.getElem_cons_succ, List.setIfInBounds_toArray, List.set_cons_zero, List.set_cons_succ]
    refine wpAnyH_take (i := 22) (v := undef) rfl (by as_aux_lemma => kernel_rfl) (by as_aux_lemma => kernel_rfl) (by as_aux_lemma => kernel_rfl) (fun _ _ _ h => h) (Or.inr ⟨by rfl, rfl⟩) (by assumption) ?_
    simp only [Act.put, List.getElem_toArray, List.getElem_cons_zero, List.getElem_cons_succ, List.setIfInBounds_toArray, List.set_cons_zero, List.set_cons_succ]
    refine wpAnyH_take (i := 23) (v := undef) rfl (by as_aux_lemma => kernel_rfl) (by as_aux_lemma => kernel_rfl) (by as_aux_lemma => kernel_rfl) (fun _ _ _ h => h) (Or.inr ⟨by rfl, rfl⟩) (by assumption) ?_
    simp only [Act.put, List.getElem_toArray, List.getElem_cons_zero, List.getElem_cons_succ, List.setIfInBounds_toArray, List.set_cons_zero, List.set_cons_succ]
    refine wpAnyH_take (i := 24) (v := undef) rfl (by as_aux_lemma => kernel_rfl) (by as_aux_lemma => kernel_rfl) (by as_aux_lemma => kernel_rfl) (fun _ _ _ h => h) (Or.inr ⟨by rfl, rfl⟩) (by assumption) ?_
    simp only [Act.put, List.getElem_toArray, List.getElem_cons_zero, List.getElem_cons_succ, List.setIfInBounds_toArray, List.set_cons_zero, List.set_cons_succ]
    refine wpAnyH_take (i := 25) (v := undef) rfl (by as_aux_lemma => kernel_rfl) (by as_aux_lemma => kernel_rfl) (by as_aux_lemma => kernel_rfl) (fun _ _ _ h => h) (Or.inr ⟨by rfl, rfl⟩) (by assumption) ?_
    simp only [Act.put, List.getElem_toArray, List.getElem_cons_zero, List.getElem_cons_succ, List.setIfInBounds_toArray, List.set_cons_zero, List.set_cons_succ]
    refine wpAnyH_take (i := 26) (v := undef) rfl (by as_aux_lemma => kernel_rfl) (by as_aux_lemma => kernel_rfl) (by as_aux_lemma => kernel_rfl) (fun _ _ _ h => h) (Or.inr ⟨by rfl, rfl⟩) (by assumption) ?_
    simp only [Act.put, List.getElem_toArray, List.getElem_cons_zero, List.getElem_cons_succ, List.setIfInBounds_toArray, List.set_cons_zero, List.set_cons_succ]
    refine wpAnyH_take (i := 27) (v := undef) rfl (by as_aux_lemma => kernel_rfl) (by as_aux_lemma => kernel_rfl) (by as_aux_lemma => kernel_rfl) (fun _ _ _ h => h) (Or.inr ⟨by rfl, rfl⟩) (by assumption) ?_
    simp only [Act.put, List.getElem_toArray, List.getElem_cons_zero, List.getElem_cons_succ, List.setIfInBounds_toArray, List.set_cons_zero, List.set_cons_succ]
    refine wpAnyH_take (i := 28) (v := undef) rfl (by as_aux_lemma => kernel_rfl) (by as_aux_lemma => kernel_rfl) (by as_aux_lemma => kernel_rfl) (fun _ _ _ h => h) (Or.inr ⟨by rfl, rfl⟩) (by assumption) ?_
    simp only [Act.put, List.getElem_toArray, List.getElem_cons_zero, List.getElem_cons_succ, List.setIfInBounds_toArray, List.set_cons_zero, List.set_cons_succ]
    refine wpAnyH_take (i := 29) (v := undef) rfl (by as_aux_lemma => kernel_rfl) (by as_aux_lemma => kernel_rfl) (by as_aux_lemma => kernel_rfl) (fun _ _ _ h => h) (Or.inr ⟨by rfl, rfl⟩) (by assumption) ?_
    simp only [Act.put, List.getElem_toArray, List.getElem_cons_zero, List.getElem_cons_succ, List.setIfInBounds_toArray, List.set_cons_zero, List.set_cons_succ]
    refine wpAnyH_take (i := 30) (v := undef) rfl (by as_aux_lemma => kernel_rfl) (by as_aux_lemma => kernel_rfl) (by as_aux_lemma => kernel_rfl) (fun _ _ _ h => h) (Or.inr ⟨by rfl, rfl⟩) (by assumption) ?_
    simp only [Act.put, List.getElem_toArray, List.getElem_cons_zero, List.getElem_cons_succ, List.setIfInBounds_toArray, List.set_cons_zero, List.set_cons_succ]
    refine wpAnyH_take (i := 31) (v := undef) rfl (by as_aux_lemma => kernel_rfl) (by as_aux_lemma => kernel_rfl) (by as_aux_lemma => kernel_rfl) (fun _ _ _ h => h) (Or.inr ⟨by rfl, rfl⟩) (by assumption) ?_
    simp only [Act.put, List.getElem_toArray, List.getElem_cons_zero, List.getElem_cons_succ, List.setIfInBounds_toArray, List.set_cons_zero, List.set_cons_succ]
    refine wpAnyH_take (i := 32) (v := undef) rfl (by as_aux_lemma => kernel_rfl) (by as_aux_lemma => kernel_rfl) (by as_aux_lemma => kernel_rfl) (fun _ _ _ h => h) (Or.inr ⟨by rfl, rfl⟩) (by assumption) ?_
    simp only [Act.put, List.getElem_toArray, List.getElem_cons_zero, List.getElem_cons_succ, List.setIfInBounds_toArray, List.set_cons_zero, List.set_cons_succ]
    refine wpAnyH_take (i := 33) (v := undef) rfl (by as_aux_lemma => kernel_rfl) (by as_aux_lemma => kernel_rfl) (by as_aux_lemma => kernel_rfl) (fun _ _ _ h => h) (Or.inr ⟨by rfl, rfl⟩) (by assumption) ?_
    simp only [Act.put, List.getElem_toArray, List.getElem_cons_zero, List.getElem_cons_succ, List.setIfInBounds_toArray, List.set_cons_zero, List.set_cons_succ]
    refine wpAnyH_take (i := 34) (v := undef) rfl (by as_aux_lemma => kernel_rfl) (by as_aux_lemma => kernel_rfl) (by as_aux_lemma => kernel_rfl) (fun _ _ _ h => h) (Or.inr ⟨by rfl, rfl⟩) (by assumption) ?_
    simp only [Act.put, List.getElem_toArray, List.getElem_cons_zero, List.getElem_cons_succ, List.setIfInBounds_toArray, List.set_cons_zero, List.set_cons_succ]
    refine wpAnyH_take (i := 35) (v := undef) rfl (by as_aux_lemma => kernel_rfl) (by as_aux_lemma => kernel_rfl) (by as_aux_lemma => kernel_rfl) (fun _ _ _ h => h) (Or.inr ⟨by rfl, rfl⟩) (by assumption) ?_
    simp only [Act.put, List.getElem_toArray, List.getElem_cons_zero, List.getElem_cons_succ, List.setIfInBounds_toArray, List.set_cons_zero, List.set_cons_succ]
    refine wpAnyH_take (i := 36) (v := ?v37x36) rfl (by as_aux_lemma => kernel_rfl) (by as_aux_lemma => kernel_rfl) (by as_aux_lemma => kernel_rfl) (fun _ _ _ h => h) (Or.inl ⟨by rfl, ?hy37x36⟩) (by assumption) ?rest37x36
    case hy37x36 => intro w hSw; go_simp <;> with_reducible rfl
    simp only [Act.put, List.getElem_toArray, List.getElem_cons_zero, List.getElem_cons_succ, List.setIfInBounds_toArray, List.set_cons_zero, List.set_cons_succ]
    refine wpAnyH_take (i := 37) (v := ?v38x37) rfl (by as_aux_lemma => kernel_rfl) (by as_aux_lemma => kernel_rfl) (by as_aux_lemma => kernel_rfl) (fun _ _ _ h => h) (Or.inl ⟨by rfl, ?hy38x37⟩) (by assumption) ?rest38x37
    case hy38x37 => intro w hSw; go_simp <;> with_reducible rfl
    simp only [Act.put, List.getElem_toArray, List.getElem_cons_zero, List.getElem_cons_succ, List.setIfInBounds_toArray, List.set_cons_zero, List.set_cons_succ]
    refine wpAnyH_done (by as_aux_lemma => kernel_rfl) ?_ _
    have HF := hide t0
    clear hHeld t0
    go_wp2
    go_ret
    exact ⟨rfl, unhide HF⟩
  · have hd1 : decide ((m : Int) < 2) = false := decide_eq_false (by omega)
    have hll := unhide HLL
    obtain ⟨gb, ob, hao, hj1⟩ := tx_cells ((unhide HSX) w9 (unhide HB9)) rfl (show 0 < L.length by omega)
    clear hj1
    subst hao
    have hs9 : ∀ z, Below w9.heap.size w9 z → SeesL xC 6 z (.slice (some ⟨gb, ob, none⟩) m cap) L := fun z hz => (unhide HSX) z ((unhide HB9).trans (hz.mono (unhide HB9).size))
    have hx9 : ∀ z, Below w9.heap.size w9 z → ∀ i, i < L.length → SeesX z (L.getD i default) ∧ Short (L.getD i default) := fun z hz i hi => by
      rw [getD_at' hi]
      exact ⟨(unhide HX) z ((unhide HB9).trans (hz.mono (unhide HB9).size)) _ (List.getElem_mem _), (unhide HSH) _ (List.getElem_mem _)⟩
    obtain ⟨s0, r0, ac0, nc0, cc0, aa0, na0, ca0, ar0, nr0, cr0, aw0, nw0, cw0, hx0, hc0⟩ := tx_lit hs9 (show 0 < L.length by omega) (hx9 _ (Below.refl _ _) 0 (by omega)).1
    obtain ⟨s1, r1, ac1, nc1, cc1, aa1, na1, ca1, ar1, nr1, cr1, aw1, nw1, cw1, hx1, hc1⟩ := tx_lit hs9 (show 1 < L.length by omega) (hx9 _ (Below.refl _ _) 1 (by omega)).1
    have HT0 : Hid (∀ z, Below w9.heap.size w9 z → z.cell? ⟨gb, ob, none⟩ = some (.int .i64 s0) ∧ z.cell? ⟨gb, ob + 1, none⟩ = some (.int .i64 r0) ∧ z.cell? ⟨gb, ob + 2, none⟩ = some (.slice ac0 nc0 cc0) ∧ z.cell? ⟨gb, ob + 3, none⟩ = some (.slice aa0 na0 ca0) ∧ z.cell? ⟨gb, ob + 4, none⟩ = some (.slice ar0 nr0 cr0) ∧ z.cell? ⟨gb, ob + 5, none⟩ = some (.slice aw0 nw0 cw0) ∧ True ∧ True ∧ True ∧ True) := fun z hz => by obtain ⟨h0, h1, h2, h3, h4, h5⟩ := hc0 z hz; rw [Nat.zero_mul, Nat.add_zero] at h0 h1 h2 h3 h4 h5; exact ⟨h0, h1, h2, h3, h4, h5, trivial, trivial, trivial, trivial⟩
    have HT1 : Hid (∀ z, Below w9.heap.size w9 z → z.cell? ⟨gb, ob + 6, none⟩ = some (.int .i64 s1) ∧ z.cell? ⟨gb, ob + 7, none⟩ = some (.int .i64 r1) ∧ z.cell? ⟨gb, ob + 8, none⟩ = some (.slice ac1 nc1 cc1) ∧ z.cell? ⟨gb, ob + 9, none⟩ = some (.slice aa1 na1 ca1) ∧ z.cell? ⟨gb, ob + 10, none⟩ = some (.slice ar1 nr1 cr1) ∧ z.cell? ⟨gb, ob + 11, none⟩ = some (.slice aw1 nw1 cw1) ∧ z.cell? ⟨gb, ob + 6 + 1, none⟩ = some (.int .i64 r1) ∧ z.cell? ⟨gb, ob + 6 + 2, none⟩ = some (.slice ac1 nc1 cc1) ∧ z.cell? ⟨gb, ob + 6 + 3, none⟩ = some (.slice aa1 na1 ca1) ∧ z.cell? ⟨gb, ob + 6 + 4, none⟩ = some (.slice ar1 nr1 cr1)) := fun z hz => by obtain ⟨h0, h1, h2, h3, h4, h5⟩ := hc1 z hz; rw [Nat.one_mul] at h0 h1 h2 h3 h4 h5; exact ⟨h0, h1, h2, h3, h4, h5, h1, h2, h3, h4⟩
    obtain ⟨c, hc⟩ : ∃ c, clashP (lkX (L.getD 0 default)) (lkX (L.getD 1 default)) = c := ⟨_, rfl⟩
    have HC : Hid (∀ z, Below w9.heap.size w9 z → Calls Try.prog 28 #[.agg #[.int .i64 s0, .int .i64 r0, .slice ac0 nc0 cc0, .slice aa0 na0 ca0, .slice ar0 nr0 cr0, .slice aw0 nw0 cw0], .agg #[.int .i64 s1, .int .i64 r1, .slice ac1 nc1 cc1, .slice aa1 na1 ca1, .slice ar1 nr1 cr1, .slice aw1 nw1 cw1]] z fun e w' => e = .returned (.bool c) ∧ Below z.heap.size z w') := fun z hz => by
      have h := clash_any (hx9 z hz 0 (by omega)).1 (hx9 z hz 1 (by omega)).1 (hx9 z hz 0 (by omega)).2 (hx9 z hz 1 (by omega)).2
      rw [hx0, hx1, hc] at h
      exact h
    have HR : Hid (∀ z, Below w9.heap.size w9 z → Calls Try.prog 29 #[.agg #[.int .i64 s0, .int .i64 r0, .slice ac0 nc0 cc0, .slice aa0 na0 ca0, .slice ar0 nr0 cr0, .slice aw0 nw0 cw0], .agg #[.int .i64 s1, .int .i64 r1, .slice ac1 nc1 cc1, .slice aa1 na1 ca1, .slice ar1 nr1 cr1, .slice aw1 nw1 cw1]] z fun e w' => e = .returned (.bool c) ∧ Below z.heap.size z w') := fun z hz => by
      have h := rclash_any (hx9 z hz 0 (by omega)).1 (hx9 z hz 1 (by omega)).1 (hx9 z hz 0 (by omega)).2 (hx9 z hz 1 (by omega)).2
      rw [hx0, hx1, hc] at h
      exact h
    have HD : Hid (∀ z, Below w9.heap.size w9 z → Calls Try.prog 28 #[.agg #[.int .i64 s1, .int .i64 r1, .slice ac1 nc1 cc1, .slice aa1 na1 ca1, .slice ar1 nr1 cr1, .slice aw1 nw1 cw1], .agg #[.int .i64 s0, .int .i64 r0, .slice ac0 nc0 cc0, .slice aa0 na0 ca0, .slice ar0 nr0 cr0, .slice aw0 nw0 cw0]] z fun e w' => e = .returned (.bool c) ∧ Below z.heap.size z w') := fun z hz => by
      have h := clash_any (hx9 z hz 1 (by omega)).1 (hx9 z hz 0 (by omega)).1 (hx9 z hz 1 (by omega)).2 (hx9 z hz 0 (by omega)).2
      rw [clash_sym (show UnL (lkX (L.getD 1 default)) from lks_un _ _) (show UnL (lkX (L.getD 0 default)) from lks_un _ _), hx0, hx1, hc] at h
      exact h
    have hcc : (c == c) = true := beq_self_eq_true c
    have hi0 : (0 : Int) < (m : Int) := by omega
    have hi1 : (1 : Int) < (m : Int) := by omega
    have hn0 : 0 < m := by omega
    have hn1 : 1 < m := by omega
    clear hll hs9 hx9 hx0 hc0 hx1 hc1 hc
    have t0 : Below w9.heap.size w9 w9.drew := (Below.refl _ _).drew
    refine wp_region_held_drew (S := fun x => Below w9.heap.size w9 x) (by kernel_rfl) t0 (fun hHeld => ?_)
    refine wpAnyH_take (i := 0) (v := ?v39x0) rfl (by as_aux_lemma => kernel_rfl) (by as_aux_lemma => kernel_rfl) (by as_aux_lemma => kernel_rfl) (fun _ _ _ h => h) (Or.inl ⟨by rfl, ?hy39x0⟩) (by assumption) ?rest39x0
    case hy39x0 => intro w hSw; go_simp <;> with_reducible rfl
    simp only [Act.put, List.getElem_toArray, List.getElem_cons_zero, List.setIfInBounds_toArray, List.set_cons_zero, List.set_cons_succ]
    refine wpAnyH_take (i := 1) (v := ?v40x1) rfl (by as_aux_lemma => kernel_rfl) (by as_aux_lemma => kernel_rfl) (by as_aux_lemma => kernel_rfl) (fun _ _ _ h => h) (Or.inl ⟨by rfl, ?hy40x1⟩) (by assumption) ?rest40x1
    case hy40x1 => intro w hSw; go_simp <;> with_reducible rfl
    simp only [Act.put, List.getElem_toArray, List.getElem_cons_zero, List.getElem_cons_succ, List.setIfInBounds_toArray, List.set_cons_zero, List.set_cons_succ]
    refine wpAnyH_take (i := 2) (v := (.bool false)) rfl (by as_aux_lemma => kernel_rfl) (by as_aux_lemma => kernel_rfl) (by as_aux_lemma => kernel_rfl) (fun _ _ _ h => h) (Or.inl ⟨by rfl, ?hy41x2⟩) (by assumption) ?rest41x2
    case hy41x2 => intro w hSw; skip; go_simp <;> with_reducible rfl
    simp only [Act.put, List.getElem_toArray, List.getElem_cons_zero, List.getElem_cons_succ, List.setIfInBounds_toArray, List.set_cons_zero, List.set_cons_succ]
    refine wpAnyH_take (i := 3) (v := ?v42x3) rfl (by as_aux_lemma => kernel_rfl) (by as_aux_lemma => kernel_rfl) (by as_aux_lemma => kernel_rfl) (fun _ _ _ h => h) (Or.inl ⟨by rfl, ?hy42x3⟩) (by assumption) ?rest42x3
    case hy42x3 => intro w hSw; go_simp <;> with_reducible rfl
    simp only [Act.put, List.getElem_toArray, List.getElem_cons_zero, List.getElem_cons_succ, List.setIfInBounds_toArray, List.set_cons_zero, List.set_cons_succ]
    refine wpAnyH_take (i := 4) (v := ?v43x4) rfl (by as_aux_lemma => kernel_rfl) (by as_aux_lemma => kernel_rfl) (by as_aux_lemma => kernel_rfl) (fun _ _ _ h => h) (Or.inl ⟨by rfl, ?hy43x4⟩) (by assumption) ?rest43x4
    case hy43x4 => intro w hSw; go_simp <;> with_reducible rfl
    simp only [Act.put, List.getElem_toArray, List.getElem_cons_zero, List.getElem_cons_succ, List.setIfInBounds_toArray, List.set_cons_zero, List.set_cons_succ]
    refine wpAnyH_take (i := 5) (v := ?v44x5) rfl (by as_aux_lemma => kernel_rfl) (by as_aux_lemma => kernel_rfl) (by as_aux_lemma => kernel_rfl) (fun _ _ _ h => h) (Or.inl ⟨by rfl, ?hy44x5⟩) (by assumption) ?rest44x5
    case hy44x5 => intro w hSw; go_simp <;> with_reducible rfl
    simp only [Act.put, List.getElem_toArray, List.getElem_cons_zero, List.getElem_cons_succ, List.setIfInBounds_toArray, List.set_cons_zero, List.set_cons_succ]
    refine wpAnyH_take (i := 6) (v := (.agg #[.int .i64 s0, .int .i64 r0, .slice ac0 nc0 cc0, .slice aa0 na0 ca0, .slice ar0 nr0 cr0, .slice aw0 nw0 cw0])) rfl (by as_aux_lemma => kernel_rfl) (by as_aux_lemma => kernel_rfl) (by as_aux_lemma => kernel_rfl) (fun _ _ _ h => h) (Or.inl ⟨by rfl, ?hy45x6⟩) (by assumption) ?rest45x6
    case hy45x6 => intro w hSw; obtain ⟨q0, q1, q2, q3, q4, q5, q6, q7, q8, q9⟩ := (unhide HT0) _ hSw; go_simp <;> with_reducible rfl
    simp only [Act.put, List.getElem_toArray, List.getElem_cons_zero, List.getElem_cons_succ, List.setIfInBounds_toArray, List.set_cons_zero, List.set_cons_succ]
    refine wpAnyH_take (i := 7) (v := ?v46x7) rfl (by as_aux_lemma => kernel_rfl) (by as_aux_lemma => kernel_rfl) (by as_aux_lemma => kernel_rfl) (fun _ _ _ h => h) (Or.inl ⟨by rfl, ?hy46x7⟩) (by assumption) ?rest46x7
    case hy46x7 => intro w hSw; go_simp <;> with_reducible rfl
    simp only [Act.put, List.getElem_toArray, List.getElem_cons_zero, List.getElem_cons_succ, List.setIfInBounds_toArray, List.set_cons_zero, List.set_cons_succ]
    refine wpAnyH_take (i := 8) (v := ?v47x8) rfl (by as_aux_lemma => kernel_rfl) (by as_aux_lemma => kernel_rfl) (by as_aux_lemma => kernel_rfl) (fun _ _ _ h => h) (Or.inl ⟨by rfl, ?hy47x8⟩) (by assumption) ?rest47x8
    case hy47x8 => intro w hSw; go_simp <;> with_reducible rfl
    simp only [Act.put, List.getElem_toArray, List.getElem_cons_zero, List.getElem_cons_succ, List.setIfInBounds_toArray, List.set_cons_zero, List.set_cons_succ]
    refine wpAnyH_take (i := 9) (v := (.agg #[.int .i64 s1, .int .i64 r1, .slice ac1 nc1 cc1, .slice aa1 na1 ca1, .slice ar1 nr1 cr1, .slice aw1 nw1 cw1])) rfl (by as_aux_lemma => kernel_rfl) (by as_aux_lemma => kernel_rfl) (by as_aux_lemma => kernel_rfl) (fun _ _ _ h => h) (Or.inl ⟨by rfl, ?hy48x9⟩) (by assumption) ?rest48x9
    case hy48x9 => intro w hSw; obtain ⟨q0, q1, q2, q3, q4, q5, q6, q7, q8, q9⟩ := (unhide HT1) _ hSw; go_simp <;> with_reducible rfl
    simp only [Act.put, List.getElem_toArray, List.getElem_cons_zero, List.getElem_cons_succ, List.setIfInBounds_toArray, List.set_cons_zero, List.set_cons_succ]
    refine wpAnyH_take (i := 11) (v := ?v49x11) rfl (by as_aux_lemma => kernel_rfl) (by as_aux_lemma => kernel_rfl) (by as_aux_lemma => kernel_rfl) (fun _ _ _ h => h) (Or.inl ⟨by rfl, ?hy49x11⟩) (by assumption) ?rest49x11
    case hy49x11 => intro w hSw; go_simp <;> with_reducible rfl
    simp only [Act.put, List.getElem_toArray, List.getElem_cons_zero, List.getElem_cons_succ, List.setIfInBounds_toArray, List.set_cons_zero, List.set_cons_succ]
    refine wpAnyH_take (i := 12) (v := ?v50x12) rfl (by as_aux_lemma => kernel_rfl) (by as_aux_lemma => kernel_rfl) (by as_aux_lemma => kernel_rfl) (fun _ _ _ h => h) (Or.inl ⟨by rfl, ?hy50x12⟩) (by assumption) ?rest50x12
    case hy50x12 => intro w hSw; go_simp <;> with_reducible rfl
    simp only [Act.put, List.getElem_toArray, List.getElem_cons_zero, List.getElem_cons_succ, List.setIfInBounds_toArray, List.set_cons_zero, List.set_cons_succ]
    refine wpAnyH_take (i := 13) (v := (.agg #[.int .i64 s0, .int .i64 r0, .slice ac0 nc0 cc0, .slice aa0 na0 ca0, .slice ar0 nr0 cr0, .slice aw0 nw0 cw0])) rfl (by as_aux_lemma => kernel_rfl) (by as_aux_lemma => kernel_rfl) (by as_aux_lemma => kernel_rfl) (fun _ _ _ h => h) (Or.inl ⟨by rfl, ?hy51x13⟩) (by assumption) ?rest51x13
    case hy51x13 => intro w hSw; obtain ⟨q0, q1, q2, q3, q4, q5, q6, q7, q8, q9⟩ := (unhide HT0) _ hSw; go_simp <;> with_reducible rfl
    simp only [Act.put, List.getElem_toArray, List.getElem_cons_zero, List.getElem_cons_succ, List.setIfInBounds_toArray, List.set_cons_zero, List.set_cons_succ]
    refine wpAnyH_take (i := 14) (v := ?v52x14) rfl (by as_aux_lemma => kernel_rfl) (by as_aux_lemma => kernel_rfl) (by as_aux_lemma => kernel_rfl) (fun _ _ _ h => h) (Or.inl ⟨by rfl, ?hy52x14⟩) (by assumption) ?rest52x14
    case hy52x14 => intro w hSw; go_simp <;> with_reducible rfl
    simp only [Act.put, List.getElem_toArray, List.getElem_cons_zero, List.getElem_cons_succ, List.setIfInBounds_toArray, List.set_cons_zero, List.set_cons_succ]
    refine wpAnyH_take (i := 15) (v := ?v53x15) rfl (by as_aux_lemma => kernel_rfl) (by as_aux_lemma => kernel_rfl) (by as_aux_lemma => kernel_rfl) (fun _ _ _ h => h) (Or.inl ⟨by rfl, ?hy53x15⟩) (by assumption) ?rest53x15
    case hy53x15 => intro w hSw; go_simp <;> with_reducible rfl
    simp only [Act.put, List.getElem_toArray, List.getElem_cons_zero, List.getElem_cons_succ, List.setIfInBounds_toArray, List.set_cons_zero, List.set_cons_succ]
    refine wpAnyH_take (i := 16) (v := (.agg #[.int .i64 s1, .int .i64 r1, .slice ac1 nc1 cc1, .slice aa1 na1 ca1, .slice ar1 nr1 cr1, .slice aw1 nw1 cw1])) rfl (by as_aux_lemma => kernel_rfl) (by as_aux_lemma => kernel_rfl) (by as_aux_lemma => kernel_rfl) (fun _ _ _ h => h) (Or.inl ⟨by rfl, ?hy54x16⟩) (by assumption) ?rest54x16
    case hy54x16 => intro w hSw; obtain ⟨q0, q1, q2, q3, q4, q5, q6, q7, q8, q9⟩ := (unhide HT1) _ hSw; go_simp <;> with_reducible rfl
    simp only [Act.put, List.getElem_toArray, List.getElem_cons_zero, List.getElem_cons_succ, List.setIfInBounds_toArray, List.set_cons_zero, List.set_cons_succ]
    refine wpAnyH_ready (rs := [10]) (by as_aux_lemma => kernel_rfl) (by simp) ?_
    refine AllReadyH.cons rfl (fun K hK => ?_) AllReadyH.nil
    go_simp
    refine ((unhide HC) _ t0).mono ?_
    rintro e v1 ⟨rfl, hb1⟩
    refine hK _ _ (t0.trans (hb1.mono t0.size)) ?_
    clear hK hHeld
    have t1 : Below w9.heap.size w9 v1 := t0.trans (hb1.mono t0.size)
    intro hHeld
    refine wpAnyH_ready (rs := [17]) (by as_aux_lemma => kernel_rfl) (by simp) ?_
    refine AllReadyH.cons rfl (fun K hK => ?_) AllReadyH.nil
    go_simp
    refine ((unhide HR) _ t1).mono ?_
    rintro e v2 ⟨rfl, hb2⟩
    refine hK _ _ (t1.trans (hb2.mono t1.size)) ?_
    clear hK hHeld
    have t2 : Below w9.heap.size w9 v2 := t1.trans (hb2.mono t1.size)
    intro hHeld
    refine wpAnyH_take (i := 18) (v := (.bool true)) rfl (by as_aux_lemma => kernel_rfl) (by as_aux_lemma => kernel_rfl) (by as_aux_lemma => kernel_rfl) (fun _ _ _ h => h) (Or.inl ⟨by rfl, ?hy55x18⟩) (by assumption) ?rest55x18
    case hy55x18 => intro w hSw; skip; go_simp <;> with_reducible rfl
    simp only [Act.put, List.getElem_toArray, List.getElem_cons_zero, List.getElem_cons_succ, List.setIfInBounds_toArray, List.set_cons_zero, List.set_cons_succ]
    refine wpAnyH_take (i := 19) (v := ?v56x19) rfl (by as_aux_lemma => kernel_rfl) (by as_aux_lemma => kernel_rfl) (by as_aux_lemma => kernel_rfl) (fun _ _ _ h => h) (Or.inl ⟨by rfl, ?hy56x19⟩) (by assumption) ?rest56x19
    case hy56x19 => intro w hSw; go_simp <;> with_reducible rfl
    simp only [Act.put, List.getElem_toArray, List.getElem_cons_zero, List.getElem_cons_succ, List.setIfInBounds_toArray, List.set_cons_zero, List.set_cons_succ]
    refine wpAnyH_take (i := 20) (v := ?v57x20) rfl (by as_aux_lemma => kernel_rfl) (by as_aux_lemma => kernel_rfl) (by as_aux_lemma => kernel_rfl) (fun _ _ _ h => h) (Or.inl ⟨by rfl, ?hy57x20⟩) (by assumption) ?rest57x20
    case hy57x20 => intro w hSw; go_simp <;> with_reducible rfl
    simp only [Act.put, List.getElem_toArray, List.getElem_cons_zero, List.getElem_cons_succ, List.setIfInBounds_toArray, List.set_cons_zero, List.set_cons_succ]
    refine wpAnyH_take (i := 21) (v := ?v58x21) rfl (by as_aux_lemma => kernel_rfl) (by as_aux_lemma => kernel_rfl) (by as_aux_lemma => kernel_rfl) (fun _ _ _ h => h) (Or.inl ⟨by rfl, ?hy58x21⟩) (by assumption) ?rest58x21
    case hy58x21 => intro w hSw; go_simp <;> with_reducible rfl
    simp only [Act.put, List.getElem_toArray, List.getElem_cons_zero, List.getElem_cons_succ, List.setIfInBounds_toArray, List.set_cons_zero, List.set_cons_succ]
    refine wpAnyH_take (i := 22) (v := (.agg #[.int .i64 s1, .int .i64 r1, .slice ac1 nc1 cc1, .slice aa1 na1 ca1, .slice ar1 nr1 cr1, .slice aw1 nw1 cw1])) rfl (by as_aux_lemma => kernel_rfl) (by as_aux_lemma => kernel_rfl) (by as_aux_lemma => kernel_rfl) (fun _ _ _ h => h) (Or.inl ⟨by rfl, ?hy59x22⟩) (by assumption) ?rest59x22
    case hy59x22 => intro w hSw; obtain ⟨q0, q1, q2, q3, q4, q5, q6, q7, q8, q9⟩ := (unhide HT1) _ hSw; go_simp <;> with_reducible rfl
    simp only [Act.put, List.getElem_toArray, List.getElem_cons_zero, List.getElem_cons_succ, List.setIfInBounds_toArray, List.set_cons_zero, List.set_cons_succ]
    refine wpAnyH_take (i := 23) (v := ?v60x23) rfl (by as_aux_lemma => kernel_rfl) (by as_aux_lemma => kernel_rfl) (by as_aux_lemma => kernel_rfl) (fun _ _ _ h => h) (Or.inl ⟨by rfl, ?hy60x23⟩) (by assumption) ?rest60x23
    case hy60x23 => intro w hSw; go_simp <;> with_reducible rfl
    simp only [Act.put, List.getElem_toArray, List.getElem_cons_zero, List.getElem_cons_succ, List.setIfInBounds_toArray, List.set_cons_zero, List.set_cons_succ]
    refine wpAnyH_take (i := 24) (v := ?v61x24) rfl (by as_aux_lemma => kernel_rfl) (by as_aux_lemma => kernel_rfl) (by as_aux_lemma => kernel_rfl) (fun _ _ _ h => h) (Or.inl ⟨by rfl, ?hy61x24⟩) (by assumption) ?rest61x24
    case hy61x24 => intro w hSw; go_simp <;> with_reducible rfl
    simp only [Act.put, List.getElem_toArray, List.getElem_cons_zero, List.getElem_cons_succ, List.setIfInBounds_toArray, List.set_cons_zero, List.set_cons_succ]
    refine wpAnyH_take (i := 25) (v := (.agg #[.int .i64 s0, .int .i64 r0, .slice ac0 nc0 cc0, .slice aa0 na0 ca0, .slice ar0 nr0 cr0, .slice aw0 nw0 cw0])) rfl (by as_aux_lemma => kernel_rfl) (by as_aux_lemma => kernel_rfl) (by as_aux_lemma => kernel_rfl) (fun _ _ _ h => h) (Or.inl ⟨by rfl, ?hy62x25⟩) (by assumption) ?rest62x25
    case hy62x25 => intro w hSw; obtain ⟨q0, q1, q2, q3, q4, q5, q6, q7, q8, q9⟩ := (unhide HT0) _ hSw; go_simp <;> with_reducible rfl
    simp only [Act.put, List.getElem_toArray, List.getElem_cons_zero, List.getElem_cons_succ, List.setIfInBounds_toArray, List.set_cons_zero, List.set_cons_succ]
    refine wpAnyH_take (i := 27) (v := ?v63x27) rfl (by as_aux_lemma => kernel_rfl) (by as_aux_lemma => kernel_rfl) (by as_aux_lemma => kernel_rfl) (fun _ _ _ h => h) (Or.inl ⟨by rfl, ?hy63x27⟩) (by assumption) ?rest63x27
    case hy63x27 => intro w hSw; go_simp <;> with_reducible rfl
    simp only [Act.put, List.getElem_toArray, List.getElem_cons_zero, List.getElem_cons_succ, List.setIfInBounds_toArray, List.set_cons_zero, List.set_cons_succ]
    refine wpAnyH_take (i := 28) (v := ?v64x28) rfl (by as_aux_lemma => kernel_rfl) (by as_aux_lemma => kernel_rfl) (by as_aux_lemma => kernel_rfl) (fun _ _ _ h => h) (Or.inl ⟨by rfl, ?hy64x28⟩) (by assumption) ?rest64x28
    case hy64x28 => intro w hSw; go_simp <;> with_reducible rfl
    simp only [Act.put, List.getElem_toArray, List.getElem_cons_zero, List.getElem_cons_succ, List.setIfInBounds_toArray, List.set_cons_zero, List.set_cons_succ]
    refine wpAnyH_take (i := 29) (v := (.agg #[.int .i64 s0, .int .i64 r0, .slice ac0 nc0 cc0, .slice aa0 na0 ca0, .slice ar0 nr0 cr0, .slice aw0 nw0 cw0])) rfl (by as_aux_lemma => kernel_rfl) (by as_aux_lemma => kernel_rfl) (by as_aux_lemma => kernel_rfl) (fun _ _ _ h => h) (Or.inl ⟨by rfl, ?hy65x29⟩) (by assumption) ?rest65x29
    case hy65x29 => intro w hSw; obtain ⟨q0, q1, q2, q3, q4, q5, q6, q7, q8, q9⟩ := (unhide HT0) _ hSw; go_simp <;> with_reducible rfl
    simp only [Act.put, List.getElem_toArray, List.getElem_cons_zero, List.getElem_cons_succ, List.setIfInBounds_toArray, List.set_cons_zero, List.set_cons_succ]
    refine wpAnyH_take (i := 30) (v := ?v66x30) rfl (by as_aux_lemma => kernel_rfl) (by as_aux_lemma => kernel_rfl) (by as_aux_lemma => kernel_rfl) (fun _ _ _ h => h) (Or.inl ⟨by rfl, ?hy66x30⟩) (by assumption) ?rest66x30
    case hy66x30 => intro w hSw; go_simp <;> with_reducible rfl
    simp only [Act.put, List.getElem_toArray, List.getElem_cons_zero, List.getElem_cons_succ, List.setIfInBounds_toArray, List.set_cons_zero, List.set_cons_succ]
    refine wpAnyH_take (i := 31) (v := ?v67x31) rfl (by as_aux_lemma => kernel_rfl) (by as_aux_lemma => kernel_rfl) (by as_aux_lemma => kernel_rfl) (fun _ _ _ h => h) (Or.inl ⟨by rfl, ?hy67x31⟩) (by assumption) ?rest67x31
    case hy67x31 => intro w hSw; go_simp <;> with_reducible rfl
    simp only [Act.put, List.getElem_toArray, List.getElem_cons_zero, List.getElem_cons_succ, List.setIfInBounds_toArray, List.set_cons_zero, List.set_cons_succ]
    refine wpAnyH_take (i := 32) (v := (.agg #[.int .i64 s1, .int .i64 r1, .slice ac1 nc1 cc1, .slice aa1 na1 ca1, .slice ar1 nr1 cr1, .slice aw1 nw1 cw1])) rfl (by as_aux_lemma => kernel_rfl) (by as_aux_lemma => kernel_rfl) (by as_aux_lemma => kernel_rfl) (fun _ _ _ h => h) (Or.inl ⟨by rfl, ?hy68x32⟩) (by assumption) ?rest68x32
    case hy68x32 => intro w hSw; obtain ⟨q0, q1, q2, q3, q4, q5, q6, q7, q8, q9⟩ := (unhide HT1) _ hSw; go_simp <;> with_reducible rfl
    simp only [Act.put, List.getElem_toArray, List.getElem_cons_zero, List.getElem_cons_succ, List.setIfInBounds_toArray, List.set_cons_zero, List.set_cons_succ]
    refine wpAnyH_ready (rs := [26]) (by as_aux_lemma => kernel_rfl) (by simp) ?_
    refine AllReadyH.cons rfl (fun K hK => ?_) AllReadyH.nil
    go_simp
    refine ((unhide HD) _ t2).mono ?_
    rintro e v3 ⟨rfl, hb3⟩
    refine hK _ _ (t2.trans (hb3.mono t2.size)) ?_
    clear hK hHeld
    have t3 : Below w9.heap.size w9 v3 := t2.trans (hb3.mono t2.size)
    intro hHeld
    refine wpAnyH_ready (rs := [33]) (by as_aux_lemma => kernel_rfl) (by simp) ?_
    refine AllReadyH.cons rfl (fun K hK => ?_) AllReadyH.nil
    go_simp
    refine ((unhide HC) _ t3).mono ?_
    rintro e v4 ⟨rfl, hb4⟩
    refine hK _ _ (t3.trans (hb4.mono t3.size)) ?_
    clear hK hHeld
    have t4 : Below w9.heap.size w9 v4 := t3.trans (hb4.mono t3.size)
    intro hHeld
    refine wpAnyH_take (i := 34) (v := (.bool true)) rfl (by as_aux_lemma => kernel_rfl) (by as_aux_lemma => kernel_rfl) (by as_aux_lemma => kernel_rfl) (fun _ _ _ h => h) (Or.inl ⟨by rfl, ?hy69x34⟩) (by assumption) ?rest69x34
    case hy69x34 => intro w hSw; skip; go_simp <;> with_reducible rfl
    simp only [Act.put, List.getElem_toArray, List.getElem_cons_zero, List.getElem_cons_succ, List.setIfInBounds_toArray, List.set_cons_zero, List.set_cons_succ]
    refine wpAnyH_take (i := 35) (v := ?v70x35) rfl (by as_aux_lemma => kernel_rfl) (by as_aux_lemma => kernel_rfl) (by as_aux_lemma => kernel_rfl) (fun _ _ _ h => h) (Or.inl ⟨by rfl, ?hy70x35⟩) (by assumption) ?rest70x35
    case hy70x35 => intro w hSw; go_simp <;> with_reducible rfl
    simp only [Act.put, List.getElem_toArray, List.getElem_cons_zero, List.getElem_cons_succ, List.setIfInBounds_toArray, List.set_cons_zero, List.set_cons_succ]
    refine wpAnyH_take (i := 36) (v := ?v71x36) rfl (by as_aux_lemma => kernel_rfl) (by as_aux_lemma => kernel_rfl) (by as_aux_lemma => kernel_rfl) (fun _ _ _ h => h) (Or.inl ⟨by rfl, ?hy71x36⟩) (by assumption) ?rest71x36
    case hy71x36 => intro w hSw; go_simp <;> with_reducible rfl
    simp only [Act.put, List.getElem_toArray, List.getElem_cons_zero, List.getElem_cons_succ, List.setIfInBounds_toArray, List.set_cons_zero, List.set_cons_succ]
    refine wpAnyH_take (i := 37) (v := ?v72x37) rfl (by as_aux_lemma => kernel_rfl) (by as_aux_lemma => kernel_rfl) (by as_aux_lemma => kernel_rfl) (fun _ _ _ h => h) (Or.inl ⟨by rfl, ?hy72x37⟩) (by assumption) ?rest72x37
    case hy72x37 => intro w hSw; go_simp <;> with_reducible rfl
    simp only [Act.put, List.getElem_toArray, List.getElem_cons_zero, List.getElem_cons_succ, List.setIfInBounds_toArray, List.set_cons_zero, List.set_cons_succ]
    refine wpAnyH_done (by as_aux_lemma => kernel_rfl) ?_ _
    have HF : Hid (Below w.heap.size w v4) := (unhide HB9).trans (t4.mono (unhide HB9).size)
    clear hHeld t0 t1 t2 t3 t4 hb1 hb2 hb3 hb4
    go_wp2
    go_ret
    exact ⟨rfl, unhide HF⟩
end Go.Proofs.Ytibjhjkeflbghaa
