/- Digest: the program's and the document's. -/
import Derived.Test.YtbajggmpklajnaaF2
import Derived.Test.YtbajggmpklajnaaE2
namespace Go.Proofs.Ytbajggmpklajnaa
open Go.RowKit
set_option maxRecDepth 100000

def digF (x : Int) (p : Pr) : Int := mixF (IntKind.u64.wrap (IntKind.u64.wrap (mixF (IntKind.u64.wrap (x + hashF p.1)) + IntKind.u64.wrap p.2) + 1))
def digest (l : List Pr) : Int := l.foldl digF 0
theorem dig_next {l : List Pr} {t : Nat} (h : t < l.length) : digest (l.take (t + 1)) = digF (digest (l.take t)) l[t] := by
  unfold digest
  rw [List.take_succ_eq_append_getElem h, List.foldl_append]
  rfl
theorem hash_from {y x : World} (hb : Below y.heap.size y x) (a b : Int) {r : Int} (hr : hashF (a, b) = r) : Calls Try.prog 14 #[.agg #[.int .i32 a, .int .i64 b]] x fun e w' => e = .returned (.int .u64 r) ∧ Below y.heap.size y w' := by
  subst hr
  exact grew_from hb (hash_any a b x)
theorem rhash_from {y x : World} (hb : Below y.heap.size y x) (a b : Int) {r : Int} (hr : hashF (a, b) = r) : Calls Try.prog 15 #[.agg #[.int .i32 a, .int .i64 b]] x fun e w' => e = .returned (.int .u64 r) ∧ Below y.heap.size y w' := by
  subst hr
  exact grew_from hb (rhash_any a b x)
set_option maxHeartbeats 3200000 in
theorem digest_any {v : Value} {l : List Pr} {w : World} (hs : SeesL pC 3 w v l) (hok : ∀ p ∈ l, OkK p.1) (hll : l.length ≤ 5864062014804) :
    Calls Try.prog 26 #[v] w fun e w' => e = .returned (.int .u64 (digest (srtP l))) ∧ Below w.heap.size w w' := by
  have HP := hide (pairs_any hs hok (by omega))
  obtain ⟨ao, cap, hv⟩ := hs.shape
  subst hv
  have hsl := (srtP_spec l).2.2
  obtain ⟨S, hS⟩ : ∃ S, srtP l = S := ⟨_, rfl⟩
  rw [hS] at HP hsl ⊢
  clear hs hok hS
  go_enter Try.func26, Try.ntmps26
  go_wp2_with (go_at_call 22; refine (unhide HP).mono ?_; rintro e w1 ⟨r, rfl, ho, hb⟩; obtain ⟨ar, cr, hr⟩ := own_shape ho; subst hr; have HO := hide ho; have HB := hide hb; clear ho hb)
  have HSS := hide (own_sees pC_len (by decide) (unhide HO)).2
  have hcr : S.length ≤ cr := by
    obtain ⟨_, _, _, _, e, h2, _⟩ := unhide HSS
    simp only [Value.slice.injEq] at e
    obtain ⟨_, _, rfl⟩ := e
    exact h2
  obtain ⟨n, hn⟩ : ∃ n, S.length = n := ⟨_, rfl⟩
  have HN := hide hn
  rw [hn] at hsl hcr HSS ⊢
  clear hn
  go_wp2_with fail
  go_loopw [3, 9] (fun x c wr => ∃ t : Nat, t ≤ n ∧ x = .int .u64 (digest (S.take t)) ∧ c = .int .i64 t ∧ Below w1.heap.size w1 wr) (fun _ c _ => n - (intOf c).toNat)
  case atStart => exact ⟨0, by omega, rfl, rfl, Below.refl _ _⟩
  case round =>
    obtain ⟨t, ht, rfl, rfl, hbr⟩ := hrel
    have HBR := hide hbr
    by_cases hlt : t < n
    · have hnl := unhide HN
      have htl : t < S.length := by omega
      have hse := unhide HSS
      rw [← hnl] at hse
      obtain ⟨gb, ob, hao, -, hcc⟩ := pair_cells hse rfl htl
      subst hao
      obtain ⟨⟨⟨a, b⟩, c⟩, hx⟩ : ∃ k, S.getD t default = k := ⟨_, rfl⟩
      have hx' : S[t] = ((a, b), c) := by rw [← hx]; simp [List.getD, htl]
      rw [hx] at hcc
      obtain ⟨g1, g2, g3⟩ := hcc wr hbr
      have hnx := dig_next htl
      rw [hx'] at hnx
      obtain ⟨X, hX⟩ : ∃ X, digest (S.take t) = X := ⟨_, rfl⟩
      obtain ⟨Hh, hH⟩ : ∃ X, hashF (a, b) = X := ⟨_, rfl⟩
      rw [hX] at hnx
      have hnx' : digest (S.take (t + 1)) = mixF (IntKind.u64.wrap (IntKind.u64.wrap (mixF (IntKind.u64.wrap (X + Hh)) + IntKind.u64.wrap c) + 1)) := by rw [hnx, ← hH]; rfl
      have HNX := hide hnx'
      obtain ⟨y1, hy1⟩ : ∃ y, wr.alloc (.cells #[.int .i32 a, .int .i64 b, .int .i64 c] 66) = y := ⟨_, rfl⟩
      have b1 : Below wr.heap.size wr y1 := hy1 ▸ below_box _
      have x1 : y1.heap[wr.heap.size]? = some (.cells #[.int .i32 a, .int .i64 b, .int .i64 c] 66) := by rw [← hy1]; exact heap_alloc_new wr _
      have c1 : y1.cell? ⟨wr.heap.size, 0, none⟩ = some (.int .i32 a) := cell_at x1
      have c2 : y1.cell? ⟨wr.heap.size, 1, none⟩ = some (.int .i64 b) := cell_at x1
      have HHA := hide (hash_from (Below.refl y1.heap.size y1) a b hH)
      have HX1 := hide x1
      have HB1 := hide b1
      rw [hX]
      clear hnl htl hse hx hx' hcc hnx hnx' hX hH b1 x1 hbr
      go_wp2_with (first | rw [hy1] | (go_at_call 14; refine (unhide HHA).mono ?_; rintro e w2 ⟨rfl, hb2⟩; have x2 := (hb2.block _ (Array.getElem?_eq_some_iff.1 (unhide HX1)).1).trans (unhide HX1); have c3 : w2.cell? ⟨wr.heap.size, 2, none⟩ = some (.int .i64 c) := cell_at x2; have HB2 := hide hb2; clear hb2 x2) | (go_at_call 35; refine (mix_any _ _).mono ?_; rintro e w3 ⟨rfl, rfl⟩))
      go_roundw
      case rel => exact ⟨t + 1, by omega, by rw [unhide HNX], by go_num, (unhide HBR).trans (((unhide HB1).trans ((unhide HB2).mono (unhide HB1).size)).mono (unhide HBR).size)⟩
      case measure => simp [intOf]; omega
    · obtain rfl : t = n := by omega
      have hnl := unhide HN
      have e : S.take t = S := List.take_of_length_le (by omega)
      rw [e]
      clear hnl e hbr
      go_wp2
      go_ret
      exact ⟨rfl, (unhide HB).trans ((unhide HBR).mono (unhide HB).size)⟩
set_option maxHeartbeats 3200000 in
theorem rdigest_any {v : Value} {l : List Pr} {w : World} (hs : SeesL pC 3 w v l) (hll : l.length ≤ 5864062014804) :
    Calls Try.prog 27 #[v] w fun e w' => e = .returned (.int .u64 (digest (srtP l))) ∧ Below w.heap.size w w' := by
  have HP := hide (rpairs_any hs hll)
  obtain ⟨ao, cap, hv⟩ := hs.shape
  subst hv
  have hsl := (srtP_spec l).2.2
  obtain ⟨S, hS⟩ : ∃ S, srtP l = S := ⟨_, rfl⟩
  rw [hS] at HP hsl ⊢
  clear hs hS
  go_enter Try.func27, Try.ntmps27
  go_wp2_with (go_at_call 23; refine (unhide HP).mono ?_; rintro e w1 ⟨r, rfl, ho, hb⟩; obtain ⟨ar, cr, hr⟩ := own_shape ho; subst hr; have HO := hide ho; have HB := hide hb; clear ho hb)
  have HSS := hide (own_sees pC_len (by decide) (unhide HO)).2
  have hcr : S.length ≤ cr := by
    obtain ⟨_, _, _, _, e, h2, _⟩ := unhide HSS
    simp only [Value.slice.injEq] at e
    obtain ⟨_, _, rfl⟩ := e
    exact h2
  obtain ⟨n, hn⟩ : ∃ n, S.length = n := ⟨_, rfl⟩
  have HN := hide hn
  rw [hn] at hsl hcr HSS ⊢
  clear hn
  go_wp2_with fail
  go_loopw [3, 5] (fun x c wr => ∃ t : Nat, t ≤ n ∧ x = .int .u64 (digest (S.take t)) ∧ c = .int .i64 t ∧ Below w1.heap.size w1 wr) (fun _ c _ => n - (intOf c).toNat)
  case atStart => exact ⟨0, by omega, rfl, rfl, Below.refl _ _⟩
  case round =>
    obtain ⟨t, ht, rfl, rfl, hbr⟩ := hrel
    have HBR := hide hbr
    by_cases hlt : t < n
    · have hnl := unhide HN
      have htl : t < S.length := by omega
      have hse := unhide HSS
      rw [← hnl] at hse
      obtain ⟨gb, ob, hao, -, hcc⟩ := pair_cells hse rfl htl
      subst hao
      obtain ⟨⟨⟨a, b⟩, c⟩, hx⟩ : ∃ k, S.getD t default = k := ⟨_, rfl⟩
      have hx' : S[t] = ((a, b), c) := by rw [← hx]; simp [List.getD, htl]
      rw [hx] at hcc
      have HCC := hide hcc
      have hnx := dig_next htl
      rw [hx'] at hnx
      obtain ⟨X, hX⟩ : ∃ X, digest (S.take t) = X := ⟨_, rfl⟩
      obtain ⟨Hh, hH⟩ : ∃ X, hashF (a, b) = X := ⟨_, rfl⟩
      rw [hX] at hnx
      have hnx' : digest (S.take (t + 1)) = mixF (IntKind.u64.wrap (IntKind.u64.wrap (mixF (IntKind.u64.wrap (X + Hh)) + IntKind.u64.wrap c) + 1)) := by rw [hnx, ← hH]; rfl
      have HNX := hide hnx'
      have HHA : Hid (∀ x, Below w1.heap.size w1 x → Calls Try.prog 15 #[.agg #[.int .i32 a, .int .i64 b]] x fun e w' => e = .returned (.int .u64 Hh) ∧ Below w1.heap.size w1 w') := fun x hx => rhash_from hx a b hH
      have HMX : Hid (∀ z x, Below w1.heap.size w1 x → Calls Try.prog 36 #[.int .u64 z] x fun e w' => e = .returned (.int .u64 (mixF z)) ∧ Below w1.heap.size w1 w') := fun z x hx => (rmix_any z x).mono fun _ _ ⟨h1, h2⟩ => ⟨h1, h2 ▸ hx⟩
      rw [hX]
      clear hnl htl hse hx hx' hcc hnx hnx' hX hH hbr
      go_wp2_with fail
      refine wp_region_held_drew (S := fun x => Below w1.heap.size w1 x) (by kernel_rfl) (unhide HBR).drew (fun hHeld => ?_)
      refine wpAnyH_take (i := 0) (v := ?v1x0) rfl (by kernel_rfl) (by kernel_rfl) (by kernel_rfl) (fun _ _ _ h => h) (Or.inl ⟨by rfl, ?hy1x0⟩) (by assumption) ?rest1x0
      case hy1x0 => intro w hSw; go_simp <;> with_reducible rfl
      simp only [Act.put, List.getElem_toArray, List.getElem_cons_zero, List.setIfInBounds_toArray, List.set_cons_zero, List.set_cons_succ]
      refine wpAnyH_take (i := 1) (v := ?v2x1) rfl (by kernel_rfl) (by kernel_rfl) (by kernel_rfl) (fun _ _ _ h => h) (Or.inl ⟨by rfl, ?hy2x1⟩) (by assumption) ?rest2x1
      case hy2x1 => intro w hSw; go_simp <;> with_reducible rfl
      simp only [Act.put, List.getElem_toArray, List.getElem_cons_zero, List.getElem_cons_succ, List.setIfInBounds_toArray, List.set_cons_zero, List.set_cons_succ]
      refine wpAnyH_take (i := 2) (v := ?v3x2) rfl (by kernel_rfl) (by kernel_rfl) (by kernel_rfl) (fun _ _ _ h => h) (Or.inl ⟨by rfl, ?hy3x2⟩) (by assumption) ?rest3x2
      case hy3x2 => intro w hSw; go_simp <;> with_reducible rfl
      simp only [Act.put, List.getElem_toArray, List.getElem_cons_zero, List.getElem_cons_succ, List.setIfInBounds_toArray, List.set_cons_zero, List.set_cons_succ]
      refine wpAnyH_take (i := 3) (v := ?v4x3) rfl (by kernel_rfl) (by kernel_rfl) (by kernel_rfl) (fun _ _ _ h => h) (Or.inl ⟨by rfl, ?hy4x3⟩) (by assumption) ?rest4x3
      case hy4x3 => intro w hSw; go_simp <;> with_reducible rfl
      simp only [Act.put, List.getElem_toArray, List.getElem_cons_zero, List.getElem_cons_succ, List.setIfInBounds_toArray, List.set_cons_zero, List.set_cons_succ]
      refine wpAnyH_take (i := 4) (v := ?v5x4) rfl (by kernel_rfl) (by kernel_rfl) (by kernel_rfl) (fun _ _ _ h => h) (Or.inl ⟨by rfl, ?hy5x4⟩) (by assumption) ?rest5x4
      case hy5x4 => intro w hSw; go_simp <;> with_reducible rfl
      simp only [Act.put, List.getElem_toArray, List.getElem_cons_zero, List.getElem_cons_succ, List.setIfInBounds_toArray, List.set_cons_zero, List.set_cons_succ]
      refine wpAnyH_take (i := 5) (v := (.agg #[.int .i32 a, .int .i64 b])) rfl (by kernel_rfl) (by kernel_rfl) (by kernel_rfl) (fun _ _ _ h => h) (Or.inl ⟨by rfl, ?hy6x5⟩) (by assumption) ?rest6x5
      case hy6x5 => intro w hSw; obtain ⟨s1, s2, s3⟩ := unhide HCC _ hSw; go_simp <;> with_reducible rfl
      simp only [Act.put, List.getElem_toArray, List.getElem_cons_zero, List.getElem_cons_succ, List.setIfInBounds_toArray, List.set_cons_zero, List.set_cons_succ]
      refine wpAnyH_take (i := 9) (v := ?v7x9) rfl (by kernel_rfl) (by kernel_rfl) (by kernel_rfl) (fun _ _ _ h => h) (Or.inl ⟨by rfl, ?hy7x9⟩) (by assumption) ?rest7x9
      case hy7x9 => intro w hSw; go_simp <;> with_reducible rfl
      simp only [Act.put, List.getElem_toArray, List.getElem_cons_zero, List.getElem_cons_succ, List.setIfInBounds_toArray, List.set_cons_zero, List.set_cons_succ]
      refine wpAnyH_take (i := 10) (v := ?v8x10) rfl (by kernel_rfl) (by kernel_rfl) (by kernel_rfl) (fun _ _ _ h => h) (Or.inl ⟨by rfl, ?hy8x10⟩) (by assumption) ?rest8x10
      case hy8x10 => intro w hSw; go_simp <;> with_reducible rfl
      simp only [Act.put, List.getElem_toArray, List.getElem_cons_zero, List.getElem_cons_succ, List.setIfInBounds_toArray, List.set_cons_zero, List.set_cons_succ]
      refine wpAnyH_take (i := 11) (v := ?v9x11) rfl (by kernel_rfl) (by kernel_rfl) (by kernel_rfl) (fun _ _ _ h => h) (Or.inl ⟨by rfl, ?hy9x11⟩) (by assumption) ?rest9x11
      case hy9x11 => intro w hSw; go_simp <;> with_reducible rfl
      simp only [Act.put, List.getElem_toArray, List.getElem_cons_zero, List.getElem_cons_succ, List.setIfInBounds_toArray, List.set_cons_zero, List.set_cons_succ]
      refine wpAnyH_take (i := 12) (v := ?v10x12) rfl (by kernel_rfl) (by kernel_rfl) (by kernel_rfl) (fun _ _ _ h => h) (Or.inl ⟨by rfl, ?hy10x12⟩) (by assumption) ?rest10x12
      case hy10x12 => intro w hSw; go_simp <;> with_reducible rfl
      simp only [Act.put, List.getElem_toArray, List.getElem_cons_zero, List.getElem_cons_succ, List.setIfInBounds_toArray, List.set_cons_zero, List.set_cons_succ]
      refine wpAnyH_take (i := 13) (v := (.int .i64 c)) rfl (by kernel_rfl) (by kernel_rfl) (by kernel_rfl) (fun _ _ _ h => h) (Or.inl ⟨by rfl, ?hy11x13⟩) (by assumption) ?rest11x13
      case hy11x13 => intro w hSw; obtain ⟨s1, s2, s3⟩ := unhide HCC _ hSw; go_simp <;> with_reducible rfl
      simp only [Act.put, List.getElem_toArray, List.getElem_cons_zero, List.getElem_cons_succ, List.setIfInBounds_toArray, List.set_cons_zero, List.set_cons_succ]
      refine wpAnyH_take (i := 14) (v := ?v12x14) rfl (by kernel_rfl) (by kernel_rfl) (by kernel_rfl) (fun _ _ _ h => h) (Or.inl ⟨by rfl, ?hy12x14⟩) (by assumption) ?rest12x14
      case hy12x14 => intro w hSw; go_simp <;> with_reducible rfl
      simp only [Act.put, List.getElem_toArray, List.getElem_cons_zero, List.getElem_cons_succ, List.setIfInBounds_toArray, List.set_cons_zero, List.set_cons_succ]
      refine wpAnyH_ready (rs := [6]) (by kernel_rfl) (by simp) ?_
      refine AllReadyH.cons rfl (fun K hK => ?_) AllReadyH.nil
      go_simp
      refine (unhide HHA _ (by assumption)).mono ?_
      rintro e wq ⟨rfl, hb1⟩
      refine hK _ _ hb1 ?_
      clear hK hHeld
      intro hHeld
      refine wpAnyH_take (i := 7) (v := ?v13x7) rfl (by kernel_rfl) (by kernel_rfl) (by kernel_rfl) (fun _ _ _ h => h) (Or.inl ⟨by rfl, ?hy13x7⟩) (by assumption) ?rest13x7
      case hy13x7 => intro w hSw; go_simp <;> with_reducible rfl
      simp only [Act.put, List.getElem_toArray, List.getElem_cons_zero, List.getElem_cons_succ, List.setIfInBounds_toArray, List.set_cons_zero, List.set_cons_succ]
      refine wpAnyH_ready (rs := [8]) (by kernel_rfl) (by simp) ?_
      refine AllReadyH.cons rfl (fun K hK => ?_) AllReadyH.nil
      go_simp
      refine (unhide HMX _ _ (by assumption)).mono ?_
      rintro e wq ⟨rfl, hb1⟩
      refine hK _ _ hb1 ?_
      clear hK hHeld
      intro hHeld
      refine wpAnyH_take (i := 15) (v := ?v14x15) rfl (by kernel_rfl) (by kernel_rfl) (by kernel_rfl) (fun _ _ _ h => h) (Or.inl ⟨by rfl, ?hy14x15⟩) (by assumption) ?rest14x15
      case hy14x15 => intro w hSw; go_simp <;> with_reducible rfl
      simp only [Act.put, List.getElem_toArray, List.getElem_cons_zero, List.getElem_cons_succ, List.setIfInBounds_toArray, List.set_cons_zero, List.set_cons_succ]
      refine wpAnyH_take (i := 16) (v := ?v15x16) rfl (by kernel_rfl) (by kernel_rfl) (by kernel_rfl) (fun _ _ _ h => h) (Or.inl ⟨by rfl, ?hy15x16⟩) (by assumption) ?rest15x16
      case hy15x16 => intro w hSw; go_simp <;> with_reducible rfl
      simp only [Act.put, List.getElem_toArray, List.getElem_cons_zero, List.getElem_cons_succ, List.setIfInBounds_toArray, List.set_cons_zero, List.set_cons_succ]
      refine wpAnyH_ready (rs := [17]) (by kernel_rfl) (by simp) ?_
      refine AllReadyH.cons rfl (fun K hK => ?_) AllReadyH.nil
      go_simp
      refine (unhide HMX _ _ (by assumption)).mono ?_
      rintro e wq ⟨rfl, hb1⟩
      refine hK _ _ hb1 ?_
      clear hK hHeld
      intro hHeld
      refine wpAnyH_take (i := 18) (v := ?v16x18) rfl (by kernel_rfl) (by kernel_rfl) (by kernel_rfl) (fun _ _ _ h => h) (Or.inl ⟨by rfl, ?hy16x18⟩) (by assumption) ?rest16x18
      case hy16x18 => intro w hSw; go_simp <;> with_reducible rfl
      simp only [Act.put, List.getElem_toArray, List.getElem_cons_zero, List.getElem_cons_succ, List.setIfInBounds_toArray, List.set_cons_zero, List.set_cons_succ]
      refine wpAnyH_done (by kernel_rfl) ?_ _
      go_wp2
      go_roundw
      case rel => exact ⟨t + 1, by omega, by rw [unhide HNX], by go_num, hb1⟩
      case measure => simp [intOf]; omega
    · obtain rfl : t = n := by omega
      have hnl := unhide HN
      have e : S.take t = S := List.take_of_length_le (by omega)
      rw [e]
      clear hnl e hbr
      go_wp2
      go_ret
      exact ⟨rfl, (unhide HB).trans ((unhide HBR).mono (unhide HB).size)⟩
end Go.Proofs.Ytbajggmpklajnaa
