/- ShardLists' walk. -/
import Derived.Test.YtbajggmpklajnaaI0
import Derived.Test.YtbajggmpklajnaaG2
namespace Go.Proofs.Ytbajggmpklajnaa
open Go.RowKit
set_option maxRecDepth 100000

theorem samekeys_from {y x : World} {av bv : Value} {l : List Ky} (ha : SeesL kC 2 x av l) (hb : SeesL kC 2 x bv l) (hx : Below y.heap.size y x) : Calls Try.prog 18 #[av, bv] x fun e w' => e = .returned (.bool true) ∧ Below y.heap.size y w' :=
  grew_from hx ((samekeys_any ha hb).mono fun _ _ ⟨h1, h2⟩ => ⟨by rw [h1]; simp, h2⟩)
theorem samepairs_from {y x : World} {av bv : Value} {l : List Pr} (ha : SeesL pC 3 x av l) (hb : SeesL pC 3 x bv l) (hx : Below y.heap.size y x) : Calls Try.prog 21 #[av, bv] x fun e w' => e = .returned (.bool true) ∧ Below y.heap.size y w' :=
  grew_from hx ((samepairs_any ha hb).mono fun _ _ ⟨h1, h2⟩ => ⟨by rw [h1]; simp, h2⟩)
theorem rhas_from {y x : World} {v : Value} {l : List Ky} (hs : SeesL kC 2 x v l) (hb : Below y.heap.size y x) (a b : Int) {r : Bool} (hr : decide ((a, b) ∈ l) = r) : Calls Try.prog 25 #[v, .agg #[.int .i32 a, .int .i64 b]] x fun e w' => e = .returned (.bool r) ∧ Below y.heap.size y w' := by
  subst hr
  exact grew_from hb (rhas_any hs a b)
theorem on_top {y x : World} {f : Nat} {args : Array Value} {r : Ending} (hb : Below y.heap.size y x) (h : Calls Try.prog f args x fun e w' => e = r ∧ Below x.heap.size x w') : Calls Try.prog f args x fun e w' => e = r ∧ Below y.heap.size y w' :=
  h.mono fun _ _ ⟨h1, h2⟩ => ⟨h1, hb.trans (h2.mono hb.size)⟩
set_option maxHeartbeats 6400000 in
theorem lists_walk {v u : Value} {l : List Ky} {q : List Pr} {w : World} (a b : Int) (hs : SeesL kC 2 w v l) (hok : ∀ k ∈ l, OkK k) (hll : l.length ≤ 8796093021952) (hq : SeesL pC 3 w u q) (hoq : ∀ p ∈ q, OkK p.1) (hlq : q.length ≤ 5864062014634) :
    Calls Try.prog 4 #[v, u, .agg #[.int .i32 a, .int .i64 b]] w fun e w' => e = .returned (.bool true) ∧ Below w.heap.size w w' := by
  obtain ⟨y, hy⟩ : ∃ y, w.alloc (.cells #[.int .i32 a, .int .i64 b] 23) = y := ⟨_, rfl⟩
  have hwy : Below w.heap.size w y := hy ▸ below_box _
  have xk : y.heap[w.heap.size]? = some (.cells #[.int .i32 a, .int .i64 b] 23) := hy ▸ heap_alloc_new w _
  have HBX : Hid (∀ x, Below y.heap.size y x → x.cell? ⟨w.heap.size, 0, none⟩ = some (.int .i32 a) ∧ x.cell? ⟨w.heap.size, 1, none⟩ = some (.int .i64 b)) := fun x hb => box_cells xk hb
  have HL : Hid (∀ x, Below y.heap.size y x → SeesL kC 2 x v l) := fun x hx => hs.below kC_len (hwy.trans (hx.mono hwy.size))
  have HQ : Hid (∀ x, Below y.heap.size y x → SeesL pC 3 x u q) := fun x hx => hq.below pC_len (hwy.trans (hx.mono hwy.size))
  have HOK := hide hok
  have HOQ := hide hoq
  have HW := hide hwy
  obtain ⟨r, hr⟩ : ∃ r, decide ((a, b) ∈ l) = r := ⟨_, rfl⟩
  obtain ⟨D, hD⟩ : ∃ r, digest (srtP q) = r := ⟨_, rfl⟩
  have HDA : Hid (∀ x, Below y.heap.size y x → Calls Try.prog 26 #[u] x fun e w' => e = .returned (.int .u64 D) ∧ Below y.heap.size y w') := fun x hx => on_top hx (hD ▸ digest_any (unhide HQ x hx) (unhide HOQ) (by omega))
  have HDB : Hid (∀ x, Below y.heap.size y x → Calls Try.prog 27 #[u] x fun e w' => e = .returned (.int .u64 D) ∧ Below y.heap.size y w') := fun x hx => on_top hx (hD ▸ rdigest_any (unhide HQ x hx) (by omega))
  have HHA : Hid (∀ x, Below y.heap.size y x → Calls Try.prog 24 #[v, .agg #[.int .i32 a, .int .i64 b]] x fun e w' => e = .returned (.bool r) ∧ Below y.heap.size y w') := fun x hx => has_from (unhide HL x hx) hx a b hr
  have HHB : Hid (∀ x, Below y.heap.size y x → Calls Try.prog 25 #[v, .agg #[.int .i32 a, .int .i64 b]] x fun e w' => e = .returned (.bool r) ∧ Below y.heap.size y w') := fun x hx => rhas_from (unhide HL x hx) hx a b hr
  have hLL : l.length ≤ 8796093022208 := by omega
  have hLQ : q.length ≤ 5864062014805 := by omega
  have hLR : q.length ≤ 5864062014804 := by omega
  obtain ⟨av, cv, hv⟩ := hs.shape
  obtain ⟨au, cu, hu⟩ := hq.shape
  obtain ⟨n1, hn1⟩ : ∃ n, l.length = n := ⟨_, rfl⟩
  obtain ⟨n2, hn2⟩ : ∃ n, q.length = n := ⟨_, rfl⟩
  rw [hn1] at hv
  rw [hn2] at hu
  subst hv hu
  clear hs hq hwy xk hok hoq hr hD hn1 hn2 hll hlq
  go_enter Try.func4, Try.ntmps4
  go_wp2_with (rw [hy])
  refine wp_region_held_drew (S := fun x => Below y.heap.size y x) (by kernel_rfl) ((Below.refl _ _).drew) (fun hHeld => ?_)
  refine wpAnyH_ready (rs := [0]) (by as_aux_lemma => kernel_rfl) (by simp) ?_
  refine AllReadyH.cons rfl (fun K hK => ?_) AllReadyH.nil
  go_simp
  refine (live_from (by assumption)).mono ?_
  rintro e wq ⟨rfl, hb1⟩
  refine hK _ _ hb1 ?_
  clear hK hHeld
  intro hHeld
  refine wpAnyH_take (i := 1) (v := ?v1x1) rfl (by as_aux_lemma => kernel_rfl) (by as_aux_lemma => kernel_rfl) (by as_aux_lemma => kernel_rfl) (fun _ _ _ h => h) (Or.inl ⟨by rfl, ?hy1x1⟩) (by assumption) ?rest1x1
  case hy1x1 => intro w hSw; go_simp <;> with_reducible rfl
  simp only [Act.put, List.getElem_toArray, List.getElem_cons_zero, List.getElem_cons_succ, List.setIfInBounds_toArray, List.set_cons_zero, List.set_cons_succ]
  refine wpAnyH_take (i := 2) (v := ?v2x2) rfl (by as_aux_lemma => kernel_rfl) (by as_aux_lemma => kernel_rfl) (by as_aux_lemma => kernel_rfl) (fun _ _ _ h => h) (Or.inl ⟨by rfl, ?hy2x2⟩) (by assumption) ?rest2x2
  case hy2x2 => intro w hSw; go_simp <;> with_reducible rfl
  simp only [Act.put, List.getElem_toArray, List.getElem_cons_zero, List.getElem_cons_succ, List.setIfInBounds_toArray, List.set_cons_zero, List.set_cons_succ]
  refine wpAnyH_take (i := 4) (v := ?v3x4) rfl (by as_aux_lemma => kernel_rfl) (by as_aux_lemma => kernel_rfl) (by as_aux_lemma => kernel_rfl) (fun _ _ _ h => h) (Or.inl ⟨by rfl, ?hy3x4⟩) (by assumption) ?rest3x4
  case hy3x4 => intro w hSw; go_simp <;> with_reducible rfl
  simp only [Act.put, List.getElem_toArray, List.getElem_cons_zero, List.getElem_cons_succ, List.setIfInBounds_toArray, List.set_cons_zero, List.set_cons_succ]
  refine wpAnyH_ready (rs := [3]) (by as_aux_lemma => kernel_rfl) (by simp) ?_
  refine AllReadyH.cons rfl (fun K hK => ?_) AllReadyH.nil
  go_simp
  refine (keys_any (unhide HL _ hHeld) (unhide HOK) hLL).mono ?_
  rintro e x3 ⟨kv, rfl, o3, d3⟩
  refine hK _ _ (hHeld.trans (d3.mono hHeld.size)) ?_
  clear hK hHeld
  intro hHeld
  refine wpAnyH_ready (rs := [5]) (by as_aux_lemma => kernel_rfl) (by simp) ?_
  refine AllReadyH.cons rfl (fun K hK => ?_) AllReadyH.nil
  go_simp
  refine (rkeys_any (unhide HL _ hHeld) hLL).mono ?_
  rintro e x5 ⟨rv, rfl, o5, d5⟩
  refine hK _ _ (hHeld.trans (d5.mono hHeld.size)) ?_
  clear hK hHeld
  intro hHeld
  refine wpAnyH_ready (rs := [6]) (by as_aux_lemma => kernel_rfl) (by simp) ?_
  refine AllReadyH.cons rfl (fun K hK => ?_) AllReadyH.nil
  go_simp
  refine (samekeys_from (own_sees kC_len (by decide) (own_below o3 d5)).2 (own_sees kC_len (by decide) o5).2 hHeld).mono ?_
  rintro e wq ⟨rfl, hb1⟩
  refine hK _ _ hb1 ?_
  clear hK hHeld
  intro hHeld
  clear o3 d3 o5 d5
  refine wpAnyH_take (i := 7) (v := (.bool true)) rfl (by as_aux_lemma => kernel_rfl) (by as_aux_lemma => kernel_rfl) (by as_aux_lemma => kernel_rfl) (fun _ _ _ h => h) (Or.inl ⟨by rfl, ?hy4x7⟩) (by assumption) ?rest4x7
  case hy4x7 => intro w hSw; go_simp <;> with_reducible rfl
  simp only [Act.put, List.getElem_toArray, List.getElem_cons_zero, List.getElem_cons_succ, List.setIfInBounds_toArray, List.set_cons_zero, List.set_cons_succ]
  refine wpAnyH_take (i := 8) (v := ?v5x8) rfl (by as_aux_lemma => kernel_rfl) (by as_aux_lemma => kernel_rfl) (by as_aux_lemma => kernel_rfl) (fun _ _ _ h => h) (Or.inl ⟨by rfl, ?hy5x8⟩) (by assumption) ?rest5x8
  case hy5x8 => intro w hSw; go_simp <;> with_reducible rfl
  simp only [Act.put, List.getElem_toArray, List.getElem_cons_zero, List.getElem_cons_succ, List.setIfInBounds_toArray, List.set_cons_zero, List.set_cons_succ]
  refine wpAnyH_take (i := 9) (v := ?v6x9) rfl (by as_aux_lemma => kernel_rfl) (by as_aux_lemma => kernel_rfl) (by as_aux_lemma => kernel_rfl) (fun _ _ _ h => h) (Or.inl ⟨by rfl, ?hy6x9⟩) (by assumption) ?rest6x9
  case hy6x9 => intro w hSw; go_simp <;> with_reducible rfl
  simp only [Act.put, List.getElem_toArray, List.getElem_cons_zero, List.getElem_cons_succ, List.setIfInBounds_toArray, List.set_cons_zero, List.set_cons_succ]
  refine wpAnyH_take (i := 11) (v := ?v7x11) rfl (by as_aux_lemma => kernel_rfl) (by as_aux_lemma => kernel_rfl) (by as_aux_lemma => kernel_rfl) (fun _ _ _ h => h) (Or.inl ⟨by rfl, ?hy7x11⟩) (by assumption) ?rest7x11
  case hy7x11 => intro w hSw; go_simp <;> with_reducible rfl
  simp only [Act.put, List.getElem_toArray, List.getElem_cons_zero, List.getElem_cons_succ, List.setIfInBounds_toArray, List.set_cons_zero, List.set_cons_succ]
  refine wpAnyH_ready (rs := [10]) (by as_aux_lemma => kernel_rfl) (by simp) ?_
  refine AllReadyH.cons rfl (fun K hK => ?_) AllReadyH.nil
  go_simp
  refine (pairs_any (unhide HQ _ hHeld) (unhide HOQ) hLQ).mono ?_
  rintro e x10 ⟨pv, rfl, o3, d3⟩
  refine hK _ _ (hHeld.trans (d3.mono hHeld.size)) ?_
  clear hK hHeld
  intro hHeld
  refine wpAnyH_ready (rs := [12]) (by as_aux_lemma => kernel_rfl) (by simp) ?_
  refine AllReadyH.cons rfl (fun K hK => ?_) AllReadyH.nil
  go_simp
  refine (rpairs_any (unhide HQ _ hHeld) hLR).mono ?_
  rintro e x12 ⟨qv, rfl, o5, d5⟩
  refine hK _ _ (hHeld.trans (d5.mono hHeld.size)) ?_
  clear hK hHeld
  intro hHeld
  refine wpAnyH_ready (rs := [13]) (by as_aux_lemma => kernel_rfl) (by simp) ?_
  refine AllReadyH.cons rfl (fun K hK => ?_) AllReadyH.nil
  go_simp
  refine (samepairs_from (own_sees pC_len (by decide) (own_below o3 d5)).2 (own_sees pC_len (by decide) o5).2 hHeld).mono ?_
  rintro e wq ⟨rfl, hb1⟩
  refine hK _ _ hb1 ?_
  clear hK hHeld
  intro hHeld
  clear o3 d3 o5 d5
  refine wpAnyH_take (i := 14) (v := (.bool true)) rfl (by as_aux_lemma => kernel_rfl) (by as_aux_lemma => kernel_rfl) (by as_aux_lemma => kernel_rfl) (fun _ _ _ h => h) (Or.inl ⟨by rfl, ?hy8x14⟩) (by assumption) ?rest8x14
  case hy8x14 => intro w hSw; go_simp <;> with_reducible rfl
  simp only [Act.put, List.getElem_toArray, List.getElem_cons_zero, List.getElem_cons_succ, List.setIfInBounds_toArray, List.set_cons_zero, List.set_cons_succ]
  refine wpAnyH_take (i := 15) (v := ?v9x15) rfl (by as_aux_lemma => kernel_rfl) (by as_aux_lemma => kernel_rfl) (by as_aux_lemma => kernel_rfl) (fun _ _ _ h => h) (Or.inl ⟨by rfl, ?hy9x15⟩) (by assumption) ?rest9x15
  case hy9x15 => intro w hSw; go_simp <;> with_reducible rfl
  simp only [Act.put, List.getElem_toArray, List.getElem_cons_zero, List.getElem_cons_succ, List.setIfInBounds_toArray, List.set_cons_zero, List.set_cons_succ]
  refine wpAnyH_take (i := 16) (v := ?v10x16) rfl (by as_aux_lemma => kernel_rfl) (by as_aux_lemma => kernel_rfl) (by as_aux_lemma => kernel_rfl) (fun _ _ _ h => h) (Or.inl ⟨by rfl, ?hy10x16⟩) (by assumption) ?rest10x16
  case hy10x16 => intro w hSw; go_simp <;> with_reducible rfl
  simp only [Act.put, List.getElem_toArray, List.getElem_cons_zero, List.getElem_cons_succ, List.setIfInBounds_toArray, List.set_cons_zero, List.set_cons_succ]
  refine wpAnyH_take (i := 17) (v := (.agg #[.int .i32 a, .int .i64 b])) rfl (by as_aux_lemma => kernel_rfl) (by as_aux_lemma => kernel_rfl) (by as_aux_lemma => kernel_rfl) (fun _ _ _ h => h) (Or.inl ⟨by rfl, ?hy11x17⟩) (by assumption) ?rest11x17
  case hy11x17 => intro w hSw; obtain ⟨s1, s2⟩ := unhide HBX _ hSw; go_simp <;> with_reducible rfl
  simp only [Act.put, List.getElem_toArray, List.getElem_cons_zero, List.getElem_cons_succ, List.setIfInBounds_toArray, List.set_cons_zero, List.set_cons_succ]
  refine wpAnyH_take (i := 19) (v := ?v12x19) rfl (by as_aux_lemma => kernel_rfl) (by as_aux_lemma => kernel_rfl) (by as_aux_lemma => kernel_rfl) (fun _ _ _ h => h) (Or.inl ⟨by rfl, ?hy12x19⟩) (by assumption) ?rest12x19
  case hy12x19 => intro w hSw; go_simp <;> with_reducible rfl
  simp only [Act.put, List.getElem_toArray, List.getElem_cons_zero, List.getElem_cons_succ, List.setIfInBounds_toArray, List.set_cons_zero, List.set_cons_succ]
  refine wpAnyH_take (i := 20) (v := (.agg #[.int .i32 a, .int .i64 b])) rfl (by as_aux_lemma => kernel_rfl) (by as_aux_lemma => kernel_rfl) (by as_aux_lemma => kernel_rfl) (fun _ _ _ h => h) (Or.inl ⟨by rfl, ?hy13x20⟩) (by assumption) ?rest13x20
  case hy13x20 => intro w hSw; obtain ⟨s1, s2⟩ := unhide HBX _ hSw; go_simp <;> with_reducible rfl
  simp only [Act.put, List.getElem_toArray, List.getElem_cons_zero, List.getElem_cons_succ, List.setIfInBounds_toArray, List.set_cons_zero, List.set_cons_succ]
  refine wpAnyH_ready (rs := [18]) (by as_aux_lemma => kernel_rfl) (by simp) ?_
  refine AllReadyH.cons rfl (fun K hK => ?_) AllReadyH.nil
  go_simp
  refine (unhide HHA _ (by assumption)).mono ?_
  rintro e wq ⟨rfl, hb1⟩
  refine hK _ _ hb1 ?_
  clear hK hHeld
  intro hHeld
  refine wpAnyH_ready (rs := [21]) (by as_aux_lemma => kernel_rfl) (by simp) ?_
  refine AllReadyH.cons rfl (fun K hK => ?_) AllReadyH.nil
  go_simp
  refine (unhide HHB _ (by assumption)).mono ?_
  rintro e wq ⟨rfl, hb1⟩
  refine hK _ _ hb1 ?_
  clear hK hHeld
  intro hHeld
  refine wpAnyH_take (i := 22) (v := (.bool true)) rfl (by as_aux_lemma => kernel_rfl) (by as_aux_lemma => kernel_rfl) (by as_aux_lemma => kernel_rfl) (fun _ _ _ h => h) (Or.inl ⟨by rfl, ?hy14x22⟩) (by assumption) ?rest14x22
  case hy14x22 => intro w hSw; have hbb : (r == r) = true := (by cases r <;> rfl); go_simp <;> with_reducible rfl
  simp only [Act.put, List.getElem_toArray, List.getElem_cons_zero, List.getElem_cons_succ, List.setIfInBounds_toArray, List.set_cons_zero, List.set_cons_succ]
  refine wpAnyH_take (i := 23) (v := (.bool true)) rfl (by as_aux_lemma => kernel_rfl) (by as_aux_lemma => kernel_rfl) (by as_aux_lemma => kernel_rfl) (fun _ _ _ h => h) (Or.inl ⟨by rfl, ?hy15x23⟩) (by assumption) ?rest15x23
  case hy15x23 => intro w hSw; go_simp <;> with_reducible rfl
  simp only [Act.put, List.getElem_toArray, List.getElem_cons_zero, List.getElem_cons_succ, List.setIfInBounds_toArray, List.set_cons_zero, List.set_cons_succ]
  refine wpAnyH_take (i := 24) (v := ?v16x24) rfl (by as_aux_lemma => kernel_rfl) (by as_aux_lemma => kernel_rfl) (by as_aux_lemma => kernel_rfl) (fun _ _ _ h => h) (Or.inl ⟨by rfl, ?hy16x24⟩) (by assumption) ?rest16x24
  case hy16x24 => intro w hSw; go_simp <;> with_reducible rfl
  simp only [Act.put, List.getElem_toArray, List.getElem_cons_zero, List.getElem_cons_succ, List.setIfInBounds_toArray, List.set_cons_zero, List.set_cons_succ]
  refine wpAnyH_take (i := 25) (v := ?v17x25) rfl (by as_aux_lemma => kernel_rfl) (by as_aux_lemma => kernel_rfl) (by as_aux_lemma => kernel_rfl) (fun _ _ _ h => h) (Or.inl ⟨by rfl, ?hy17x25⟩) (by assumption) ?rest17x25
  case hy17x25 => intro w hSw; go_simp <;> with_reducible rfl
  simp only [Act.put, List.getElem_toArray, List.getElem_cons_zero, List.getElem_cons_succ, List.setIfInBounds_toArray, List.set_cons_zero, List.set_cons_succ]
  refine wpAnyH_take (i := 27) (v := ?v18x27) rfl (by as_aux_lemma => kernel_rfl) (by as_aux_lemma => kernel_rfl) (by as_aux_lemma => kernel_rfl) (fun _ _ _ h => h) (Or.inl ⟨by rfl, ?hy18x27⟩) (by assumption) ?rest18x27
  case hy18x27 => intro w hSw; go_simp <;> with_reducible rfl
  simp only [Act.put, List.getElem_toArray, List.getElem_cons_zero, List.getElem_cons_succ, List.setIfInBounds_toArray, List.set_cons_zero, List.set_cons_succ]
  refine wpAnyH_ready (rs := [26]) (by as_aux_lemma => kernel_rfl) (by simp) ?_
  refine AllReadyH.cons rfl (fun K hK => ?_) AllReadyH.nil
  go_simp
  refine (unhide HDA _ (by assumption)).mono ?_
  rintro e wq ⟨rfl, hb1⟩
  refine hK _ _ hb1 ?_
  clear hK hHeld
  intro hHeld
  refine wpAnyH_ready (rs := [28]) (by as_aux_lemma => kernel_rfl) (by simp) ?_
  refine AllReadyH.cons rfl (fun K hK => ?_) AllReadyH.nil
  go_simp
  refine (unhide HDB _ (by assumption)).mono ?_
  rintro e wq ⟨rfl, hb1⟩
  refine hK _ _ hb1 ?_
  clear hK hHeld
  intro hHeld
  refine wpAnyH_take (i := 29) (v := (.bool true)) rfl (by as_aux_lemma => kernel_rfl) (by as_aux_lemma => kernel_rfl) (by as_aux_lemma => kernel_rfl) (fun _ _ _ h => h) (Or.inl ⟨by rfl, ?hy19x29⟩) (by assumption) ?rest19x29
  case hy19x29 => intro w hSw; go_simp <;> with_reducible rfl
  simp only [Act.put, List.getElem_toArray, List.getElem_cons_zero, List.getElem_cons_succ, List.setIfInBounds_toArray, List.set_cons_zero, List.set_cons_succ]
  refine wpAnyH_take (i := 30) (v := (.bool true)) rfl (by as_aux_lemma => kernel_rfl) (by as_aux_lemma => kernel_rfl) (by as_aux_lemma => kernel_rfl) (fun _ _ _ h => h) (Or.inl ⟨by rfl, ?hy20x30⟩) (by assumption) ?rest20x30
  case hy20x30 => intro w hSw; go_simp <;> with_reducible rfl
  simp only [Act.put, List.getElem_toArray, List.getElem_cons_zero, List.getElem_cons_succ, List.setIfInBounds_toArray, List.set_cons_zero, List.set_cons_succ]
  refine wpAnyH_take (i := 31) (v := ?v21x31) rfl (by as_aux_lemma => kernel_rfl) (by as_aux_lemma => kernel_rfl) (by as_aux_lemma => kernel_rfl) (fun _ _ _ h => h) (Or.inl ⟨by rfl, ?hy21x31⟩) (by assumption) ?rest21x31
  case hy21x31 => intro w hSw; go_simp <;> with_reducible rfl
  simp only [Act.put, List.getElem_toArray, List.getElem_cons_zero, List.getElem_cons_succ, List.setIfInBounds_toArray, List.set_cons_zero, List.set_cons_succ]
  refine wpAnyH_done (by as_aux_lemma => kernel_rfl) ?_ _
  go_wp2
  go_ret
  exact ⟨rfl, (unhide HW).trans (hb1.mono (unhide HW).size)⟩
end Go.Proofs.Ytbajggmpklajnaa
