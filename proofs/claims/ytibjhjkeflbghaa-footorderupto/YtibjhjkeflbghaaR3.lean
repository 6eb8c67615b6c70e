/- Clash: the document's. -/
import Derived.Test.YtibjhjkeflbghaaKH
import Derived.Test.YtibjhjkeflbghaaR0
namespace Go.Proofs.Ytibjhjkeflbghaa
open Go.RowKit
set_option maxRecDepth 100000

/-- Whether two locks stand in each other's way. -/
def meet (x y : Lk) : Bool := decide (x.1 = y.1) && (x.2 || y.2)
def rcl (A B : List Lk) : Bool := A.any fun x => B.any (meet x)
theorem rcl_eq {A B : List Lk} (hu : UnL B) : rcl A B = clashP A B := by
  refine Bool.eq_iff_iff.2 ⟨fun h => ?_, fun h => ?_⟩
  · obtain ⟨⟨k, d⟩, hx, hh⟩ := List.any_eq_true.1 h
    obtain ⟨⟨q, e⟩, hy, hm⟩ := List.any_eq_true.1 hh
    unfold meet at hm
    simp only [Bool.and_eq_true, decide_eq_true_eq, Bool.or_eq_true] at hm
    obtain ⟨rfl, hm⟩ := hm
    exact clashP_of hu hx hy hm
  · obtain ⟨k, d, e, h1, h2, hm⟩ := clashP_yes h
    refine List.any_eq_true.2 ⟨_, h1, List.any_eq_true.2 ⟨_, h2, ?_⟩⟩
    unfold meet
    simpa using hm
theorem clash_sym {A B : List Lk} (ha : UnL A) (hb : UnL B) : clashP A B = clashP B A := by
  refine Bool.eq_iff_iff.2 ⟨fun h => ?_, fun h => ?_⟩
  · obtain ⟨k, d, e, h1, h2, hm⟩ := clashP_yes h
    exact clashP_of ha h2 h1 hm.symm
  · obtain ⟨k, d, e, h1, h2, hm⟩ := clashP_yes h
    exact clashP_of hb h2 h1 hm.symm

set_option maxHeartbeats 16000000 in
theorem rclash_any {x y : Tx} {w : World} (hx : SeesX w x) (hy : SeesX w y) (hsx : Short x) (hsy : Short y) : Calls Try.prog 29 #[xV x, xV y] w fun e w' => e = .returned (.bool (clashP (lkX x) (lkX y))) ∧ Below w.heap.size w w' := by
  rw [← rcl_eq (show UnL (lkX y) from lks_un _ _)]
  obtain ⟨⟨ac0, nc0, cc0, hc0⟩, ⟨aa0, na0, ca0, ha0⟩⟩ := And.intro hx.shc hx.sha
  obtain ⟨ar0, cr0, hr0⟩ := hx.rs.shape
  obtain ⟨aw0, cw0, hw0⟩ := hx.ws.shape
  obtain ⟨nr0, hnr0⟩ : ∃ z, x.rs.length = z := ⟨_, rfl⟩
  obtain ⟨nw0, hnw0⟩ : ∃ z, x.ws.length = z := ⟨_, rfl⟩
  obtain ⟨s0, hs0⟩ : ∃ z, x.s = z := ⟨_, rfl⟩
  obtain ⟨r0, hrr0⟩ : ∃ z, x.r = z := ⟨_, rfl⟩
  rw [hnr0] at hr0
  rw [hnw0] at hw0
  have hxV0 : xV x = .agg #[.int .i64 s0, .int .i64 r0, .slice ac0 nc0 cc0, .slice aa0 na0 ca0, .slice ar0 nr0 cr0, .slice aw0 nw0 cw0] := by unfold xV; rw [hc0, ha0, hr0, hw0, hs0, hrr0]
  obtain ⟨⟨ac1, nc1, cc1, hc1⟩, ⟨aa1, na1, ca1, ha1⟩⟩ := And.intro hy.shc hy.sha
  obtain ⟨ar1, cr1, hr1⟩ := hy.rs.shape
  obtain ⟨aw1, cw1, hw1⟩ := hy.ws.shape
  obtain ⟨nr1, hnr1⟩ : ∃ z, y.rs.length = z := ⟨_, rfl⟩
  obtain ⟨nw1, hnw1⟩ : ∃ z, y.ws.length = z := ⟨_, rfl⟩
  obtain ⟨s1, hs1⟩ : ∃ z, y.s = z := ⟨_, rfl⟩
  obtain ⟨r1, hrr1⟩ : ∃ z, y.r = z := ⟨_, rfl⟩
  rw [hnr1] at hr1
  rw [hnw1] at hw1
  have hxV1 : xV y = .agg #[.int .i64 s1, .int .i64 r1, .slice ac1 nc1 cc1, .slice aa1 na1 ca1, .slice ar1 nr1 cr1, .slice aw1 nw1 cw1] := by unfold xV; rw [hc1, ha1, hr1, hw1, hs1, hrr1]
  obtain ⟨Y0, hY0⟩ : ∃ z, w.alloc (.cells #[.int .i64 s0, .int .i64 r0, .slice ac0 nc0 cc0, .slice aa0 na0 ca0, .slice ar0 nr0 cr0, .slice aw0 nw0 cw0] 26) = z := ⟨_, rfl⟩
  obtain ⟨Y, hY⟩ : ∃ z, Y0.alloc (.cells #[.int .i64 s1, .int .i64 r1, .slice ac1 nc1 cc1, .slice aa1 na1 ca1, .slice ar1 nr1 cr1, .slice aw1 nw1 cw1] 26) = z := ⟨_, rfl⟩
  have b0 : Below w.heap.size w Y0 := hY0 ▸ below_box _
  have z0 : Y0.heap.size = w.heap.size + 1 := by rw [← hY0]; simp
  have bY : Below w.heap.size w Y := hY ▸ b0.alloc b0.size _
  have x0 : Y.heap[w.heap.size]? = some (.cells #[.int .i64 s0, .int .i64 r0, .slice ac0 nc0 cc0, .slice aa0 na0 ca0, .slice ar0 nr0 cr0, .slice aw0 nw0 cw0] 26) := by rw [← hY]; exact (Below.heap_alloc Y0 _ _ (by omega)).trans (hY0 ▸ heap_alloc_new w _)
  have x1 : Y.heap[Y0.heap.size]? = some (.cells #[.int .i64 s1, .int .i64 r1, .slice ac1 nc1 cc1, .slice aa1 na1 ca1, .slice ar1 nr1 cr1, .slice aw1 nw1 cw1] 26) := by rw [← hY]; exact heap_alloc_new Y0 _
  have HB : Hid (∀ z, Below Y.heap.size Y z → z.heap[w.heap.size]? = some (.cells #[.int .i64 s0, .int .i64 r0, .slice ac0 nc0 cc0, .slice aa0 na0 ca0, .slice ar0 nr0 cr0, .slice aw0 nw0 cw0] 26) ∧ z.heap[Y0.heap.size]? = some (.cells #[.int .i64 s1, .int .i64 r1, .slice ac1 nc1 cc1, .slice aa1 na1 ca1, .slice ar1 nr1 cr1, .slice aw1 nw1 cw1] 26)) := fun z hz => ⟨(hz.block _ (Array.getElem?_eq_some_iff.1 x0).1).trans x0, (hz.block _ (Array.getElem?_eq_some_iff.1 x1).1).trans x1⟩
  have HA : Hid (∀ z, Below Y.heap.size Y z → Calls Try.prog 15 #[.agg #[.int .i64 s0, .int .i64 r0, .slice ac0 nc0 cc0, .slice aa0 na0 ca0, .slice ar0 nr0 cr0, .slice aw0 nw0 cw0]] z fun e w' => ∃ a c, e = .returned (.slice a (lkX x).length c) ∧ SeesL lC 3 w' (.slice a (lkX x).length c) (lkX x) ∧ Below z.heap.size z w') := fun z hz => hxV0 ▸ lks_c (rlkX_any ((hx.below bY).below hz) hsx)
  have HO : Hid (∀ z, Below Y.heap.size Y z → Calls Try.prog 15 #[.agg #[.int .i64 s1, .int .i64 r1, .slice ac1 nc1 cc1, .slice aa1 na1 ca1, .slice ar1 nr1 cr1, .slice aw1 nw1 cw1]] z fun e w' => ∃ a c, e = .returned (.slice a (lkX y).length c) ∧ SeesL lC 3 w' (.slice a (lkX y).length c) (lkX y) ∧ Below z.heap.size z w') := fun z hz => hxV1 ▸ lks_c (rlkX_any ((hy.below bY).below hz) hsy)
  have hlA := lkX_len hsx
  have hlB := lkX_len hsy
  obtain ⟨A, hA⟩ : ∃ A, lkX x = A := ⟨_, rfl⟩
  obtain ⟨B, hB⟩ : ∃ A, lkX y = A := ⟨_, rfl⟩
  obtain ⟨na, hna⟩ : ∃ n, A.length = n := ⟨_, rfl⟩
  obtain ⟨nb, hnb⟩ : ∃ n, B.length = n := ⟨_, rfl⟩
  rw [hA] at HA hlA ⊢
  rw [hB] at HO hlB ⊢
  rw [hna] at HA hlA
  rw [hnb] at HO hlB
  rw [hxV0, hxV1]
  have HNA := hide hna
  have HNB := hide hnb
  have HBY := hide bY
  have HY0 := hide hY0
  have HY := hide hY
  clear hx hy hsx hsy b0 z0 bY x0 x1 hA hB hna hnb hxV0 hxV1 hY0 hY
  clear hc0 ha0 hr0 hw0 hnr0 hnw0 hs0 hrr0 hc1 ha1 hr1 hw1 hnr1 hnw1 hs1 hrr1
  go_enter Try.func29, Try.ntmps29
  go_wp2_with (first | rw [unhide HY0] | rw [unhide HY])
  refine wp_region_held_drew (S := fun x => Below Y.heap.size Y x) (by kernel_rfl) ((Below.refl _ _).drew) (fun hHeld => ?_)
  have t0 : Below Y.heap.size Y Y.drew := (Below.refl _ _).drew
  refine wpAnyH_take (i := 0) (v := (.agg #[.int .i64 s0, .int .i64 r0, .slice ac0 nc0 cc0, .slice aa0 na0 ca0, .slice ar0 nr0 cr0, .slice aw0 nw0 cw0])) rfl (by kernel_rfl) (by kernel_rfl) (by kernel_rfl) (fun _ _ _ h => h) (Or.inl ⟨by rfl, ?hy1x0⟩) (by assumption) ?rest1x0
  case hy1x0 => intro w hSw; have ht := ((unhide HB) _ hSw).1; have q0 := cell_at (o := 0) ht; have q1 := cell_at (o := 1) ht; have q2 := cell_at (o := 2) ht; have q3 := cell_at (o := 3) ht; have q4 := cell_at (o := 4) ht; have q5 := cell_at (o := 5) ht; go_simp <;> with_reducible rfl
  simp only [Act.put, List.getElem_toArray, List.getElem_cons_zero, List.setIfInBounds_toArray, List.set_cons_zero, List.set_cons_succ]
  refine wpAnyH_take (i := 2) (v := (.agg #[.int .i64 s1, .int .i64 r1, .slice ac1 nc1 cc1, .slice aa1 na1 ca1, .slice ar1 nr1 cr1, .slice aw1 nw1 cw1])) rfl (by kernel_rfl) (by kernel_rfl) (by kernel_rfl) (fun _ _ _ h => h) (Or.inl ⟨by rfl, ?hy2x2⟩) (by assumption) ?rest2x2
  case hy2x2 => intro w hSw; have ht := ((unhide HB) _ hSw).2; have q0 := cell_at (o := 0) ht; have q1 := cell_at (o := 1) ht; have q2 := cell_at (o := 2) ht; have q3 := cell_at (o := 3) ht; have q4 := cell_at (o := 4) ht; have q5 := cell_at (o := 5) ht; go_simp <;> with_reducible rfl
  simp only [Act.put, List.getElem_toArray, List.getElem_cons_zero, List.getElem_cons_succ, List.setIfInBounds_toArray, List.set_cons_zero, List.set_cons_succ]
  refine wpAnyH_ready (rs := [1]) (by kernel_rfl) (by simp) ?_
  refine AllReadyH.cons rfl (fun K hK => ?_) AllReadyH.nil
  go_simp
  refine ((unhide HA) _ t0).mono ?_
  rintro e v1 ⟨la, lc, rfl, sA, hb1⟩
  refine hK _ _ (t0.trans (hb1.mono t0.size)) ?_
  clear hK hHeld
  have t1 : Below Y.heap.size Y v1 := t0.trans (hb1.mono t0.size)
  intro hHeld
  refine wpAnyH_ready (rs := [3]) (by kernel_rfl) (by simp) ?_
  refine AllReadyH.cons rfl (fun K hK => ?_) AllReadyH.nil
  go_simp
  refine ((unhide HO) _ t1).mono ?_
  rintro e w2 ⟨ka, kc, rfl, sB, hb2⟩
  refine hK _ _ (t1.trans (hb2.mono t1.size)) ?_
  clear hK hHeld
  have t2 : Below Y.heap.size Y w2 := t1.trans (hb2.mono t1.size)
  intro hHeld
  refine wpAnyH_take (i := 4) (v := ?v3x4) rfl (by kernel_rfl) (by kernel_rfl) (by kernel_rfl) (fun _ _ _ h => h) (Or.inl ⟨by rfl, ?hy3x4⟩) (by assumption) ?rest3x4
  case hy3x4 => intro w hSw; go_simp <;> with_reducible rfl
  simp only [Act.put, List.getElem_toArray, List.getElem_cons_zero, List.getElem_cons_succ, List.setIfInBounds_toArray, List.set_cons_zero, List.set_cons_succ]
  refine wpAnyH_take (i := 5) (v := ?v4x5) rfl (by kernel_rfl) (by kernel_rfl) (by kernel_rfl) (fun _ _ _ h => h) (Or.inl ⟨by rfl, ?hy4x5⟩) (by assumption) ?rest4x5
  case hy4x5 => intro w hSw; go_simp <;> with_reducible rfl
  simp only [Act.put, List.getElem_toArray, List.getElem_cons_zero, List.getElem_cons_succ, List.setIfInBounds_toArray, List.set_cons_zero, List.set_cons_succ]
  refine wpAnyH_done (by kernel_rfl) ?_ _
  clear hHeld
  have HSA : Hid (∀ z, Below w2.heap.size w2 z → SeesL lC 3 z (.slice la na lc) A) := fun z hz => (sA.below lC_len hb2).below lC_len hz
  have HSB : Hid (∀ z, Below w2.heap.size w2 z → SeesL lC 3 z (.slice ka nb kc) B) := fun z hz => sB.below lC_len hz
  have HBW : Hid (Below w.heap.size w w2) := (unhide HBY).trans (t2.mono (unhide HBY).size)
  clear sA sB hb1 hb2 t0 t1 t2
  go_wp2
  go_loopw [7] (fun c wr => ∃ i : Nat, i ≤ na ∧ c = .int .i64 i ∧ (∀ u, u < i → B.any (meet (A.getD u default)) = false) ∧ Below w2.heap.size w2 wr) (fun c _ => na - (intOf c).toNat)
  case atStart => exact ⟨0, by omega, rfl, fun u hu => absurd hu (by omega), Below.refl _ _⟩
  case round =>
    obtain ⟨i, hi, rfl, hal, hbr⟩ := hrel
    by_cases hlt : i < na
    · have hll := unhide HNA
      obtain ⟨ga, oa, hao, gj⟩ := lock_cells ((unhide HSA) wr hbr) rfl (show i < A.length by omega)
      clear gj
      subst hao
      obtain ⟨⟨⟨a, b⟩, d⟩, hx⟩ : ∃ k, A.getD i default = k := ⟨_, rfl⟩
      have HCA : Hid (∀ z, Below w2.heap.size w2 z → z.cell? ⟨ga, oa + i * 3, none⟩ = some (.int .i32 a) ∧ z.cell? ⟨ga, oa + i * 3 + 1, none⟩ = some (.int .i64 b) ∧ z.cell? ⟨ga, oa + i * 3 + 2, none⟩ = some (.bool d)) := fun z hz => by
        obtain ⟨g, o, e, h1, h2, h3⟩ := lock_cells ((unhide HSA) z hz) rfl (show i < A.length by omega)
        simp only [Option.some.injEq, Addr.mk.injEq, and_true] at e
        obtain ⟨rfl, rfl⟩ := e
        rw [hx] at h1 h2 h3
        exact ⟨h1, h2, h3⟩
      have hmA : ((a, b), d) ∈ A := hx ▸ getD_mem' (by omega)
      have HMA := hide hmA
      have HX := hide hx
      have HAL := hide hal
      have HBR := hide hbr
      have hlti : (i : Int) < (na : Int) := by omega
      clear hll hx hmA hal hbr
      go_wp2
      go_loopw [8] (fun c wr => ∃ k : Nat, k ≤ nb ∧ c = .int .i64 k ∧ (∀ u, u < k → meet ((a, b), d) (B.getD u default) = false) ∧ Below w2.heap.size w2 wr) (fun c _ => nb - (intOf c).toNat)
      case atStart => exact ⟨0, by omega, rfl, fun u hu => absurd hu (by omega), unhide HBR⟩
      case round =>
        obtain ⟨k, hk, rfl, hbl, hbk⟩ := hrel
        by_cases hlk : k < nb
        · have hll := unhide HNB
          obtain ⟨gb, ob, hbo, gj⟩ := lock_cells ((unhide HSB) wr hbk) rfl (show k < B.length by omega)
          clear gj
          subst hbo
          obtain ⟨⟨⟨x0, x1⟩, x2⟩, hy⟩ : ∃ kk, B.getD k default = kk := ⟨_, rfl⟩
          have HCB : Hid (∀ z, Below w2.heap.size w2 z → z.cell? ⟨gb, ob + k * 3, none⟩ = some (.int .i32 x0) ∧ z.cell? ⟨gb, ob + k * 3 + 1, none⟩ = some (.int .i64 x1) ∧ z.cell? ⟨gb, ob + k * 3 + 2, none⟩ = some (.bool x2)) := fun z hz => by
            obtain ⟨g, o, e, h1, h2, h3⟩ := lock_cells ((unhide HSB) z hz) rfl (show k < B.length by omega)
            simp only [Option.some.injEq, Addr.mk.injEq, and_true] at e
            obtain ⟨rfl, rfl⟩ := e
            rw [hy] at h1 h2 h3
            exact ⟨h1, h2, h3⟩
          have hmB : ((x0, x1), x2) ∈ B := hy ▸ getD_mem' (by omega)
          have HYS : Hid (meet ((a, b), d) ((x0, x1), x2) = true → rcl A B = true) := fun h => List.any_eq_true.2 ⟨_, unhide HMA, List.any_eq_true.2 ⟨_, hmB, h⟩⟩
          have HNO : Hid (meet ((a, b), d) ((x0, x1), x2) = false → ∀ u, u < k + 1 → meet ((a, b), d) (B.getD u default) = false) := fun h u hu => by
            by_cases e : u = k
            · rw [e, hy]; exact h
            · exact hbl u (by omega)
          have HBK := hide hbk
          have hltk : (k : Int) < (nb : Int) := by omega
          clear hll hy hmB hbl hbk
          go_wp2
          have t3 : Below w2.heap.size w2 wr.drew := (unhide HBK).drew
          by_cases he : (a, b) = (x0, x1)
          · have hE : ∀ z, (binOp .eql 37 (.agg #[.int .i32 a, .int .i64 b]) (.agg #[.int .i32 x0, .int .i64 x1])).run Try.prog z = .ok (.bool true) z := fun z => by have := eql_key a b x0 x1 z; rw [decide_eq_true he] at this; exact this
            have HE := hide he
            clear he
            cases d with
            | true =>
              refine wp_region_held_drew (S := fun x => Below w2.heap.size w2 x) (by kernel_rfl) t3 (fun hHeld => ?_)
              refine wpAnyH_take (i := 0) (v := ?v5x0) rfl (by kernel_rfl) (by kernel_rfl) (by kernel_rfl) (fun _ _ _ h => h) (Or.inl ⟨by rfl, ?hy5x0⟩) (by assumption) ?rest5x0
              case hy5x0 => intro w hSw; go_simp <;> with_reducible rfl
              simp only [Act.put, List.getElem_toArray, List.getElem_cons_zero, List.setIfInBounds_toArray, List.set_cons_zero, List.set_cons_succ]
              refine wpAnyH_take (i := 1) (v := ?v6x1) rfl (by kernel_rfl) (by kernel_rfl) (by kernel_rfl) (fun _ _ _ h => h) (Or.inl ⟨by rfl, ?hy6x1⟩) (by assumption) ?rest6x1
              case hy6x1 => intro w hSw; go_simp <;> with_reducible rfl
              simp only [Act.put, List.getElem_toArray, List.getElem_cons_zero, List.getElem_cons_succ, List.setIfInBounds_toArray, List.set_cons_zero, List.set_cons_succ]
              refine wpAnyH_take (i := 2) (v := ?v7x2) rfl (by kernel_rfl) (by kernel_rfl) (by kernel_rfl) (fun _ _ _ h => h) (Or.inl ⟨by rfl, ?hy7x2⟩) (by assumption) ?rest7x2
              case hy7x2 => intro w hSw; go_simp <;> with_reducible rfl
              simp only [Act.put, List.getElem_toArray, List.getElem_cons_zero, List.getElem_cons_succ, List.setIfInBounds_toArray, List.set_cons_zero, List.set_cons_succ]
              refine wpAnyH_take (i := 3) (v := ?v8x3) rfl (by kernel_rfl) (by kernel_rfl) (by kernel_rfl) (fun _ _ _ h => h) (Or.inl ⟨by rfl, ?hy8x3⟩) (by assumption) ?rest8x3
              case hy8x3 => intro w hSw; go_simp <;> with_reducible rfl
              simp only [Act.put, List.getElem_toArray, List.getElem_cons_zero, List.getElem_cons_succ, List.setIfInBounds_toArray, List.set_cons_zero, List.set_cons_succ]
              refine wpAnyH_take (i := 4) (v := (.agg #[.int .i32 a, .int .i64 b])) rfl (by kernel_rfl) (by kernel_rfl) (by kernel_rfl) (fun _ _ _ h => h) (Or.inl ⟨by rfl, ?hy9x4⟩) (by assumption) ?rest9x4
              case hy9x4 => intro w hSw; obtain ⟨a1, a2, a3⟩ := (unhide HCA) _ hSw; go_simp <;> with_reducible rfl
              simp only [Act.put, List.getElem_toArray, List.getElem_cons_zero, List.getElem_cons_succ, List.setIfInBounds_toArray, List.set_cons_zero, List.set_cons_succ]
              refine wpAnyH_take (i := 5) (v := ?v10x5) rfl (by kernel_rfl) (by kernel_rfl) (by kernel_rfl) (fun _ _ _ h => h) (Or.inl ⟨by rfl, ?hy10x5⟩) (by assumption) ?rest10x5
              case hy10x5 => intro w hSw; go_simp <;> with_reducible rfl
              simp only [Act.put, List.getElem_toArray, List.getElem_cons_zero, List.getElem_cons_succ, List.setIfInBounds_toArray, List.set_cons_zero, List.set_cons_succ]
              refine wpAnyH_take (i := 6) (v := ?v11x6) rfl (by kernel_rfl) (by kernel_rfl) (by kernel_rfl) (fun _ _ _ h => h) (Or.inl ⟨by rfl, ?hy11x6⟩) (by assumption) ?rest11x6
              case hy11x6 => intro w hSw; go_simp <;> with_reducible rfl
              simp only [Act.put, List.getElem_toArray, List.getElem_cons_zero, List.getElem_cons_succ, List.setIfInBounds_toArray, List.set_cons_zero, List.set_cons_succ]
              refine wpAnyH_take (i := 7) (v := ?v12x7) rfl (by kernel_rfl) (by kernel_rfl) (by kernel_rfl) (fun _ _ _ h => h) (Or.inl ⟨by rfl, ?hy12x7⟩) (by assumption) ?rest12x7
              case hy12x7 => intro w hSw; go_simp <;> with_reducible rfl
              simp only [Act.put, List.getElem_toArray, List.getElem_cons_zero, List.getElem_cons_succ, List.setIfInBounds_toArray, List.set_cons_zero, List.set_cons_succ]
              refine wpAnyH_take (i := 8) (v := ?v13x8) rfl (by kernel_rfl) (by kernel_rfl) (by kernel_rfl) (fun _ _ _ h => h) (Or.inl ⟨by rfl, ?hy13x8⟩) (by assumption) ?rest13x8
              case hy13x8 => intro w hSw; go_simp <;> with_reducible rfl
              simp only [Act.put, List.getElem_toArray, List.getElem_cons_zero, List.getElem_cons_succ, List.setIfInBounds_toArray, List.set_cons_zero, List.set_cons_succ]
              refine wpAnyH_take (i := 9) (v := (.agg #[.int .i32 x0, .int .i64 x1])) rfl (by kernel_rfl) (by kernel_rfl) (by kernel_rfl) (fun _ _ _ h => h) (Or.inl ⟨by rfl, ?hy14x9⟩) (by assumption) ?rest14x9
              case hy14x9 => intro w hSw; obtain ⟨b1, b2, b3⟩ := (unhide HCB) _ hSw; go_simp <;> with_reducible rfl
              simp only [Act.put, List.getElem_toArray, List.getElem_cons_zero, List.getElem_cons_succ, List.setIfInBounds_toArray, List.set_cons_zero, List.set_cons_succ]
              refine wpAnyH_take (i := 10) (v := (.bool true)) rfl (by kernel_rfl) (by kernel_rfl) (by kernel_rfl) (fun _ _ _ h => h) (Or.inl ⟨by rfl, ?hy15x10⟩) (by assumption) ?rest15x10
              case hy15x10 => intro w hSw; skip; go_simp <;> with_reducible rfl
              simp only [Act.put, List.getElem_toArray, List.getElem_cons_zero, List.getElem_cons_succ, List.setIfInBounds_toArray, List.set_cons_zero, List.set_cons_succ]
              refine wpAnyH_take (i := 11) (v := ?v16x11) rfl (by kernel_rfl) (by kernel_rfl) (by kernel_rfl) (fun _ _ _ h => h) (Or.inl ⟨by rfl, ?hy16x11⟩) (by assumption) ?rest16x11
              case hy16x11 => intro w hSw; go_simp <;> with_reducible rfl
              simp only [Act.put, List.getElem_toArray, List.getElem_cons_zero, List.getElem_cons_succ, List.setIfInBounds_toArray, List.set_cons_zero, List.set_cons_succ]
              refine wpAnyH_take (i := 12) (v := ?v17x12) rfl (by kernel_rfl) (by kernel_rfl) (by kernel_rfl) (fun _ _ _ h => h) (Or.inl ⟨by rfl, ?hy17x12⟩) (by assumption) ?rest17x12
              case hy17x12 => intro w hSw; go_simp <;> with_reducible rfl
              simp only [Act.put, List.getElem_toArray, List.getElem_cons_zero, List.getElem_cons_succ, List.setIfInBounds_toArray, List.set_cons_zero, List.set_cons_succ]
              refine wpAnyH_take (i := 13) (v := ?v18x13) rfl (by kernel_rfl) (by kernel_rfl) (by kernel_rfl) (fun _ _ _ h => h) (Or.inl ⟨by rfl, ?hy18x13⟩) (by assumption) ?rest18x13
              case hy18x13 => intro w hSw; go_simp <;> with_reducible rfl
              simp only [Act.put, List.getElem_toArray, List.getElem_cons_zero, List.getElem_cons_succ, List.setIfInBounds_toArray, List.set_cons_zero, List.set_cons_succ]
              refine wpAnyH_take (i := 14) (v := ?v19x14) rfl (by kernel_rfl) (by kernel_rfl) (by kernel_rfl) (fun _ _ _ h => h) (Or.inl ⟨by rfl, ?hy19x14⟩) (by assumption) ?rest19x14
              case hy19x14 => intro w hSw; go_simp <;> with_reducible rfl
              simp only [Act.put, List.getElem_toArray, List.getElem_cons_zero, List.getElem_cons_succ, List.setIfInBounds_toArray, List.set_cons_zero, List.set_cons_succ]
              refine wpAnyH_take (i := 15) (v := ?v20x15) rfl (by kernel_rfl) (by kernel_rfl) (by kernel_rfl) (fun _ _ _ h => h) (Or.inl ⟨by rfl, ?hy20x15⟩) (by assumption) ?rest20x15
              case hy20x15 => intro w hSw; go_simp <;> with_reducible rfl
              simp only [Act.put, List.getElem_toArray, List.getElem_cons_zero, List.getElem_cons_succ, List.setIfInBounds_toArray, List.set_cons_zero, List.set_cons_succ]
              refine wpAnyH_take (i := 16) (v := (.bool true)) rfl (by kernel_rfl) (by kernel_rfl) (by kernel_rfl) (fun _ _ _ h => h) (Or.inl ⟨by rfl, ?hy21x16⟩) (by assumption) ?rest21x16
              case hy21x16 => intro w hSw; obtain ⟨a1, a2, a3⟩ := (unhide HCA) _ hSw; go_simp <;> with_reducible rfl
              simp only [Act.put, List.getElem_toArray, List.getElem_cons_zero, List.getElem_cons_succ, List.setIfInBounds_toArray, List.set_cons_zero, List.set_cons_succ]
              refine wpAnyH_take (i := 17) (v := ?v22x17) rfl (by kernel_rfl) (by kernel_rfl) (by kernel_rfl) (fun _ _ _ h => h) (Or.inl ⟨by rfl, ?hy22x17⟩) (by assumption) ?rest22x17
              case hy22x17 => intro w hSw; go_simp <;> with_reducible rfl
              simp only [Act.put, List.getElem_toArray, List.getElem_cons_zero, List.getElem_cons_succ, List.setIfInBounds_toArray, List.set_cons_zero, List.set_cons_succ]
              refine wpAnyH_take (i := 18) (v := undef) rfl (by kernel_rfl) (by kernel_rfl) (by kernel_rfl) (fun _ _ _ h => h) (Or.inr ⟨by rfl, rfl⟩) (by assumption) ?_
              simp only [Act.put, List.getElem_toArray, List.getElem_cons_zero, List.getElem_cons_succ, List.setIfInBounds_toArray, List.set_cons_zero, List.set_cons_succ]
              refine wpAnyH_take (i := 19) (v := undef) rfl (by kernel_rfl) (by kernel_rfl) (by kernel_rfl) (fun _ _ _ h => h) (Or.inr ⟨by rfl, rfl⟩) (by assumption) ?_
              simp only [Act.put, List.getElem_toArray, List.getElem_cons_zero, List.getElem_cons_succ, List.setIfInBounds_toArray, List.set_cons_zero, List.set_cons_succ]
              refine wpAnyH_take (i := 20) (v := undef) rfl (by kernel_rfl) (by kernel_rfl) (by kernel_rfl) (fun _ _ _ h => h) (Or.inr ⟨by rfl, rfl⟩) (by assumption) ?_
              simp only [Act.put, List.getElem_toArray, List.getElem_cons_zero, List.getElem_cons_succ, List.setIfInBounds_toArray, List.set_cons_zero, List.set_cons_succ]
              refine wpAnyH_take (i := 21) (v := undef) rfl (by kernel_rfl) (by kernel_rfl) (by kernel_rfl) (fun _ _ _ h => h) (Or.inr ⟨by rfl, rfl⟩) (by assumption) ?_
              simp only [Act.put, List.getElem_toArray, List.getElem_cons_zero, List.getElem_cons_succ, List.setIfInBounds_toArray, List.set_cons_zero, List.set_cons_succ]
              refine wpAnyH_take (i := 22) (v := undef) rfl (by kernel_rfl) (by kernel_rfl) (by kernel_rfl) (fun _ _ _ h => h) (Or.inr ⟨by rfl, rfl⟩) (by assumption) ?_
              simp only [Act.put, List.getElem_toArray, List.getElem_cons_zero, List.getElem_cons_succ, List.setIfInBounds_toArray, List.set_cons_zero, List.set_cons_succ]
              refine wpAnyH_take (i := 23) (v := ?v28x23) rfl (by kernel_rfl) (by kernel_rfl) (by kernel_rfl) (fun _ _ _ h => h) (Or.inl ⟨by rfl, ?hy28x23⟩) (by assumption) ?rest28x23
              case hy28x23 => intro w hSw; go_simp <;> with_reducible rfl
              simp only [Act.put, List.getElem_toArray, List.getElem_cons_zero, List.getElem_cons_succ, List.setIfInBounds_toArray, List.set_cons_zero, List.set_cons_succ]
              refine wpAnyH_take (i := 24) (v := ?v29x24) rfl (by kernel_rfl) (by kernel_rfl) (by kernel_rfl) (fun _ _ _ h => h) (Or.inl ⟨by rfl, ?hy29x24⟩) (by assumption) ?rest29x24
              case hy29x24 => intro w hSw; go_simp <;> with_reducible rfl
              simp only [Act.put, List.getElem_toArray, List.getElem_cons_zero, List.getElem_cons_succ, List.setIfInBounds_toArray, List.set_cons_zero, List.set_cons_succ]
              refine wpAnyH_done (by kernel_rfl) ?_ _
              clear hHeld
              have HY := hide ((unhide HYS) (by unfold meet; rw [decide_eq_true (unhide HE)]; rfl))
              go_wp2
              go_ret
              exact ⟨by rw [unhide HY]; rfl, (unhide HBW).trans (t3.mono (unhide HBW).size)⟩
            | false =>
              cases x2 with
              | true =>
                refine wp_region_held_drew (S := fun x => Below w2.heap.size w2 x) (by kernel_rfl) t3 (fun hHeld => ?_)
                refine wpAnyH_take (i := 0) (v := ?v30x0) rfl (by kernel_rfl) (by kernel_rfl) (by kernel_rfl) (fun _ _ _ h => h) (Or.inl ⟨by rfl, ?hy30x0⟩) (by assumption) ?rest30x0
                case hy30x0 => intro w hSw; go_simp <;> with_reducible rfl
                simp only [Act.put, List.getElem_toArray, List.getElem_cons_zero, List.setIfInBounds_toArray, List.set_cons_zero, List.set_cons_succ]
                refine wpAnyH_take (i := 1) (v := ?v31x1) rfl (by kernel_rfl) (by kernel_rfl) (by kernel_rfl) (fun _ _ _ h => h) (Or.inl ⟨by rfl, ?hy31x1⟩) (by assumption) ?rest31x1
                case hy31x1 => intro w hSw; go_simp <;> with_reducible rfl
                simp only [Act.put, List.getElem_toArray, List.getElem_cons_zero, List.getElem_cons_succ, List.setIfInBounds_toArray, List.set_cons_zero, List.set_cons_succ]
                refine wpAnyH_take (i := 2) (v := ?v32x2) rfl (by kernel_rfl) (by kernel_rfl) (by kernel_rfl) (fun _ _ _ h => h) (Or.inl ⟨by rfl, ?hy32x2⟩) (by assumption) ?rest32x2
                case hy32x2 => intro w hSw; go_simp <;> with_reducible rfl
                simp only [Act.put, List.getElem_toArray, List.getElem_cons_zero, List.getElem_cons_succ, List.setIfInBounds_toArray, List.set_cons_zero, List.set_cons_succ]
                refine wpAnyH_take (i := 3) (v := ?v33x3) rfl (by kernel_rfl) (by kernel_rfl) (by kernel_rfl) (fun _ _ _ h => h) (Or.inl ⟨by rfl, ?hy33x3⟩) (by assumption) ?rest33x3
                case hy33x3 => intro w hSw; go_simp <;> with_reducible rfl
                simp only [Act.put, List.getElem_toArray, List.getElem_cons_zero, List.getElem_cons_succ, List.setIfInBounds_toArray, List.set_cons_zero, List.set_cons_succ]
                refine wpAnyH_take (i := 4) (v := (.agg #[.int .i32 a, .int .i64 b])) rfl (by kernel_rfl) (by kernel_rfl) (by kernel_rfl) (fun _ _ _ h => h) (Or.inl ⟨by rfl, ?hy34x4⟩) (by assumption) ?rest34x4
                case hy34x4 => intro w hSw; obtain ⟨a1, a2, a3⟩ := (unhide HCA) _ hSw; go_simp <;> with_reducible rfl
                simp only [Act.put, List.getElem_toArray, List.getElem_cons_zero, List.getElem_cons_succ, List.setIfInBounds_toArray, List.set_cons_zero, List.set_cons_succ]
                refine wpAnyH_take (i := 5) (v := ?v35x5) rfl (by kernel_rfl) (by kernel_rfl) (by kernel_rfl) (fun _ _ _ h => h) (Or.inl ⟨by rfl, ?hy35x5⟩) (by assumption) ?rest35x5
                case hy35x5 => intro w hSw; go_simp <;> with_reducible rfl
                simp only [Act.put, List.getElem_toArray, List.getElem_cons_zero, List.getElem_cons_succ, List.setIfInBounds_toArray, List.set_cons_zero, List.set_cons_succ]
                refine wpAnyH_take (i := 6) (v := ?v36x6) rfl (by kernel_rfl) (by kernel_rfl) (by kernel_rfl) (fun _ _ _ h => h) (Or.inl ⟨by rfl, ?hy36x6⟩) (by assumption) ?rest36x6
                case hy36x6 => intro w hSw; go_simp <;> with_reducible rfl
                simp only [Act.put, List.getElem_toArray, List.getElem_cons_zero, List.getElem_cons_succ, List.setIfInBounds_toArray, List.set_cons_zero, List.set_cons_succ]
                refine wpAnyH_take (i := 7) (v := ?v37x7) rfl (by kernel_rfl) (by kernel_rfl) (by kernel_rfl) (fun _ _ _ h => h) (Or.inl ⟨by rfl, ?hy37x7⟩) (by assumption) ?rest37x7
                case hy37x7 => intro w hSw; go_simp <;> with_reducible rfl
                simp only [Act.put, List.getElem_toArray, List.getElem_cons_zero, List.getElem_cons_succ, List.setIfInBounds_toArray, List.set_cons_zero, List.set_cons_succ]
                refine wpAnyH_take (i := 8) (v := ?v38x8) rfl (by kernel_rfl) (by kernel_rfl) (by kernel_rfl) (fun _ _ _ h => h) (Or.inl ⟨by rfl, ?hy38x8⟩) (by assumption) ?rest38x8
                case hy38x8 => intro w hSw; go_simp <;> with_reducible rfl
                simp only [Act.put, List.getElem_toArray, List.getElem_cons_zero, List.getElem_cons_succ, List.setIfInBounds_toArray, List.set_cons_zero, List.set_cons_succ]
                refine wpAnyH_take (i := 9) (v := (.agg #[.int .i32 x0, .int .i64 x1])) rfl (by kernel_rfl) (by kernel_rfl) (by kernel_rfl) (fun _ _ _ h => h) (Or.inl ⟨by rfl, ?hy39x9⟩) (by assumption) ?rest39x9
                case hy39x9 => intro w hSw; obtain ⟨b1, b2, b3⟩ := (unhide HCB) _ hSw; go_simp <;> with_reducible rfl
                simp only [Act.put, List.getElem_toArray, List.getElem_cons_zero, List.getElem_cons_succ, List.setIfInBounds_toArray, List.set_cons_zero, List.set_cons_succ]
                refine wpAnyH_take (i := 10) (v := (.bool true)) rfl (by kernel_rfl) (by kernel_rfl) (by kernel_rfl) (fun _ _ _ h => h) (Or.inl ⟨by rfl, ?hy40x10⟩) (by assumption) ?rest40x10
                case hy40x10 => intro w hSw; skip; go_simp <;> with_reducible rfl
                simp only [Act.put, List.getElem_toArray, List.getElem_cons_zero, List.getElem_cons_succ, List.setIfInBounds_toArray, List.set_cons_zero, List.set_cons_succ]
                refine wpAnyH_take (i := 11) (v := ?v41x11) rfl (by kernel_rfl) (by kernel_rfl) (by kernel_rfl) (fun _ _ _ h => h) (Or.inl ⟨by rfl, ?hy41x11⟩) (by assumption) ?rest41x11
                case hy41x11 => intro w hSw; go_simp <;> with_reducible rfl
                simp only [Act.put, List.getElem_toArray, List.getElem_cons_zero, List.getElem_cons_succ, List.setIfInBounds_toArray, List.set_cons_zero, List.set_cons_succ]
                refine wpAnyH_take (i := 12) (v := ?v42x12) rfl (by kernel_rfl) (by kernel_rfl) (by kernel_rfl) (fun _ _ _ h => h) (Or.inl ⟨by rfl, ?hy42x12⟩) (by assumption) ?rest42x12
                case hy42x12 => intro w hSw; go_simp <;> with_reducible rfl
                simp only [Act.put, List.getElem_toArray, List.getElem_cons_zero, List.getElem_cons_succ, List.setIfInBounds_toArray, List.set_cons_zero, List.set_cons_succ]
                refine wpAnyH_take (i := 13) (v := ?v43x13) rfl (by kernel_rfl) (by kernel_rfl) (by kernel_rfl) (fun _ _ _ h => h) (Or.inl ⟨by rfl, ?hy43x13⟩) (by assumption) ?rest43x13
                case hy43x13 => intro w hSw; go_simp <;> with_reducible rfl
                simp only [Act.put, List.getElem_toArray, List.getElem_cons_zero, List.getElem_cons_succ, List.setIfInBounds_toArray, List.set_cons_zero, List.set_cons_succ]
                refine wpAnyH_take (i := 14) (v := ?v44x14) rfl (by kernel_rfl) (by kernel_rfl) (by kernel_rfl) (fun _ _ _ h => h) (Or.inl ⟨by rfl, ?hy44x14⟩) (by assumption) ?rest44x14
                case hy44x14 => intro w hSw; go_simp <;> with_reducible rfl
                simp only [Act.put, List.getElem_toArray, List.getElem_cons_zero, List.getElem_cons_succ, List.setIfInBounds_toArray, List.set_cons_zero, List.set_cons_succ]
                refine wpAnyH_take (i := 15) (v := ?v45x15) rfl (by kernel_rfl) (by kernel_rfl) (by kernel_rfl) (fun _ _ _ h => h) (Or.inl ⟨by rfl, ?hy45x15⟩) (by assumption) ?rest45x15
                case hy45x15 => intro w hSw; go_simp <;> with_reducible rfl
                simp only [Act.put, List.getElem_toArray, List.getElem_cons_zero, List.getElem_cons_succ, List.setIfInBounds_toArray, List.set_cons_zero, List.set_cons_succ]
                refine wpAnyH_take (i := 16) (v := (.bool false)) rfl (by kernel_rfl) (by kernel_rfl) (by kernel_rfl) (fun _ _ _ h => h) (Or.inl ⟨by rfl, ?hy46x16⟩) (by assumption) ?rest46x16
                case hy46x16 => intro w hSw; obtain ⟨a1, a2, a3⟩ := (unhide HCA) _ hSw; go_simp <;> with_reducible rfl
                simp only [Act.put, List.getElem_toArray, List.getElem_cons_zero, List.getElem_cons_succ, List.setIfInBounds_toArray, List.set_cons_zero, List.set_cons_succ]
                refine wpAnyH_take (i := 17) (v := ?v47x17) rfl (by kernel_rfl) (by kernel_rfl) (by kernel_rfl) (fun _ _ _ h => h) (Or.inl ⟨by rfl, ?hy47x17⟩) (by assumption) ?rest47x17
                case hy47x17 => intro w hSw; go_simp <;> with_reducible rfl
                simp only [Act.put, List.getElem_toArray, List.getElem_cons_zero, List.getElem_cons_succ, List.setIfInBounds_toArray, List.set_cons_zero, List.set_cons_succ]
                refine wpAnyH_take (i := 18) (v := ?v48x18) rfl (by kernel_rfl) (by kernel_rfl) (by kernel_rfl) (fun _ _ _ h => h) (Or.inl ⟨by rfl, ?hy48x18⟩) (by assumption) ?rest48x18
                case hy48x18 => intro w hSw; go_simp <;> with_reducible rfl
                simp only [Act.put, List.getElem_toArray, List.getElem_cons_zero, List.getElem_cons_succ, List.setIfInBounds_toArray, List.set_cons_zero, List.set_cons_succ]
                refine wpAnyH_take (i := 19) (v := ?v49x19) rfl (by kernel_rfl) (by kernel_rfl) (by kernel_rfl) (fun _ _ _ h => h) (Or.inl ⟨by rfl, ?hy49x19⟩) (by assumption) ?rest49x19
                case hy49x19 => intro w hSw; go_simp <;> with_reducible rfl
                simp only [Act.put, List.getElem_toArray, List.getElem_cons_zero, List.getElem_cons_succ, List.setIfInBounds_toArray, List.set_cons_zero, List.set_cons_succ]
                refine wpAnyH_take (i := 20) (v := ?v50x20) rfl (by kernel_rfl) (by kernel_rfl) (by kernel_rfl) (fun _ _ _ h => h) (Or.inl ⟨by rfl, ?hy50x20⟩) (by assumption) ?rest50x20
                case hy50x20 => intro w hSw; go_simp <;> with_reducible rfl
                simp only [Act.put, List.getElem_toArray, List.getElem_cons_zero, List.getElem_cons_succ, List.setIfInBounds_toArray, List.set_cons_zero, List.set_cons_succ]
                refine wpAnyH_take (i := 21) (v := ?v51x21) rfl (by kernel_rfl) (by kernel_rfl) (by kernel_rfl) (fun _ _ _ h => h) (Or.inl ⟨by rfl, ?hy51x21⟩) (by assumption) ?rest51x21
                case hy51x21 => intro w hSw; go_simp <;> with_reducible rfl
                simp only [Act.put, List.getElem_toArray, List.getElem_cons_zero, List.getElem_cons_succ, List.setIfInBounds_toArray, List.set_cons_zero, List.set_cons_succ]
                refine wpAnyH_take (i := 22) (v := (.bool true)) rfl (by kernel_rfl) (by kernel_rfl) (by kernel_rfl) (fun _ _ _ h => h) (Or.inl ⟨by rfl, ?hy52x22⟩) (by assumption) ?rest52x22
                case hy52x22 => intro w hSw; obtain ⟨b1, b2, b3⟩ := (unhide HCB) _ hSw; go_simp <;> with_reducible rfl
                simp only [Act.put, List.getElem_toArray, List.getElem_cons_zero, List.getElem_cons_succ, List.setIfInBounds_toArray, List.set_cons_zero, List.set_cons_succ]
                refine wpAnyH_take (i := 23) (v := ?v53x23) rfl (by kernel_rfl) (by kernel_rfl) (by kernel_rfl) (fun _ _ _ h => h) (Or.inl ⟨by rfl, ?hy53x23⟩) (by assumption) ?rest53x23
                case hy53x23 => intro w hSw; go_simp <;> with_reducible rfl
                simp only [Act.put, List.getElem_toArray, List.getElem_cons_zero, List.getElem_cons_succ, List.setIfInBounds_toArray, List.set_cons_zero, List.set_cons_succ]
                refine wpAnyH_take (i := 24) (v := ?v54x24) rfl (by kernel_rfl) (by kernel_rfl) (by kernel_rfl) (fun _ _ _ h => h) (Or.inl ⟨by rfl, ?hy54x24⟩) (by assumption) ?rest54x24
                case hy54x24 => intro w hSw; go_simp <;> with_reducible rfl
                simp only [Act.put, List.getElem_toArray, List.getElem_cons_zero, List.getElem_cons_succ, List.setIfInBounds_toArray, List.set_cons_zero, List.set_cons_succ]
                refine wpAnyH_done (by kernel_rfl) ?_ _
                clear hHeld
                have HY := hide ((unhide HYS) (by unfold meet; rw [decide_eq_true (unhide HE)]; rfl))
                go_wp2
                go_ret
                exact ⟨by rw [unhide HY]; rfl, (unhide HBW).trans (t3.mono (unhide HBW).size)⟩
              | false =>
                refine wp_region_held_drew (S := fun x => Below w2.heap.size w2 x) (by kernel_rfl) t3 (fun hHeld => ?_)
                refine wpAnyH_take (i := 0) (v := ?v55x0) rfl (by kernel_rfl) (by kernel_rfl) (by kernel_rfl) (fun _ _ _ h => h) (Or.inl ⟨by rfl, ?hy55x0⟩) (by assumption) ?rest55x0
                case hy55x0 => intro w hSw; go_simp <;> with_reducible rfl
                simp only [Act.put, List.getElem_toArray, List.getElem_cons_zero, List.setIfInBounds_toArray, List.set_cons_zero, List.set_cons_succ]
                refine wpAnyH_take (i := 1) (v := ?v56x1) rfl (by kernel_rfl) (by kernel_rfl) (by kernel_rfl) (fun _ _ _ h => h) (Or.inl ⟨by rfl, ?hy56x1⟩) (by assumption) ?rest56x1
                case hy56x1 => intro w hSw; go_simp <;> with_reducible rfl
                simp only [Act.put, List.getElem_toArray, List.getElem_cons_zero, List.getElem_cons_succ, List.setIfInBounds_toArray, List.set_cons_zero, List.set_cons_succ]
                refine wpAnyH_take (i := 2) (v := ?v57x2) rfl (by kernel_rfl) (by kernel_rfl) (by kernel_rfl) (fun _ _ _ h => h) (Or.inl ⟨by rfl, ?hy57x2⟩) (by assumption) ?rest57x2
                case hy57x2 => intro w hSw; go_simp <;> with_reducible rfl
                simp only [Act.put, List.getElem_toArray, List.getElem_cons_zero, List.getElem_cons_succ, List.setIfInBounds_toArray, List.set_cons_zero, List.set_cons_succ]
                refine wpAnyH_take (i := 3) (v := ?v58x3) rfl (by kernel_rfl) (by kernel_rfl) (by kernel_rfl) (fun _ _ _ h => h) (Or.inl ⟨by rfl, ?hy58x3⟩) (by assumption) ?rest58x3
                case hy58x3 => intro w hSw; go_simp <;> with_reducible rfl
                simp only [Act.put, List.getElem_toArray, List.getElem_cons_zero, List.getElem_cons_succ, List.setIfInBounds_toArray, List.set_cons_zero, List.set_cons_succ]
                refine wpAnyH_take (i := 4) (v := (.agg #[.int .i32 a, .int .i64 b])) rfl (by kernel_rfl) (by kernel_rfl) (by kernel_rfl) (fun _ _ _ h => h) (Or.inl ⟨by rfl, ?hy59x4⟩) (by assumption) ?rest59x4
                case hy59x4 => intro w hSw; obtain ⟨a1, a2, a3⟩ := (unhide HCA) _ hSw; go_simp <;> with_reducible rfl
                simp only [Act.put, List.getElem_toArray, List.getElem_cons_zero, List.getElem_cons_succ, List.setIfInBounds_toArray, List.set_cons_zero, List.set_cons_succ]
                refine wpAnyH_take (i := 5) (v := ?v60x5) rfl (by kernel_rfl) (by kernel_rfl) (by kernel_rfl) (fun _ _ _ h => h) (Or.inl ⟨by rfl, ?hy60x5⟩) (by assumption) ?rest60x5
                case hy60x5 => intro w hSw; go_simp <;> with_reducible rfl
                simp only [Act.put, List.getElem_toArray, List.getElem_cons_zero, List.getElem_cons_succ, List.setIfInBounds_toArray, List.set_cons_zero, List.set_cons_succ]
                refine wpAnyH_take (i := 6) (v := ?v61x6) rfl (by kernel_rfl) (by kernel_rfl) (by kernel_rfl) (fun _ _ _ h => h) (Or.inl ⟨by rfl, ?hy61x6⟩) (by assumption) ?rest61x6
                case hy61x6 => intro w hSw; go_simp <;> with_reducible rfl
                simp only [Act.put, List.getElem_toArray, List.getElem_cons_zero, List.getElem_cons_succ, List.setIfInBounds_toArray, List.set_cons_zero, List.set_cons_succ]
                refine wpAnyH_take (i := 7) (v := ?v62x7) rfl (by kernel_rfl) (by kernel_rfl) (by kernel_rfl) (fun _ _ _ h => h) (Or.inl ⟨by rfl, ?hy62x7⟩) (by assumption) ?rest62x7
                case hy62x7 => intro w hSw; go_simp <;> with_reducible rfl
                simp only [Act.put, List.getElem_toArray, List.getElem_cons_zero, List.getElem_cons_succ, List.setIfInBounds_toArray, List.set_cons_zero, List.set_cons_succ]
                refine wpAnyH_take (i := 8) (v := ?v63x8) rfl (by kernel_rfl) (by kernel_rfl) (by kernel_rfl) (fun _ _ _ h => h) (Or.inl ⟨by rfl, ?hy63x8⟩) (by assumption) ?rest63x8
                case hy63x8 => intro w hSw; go_simp <;> with_reducible rfl
                simp only [Act.put, List.getElem_toArray, List.getElem_cons_zero, List.getElem_cons_succ, List.setIfInBounds_toArray, List.set_cons_zero, List.set_cons_succ]
                refine wpAnyH_take (i := 9) (v := (.agg #[.int .i32 x0, .int .i64 x1])) rfl (by kernel_rfl) (by kernel_rfl) (by kernel_rfl) (fun _ _ _ h => h) (Or.inl ⟨by rfl, ?hy64x9⟩) (by assumption) ?rest64x9
                case hy64x9 => intro w hSw; obtain ⟨b1, b2, b3⟩ := (unhide HCB) _ hSw; go_simp <;> with_reducible rfl
                simp only [Act.put, List.getElem_toArray, List.getElem_cons_zero, List.getElem_cons_succ, List.setIfInBounds_toArray, List.set_cons_zero, List.set_cons_succ]
                refine wpAnyH_take (i := 10) (v := (.bool true)) rfl (by kernel_rfl) (by kernel_rfl) (by kernel_rfl) (fun _ _ _ h => h) (Or.inl ⟨by rfl, ?hy65x10⟩) (by assumption) ?rest65x10
                case hy65x10 => intro w hSw; skip; go_simp <;> with_reducible rfl
                simp only [Act.put, List.getElem_toArray, List.getElem_cons_zero, List.getElem_cons_succ, List.setIfInBounds_toArray, List.set_cons_zero, List.set_cons_succ]
                refine wpAnyH_take (i := 11) (v := ?v66x11) rfl (by kernel_rfl) (by kernel_rfl) (by kernel_rfl) (fun _ _ _ h => h) (Or.inl ⟨by rfl, ?hy66x11⟩) (by assumption) ?rest66x11
                case hy66x11 => intro w hSw; go_simp <;> with_reducible rfl
                simp only [Act.put, List.getElem_toArray, List.getElem_cons_zero, List.getElem_cons_succ, List.setIfInBounds_toArray, List.set_cons_zero, List.set_cons_succ]
                refine wpAnyH_take (i := 12) (v := ?v67x12) rfl (by kernel_rfl) (by kernel_rfl) (by kernel_rfl) (fun _ _ _ h => h) (Or.inl ⟨by rfl, ?hy67x12⟩) (by assumption) ?rest67x12
                case hy67x12 => intro w hSw; go_simp <;> with_reducible rfl
                simp only [Act.put, List.getElem_toArray, List.getElem_cons_zero, List.getElem_cons_succ, List.setIfInBounds_toArray, List.set_cons_zero, List.set_cons_succ]
                refine wpAnyH_take (i := 13) (v := ?v68x13) rfl (by kernel_rfl) (by kernel_rfl) (by kernel_rfl) (fun _ _ _ h => h) (Or.inl ⟨by rfl, ?hy68x13⟩) (by assumption) ?rest68x13
                case hy68x13 => intro w hSw; go_simp <;> with_reducible rfl
                simp only [Act.put, List.getElem_toArray, List.getElem_cons_zero, List.getElem_cons_succ, List.setIfInBounds_toArray, List.set_cons_zero, List.set_cons_succ]
                refine wpAnyH_take (i := 14) (v := ?v69x14) rfl (by kernel_rfl) (by kernel_rfl) (by kernel_rfl) (fun _ _ _ h => h) (Or.inl ⟨by rfl, ?hy69x14⟩) (by assumption) ?rest69x14
                case hy69x14 => intro w hSw; go_simp <;> with_reducible rfl
                simp only [Act.put, List.getElem_toArray, List.getElem_cons_zero, List.getElem_cons_succ, List.setIfInBounds_toArray, List.set_cons_zero, List.set_cons_succ]
                refine wpAnyH_take (i := 15) (v := ?v70x15) rfl (by kernel_rfl) (by kernel_rfl) (by kernel_rfl) (fun _ _ _ h => h) (Or.inl ⟨by rfl, ?hy70x15⟩) (by assumption) ?rest70x15
                case hy70x15 => intro w hSw; go_simp <;> with_reducible rfl
                simp only [Act.put, List.getElem_toArray, List.getElem_cons_zero, List.getElem_cons_succ, List.setIfInBounds_toArray, List.set_cons_zero, List.set_cons_succ]
                refine wpAnyH_take (i := 16) (v := (.bool false)) rfl (by kernel_rfl) (by kernel_rfl) (by kernel_rfl) (fun _ _ _ h => h) (Or.inl ⟨by rfl, ?hy71x16⟩) (by assumption) ?rest71x16
                case hy71x16 => intro w hSw; obtain ⟨a1, a2, a3⟩ := (unhide HCA) _ hSw; go_simp <;> with_reducible rfl
                simp only [Act.put, List.getElem_toArray, List.getElem_cons_zero, List.getElem_cons_succ, List.setIfInBounds_toArray, List.set_cons_zero, List.set_cons_succ]
                refine wpAnyH_take (i := 17) (v := ?v72x17) rfl (by kernel_rfl) (by kernel_rfl) (by kernel_rfl) (fun _ _ _ h => h) (Or.inl ⟨by rfl, ?hy72x17⟩) (by assumption) ?rest72x17
                case hy72x17 => intro w hSw; go_simp <;> with_reducible rfl
                simp only [Act.put, List.getElem_toArray, List.getElem_cons_zero, List.getElem_cons_succ, List.setIfInBounds_toArray, List.set_cons_zero, List.set_cons_succ]
                refine wpAnyH_take (i := 18) (v := ?v73x18) rfl (by kernel_rfl) (by kernel_rfl) (by kernel_rfl) (fun _ _ _ h => h) (Or.inl ⟨by rfl, ?hy73x18⟩) (by assumption) ?rest73x18
                case hy73x18 => intro w hSw; go_simp <;> with_reducible rfl
                simp only [Act.put, List.getElem_toArray, List.getElem_cons_zero, List.getElem_cons_succ, List.setIfInBounds_toArray, List.set_cons_zero, List.set_cons_succ]
                refine wpAnyH_take (i := 19) (v := ?v74x19) rfl (by kernel_rfl) (by kernel_rfl) (by kernel_rfl) (fun _ _ _ h => h) (Or.inl ⟨by rfl, ?hy74x19⟩) (by assumption) ?rest74x19
                case hy74x19 => intro w hSw; go_simp <;> with_reducible rfl
                simp only [Act.put, List.getElem_toArray, List.getElem_cons_zero, List.getElem_cons_succ, List.setIfInBounds_toArray, List.set_cons_zero, List.set_cons_succ]
                refine wpAnyH_take (i := 20) (v := ?v75x20) rfl (by kernel_rfl) (by kernel_rfl) (by kernel_rfl) (fun _ _ _ h => h) (Or.inl ⟨by rfl, ?hy75x20⟩) (by assumption) ?rest75x20
                case hy75x20 => intro w hSw; go_simp <;> with_reducible rfl
                simp only [Act.put, List.getElem_toArray, List.getElem_cons_zero, List.getElem_cons_succ, List.setIfInBounds_toArray, List.set_cons_zero, List.set_cons_succ]
                refine wpAnyH_take (i := 21) (v := ?v76x21) rfl (by kernel_rfl) (by kernel_rfl) (by kernel_rfl) (fun _ _ _ h => h) (Or.inl ⟨by rfl, ?hy76x21⟩) (by assumption) ?rest76x21
                case hy76x21 => intro w hSw; go_simp <;> with_reducible rfl
                simp only [Act.put, List.getElem_toArray, List.getElem_cons_zero, List.getElem_cons_succ, List.setIfInBounds_toArray, List.set_cons_zero, List.set_cons_succ]
                refine wpAnyH_take (i := 22) (v := (.bool false)) rfl (by kernel_rfl) (by kernel_rfl) (by kernel_rfl) (fun _ _ _ h => h) (Or.inl ⟨by rfl, ?hy77x22⟩) (by assumption) ?rest77x22
                case hy77x22 => intro w hSw; obtain ⟨b1, b2, b3⟩ := (unhide HCB) _ hSw; go_simp <;> with_reducible rfl
                simp only [Act.put, List.getElem_toArray, List.getElem_cons_zero, List.getElem_cons_succ, List.setIfInBounds_toArray, List.set_cons_zero, List.set_cons_succ]
                refine wpAnyH_take (i := 23) (v := ?v78x23) rfl (by kernel_rfl) (by kernel_rfl) (by kernel_rfl) (fun _ _ _ h => h) (Or.inl ⟨by rfl, ?hy78x23⟩) (by assumption) ?rest78x23
                case hy78x23 => intro w hSw; go_simp <;> with_reducible rfl
                simp only [Act.put, List.getElem_toArray, List.getElem_cons_zero, List.getElem_cons_succ, List.setIfInBounds_toArray, List.set_cons_zero, List.set_cons_succ]
                refine wpAnyH_take (i := 24) (v := ?v79x24) rfl (by kernel_rfl) (by kernel_rfl) (by kernel_rfl) (fun _ _ _ h => h) (Or.inl ⟨by rfl, ?hy79x24⟩) (by assumption) ?rest79x24
                case hy79x24 => intro w hSw; go_simp <;> with_reducible rfl
                simp only [Act.put, List.getElem_toArray, List.getElem_cons_zero, List.getElem_cons_succ, List.setIfInBounds_toArray, List.set_cons_zero, List.set_cons_succ]
                refine wpAnyH_done (by kernel_rfl) ?_ _
                clear hHeld
                have HN := hide ((unhide HNO) (by unfold meet; rw [decide_eq_true (unhide HE)]; rfl))
                go_wp2
                go_roundw
                case rel => exact ⟨k + 1, by omega, by go_num, unhide HN, t3⟩
                case measure => simp [intOf]; omega
          · have hE : ∀ z, (binOp .eql 37 (.agg #[.int .i32 a, .int .i64 b]) (.agg #[.int .i32 x0, .int .i64 x1])).run Try.prog z = .ok (.bool false) z := fun z => by have := eql_key a b x0 x1 z; rw [decide_eq_false he] at this; exact this
            have HE := hide he
            clear he
            refine wp_region_held_drew (S := fun x => Below w2.heap.size w2 x) (by kernel_rfl) t3 (fun hHeld => ?_)
            refine wpAnyH_take (i := 0) (v := ?v80x0) rfl (by kernel_rfl) (by kernel_rfl) (by kernel_rfl) (fun _ _ _ h => h) (Or.inl ⟨by rfl, ?hy80x0⟩) (by assumption) ?rest80x0
            case hy80x0 => intro w hSw; go_simp <;> with_reducible rfl
            simp only [Act.put, List.getElem_toArray, List.getElem_cons_zero, List.setIfInBounds_toArray, List.set_cons_zero, List.set_cons_succ]
            refine wpAnyH_take (i := 1) (v := ?v81x1) rfl (by kernel_rfl) (by kernel_rfl) (by kernel_rfl) (fun _ _ _ h => h) (Or.inl ⟨by rfl, ?hy81x1⟩) (by assumption) ?rest81x1
            case hy81x1 => intro w hSw; go_simp <;> with_reducible rfl
            simp only [Act.put, List.getElem_toArray, List.getElem_cons_zero, List.getElem_cons_succ, List.setIfInBounds_toArray, List.set_cons_zero, List.set_cons_succ]
            refine wpAnyH_take (i := 2) (v := ?v82x2) rfl (by kernel_rfl) (by kernel_rfl) (by kernel_rfl) (fun _ _ _ h => h) (Or.inl ⟨by rfl, ?hy82x2⟩) (by assumption) ?rest82x2
            case hy82x2 => intro w hSw; go_simp <;> with_reducible rfl
            simp only [Act.put, List.getElem_toArray, List.getElem_cons_zero, List.getElem_cons_succ, List.setIfInBounds_toArray, List.set_cons_zero, List.set_cons_succ]
            refine wpAnyH_take (i := 3) (v := ?v83x3) rfl (by kernel_rfl) (by kernel_rfl) (by kernel_rfl) (fun _ _ _ h => h) (Or.inl ⟨by rfl, ?hy83x3⟩) (by assumption) ?rest83x3
            case hy83x3 => intro w hSw; go_simp <;> with_reducible rfl
            simp only [Act.put, List.getElem_toArray, List.getElem_cons_zero, List.getElem_cons_succ, List.setIfInBounds_toArray, List.set_cons_zero, List.set_cons_succ]
            refine wpAnyH_take (i := 4) (v := (.agg #[.int .i32 a, .int .i64 b])) rfl (by kernel_rfl) (by kernel_rfl) (by kernel_rfl) (fun _ _ _ h => h) (Or.inl ⟨by rfl, ?hy84x4⟩) (by assumption) ?rest84x4
            case hy84x4 => intro w hSw; obtain ⟨a1, a2, a3⟩ := (unhide HCA) _ hSw; go_simp <;> with_reducible rfl
            simp only [Act.put, List.getElem_toArray, List.getElem_cons_zero, List.getElem_cons_succ, List.setIfInBounds_toArray, List.set_cons_zero, List.set_cons_succ]
            refine wpAnyH_take (i := 5) (v := ?v85x5) rfl (by kernel_rfl) (by kernel_rfl) (by kernel_rfl) (fun _ _ _ h => h) (Or.inl ⟨by rfl, ?hy85x5⟩) (by assumption) ?rest85x5
            case hy85x5 => intro w hSw; go_simp <;> with_reducible rfl
            simp only [Act.put, List.getElem_toArray, List.getElem_cons_zero, List.getElem_cons_succ, List.setIfInBounds_toArray, List.set_cons_zero, List.set_cons_succ]
            refine wpAnyH_take (i := 6) (v := ?v86x6) rfl (by kernel_rfl) (by kernel_rfl) (by kernel_rfl) (fun _ _ _ h => h) (Or.inl ⟨by rfl, ?hy86x6⟩) (by assumption) ?rest86x6
            case hy86x6 => intro w hSw; go_simp <;> with_reducible rfl
            simp only [Act.put, List.getElem_toArray, List.getElem_cons_zero, List.getElem_cons_succ, List.setIfInBounds_toArray, List.set_cons_zero, List.set_cons_succ]
            refine wpAnyH_take (i := 7) (v := ?v87x7) rfl (by kernel_rfl) (by kernel_rfl) (by kernel_rfl) (fun _ _ _ h => h) (Or.inl ⟨by rfl, ?hy87x7⟩) (by assumption) ?rest87x7
            case hy87x7 => intro w hSw; go_simp <;> with_reducible rfl
            simp only [Act.put, List.getElem_toArray, List.getElem_cons_zero, List.getElem_cons_succ, List.setIfInBounds_toArray, List.set_cons_zero, List.set_cons_succ]
            refine wpAnyH_take (i := 8) (v := ?v88x8) rfl (by kernel_rfl) (by kernel_rfl) (by kernel_rfl) (fun _ _ _ h => h) (Or.inl ⟨by rfl, ?hy88x8⟩) (by assumption) ?rest88x8
            case hy88x8 => intro w hSw; go_simp <;> with_reducible rfl
            simp only [Act.put, List.getElem_toArray, List.getElem_cons_zero, List.getElem_cons_succ, List.setIfInBounds_toArray, List.set_cons_zero, List.set_cons_succ]
            refine wpAnyH_take (i := 9) (v := (.agg #[.int .i32 x0, .int .i64 x1])) rfl (by kernel_rfl) (by kernel_rfl) (by kernel_rfl) (fun _ _ _ h => h) (Or.inl ⟨by rfl, ?hy89x9⟩) (by assumption) ?rest89x9
            case hy89x9 => intro w hSw; obtain ⟨b1, b2, b3⟩ := (unhide HCB) _ hSw; go_simp <;> with_reducible rfl
            simp only [Act.put, List.getElem_toArray, List.getElem_cons_zero, List.getElem_cons_succ, List.setIfInBounds_toArray, List.set_cons_zero, List.set_cons_succ]
            refine wpAnyH_take (i := 10) (v := (.bool false)) rfl (by kernel_rfl) (by kernel_rfl) (by kernel_rfl) (fun _ _ _ h => h) (Or.inl ⟨by rfl, ?hy90x10⟩) (by assumption) ?rest90x10
            case hy90x10 => intro w hSw; skip; go_simp <;> with_reducible rfl
            simp only [Act.put, List.getElem_toArray, List.getElem_cons_zero, List.getElem_cons_succ, List.setIfInBounds_toArray, List.set_cons_zero, List.set_cons_succ]
            refine wpAnyH_take (i := 11) (v := ?v91x11) rfl (by kernel_rfl) (by kernel_rfl) (by kernel_rfl) (fun _ _ _ h => h) (Or.inl ⟨by rfl, ?hy91x11⟩) (by assumption) ?rest91x11
            case hy91x11 => intro w hSw; go_simp <;> with_reducible rfl
            simp only [Act.put, List.getElem_toArray, List.getElem_cons_zero, List.getElem_cons_succ, List.setIfInBounds_toArray, List.set_cons_zero, List.set_cons_succ]
            refine wpAnyH_take (i := 12) (v := undef) rfl (by kernel_rfl) (by kernel_rfl) (by kernel_rfl) (fun _ _ _ h => h) (Or.inr ⟨by rfl, rfl⟩) (by assumption) ?_
            simp only [Act.put, List.getElem_toArray, List.getElem_cons_zero, List.getElem_cons_succ, List.setIfInBounds_toArray, List.set_cons_zero, List.set_cons_succ]
            refine wpAnyH_take (i := 13) (v := undef) rfl (by kernel_rfl) (by kernel_rfl) (by kernel_rfl) (fun _ _ _ h => h) (Or.inr ⟨by rfl, rfl⟩) (by assumption) ?_
            simp only [Act.put, List.getElem_toArray, List.getElem_cons_zero, List.getElem_cons_succ, List.setIfInBounds_toArray, List.set_cons_zero, List.set_cons_succ]
            refine wpAnyH_take (i := 14) (v := undef) rfl (by kernel_rfl) (by kernel_rfl) (by kernel_rfl) (fun _ _ _ h => h) (Or.inr ⟨by rfl, rfl⟩) (by assumption) ?_
            simp only [Act.put, List.getElem_toArray, List.getElem_cons_zero, List.getElem_cons_succ, List.setIfInBounds_toArray, List.set_cons_zero, List.set_cons_succ]
            refine wpAnyH_take (i := 15) (v := undef) rfl (by kernel_rfl) (by kernel_rfl) (by kernel_rfl) (fun _ _ _ h => h) (Or.inr ⟨by rfl, rfl⟩) (by assumption) ?_
            simp only [Act.put, List.getElem_toArray, List.getElem_cons_zero, List.getElem_cons_succ, List.setIfInBounds_toArray, List.set_cons_zero, List.set_cons_succ]
            refine wpAnyH_take (i := 16) (v := undef) rfl (by kernel_rfl) (by kernel_rfl) (by kernel_rfl) (fun _ _ _ h => h) (Or.inr ⟨by rfl, rfl⟩) (by assumption) ?_
            simp only [Act.put, List.getElem_toArray, List.getElem_cons_zero, List.getElem_cons_succ, List.setIfInBounds_toArray, List.set_cons_zero, List.set_cons_succ]
            refine wpAnyH_take (i := 17) (v := undef) rfl (by kernel_rfl) (by kernel_rfl) (by kernel_rfl) (fun _ _ _ h => h) (Or.inr ⟨by rfl, rfl⟩) (by assumption) ?_
            simp only [Act.put, List.getElem_toArray, List.getElem_cons_zero, List.getElem_cons_succ, List.setIfInBounds_toArray, List.set_cons_zero, List.set_cons_succ]
            refine wpAnyH_take (i := 18) (v := undef) rfl (by kernel_rfl) (by kernel_rfl) (by kernel_rfl) (fun _ _ _ h => h) (Or.inr ⟨by rfl, rfl⟩) (by assumption) ?_
            simp only [Act.put, List.getElem_toArray, List.getElem_cons_zero, List.getElem_cons_succ, List.setIfInBounds_toArray, List.set_cons_zero, List.set_cons_succ]
            refine wpAnyH_take (i := 19) (v := undef) rfl (by kernel_rfl) (by kernel_rfl) (by kernel_rfl) (fun _ _ _ h => h) (Or.inr ⟨by rfl, rfl⟩) (by assumption) ?_
            simp only [Act.put, List.getElem_toArray, List.getElem_cons_zero, List.getElem_cons_succ, List.setIfInBounds_toArray, List.set_cons_zero, List.set_cons_succ]
            refine wpAnyH_take (i := 20) (v := undef) rfl (by kernel_rfl) (by kernel_rfl) (by kernel_rfl) (fun _ _ _ h => h) (Or.inr ⟨by rfl, rfl⟩) (by assumption) ?_
            simp only [Act.put, List.getElem_toArray, List.getElem_cons_zero, List.getElem_cons_succ, List.setIfInBounds_toArray, List.set_cons_zero, List.set_cons_succ]
            refine wpAnyH_take (i := 21) (v := undef) rfl (by kernel_rfl) (by kernel_rfl) (by kernel_rfl) (fun _ _ _ h => h) (Or.inr ⟨by rfl, rfl⟩) (by assumption) ?_
            simp only [Act.put, List.getElem_toArray, List.getElem_cons_zero, List.getElem_cons_succ, List.setIfInBounds_toArray, List.set_cons_zero, List.set_cons_succ]
            refine wpAnyH_take (i := 22) (v := undef) rfl (by kernel_rfl) (by kernel_rfl) (by kernel_rfl) (fun _ _ _ h => h) (Or.inr ⟨by rfl, rfl⟩) (by assumption) ?_
            simp only [Act.put, List.getElem_toArray, List.getElem_cons_zero, List.getElem_cons_succ, List.setIfInBounds_toArray, List.set_cons_zero, List.set_cons_succ]
            refine wpAnyH_take (i := 23) (v := undef) rfl (by kernel_rfl) (by kernel_rfl) (by kernel_rfl) (fun _ _ _ h => h) (Or.inr ⟨by rfl, rfl⟩) (by assumption) ?_
            simp only [Act.put, List.getElem_toArray, List.getElem_cons_zero, List.getElem_cons_succ, List.setIfInBounds_toArray, List.set_cons_zero, List.set_cons_succ]
            refine wpAnyH_take (i := 24) (v := ?v104x24) rfl (by kernel_rfl) (by kernel_rfl) (by kernel_rfl) (fun _ _ _ h => h) (Or.inl ⟨by rfl, ?hy104x24⟩) (by assumption) ?rest104x24
            case hy104x24 => intro w hSw; go_simp <;> with_reducible rfl
            simp only [Act.put, List.getElem_toArray, List.getElem_cons_zero, List.getElem_cons_succ, List.setIfInBounds_toArray, List.set_cons_zero, List.set_cons_succ]
            refine wpAnyH_done (by kernel_rfl) ?_ _
            clear hHeld
            have HN := hide ((unhide HNO) (by unfold meet; rw [decide_eq_false (unhide HE)]; rfl))
            go_wp2
            go_roundw
            case rel => exact ⟨k + 1, by omega, by go_num, unhide HN, t3⟩
            case measure => simp [intOf]; omega
        · obtain rfl : k = nb := by omega
          have hno : ∀ u, u < i + 1 → B.any (meet (A.getD u default)) = false := fun u hu => by
            by_cases e : u = i
            · rw [e, unhide HX]
              refine List.any_eq_false.2 fun y hy => ?_
              obtain ⟨q, hq, rfl⟩ := mem_getD hy
              simp only [hbl q (by rw [← unhide HNB]; exact hq), Bool.false_eq_true, not_false_eq_true]
            · exact unhide HAL u (by omega)
          have HF := hide (And.intro hno hbk)
          clear hno hbl hbk
          go_wp2
          go_roundw
          case rel => exact ⟨i + 1, by omega, by go_num, (unhide HF).1, (unhide HF).2⟩
          case measure => simp [intOf]; omega
    · obtain rfl : i = na := by omega
      have hno : rcl A B = false := by
        refine List.any_eq_false.2 fun y hy => ?_
        obtain ⟨q, hq, rfl⟩ := mem_getD hy
        simp only [hal q (by rw [← unhide HNA]; exact hq), Bool.false_eq_true, not_false_eq_true]
      have HF := hide (And.intro hno hbr)
      clear hno hal hbr
      go_wp2
      go_ret
      exact ⟨by rw [(unhide HF).1]; rfl, (unhide HBW).trans ((unhide HF).2.mono (unhide HBW).size)⟩
end Go.Proofs.Ytibjhjkeflbghaa
