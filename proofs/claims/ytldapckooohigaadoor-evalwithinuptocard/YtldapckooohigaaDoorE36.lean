/- The document's Needs. -/
import Derived.Test.YtldapckooohigaaDoorE35
namespace Go.Proofs.YtldapckooohigaaDoor
open Go.RowKit
set_option maxRecDepth 100000

theorem rhas_from {y : World} {v : Value} {l : List Ky} (hs : SeesL kC 2 y v l) {a b : Int} {r : Bool} (hr : decide ((a, b) ∈ l) = r) {x : World} (hb : Below y.heap.size y x) : Calls Tryd.prog 36 #[v, .agg #[.int .i32 a, .int .i64 b]] x fun e w' => e = .returned (.bool r) ∧ Below y.heap.size y w' := by
  subst hr
  exact (rhas_any (hs.below kC_len hb) a b).mono fun _ _ ⟨h1, h2⟩ => ⟨h1, hb.trans (h2.mono hb.size)⟩
set_option maxHeartbeats 3200000 in
theorem rneeds_any {s r : Int} {cv av rv wv mv : Value} {rs : List Ky} {m : List Pr} {w : World} (h1 : SeesL kC 2 w rv rs) (h2 : SeesL pC 3 w mv m) (hll : m.length ≤ 5864062014804) :
    Calls Tryd.prog 20 #[.agg #[.int .i64 s, .int .i64 r, cv, av, rv, wv], mv] w fun e w' => ∃ x, e = .returned x ∧ w'.ownsRow w.heap.size 45 3 x (srtP (nedP rs m)).length ((srtP (nedP rs m)).flatMap pC) ∧ Below w.heap.size w w' := by
  rw [← ned_srt]
  obtain ⟨D, hD⟩ : ∃ D, srtP m = D := ⟨_, rfl⟩
  obtain ⟨wb, hwb⟩ : ∃ y, w.alloc (.cells #[.int .i64 s, .int .i64 r, cv, av, rv, wv] 35) = y := ⟨_, rfl⟩
  have hbb : Below w.heap.size w wb := hwb ▸ below_box _
  have hzb : wb.heap.size = w.heap.size + 1 := by rw [← hwb]; simp
  have hxb : wb.heap[w.heap.size]? = some (.cells #[.int .i64 s, .int .i64 r, cv, av, rv, wv] 35) := hwb ▸ heap_alloc_new w _
  have HRP := hide (rpairs_any (h2.below pC_len hbb) hll)
  rw [hD] at HRP ⊢
  have hlD : D.length ≤ 5864062014804 := hD ▸ Nat.le_trans (srtP_spec m).2.2 hll
  have HRS : Hid (∀ z, Below wb.heap.size wb z → SeesL kC 2 z rv rs ∧ z.cell? ⟨w.heap.size, 4, none⟩ = some rv) := fun z hz => by
    have hxz : z.heap[w.heap.size]? = some (.cells #[.int .i64 s, .int .i64 r, cv, av, rv, wv] 35) := (hz.block _ (by omega)).trans hxb
    exact ⟨h1.below kC_len (hbb.trans (hz.mono hbb.size)), cell_at hxz⟩
  have HWB := hide hwb
  have HBB := hide hbb
  clear h1 h2 hll hD hwb hbb hzb hxb
  go_enter Tryd.func20, Tryd.ntmps20
  go_wp2_with (first | (rw [unhide HWB]) | (go_at_call 35; have HQ := unhide HRP; refine Calls.mono HQ ?_; clear HQ HRP; rintro e w0 ⟨x, rfl, hq1, hq2⟩; obtain ⟨xa, xc, rfl⟩ := own_shape hq1; have HQ1 := hide hq1; have HQ2 := hide hq2; clear hq1 hq2))
  have hse := (own_sees pC_len (by decide) (unhide HQ1)).2
  have HSE := hide hse
  obtain ⟨_, _, _, _, e, hcap, hmax, _⟩ := SeesL.pair hse
  simp only [Value.slice.injEq] at e
  obtain ⟨rfl, _, rfl⟩ := e
  obtain ⟨n, hn⟩ : ∃ n, D.length = n := ⟨_, rfl⟩
  rw [hn] at hcap hmax hlD ⊢
  have HN := hide hn
  clear hse
  go_wp2
  go_loopw [5, 7] (fun o c wr => ∃ t : Nat, t ≤ n ∧ c = .int .i64 t ∧ wr.ownsRow w0.heap.size 45 3 o (nedP rs (D.take t)).length ((nedP rs (D.take t)).flatMap pC) ∧ Below w0.heap.size w0 wr) (fun _ c _ => n - (intOf c).toNat)
  case atStart => exact ⟨0, by omega, rfl, own_nil _ _ _ _, Below.refl _ _⟩
  case round =>
    obtain ⟨t, ht, rfl, hown, hbl⟩ := hrel
    obtain ⟨wo, rfl⟩ : ∃ x, x = wr := ⟨_, rfl⟩
    have HBL := hide hbl
    obtain ⟨ov, oc, hov⟩ := own_shape hown
    subst hov
    have HOW := hide hown
    by_cases hlt : t < n
    · have hnl := unhide HN
      have htl : t < D.length := by omega
      obtain ⟨gb, ob, hao, -, hcx⟩ := pair_cells ((unhide HSE).below pC_len hbl) rfl htl
      subst hao
      obtain ⟨⟨⟨a, b⟩, c⟩, hx⟩ : ∃ k, D.getD t default = k := ⟨_, rfl⟩
      have hx' : D[t] = ((a, b), c) := by rw [← hx]; simp [List.getD, htl]
      rw [hx] at hcx
      have HCX := hide hcx
      have hne : nedP rs (D.take (t + 1)) = if (a, b) ∈ rs then nedP rs (D.take t) ++ [((a, b), c)] else nedP rs (D.take t) := by
        rw [List.take_succ_eq_append_getElem htl, nedP_snoc, hx']
      have hlo : (nedP rs (D.take t)).length ≤ t := Nat.le_trans (nedP_len _ _) (by simp; omega)
      have hq2 := unhide HQ2
      have hqo : Below wb.heap.size wb wo := hq2.trans (hbl.mono hq2.size)
      obtain ⟨rq, hr⟩ : ∃ rq, decide ((a, b) ∈ rs) = rq := ⟨_, rfl⟩
      have HHF : Hid (∀ x, Below wo.heap.size wo x → Calls Tryd.prog 36 #[rv, .agg #[.int .i32 a, .int .i64 b]] x fun e w' => e = .returned (.bool rq) ∧ Below wo.heap.size wo w') := fun x hx => rhas_from (unhide HRS wo hqo).1 hr hx
      have HRV : Hid (∀ x, Below wo.heap.size wo x → x.cell? ⟨w.heap.size, 4, none⟩ = some rv) := fun x hx => (unhide HRS x (hqo.trans (hx.mono hqo.size))).2
      obtain ⟨L, hL⟩ : ∃ L, nedP rs (D.take t) = L := ⟨_, rfl⟩
      rw [hL] at hne hlo HOW hown
      obtain ⟨k, hk⟩ : ∃ k, L.length = k := ⟨_, rfl⟩
      have HNE := hide hne
      have HK := hide hk
      rw [hL, hk]
      rw [hk] at hlo
      clear hnl htl hx hx' hcx hne hq2 hqo hown hbl hL hk
      cases rq with
      | true =>
        have HI := hide (of_decide_eq_true hr)
        clear hr
        go_wp2_with fail
        refine wp_region_held_drew (S := fun x => Below wo.heap.size wo x) (by kernel_rfl) (Below.refl _ _).drew (fun hHeld => ?_)
        refine wpAnyH_take (i := 0) (v := ?v1x0) rfl (by kernel_rfl) (by kernel_rfl) (by kernel_rfl) (fun _ _ _ h => h) (Or.inl ⟨by rfl, ?hy1x0⟩) (by assumption) ?rest1x0
        case hy1x0 => intro w hSw; go_simp <;> with_reducible rfl
        simp only [Act.put, List.getElem_toArray, List.getElem_cons_zero, List.setIfInBounds_toArray, List.set_cons_zero, List.set_cons_succ]
        refine wpAnyH_take (i := 1) (v := rv) rfl (by kernel_rfl) (by kernel_rfl) (by kernel_rfl) (fun _ _ _ h => h) (Or.inl ⟨by rfl, ?hy2x1⟩) (by assumption) ?rest2x1
        case hy2x1 => intro w hSw; have s0 := unhide HRV _ hSw; go_simp <;> with_reducible rfl
        simp only [Act.put, List.getElem_toArray, List.getElem_cons_zero, List.getElem_cons_succ, List.setIfInBounds_toArray, List.set_cons_zero, List.set_cons_succ]
        refine wpAnyH_take (i := 2) (v := ?v3x2) rfl (by kernel_rfl) (by kernel_rfl) (by kernel_rfl) (fun _ _ _ h => h) (Or.inl ⟨by rfl, ?hy3x2⟩) (by assumption) ?rest3x2
        case hy3x2 => intro w hSw; go_simp <;> with_reducible rfl
        simp only [Act.put, List.getElem_toArray, List.getElem_cons_zero, List.getElem_cons_succ, List.setIfInBounds_toArray, List.set_cons_zero, List.set_cons_succ]
        refine wpAnyH_take (i := 3) (v := ?v4x3) rfl (by kernel_rfl) (by kernel_rfl) (by kernel_rfl) (fun _ _ _ h => h) (Or.inl ⟨by rfl, ?hy4x3⟩) (by assumption) ?rest4x3
        case hy4x3 => intro w hSw; go_simp <;> with_reducible rfl
        simp only [Act.put, List.getElem_toArray, List.getElem_cons_zero, List.getElem_cons_succ, List.setIfInBounds_toArray, List.set_cons_zero, List.set_cons_succ]
        refine wpAnyH_take (i := 4) (v := ?v5x4) rfl (by kernel_rfl) (by kernel_rfl) (by kernel_rfl) (fun _ _ _ h => h) (Or.inl ⟨by rfl, ?hy5x4⟩) (by assumption) ?rest5x4
        case hy5x4 => intro w hSw; go_simp <;> with_reducible rfl
        simp only [Act.put, List.getElem_toArray, List.getElem_cons_zero, List.getElem_cons_succ, List.setIfInBounds_toArray, List.set_cons_zero, List.set_cons_succ]
        refine wpAnyH_take (i := 5) (v := ?v6x5) rfl (by kernel_rfl) (by kernel_rfl) (by kernel_rfl) (fun _ _ _ h => h) (Or.inl ⟨by rfl, ?hy6x5⟩) (by assumption) ?rest6x5
        case hy6x5 => intro w hSw; go_simp <;> with_reducible rfl
        simp only [Act.put, List.getElem_toArray, List.getElem_cons_zero, List.getElem_cons_succ, List.setIfInBounds_toArray, List.set_cons_zero, List.set_cons_succ]
        refine wpAnyH_take (i := 6) (v := (.agg #[.int .i32 a, .int .i64 b])) rfl (by kernel_rfl) (by kernel_rfl) (by kernel_rfl) (fun _ _ _ h => h) (Or.inl ⟨by rfl, ?hy7x6⟩) (by assumption) ?rest7x6
        case hy7x6 => intro w hSw; obtain ⟨s1, s2, s3⟩ := unhide HCX _ hSw; go_simp <;> with_reducible rfl
        simp only [Act.put, List.getElem_toArray, List.getElem_cons_zero, List.getElem_cons_succ, List.setIfInBounds_toArray, List.set_cons_zero, List.set_cons_succ]
        refine wpAnyH_ready (rs := [7]) (by kernel_rfl) (by simp) ?_
        refine AllReadyH.cons rfl (fun K hK => ?_) AllReadyH.nil
        go_simp
        refine (unhide HHF _ (by assumption)).mono ?_
        rintro e wq ⟨rfl, hb1⟩
        refine hK _ _ hb1 ?_
        clear hK hHeld
        intro hHeld
        refine wpAnyH_done (by kernel_rfl) ?_ _
        clear hHeld
        obtain ⟨s1, s2, s3⟩ := unhide HCX _ hb1
        have ho2 := own_below (unhide HOW) hb1
        have hbl := unhide HBL
        obtain ⟨a3, c3, y5, r2, ho5, hb5⟩ := app_pairs 29 (own_below ho2 (below_box (.cells #[.int .i32 a, .int .i64 b, .int .i64 c] 45))) (sees_oneP wq ((a, b), c)) (by have := unhide HK; simp only [List.length_cons, List.length_nil]; omega) ((hbl.trans (hb1.mono hbl.size)).alloc (hbl.trans (hb1.mono hbl.size)).size _).size
        have HR : Hid (y5.ownsRow w0.heap.size 45 3 (.slice a3 (L.length + 1) c3) (nedP rs (D.take (t + 1))).length ((nedP rs (D.take (t + 1))).flatMap pC) ∧ Below w0.heap.size w0 y5) := by
          rw [unhide HNE, if_pos (unhide HI)]
          exact ⟨by simpa using ho5, ((hbl.trans (hb1.mono hbl.size)).alloc (hbl.trans (hb1.mono hbl.size)).size _).trans hb5⟩
        rw [unhide HK] at HR
        have r3 : (Builtin.append_ #[29, 29] 29 #[.slice ov k oc, .slice (some ⟨wq.heap.size, 0, none⟩) 1 1]).run Tryd.prog (wq.alloc (.cells #[.int .i32 a, .int .i64 b, .int .i64 c] 45)) = .ok (.slice a3 (k + 1) c3) y5 := by
          rw [← unhide HK]; exact r2
        have HR2 := hide r3
        clear hb1 ho2 hbl r2 r3 ho5 hb5
        go_wp2_with (refine wpList_append_wanted (by rfl) _ _ 29 rfl rfl rfl (unhide HR2) ?_)
        go_roundw
        case rel => exact ⟨t + 1, by omega, by go_num, (unhide HR).1, (unhide HR).2⟩
        case measure => simp [intOf]; omega
      | false =>
        have HI := hide (of_decide_eq_false hr)
        clear hr
        go_wp2_with fail
        refine wp_region_held_drew (S := fun x => Below wo.heap.size wo x) (by kernel_rfl) (Below.refl _ _).drew (fun hHeld => ?_)
        refine wpAnyH_take (i := 0) (v := ?v8x0) rfl (by kernel_rfl) (by kernel_rfl) (by kernel_rfl) (fun _ _ _ h => h) (Or.inl ⟨by rfl, ?hy8x0⟩) (by assumption) ?rest8x0
        case hy8x0 => intro w hSw; go_simp <;> with_reducible rfl
        simp only [Act.put, List.getElem_toArray, List.getElem_cons_zero, List.setIfInBounds_toArray, List.set_cons_zero, List.set_cons_succ]
        refine wpAnyH_take (i := 1) (v := rv) rfl (by kernel_rfl) (by kernel_rfl) (by kernel_rfl) (fun _ _ _ h => h) (Or.inl ⟨by rfl, ?hy9x1⟩) (by assumption) ?rest9x1
        case hy9x1 => intro w hSw; have s0 := unhide HRV _ hSw; go_simp <;> with_reducible rfl
        simp only [Act.put, List.getElem_toArray, List.getElem_cons_zero, List.getElem_cons_succ, List.setIfInBounds_toArray, List.set_cons_zero, List.set_cons_succ]
        refine wpAnyH_take (i := 2) (v := ?v10x2) rfl (by kernel_rfl) (by kernel_rfl) (by kernel_rfl) (fun _ _ _ h => h) (Or.inl ⟨by rfl, ?hy10x2⟩) (by assumption) ?rest10x2
        case hy10x2 => intro w hSw; go_simp <;> with_reducible rfl
        simp only [Act.put, List.getElem_toArray, List.getElem_cons_zero, List.getElem_cons_succ, List.setIfInBounds_toArray, List.set_cons_zero, List.set_cons_succ]
        refine wpAnyH_take (i := 3) (v := ?v11x3) rfl (by kernel_rfl) (by kernel_rfl) (by kernel_rfl) (fun _ _ _ h => h) (Or.inl ⟨by rfl, ?hy11x3⟩) (by assumption) ?rest11x3
        case hy11x3 => intro w hSw; go_simp <;> with_reducible rfl
        simp only [Act.put, List.getElem_toArray, List.getElem_cons_zero, List.getElem_cons_succ, List.setIfInBounds_toArray, List.set_cons_zero, List.set_cons_succ]
        refine wpAnyH_take (i := 4) (v := ?v12x4) rfl (by kernel_rfl) (by kernel_rfl) (by kernel_rfl) (fun _ _ _ h => h) (Or.inl ⟨by rfl, ?hy12x4⟩) (by assumption) ?rest12x4
        case hy12x4 => intro w hSw; go_simp <;> with_reducible rfl
        simp only [Act.put, List.getElem_toArray, List.getElem_cons_zero, List.getElem_cons_succ, List.setIfInBounds_toArray, List.set_cons_zero, List.set_cons_succ]
        refine wpAnyH_take (i := 5) (v := ?v13x5) rfl (by kernel_rfl) (by kernel_rfl) (by kernel_rfl) (fun _ _ _ h => h) (Or.inl ⟨by rfl, ?hy13x5⟩) (by assumption) ?rest13x5
        case hy13x5 => intro w hSw; go_simp <;> with_reducible rfl
        simp only [Act.put, List.getElem_toArray, List.getElem_cons_zero, List.getElem_cons_succ, List.setIfInBounds_toArray, List.set_cons_zero, List.set_cons_succ]
        refine wpAnyH_take (i := 6) (v := (.agg #[.int .i32 a, .int .i64 b])) rfl (by kernel_rfl) (by kernel_rfl) (by kernel_rfl) (fun _ _ _ h => h) (Or.inl ⟨by rfl, ?hy14x6⟩) (by assumption) ?rest14x6
        case hy14x6 => intro w hSw; obtain ⟨s1, s2, s3⟩ := unhide HCX _ hSw; go_simp <;> with_reducible rfl
        simp only [Act.put, List.getElem_toArray, List.getElem_cons_zero, List.getElem_cons_succ, List.setIfInBounds_toArray, List.set_cons_zero, List.set_cons_succ]
        refine wpAnyH_ready (rs := [7]) (by kernel_rfl) (by simp) ?_
        refine AllReadyH.cons rfl (fun K hK => ?_) AllReadyH.nil
        go_simp
        refine (unhide HHF _ (by assumption)).mono ?_
        rintro e wq ⟨rfl, hb1⟩
        refine hK _ _ hb1 ?_
        clear hK hHeld
        intro hHeld
        refine wpAnyH_done (by kernel_rfl) ?_ _
        clear hHeld
        have HB1 := hide hb1
        clear hb1
        go_wp2
        go_roundw
        case rel =>
          have hbl := unhide HBL
          have hb1 := unhide HB1
          refine ⟨t + 1, by omega, by go_num, ?_, hbl.trans (hb1.mono hbl.size)⟩
          rw [unhide HNE, if_neg (unhide HI), unhide HK]
          have ho := own_below (unhide HOW) hb1
          rw [unhide HK] at ho
          exact ho
        case measure => simp [intOf]; omega
    · obtain rfl : t = n := by omega
      have hnl := unhide HN
      rw [List.take_of_length_le (by omega)] at hown
      rw [List.take_of_length_le (by omega)]
      have HOF := hide hown
      clear hown hbl HOW hnl
      go_wp2
      go_ret
      have hb := unhide HBB
      have hq := unhide HQ2
      have hz := hb.trans (hq.mono hb.size)
      exact ⟨_, rfl, own_mono (unhide HOF) hz.size, hz.trans ((unhide HBL).mono hz.size)⟩
end Go.Proofs.YtldapckooohigaaDoor
