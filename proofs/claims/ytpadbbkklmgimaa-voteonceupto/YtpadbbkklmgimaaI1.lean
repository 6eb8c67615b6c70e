/- Won. -/
import Derived.Test.YtpadbbkklmgimaaI0
namespace Go.Proofs.Ytpadbbkklmgimaa
open Go.RowKit Go.Shelf
attribute [local go_sem] Oper.semAt_some

def Vt.cnt (V : Vt) : Nat := (uptoV V.vt V.n).length
def Vt.won (V : Vt) : Bool := V.vt V.self && decide (V.n < 2 * V.cnt)

set_option maxRecDepth 100000 in
set_option maxHeartbeats 2000000 in
theorem won_core {w : World} {v : Value} {V : Vt} (hn5 : V.n ≤ 5) (yes : Bool) (hyes : yes = true → ∃ h, v = P0 h ∧ h < w.heap.size ∧ w.cell? ⟨h, 0, none⟩ = some (.int .i64 V.n))
    (HV : ∀ x, Below w.heap.size w x → Calls Try.prog 22 #[v] x fun e w' => e = .returned (It x.heap.size) ∧ IsV w' x.heap.size V ∧ Below x.heap.size x w')
    (HS : ∀ x, Below w.heap.size w x → Calls Try.prog 15 #[v] x fun e w' => e = .returned (.bool yes) ∧ Below x.heap.size x w') :
    Calls Try.prog 18 #[v] w fun e w' => e = .returned (.bool (yes && decide (V.n < 2 * V.cnt))) ∧ Below w.heap.size w w' := by
  have HV := hide HV
  have HS := hide HS
  refine (callsIn_wide (n := 3)).1 ?_
  refine callsIn_of_wp_marks Try.func18 rfl trivial ?_ rfl
  simp only [Try.ntmps18, List.size_toArray, List.length_cons, List.length_nil, Nat.reduceAdd, Nat.reduceSub, Array.replicate_succ, Array.replicate_zero, List.push_toArray, List.append_toArray, List.nil_append, List.cons_append]
  gi_wp2_with fail
  refine ⟨trivial, ((callsIn_wide (n := 2)).2 (unhide HV _ ((Below.refl _ _).alloc (Nat.le_refl _) _))).mono ?_⟩
  rintro e W0 ⟨rfl, I0, hb0⟩
  have hsz : w.heap.size + 2 ≤ W0.heap.size := by have := I0.lt; simp at this; omega
  have hB0 : Below w.heap.size w W0 := ((Below.refl _ _).alloc (Nat.le_refl _) _).trans (hb0.mono (by simp))
  have hc0 : W0.cell? ⟨w.heap.size, 0, none⟩ = some (.int .i64 0) ∧ W0.frozen? ⟨w.heap.size, 0, none⟩ = false := by
    constructor
    · rw [hb0.cell (p := ⟨w.heap.size, 0, none⟩) (by simp), World.cell?_alloc_new]; rfl
    · have := World.frozen?_of_block (w := w.alloc (.cells #[.int .i64 0] 3)) (a := ⟨w.heap.size, 0, none⟩) (hb0.block w.heap.size (by simp))
      rw [this]; simp [go_sem]
  have e1 : (w.alloc (.cells #[.int .i64 0] 3)).heap.size = w.heap.size + 1 := by simp
  rw [e1] at I0
  clear hb0 e1
  gi_wp2
  refine wpIn_rangeFunc_ownF rfl (by decide) (gf := 34) (lb := #[.pointer (some ⟨w.heap.size + 1, 0, none⟩)]) rfl trivial (enters_of Try.func34 (by kernel_rfl) rfl)
    (votes_stops Fence.wide 2 trivial rfl (by decide) (w.heap.size + 1) V.n V.vt hn5 W0 (by omega) I0.c0 I0.cv) KB.trans (KB.putObj (by omega)) (Below.refl _ _) (fun _ => rfl)
    (fun pre W => (W.cell? ⟨w.heap.size, 0, none⟩ = some (.int .i64 pre.length) ∧ W.frozen? ⟨w.heap.size, 0, none⟩ = false) ∧ Below w.heap.size w W)
    (fun _ _ _ => False)
    (OwnFrom.and (Own.from (fun s A B row hs hg hr => ⟨cell_kept hs.1 hg hr, (frozen_kept hs.1 hg hr).trans hs.2⟩) _) (ownFrom_below (Nat.le_refl _) (by omega)))
    (fun _ => ownFrom_pure _ _)
    ⟨hc0, hB0⟩
    (fun x => { tmps := #[v, undef, .bool false, .pointer (some ⟨w.heap.size, 0, none⟩), v, It (w.heap.size + 1), .int .i64 x, undef, undef, undef, undef, undef, undef, undef, undef, undef, undef, undef, undef, undef, undef], defers := [] }) ?assign ?body ?done ?stop
  case assign =>
    intro l x W K hK
    gi_wp2
    simpa using hK
  case body =>
    rintro l pre x W ⟨⟨d0, d0f⟩, hB⟩ hlen
    have HB := hide hB
    obtain ⟨m, hm⟩ : ∃ m, pre.length = m := ⟨_, rfl⟩
    have HM := hide hm
    rw [hm] at d0 hlen
    clear hm hB hc0 I0 hB0
    gi_wp2
    refine ⟨KeepsOthers.setCell _ _ _, ⟨Below.heap_setCell _ _ _ _ (by simp)⟩, ⟨?_, ?_⟩, (unhide HB).setCell (p := ⟨w.heap.size, 0, none⟩) (Nat.le_refl _) _⟩
    · rw [cs_same d0, List.length_append, List.length_singleton, unhide HM]; rfl
    · rw [World.frozen?_setCell]; exact d0f
  case done =>
    rintro D ys W hD rfl ⟨⟨d0, d0f⟩, hB⟩ hK
    have d0' : W.cell? ⟨w.heap.size, 0, none⟩ = some (.int .i64 V.cnt) := d0
    have hcl := uptoV_le V.vt V.n
    have HB := hide hB
    have HDD := hide (And.intro hK hD)
    have HCL := hide hcl
    clear hB hK hD d0 d0f I0 hB0 hc0 hcl
    gi_wp2
    rename_i Kx hKx
    refine wpIn_wide.2 (Code.wp_mono NoPanic.imp ?_)
    cases hyv : yes
    · have HS1 := hide (unhide HS W.drew (unhide HB).drew)
      rw [hyv] at HS1
      refine wp_region_held_drew (S := fun _ => True) (by kernel_rfl) trivial (fun hHeld => ?_)
      refine wpAnyH_take (i := 0) (v := ?v1x0) rfl (by kernel_rfl) (by kernel_rfl) (by kernel_rfl) (fun _ _ _ h => h) (Or.inl ⟨by rfl, ?hy1x0⟩) (by assumption) ?rest1x0
      case hy1x0 => intro w hSw; go_simp <;> with_reducible rfl
      simp only [Act.put, List.getElem_toArray, List.getElem_cons_zero, List.setIfInBounds_toArray, List.set_cons_zero, List.set_cons_succ]
      refine wpAnyH_ready (rs := [1]) (by kernel_rfl) (by simp) ?_
      refine AllReadyH.cons rfl (fun K hK => ?_) AllReadyH.nil
      go_simp
      refine (unhide HS1).mono ?_
      rintro e y1 ⟨rfl, hb1⟩
      refine hK _ _ trivial ?_
      clear hK hHeld
      have HQ := hide hb1
      clear hb1
      intro hHeld
      refine wpAnyH_take (i := 2) (v := ?v2x2) rfl (by kernel_rfl) (by kernel_rfl) (by kernel_rfl) (fun _ _ _ h => h) (Or.inl ⟨by rfl, ?hy2x2⟩) (by assumption) ?rest2x2
      case hy2x2 => intro w hSw; go_simp <;> with_reducible rfl
      simp only [Act.put, List.getElem_toArray, List.getElem_cons_zero, List.getElem_cons_succ, List.setIfInBounds_toArray, List.set_cons_zero, List.set_cons_succ]
      refine wpAnyH_take (i := 3) (v := undef) rfl (by kernel_rfl) (by kernel_rfl) (by kernel_rfl) (fun _ _ _ h => h) (Or.inr ⟨by rfl, rfl⟩) (by assumption) ?_
      simp only [Act.put, List.getElem_toArray, List.getElem_cons_zero, List.getElem_cons_succ, List.setIfInBounds_toArray, List.set_cons_zero, List.set_cons_succ]
      refine wpAnyH_take (i := 4) (v := undef) rfl (by kernel_rfl) (by kernel_rfl) (by kernel_rfl) (fun _ _ _ h => h) (Or.inr ⟨by rfl, rfl⟩) (by assumption) ?_
      simp only [Act.put, List.getElem_toArray, List.getElem_cons_zero, List.getElem_cons_succ, List.setIfInBounds_toArray, List.set_cons_zero, List.set_cons_succ]
      refine wpAnyH_take (i := 5) (v := undef) rfl (by kernel_rfl) (by kernel_rfl) (by kernel_rfl) (fun _ _ _ h => h) (Or.inr ⟨by rfl, rfl⟩) (by assumption) ?_
      simp only [Act.put, List.getElem_toArray, List.getElem_cons_zero, List.getElem_cons_succ, List.setIfInBounds_toArray, List.set_cons_zero, List.set_cons_succ]
      refine wpAnyH_take (i := 6) (v := undef) rfl (by kernel_rfl) (by kernel_rfl) (by kernel_rfl) (fun _ _ _ h => h) (Or.inr ⟨by rfl, rfl⟩) (by assumption) ?_
      simp only [Act.put, List.getElem_toArray, List.getElem_cons_zero, List.getElem_cons_succ, List.setIfInBounds_toArray, List.set_cons_zero, List.set_cons_succ]
      refine wpAnyH_take (i := 7) (v := undef) rfl (by kernel_rfl) (by kernel_rfl) (by kernel_rfl) (fun _ _ _ h => h) (Or.inr ⟨by rfl, rfl⟩) (by assumption) ?_
      simp only [Act.put, List.getElem_toArray, List.getElem_cons_zero, List.getElem_cons_succ, List.setIfInBounds_toArray, List.set_cons_zero, List.set_cons_succ]
      refine wpAnyH_take (i := 8) (v := undef) rfl (by kernel_rfl) (by kernel_rfl) (by kernel_rfl) (fun _ _ _ h => h) (Or.inr ⟨by rfl, rfl⟩) (by assumption) ?_
      simp only [Act.put, List.getElem_toArray, List.getElem_cons_zero, List.getElem_cons_succ, List.setIfInBounds_toArray, List.set_cons_zero, List.set_cons_succ]
      refine wpAnyH_take (i := 9) (v := undef) rfl (by kernel_rfl) (by kernel_rfl) (by kernel_rfl) (fun _ _ _ h => h) (Or.inr ⟨by rfl, rfl⟩) (by assumption) ?_
      simp only [Act.put, List.getElem_toArray, List.getElem_cons_zero, List.getElem_cons_succ, List.setIfInBounds_toArray, List.set_cons_zero, List.set_cons_succ]
      refine wpAnyH_take (i := 10) (v := undef) rfl (by kernel_rfl) (by kernel_rfl) (by kernel_rfl) (fun _ _ _ h => h) (Or.inr ⟨by rfl, rfl⟩) (by assumption) ?_
      simp only [Act.put, List.getElem_toArray, List.getElem_cons_zero, List.getElem_cons_succ, List.setIfInBounds_toArray, List.set_cons_zero, List.set_cons_succ]
      refine wpAnyH_take (i := 11) (v := ?v11x11) rfl (by kernel_rfl) (by kernel_rfl) (by kernel_rfl) (fun _ _ _ h => h) (Or.inl ⟨by rfl, ?hy11x11⟩) (by assumption) ?rest11x11
      case hy11x11 => intro w hSw; go_simp <;> with_reducible rfl
      simp only [Act.put, List.getElem_toArray, List.getElem_cons_zero, List.getElem_cons_succ, List.setIfInBounds_toArray, List.set_cons_zero, List.set_cons_succ]
      refine wpAnyH_take (i := 12) (v := ?v12x12) rfl (by kernel_rfl) (by kernel_rfl) (by kernel_rfl) (fun _ _ _ h => h) (Or.inl ⟨by rfl, ?hy12x12⟩) (by assumption) ?rest12x12
      case hy12x12 => intro w hSw; go_simp <;> with_reducible rfl
      simp only [Act.put, List.getElem_toArray, List.getElem_cons_zero, List.getElem_cons_succ, List.setIfInBounds_toArray, List.set_cons_zero, List.set_cons_succ]
      refine wpAnyH_done (by kernel_rfl) ?_ _
      refine hKx _ _ ?_
      gi_wp2
      have hKD : y1.heap[D]? = some (.deferred (some [])) := by
        have hl := (Array.getElem?_eq_some_iff.1 (unhide HDD).1).1
        exact ((unhide HQ).block D hl).trans (unhide HDD).1
      refine ⟨by simp, .inl ⟨_, _, rfl, run_takeDeferred hKD, ?_⟩⟩
      refine ⟨.bool false, ?_, by rw [hyv]; rfl, ((unhide HB).drew.trans ((unhide HQ).mono (unhide HB).size)).trans (belowK_b (w := w) (Nat.le_refl _) _ D _ _ (by have := (unhide HDD).2; omega) hKD rfl rfl)⟩
      simp [results, Try.results18, go_sem]
    · obtain ⟨h, rfl, hlt, hc⟩ := hyes hyv
      have HS1 := hide (unhide HS W.drew (unhide HB).drew)
      rw [hyv] at HS1
      have hc1 := ((unhide HB).cell (p := ⟨h, 0, none⟩) hlt).trans hc
      have hq : IntKind.i64.wrap ((V.n : Int) / 2) = (V.n : Int) / 2 := wrap_id (by omega) (by omega)
      have hqd : decide ((V.n : Int) / 2 < V.cnt) = decide (V.n < 2 * V.cnt) := by rw [decide_eq_decide]; omega
      refine wp_region_held_drew (S := fun x => x.cell? ⟨w.heap.size, 0, none⟩ = some (.int .i64 V.cnt) ∧ x.cell? ⟨h, 0, none⟩ = some (.int .i64 V.n)) (by kernel_rfl) ⟨d0', hc1⟩ (fun hHeld => ?_)
      refine wpAnyH_take (i := 0) (v := ?v13x0) rfl (by kernel_rfl) (by kernel_rfl) (by kernel_rfl) (fun _ _ _ h => h) (Or.inl ⟨by rfl, ?hy13x0⟩) (by assumption) ?rest13x0
      case hy13x0 => intro w hSw; obtain ⟨s1, s2⟩ := hSw; go_simp <;> with_reducible rfl
      simp only [Act.put, List.getElem_toArray, List.getElem_cons_zero, List.setIfInBounds_toArray, List.set_cons_zero, List.set_cons_succ]
      refine wpAnyH_ready (rs := [1]) (by kernel_rfl) (by simp) ?_
      refine AllReadyH.cons rfl (fun K hK => ?_) AllReadyH.nil
      go_simp
      refine (unhide HS1).mono ?_
      rintro e y1 ⟨rfl, hb1⟩
      refine hK _ _ ⟨(hb1.cell (p := ⟨w.heap.size, 0, none⟩) (World.block_lt_of_cell? W _ d0')).trans d0', (hb1.cell (p := ⟨h, 0, none⟩) (World.block_lt_of_cell? W _ hc1)).trans hc1⟩ ?_
      clear hK hHeld
      have HQ := hide hb1
      clear hb1
      intro hHeld
      refine wpAnyH_take (i := 2) (v := ?v14x2) rfl (by kernel_rfl) (by kernel_rfl) (by kernel_rfl) (fun _ _ _ h => h) (Or.inl ⟨by rfl, ?hy14x2⟩) (by assumption) ?rest14x2
      case hy14x2 => intro w hSw; obtain ⟨s1, s2⟩ := hSw; go_simp <;> with_reducible rfl
      simp only [Act.put, List.getElem_toArray, List.getElem_cons_zero, List.getElem_cons_succ, List.setIfInBounds_toArray, List.set_cons_zero, List.set_cons_succ]
      refine wpAnyH_take (i := 3) (v := ?v15x3) rfl (by kernel_rfl) (by kernel_rfl) (by kernel_rfl) (fun _ _ _ h => h) (Or.inl ⟨by rfl, ?hy15x3⟩) (by assumption) ?rest15x3
      case hy15x3 => intro w hSw; obtain ⟨s1, s2⟩ := hSw; go_simp <;> with_reducible rfl
      simp only [Act.put, List.getElem_toArray, List.getElem_cons_zero, List.getElem_cons_succ, List.setIfInBounds_toArray, List.set_cons_zero, List.set_cons_succ]
      refine wpAnyH_take (i := 4) (v := ?v16x4) rfl (by kernel_rfl) (by kernel_rfl) (by kernel_rfl) (fun _ _ _ h => h) (Or.inl ⟨by rfl, ?hy16x4⟩) (by assumption) ?rest16x4
      case hy16x4 => intro w hSw; obtain ⟨s1, s2⟩ := hSw; go_simp <;> with_reducible rfl
      simp only [Act.put, List.getElem_toArray, List.getElem_cons_zero, List.getElem_cons_succ, List.setIfInBounds_toArray, List.set_cons_zero, List.set_cons_succ]
      refine wpAnyH_take (i := 5) (v := ?v17x5) rfl (by kernel_rfl) (by kernel_rfl) (by kernel_rfl) (fun _ _ _ h => h) (Or.inl ⟨by rfl, ?hy17x5⟩) (by assumption) ?rest17x5
      case hy17x5 => intro w hSw; obtain ⟨s1, s2⟩ := hSw; go_simp <;> with_reducible rfl
      simp only [Act.put, List.getElem_toArray, List.getElem_cons_zero, List.getElem_cons_succ, List.setIfInBounds_toArray, List.set_cons_zero, List.set_cons_succ]
      refine wpAnyH_take (i := 6) (v := ?v18x6) rfl (by kernel_rfl) (by kernel_rfl) (by kernel_rfl) (fun _ _ _ h => h) (Or.inl ⟨by rfl, ?hy18x6⟩) (by assumption) ?rest18x6
      case hy18x6 => intro w hSw; obtain ⟨s1, s2⟩ := hSw; go_simp <;> with_reducible rfl
      simp only [Act.put, List.getElem_toArray, List.getElem_cons_zero, List.getElem_cons_succ, List.setIfInBounds_toArray, List.set_cons_zero, List.set_cons_succ]
      refine wpAnyH_take (i := 7) (v := ?v19x7) rfl (by kernel_rfl) (by kernel_rfl) (by kernel_rfl) (fun _ _ _ h => h) (Or.inl ⟨by rfl, ?hy19x7⟩) (by assumption) ?rest19x7
      case hy19x7 => intro w hSw; obtain ⟨s1, s2⟩ := hSw; go_simp <;> with_reducible rfl
      simp only [Act.put, List.getElem_toArray, List.getElem_cons_zero, List.getElem_cons_succ, List.setIfInBounds_toArray, List.set_cons_zero, List.set_cons_succ]
      refine wpAnyH_take (i := 8) (v := ?v20x8) rfl (by kernel_rfl) (by kernel_rfl) (by kernel_rfl) (fun _ _ _ h => h) (Or.inl ⟨by rfl, ?hy20x8⟩) (by assumption) ?rest20x8
      case hy20x8 => intro w hSw; obtain ⟨s1, s2⟩ := hSw; go_simp <;> with_reducible rfl
      simp only [Act.put, List.getElem_toArray, List.getElem_cons_zero, List.getElem_cons_succ, List.setIfInBounds_toArray, List.set_cons_zero, List.set_cons_succ]
      refine wpAnyH_take (i := 9) (v := ?v21x9) rfl (by kernel_rfl) (by kernel_rfl) (by kernel_rfl) (fun _ _ _ h => h) (Or.inl ⟨by rfl, ?hy21x9⟩) (by assumption) ?rest21x9
      case hy21x9 => intro w hSw; obtain ⟨s1, s2⟩ := hSw; go_simp <;> with_reducible rfl
      simp only [Act.put, List.getElem_toArray, List.getElem_cons_zero, List.getElem_cons_succ, List.setIfInBounds_toArray, List.set_cons_zero, List.set_cons_succ]
      refine wpAnyH_take (i := 10) (v := ?v22x10) rfl (by kernel_rfl) (by kernel_rfl) (by kernel_rfl) (fun _ _ _ h => h) (Or.inl ⟨by rfl, ?hy22x10⟩) (by assumption) ?rest22x10
      case hy22x10 => intro w hSw; obtain ⟨s1, s2⟩ := hSw; go_simp <;> with_reducible rfl
      simp only [Act.put, List.getElem_toArray, List.getElem_cons_zero, List.getElem_cons_succ, List.setIfInBounds_toArray, List.set_cons_zero, List.set_cons_succ]
      refine wpAnyH_take (i := 11) (v := ?v23x11) rfl (by kernel_rfl) (by kernel_rfl) (by kernel_rfl) (fun _ _ _ h => h) (Or.inl ⟨by rfl, ?hy23x11⟩) (by assumption) ?rest23x11
      case hy23x11 => intro w hSw; obtain ⟨s1, s2⟩ := hSw; go_simp <;> with_reducible rfl
      simp only [Act.put, List.getElem_toArray, List.getElem_cons_zero, List.getElem_cons_succ, List.setIfInBounds_toArray, List.set_cons_zero, List.set_cons_succ]
      refine wpAnyH_take (i := 12) (v := ?v24x12) rfl (by kernel_rfl) (by kernel_rfl) (by kernel_rfl) (fun _ _ _ h => h) (Or.inl ⟨by rfl, ?hy24x12⟩) (by assumption) ?rest24x12
      case hy24x12 => intro w hSw; obtain ⟨s1, s2⟩ := hSw; go_simp <;> with_reducible rfl
      simp only [Act.put, List.getElem_toArray, List.getElem_cons_zero, List.getElem_cons_succ, List.setIfInBounds_toArray, List.set_cons_zero, List.set_cons_succ]
      refine wpAnyH_done (by kernel_rfl) ?_ _
      refine hKx _ _ ?_
      gi_wp2
      have hKD : y1.heap[D]? = some (.deferred (some [])) := by
        have hl := (Array.getElem?_eq_some_iff.1 (unhide HDD).1).1
        exact ((unhide HQ).block D hl).trans (unhide HDD).1
      refine ⟨by simp, .inl ⟨_, _, rfl, run_takeDeferred hKD, ?_⟩⟩
      refine ⟨.bool (decide (V.n < 2 * V.cnt)), ?_, by rw [hyv]; rfl, ((unhide HB).drew.trans ((unhide HQ).mono (unhide HB).size)).trans (belowK_b (w := w) (Nat.le_refl _) _ D _ _ (by have := (unhide HDD).2; omega) hKD rfl rfl)⟩
      simp [results, Try.results18, go_sem]
  case stop =>
    rintro D c pre W _ _ h _
    exact h.elim

theorem won_any {w : World} {h : Nat} {V : Vt} (H : IsV w h V) (O : V.Ok) :
    Calls Try.prog 18 #[P0 h] w fun e w' => e = .returned (.bool V.won) ∧ Below w.heap.size w w' :=
  won_core O.le (V.vt V.self) (fun _ => ⟨h, rfl, H.lt, H.c0⟩) (fun _ hx => votes_any (H.below hx)) (fun _ hx => standing_yes (H.below hx) O)

theorem won_no {w : World} {v : Value} (H : IsZero w v) :
    Calls Try.prog 18 #[v] w fun e w' => e = .returned (.bool false) ∧ Below w.heap.size w w' :=
  won_core (V := ⟨0, 0, 0, 0, fun _ => false⟩) (by decide) false (fun h => by cases h) (fun _ hx => votes_no (H.below hx)) (fun _ hx => standing_no (H.below hx).no)

end Go.Proofs.Ytpadbbkklmgimaa
