/- step of both stores: Put, Erase, Get. -/
import Derived.Test.YtdcmkapfcmibeaaDoorP4
import Derived.Test.YtdcmkapfcmibeaaDoorRQ
namespace Go.Proofs.YtdcmkapfcmibeaaDoor
open Go.RowKit Go.Shelf
attribute [local go_sem] Oper.semAt_some
set_option maxRecDepth 100000

theorem TwD.from {b0 sb hd base xb : Nat} {L : List Nd} {w w1 w2 : World} (hb : Below w.heap.size w w1) (h : TwD b0 sb hd base xb L w1 w2) : TwD b0 sb hd base xb L w w2 := by
  obtain ⟨L', luck', ht, hn, hU⟩ := h
  refine ⟨L', luck', ht, fun n hm => (hn n hm).imp id fun c => Nat.le_trans hb.size c, hU.os.trans hb.os, hU.tape.trans hb.tape, hU.output.trans hb.output, Nat.le_trans hb.size hU.size, fun k hk hno => ?_⟩
  have e := hb.block k hk
  refine (hU.block k (Nat.lt_of_lt_of_le hk hb.size) fun c => hno ?_).trans e
  rcases c with c | c | ⟨cs, c, hc⟩
  · exact .inl c
  · exact .inr (.inl c)
  · rw [e] at c; exact .inr (.inr ⟨cs, c, hc⟩)
theorem TwD.below {b0 sb hd base xb : Nat} {L : List Nd} {w w1 w2 : World} (h : TwD b0 sb hd base xb L w w1) (hb : Below w1.heap.size w1 w2) : TwD b0 sb hd base xb L w w2 := by
  obtain ⟨L', luck', ht, hn, hU⟩ := h
  exact ⟨L', luck', ht.below hb, hn, hU.trans ((Upd.of hb).less hU.size)⟩
theorem eql_cell (x0 x1 x2 x3 y0 y1 y2 y3 : Int) (w : World) : (binOp .eql 32 (.agg #[.int .i32 x0, .int .i64 x1, .int .i64 x2, .int .i64 x3]) (.agg #[.int .i32 y0, .int .i64 y1, .int .i64 y2, .int .i64 y3])).run Tryd.prog w = .ok (.bool (decide ((((x0, x1), x2, x3) : Pr) = ((y0, y1), y2, y3)))) w := by
  rw [run_eql_struct, show (10000 : Nat) = 9997 + 3 from rfl, eq_cell]
  rfl
/-- A box of another type outlives a step. -/
theorem TwD.box {b0 sb hd base xb : Nat} {L : List Nd} {luck : Int} {w w' : World} (ht : Tw w b0 sb hd base xb L luck) (h : TwD b0 sb hd base xb L w w') {k T : Nat} {cs : Array Value} (hk : w.heap[k]? = some (.cells cs T)) (h1 : T ≠ 75) (h2 : T ≠ 85) (h3 : T ≠ 69) (h4 : T ≠ 32) : w'.heap[k]? = some (.cells cs T) := by
  obtain ⟨L', luck', _, _, hU⟩ := h
  refine (hU.block k (Array.getElem?_eq_some_iff.1 hk).1 fun c => ?_).trans hk
  rcases c with c | rfl | ⟨cs', c, _⟩
  · obtain ⟨cs', T', e, hT⟩ := ht.sk.kind c
    rw [hk] at e
    simp only [Option.some.injEq, Obj.cells.injEq] at e
    rcases hT with hT | hT
    · exact h1 (e.2.1.trans hT)
    · exact h2 (e.2.1.trans hT)
  · obtain ⟨vl, vh, hx, _⟩ := ht.rf.at_
    rw [hk] at hx
    simp only [Option.some.injEq, Obj.cells.injEq] at hx
    exact h3 hx.2.1
  · rw [hk] at c
    simp only [Option.some.injEq, Obj.cells.injEq] at c
    exact h4 c.2.1

set_option maxHeartbeats 2000000 in
theorem step_put {w : World} {b0 sb hd base xb : Nat} {L : List Nd} {luck : Int} (h : Tw w b0 sb hd base xb L luck) (hT : Tab w) (hb0 : 0 < b0) (hw : 0 < w.heap.size) (o : Opn) (hok : OkO o) (hdo : o.1 = 0) :
    Calls Tryd.prog 12 #[PN sb, PN xb, .agg (oC o).toArray] w fun e w' => e = .returned (.tuple #[PN sb, PN xb, .bool true]) ∧ TwD b0 sb hd base xb L w w' := by
  obtain ⟨d, ⟨⟨kt, kr⟩, v, s⟩, ⟨tt, tr⟩, sd, st⟩ := o
  obtain ⟨bo, hbo⟩ : ∃ x, w.heap.size = x := ⟨_, rfl⟩
  obtain ⟨W1, hW1⟩ : ∃ W, w.alloc (.cells #[.int .i64 d, .int .i32 kt, .int .i64 kr, .int .i64 v, .int .i64 s, .int .i32 tt, .int .i64 tr, .int .u64 sd, .int .i64 st] 34) = W := ⟨_, rfl⟩
  have hb1 : Below w.heap.size w W1 := by rw [← hW1]; exact (Below.refl _ _).alloc (Nat.le_refl _) _
  have kk : W1.heap[bo]? = some (.cells #[.int .i64 d, .int .i32 kt, .int .i64 kr, .int .i64 v, .int .i64 s, .int .i32 tt, .int .i64 tr, .int .u64 sd, .int .i64 st] 34) := by rw [← hW1, ← hbo]; exact heap_new1 _ _
  have h1 := h.below hb1
  have c0 : W1.cell? ⟨bo, 0, none⟩ = some (.int .i64 d) := cell_at kk
  have HSX : Hid (∀ x : World, x.heap[bo]? = some (.cells #[.int .i64 d, .int .i32 kt, .int .i64 kr, .int .i64 v, .int .i64 s, .int .i32 tt, .int .i64 tr, .int .u64 sd, .int .i64 st] 34) → x.cell? ⟨bo, 1, none⟩ = some (.int .i32 kt) ∧ x.cell? ⟨bo, 2, none⟩ = some (.int .i64 kr) ∧ x.cell? ⟨bo, 3, none⟩ = some (.int .i64 v) ∧ x.cell? ⟨bo, 4, none⟩ = some (.int .i64 s)) := fun x hx => ⟨cell_at hx, cell_at hx, cell_at hx, cell_at hx⟩
  have hT1 : Tab W1.drew := hT.keep (hb1.block 0 (by omega))
  have h1d : Tw W1.drew b0 sb hd base xb L luck := h1.below (Below.refl _ _).drew
  obtain ⟨r, hP⟩ := tw_put h1d hT1 hb0 ((kt, kr), v, s) hok.k.1 hok.k.2 hok.v
  have HP : Hid (Calls _ _ _ _ _) := hP
  have HH := hide (And.intro h1d (And.intro hb1 kk))
  have hrr : (r == r) = true := by simp
  have hsz : bo < W1.heap.size := (Array.getElem?_eq_some_iff.1 kk).1
  have hnb : ¬ Bl sb hd L bo := fun c => by have := h.sk.lt c; omega
  have HSZ := hide (And.intro hsz hnb)
  simp only at hdo
  have hd0 : (d == 0) = true := by simpa using hdo
  clear h h1 h1d hb1 kk hP hsz hnb hdo hok
  simp only [oC]
  go_enter Tryd.func12, Tryd.ntmps12
  go_wp2_with (rw [hW1])
  try rw [hW1]
  try rw [hbo]
  refine wp_region_held_drew (S := fun x => x.cell? ⟨bo, 1, none⟩ = some (.int .i32 kt) ∧ x.cell? ⟨bo, 2, none⟩ = some (.int .i64 kr) ∧ x.cell? ⟨bo, 3, none⟩ = some (.int .i64 v) ∧ x.cell? ⟨bo, 4, none⟩ = some (.int .i64 s)) (by kernel_rfl) (unhide HSX _ (unhide HH).2.2) (fun hHeld => ?_)
  refine wpAnyH_take (i := 0) (v := ?v1x0) rfl (by kernel_rfl) (by kernel_rfl) (by kernel_rfl) (fun _ _ _ h => h) (Or.inl ⟨by rfl, ?hy1x0⟩) (by assumption) ?rest1x0
  case hy1x0 => intro w hSw; obtain ⟨s1, s2, s3, s4⟩ := hSw; go_simp <;> with_reducible rfl
  simp only [Act.put, List.getElem_toArray, List.getElem_cons_zero, List.setIfInBounds_toArray, List.set_cons_zero, List.set_cons_succ]
  refine wpAnyH_take (i := 1) (v := ?v2x1) rfl (by kernel_rfl) (by kernel_rfl) (by kernel_rfl) (fun _ _ _ h => h) (Or.inl ⟨by rfl, ?hy2x1⟩) (by assumption) ?rest2x1
  case hy2x1 => intro w hSw; obtain ⟨s1, s2, s3, s4⟩ := hSw; go_simp <;> with_reducible rfl
  simp only [Act.put, List.getElem_toArray, List.getElem_cons_zero, List.getElem_cons_succ, List.setIfInBounds_toArray, List.set_cons_zero, List.set_cons_succ]
  refine wpAnyH_take (i := 2) (v := ?v3x2) rfl (by kernel_rfl) (by kernel_rfl) (by kernel_rfl) (fun _ _ _ h => h) (Or.inl ⟨by rfl, ?hy3x2⟩) (by assumption) ?rest3x2
  case hy3x2 => intro w hSw; obtain ⟨s1, s2, s3, s4⟩ := hSw; go_simp <;> with_reducible rfl
  simp only [Act.put, List.getElem_toArray, List.getElem_cons_zero, List.getElem_cons_succ, List.setIfInBounds_toArray, List.set_cons_zero, List.set_cons_succ]
  refine wpAnyH_take (i := 3) (v := ?v4x3) rfl (by kernel_rfl) (by kernel_rfl) (by kernel_rfl) (fun _ _ _ h => h) (Or.inl ⟨by rfl, ?hy4x3⟩) (by assumption) ?rest4x3
  case hy4x3 => intro w hSw; obtain ⟨s1, s2, s3, s4⟩ := hSw; go_simp <;> with_reducible rfl
  simp only [Act.put, List.getElem_toArray, List.getElem_cons_zero, List.getElem_cons_succ, List.setIfInBounds_toArray, List.set_cons_zero, List.set_cons_succ]
  refine wpAnyH_take (i := 4) (v := (.agg #[.int .i32 kt, .int .i64 kr, .int .i64 v, .int .i64 s])) rfl (by kernel_rfl) (by kernel_rfl) (by kernel_rfl) (fun _ _ _ h => h) (Or.inl ⟨by rfl, ?hy5x4⟩) (by assumption) ?rest5x4
  case hy5x4 => intro w hSw; obtain ⟨s1, s2, s3, s4⟩ := hSw; go_simp <;> with_reducible rfl
  simp only [Act.put, List.getElem_toArray, List.getElem_cons_zero, List.getElem_cons_succ, List.setIfInBounds_toArray, List.set_cons_zero, List.set_cons_succ]
  refine wpAnyH_take (i := 6) (v := ?v6x6) rfl (by kernel_rfl) (by kernel_rfl) (by kernel_rfl) (fun _ _ _ h => h) (Or.inl ⟨by rfl, ?hy6x6⟩) (by assumption) ?rest6x6
  case hy6x6 => intro w hSw; obtain ⟨s1, s2, s3, s4⟩ := hSw; go_simp <;> with_reducible rfl
  simp only [Act.put, List.getElem_toArray, List.getElem_cons_zero, List.getElem_cons_succ, List.setIfInBounds_toArray, List.set_cons_zero, List.set_cons_succ]
  refine wpAnyH_take (i := 7) (v := ?v7x7) rfl (by kernel_rfl) (by kernel_rfl) (by kernel_rfl) (fun _ _ _ h => h) (Or.inl ⟨by rfl, ?hy7x7⟩) (by assumption) ?rest7x7
  case hy7x7 => intro w hSw; obtain ⟨s1, s2, s3, s4⟩ := hSw; go_simp <;> with_reducible rfl
  simp only [Act.put, List.getElem_toArray, List.getElem_cons_zero, List.getElem_cons_succ, List.setIfInBounds_toArray, List.set_cons_zero, List.set_cons_succ]
  refine wpAnyH_take (i := 8) (v := (.agg #[.int .i32 kt, .int .i64 kr, .int .i64 v, .int .i64 s])) rfl (by kernel_rfl) (by kernel_rfl) (by kernel_rfl) (fun _ _ _ h => h) (Or.inl ⟨by rfl, ?hy8x8⟩) (by assumption) ?rest8x8
  case hy8x8 => intro w hSw; obtain ⟨s1, s2, s3, s4⟩ := hSw; go_simp <;> with_reducible rfl
  simp only [Act.put, List.getElem_toArray, List.getElem_cons_zero, List.getElem_cons_succ, List.setIfInBounds_toArray, List.set_cons_zero, List.set_cons_succ]
  refine wpAnyH_ready (rs := [5]) (by kernel_rfl) (by simp) ?_
  refine AllReadyH.cons rfl (fun K hK => ?_) AllReadyH.nil
  go_simp
  refine (unhide HP).mono ?_
  rintro e w1 ⟨rfl, hz1, hk1, hn1⟩
  refine hK _ _ (unhide HSX _ ((hk1 bo (unhide HSZ).1 (unhide HSZ).2).trans (unhide HH).2.2)) ?_
  clear hK hHeld
  have HN1 := hide hn1
  clear hz1 hk1 hn1
  intro hHeld
  refine wpAnyH_ready (rs := [9]) (by kernel_rfl) (by simp) ?_
  refine AllReadyH.cons rfl (fun K hK => ?_) AllReadyH.nil
  go_simp
  refine (unhide HN1 _ (Below.refl _ _)).mono ?_
  rintro e w2 ⟨rfl, hD⟩
  refine hK _ _ (unhide HSX _ (TwD.box (unhide HH).1 hD (unhide HH).2.2 (by decide) (by decide) (by decide) (by decide))) ?_
  clear hK hHeld
  have HDD := hide hD
  clear hD
  intro hHeld
  refine wpAnyH_take (i := 10) (v := (.bool true)) rfl (by kernel_rfl) (by kernel_rfl) (by kernel_rfl) (fun _ _ _ h => h) (Or.inl ⟨by rfl, ?hy9x10⟩) (by assumption) ?rest9x10
  case hy9x10 => intro w hSw; obtain ⟨s1, s2, s3, s4⟩ := hSw; go_simp <;> with_reducible rfl
  simp only [Act.put, List.getElem_toArray, List.getElem_cons_zero, List.getElem_cons_succ, List.setIfInBounds_toArray, List.set_cons_zero, List.set_cons_succ]
  refine wpAnyH_take (i := 11) (v := ?v10x11) rfl (by kernel_rfl) (by kernel_rfl) (by kernel_rfl) (fun _ _ _ h => h) (Or.inl ⟨by rfl, ?hy10x11⟩) (by assumption) ?rest10x11
  case hy10x11 => intro w hSw; obtain ⟨s1, s2, s3, s4⟩ := hSw; go_simp <;> with_reducible rfl
  simp only [Act.put, List.getElem_toArray, List.getElem_cons_zero, List.getElem_cons_succ, List.setIfInBounds_toArray, List.set_cons_zero, List.set_cons_succ]
  refine wpAnyH_take (i := 12) (v := ?v11x12) rfl (by kernel_rfl) (by kernel_rfl) (by kernel_rfl) (fun _ _ _ h => h) (Or.inl ⟨by rfl, ?hy11x12⟩) (by assumption) ?rest11x12
  case hy11x12 => intro w hSw; obtain ⟨s1, s2, s3, s4⟩ := hSw; go_simp <;> with_reducible rfl
  simp only [Act.put, List.getElem_toArray, List.getElem_cons_zero, List.getElem_cons_succ, List.setIfInBounds_toArray, List.set_cons_zero, List.set_cons_succ]
  refine wpAnyH_take (i := 13) (v := ?v12x13) rfl (by kernel_rfl) (by kernel_rfl) (by kernel_rfl) (fun _ _ _ h => h) (Or.inl ⟨by rfl, ?hy12x13⟩) (by assumption) ?rest12x13
  case hy12x13 => intro w hSw; obtain ⟨s1, s2, s3, s4⟩ := hSw; go_simp <;> with_reducible rfl
  simp only [Act.put, List.getElem_toArray, List.getElem_cons_zero, List.getElem_cons_succ, List.setIfInBounds_toArray, List.set_cons_zero, List.set_cons_succ]
  refine wpAnyH_done (by kernel_rfl) ?_ _
  go_wp2
  refine bodyPost_ret (results_tmp3 rfl _ _ _) rfl ⟨rfl, ?_⟩
  exact TwD.from (unhide HH).2.1 (TwD.from (Below.refl _ _).drew (unhide HDD))

set_option maxHeartbeats 2000000 in
theorem step_erase {w : World} {b0 sb hd base xb : Nat} {L : List Nd} {luck : Int} (h : Tw w b0 sb hd base xb L luck) (o : Opn) (hok : OkO o) (hdo : o.1 = 1) :
    Calls Tryd.prog 12 #[PN sb, PN xb, .agg (oC o).toArray] w fun e w' => e = .returned (.tuple #[PN sb, PN xb, .bool true]) ∧ TwD b0 sb hd base xb L w w' := by
  obtain ⟨d, ⟨⟨kt, kr⟩, v, s⟩, ⟨tt, tr⟩, sd, st⟩ := o
  obtain ⟨bo, hbo⟩ : ∃ x, w.heap.size = x := ⟨_, rfl⟩
  obtain ⟨W1, hW1⟩ : ∃ W, w.alloc (.cells #[.int .i64 d, .int .i32 kt, .int .i64 kr, .int .i64 v, .int .i64 s, .int .i32 tt, .int .i64 tr, .int .u64 sd, .int .i64 st] 34) = W := ⟨_, rfl⟩
  have hb1 : Below w.heap.size w W1 := by rw [← hW1]; exact (Below.refl _ _).alloc (Nat.le_refl _) _
  have kk : W1.heap[bo]? = some (.cells #[.int .i64 d, .int .i32 kt, .int .i64 kr, .int .i64 v, .int .i64 s, .int .i32 tt, .int .i64 tr, .int .u64 sd, .int .i64 st] 34) := by rw [← hW1, ← hbo]; exact heap_new1 _ _
  have h1 := h.below hb1
  have c0 : W1.cell? ⟨bo, 0, none⟩ = some (.int .i64 d) := cell_at kk
  have HSX : Hid (∀ x : World, x.heap[bo]? = some (.cells #[.int .i64 d, .int .i32 kt, .int .i64 kr, .int .i64 v, .int .i64 s, .int .i32 tt, .int .i64 tr, .int .u64 sd, .int .i64 st] 34) → x.cell? ⟨bo, 1, none⟩ = some (.int .i32 kt) ∧ x.cell? ⟨bo, 2, none⟩ = some (.int .i64 kr) ∧ x.cell? ⟨bo, 3, none⟩ = some (.int .i64 v) ∧ x.cell? ⟨bo, 4, none⟩ = some (.int .i64 s)) := fun x hx => ⟨cell_at hx, cell_at hx, cell_at hx, cell_at hx⟩
  have h1d : Tw W1.drew b0 sb hd base xb L luck := h1.below (Below.refl _ _).drew
  obtain ⟨r, hP⟩ := tw_erase h1d (kt, kr)
  have HP : Hid (Calls _ _ _ _ _) := hP
  have HH := hide (And.intro h1d (And.intro hb1 kk))
  have hrr : (r == r) = true := by simp
  have hsz : bo < W1.heap.size := (Array.getElem?_eq_some_iff.1 kk).1
  have hnb : ¬ Bl sb hd L bo := fun c => by have := h.sk.lt c; omega
  have HSZ := hide (And.intro hsz hnb)
  simp only at hdo
  have hd0 : (d == 0) = false := by simp; omega
  have hd1 : (d == 1) = true := by simpa using hdo
  clear h h1 h1d hb1 kk hP hsz hnb hdo hok
  simp only [oC]
  go_enter Tryd.func12, Tryd.ntmps12
  go_wp2_with (rw [hW1])
  try rw [hW1]
  try rw [hbo]
  refine wp_region_held_drew (S := fun x => x.cell? ⟨bo, 1, none⟩ = some (.int .i32 kt) ∧ x.cell? ⟨bo, 2, none⟩ = some (.int .i64 kr) ∧ x.cell? ⟨bo, 3, none⟩ = some (.int .i64 v) ∧ x.cell? ⟨bo, 4, none⟩ = some (.int .i64 s)) (by kernel_rfl) (unhide HSX _ (unhide HH).2.2) (fun hHeld => ?_)
  refine wpAnyH_take (i := 0) (v := ?v13x0) rfl (by kernel_rfl) (by kernel_rfl) (by kernel_rfl) (fun _ _ _ h => h) (Or.inl ⟨by rfl, ?hy13x0⟩) (by assumption) ?rest13x0
  case hy13x0 => intro w hSw; obtain ⟨s1, s2, s3, s4⟩ := hSw; go_simp <;> with_reducible rfl
  simp only [Act.put, List.getElem_toArray, List.getElem_cons_zero, List.setIfInBounds_toArray, List.set_cons_zero, List.set_cons_succ]
  refine wpAnyH_take (i := 1) (v := ?v14x1) rfl (by kernel_rfl) (by kernel_rfl) (by kernel_rfl) (fun _ _ _ h => h) (Or.inl ⟨by rfl, ?hy14x1⟩) (by assumption) ?rest14x1
  case hy14x1 => intro w hSw; obtain ⟨s1, s2, s3, s4⟩ := hSw; go_simp <;> with_reducible rfl
  simp only [Act.put, List.getElem_toArray, List.getElem_cons_zero, List.getElem_cons_succ, List.setIfInBounds_toArray, List.set_cons_zero, List.set_cons_succ]
  refine wpAnyH_take (i := 2) (v := ?v15x2) rfl (by kernel_rfl) (by kernel_rfl) (by kernel_rfl) (fun _ _ _ h => h) (Or.inl ⟨by rfl, ?hy15x2⟩) (by assumption) ?rest15x2
  case hy15x2 => intro w hSw; obtain ⟨s1, s2, s3, s4⟩ := hSw; go_simp <;> with_reducible rfl
  simp only [Act.put, List.getElem_toArray, List.getElem_cons_zero, List.getElem_cons_succ, List.setIfInBounds_toArray, List.set_cons_zero, List.set_cons_succ]
  refine wpAnyH_take (i := 3) (v := ?v16x3) rfl (by kernel_rfl) (by kernel_rfl) (by kernel_rfl) (fun _ _ _ h => h) (Or.inl ⟨by rfl, ?hy16x3⟩) (by assumption) ?rest16x3
  case hy16x3 => intro w hSw; obtain ⟨s1, s2, s3, s4⟩ := hSw; go_simp <;> with_reducible rfl
  simp only [Act.put, List.getElem_toArray, List.getElem_cons_zero, List.getElem_cons_succ, List.setIfInBounds_toArray, List.set_cons_zero, List.set_cons_succ]
  refine wpAnyH_take (i := 4) (v := ?v17x4) rfl (by kernel_rfl) (by kernel_rfl) (by kernel_rfl) (fun _ _ _ h => h) (Or.inl ⟨by rfl, ?hy17x4⟩) (by assumption) ?rest17x4
  case hy17x4 => intro w hSw; obtain ⟨s1, s2, s3, s4⟩ := hSw; go_simp <;> with_reducible rfl
  simp only [Act.put, List.getElem_toArray, List.getElem_cons_zero, List.getElem_cons_succ, List.setIfInBounds_toArray, List.set_cons_zero, List.set_cons_succ]
  refine wpAnyH_take (i := 5) (v := (.agg #[.int .i32 kt, .int .i64 kr])) rfl (by kernel_rfl) (by kernel_rfl) (by kernel_rfl) (fun _ _ _ h => h) (Or.inl ⟨by rfl, ?hy18x5⟩) (by assumption) ?rest18x5
  case hy18x5 => intro w hSw; obtain ⟨s1, s2, s3, s4⟩ := hSw; go_simp <;> with_reducible rfl
  simp only [Act.put, List.getElem_toArray, List.getElem_cons_zero, List.getElem_cons_succ, List.setIfInBounds_toArray, List.set_cons_zero, List.set_cons_succ]
  refine wpAnyH_take (i := 7) (v := ?v19x7) rfl (by kernel_rfl) (by kernel_rfl) (by kernel_rfl) (fun _ _ _ h => h) (Or.inl ⟨by rfl, ?hy19x7⟩) (by assumption) ?rest19x7
  case hy19x7 => intro w hSw; obtain ⟨s1, s2, s3, s4⟩ := hSw; go_simp <;> with_reducible rfl
  simp only [Act.put, List.getElem_toArray, List.getElem_cons_zero, List.getElem_cons_succ, List.setIfInBounds_toArray, List.set_cons_zero, List.set_cons_succ]
  refine wpAnyH_take (i := 8) (v := ?v20x8) rfl (by kernel_rfl) (by kernel_rfl) (by kernel_rfl) (fun _ _ _ h => h) (Or.inl ⟨by rfl, ?hy20x8⟩) (by assumption) ?rest20x8
  case hy20x8 => intro w hSw; obtain ⟨s1, s2, s3, s4⟩ := hSw; go_simp <;> with_reducible rfl
  simp only [Act.put, List.getElem_toArray, List.getElem_cons_zero, List.getElem_cons_succ, List.setIfInBounds_toArray, List.set_cons_zero, List.set_cons_succ]
  refine wpAnyH_take (i := 9) (v := ?v21x9) rfl (by kernel_rfl) (by kernel_rfl) (by kernel_rfl) (fun _ _ _ h => h) (Or.inl ⟨by rfl, ?hy21x9⟩) (by assumption) ?rest21x9
  case hy21x9 => intro w hSw; obtain ⟨s1, s2, s3, s4⟩ := hSw; go_simp <;> with_reducible rfl
  simp only [Act.put, List.getElem_toArray, List.getElem_cons_zero, List.getElem_cons_succ, List.setIfInBounds_toArray, List.set_cons_zero, List.set_cons_succ]
  refine wpAnyH_take (i := 10) (v := (.agg #[.int .i32 kt, .int .i64 kr])) rfl (by kernel_rfl) (by kernel_rfl) (by kernel_rfl) (fun _ _ _ h => h) (Or.inl ⟨by rfl, ?hy22x10⟩) (by assumption) ?rest22x10
  case hy22x10 => intro w hSw; obtain ⟨s1, s2, s3, s4⟩ := hSw; go_simp <;> with_reducible rfl
  simp only [Act.put, List.getElem_toArray, List.getElem_cons_zero, List.getElem_cons_succ, List.setIfInBounds_toArray, List.set_cons_zero, List.set_cons_succ]
  refine wpAnyH_ready (rs := [6]) (by kernel_rfl) (by simp) ?_
  refine AllReadyH.cons rfl (fun K hK => ?_) AllReadyH.nil
  go_simp
  refine (unhide HP).mono ?_
  rintro e w1 ⟨rfl, hz1, hk1, hn1⟩
  refine hK _ _ (unhide HSX _ ((hk1 bo (unhide HSZ).1 (unhide HSZ).2).trans (unhide HH).2.2)) ?_
  clear hK hHeld
  have HN1 := hide hn1
  clear hz1 hk1 hn1
  intro hHeld
  refine wpAnyH_ready (rs := [11]) (by kernel_rfl) (by simp) ?_
  refine AllReadyH.cons rfl (fun K hK => ?_) AllReadyH.nil
  go_simp
  refine (unhide HN1 _ (Below.refl _ _)).mono ?_
  rintro e w2 ⟨rfl, hD⟩
  refine hK _ _ (unhide HSX _ (TwD.box (unhide HH).1 hD (unhide HH).2.2 (by decide) (by decide) (by decide) (by decide))) ?_
  clear hK hHeld
  have HDD := hide hD
  clear hD
  intro hHeld
  refine wpAnyH_take (i := 12) (v := (.bool true)) rfl (by kernel_rfl) (by kernel_rfl) (by kernel_rfl) (fun _ _ _ h => h) (Or.inl ⟨by rfl, ?hy23x12⟩) (by assumption) ?rest23x12
  case hy23x12 => intro w hSw; obtain ⟨s1, s2, s3, s4⟩ := hSw; go_simp <;> with_reducible rfl
  simp only [Act.put, List.getElem_toArray, List.getElem_cons_zero, List.getElem_cons_succ, List.setIfInBounds_toArray, List.set_cons_zero, List.set_cons_succ]
  refine wpAnyH_take (i := 13) (v := ?v24x13) rfl (by kernel_rfl) (by kernel_rfl) (by kernel_rfl) (fun _ _ _ h => h) (Or.inl ⟨by rfl, ?hy24x13⟩) (by assumption) ?rest24x13
  case hy24x13 => intro w hSw; obtain ⟨s1, s2, s3, s4⟩ := hSw; go_simp <;> with_reducible rfl
  simp only [Act.put, List.getElem_toArray, List.getElem_cons_zero, List.getElem_cons_succ, List.setIfInBounds_toArray, List.set_cons_zero, List.set_cons_succ]
  refine wpAnyH_take (i := 14) (v := ?v25x14) rfl (by kernel_rfl) (by kernel_rfl) (by kernel_rfl) (fun _ _ _ h => h) (Or.inl ⟨by rfl, ?hy25x14⟩) (by assumption) ?rest25x14
  case hy25x14 => intro w hSw; obtain ⟨s1, s2, s3, s4⟩ := hSw; go_simp <;> with_reducible rfl
  simp only [Act.put, List.getElem_toArray, List.getElem_cons_zero, List.getElem_cons_succ, List.setIfInBounds_toArray, List.set_cons_zero, List.set_cons_succ]
  refine wpAnyH_take (i := 15) (v := ?v26x15) rfl (by kernel_rfl) (by kernel_rfl) (by kernel_rfl) (fun _ _ _ h => h) (Or.inl ⟨by rfl, ?hy26x15⟩) (by assumption) ?rest26x15
  case hy26x15 => intro w hSw; obtain ⟨s1, s2, s3, s4⟩ := hSw; go_simp <;> with_reducible rfl
  simp only [Act.put, List.getElem_toArray, List.getElem_cons_zero, List.getElem_cons_succ, List.setIfInBounds_toArray, List.set_cons_zero, List.set_cons_succ]
  refine wpAnyH_done (by kernel_rfl) ?_ _
  go_wp2
  refine bodyPost_ret (results_tmp3 rfl _ _ _) rfl ⟨rfl, ?_⟩
  exact TwD.from (unhide HH).2.1 (TwD.from (Below.refl _ _).drew (unhide HDD))

set_option maxHeartbeats 2000000 in
theorem step_get {w : World} {b0 sb hd base xb : Nat} {L : List Nd} {luck : Int} (h : Tw w b0 sb hd base xb L luck) (o : Opn) (hdo : o.1 ≠ 0 ∧ o.1 ≠ 1 ∧ o.1 ≠ 3 ∧ o.1 ≠ 4) :
    Calls Tryd.prog 12 #[PN sb, PN xb, .agg (oC o).toArray] w fun e w' => e = .returned (.tuple #[PN sb, PN xb, .bool true]) ∧ TwD b0 sb hd base xb L w w' := by
  obtain ⟨d, ⟨⟨kt, kr⟩, v, s⟩, ⟨tt, tr⟩, sd, st⟩ := o
  obtain ⟨bo, hbo⟩ : ∃ x, w.heap.size = x := ⟨_, rfl⟩
  obtain ⟨W1, hW1⟩ : ∃ W, w.alloc (.cells #[.int .i64 d, .int .i32 kt, .int .i64 kr, .int .i64 v, .int .i64 s, .int .i32 tt, .int .i64 tr, .int .u64 sd, .int .i64 st] 34) = W := ⟨_, rfl⟩
  have hb1 : Below w.heap.size w W1 := by rw [← hW1]; exact (Below.refl _ _).alloc (Nat.le_refl _) _
  have kk : W1.heap[bo]? = some (.cells #[.int .i64 d, .int .i32 kt, .int .i64 kr, .int .i64 v, .int .i64 s, .int .i32 tt, .int .i64 tr, .int .u64 sd, .int .i64 st] 34) := by rw [← hW1, ← hbo]; exact heap_new1 _ _
  have h1 := h.below hb1
  have c0 : W1.cell? ⟨bo, 0, none⟩ = some (.int .i64 d) := cell_at kk
  have HSX : Hid (∀ x : World, x.heap[bo]? = some (.cells #[.int .i64 d, .int .i32 kt, .int .i64 kr, .int .i64 v, .int .i64 s, .int .i32 tt, .int .i64 tr, .int .u64 sd, .int .i64 st] 34) → x.cell? ⟨bo, 1, none⟩ = some (.int .i32 kt) ∧ x.cell? ⟨bo, 2, none⟩ = some (.int .i64 kr) ∧ x.cell? ⟨bo, 3, none⟩ = some (.int .i64 v) ∧ x.cell? ⟨bo, 4, none⟩ = some (.int .i64 s)) := fun x hx => ⟨cell_at hx, cell_at hx, cell_at hx, cell_at hx⟩
  obtain ⟨q, is, hG, hG2⟩ := tw_get h1 (kt, kr)
  obtain ⟨⟨⟨q0, q1⟩, q2, q3⟩, hq⟩ : ∃ q', q = q' := ⟨_, rfl⟩
  subst hq
  simp only at hdo hG hG2
  have HG := hide hG
  have HG2 := hide hG2
  have hd0 : (d == 0) = false := by simp; omega
  have hd1 : (d == 1) = false := by simp; omega
  have hd3 : (d == 3) = false := by simp; omega
  have hd4 : (d == 4) = false := by simp; omega
  have p1 : W1.cell? ⟨bo, 1, none⟩ = some (.int .i32 kt) := cell_at kk
  have p2 : W1.cell? ⟨bo, 2, none⟩ = some (.int .i64 kr) := cell_at kk
  have HH := hide (And.intro h (And.intro hb1 kk))
  have HE := hide (eql_cell q0 q1 q2 q3 q0 q1 q2 q3)
  have hiss : (is == is) = true := by simp
  clear h h1 hb1 kk hG hG2 hdo
  simp only [oC]
  go_enter Tryd.func12, Tryd.ntmps12
  go_wp2_with fail
  try rw [hW1]
  try rw [hbo]
  refine (unhide HG).mono ?_
  rintro e w1 ⟨rfl, hb2⟩
  clear hW1
  obtain ⟨h, hb1, kk⟩ := unhide HH
  obtain ⟨ab, hab⟩ : ∃ x, w1.heap.size = x := ⟨_, rfl⟩
  obtain ⟨Y1, hY1⟩ : ∃ Y, w1.alloc (.cells #[.int .i32 q0, .int .i64 q1, .int .i64 q2, .int .i64 q3] 32) = Y := ⟨_, rfl⟩
  have hb3 : Below w1.heap.size w1 Y1 := by rw [← hY1]; exact (Below.refl _ _).alloc (Nat.le_refl _) _
  have hbo1 : bo < W1.heap.size := (Array.getElem?_eq_some_iff.1 kk).1
  have hbY : Below W1.heap.size W1 Y1 := hb2.trans (hb3.mono hb2.size)
  have kk1 : Y1.heap[bo]? = some (.cells #[.int .i64 d, .int .i32 kt, .int .i64 kr, .int .i64 v, .int .i64 s, .int .i32 tt, .int .i64 tr, .int .u64 sd, .int .i64 st] 34) := (hbY.block bo hbo1).trans kk
  have ka : Y1.heap[ab]? = some (.cells #[.int .i32 q0, .int .i64 q1, .int .i64 q2, .int .i64 q3] 32) := by rw [← hY1, ← hab]; exact heap_new1 _ _
  have y1 : Y1.cell? ⟨bo, 1, none⟩ = some (.int .i32 kt) := cell_at kk1
  have y2 : Y1.cell? ⟨bo, 2, none⟩ = some (.int .i64 kr) := cell_at kk1
  have HGG := hide (unhide HG2 Y1 hbY)
  have HY1 := hide hY1
  have HK := hide (And.intro hbY ka)
  clear h hb1 kk hb2 hb3 hbo1 hbY kk1 ka hY1 p1 p2 c0
  go_wp2_with (rw [unhide HY1])
  try rw [hab]
  refine (unhide HGG).mono ?_
  rintro e w2 ⟨rfl, hb4⟩
  obtain ⟨hbY, ka⟩ := unhide HK
  obtain ⟨cb, hcb⟩ : ∃ x, w2.heap.size = x := ⟨_, rfl⟩
  obtain ⟨Y2, hY2⟩ : ∃ Y, w2.alloc (.cells #[.int .i32 q0, .int .i64 q1, .int .i64 q2, .int .i64 q3] 32) = Y := ⟨_, rfl⟩
  have hb5 : Below w2.heap.size w2 Y2 := by rw [← hY2]; exact (Below.refl _ _).alloc (Nat.le_refl _) _
  have hb6 : Below Y1.heap.size Y1 Y2 := hb4.trans (hb5.mono hb4.size)
  have ka2 : Y2.heap[ab]? = some (.cells #[.int .i32 q0, .int .i64 q1, .int .i64 q2, .int .i64 q3] 32) := (hb6.block ab (Array.getElem?_eq_some_iff.1 ka).1).trans ka
  have kc2 : Y2.heap[cb]? = some (.cells #[.int .i32 q0, .int .i64 q1, .int .i64 q2, .int .i64 q3] 32) := by rw [← hY2, ← hcb]; exact heap_new1 _ _
  have a0 : Y2.cell? ⟨ab, 0, none⟩ = some (.int .i32 q0) := cell_at ka2
  have a1 : Y2.cell? ⟨ab, 1, none⟩ = some (.int .i64 q1) := cell_at ka2
  have a2 : Y2.cell? ⟨ab, 2, none⟩ = some (.int .i64 q2) := cell_at ka2
  have a3 : Y2.cell? ⟨ab, 3, none⟩ = some (.int .i64 q3) := cell_at ka2
  have z0 : Y2.cell? ⟨cb, 0, none⟩ = some (.int .i32 q0) := cell_at kc2
  have z1 : Y2.cell? ⟨cb, 1, none⟩ = some (.int .i64 q1) := cell_at kc2
  have z2 : Y2.cell? ⟨cb, 2, none⟩ = some (.int .i64 q2) := cell_at kc2
  have z3 : Y2.cell? ⟨cb, 3, none⟩ = some (.int .i64 q3) := cell_at kc2
  have hE : ∀ w, (binOp .eql 32 (.agg #[.int .i32 q0, .int .i64 q1, .int .i64 q2, .int .i64 q3]) (.agg #[.int .i32 q0, .int .i64 q1, .int .i64 q2, .int .i64 q3])).run Tryd.prog w = .ok (.bool true) w := fun w => by rw [unhide HE w]; simp
  have HB6 := hide (hbY.trans (hb6.mono hbY.size))
  have HY2 := hide hY2
  clear hbY ka hb4 hb5 hb6 ka2 kc2 hY2 y1 y2
  go_wp2_with (rw [unhide HY2])
  refine bodyPost_ret (results_tmp3 rfl _ _ _) rfl ⟨rfl, ?_⟩
  obtain ⟨h, hb1, kk⟩ := unhide HH
  exact TwD.same h (hb1.trans ((unhide HB6).mono hb1.size))
theorem step_small {w : World} {b0 sb hd base xb : Nat} {L : List Nd} {luck : Int} (h : Tw w b0 sb hd base xb L luck) (hT : Tab w) (hb0 : 0 < b0) (hw : 0 < w.heap.size) (o : Opn) (hok : OkO o) (hdo : o.1 ≠ 3 ∧ o.1 ≠ 4) :
    Calls Tryd.prog 12 #[PN sb, PN xb, .agg (oC o).toArray] w fun e w' => e = .returned (.tuple #[PN sb, PN xb, .bool true]) ∧ TwD b0 sb hd base xb L w w' := by
  by_cases h0 : o.1 = 0
  · exact step_put h hT hb0 hw o hok h0
  · by_cases h1 : o.1 = 1
    · exact step_erase h o hok h1
    · exact step_get h o ⟨h0, h1, hdo.1, hdo.2⟩
end Go.Proofs.YtdcmkapfcmibeaaDoor
