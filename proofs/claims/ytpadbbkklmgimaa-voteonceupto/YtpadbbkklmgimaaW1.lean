/- does. -/
import Derived.Test.YtpadbbkklmgimaaW0
namespace Go.Proofs.Ytpadbbkklmgimaa
open Go.RowKit

/-- Both votes, the program's and the document's, are V; their blocks lie apart, and not below N. -/
structure Jv (w : World) (N h r b : Nat) (V : Vt) : Prop where
  ok : V.Ok
  v : IsV w h V
  rr : ∃ cap, IsR w r b cap V
  hr : h ≠ r
  hb : h ≠ b
  nh : N ≤ h
  nr : N ≤ r
  nb : N ≤ b
def JvAt (w : World) (N h r : Nat) : Prop := ∃ b V, Jv w N h r b V

theorem Jv.below {w w' : World} {N h r b : Nat} {V : Vt} (J : Jv w N h r b V) (hb : Below w.heap.size w w') : Jv w' N h r b V := by
  obtain ⟨cap, R⟩ := J.rr
  exact ⟨J.ok, J.v.below hb, ⟨cap, R.below J.ok.pos hb⟩, J.hr, J.hb, J.nh, J.nr, J.nb⟩

/-- An operation. -/
structure OpV where
  act : Int
  term : Int
  cw : Int
  ct : Int
  cl : Int
  cz : Int
  len : Int
  last : Int
  who : Int
  yes : Bool

def OpV.cells (o : OpV) : List Value := [.int .i64 o.act, .int .i64 o.term, .int .i64 o.cw, .int .i64 o.ct, .int .i64 o.cl, .int .i64 o.cz, .int .i64 o.len, .int .i64 o.last, .int .i64 o.who, .bool o.yes]
def OpV.agg (o : OpV) : Value := .agg #[.int .i64 o.act, .int .i64 o.term, .int .i64 o.cw, .int .i64 o.ct, .int .i64 o.cl, .int .i64 o.cz, .int .i64 o.len, .int .i64 o.last, .int .i64 o.who, .bool o.yes]
def OpV.obj (o : OpV) : Obj := .cells #[.int .i64 o.act, .int .i64 o.term, .int .i64 o.cw, .int .i64 o.ct, .int .i64 o.cl, .int .i64 o.cz, .int .i64 o.len, .int .i64 o.last, .int .i64 o.who, .bool o.yes] 38

/-- The box of an operation. -/
theorem box10 {w w1 : World} {o : OpV} {S : Nat → Prop} (hb : Upd S (w.heap.size + 1) (w.alloc o.obj) w1) (hs : ¬ S w.heap.size) : ∀ k, w1.cell? ⟨w.heap.size, k, none⟩ = o.cells.toArray[k]? := fun k =>
  (hb.cell (p := ⟨w.heap.size, k, none⟩) (Nat.lt_succ_self _) hs).trans (World.cell?_alloc_mark w _ 38 (0, 0) k)

/-- The next states. -/
theorem Jv.step {w w1 w2 : World} {N h r b b' cap : Nat} {V V' : Vt} (J : Jv w N h r b V) (O : V'.Ok) (I : IsV w1 h V') (R : IsR w2 r b' cap V') (U : Upd (Two r b) w1.heap.size w1 w2) (hs : w.heap.size ≤ w1.heap.size) (hb : b' = b ∨ w1.heap.size ≤ b') (hN : N ≤ w.heap.size) : Jv w2 N h r b' V' := by
  refine ⟨O, I.upd U (Nat.le_refl _) (fun c => c.elim J.hr J.hb), ⟨cap, R⟩, J.hr, ?_, J.nh, J.nr, ?_⟩
  · rcases hb with rfl | hb
    · exact J.hb
    · have := I.lt; omega
  · rcases hb with rfl | hb
    · exact J.nb
    · omega

abbrev Tri (h r b : Nat) : Nat → Prop := fun k => k = h ∨ k = r ∨ k = b
theorem Upd.t1 {h r b N : Nat} {A C : World} (u : Upd (One h) N A C) : Upd (Tri h r b) N A C := u.mono (Nat.le_refl _) (fun _ _ c => Or.inl c)
theorem Upd.t2 {h r b N : Nat} {A C : World} (u : Upd (One r) N A C) : Upd (Tri h r b) N A C := u.mono (Nat.le_refl _) (fun _ _ c => Or.inr (Or.inl c))
theorem Upd.t3 {h r b N : Nat} {A C : World} (u : Upd (One b) N A C) : Upd (Tri h r b) N A C := u.mono (Nat.le_refl _) (fun _ _ c => Or.inr (Or.inr c))
theorem Jv.low {w : World} {N h r b : Nat} {V : Vt} (J : Jv w N h r b V) : ∀ k, k < N → ¬ Tri h r b k := by
  have h1 := J.nh; have h2 := J.nr; have h3 := J.nb
  rintro k hk (c | c | c) <;> omega

theorem count_any {h : Nat} {V : Vt} {w : World} (H : IsV w h V) (O : V.Ok) (who term : Int) (yes : Bool) :
    Calls Try.prog 17 #[P0 h, .int .i64 who, .int .i64 term, .bool yes] w fun e w' => e = .returned (.bool (V.wins who term yes)) ∧ IsV w' h (V.count who term yes) ∧ Upd (One h) w.heap.size w w' := by
  unfold Vt.wins Vt.count
  cases hc : V.counts who term yes
  · refine (count_not H O who term yes hc).mono fun e w' ⟨he, hb⟩ => ⟨he, ?_, Upd.of hb⟩
    rw [if_neg (by simp)]; exact H.below hb
  · rw [if_pos rfl, Bool.true_and]; exact count_is H O who term yes hc
theorem rcount_any {r b cap : Nat} {V : Vt} {w : World} (H : IsR w r b cap V) (O : V.Ok) (who term : Int) (yes : Bool) :
    Calls Try.prog 28 #[P0 r, .int .i64 who, .int .i64 term, .bool yes] w fun e w' => e = .returned (.bool (V.wins who term yes)) ∧ IsR w' r b cap (V.count who term yes) ∧ Upd (One b) w.heap.size w w' := by
  unfold Vt.wins Vt.count
  cases hc : V.counts who term yes
  · refine (rcount_not H O who term yes hc).mono fun e w' ⟨he, hb⟩ => ⟨he, ?_, hb ▸ Upd.refl _ _ _⟩
    rw [if_neg (by simp)]; exact hb ▸ H
  · rw [if_pos rfl, Bool.true_and]; exact rcount_is H O who term yes hc
theorem Vt.Ok.count {V : Vt} (O : V.Ok) (who term : Int) (yes : Bool) : (V.count who term yes).Ok := by
  unfold Vt.count
  split
  · exact O.setVt _ _
  · exact O

set_option maxHeartbeats 1600000 in
theorem does_any {w : World} {N h r b : Nat} {V : Vt} (J : Jv w N h r b V) (hN : N ≤ w.heap.size) (o : OpV) :
    Calls Try.prog 9 #[P0 h, P0 r, o.agg] w fun e w' => e = .returned (.bool true) ∧ JvAt w' N h r ∧ Upd (Tri h r b) w.heap.size w w' := by
  obtain ⟨B, hB⟩ : ∃ B, w.alloc o.obj = B := ⟨_, rfl⟩
  have hb0 : Below w.heap.size w B := hB ▸ (Below.refl _ _).alloc (Nat.le_refl _) _
  have hsz : B.heap.size = w.heap.size + 1 := by rw [← hB]; simp
  have JB := J.below hb0
  have hlt : h < w.heap.size := J.v.lt
  have hrl : r < w.heap.size := by obtain ⟨cap, R⟩ := J.rr; exact R.rlt
  have hbl : b < w.heap.size := by obtain ⟨cap, R⟩ := J.rr; exact R.blt J.ok.pos
  have HBX : Hid (∀ w1, Upd (Tri h r b) B.heap.size B w1 → ∀ k, w1.cell? ⟨w.heap.size, k, none⟩ = o.cells.toArray[k]?) := fun w1 hu => box10 (by rw [hB]; exact hu.less (by omega)) (by rintro (c | c | c) <;> omega)
  have HB0 : Hid (Upd (Tri h r b) w.heap.size w B) := Upd.of hb0
  have HBS : Hid (w.heap.size ≤ B.heap.size) := hb0.size
  have HJ := hide JB
  obtain ⟨cap, RB⟩ := JB.rr
  have HR := hide RB
  have HO := hide J.ok
  have HV := hide JB.v
  have hNB : N ≤ B.heap.size := by omega
  have HNB := hide hNB
  have HFin : Hid (∀ x, JvAt x N h r → Upd (Tri h r b) B.heap.size B x → JvAt x N h r ∧ Upd (Tri h r b) w.heap.size w x) := fun x hj hu => ⟨hj, (unhide HB0).trans (hu.less (unhide HBS))⟩
  obtain ⟨act, term, cw, ct, cl, cz, len, last, who, yes⟩ := o
  have k0 : B.cell? ⟨w.heap.size, 0, none⟩ = some (.int .i64 act) := unhide HBX B (Upd.refl _ _ _) 0
  have hB' : w.alloc (.cells #[.int .i64 act, .int .i64 term, .int .i64 cw, .int .i64 ct, .int .i64 cl, .int .i64 cz, .int .i64 len, .int .i64 last, .int .i64 who, .bool yes] 38) = B := hB
  have hne : h ≠ r := J.hr
  have hne2 : h ≠ b := J.hb
  clear J JB RB hb0 hB hNB
  show Calls Try.prog 9 #[P0 h, P0 r, .agg #[.int .i64 act, .int .i64 term, .int .i64 cw, .int .i64 ct, .int .i64 cl, .int .i64 cz, .int .i64 len, .int .i64 last, .int .i64 who, .bool yes]] w _
  by_cases a0 : act = 0
  · subst a0
    have k1 : B.cell? ⟨w.heap.size, 1, none⟩ = some (.int .i64 term) := unhide HBX B (Upd.refl _ _ _) 1
    go_enter Try.func9, Try.ntmps9
    go_wp2_with (rw [hB'])
    refine wp_region_held_drew (S := fun x => x.cell? ⟨w.heap.size, 1, none⟩ = some (.int .i64 term)) (by kernel_rfl) k1 (fun hHeld => ?_)
    refine wpAnyH_take (i := 0) (v := ?v1x0) rfl (by kernel_rfl) (by kernel_rfl) (by kernel_rfl) (fun _ _ _ h => h) (Or.inl ⟨by rfl, ?hy1x0⟩) (by assumption) ?rest1x0
    case hy1x0 => intro w hSw; go_simp <;> with_reducible rfl
    simp only [Act.put, List.getElem_toArray, List.getElem_cons_zero, List.setIfInBounds_toArray, List.set_cons_zero, List.set_cons_succ]
    refine wpAnyH_take (i := 1) (v := ?v2x1) rfl (by kernel_rfl) (by kernel_rfl) (by kernel_rfl) (fun _ _ _ h => h) (Or.inl ⟨by rfl, ?hy2x1⟩) (by assumption) ?rest2x1
    case hy2x1 => intro w hSw; go_simp <;> with_reducible rfl
    simp only [Act.put, List.getElem_toArray, List.getElem_cons_zero, List.getElem_cons_succ, List.setIfInBounds_toArray, List.set_cons_zero, List.set_cons_succ]
    refine wpAnyH_take (i := 2) (v := ?v3x2) rfl (by kernel_rfl) (by kernel_rfl) (by kernel_rfl) (fun _ _ _ h => h) (Or.inl ⟨by rfl, ?hy3x2⟩) (by assumption) ?rest3x2
    case hy3x2 => intro w hSw; go_simp <;> with_reducible rfl
    simp only [Act.put, List.getElem_toArray, List.getElem_cons_zero, List.getElem_cons_succ, List.setIfInBounds_toArray, List.set_cons_zero, List.set_cons_succ]
    refine wpAnyH_take (i := 4) (v := ?v4x4) rfl (by kernel_rfl) (by kernel_rfl) (by kernel_rfl) (fun _ _ _ h => h) (Or.inl ⟨by rfl, ?hy4x4⟩) (by assumption) ?rest4x4
    case hy4x4 => intro w hSw; go_simp <;> with_reducible rfl
    simp only [Act.put, List.getElem_toArray, List.getElem_cons_zero, List.getElem_cons_succ, List.setIfInBounds_toArray, List.set_cons_zero, List.set_cons_succ]
    refine wpAnyH_take (i := 5) (v := ?v5x5) rfl (by kernel_rfl) (by kernel_rfl) (by kernel_rfl) (fun _ _ _ h => h) (Or.inl ⟨by rfl, ?hy5x5⟩) (by assumption) ?rest5x5
    case hy5x5 => intro w hSw; go_simp <;> with_reducible rfl
    simp only [Act.put, List.getElem_toArray, List.getElem_cons_zero, List.getElem_cons_succ, List.setIfInBounds_toArray, List.set_cons_zero, List.set_cons_succ]
    refine wpAnyH_take (i := 6) (v := ?v6x6) rfl (by kernel_rfl) (by kernel_rfl) (by kernel_rfl) (fun _ _ _ h => h) (Or.inl ⟨by rfl, ?hy6x6⟩) (by assumption) ?rest6x6
    case hy6x6 => intro w hSw; go_simp <;> with_reducible rfl
    simp only [Act.put, List.getElem_toArray, List.getElem_cons_zero, List.getElem_cons_succ, List.setIfInBounds_toArray, List.set_cons_zero, List.set_cons_succ]
    refine wpAnyH_ready (rs := [3]) (by kernel_rfl) (by simp) ?_
    refine AllReadyH.cons rfl (fun K hK => ?_) AllReadyH.nil
    go_simp
    refine (hear_any (unhide HV).drew (unhide HO) term).mono ?_
    rintro e y1 ⟨rfl, I1, u1⟩
    refine hK _ _ (unhide HBX y1 ((Upd.refl _ _ _).drew.trans (Upd.t1 u1)) 1) ?_
    clear hK hHeld
    have HI1 := hide I1
    have hu1 : Upd (One h) B.heap.size B y1 := (Upd.refl _ _ _).drew.trans u1
    have HW1 := hide hu1
    have HR1 := hide ((unhide HR).upd (unhide HO).pos hu1 (Nat.le_refl _) (Ne.symm hne) (Ne.symm hne2))
    clear I1 u1 hu1
    intro hHeld
    refine wpAnyH_ready (rs := [7]) (by kernel_rfl) (by simp) ?_
    refine AllReadyH.cons rfl (fun K hK => ?_) AllReadyH.nil
    go_simp
    refine (rhear_any (unhide HR1) (unhide HO) term).mono ?_
    rintro e y2 ⟨rfl, ⟨b', cap', R2, hb'⟩, u2⟩
    refine hK _ _ (unhide HBX y2 ((Upd.t1 (unhide HW1)).trans (Upd.t2 (u2.less (unhide HW1).size))) 1) ?_
    clear hK hHeld
    have HF := hide (unhide HFin y2 ⟨b', _, (unhide HJ).step ((unhide HO).hear term) (unhide HI1) R2 (u2.mono (Nat.le_refl _) (fun _ _ c => Or.inl c)) (unhide HW1).size hb' (unhide HNB)⟩ ((Upd.t1 (unhide HW1)).trans (Upd.t2 (u2.less (unhide HW1).size))))
    clear R2 hb' u2
    intro hHeld
    refine wpAnyH_take (i := 8) (v := (.bool true)) rfl (by kernel_rfl) (by kernel_rfl) (by kernel_rfl) (fun _ _ _ h => h) (Or.inl ⟨by rfl, ?hy7x8⟩) (by assumption) ?rest7x8
    case hy7x8 => intro w hSw; go_simp <;> with_reducible rfl
    simp only [Act.put, List.getElem_toArray, List.getElem_cons_zero, List.getElem_cons_succ, List.setIfInBounds_toArray, List.set_cons_zero, List.set_cons_succ]
    refine wpAnyH_take (i := 9) (v := ?v8x9) rfl (by kernel_rfl) (by kernel_rfl) (by kernel_rfl) (fun _ _ _ h => h) (Or.inl ⟨by rfl, ?hy8x9⟩) (by assumption) ?rest8x9
    case hy8x9 => intro w hSw; go_simp <;> with_reducible rfl
    simp only [Act.put, List.getElem_toArray, List.getElem_cons_zero, List.getElem_cons_succ, List.setIfInBounds_toArray, List.set_cons_zero, List.set_cons_succ]
    refine wpAnyH_done (by kernel_rfl) ?_ _
    go_wp2
    go_ret
    exact ⟨rfl, unhide HF⟩
  by_cases a1 : act = 1
  · subst a1
    have kk := unhide HBX B (Upd.refl _ _ _)
    have k2 : B.cell? ⟨w.heap.size, 2, none⟩ = some (.int .i64 cw) := kk 2
    have k3 : B.cell? ⟨w.heap.size, 3, none⟩ = some (.int .i64 ct) := kk 3
    have k4 : B.cell? ⟨w.heap.size, 4, none⟩ = some (.int .i64 cl) := kk 4
    have k5 : B.cell? ⟨w.heap.size, 5, none⟩ = some (.int .i64 cz) := kk 5
    have k6 : B.cell? ⟨w.heap.size, 6, none⟩ = some (.int .i64 len) := kk 6
    have k7 : B.cell? ⟨w.heap.size, 7, none⟩ = some (.int .i64 last) := kk 7
    clear kk
    have HSK : Hid (∀ w1, Upd (Tri h r b) B.heap.size B w1 → w1.cell? ⟨w.heap.size, 2, none⟩ = some (.int .i64 cw) ∧ w1.cell? ⟨w.heap.size, 3, none⟩ = some (.int .i64 ct) ∧ w1.cell? ⟨w.heap.size, 4, none⟩ = some (.int .i64 cl) ∧ w1.cell? ⟨w.heap.size, 5, none⟩ = some (.int .i64 cz) ∧ w1.cell? ⟨w.heap.size, 6, none⟩ = some (.int .i64 len) ∧ w1.cell? ⟨w.heap.size, 7, none⟩ = some (.int .i64 last)) := fun w1 hu => ⟨unhide HBX w1 hu 2, unhide HBX w1 hu 3, unhide HBX w1 hu 4, unhide HBX w1 hu 5, unhide HBX w1 hu 6, unhide HBX w1 hu 7⟩
    go_enter Try.func9, Try.ntmps9
    go_wp2_with (rw [hB'])
    refine wp_region_held_drew (S := fun x => x.cell? ⟨w.heap.size, 2, none⟩ = some (.int .i64 cw) ∧ x.cell? ⟨w.heap.size, 3, none⟩ = some (.int .i64 ct) ∧ x.cell? ⟨w.heap.size, 4, none⟩ = some (.int .i64 cl) ∧ x.cell? ⟨w.heap.size, 5, none⟩ = some (.int .i64 cz) ∧ x.cell? ⟨w.heap.size, 6, none⟩ = some (.int .i64 len) ∧ x.cell? ⟨w.heap.size, 7, none⟩ = some (.int .i64 last)) (by kernel_rfl) ⟨k2, k3, k4, k5, k6, k7⟩ (fun hHeld => ?_)
    refine wpAnyH_take (i := 0) (v := ?v9x0) rfl (by kernel_rfl) (by kernel_rfl) (by kernel_rfl) (fun _ _ _ h => h) (Or.inl ⟨by rfl, ?hy9x0⟩) (by assumption) ?rest9x0
    case hy9x0 => intro w hSw; obtain ⟨s2, s3, s4, s5, s6, s7⟩ := hSw; go_simp <;> with_reducible rfl
    simp only [Act.put, List.getElem_toArray, List.getElem_cons_zero, List.setIfInBounds_toArray, List.set_cons_zero, List.set_cons_succ]
    refine wpAnyH_take (i := 1) (v := ?v10x1) rfl (by kernel_rfl) (by kernel_rfl) (by kernel_rfl) (fun _ _ _ h => h) (Or.inl ⟨by rfl, ?hy10x1⟩) (by assumption) ?rest10x1
    case hy10x1 => intro w hSw; obtain ⟨s2, s3, s4, s5, s6, s7⟩ := hSw; go_simp <;> with_reducible rfl
    simp only [Act.put, List.getElem_toArray, List.getElem_cons_zero, List.getElem_cons_succ, List.setIfInBounds_toArray, List.set_cons_zero, List.set_cons_succ]
    refine wpAnyH_take (i := 2) (v := ?v11x2) rfl (by kernel_rfl) (by kernel_rfl) (by kernel_rfl) (fun _ _ _ h => h) (Or.inl ⟨by rfl, ?hy11x2⟩) (by assumption) ?rest11x2
    case hy11x2 => intro w hSw; obtain ⟨s2, s3, s4, s5, s6, s7⟩ := hSw; go_simp <;> with_reducible rfl
    simp only [Act.put, List.getElem_toArray, List.getElem_cons_zero, List.getElem_cons_succ, List.setIfInBounds_toArray, List.set_cons_zero, List.set_cons_succ]
    refine wpAnyH_take (i := 3) (v := ?v12x3) rfl (by kernel_rfl) (by kernel_rfl) (by kernel_rfl) (fun _ _ _ h => h) (Or.inl ⟨by rfl, ?hy12x3⟩) (by assumption) ?rest12x3
    case hy12x3 => intro w hSw; obtain ⟨s2, s3, s4, s5, s6, s7⟩ := hSw; go_simp <;> with_reducible rfl
    simp only [Act.put, List.getElem_toArray, List.getElem_cons_zero, List.getElem_cons_succ, List.setIfInBounds_toArray, List.set_cons_zero, List.set_cons_succ]
    refine wpAnyH_take (i := 4) (v := ?v13x4) rfl (by kernel_rfl) (by kernel_rfl) (by kernel_rfl) (fun _ _ _ h => h) (Or.inl ⟨by rfl, ?hy13x4⟩) (by assumption) ?rest13x4
    case hy13x4 => intro w hSw; obtain ⟨s2, s3, s4, s5, s6, s7⟩ := hSw; go_simp <;> with_reducible rfl
    simp only [Act.put, List.getElem_toArray, List.getElem_cons_zero, List.getElem_cons_succ, List.setIfInBounds_toArray, List.set_cons_zero, List.set_cons_succ]
    refine wpAnyH_take (i := 5) (v := ?v14x5) rfl (by kernel_rfl) (by kernel_rfl) (by kernel_rfl) (fun _ _ _ h => h) (Or.inl ⟨by rfl, ?hy14x5⟩) (by assumption) ?rest14x5
    case hy14x5 => intro w hSw; obtain ⟨s2, s3, s4, s5, s6, s7⟩ := hSw; go_simp <;> with_reducible rfl
    simp only [Act.put, List.getElem_toArray, List.getElem_cons_zero, List.getElem_cons_succ, List.setIfInBounds_toArray, List.set_cons_zero, List.set_cons_succ]
    refine wpAnyH_take (i := 6) (v := ?v15x6) rfl (by kernel_rfl) (by kernel_rfl) (by kernel_rfl) (fun _ _ _ h => h) (Or.inl ⟨by rfl, ?hy15x6⟩) (by assumption) ?rest15x6
    case hy15x6 => intro w hSw; obtain ⟨s2, s3, s4, s5, s6, s7⟩ := hSw; go_simp <;> with_reducible rfl
    simp only [Act.put, List.getElem_toArray, List.getElem_cons_zero, List.getElem_cons_succ, List.setIfInBounds_toArray, List.set_cons_zero, List.set_cons_succ]
    refine wpAnyH_take (i := 8) (v := ?v16x8) rfl (by kernel_rfl) (by kernel_rfl) (by kernel_rfl) (fun _ _ _ h => h) (Or.inl ⟨by rfl, ?hy16x8⟩) (by assumption) ?rest16x8
    case hy16x8 => intro w hSw; obtain ⟨s2, s3, s4, s5, s6, s7⟩ := hSw; go_simp <;> with_reducible rfl
    simp only [Act.put, List.getElem_toArray, List.getElem_cons_zero, List.getElem_cons_succ, List.setIfInBounds_toArray, List.set_cons_zero, List.set_cons_succ]
    refine wpAnyH_take (i := 9) (v := ?v17x9) rfl (by kernel_rfl) (by kernel_rfl) (by kernel_rfl) (fun _ _ _ h => h) (Or.inl ⟨by rfl, ?hy17x9⟩) (by assumption) ?rest17x9
    case hy17x9 => intro w hSw; obtain ⟨s2, s3, s4, s5, s6, s7⟩ := hSw; go_simp <;> with_reducible rfl
    simp only [Act.put, List.getElem_toArray, List.getElem_cons_zero, List.getElem_cons_succ, List.setIfInBounds_toArray, List.set_cons_zero, List.set_cons_succ]
    refine wpAnyH_take (i := 10) (v := ?v18x10) rfl (by kernel_rfl) (by kernel_rfl) (by kernel_rfl) (fun _ _ _ h => h) (Or.inl ⟨by rfl, ?hy18x10⟩) (by assumption) ?rest18x10
    case hy18x10 => intro w hSw; obtain ⟨s2, s3, s4, s5, s6, s7⟩ := hSw; go_simp <;> with_reducible rfl
    simp only [Act.put, List.getElem_toArray, List.getElem_cons_zero, List.getElem_cons_succ, List.setIfInBounds_toArray, List.set_cons_zero, List.set_cons_succ]
    refine wpAnyH_take (i := 11) (v := ?v19x11) rfl (by kernel_rfl) (by kernel_rfl) (by kernel_rfl) (fun _ _ _ h => h) (Or.inl ⟨by rfl, ?hy19x11⟩) (by assumption) ?rest19x11
    case hy19x11 => intro w hSw; obtain ⟨s2, s3, s4, s5, s6, s7⟩ := hSw; go_simp <;> with_reducible rfl
    simp only [Act.put, List.getElem_toArray, List.getElem_cons_zero, List.getElem_cons_succ, List.setIfInBounds_toArray, List.set_cons_zero, List.set_cons_succ]
    refine wpAnyH_take (i := 12) (v := ?v20x12) rfl (by kernel_rfl) (by kernel_rfl) (by kernel_rfl) (fun _ _ _ h => h) (Or.inl ⟨by rfl, ?hy20x12⟩) (by assumption) ?rest20x12
    case hy20x12 => intro w hSw; obtain ⟨s2, s3, s4, s5, s6, s7⟩ := hSw; go_simp <;> with_reducible rfl
    simp only [Act.put, List.getElem_toArray, List.getElem_cons_zero, List.getElem_cons_succ, List.setIfInBounds_toArray, List.set_cons_zero, List.set_cons_succ]
    refine wpAnyH_take (i := 13) (v := ?v21x13) rfl (by kernel_rfl) (by kernel_rfl) (by kernel_rfl) (fun _ _ _ h => h) (Or.inl ⟨by rfl, ?hy21x13⟩) (by assumption) ?rest21x13
    case hy21x13 => intro w hSw; obtain ⟨s2, s3, s4, s5, s6, s7⟩ := hSw; go_simp <;> with_reducible rfl
    simp only [Act.put, List.getElem_toArray, List.getElem_cons_zero, List.getElem_cons_succ, List.setIfInBounds_toArray, List.set_cons_zero, List.set_cons_succ]
    refine wpAnyH_take (i := 14) (v := ?v22x14) rfl (by kernel_rfl) (by kernel_rfl) (by kernel_rfl) (fun _ _ _ h => h) (Or.inl ⟨by rfl, ?hy22x14⟩) (by assumption) ?rest22x14
    case hy22x14 => intro w hSw; obtain ⟨s2, s3, s4, s5, s6, s7⟩ := hSw; go_simp <;> with_reducible rfl
    simp only [Act.put, List.getElem_toArray, List.getElem_cons_zero, List.getElem_cons_succ, List.setIfInBounds_toArray, List.set_cons_zero, List.set_cons_succ]
    refine wpAnyH_ready (rs := [7]) (by kernel_rfl) (by simp) ?_
    refine AllReadyH.cons rfl (fun K hK => ?_) AllReadyH.nil
    go_simp
    refine (grant_any (unhide HV).drew (unhide HO) cw ct cl cz len last).mono ?_
    rintro e y1 ⟨rfl, I1, u1⟩
    refine hK _ _ (unhide HSK y1 ((Upd.refl _ _ _).drew.trans (Upd.t1 u1))) ?_
    clear hK hHeld
    have HI1 := hide I1
    have hu1 : Upd (One h) B.heap.size B y1 := (Upd.refl _ _ _).drew.trans u1
    have HW1 := hide hu1
    have HR1 := hide ((unhide HR).upd (unhide HO).pos hu1 (Nat.le_refl _) (Ne.symm hne) (Ne.symm hne2))
    clear I1 u1 hu1
    intro hHeld
    refine wpAnyH_ready (rs := [15]) (by kernel_rfl) (by simp) ?_
    refine AllReadyH.cons rfl (fun K hK => ?_) AllReadyH.nil
    go_simp
    refine (rgrant_any (unhide HR1) (unhide HO) cw ct cl cz len last).mono ?_
    rintro e y2 ⟨rfl, ⟨b', cap', R2, hb'⟩, u2⟩
    refine hK _ _ (unhide HSK y2 ((Upd.t1 (unhide HW1)).trans (Upd.t2 (u2.less (unhide HW1).size)))) ?_
    clear hK hHeld
    have HF := hide (unhide HFin y2 ⟨b', _, (unhide HJ).step ((unhide HO).grant cw ct cl cz len last) (unhide HI1) R2 (u2.mono (Nat.le_refl _) (fun _ _ c => Or.inl c)) (unhide HW1).size hb' (unhide HNB)⟩ ((Upd.t1 (unhide HW1)).trans (Upd.t2 (u2.less (unhide HW1).size))))
    clear R2 hb' u2
    intro hHeld
    refine wpAnyH_take (i := 16) (v := (.bool true)) rfl (by kernel_rfl) (by kernel_rfl) (by kernel_rfl) (fun _ _ _ h => h) (Or.inl ⟨by rfl, ?hy23x16⟩) (by assumption) ?rest23x16
    case hy23x16 => intro w hSw; obtain ⟨s2, s3, s4, s5, s6, s7⟩ := hSw; go_simp <;> with_reducible rfl
    simp only [Act.put, List.getElem_toArray, List.getElem_cons_zero, List.getElem_cons_succ, List.setIfInBounds_toArray, List.set_cons_zero, List.set_cons_succ]
    refine wpAnyH_take (i := 17) (v := ?v24x17) rfl (by kernel_rfl) (by kernel_rfl) (by kernel_rfl) (fun _ _ _ h => h) (Or.inl ⟨by rfl, ?hy24x17⟩) (by assumption) ?rest24x17
    case hy24x17 => intro w hSw; obtain ⟨s2, s3, s4, s5, s6, s7⟩ := hSw; go_simp <;> with_reducible rfl
    simp only [Act.put, List.getElem_toArray, List.getElem_cons_zero, List.getElem_cons_succ, List.setIfInBounds_toArray, List.set_cons_zero, List.set_cons_succ]
    refine wpAnyH_done (by kernel_rfl) ?_ _
    go_wp2
    go_ret
    exact ⟨rfl, unhide HF⟩
  by_cases a2 : act = 2
  · subst a2
    by_cases ht : V.term < 1099511627776
    · go_enter Try.func9, Try.ntmps9
      go_wp2_with (rw [hB'])
      refine (stand_ok (unhide HV) (unhide HO) ht).mono ?_
      rintro e y1 ⟨rfl, I1, u1⟩
      have HI1 := hide I1
      have HW1 := hide u1
      have HR1 := hide ((unhide HR).upd (unhide HO).pos u1 (Nat.le_refl _) (Ne.symm hne) (Ne.symm hne2))
      clear I1 u1
      go_wp2_with fail
      refine (rstand_ok (unhide HR1) (unhide HO) ht).mono ?_
      rintro e y2 ⟨rfl, ⟨b', cap', R2, hb'⟩, u2⟩
      have HF := hide (unhide HFin y2 ⟨b', _, (unhide HJ).step ((unhide HO).stand ht) (unhide HI1) R2 (u2.mono (Nat.le_refl _) (fun _ _ c => Or.inl c)) (unhide HW1).size hb' (unhide HNB)⟩ ((Upd.t1 (unhide HW1)).trans (Upd.t2 (u2.less (unhide HW1).size))))
      clear R2 hb' u2
      go_wp2
      go_ret
      exact ⟨rfl, unhide HF⟩
    · have ht' : V.term = 1099511627776 := by have := (unhide HO).t1; omega
      go_enter Try.func9, Try.ntmps9
      go_wp2_with (rw [hB'])
      refine (stand_long (unhide HV) (unhide HO) ht').mono ?_
      rintro e y1 ⟨rfl, rfl⟩
      go_wp2_with fail
      refine (rstand_long (unhide HR) ht').mono ?_
      rintro e y1 ⟨rfl, rfl⟩
      go_wp2
      go_ret
      exact ⟨rfl, unhide HFin _ ⟨_, _, unhide HJ⟩ (Upd.refl _ _ _)⟩
  by_cases a3 : act = 3
  · subst a3
    have kk := unhide HBX B (Upd.refl _ _ _)
    have k1 : B.cell? ⟨w.heap.size, 1, none⟩ = some (.int .i64 term) := kk 1
    have k8 : B.cell? ⟨w.heap.size, 8, none⟩ = some (.int .i64 who) := kk 8
    have k9 : B.cell? ⟨w.heap.size, 9, none⟩ = some (.bool yes) := kk 9
    clear kk
    have HSK : Hid (∀ w1, Upd (Tri h r b) B.heap.size B w1 → w1.cell? ⟨w.heap.size, 1, none⟩ = some (.int .i64 term) ∧ w1.cell? ⟨w.heap.size, 8, none⟩ = some (.int .i64 who) ∧ w1.cell? ⟨w.heap.size, 9, none⟩ = some (.bool yes)) := fun w1 hu => ⟨unhide HBX w1 hu 1, unhide HBX w1 hu 8, unhide HBX w1 hu 9⟩
    go_enter Try.func9, Try.ntmps9
    go_wp2_with (rw [hB'])
    refine wp_region_held_drew (S := fun x => x.cell? ⟨w.heap.size, 1, none⟩ = some (.int .i64 term) ∧ x.cell? ⟨w.heap.size, 8, none⟩ = some (.int .i64 who) ∧ x.cell? ⟨w.heap.size, 9, none⟩ = some (.bool yes)) (by kernel_rfl) ⟨k1, k8, k9⟩ (fun hHeld => ?_)
    refine wpAnyH_take (i := 0) (v := ?v25x0) rfl (by kernel_rfl) (by kernel_rfl) (by kernel_rfl) (fun _ _ _ h => h) (Or.inl ⟨by rfl, ?hy25x0⟩) (by assumption) ?rest25x0
    case hy25x0 => intro w hSw; obtain ⟨s1, s8, s9⟩ := hSw; go_simp <;> with_reducible rfl
    simp only [Act.put, List.getElem_toArray, List.getElem_cons_zero, List.setIfInBounds_toArray, List.set_cons_zero, List.set_cons_succ]
    refine wpAnyH_take (i := 1) (v := ?v26x1) rfl (by kernel_rfl) (by kernel_rfl) (by kernel_rfl) (fun _ _ _ h => h) (Or.inl ⟨by rfl, ?hy26x1⟩) (by assumption) ?rest26x1
    case hy26x1 => intro w hSw; obtain ⟨s1, s8, s9⟩ := hSw; go_simp <;> with_reducible rfl
    simp only [Act.put, List.getElem_toArray, List.getElem_cons_zero, List.getElem_cons_succ, List.setIfInBounds_toArray, List.set_cons_zero, List.set_cons_succ]
    refine wpAnyH_take (i := 2) (v := ?v27x2) rfl (by kernel_rfl) (by kernel_rfl) (by kernel_rfl) (fun _ _ _ h => h) (Or.inl ⟨by rfl, ?hy27x2⟩) (by assumption) ?rest27x2
    case hy27x2 => intro w hSw; obtain ⟨s1, s8, s9⟩ := hSw; go_simp <;> with_reducible rfl
    simp only [Act.put, List.getElem_toArray, List.getElem_cons_zero, List.getElem_cons_succ, List.setIfInBounds_toArray, List.set_cons_zero, List.set_cons_succ]
    refine wpAnyH_take (i := 3) (v := ?v28x3) rfl (by kernel_rfl) (by kernel_rfl) (by kernel_rfl) (fun _ _ _ h => h) (Or.inl ⟨by rfl, ?hy28x3⟩) (by assumption) ?rest28x3
    case hy28x3 => intro w hSw; obtain ⟨s1, s8, s9⟩ := hSw; go_simp <;> with_reducible rfl
    simp only [Act.put, List.getElem_toArray, List.getElem_cons_zero, List.getElem_cons_succ, List.setIfInBounds_toArray, List.set_cons_zero, List.set_cons_succ]
    refine wpAnyH_take (i := 4) (v := ?v29x4) rfl (by kernel_rfl) (by kernel_rfl) (by kernel_rfl) (fun _ _ _ h => h) (Or.inl ⟨by rfl, ?hy29x4⟩) (by assumption) ?rest29x4
    case hy29x4 => intro w hSw; obtain ⟨s1, s8, s9⟩ := hSw; go_simp <;> with_reducible rfl
    simp only [Act.put, List.getElem_toArray, List.getElem_cons_zero, List.getElem_cons_succ, List.setIfInBounds_toArray, List.set_cons_zero, List.set_cons_succ]
    refine wpAnyH_take (i := 5) (v := ?v30x5) rfl (by kernel_rfl) (by kernel_rfl) (by kernel_rfl) (fun _ _ _ h => h) (Or.inl ⟨by rfl, ?hy30x5⟩) (by assumption) ?rest30x5
    case hy30x5 => intro w hSw; obtain ⟨s1, s8, s9⟩ := hSw; go_simp <;> with_reducible rfl
    simp only [Act.put, List.getElem_toArray, List.getElem_cons_zero, List.getElem_cons_succ, List.setIfInBounds_toArray, List.set_cons_zero, List.set_cons_succ]
    refine wpAnyH_take (i := 6) (v := ?v31x6) rfl (by kernel_rfl) (by kernel_rfl) (by kernel_rfl) (fun _ _ _ h => h) (Or.inl ⟨by rfl, ?hy31x6⟩) (by assumption) ?rest31x6
    case hy31x6 => intro w hSw; obtain ⟨s1, s8, s9⟩ := hSw; go_simp <;> with_reducible rfl
    simp only [Act.put, List.getElem_toArray, List.getElem_cons_zero, List.getElem_cons_succ, List.setIfInBounds_toArray, List.set_cons_zero, List.set_cons_succ]
    refine wpAnyH_take (i := 8) (v := ?v32x8) rfl (by kernel_rfl) (by kernel_rfl) (by kernel_rfl) (fun _ _ _ h => h) (Or.inl ⟨by rfl, ?hy32x8⟩) (by assumption) ?rest32x8
    case hy32x8 => intro w hSw; obtain ⟨s1, s8, s9⟩ := hSw; go_simp <;> with_reducible rfl
    simp only [Act.put, List.getElem_toArray, List.getElem_cons_zero, List.getElem_cons_succ, List.setIfInBounds_toArray, List.set_cons_zero, List.set_cons_succ]
    refine wpAnyH_take (i := 9) (v := ?v33x9) rfl (by kernel_rfl) (by kernel_rfl) (by kernel_rfl) (fun _ _ _ h => h) (Or.inl ⟨by rfl, ?hy33x9⟩) (by assumption) ?rest33x9
    case hy33x9 => intro w hSw; obtain ⟨s1, s8, s9⟩ := hSw; go_simp <;> with_reducible rfl
    simp only [Act.put, List.getElem_toArray, List.getElem_cons_zero, List.getElem_cons_succ, List.setIfInBounds_toArray, List.set_cons_zero, List.set_cons_succ]
    refine wpAnyH_take (i := 10) (v := ?v34x10) rfl (by kernel_rfl) (by kernel_rfl) (by kernel_rfl) (fun _ _ _ h => h) (Or.inl ⟨by rfl, ?hy34x10⟩) (by assumption) ?rest34x10
    case hy34x10 => intro w hSw; obtain ⟨s1, s8, s9⟩ := hSw; go_simp <;> with_reducible rfl
    simp only [Act.put, List.getElem_toArray, List.getElem_cons_zero, List.getElem_cons_succ, List.setIfInBounds_toArray, List.set_cons_zero, List.set_cons_succ]
    refine wpAnyH_take (i := 11) (v := ?v35x11) rfl (by kernel_rfl) (by kernel_rfl) (by kernel_rfl) (fun _ _ _ h => h) (Or.inl ⟨by rfl, ?hy35x11⟩) (by assumption) ?rest35x11
    case hy35x11 => intro w hSw; obtain ⟨s1, s8, s9⟩ := hSw; go_simp <;> with_reducible rfl
    simp only [Act.put, List.getElem_toArray, List.getElem_cons_zero, List.getElem_cons_succ, List.setIfInBounds_toArray, List.set_cons_zero, List.set_cons_succ]
    refine wpAnyH_take (i := 12) (v := ?v36x12) rfl (by kernel_rfl) (by kernel_rfl) (by kernel_rfl) (fun _ _ _ h => h) (Or.inl ⟨by rfl, ?hy36x12⟩) (by assumption) ?rest36x12
    case hy36x12 => intro w hSw; obtain ⟨s1, s8, s9⟩ := hSw; go_simp <;> with_reducible rfl
    simp only [Act.put, List.getElem_toArray, List.getElem_cons_zero, List.getElem_cons_succ, List.setIfInBounds_toArray, List.set_cons_zero, List.set_cons_succ]
    refine wpAnyH_take (i := 13) (v := ?v37x13) rfl (by kernel_rfl) (by kernel_rfl) (by kernel_rfl) (fun _ _ _ h => h) (Or.inl ⟨by rfl, ?hy37x13⟩) (by assumption) ?rest37x13
    case hy37x13 => intro w hSw; obtain ⟨s1, s8, s9⟩ := hSw; go_simp <;> with_reducible rfl
    simp only [Act.put, List.getElem_toArray, List.getElem_cons_zero, List.getElem_cons_succ, List.setIfInBounds_toArray, List.set_cons_zero, List.set_cons_succ]
    refine wpAnyH_take (i := 14) (v := ?v38x14) rfl (by kernel_rfl) (by kernel_rfl) (by kernel_rfl) (fun _ _ _ h => h) (Or.inl ⟨by rfl, ?hy38x14⟩) (by assumption) ?rest38x14
    case hy38x14 => intro w hSw; obtain ⟨s1, s8, s9⟩ := hSw; go_simp <;> with_reducible rfl
    simp only [Act.put, List.getElem_toArray, List.getElem_cons_zero, List.getElem_cons_succ, List.setIfInBounds_toArray, List.set_cons_zero, List.set_cons_succ]
    refine wpAnyH_ready (rs := [7]) (by kernel_rfl) (by simp) ?_
    refine AllReadyH.cons rfl (fun K hK => ?_) AllReadyH.nil
    go_simp
    refine (count_any (unhide HV).drew (unhide HO) who term yes).mono ?_
    rintro e y1 ⟨rfl, I1, u1⟩
    refine hK _ _ (unhide HSK y1 ((Upd.refl _ _ _).drew.trans (Upd.t1 u1))) ?_
    clear hK hHeld
    have HI1 := hide I1
    have hu1 : Upd (One h) B.heap.size B y1 := (Upd.refl _ _ _).drew.trans u1
    have HW1 := hide hu1
    have HR1 := hide ((unhide HR).upd (unhide HO).pos hu1 (Nat.le_refl _) (Ne.symm hne) (Ne.symm hne2))
    clear I1 u1 hu1
    intro hHeld
    refine wpAnyH_ready (rs := [15]) (by kernel_rfl) (by simp) ?_
    refine AllReadyH.cons rfl (fun K hK => ?_) AllReadyH.nil
    go_simp
    refine (rcount_any (unhide HR1) (unhide HO) who term yes).mono ?_
    rintro e y2 ⟨rfl, R2, u2⟩
    refine hK _ _ (unhide HSK y2 ((Upd.t1 (unhide HW1)).trans (Upd.t3 (u2.less (unhide HW1).size)))) ?_
    clear hK hHeld
    have HF := hide (unhide HFin y2 ⟨b, _, (unhide HJ).step ((unhide HO).count who term yes) (unhide HI1) R2 (u2.mono (Nat.le_refl _) (fun _ _ c => Or.inr c)) (unhide HW1).size (Or.inl rfl) (unhide HNB)⟩ ((Upd.t1 (unhide HW1)).trans (Upd.t3 (u2.less (unhide HW1).size))))
    clear R2 u2
    intro hHeld
    refine wpAnyH_take (i := 16) (v := (.bool true)) rfl (by kernel_rfl) (by kernel_rfl) (by kernel_rfl) (fun _ _ _ h => h) (Or.inl ⟨by rfl, ?hy39x16⟩) (by assumption) ?rest39x16
    case hy39x16 => intro w hSw; obtain ⟨s1, s8, s9⟩ := hSw; go_simp <;> with_reducible rfl
    simp only [Act.put, List.getElem_toArray, List.getElem_cons_zero, List.getElem_cons_succ, List.setIfInBounds_toArray, List.set_cons_zero, List.set_cons_succ]
    refine wpAnyH_take (i := 17) (v := ?v40x17) rfl (by kernel_rfl) (by kernel_rfl) (by kernel_rfl) (fun _ _ _ h => h) (Or.inl ⟨by rfl, ?hy40x17⟩) (by assumption) ?rest40x17
    case hy40x17 => intro w hSw; obtain ⟨s1, s8, s9⟩ := hSw; go_simp <;> with_reducible rfl
    simp only [Act.put, List.getElem_toArray, List.getElem_cons_zero, List.getElem_cons_succ, List.setIfInBounds_toArray, List.set_cons_zero, List.set_cons_succ]
    refine wpAnyH_done (by kernel_rfl) ?_ _
    go_wp2
    go_ret
    exact ⟨rfl, unhide HF⟩
  · go_enter Try.func9, Try.ntmps9
    go_wp2_with (rw [hB'])
    go_wp2
    go_ret
    exact ⟨rfl, unhide HFin _ ⟨_, _, unhide HJ⟩ (Upd.refl _ _ _)⟩
end Go.Proofs.Ytpadbbkklmgimaa
