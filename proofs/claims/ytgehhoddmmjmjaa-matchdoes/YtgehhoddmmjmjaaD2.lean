/- step: an operation done with both. -/
import Derived.Test.YtgehhoddmmjmjaaD1
namespace Go.Proofs.Ytgehhoddmmjmjaa
open Go.RowKit
set_option maxRecDepth 100000

abbrev Four (h r b d : Nat) : Nat → Prop := fun k => k = h ∨ k = r ∨ k = b ∨ k = d
theorem upd4h {h r b d N : Nat} {x y : World} (hu : Upd (One h) N x y) : Upd (Four h r b d) N x y := hu.mono (Nat.le_refl _) fun _ _ c => Or.inl c
theorem upd4r {h r b d N : Nat} {x y : World} (hu : Upd (Tri r b d) N x y) : Upd (Four h r b d) N x y := hu.mono (Nat.le_refl _) fun _ _ c => Or.inr c

/-- What a step leaves. -/
def Stepped (w : World) (N h r b cb d cd : Nat) (e : Ending) (w' : World) : Prop :=
  ∃ h' B', e = .returned (.tuple #[P0 h', .bool true]) ∧ Jb w' N h' r b cb d cd B' ∧ Upd (Four h r b d) w.heap.size w w'

theorem box3u {w x : World} {x0 x1 x2 : Value} {t : TypeId} {P : Nat → Prop} (hb : Upd P (w.heap.size + 1) (w.alloc (.cells #[x0, x1, x2] t)) x) (hp : ¬ P w.heap.size) :
    x.cell? ⟨w.heap.size, 0, none⟩ = some x0 ∧ x.cell? ⟨w.heap.size, 1, none⟩ = some x1 ∧ x.cell? ⟨w.heap.size, 2, none⟩ = some x2 := by
  refine ⟨?_, ?_, ?_⟩
  · rw [hb.cell (p := ⟨w.heap.size, 0, none⟩) (by simp) hp]; simp [go_sem]
  · rw [hb.cell (p := ⟨w.heap.size, 1, none⟩) (by simp) hp]; simp [go_sem]
  · rw [hb.cell (p := ⟨w.heap.size, 2, none⟩) (by simp) hp]; simp [go_sem]

set_option maxHeartbeats 3200000 in
theorem step_any {w : World} {N h r b cb d cd : Nat} {B : Bk} (J : Jb w N h r b cb d cd B) (hN : N ≤ w.heap.size) (act who slot : Int) :
    Calls Try.prog 11 #[P0 h, P0 r, .agg #[.int .i64 act, .int .i64 who, .int .i64 slot]] w fun e w' => Stepped w N h r b cb d cd e w' := by
  obtain ⟨X, hX⟩ : ∃ X, w.alloc (.cells #[.int .i64 act, .int .i64 who, .int .i64 slot] 34) = X := ⟨_, rfl⟩
  have HXs : Hid (X.heap.size = w.heap.size + 1) := by show _ = _; rw [← hX]; simp
  have bX : Below w.heap.size w X := by rw [← hX]; exact (Below.refl _ _).alloc (Nat.le_refl _) _
  have hlt : Hid (h < w.heap.size ∧ r < w.heap.size ∧ b < w.heap.size ∧ d < w.heap.size) := ⟨J.i.lt, J.j.lt, J.j.lb, J.j.ld⟩
  have HBX : Hid (∀ x, Upd (Four h r b d) X.heap.size X x → x.cell? ⟨w.heap.size, 0, none⟩ = some (.int .i64 act) ∧ x.cell? ⟨w.heap.size, 1, none⟩ = some (.int .i64 who) ∧ x.cell? ⟨w.heap.size, 2, none⟩ = some (.int .i64 slot)) := fun x hx => by
    refine box3u (by rw [hX, ← unhide HXs]; exact hx) ?_
    have := unhide hlt
    rintro (c | c | c | c) <;> omega
  have HUX : Hid (∀ x, Upd (Four h r b d) X.heap.size X x → Upd (Four h r b d) w.heap.size w x) := fun x hx => (Upd.of bX).trans (hx.less bX.size)
  have HJ := hide (J.below bX)
  have HNX : Hid (N ≤ w.heap.size ∧ X.heap.size = w.heap.size + 1) := ⟨hN, unhide HXs⟩
  clear J bX HXs hN
  obtain ⟨q0, q1, q2⟩ := unhide HBX X (Upd.refl _ _ _)
  rcases (show act = 0 ∨ act = 1 ∨ (act = 2 ∨ act = 3) ∨ (act ≠ 0 ∧ act ≠ 1 ∧ act ≠ 2 ∧ act ≠ 3) by omega) with rfl | rfl | ha | ⟨a0, a1, a2, a3⟩
  · have HG := hide (grow_any (unhide HJ).drew.i (unhide HJ).ok slot)
    obtain ⟨z, hz⟩ : ∃ z, B.growE slot = z := ⟨_, rfl⟩
    rw [hz] at HG
    have p2 : X.drew.cell? ⟨w.heap.size, 2, none⟩ = some (.int .i64 slot) := q2
    go_enter Try.func11, Try.ntmps11
    go_wp2_with (rw [hX])
    refine wp_region_held_drew (S := fun x => x.cell? ⟨w.heap.size, 2, none⟩ = some (.int .i64 slot)) (by kernel_rfl) p2 (fun hHeld => ?_)
    refine wpAnyH_take (i := 0) (v := ?v1x0) rfl (by kernel_rfl) (by kernel_rfl) (by kernel_rfl) (fun _ _ _ h => h) (Or.inl ⟨by rfl, ?hy1x0⟩) (by assumption) ?rest1x0
    case hy1x0 => intro w hSw; go_simp <;> with_reducible rfl
    simp only [Act.put, List.getElem_toArray, List.getElem_cons_zero, List.setIfInBounds_toArray, List.set_cons_zero, List.set_cons_succ]
    refine wpAnyH_take (i := 1) (v := ?v2x1) rfl (by kernel_rfl) (by kernel_rfl) (by kernel_rfl) (fun _ _ _ h => h) (Or.inl ⟨by rfl, ?hy2x1⟩) (by assumption) ?rest2x1
    case hy2x1 => intro w hSw; go_simp <;> with_reducible rfl
    simp only [Act.put, List.getElem_toArray, List.getElem_cons_zero, List.getElem_cons_succ, List.setIfInBounds_toArray, List.set_cons_zero, List.set_cons_succ]
    refine wpAnyH_take (i := 2) (v := ?v3x2) rfl (by kernel_rfl) (by kernel_rfl) (by kernel_rfl) (fun _ _ _ h => h) (Or.inl ⟨by rfl, ?hy3x2⟩) (by assumption) ?rest3x2
    case hy3x2 => intro w hSw; go_simp <;> with_reducible rfl
    simp only [Act.put, List.getElem_toArray, List.getElem_cons_zero, List.getElem_cons_succ, List.setIfInBounds_toArray, List.set_cons_zero, List.set_cons_succ]
    refine wpAnyH_take (i := 3) (v := ?v4x3) rfl (by kernel_rfl) (by kernel_rfl) (by kernel_rfl) (fun _ _ _ h => h) (Or.inl ⟨by rfl, ?hy4x3⟩) (by assumption) ?rest4x3
    case hy4x3 => intro w hSw; go_simp <;> with_reducible rfl
    simp only [Act.put, List.getElem_toArray, List.getElem_cons_zero, List.getElem_cons_succ, List.setIfInBounds_toArray, List.set_cons_zero, List.set_cons_succ]
    refine wpAnyH_take (i := 5) (v := ?v5x5) rfl (by kernel_rfl) (by kernel_rfl) (by kernel_rfl) (fun _ _ _ h => h) (Or.inl ⟨by rfl, ?hy5x5⟩) (by assumption) ?rest5x5
    case hy5x5 => intro w hSw; go_simp <;> with_reducible rfl
    simp only [Act.put, List.getElem_toArray, List.getElem_cons_zero, List.getElem_cons_succ, List.setIfInBounds_toArray, List.set_cons_zero, List.set_cons_succ]
    refine wpAnyH_take (i := 6) (v := ?v6x6) rfl (by kernel_rfl) (by kernel_rfl) (by kernel_rfl) (fun _ _ _ h => h) (Or.inl ⟨by rfl, ?hy6x6⟩) (by assumption) ?rest6x6
    case hy6x6 => intro w hSw; go_simp <;> with_reducible rfl
    simp only [Act.put, List.getElem_toArray, List.getElem_cons_zero, List.getElem_cons_succ, List.setIfInBounds_toArray, List.set_cons_zero, List.set_cons_succ]
    refine wpAnyH_take (i := 7) (v := ?v7x7) rfl (by kernel_rfl) (by kernel_rfl) (by kernel_rfl) (fun _ _ _ h => h) (Or.inl ⟨by rfl, ?hy7x7⟩) (by assumption) ?rest7x7
    case hy7x7 => intro w hSw; go_simp <;> with_reducible rfl
    simp only [Act.put, List.getElem_toArray, List.getElem_cons_zero, List.getElem_cons_succ, List.setIfInBounds_toArray, List.set_cons_zero, List.set_cons_succ]
    refine wpAnyH_ready (rs := [4]) (by kernel_rfl) (by simp) ?_
    refine AllReadyH.cons rfl (fun K hK => ?_) AllReadyH.nil
    go_simp
    refine (unhide HG).mono ?_
    rintro e y1 ⟨rfl, I1, u1⟩
    refine hK _ _ ((unhide HBX y1 ((Upd.refl _ _ _).drew.trans (upd4h u1))).2.2) ?_
    clear hK hHeld
    have HI1 := hide I1
    have HU1 : Hid (Upd (Four h r b d) X.heap.size X y1) := (Upd.refl _ _ _).drew.trans (upd4h u1)
    have HR1 := hide ((unhide HJ).drew.j.one u1 (unhide HJ).hr (unhide HJ).hb (unhide HJ).hd)
    clear I1 u1
    intro hHeld
    refine wpAnyH_ready (rs := [8]) (by kernel_rfl) (by simp) ?_
    refine AllReadyH.cons rfl (fun K hK => ?_) AllReadyH.nil
    go_simp
    refine ((hz ▸ rgrow_any (unhide HR1) slot)).mono ?_
    rintro e y2 ⟨rfl, R2, u2⟩
    refine hK _ _ ((unhide HBX y2 ((unhide HU1).trans ((upd4r u2).less (unhide HU1).size))).2.2) ?_
    clear hK hHeld
    have HF : Hid (Stepped w N h r b cb d cd (.returned (.tuple #[P0 h, .bool true])) y2) := ⟨h, B.growN slot, rfl, ⟨(unhide HJ).ok.growN slot, (unhide HI1).tri u2 (unhide HJ).hr (unhide HJ).hb (unhide HJ).hd, R2, (unhide HJ).hr, (unhide HJ).hb, (unhide HJ).hd, (unhide HJ).nh, (unhide HJ).nr, (unhide HJ).nb, (unhide HJ).nd⟩, unhide HUX _ ((unhide HU1).trans ((upd4r u2).less (unhide HU1).size))⟩
    clear R2 u2
    intro hHeld
    refine wpAnyH_take (i := 9) (v := (.bool true)) rfl (by kernel_rfl) (by kernel_rfl) (by kernel_rfl) (fun _ _ _ h => h) (Or.inl ⟨by rfl, ?hy8x9⟩) (by assumption) ?rest8x9
    case hy8x9 => intro w hSw; go_simp <;> with_reducible rfl
    simp only [Act.put, List.getElem_toArray, List.getElem_cons_zero, List.getElem_cons_succ, List.setIfInBounds_toArray, List.set_cons_zero, List.set_cons_succ]
    refine wpAnyH_take (i := 10) (v := ?v9x10) rfl (by kernel_rfl) (by kernel_rfl) (by kernel_rfl) (fun _ _ _ h => h) (Or.inl ⟨by rfl, ?hy9x10⟩) (by assumption) ?rest9x10
    case hy9x10 => intro w hSw; go_simp <;> with_reducible rfl
    simp only [Act.put, List.getElem_toArray, List.getElem_cons_zero, List.getElem_cons_succ, List.setIfInBounds_toArray, List.set_cons_zero, List.set_cons_succ]
    refine wpAnyH_take (i := 11) (v := ?v10x11) rfl (by kernel_rfl) (by kernel_rfl) (by kernel_rfl) (fun _ _ _ h => h) (Or.inl ⟨by rfl, ?hy10x11⟩) (by assumption) ?rest10x11
    case hy10x11 => intro w hSw; go_simp <;> with_reducible rfl
    simp only [Act.put, List.getElem_toArray, List.getElem_cons_zero, List.getElem_cons_succ, List.setIfInBounds_toArray, List.set_cons_zero, List.set_cons_succ]
    refine wpAnyH_done (by kernel_rfl) ?_ _
    go_wp2
    go_ret2
    exact unhide HF
  · have HG := hide (sent_any (unhide HJ).drew.i (unhide HJ).ok who slot)
    obtain ⟨z, hz⟩ : ∃ z, B.sentE who slot = z := ⟨_, rfl⟩
    rw [hz] at HG
    have p1 : X.drew.cell? ⟨w.heap.size, 1, none⟩ = some (.int .i64 who) := q1
    have p2 : X.drew.cell? ⟨w.heap.size, 2, none⟩ = some (.int .i64 slot) := q2
    go_enter Try.func11, Try.ntmps11
    go_wp2_with (rw [hX])
    refine wp_region_held_drew (S := fun x => x.cell? ⟨w.heap.size, 1, none⟩ = some (.int .i64 who) ∧ x.cell? ⟨w.heap.size, 2, none⟩ = some (.int .i64 slot)) (by kernel_rfl) ⟨p1, p2⟩ (fun hHeld => ?_)
    refine wpAnyH_take (i := 0) (v := ?v11x0) rfl (by kernel_rfl) (by kernel_rfl) (by kernel_rfl) (fun _ _ _ h => h) (Or.inl ⟨by rfl, ?hy11x0⟩) (by assumption) ?rest11x0
    case hy11x0 => intro w hSw; obtain ⟨s1, s2⟩ := hSw; go_simp <;> with_reducible rfl
    simp only [Act.put, List.getElem_toArray, List.getElem_cons_zero, List.setIfInBounds_toArray, List.set_cons_zero, List.set_cons_succ]
    refine wpAnyH_take (i := 1) (v := ?v12x1) rfl (by kernel_rfl) (by kernel_rfl) (by kernel_rfl) (fun _ _ _ h => h) (Or.inl ⟨by rfl, ?hy12x1⟩) (by assumption) ?rest12x1
    case hy12x1 => intro w hSw; obtain ⟨s1, s2⟩ := hSw; go_simp <;> with_reducible rfl
    simp only [Act.put, List.getElem_toArray, List.getElem_cons_zero, List.getElem_cons_succ, List.setIfInBounds_toArray, List.set_cons_zero, List.set_cons_succ]
    refine wpAnyH_take (i := 2) (v := ?v13x2) rfl (by kernel_rfl) (by kernel_rfl) (by kernel_rfl) (fun _ _ _ h => h) (Or.inl ⟨by rfl, ?hy13x2⟩) (by assumption) ?rest13x2
    case hy13x2 => intro w hSw; obtain ⟨s1, s2⟩ := hSw; go_simp <;> with_reducible rfl
    simp only [Act.put, List.getElem_toArray, List.getElem_cons_zero, List.getElem_cons_succ, List.setIfInBounds_toArray, List.set_cons_zero, List.set_cons_succ]
    refine wpAnyH_take (i := 3) (v := ?v14x3) rfl (by kernel_rfl) (by kernel_rfl) (by kernel_rfl) (fun _ _ _ h => h) (Or.inl ⟨by rfl, ?hy14x3⟩) (by assumption) ?rest14x3
    case hy14x3 => intro w hSw; obtain ⟨s1, s2⟩ := hSw; go_simp <;> with_reducible rfl
    simp only [Act.put, List.getElem_toArray, List.getElem_cons_zero, List.getElem_cons_succ, List.setIfInBounds_toArray, List.set_cons_zero, List.set_cons_succ]
    refine wpAnyH_take (i := 4) (v := ?v15x4) rfl (by kernel_rfl) (by kernel_rfl) (by kernel_rfl) (fun _ _ _ h => h) (Or.inl ⟨by rfl, ?hy15x4⟩) (by assumption) ?rest15x4
    case hy15x4 => intro w hSw; obtain ⟨s1, s2⟩ := hSw; go_simp <;> with_reducible rfl
    simp only [Act.put, List.getElem_toArray, List.getElem_cons_zero, List.getElem_cons_succ, List.setIfInBounds_toArray, List.set_cons_zero, List.set_cons_succ]
    refine wpAnyH_take (i := 5) (v := ?v16x5) rfl (by kernel_rfl) (by kernel_rfl) (by kernel_rfl) (fun _ _ _ h => h) (Or.inl ⟨by rfl, ?hy16x5⟩) (by assumption) ?rest16x5
    case hy16x5 => intro w hSw; obtain ⟨s1, s2⟩ := hSw; go_simp <;> with_reducible rfl
    simp only [Act.put, List.getElem_toArray, List.getElem_cons_zero, List.getElem_cons_succ, List.setIfInBounds_toArray, List.set_cons_zero, List.set_cons_succ]
    refine wpAnyH_take (i := 7) (v := ?v17x7) rfl (by kernel_rfl) (by kernel_rfl) (by kernel_rfl) (fun _ _ _ h => h) (Or.inl ⟨by rfl, ?hy17x7⟩) (by assumption) ?rest17x7
    case hy17x7 => intro w hSw; obtain ⟨s1, s2⟩ := hSw; go_simp <;> with_reducible rfl
    simp only [Act.put, List.getElem_toArray, List.getElem_cons_zero, List.getElem_cons_succ, List.setIfInBounds_toArray, List.set_cons_zero, List.set_cons_succ]
    refine wpAnyH_take (i := 8) (v := ?v18x8) rfl (by kernel_rfl) (by kernel_rfl) (by kernel_rfl) (fun _ _ _ h => h) (Or.inl ⟨by rfl, ?hy18x8⟩) (by assumption) ?rest18x8
    case hy18x8 => intro w hSw; obtain ⟨s1, s2⟩ := hSw; go_simp <;> with_reducible rfl
    simp only [Act.put, List.getElem_toArray, List.getElem_cons_zero, List.getElem_cons_succ, List.setIfInBounds_toArray, List.set_cons_zero, List.set_cons_succ]
    refine wpAnyH_take (i := 9) (v := ?v19x9) rfl (by kernel_rfl) (by kernel_rfl) (by kernel_rfl) (fun _ _ _ h => h) (Or.inl ⟨by rfl, ?hy19x9⟩) (by assumption) ?rest19x9
    case hy19x9 => intro w hSw; obtain ⟨s1, s2⟩ := hSw; go_simp <;> with_reducible rfl
    simp only [Act.put, List.getElem_toArray, List.getElem_cons_zero, List.getElem_cons_succ, List.setIfInBounds_toArray, List.set_cons_zero, List.set_cons_succ]
    refine wpAnyH_take (i := 10) (v := ?v20x10) rfl (by kernel_rfl) (by kernel_rfl) (by kernel_rfl) (fun _ _ _ h => h) (Or.inl ⟨by rfl, ?hy20x10⟩) (by assumption) ?rest20x10
    case hy20x10 => intro w hSw; obtain ⟨s1, s2⟩ := hSw; go_simp <;> with_reducible rfl
    simp only [Act.put, List.getElem_toArray, List.getElem_cons_zero, List.getElem_cons_succ, List.setIfInBounds_toArray, List.set_cons_zero, List.set_cons_succ]
    refine wpAnyH_take (i := 11) (v := ?v21x11) rfl (by kernel_rfl) (by kernel_rfl) (by kernel_rfl) (fun _ _ _ h => h) (Or.inl ⟨by rfl, ?hy21x11⟩) (by assumption) ?rest21x11
    case hy21x11 => intro w hSw; obtain ⟨s1, s2⟩ := hSw; go_simp <;> with_reducible rfl
    simp only [Act.put, List.getElem_toArray, List.getElem_cons_zero, List.getElem_cons_succ, List.setIfInBounds_toArray, List.set_cons_zero, List.set_cons_succ]
    refine wpAnyH_ready (rs := [6]) (by kernel_rfl) (by simp) ?_
    refine AllReadyH.cons rfl (fun K hK => ?_) AllReadyH.nil
    go_simp
    refine (unhide HG).mono ?_
    rintro e y1 ⟨rfl, I1, u1⟩
    refine hK _ _ ((unhide HBX y1 ((Upd.refl _ _ _).drew.trans (upd4h u1))).2) ?_
    clear hK hHeld
    have HI1 := hide I1
    have HU1 : Hid (Upd (Four h r b d) X.heap.size X y1) := (Upd.refl _ _ _).drew.trans (upd4h u1)
    have HR1 := hide ((unhide HJ).drew.j.one u1 (unhide HJ).hr (unhide HJ).hb (unhide HJ).hd)
    clear I1 u1
    intro hHeld
    refine wpAnyH_ready (rs := [12]) (by kernel_rfl) (by simp) ?_
    refine AllReadyH.cons rfl (fun K hK => ?_) AllReadyH.nil
    go_simp
    refine ((hz ▸ rsent_any (unhide HR1) (unhide HJ).ok who slot)).mono ?_
    rintro e y2 ⟨rfl, R2, u2⟩
    refine hK _ _ ((unhide HBX y2 ((unhide HU1).trans ((upd4r u2).less (unhide HU1).size))).2) ?_
    clear hK hHeld
    have HF : Hid (Stepped w N h r b cb d cd (.returned (.tuple #[P0 h, .bool true])) y2) := ⟨h, B.sentN who slot, rfl, ⟨(unhide HJ).ok.sentN who slot, (unhide HI1).tri u2 (unhide HJ).hr (unhide HJ).hb (unhide HJ).hd, R2, (unhide HJ).hr, (unhide HJ).hb, (unhide HJ).hd, (unhide HJ).nh, (unhide HJ).nr, (unhide HJ).nb, (unhide HJ).nd⟩, unhide HUX _ ((unhide HU1).trans ((upd4r u2).less (unhide HU1).size))⟩
    clear R2 u2
    intro hHeld
    refine wpAnyH_take (i := 13) (v := (.bool true)) rfl (by kernel_rfl) (by kernel_rfl) (by kernel_rfl) (fun _ _ _ h => h) (Or.inl ⟨by rfl, ?hy22x13⟩) (by assumption) ?rest22x13
    case hy22x13 => intro w hSw; obtain ⟨s1, s2⟩ := hSw; go_simp <;> with_reducible rfl
    simp only [Act.put, List.getElem_toArray, List.getElem_cons_zero, List.getElem_cons_succ, List.setIfInBounds_toArray, List.set_cons_zero, List.set_cons_succ]
    refine wpAnyH_take (i := 14) (v := ?v23x14) rfl (by kernel_rfl) (by kernel_rfl) (by kernel_rfl) (fun _ _ _ h => h) (Or.inl ⟨by rfl, ?hy23x14⟩) (by assumption) ?rest23x14
    case hy23x14 => intro w hSw; obtain ⟨s1, s2⟩ := hSw; go_simp <;> with_reducible rfl
    simp only [Act.put, List.getElem_toArray, List.getElem_cons_zero, List.getElem_cons_succ, List.setIfInBounds_toArray, List.set_cons_zero, List.set_cons_succ]
    refine wpAnyH_take (i := 15) (v := ?v24x15) rfl (by kernel_rfl) (by kernel_rfl) (by kernel_rfl) (fun _ _ _ h => h) (Or.inl ⟨by rfl, ?hy24x15⟩) (by assumption) ?rest24x15
    case hy24x15 => intro w hSw; obtain ⟨s1, s2⟩ := hSw; go_simp <;> with_reducible rfl
    simp only [Act.put, List.getElem_toArray, List.getElem_cons_zero, List.getElem_cons_succ, List.setIfInBounds_toArray, List.set_cons_zero, List.set_cons_succ]
    refine wpAnyH_done (by kernel_rfl) ?_ _
    go_wp2
    go_ret2
    exact unhide HF
  · rcases ha with rfl | rfl
    · have HG := hide (told_any (unhide HJ).i (unhide HJ).ok who true slot)
      obtain ⟨zb, hzb⟩ : ∃ z, B.toldB who true slot = z := ⟨_, rfl⟩
      obtain ⟨ze, hze⟩ : ∃ z, B.toldE who true slot = z := ⟨_, rfl⟩
      rw [hzb, hze] at HG
      go_enter Try.func11, Try.ntmps11
      go_wp2_with (rw [hX])
      refine (unhide HG).mono ?_
      rintro e y1 ⟨rfl, I1, u1⟩
      have HI1 := hide I1
      have HU1 : Hid (Upd (Four h r b d) X.heap.size X y1) := upd4h u1
      have HR1 := hide ((unhide HJ).j.one u1 (unhide HJ).hr (unhide HJ).hb (unhide HJ).hd)
      clear I1 u1 q0 q1 q2
      obtain ⟨q0, q1, q2⟩ := unhide HBX y1 (unhide HU1)
      have HRT := hide (rtold_any (unhide HR1) (unhide HJ).ok who true slot)
      rw [hzb, hze] at HRT
      go_wp2_with fail
      refine (unhide HRT).mono ?_
      rintro e y2 ⟨rfl, R2, u2⟩
      have HF : Hid (Stepped w N h r b cb d cd (.returned (.tuple #[P0 h, .bool true])) y2) := ⟨h, _, rfl, ⟨(unhide HJ).ok.toldN who true slot, (unhide HI1).tri u2 (unhide HJ).hr (unhide HJ).hb (unhide HJ).hd, R2, (unhide HJ).hr, (unhide HJ).hb, (unhide HJ).hd, (unhide HJ).nh, (unhide HJ).nr, (unhide HJ).nb, (unhide HJ).nd⟩, unhide HUX _ ((unhide HU1).trans ((upd4r u2).less (unhide HU1).size))⟩
      clear R2 u2 q0 q1 q2
      go_wp2
      go_ret2
      first | exact unhide HF | simpa using unhide HF
    · have HG := hide (told_any (unhide HJ).i (unhide HJ).ok who false slot)
      obtain ⟨zb, hzb⟩ : ∃ z, B.toldB who false slot = z := ⟨_, rfl⟩
      obtain ⟨ze, hze⟩ : ∃ z, B.toldE who false slot = z := ⟨_, rfl⟩
      rw [hzb, hze] at HG
      go_enter Try.func11, Try.ntmps11
      go_wp2_with (rw [hX])
      refine (unhide HG).mono ?_
      rintro e y1 ⟨rfl, I1, u1⟩
      have HI1 := hide I1
      have HU1 : Hid (Upd (Four h r b d) X.heap.size X y1) := upd4h u1
      have HR1 := hide ((unhide HJ).j.one u1 (unhide HJ).hr (unhide HJ).hb (unhide HJ).hd)
      clear I1 u1 q0 q1 q2
      obtain ⟨q0, q1, q2⟩ := unhide HBX y1 (unhide HU1)
      have HRT := hide (rtold_any (unhide HR1) (unhide HJ).ok who false slot)
      rw [hzb, hze] at HRT
      go_wp2_with fail
      refine (unhide HRT).mono ?_
      rintro e y2 ⟨rfl, R2, u2⟩
      have HF : Hid (Stepped w N h r b cb d cd (.returned (.tuple #[P0 h, .bool true])) y2) := ⟨h, _, rfl, ⟨(unhide HJ).ok.toldN who false slot, (unhide HI1).tri u2 (unhide HJ).hr (unhide HJ).hb (unhide HJ).hd, R2, (unhide HJ).hr, (unhide HJ).hb, (unhide HJ).hd, (unhide HJ).nh, (unhide HJ).nr, (unhide HJ).nb, (unhide HJ).nd⟩, unhide HUX _ ((unhide HU1).trans ((upd4r u2).less (unhide HU1).size))⟩
      clear R2 u2 q0 q1 q2
      go_wp2
      go_ret2
      first | exact unhide HF | simpa using unhide HF
  · have HC := hide (clone_any (unhide HJ).i (unhide HJ).ok)
    go_enter Try.func11, Try.ntmps11
    go_wp2_with (rw [hX])
    refine (unhide HC).mono ?_
    rintro e y1 ⟨rfl, I1, b1⟩
    have HB1 := hide b1
    have HI1 := hide I1
    clear I1 b1 q0 q1 q2
    have HU1 : Hid (Upd (Four h r b d) X.heap.size X y1) := Upd.of (unhide HB1)
    obtain ⟨q0, q1, q2⟩ := unhide HBX y1 (unhide HU1)
    have HG := hide (grow_any ((unhide HJ).i.below (unhide HB1)) (unhide HJ).ok slot)
    have hne : Hid (X.heap.size ≠ h ∧ X.heap.size ≠ r ∧ X.heap.size ≠ b ∧ X.heap.size ≠ d) := by
      have := unhide hlt; have := (unhide HNX).2
      exact ⟨by omega, by omega, by omega, by omega⟩
    go_wp2_with fail
    refine (unhide HG).mono ?_
    rintro e y2 ⟨rfl, I2, u2⟩
    have HT := hide (told_any I2 ((unhide HJ).ok.growN slot) who true slot)
    have HU2 : Hid (Upd (Four h r b d) X.heap.size X y2) := (unhide HU1).trans ((upd4h u2).less (unhide HU1).size)
    have HI2 := hide ((unhide HI1).upd u2 (Nat.le_refl _) (unhide hne).1)
    have HR2 := hide (((unhide HJ).j.below (unhide HB1)).one u2 (unhide HJ).hr (unhide HJ).hb (unhide HJ).hd)
    clear I2 u2 q0 q1 q2
    obtain ⟨q0, q1, q2⟩ := unhide HBX y2 (unhide HU2)
    go_wp2_with fail
    refine (unhide HT).mono ?_
    rintro e y3 ⟨rfl, I3, u3⟩
    have HF : Hid (Stepped w N h r b cb d cd (.returned (.tuple #[P0 X.heap.size, .bool true])) y3) := by
      have hn := unhide hne
      have hx := unhide HNX
      exact ⟨X.heap.size, B, rfl, ⟨(unhide HJ).ok, (unhide HI2).upd u3 (Nat.le_refl _) hn.1, (unhide HR2).one u3 (unhide HJ).hr (unhide HJ).hb (unhide HJ).hd, hn.2.1, hn.2.2.1, hn.2.2.2, by omega, (unhide HJ).nr, (unhide HJ).nb, (unhide HJ).nd⟩, unhide HUX _ ((unhide HU2).trans ((upd4h u3).less (unhide HU2).size))⟩
    clear I3 u3 q0 q1 q2
    go_wp2
    go_ret2
    exact unhide HF
end Go.Proofs.Ytgehhoddmmjmjaa
