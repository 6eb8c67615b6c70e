/- The document's own reader (package trivetref04): Fail, Num, Data, Len. -/
import Derived.Test.YtggllgimlfchhaaR2
import Derived.Test.YtggllgimlfchhaaZE
import Derived.Deep.RegionHeld3
namespace Go.Proofs.Ytggllgimlfchhaa
open Go.RowKit
set_option maxRecDepth 100000

/-- The document's reader at block R, over the bytes z0: what is left is behind some place. -/
structure Dr (w : World) (R lo : Nat) (z0 : List Int) (s : RS) : Prop where
  cb : ∃ v, w.cell? ⟨R, 0, none⟩ = some v ∧ SeesB lo w .u8 v z0
  ca : ∃ k : Nat, w.cell? ⟨R, 1, none⟩ = some (.int .i64 k) ∧ k ≤ z0.length ∧ s.zs = z0.drop k
  ce : w.cell? ⟨R, 2, none⟩ = some (.int .i64 s.er)
  cu : w.cell? ⟨R, 3, none⟩ = some (.bool s.un)
  fr : ∀ o, w.frozen? ⟨R, o, none⟩ = false
  lt : lo ≤ R
  byt : Byt z0
  len : z0.length ≤ 140737488351232
theorem Dr.rlt {w : World} {R lo : Nat} {z0 : List Int} {s : RS} (h : Dr w R lo z0 s) : R < w.heap.size := World.block_lt_of_cell? w _ h.ce
theorem Dr.keep {w w' : World} {R lo : Nat} {z0 : List Int} {s : RS} (h : Dr w R lo z0 s) (hb : ∀ k, k ≤ R → w'.heap[k]? = w.heap[k]?) : Dr w' R lo z0 s := by
  obtain ⟨v, h1, h2⟩ := h.cb
  obtain ⟨k, h3, h4, h5⟩ := h.ca
  have hl := h.lt
  have c : ∀ o u, w.cell? ⟨R, o, none⟩ = some u → w'.cell? ⟨R, o, none⟩ = some u := fun o u e => (World.cell?_of_block (a := ⟨R, o, none⟩) (hb R (Nat.le_refl _))).trans e
  refine ⟨⟨v, c _ _ h1, ?_⟩, ⟨k, c _ _ h3, h4, h5⟩, c _ _ h.ce, c _ _ h.cu, fun o => (World.frozen?_of_block (w := w) (hb R (Nat.le_refl _))).trans (h.fr o), hl, h.byt, h.len⟩
  obtain ⟨ao, cap, e, g1, g2, g3⟩ := h2
  exact ⟨ao, cap, e, g1, g2, fun a ha t ht => by
    obtain ⟨q1, q2⟩ := g3 a ha t ht
    exact ⟨(World.cell?_of_block (hb _ (by omega))).trans q1, q2⟩⟩
theorem Dr.below {w w' : World} {R lo : Nat} {z0 : List Int} {s : RS} (h : Dr w R lo z0 s) (hb : Below w.heap.size w w') : Dr w' R lo z0 s :=
  h.keep fun k hk => hb.block k (by have := h.rlt; omega)
theorem Dr.move {w : World} {R lo : Nat} {z0 : List Int} {s : RS} {k j : Nat} (h : Dr w R lo z0 s) (hk : w.cell? ⟨R, 1, none⟩ = some (.int .i64 k)) (hz : s.zs = z0.drop k) (hj : k + j ≤ z0.length) :
    Dr (w.setCell ⟨R, 1, none⟩ (.int .i64 ((k + j : Nat) : Int))) R lo z0 ⟨s.zs.drop j, s.er, s.un⟩ := by
  obtain ⟨v0, h1, h2⟩ := h.cb
  have n10 : (⟨R, 1, none⟩ : Addr) ≠ ⟨R, 0, none⟩ := by simp
  have n12 : (⟨R, 1, none⟩ : Addr) ≠ ⟨R, 2, none⟩ := by simp
  have n13 : (⟨R, 1, none⟩ : Addr) ≠ ⟨R, 3, none⟩ := by simp
  refine ⟨⟨v0, (World.cell?_setCell_other _ _ _ _ n10).trans h1, h2.setR h.lt _ _⟩, ⟨k + j, World.cell?_setCell_same _ _ _ hk, hj, by rw [hz, List.drop_drop]⟩, (World.cell?_setCell_other _ _ _ _ n12).trans h.ce, (World.cell?_setCell_other _ _ _ _ n13).trans h.cu, fun o => ?_, h.lt, h.byt, h.len⟩
  rw [World.frozen?_setCell]
  exact h.fr o
theorem Dr.err {w : World} {R lo : Nat} {z0 : List Int} {s : RS} {er' : Int} (h : Dr w R lo z0 s) : Dr (w.setCell ⟨R, 2, none⟩ (.int .i64 er')) R lo z0 ⟨s.zs, er', s.un⟩ := by
  obtain ⟨v0, h1, h2⟩ := h.cb
  obtain ⟨k, h3, h4, h5⟩ := h.ca
  have n20 : (⟨R, 2, none⟩ : Addr) ≠ ⟨R, 0, none⟩ := by simp
  have n21 : (⟨R, 2, none⟩ : Addr) ≠ ⟨R, 1, none⟩ := by simp
  have n23 : (⟨R, 2, none⟩ : Addr) ≠ ⟨R, 3, none⟩ := by simp
  refine ⟨⟨v0, (World.cell?_setCell_other _ _ _ _ n20).trans h1, h2.setR h.lt _ _⟩, ⟨k, (World.cell?_setCell_other _ _ _ _ n21).trans h3, h4, h5⟩, World.cell?_setCell_same _ _ _ h.ce, (World.cell?_setCell_other _ _ _ _ n23).trans h.cu, fun o => ?_, h.lt, h.byt, h.len⟩
  rw [World.frozen?_setCell]
  exact h.fr o
theorem Dr.odd {w : World} {R lo : Nat} {z0 : List Int} {s : RS} {un' : Bool} (h : Dr w R lo z0 s) : Dr (w.setCell ⟨R, 3, none⟩ (.bool un')) R lo z0 ⟨s.zs, s.er, un'⟩ := by
  obtain ⟨v0, h1, h2⟩ := h.cb
  obtain ⟨k, h3, h4, h5⟩ := h.ca
  have n30 : (⟨R, 3, none⟩ : Addr) ≠ ⟨R, 0, none⟩ := by simp
  have n31 : (⟨R, 3, none⟩ : Addr) ≠ ⟨R, 1, none⟩ := by simp
  have n32 : (⟨R, 3, none⟩ : Addr) ≠ ⟨R, 2, none⟩ := by simp
  refine ⟨⟨v0, (World.cell?_setCell_other _ _ _ _ n30).trans h1, h2.setR h.lt _ _⟩, ⟨k, (World.cell?_setCell_other _ _ _ _ n31).trans h3, h4, h5⟩, (World.cell?_setCell_other _ _ _ _ n32).trans h.ce, World.cell?_setCell_same _ _ _ h.cu, fun o => ?_, h.lt, h.byt, h.len⟩
  rw [World.frozen?_setCell]
  exact h.fr o

set_option maxHeartbeats 400000 in
theorem fail_d {w : World} {R lo : Nat} {z0 : List Int} {s : RS} (h : Dr w R lo z0 s) (e0 : Int) (he : s.er = 0) :
    Calls Try.prog 83 #[.pointer (some ⟨R, 0, none⟩), .int .i64 e0] w fun e w' => e = .returned (.tuple #[]) ∧ w' = w.setCell ⟨R, 2, none⟩ (.int .i64 e0) := by
  have h1 := h.ce
  have hfr := h.fr
  rw [he] at h1
  clear h
  go_enter Try.func83, Try.ntmps83
  go_wp2
  go_end0
  exact ⟨rfl, rfl⟩
set_option maxHeartbeats 400000 in
theorem fail_d' {w : World} {R lo : Nat} {z0 : List Int} {s : RS} (h : Dr w R lo z0 s) (e0 : Int) (he : s.er ≠ 0) :
    Calls Try.prog 83 #[.pointer (some ⟨R, 0, none⟩), .int .i64 e0] w fun e w' => e = .returned (.tuple #[]) ∧ w' = w := by
  have h1 := h.ce
  have hb : (s.er == 0) = false := beq_eq_false_iff_ne.2 he
  clear h
  go_enter Try.func83, Try.ntmps83
  go_wp2
  go_end0
  exact ⟨rfl, rfl⟩

theorem addr_set_other (R : Nat) (w : World) (u : Value) : (w.setCell ⟨R, 2, none⟩ u).cell? ⟨R, 1, none⟩ = w.cell? ⟨R, 1, none⟩ := World.cell?_setCell_other _ _ _ _ (by simp)

set_option maxHeartbeats 1600000 in
theorem num_d {w : World} {R lo : Nat} {z0 : List Int} {s : RS} (h : Dr w R lo z0 s) :
    Calls Try.prog 54 #[.pointer (some ⟨R, 0, none⟩)] w fun e w' => e = .returned (.int .i64 s.num.1) ∧ Dr w' R lo z0 s.num.2 ∧ But R w w' := by
  by_cases he : s.er = 0
  · obtain ⟨v, hv, hsb⟩ := h.cb
    obtain ⟨k, hk, hkl, hkz⟩ := h.ca
    have h1 := h.ce
    have hfr := h.fr
    have hlen := h.len
    have hno := tn_no s.zs
    have hle := tn_size s.zs
    have hnum : s.num = ((tn s.zs).1, ⟨s.zs.drop (tn s.zs).2.1, (tn s.zs).2.2, s.un⟩) := by unfold RS.num; rw [if_pos he]
    rw [hnum]
    rw [he] at h1
    obtain ⟨ao, cap, rfl, hcap, hnil, _⟩ := id hsb
    have hcut := hsb.cut k (z0.length - k) (by omega)
    rw [List.take_of_length_le (by rw [List.length_drop]; omega), ← hkz] at hcut
    have hlz : s.zs.length = z0.length - k := by rw [hkz, List.length_drop]
    have hd : Below w.heap.size w w.drew := (Below.refl _ _).drew
    have HBD := hide (But.of (R := R) hd)
    have hx := h.below hd
    have HT := hide (refTake_any _ s.zs w.drew (hcut.sees.below hd) (by rw [hkz]; exact h.byt.drop k) (by omega))
    have HF : Hid (∀ e0, Calls Try.prog 83 #[.pointer (some ⟨R, 0, none⟩), .int .i64 e0] w.drew fun e w' => e = .returned (.tuple #[]) ∧ w' = w.drew.setCell ⟨R, 2, none⟩ (.int .i64 e0)) := fun e0 => fail_d hx e0 he
    have HM : Hid (∀ j, j ≤ s.zs.length → Dr (w.drew.setCell ⟨R, 1, none⟩ (.int .i64 ((k + j : Nat) : Int))) R lo z0 ⟨s.zs.drop j, s.er, s.un⟩) := fun j hj => hx.move hk hkz (by omega)
    have HE : Hid (∀ er', Dr (w.drew.setCell ⟨R, 2, none⟩ (.int .i64 er')) R lo z0 ⟨s.zs, er', s.un⟩) := fun er' => hx.err
    clear h hsb hcut hnum hd hx
    generalize tn s.zs = t at *
    obtain ⟨n, j, e⟩ := t
    simp only at hle hno HT ⊢
    by_cases hee : e = 0
    · subst hee
      have hkj : wrap64 ((k : Int) + j) = ((k + j : Nat) : Int) := by unfold wrap64; omega
      have HD : Hid (Dr (w.drew.setCell ⟨R, 1, none⟩ (.int .i64 ((k + j : Nat) : Int))) R lo z0 ⟨s.zs.drop j, 0, s.un⟩) := by have := unhide HM j hle; rw [he] at this; exact this
      clear hno HM HE HF
      by_cases hck : cap = k
      · subst hck
        rw [if_pos rfl] at HT
        have hz0 : z0.length - cap = 0 := by omega
        have hz1 : cap - cap = 0 := by omega
        rw [hz0, hz1] at HT
        have hle2 : z0.length = cap := by omega
        go_enter Try.func54, Try.ntmps54
        go_wp2_with fail
        refine wp_region_held_drew (S := fun x => x.cell? ⟨R, 0, none⟩ = some (.slice ao z0.length cap) ∧ x.cell? ⟨R, 1, none⟩ = some (.int .i64 cap)) (by kernel_rfl) ⟨hv, hk⟩ (fun hHeld => ?_)
        refine wpAnyH_take (i := 0) (v := ?v1x0) rfl (by kernel_rfl) (by kernel_rfl) (by kernel_rfl) (fun _ _ _ h => h) (Or.inl ⟨by rfl, ?hy1x0⟩) (by assumption) ?rest1x0
        case hy1x0 => intro w hSw; obtain ⟨g0, g1⟩ := hSw; go_simp <;> with_reducible rfl
        simp only [Act.put, List.getElem_toArray, List.getElem_cons_zero, List.setIfInBounds_toArray, List.set_cons_zero, List.set_cons_succ]
        refine wpAnyH_take (i := 1) (v := ?v2x1) rfl (by kernel_rfl) (by kernel_rfl) (by kernel_rfl) (fun _ _ _ h => h) (Or.inl ⟨by rfl, ?hy2x1⟩) (by assumption) ?rest2x1
        case hy2x1 => intro w hSw; obtain ⟨g0, g1⟩ := hSw; go_simp <;> with_reducible rfl
        simp only [Act.put, List.getElem_toArray, List.getElem_cons_zero, List.getElem_cons_succ, List.setIfInBounds_toArray, List.set_cons_zero, List.set_cons_succ]
        refine wpAnyH_take (i := 2) (v := ?v3x2) rfl (by kernel_rfl) (by kernel_rfl) (by kernel_rfl) (fun _ _ _ h => h) (Or.inl ⟨by rfl, ?hy3x2⟩) (by assumption) ?rest3x2
        case hy3x2 => intro w hSw; obtain ⟨g0, g1⟩ := hSw; go_simp <;> with_reducible rfl
        simp only [Act.put, List.getElem_toArray, List.getElem_cons_zero, List.getElem_cons_succ, List.setIfInBounds_toArray, List.set_cons_zero, List.set_cons_succ]
        refine wpAnyH_take (i := 3) (v := (.slice ao z0.length cap)) rfl (by kernel_rfl) (by kernel_rfl) (by kernel_rfl) (fun _ _ _ h => h) (Or.inl ⟨by rfl, ?hy4x3⟩) (by assumption) ?rest4x3
        case hy4x3 => intro w hSw; obtain ⟨g0, g1⟩ := hSw; go_simp <;> with_reducible rfl
        simp only [Act.put, List.getElem_toArray, List.getElem_cons_zero, List.getElem_cons_succ, List.setIfInBounds_toArray, List.set_cons_zero, List.set_cons_succ]
        refine wpAnyH_take (i := 4) (v := ?v5x4) rfl (by kernel_rfl) (by kernel_rfl) (by kernel_rfl) (fun _ _ _ h => h) (Or.inl ⟨by rfl, ?hy5x4⟩) (by assumption) ?rest5x4
        case hy5x4 => intro w hSw; obtain ⟨g0, g1⟩ := hSw; go_simp <;> with_reducible rfl
        simp only [Act.put, List.getElem_toArray, List.getElem_cons_zero, List.getElem_cons_succ, List.setIfInBounds_toArray, List.set_cons_zero, List.set_cons_succ]
        refine wpAnyH_take (i := 5) (v := ?v6x5) rfl (by kernel_rfl) (by kernel_rfl) (by kernel_rfl) (fun _ _ _ h => h) (Or.inl ⟨by rfl, ?hy6x5⟩) (by assumption) ?rest6x5
        case hy6x5 => intro w hSw; obtain ⟨g0, g1⟩ := hSw; go_simp <;> with_reducible rfl
        simp only [Act.put, List.getElem_toArray, List.getElem_cons_zero, List.getElem_cons_succ, List.setIfInBounds_toArray, List.set_cons_zero, List.set_cons_succ]
        refine wpAnyH_take (i := 6) (v := ?v7x6) rfl (by kernel_rfl) (by kernel_rfl) (by kernel_rfl) (fun _ _ _ h => h) (Or.inl ⟨by rfl, ?hy7x6⟩) (by assumption) ?rest7x6
        case hy7x6 => intro w hSw; obtain ⟨g0, g1⟩ := hSw; go_simp <;> with_reducible rfl
        simp only [Act.put, List.getElem_toArray, List.getElem_cons_zero, List.getElem_cons_succ, List.setIfInBounds_toArray, List.set_cons_zero, List.set_cons_succ]
        refine wpAnyH_take (i := 7) (v := (.int .i64 cap)) rfl (by kernel_rfl) (by kernel_rfl) (by kernel_rfl) (fun _ _ _ h => h) (Or.inl ⟨by rfl, ?hy8x7⟩) (by assumption) ?rest8x7
        case hy8x7 => intro w hSw; obtain ⟨g0, g1⟩ := hSw; go_simp <;> with_reducible rfl
        simp only [Act.put, List.getElem_toArray, List.getElem_cons_zero, List.getElem_cons_succ, List.setIfInBounds_toArray, List.set_cons_zero, List.set_cons_succ]
        refine wpAnyH_take (i := 8) (v := (.slice ao 0 0)) rfl (by kernel_rfl) (by kernel_rfl) (by kernel_rfl) (fun _ _ _ h => h) (Or.inl ⟨by rfl, ?hy9x8⟩) (by assumption) ?rest9x8
        case hy9x8 => intro w hSw; obtain ⟨g0, g1⟩ := hSw; go_simp <;> with_reducible rfl
        simp only [Act.put, List.getElem_toArray, List.getElem_cons_zero, List.getElem_cons_succ, List.setIfInBounds_toArray, List.set_cons_zero, List.set_cons_succ]
        refine wpAnyH_ready (rs := [9]) (by kernel_rfl) (by simp) ?_
        refine AllReadyH.cons rfl (fun K hK => ?_) AllReadyH.nil
        go_simp
        refine (unhide HT).mono ?_
        rintro e wq ⟨rfl, rfl⟩
        refine hK _ _ ⟨hv, hk⟩ ?_
        clear hK hHeld
        intro hHeld
        refine wpAnyH_take (i := 10) (v := ?v10x10) rfl (by kernel_rfl) (by kernel_rfl) (by kernel_rfl) (fun _ _ _ h => h) (Or.inl ⟨by rfl, ?hy10x10⟩) (by assumption) ?rest10x10
        case hy10x10 => intro w hSw; obtain ⟨g0, g1⟩ := hSw; go_simp <;> with_reducible rfl
        simp only [Act.put, List.getElem_toArray, List.getElem_cons_zero, List.getElem_cons_succ, List.setIfInBounds_toArray, List.set_cons_zero, List.set_cons_succ]
        refine wpAnyH_take (i := 11) (v := ?v11x11) rfl (by kernel_rfl) (by kernel_rfl) (by kernel_rfl) (fun _ _ _ h => h) (Or.inl ⟨by rfl, ?hy11x11⟩) (by assumption) ?rest11x11
        case hy11x11 => intro w hSw; obtain ⟨g0, g1⟩ := hSw; go_simp <;> with_reducible rfl
        simp only [Act.put, List.getElem_toArray, List.getElem_cons_zero, List.getElem_cons_succ, List.setIfInBounds_toArray, List.set_cons_zero, List.set_cons_succ]
        refine wpAnyH_take (i := 14) (v := ?v12x14) rfl (by kernel_rfl) (by kernel_rfl) (by kernel_rfl) (fun _ _ _ h => h) (Or.inl ⟨by rfl, ?hy12x14⟩) (by assumption) ?rest12x14
        case hy12x14 => intro w hSw; obtain ⟨g0, g1⟩ := hSw; go_simp <;> with_reducible rfl
        simp only [Act.put, List.getElem_toArray, List.getElem_cons_zero, List.getElem_cons_succ, List.setIfInBounds_toArray, List.set_cons_zero, List.set_cons_succ]
        refine wpAnyH_take (i := 12) (v := ?v13x12) rfl (by kernel_rfl) (by kernel_rfl) (by kernel_rfl) (fun _ _ _ h => h) (Or.inl ⟨by rfl, ?hy13x12⟩) (by assumption) ?rest13x12
        case hy13x12 => intro w hSw; obtain ⟨g0, g1⟩ := hSw; go_simp <;> with_reducible rfl
        simp only [Act.put, List.getElem_toArray, List.getElem_cons_zero, List.getElem_cons_succ, List.setIfInBounds_toArray, List.set_cons_zero, List.set_cons_succ]
        refine wpAnyH_take (i := 15) (v := ?v14x15) rfl (by kernel_rfl) (by kernel_rfl) (by kernel_rfl) (fun _ _ _ h => h) (Or.inl ⟨by rfl, ?hy14x15⟩) (by assumption) ?rest14x15
        case hy14x15 => intro w hSw; obtain ⟨g0, g1⟩ := hSw; go_simp <;> with_reducible rfl
        simp only [Act.put, List.getElem_toArray, List.getElem_cons_zero, List.getElem_cons_succ, List.setIfInBounds_toArray, List.set_cons_zero, List.set_cons_succ]
        refine wpAnyH_take (i := 13) (v := ?v15x13) rfl (by kernel_rfl) (by kernel_rfl) (by kernel_rfl) (fun _ _ _ h => h) (Or.inl ⟨by rfl, ?hy15x13⟩) (by assumption) ?rest15x13
        case hy15x13 => intro w hSw; obtain ⟨g0, g1⟩ := hSw; go_simp <;> with_reducible rfl
        simp only [Act.put, List.getElem_toArray, List.getElem_cons_zero, List.getElem_cons_succ, List.setIfInBounds_toArray, List.set_cons_zero, List.set_cons_succ]
        refine wpAnyH_take (i := 16) (v := ?v16x16) rfl (by kernel_rfl) (by kernel_rfl) (by kernel_rfl) (fun _ _ _ h => h) (Or.inl ⟨by rfl, ?hy16x16⟩) (by assumption) ?rest16x16
        case hy16x16 => intro w hSw; obtain ⟨g0, g1⟩ := hSw; go_simp <;> with_reducible rfl
        simp only [Act.put, List.getElem_toArray, List.getElem_cons_zero, List.getElem_cons_succ, List.setIfInBounds_toArray, List.set_cons_zero, List.set_cons_succ]
        refine wpAnyH_done (by kernel_rfl) ?_ _
        go_wp2_with fail
        go_ret
        exact ⟨rfl, unhide HD, (unhide HBD).set 1 _⟩
      · rw [if_neg hck] at HT
        go_enter Try.func54, Try.ntmps54
        go_wp2_with fail
        refine wp_region_held_drew (S := fun x => x.cell? ⟨R, 0, none⟩ = some (.slice ao z0.length cap) ∧ x.cell? ⟨R, 1, none⟩ = some (.int .i64 k)) (by kernel_rfl) ⟨hv, hk⟩ (fun hHeld => ?_)
        refine wpAnyH_take (i := 0) (v := ?v17x0) rfl (by kernel_rfl) (by kernel_rfl) (by kernel_rfl) (fun _ _ _ h => h) (Or.inl ⟨by rfl, ?hy17x0⟩) (by assumption) ?rest17x0
        case hy17x0 => intro w hSw; obtain ⟨g0, g1⟩ := hSw; go_simp <;> with_reducible rfl
        simp only [Act.put, List.getElem_toArray, List.getElem_cons_zero, List.setIfInBounds_toArray, List.set_cons_zero, List.set_cons_succ]
        refine wpAnyH_take (i := 1) (v := ?v18x1) rfl (by kernel_rfl) (by kernel_rfl) (by kernel_rfl) (fun _ _ _ h => h) (Or.inl ⟨by rfl, ?hy18x1⟩) (by assumption) ?rest18x1
        case hy18x1 => intro w hSw; obtain ⟨g0, g1⟩ := hSw; go_simp <;> with_reducible rfl
        simp only [Act.put, List.getElem_toArray, List.getElem_cons_zero, List.getElem_cons_succ, List.setIfInBounds_toArray, List.set_cons_zero, List.set_cons_succ]
        refine wpAnyH_take (i := 2) (v := ?v19x2) rfl (by kernel_rfl) (by kernel_rfl) (by kernel_rfl) (fun _ _ _ h => h) (Or.inl ⟨by rfl, ?hy19x2⟩) (by assumption) ?rest19x2
        case hy19x2 => intro w hSw; obtain ⟨g0, g1⟩ := hSw; go_simp <;> with_reducible rfl
        simp only [Act.put, List.getElem_toArray, List.getElem_cons_zero, List.getElem_cons_succ, List.setIfInBounds_toArray, List.set_cons_zero, List.set_cons_succ]
        refine wpAnyH_take (i := 3) (v := (.slice ao z0.length cap)) rfl (by kernel_rfl) (by kernel_rfl) (by kernel_rfl) (fun _ _ _ h => h) (Or.inl ⟨by rfl, ?hy20x3⟩) (by assumption) ?rest20x3
        case hy20x3 => intro w hSw; obtain ⟨g0, g1⟩ := hSw; go_simp <;> with_reducible rfl
        simp only [Act.put, List.getElem_toArray, List.getElem_cons_zero, List.getElem_cons_succ, List.setIfInBounds_toArray, List.set_cons_zero, List.set_cons_succ]
        refine wpAnyH_take (i := 4) (v := ?v21x4) rfl (by kernel_rfl) (by kernel_rfl) (by kernel_rfl) (fun _ _ _ h => h) (Or.inl ⟨by rfl, ?hy21x4⟩) (by assumption) ?rest21x4
        case hy21x4 => intro w hSw; obtain ⟨g0, g1⟩ := hSw; go_simp <;> with_reducible rfl
        simp only [Act.put, List.getElem_toArray, List.getElem_cons_zero, List.getElem_cons_succ, List.setIfInBounds_toArray, List.set_cons_zero, List.set_cons_succ]
        refine wpAnyH_take (i := 5) (v := ?v22x5) rfl (by kernel_rfl) (by kernel_rfl) (by kernel_rfl) (fun _ _ _ h => h) (Or.inl ⟨by rfl, ?hy22x5⟩) (by assumption) ?rest22x5
        case hy22x5 => intro w hSw; obtain ⟨g0, g1⟩ := hSw; go_simp <;> with_reducible rfl
        simp only [Act.put, List.getElem_toArray, List.getElem_cons_zero, List.getElem_cons_succ, List.setIfInBounds_toArray, List.set_cons_zero, List.set_cons_succ]
        refine wpAnyH_take (i := 6) (v := ?v23x6) rfl (by kernel_rfl) (by kernel_rfl) (by kernel_rfl) (fun _ _ _ h => h) (Or.inl ⟨by rfl, ?hy23x6⟩) (by assumption) ?rest23x6
        case hy23x6 => intro w hSw; obtain ⟨g0, g1⟩ := hSw; go_simp <;> with_reducible rfl
        simp only [Act.put, List.getElem_toArray, List.getElem_cons_zero, List.getElem_cons_succ, List.setIfInBounds_toArray, List.set_cons_zero, List.set_cons_succ]
        refine wpAnyH_take (i := 7) (v := (.int .i64 k)) rfl (by kernel_rfl) (by kernel_rfl) (by kernel_rfl) (fun _ _ _ h => h) (Or.inl ⟨by rfl, ?hy24x7⟩) (by assumption) ?rest24x7
        case hy24x7 => intro w hSw; obtain ⟨g0, g1⟩ := hSw; go_simp <;> with_reducible rfl
        simp only [Act.put, List.getElem_toArray, List.getElem_cons_zero, List.getElem_cons_succ, List.setIfInBounds_toArray, List.set_cons_zero, List.set_cons_succ]
        refine wpAnyH_take (i := 8) (v := (.slice (Option.map (fun x => x.add k) ao) (z0.length - k) (cap - k))) rfl (by kernel_rfl) (by kernel_rfl) (by kernel_rfl) (fun _ _ _ h => h) (Or.inl ⟨by rfl, ?hy25x8⟩) (by assumption) ?rest25x8
        case hy25x8 => intro w hSw; obtain ⟨g0, g1⟩ := hSw; go_simp <;> with_reducible rfl
        simp only [Act.put, List.getElem_toArray, List.getElem_cons_zero, List.getElem_cons_succ, List.setIfInBounds_toArray, List.set_cons_zero, List.set_cons_succ]
        refine wpAnyH_ready (rs := [9]) (by kernel_rfl) (by simp) ?_
        refine AllReadyH.cons rfl (fun K hK => ?_) AllReadyH.nil
        go_simp
        refine (unhide HT).mono ?_
        rintro e wq ⟨rfl, rfl⟩
        refine hK _ _ ⟨hv, hk⟩ ?_
        clear hK hHeld
        intro hHeld
        refine wpAnyH_take (i := 10) (v := ?v26x10) rfl (by kernel_rfl) (by kernel_rfl) (by kernel_rfl) (fun _ _ _ h => h) (Or.inl ⟨by rfl, ?hy26x10⟩) (by assumption) ?rest26x10
        case hy26x10 => intro w hSw; obtain ⟨g0, g1⟩ := hSw; go_simp <;> with_reducible rfl
        simp only [Act.put, List.getElem_toArray, List.getElem_cons_zero, List.getElem_cons_succ, List.setIfInBounds_toArray, List.set_cons_zero, List.set_cons_succ]
        refine wpAnyH_take (i := 11) (v := ?v27x11) rfl (by kernel_rfl) (by kernel_rfl) (by kernel_rfl) (fun _ _ _ h => h) (Or.inl ⟨by rfl, ?hy27x11⟩) (by assumption) ?rest27x11
        case hy27x11 => intro w hSw; obtain ⟨g0, g1⟩ := hSw; go_simp <;> with_reducible rfl
        simp only [Act.put, List.getElem_toArray, List.getElem_cons_zero, List.getElem_cons_succ, List.setIfInBounds_toArray, List.set_cons_zero, List.set_cons_succ]
        refine wpAnyH_take (i := 14) (v := ?v28x14) rfl (by kernel_rfl) (by kernel_rfl) (by kernel_rfl) (fun _ _ _ h => h) (Or.inl ⟨by rfl, ?hy28x14⟩) (by assumption) ?rest28x14
        case hy28x14 => intro w hSw; obtain ⟨g0, g1⟩ := hSw; go_simp <;> with_reducible rfl
        simp only [Act.put, List.getElem_toArray, List.getElem_cons_zero, List.getElem_cons_succ, List.setIfInBounds_toArray, List.set_cons_zero, List.set_cons_succ]
        refine wpAnyH_take (i := 12) (v := ?v29x12) rfl (by kernel_rfl) (by kernel_rfl) (by kernel_rfl) (fun _ _ _ h => h) (Or.inl ⟨by rfl, ?hy29x12⟩) (by assumption) ?rest29x12
        case hy29x12 => intro w hSw; obtain ⟨g0, g1⟩ := hSw; go_simp <;> with_reducible rfl
        simp only [Act.put, List.getElem_toArray, List.getElem_cons_zero, List.getElem_cons_succ, List.setIfInBounds_toArray, List.set_cons_zero, List.set_cons_succ]
        refine wpAnyH_take (i := 15) (v := ?v30x15) rfl (by kernel_rfl) (by kernel_rfl) (by kernel_rfl) (fun _ _ _ h => h) (Or.inl ⟨by rfl, ?hy30x15⟩) (by assumption) ?rest30x15
        case hy30x15 => intro w hSw; obtain ⟨g0, g1⟩ := hSw; go_simp <;> with_reducible rfl
        simp only [Act.put, List.getElem_toArray, List.getElem_cons_zero, List.getElem_cons_succ, List.setIfInBounds_toArray, List.set_cons_zero, List.set_cons_succ]
        refine wpAnyH_take (i := 13) (v := ?v31x13) rfl (by kernel_rfl) (by kernel_rfl) (by kernel_rfl) (fun _ _ _ h => h) (Or.inl ⟨by rfl, ?hy31x13⟩) (by assumption) ?rest31x13
        case hy31x13 => intro w hSw; obtain ⟨g0, g1⟩ := hSw; go_simp <;> with_reducible rfl
        simp only [Act.put, List.getElem_toArray, List.getElem_cons_zero, List.getElem_cons_succ, List.setIfInBounds_toArray, List.set_cons_zero, List.set_cons_succ]
        refine wpAnyH_take (i := 16) (v := ?v32x16) rfl (by kernel_rfl) (by kernel_rfl) (by kernel_rfl) (fun _ _ _ h => h) (Or.inl ⟨by rfl, ?hy32x16⟩) (by assumption) ?rest32x16
        case hy32x16 => intro w hSw; obtain ⟨g0, g1⟩ := hSw; go_simp <;> with_reducible rfl
        simp only [Act.put, List.getElem_toArray, List.getElem_cons_zero, List.getElem_cons_succ, List.setIfInBounds_toArray, List.set_cons_zero, List.set_cons_succ]
        refine wpAnyH_done (by kernel_rfl) ?_ _
        go_wp2_with fail
        go_ret
        exact ⟨rfl, unhide HD, (unhide HBD).set 1 _⟩
    · obtain ⟨rfl, rfl⟩ := hno hee
      have hbe : (e != 0) = true := bne_iff_ne.2 hee
      have HD : Hid (Dr (w.drew.setCell ⟨R, 2, none⟩ (.int .i64 e)) R lo z0 ⟨s.zs.drop 0, e, s.un⟩) := unhide HE e
      clear hno HM HE
      by_cases hck : cap = k
      · subst hck
        rw [if_pos rfl] at HT
        have hz0 : z0.length - cap = 0 := by omega
        have hz1 : cap - cap = 0 := by omega
        rw [hz0, hz1] at HT
        have hle2 : z0.length = cap := by omega
        go_enter Try.func54, Try.ntmps54
        go_wp2_with fail
        refine wp_region_held_drew (S := fun x => x.cell? ⟨R, 0, none⟩ = some (.slice ao z0.length cap) ∧ x.cell? ⟨R, 1, none⟩ = some (.int .i64 cap)) (by kernel_rfl) ⟨hv, hk⟩ (fun hHeld => ?_)
        refine wpAnyH_take (i := 0) (v := ?v33x0) rfl (by kernel_rfl) (by kernel_rfl) (by kernel_rfl) (fun _ _ _ h => h) (Or.inl ⟨by rfl, ?hy33x0⟩) (by assumption) ?rest33x0
        case hy33x0 => intro w hSw; obtain ⟨g0, g1⟩ := hSw; go_simp <;> with_reducible rfl
        simp only [Act.put, List.getElem_toArray, List.getElem_cons_zero, List.setIfInBounds_toArray, List.set_cons_zero, List.set_cons_succ]
        refine wpAnyH_take (i := 1) (v := ?v34x1) rfl (by kernel_rfl) (by kernel_rfl) (by kernel_rfl) (fun _ _ _ h => h) (Or.inl ⟨by rfl, ?hy34x1⟩) (by assumption) ?rest34x1
        case hy34x1 => intro w hSw; obtain ⟨g0, g1⟩ := hSw; go_simp <;> with_reducible rfl
        simp only [Act.put, List.getElem_toArray, List.getElem_cons_zero, List.getElem_cons_succ, List.setIfInBounds_toArray, List.set_cons_zero, List.set_cons_succ]
        refine wpAnyH_take (i := 2) (v := ?v35x2) rfl (by kernel_rfl) (by kernel_rfl) (by kernel_rfl) (fun _ _ _ h => h) (Or.inl ⟨by rfl, ?hy35x2⟩) (by assumption) ?rest35x2
        case hy35x2 => intro w hSw; obtain ⟨g0, g1⟩ := hSw; go_simp <;> with_reducible rfl
        simp only [Act.put, List.getElem_toArray, List.getElem_cons_zero, List.getElem_cons_succ, List.setIfInBounds_toArray, List.set_cons_zero, List.set_cons_succ]
        refine wpAnyH_take (i := 3) (v := (.slice ao z0.length cap)) rfl (by kernel_rfl) (by kernel_rfl) (by kernel_rfl) (fun _ _ _ h => h) (Or.inl ⟨by rfl, ?hy36x3⟩) (by assumption) ?rest36x3
        case hy36x3 => intro w hSw; obtain ⟨g0, g1⟩ := hSw; go_simp <;> with_reducible rfl
        simp only [Act.put, List.getElem_toArray, List.getElem_cons_zero, List.getElem_cons_succ, List.setIfInBounds_toArray, List.set_cons_zero, List.set_cons_succ]
        refine wpAnyH_take (i := 4) (v := ?v37x4) rfl (by kernel_rfl) (by kernel_rfl) (by kernel_rfl) (fun _ _ _ h => h) (Or.inl ⟨by rfl, ?hy37x4⟩) (by assumption) ?rest37x4
        case hy37x4 => intro w hSw; obtain ⟨g0, g1⟩ := hSw; go_simp <;> with_reducible rfl
        simp only [Act.put, List.getElem_toArray, List.getElem_cons_zero, List.getElem_cons_succ, List.setIfInBounds_toArray, List.set_cons_zero, List.set_cons_succ]
        refine wpAnyH_take (i := 5) (v := ?v38x5) rfl (by kernel_rfl) (by kernel_rfl) (by kernel_rfl) (fun _ _ _ h => h) (Or.inl ⟨by rfl, ?hy38x5⟩) (by assumption) ?rest38x5
        case hy38x5 => intro w hSw; obtain ⟨g0, g1⟩ := hSw; go_simp <;> with_reducible rfl
        simp only [Act.put, List.getElem_toArray, List.getElem_cons_zero, List.getElem_cons_succ, List.setIfInBounds_toArray, List.set_cons_zero, List.set_cons_succ]
        refine wpAnyH_take (i := 6) (v := ?v39x6) rfl (by kernel_rfl) (by kernel_rfl) (by kernel_rfl) (fun _ _ _ h => h) (Or.inl ⟨by rfl, ?hy39x6⟩) (by assumption) ?rest39x6
        case hy39x6 => intro w hSw; obtain ⟨g0, g1⟩ := hSw; go_simp <;> with_reducible rfl
        simp only [Act.put, List.getElem_toArray, List.getElem_cons_zero, List.getElem_cons_succ, List.setIfInBounds_toArray, List.set_cons_zero, List.set_cons_succ]
        refine wpAnyH_take (i := 7) (v := (.int .i64 cap)) rfl (by kernel_rfl) (by kernel_rfl) (by kernel_rfl) (fun _ _ _ h => h) (Or.inl ⟨by rfl, ?hy40x7⟩) (by assumption) ?rest40x7
        case hy40x7 => intro w hSw; obtain ⟨g0, g1⟩ := hSw; go_simp <;> with_reducible rfl
        simp only [Act.put, List.getElem_toArray, List.getElem_cons_zero, List.getElem_cons_succ, List.setIfInBounds_toArray, List.set_cons_zero, List.set_cons_succ]
        refine wpAnyH_take (i := 8) (v := (.slice ao 0 0)) rfl (by kernel_rfl) (by kernel_rfl) (by kernel_rfl) (fun _ _ _ h => h) (Or.inl ⟨by rfl, ?hy41x8⟩) (by assumption) ?rest41x8
        case hy41x8 => intro w hSw; obtain ⟨g0, g1⟩ := hSw; go_simp <;> with_reducible rfl
        simp only [Act.put, List.getElem_toArray, List.getElem_cons_zero, List.getElem_cons_succ, List.setIfInBounds_toArray, List.set_cons_zero, List.set_cons_succ]
        refine wpAnyH_ready (rs := [9]) (by kernel_rfl) (by simp) ?_
        refine AllReadyH.cons rfl (fun K hK => ?_) AllReadyH.nil
        go_simp
        refine (unhide HT).mono ?_
        rintro e wq ⟨rfl, rfl⟩
        refine hK _ _ ⟨hv, hk⟩ ?_
        clear hK hHeld
        intro hHeld
        refine wpAnyH_take (i := 10) (v := ?v42x10) rfl (by kernel_rfl) (by kernel_rfl) (by kernel_rfl) (fun _ _ _ h => h) (Or.inl ⟨by rfl, ?hy42x10⟩) (by assumption) ?rest42x10
        case hy42x10 => intro w hSw; obtain ⟨g0, g1⟩ := hSw; go_simp <;> with_reducible rfl
        simp only [Act.put, List.getElem_toArray, List.getElem_cons_zero, List.getElem_cons_succ, List.setIfInBounds_toArray, List.set_cons_zero, List.set_cons_succ]
        refine wpAnyH_take (i := 11) (v := ?v43x11) rfl (by kernel_rfl) (by kernel_rfl) (by kernel_rfl) (fun _ _ _ h => h) (Or.inl ⟨by rfl, ?hy43x11⟩) (by assumption) ?rest43x11
        case hy43x11 => intro w hSw; obtain ⟨g0, g1⟩ := hSw; go_simp <;> with_reducible rfl
        simp only [Act.put, List.getElem_toArray, List.getElem_cons_zero, List.getElem_cons_succ, List.setIfInBounds_toArray, List.set_cons_zero, List.set_cons_succ]
        refine wpAnyH_take (i := 14) (v := ?v44x14) rfl (by kernel_rfl) (by kernel_rfl) (by kernel_rfl) (fun _ _ _ h => h) (Or.inl ⟨by rfl, ?hy44x14⟩) (by assumption) ?rest44x14
        case hy44x14 => intro w hSw; obtain ⟨g0, g1⟩ := hSw; go_simp <;> with_reducible rfl
        simp only [Act.put, List.getElem_toArray, List.getElem_cons_zero, List.getElem_cons_succ, List.setIfInBounds_toArray, List.set_cons_zero, List.set_cons_succ]
        refine wpAnyH_take (i := 12) (v := ?v45x12) rfl (by kernel_rfl) (by kernel_rfl) (by kernel_rfl) (fun _ _ _ h => h) (Or.inl ⟨by rfl, ?hy45x12⟩) (by assumption) ?rest45x12
        case hy45x12 => intro w hSw; obtain ⟨g0, g1⟩ := hSw; go_simp <;> with_reducible rfl
        simp only [Act.put, List.getElem_toArray, List.getElem_cons_zero, List.getElem_cons_succ, List.setIfInBounds_toArray, List.set_cons_zero, List.set_cons_succ]
        refine wpAnyH_take (i := 15) (v := ?v46x15) rfl (by kernel_rfl) (by kernel_rfl) (by kernel_rfl) (fun _ _ _ h => h) (Or.inl ⟨by rfl, ?hy46x15⟩) (by assumption) ?rest46x15
        case hy46x15 => intro w hSw; obtain ⟨g0, g1⟩ := hSw; go_simp <;> with_reducible rfl
        simp only [Act.put, List.getElem_toArray, List.getElem_cons_zero, List.getElem_cons_succ, List.setIfInBounds_toArray, List.set_cons_zero, List.set_cons_succ]
        refine wpAnyH_take (i := 13) (v := ?v47x13) rfl (by kernel_rfl) (by kernel_rfl) (by kernel_rfl) (fun _ _ _ h => h) (Or.inl ⟨by rfl, ?hy47x13⟩) (by assumption) ?rest47x13
        case hy47x13 => intro w hSw; obtain ⟨g0, g1⟩ := hSw; go_simp <;> with_reducible rfl
        simp only [Act.put, List.getElem_toArray, List.getElem_cons_zero, List.getElem_cons_succ, List.setIfInBounds_toArray, List.set_cons_zero, List.set_cons_succ]
        refine wpAnyH_take (i := 16) (v := ?v48x16) rfl (by kernel_rfl) (by kernel_rfl) (by kernel_rfl) (fun _ _ _ h => h) (Or.inl ⟨by rfl, ?hy48x16⟩) (by assumption) ?rest48x16
        case hy48x16 => intro w hSw; obtain ⟨g0, g1⟩ := hSw; go_simp <;> with_reducible rfl
        simp only [Act.put, List.getElem_toArray, List.getElem_cons_zero, List.getElem_cons_succ, List.setIfInBounds_toArray, List.set_cons_zero, List.set_cons_succ]
        refine wpAnyH_done (by kernel_rfl) ?_ _
        go_wp2_with fail
        refine (unhide HF e).mono ?_
        rintro er w2 ⟨rfl, rfl⟩
        go_wp2_with fail
        go_ret
        exact ⟨rfl, unhide HD, (unhide HBD).set 2 _⟩
      · rw [if_neg hck] at HT
        go_enter Try.func54, Try.ntmps54
        go_wp2_with fail
        refine wp_region_held_drew (S := fun x => x.cell? ⟨R, 0, none⟩ = some (.slice ao z0.length cap) ∧ x.cell? ⟨R, 1, none⟩ = some (.int .i64 k)) (by kernel_rfl) ⟨hv, hk⟩ (fun hHeld => ?_)
        refine wpAnyH_take (i := 0) (v := ?v49x0) rfl (by kernel_rfl) (by kernel_rfl) (by kernel_rfl) (fun _ _ _ h => h) (Or.inl ⟨by rfl, ?hy49x0⟩) (by assumption) ?rest49x0
        case hy49x0 => intro w hSw; obtain ⟨g0, g1⟩ := hSw; go_simp <;> with_reducible rfl
        simp only [Act.put, List.getElem_toArray, List.getElem_cons_zero, List.setIfInBounds_toArray, List.set_cons_zero, List.set_cons_succ]
        refine wpAnyH_take (i := 1) (v := ?v50x1) rfl (by kernel_rfl) (by kernel_rfl) (by kernel_rfl) (fun _ _ _ h => h) (Or.inl ⟨by rfl, ?hy50x1⟩) (by assumption) ?rest50x1
        case hy50x1 => intro w hSw; obtain ⟨g0, g1⟩ := hSw; go_simp <;> with_reducible rfl
        simp only [Act.put, List.getElem_toArray, List.getElem_cons_zero, List.getElem_cons_succ, List.setIfInBounds_toArray, List.set_cons_zero, List.set_cons_succ]
        refine wpAnyH_take (i := 2) (v := ?v51x2) rfl (by kernel_rfl) (by kernel_rfl) (by kernel_rfl) (fun _ _ _ h => h) (Or.inl ⟨by rfl, ?hy51x2⟩) (by assumption) ?rest51x2
        case hy51x2 => intro w hSw; obtain ⟨g0, g1⟩ := hSw; go_simp <;> with_reducible rfl
        simp only [Act.put, List.getElem_toArray, List.getElem_cons_zero, List.getElem_cons_succ, List.setIfInBounds_toArray, List.set_cons_zero, List.set_cons_succ]
        refine wpAnyH_take (i := 3) (v := (.slice ao z0.length cap)) rfl (by kernel_rfl) (by kernel_rfl) (by kernel_rfl) (fun _ _ _ h => h) (Or.inl ⟨by rfl, ?hy52x3⟩) (by assumption) ?rest52x3
        case hy52x3 => intro w hSw; obtain ⟨g0, g1⟩ := hSw; go_simp <;> with_reducible rfl
        simp only [Act.put, List.getElem_toArray, List.getElem_cons_zero, List.getElem_cons_succ, List.setIfInBounds_toArray, List.set_cons_zero, List.set_cons_succ]
        refine wpAnyH_take (i := 4) (v := ?v53x4) rfl (by kernel_rfl) (by kernel_rfl) (by kernel_rfl) (fun _ _ _ h => h) (Or.inl ⟨by rfl, ?hy53x4⟩) (by assumption) ?rest53x4
        case hy53x4 => intro w hSw; obtain ⟨g0, g1⟩ := hSw; go_simp <;> with_reducible rfl
        simp only [Act.put, List.getElem_toArray, List.getElem_cons_zero, List.getElem_cons_succ, List.setIfInBounds_toArray, List.set_cons_zero, List.set_cons_succ]
        refine wpAnyH_take (i := 5) (v := ?v54x5) rfl (by kernel_rfl) (by kernel_rfl) (by kernel_rfl) (fun _ _ _ h => h) (Or.inl ⟨by rfl, ?hy54x5⟩) (by assumption) ?rest54x5
        case hy54x5 => intro w hSw; obtain ⟨g0, g1⟩ := hSw; go_simp <;> with_reducible rfl
        simp only [Act.put, List.getElem_toArray, List.getElem_cons_zero, List.getElem_cons_succ, List.setIfInBounds_toArray, List.set_cons_zero, List.set_cons_succ]
        refine wpAnyH_take (i := 6) (v := ?v55x6) rfl (by kernel_rfl) (by kernel_rfl) (by kernel_rfl) (fun _ _ _ h => h) (Or.inl ⟨by rfl, ?hy55x6⟩) (by assumption) ?rest55x6
        case hy55x6 => intro w hSw; obtain ⟨g0, g1⟩ := hSw; go_simp <;> with_reducible rfl
        simp only [Act.put, List.getElem_toArray, List.getElem_cons_zero, List.getElem_cons_succ, List.setIfInBounds_toArray, List.set_cons_zero, List.set_cons_succ]
        refine wpAnyH_take (i := 7) (v := (.int .i64 k)) rfl (by kernel_rfl) (by kernel_rfl) (by kernel_rfl) (fun _ _ _ h => h) (Or.inl ⟨by rfl, ?hy56x7⟩) (by assumption) ?rest56x7
        case hy56x7 => intro w hSw; obtain ⟨g0, g1⟩ := hSw; go_simp <;> with_reducible rfl
        simp only [Act.put, List.getElem_toArray, List.getElem_cons_zero, List.getElem_cons_succ, List.setIfInBounds_toArray, List.set_cons_zero, List.set_cons_succ]
        refine wpAnyH_take (i := 8) (v := (.slice (Option.map (fun x => x.add k) ao) (z0.length - k) (cap - k))) rfl (by kernel_rfl) (by kernel_rfl) (by kernel_rfl) (fun _ _ _ h => h) (Or.inl ⟨by rfl, ?hy57x8⟩) (by assumption) ?rest57x8
        case hy57x8 => intro w hSw; obtain ⟨g0, g1⟩ := hSw; go_simp <;> with_reducible rfl
        simp only [Act.put, List.getElem_toArray, List.getElem_cons_zero, List.getElem_cons_succ, List.setIfInBounds_toArray, List.set_cons_zero, List.set_cons_succ]
        refine wpAnyH_ready (rs := [9]) (by kernel_rfl) (by simp) ?_
        refine AllReadyH.cons rfl (fun K hK => ?_) AllReadyH.nil
        go_simp
        refine (unhide HT).mono ?_
        rintro e wq ⟨rfl, rfl⟩
        refine hK _ _ ⟨hv, hk⟩ ?_
        clear hK hHeld
        intro hHeld
        refine wpAnyH_take (i := 10) (v := ?v58x10) rfl (by kernel_rfl) (by kernel_rfl) (by kernel_rfl) (fun _ _ _ h => h) (Or.inl ⟨by rfl, ?hy58x10⟩) (by assumption) ?rest58x10
        case hy58x10 => intro w hSw; obtain ⟨g0, g1⟩ := hSw; go_simp <;> with_reducible rfl
        simp only [Act.put, List.getElem_toArray, List.getElem_cons_zero, List.getElem_cons_succ, List.setIfInBounds_toArray, List.set_cons_zero, List.set_cons_succ]
        refine wpAnyH_take (i := 11) (v := ?v59x11) rfl (by kernel_rfl) (by kernel_rfl) (by kernel_rfl) (fun _ _ _ h => h) (Or.inl ⟨by rfl, ?hy59x11⟩) (by assumption) ?rest59x11
        case hy59x11 => intro w hSw; obtain ⟨g0, g1⟩ := hSw; go_simp <;> with_reducible rfl
        simp only [Act.put, List.getElem_toArray, List.getElem_cons_zero, List.getElem_cons_succ, List.setIfInBounds_toArray, List.set_cons_zero, List.set_cons_succ]
        refine wpAnyH_take (i := 14) (v := ?v60x14) rfl (by kernel_rfl) (by kernel_rfl) (by kernel_rfl) (fun _ _ _ h => h) (Or.inl ⟨by rfl, ?hy60x14⟩) (by assumption) ?rest60x14
        case hy60x14 => intro w hSw; obtain ⟨g0, g1⟩ := hSw; go_simp <;> with_reducible rfl
        simp only [Act.put, List.getElem_toArray, List.getElem_cons_zero, List.getElem_cons_succ, List.setIfInBounds_toArray, List.set_cons_zero, List.set_cons_succ]
        refine wpAnyH_take (i := 12) (v := ?v61x12) rfl (by kernel_rfl) (by kernel_rfl) (by kernel_rfl) (fun _ _ _ h => h) (Or.inl ⟨by rfl, ?hy61x12⟩) (by assumption) ?rest61x12
        case hy61x12 => intro w hSw; obtain ⟨g0, g1⟩ := hSw; go_simp <;> with_reducible rfl
        simp only [Act.put, List.getElem_toArray, List.getElem_cons_zero, List.getElem_cons_succ, List.setIfInBounds_toArray, List.set_cons_zero, List.set_cons_succ]
        refine wpAnyH_take (i := 15) (v := ?v62x15) rfl (by kernel_rfl) (by kernel_rfl) (by kernel_rfl) (fun _ _ _ h => h) (Or.inl ⟨by rfl, ?hy62x15⟩) (by assumption) ?rest62x15
        case hy62x15 => intro w hSw; obtain ⟨g0, g1⟩ := hSw; go_simp <;> with_reducible rfl
        simp only [Act.put, List.getElem_toArray, List.getElem_cons_zero, List.getElem_cons_succ, List.setIfInBounds_toArray, List.set_cons_zero, List.set_cons_succ]
        refine wpAnyH_take (i := 13) (v := ?v63x13) rfl (by kernel_rfl) (by kernel_rfl) (by kernel_rfl) (fun _ _ _ h => h) (Or.inl ⟨by rfl, ?hy63x13⟩) (by assumption) ?rest63x13
        case hy63x13 => intro w hSw; obtain ⟨g0, g1⟩ := hSw; go_simp <;> with_reducible rfl
        simp only [Act.put, List.getElem_toArray, List.getElem_cons_zero, List.getElem_cons_succ, List.setIfInBounds_toArray, List.set_cons_zero, List.set_cons_succ]
        refine wpAnyH_take (i := 16) (v := ?v64x16) rfl (by kernel_rfl) (by kernel_rfl) (by kernel_rfl) (fun _ _ _ h => h) (Or.inl ⟨by rfl, ?hy64x16⟩) (by assumption) ?rest64x16
        case hy64x16 => intro w hSw; obtain ⟨g0, g1⟩ := hSw; go_simp <;> with_reducible rfl
        simp only [Act.put, List.getElem_toArray, List.getElem_cons_zero, List.getElem_cons_succ, List.setIfInBounds_toArray, List.set_cons_zero, List.set_cons_succ]
        refine wpAnyH_done (by kernel_rfl) ?_ _
        go_wp2_with fail
        refine (unhide HF e).mono ?_
        rintro er w2 ⟨rfl, rfl⟩
        go_wp2_with fail
        go_ret
        exact ⟨rfl, unhide HD, (unhide HBD).set 2 _⟩
  · have hnum : s.num = (0, s) := by unfold RS.num; rw [if_neg he]
    rw [hnum]
    have h1 := h.ce
    have hbe : (s.er != 0) = true := bne_iff_ne.2 he
    have HH := hide h
    clear h
    go_enter Try.func54, Try.ntmps54
    go_wp2_with fail
    go_ret
    exact ⟨rfl, unhide HH, But.refl _ _⟩

/-- What Len says of what it read. -/
def lenV (n : Int) : Int := if 0 ≤ n ∧ n ≤ 4096 then n else 0
theorem lenV_nat (n : Int) : ∃ m : Nat, lenV n = m ∧ m ≤ 4096 := by
  unfold lenV
  split
  · exact ⟨n.toNat, by omega, by omega⟩
  · exact ⟨0, rfl, by omega⟩
theorem num_er {s : RS} (h : s.er ≠ 0) : s.num = (0, s) := by unfold RS.num; rw [if_neg h]
theorem num_bad {s : RS} (h : s.num.2.er ≠ 0) : s.num.1 = 0 := by
  by_cases he : s.er = 0
  · unfold RS.num at h ⊢
    rw [if_pos he] at h ⊢
    exact (tn_no s.zs h).1
  · rw [num_er he]
set_option maxHeartbeats 800000 in
theorem len_d {w : World} {R lo : Nat} {z0 : List Int} {s : RS} (h : Dr w R lo z0 s) :
    Calls Try.prog 56 #[.pointer (some ⟨R, 0, none⟩)] w fun e w' => e = .returned (.int .i64 (lenV s.num.1)) ∧ Dr w' R lo z0 s.len ∧ But R w w' := by
  have HN := hide (num_d h)
  have HB := hide (fun (g : s.num.2.er ≠ 0) => num_bad g)
  have hl : s.len = s.num.2.must (decide (0 ≤ s.num.1 ∧ s.num.1 ≤ 4096)) := rfl
  rw [hl]
  clear hl h
  generalize s.num = t at *
  obtain ⟨n, s1⟩ := t
  simp only at HN HB ⊢
  unfold lenV
  by_cases c : 0 ≤ n ∧ n ≤ 4096
  · rw [if_pos c, decide_eq_true c, must_true]
    obtain ⟨c1, c2⟩ := c
    have hw : wrap64 n = n := by unfold wrap64; omega
    have hw' : IntKind.i64.wrap n = n := wrap_i64 _ (by omega) (by omega)
    go_enter Try.func56, Try.ntmps56
    go_wp2_with fail
    refine (unhide HN).mono ?_
    rintro e w1 ⟨rfl, h1, h2⟩
    have HD : Hid (Dr w1 R lo z0 s1 ∧ But R w w1) := ⟨h1, h2⟩
    clear h1 h2
    go_wp2_with fail
    go_ret
    exact ⟨rfl, unhide HD⟩
  · rw [if_neg c, decide_eq_false c]
    have he : s1.er = 0 := Classical.byContradiction fun g => by have := unhide HB g; omega
    rw [must_false s1 he]
    by_cases c1 : n < 0
    · go_enter Try.func56, Try.ntmps56
      go_wp2_with fail
      refine (unhide HN).mono ?_
      rintro e w1 ⟨rfl, h1, h2⟩
      have HF := hide (fail_d h1 40 he)
      have HD : Hid (Dr (w1.setCell ⟨R, 2, none⟩ (.int .i64 40)) R lo z0 ⟨s1.zs, 40, s1.un⟩ ∧ But R w (w1.setCell ⟨R, 2, none⟩ (.int .i64 40))) := ⟨h1.err, h2.set 2 _⟩
      clear h1 h2
      go_wp2_with fail
      refine (unhide HF).mono ?_
      rintro e w2 ⟨rfl, rfl⟩
      go_wp2_with fail
      go_ret
      exact ⟨rfl, unhide HD⟩
    · have c2 : 4096 < n := by omega
      go_enter Try.func56, Try.ntmps56
      go_wp2_with fail
      refine (unhide HN).mono ?_
      rintro e w1 ⟨rfl, h1, h2⟩
      have HF := hide (fail_d h1 40 he)
      have HD : Hid (Dr (w1.setCell ⟨R, 2, none⟩ (.int .i64 40)) R lo z0 ⟨s1.zs, 40, s1.un⟩ ∧ But R w (w1.setCell ⟨R, 2, none⟩ (.int .i64 40))) := ⟨h1.err, h2.set 2 _⟩
      clear h1 h2
      go_wp2_with fail
      refine (unhide HF).mono ?_
      rintro e w2 ⟨rfl, rfl⟩
      go_wp2_with fail
      go_ret
      exact ⟨rfl, unhide HD⟩
end Go.Proofs.Ytggllgimlfchhaa
