/- begin, Hear, Stand, Standing, Grant, New, Clone. -/
import Derived.Test.YtpadbbkklmgimaaM1
import Derived.Deep.RegionHeld3
import Derived.Deep.RegionWith
namespace Go.Proofs.Ytpadbbkklmgimaa
open Go.RowKit

theorem IsV.ext {w : World} {h : Nat} {V : Vt} (H : IsV w h V) (f : Nat → Bool) (hf : ∀ i, i < 5 → V.vt i = f i) : IsV w h { V with vt := f } :=
  ⟨H.c0, H.c1, H.c2, H.c3, fun i hi => by show _ = some (Value.bool (f i)); rw [← hf i hi]; exact H.cv i hi, H.fr⟩

theorem wrap_id {x : Int} (h0 : -9223372036854775808 ≤ x) (h1 : x ≤ 9223372036854775807) : IntKind.i64.wrap x = x := by
  rw [IntKind.wrap_i64]; omega

def Vt.begin (V : Vt) (t x : Int) : Vt := { V with term := t, voted := x, vt := fun _ => false }
theorem IsV.begin {w : World} {h : Nat} {V : Vt} (H : IsV w h V) (t x : Int) : IsV (((((((w.setCell ⟨h, 2, none⟩ (.int .i64 t)).setCell ⟨h, 3, none⟩ (.int .i64 x)).setCell ⟨h, 4, none⟩ (.bool false)).setCell ⟨h, 5, none⟩ (.bool false)).setCell ⟨h, 6, none⟩ (.bool false)).setCell ⟨h, 7, none⟩ (.bool false)).setCell ⟨h, 8, none⟩ (.bool false)) h (V.begin t x) := by
  refine (((((((H.setTerm t).setVoted x).setVt 0 (by decide) false).setVt 1 (by decide) false).setVt 2 (by decide) false).setVt 3 (by decide) false).setVt 4 (by decide) false).ext (fun _ => false) fun i hi => ?_
  rcases (show i = 0 ∨ i = 1 ∨ i = 2 ∨ i = 3 ∨ i = 4 by omega) with rfl | rfl | rfl | rfl | rfl <;> rfl

abbrev One (h : Nat) : Nat → Prop := fun k => k = h
theorem Upd.one {h N o : Nat} {a w : World} (H : Upd (One h) N a w) (u : Value) : Upd (One h) N a (w.setCell ⟨h, o, none⟩ u) := H.setCell (p := ⟨h, o, none⟩) (Or.inl rfl) u

set_option maxHeartbeats 400000 in
theorem begin_any {h : Nat} {V : Vt} {w : World} (H : IsV w h V) (t x : Int) :
    Calls Try.prog 32 #[P0 h, .int .i64 t, .int .i64 x] w fun e w' => e = .returned (.tuple #[]) ∧ IsV w' h (V.begin t x) ∧ Upd (One h) w.heap.size w w' := by
  have h2 := H.c2; have h3 := H.c3; have hf := H.fr
  have v0 := H.cv 0 (by decide); have v1 := H.cv 1 (by decide); have v2 := H.cv 2 (by decide); have v3 := H.cv 3 (by decide); have v4 := H.cv 4 (by decide)
  have HI := hide (H.begin t x)
  clear H
  go_enter Try.func32, Try.ntmps32
  go_wp2
  go_end0
  exact ⟨rfl, unhide HI, (((((((Upd.refl _ _ _).one _).one _).one _).one _).one _).one _).one _⟩

def Vt.hears (V : Vt) (t : Int) : Bool := decide (V.term < t) && decide (t ≤ 1099511627776)
def Vt.hear (V : Vt) (t : Int) : Vt := if V.hears t then V.begin t (-1) else V

set_option maxHeartbeats 400000 in
theorem hear_any {h : Nat} {V : Vt} {w : World} (H : IsV w h V) (O : V.Ok) (t : Int) :
    Calls Try.prog 20 #[P0 h, .int .i64 t] w fun e w' => e = .returned (.bool (V.hears t)) ∧ IsV w' h (V.hear t) ∧ Upd (One h) w.heap.size w w' := by
  have h2 := H.c2
  have HI := hide H
  have HM := hide (made_yes H O)
  have HG := hide (begin_any H t (-1))
  clear H O
  by_cases c : V.term < t
  · by_cases c1 : t ≤ 1099511627776
    · have e : V.hears t = true := by simp [Vt.hears, c, c1]
      rw [show V.hear t = V.begin t (-1) by rw [Vt.hear, if_pos e], e]
      go_enter Try.func20, Try.ntmps20
      go_wp2_with (first
        | (go_at_call 31; refine (unhide HM).mono ?_; rintro e w' ⟨rfl, rfl⟩)
        | (go_at_call 32; refine (unhide HG).mono ?_; rintro e w' ⟨rfl, h3, h4⟩; have HX := hide (And.intro h3 h4); clear h3 h4))
      go_ret
      exact ⟨rfl, (unhide HX).1, (unhide HX).2⟩
    · have e : V.hears t = false := by simp [Vt.hears]; omega
      rw [show V.hear t = V by rw [Vt.hear, e]; rfl, e]
      go_enter Try.func20, Try.ntmps20
      go_wp2_with (go_at_call 31; refine (unhide HM).mono ?_; rintro e w' ⟨rfl, rfl⟩)
      go_ret
      exact ⟨rfl, unhide HI, Upd.refl _ _ _⟩
  · have e : V.hears t = false := by simp [Vt.hears]; omega
    rw [show V.hear t = V by rw [Vt.hear, e]; rfl, e]
    go_enter Try.func20, Try.ntmps20
    go_wp2_with (go_at_call 31; refine (unhide HM).mono ?_; rintro e w' ⟨rfl, rfl⟩)
    go_ret
    exact ⟨rfl, unhide HI, Upd.refl _ _ _⟩

set_option maxHeartbeats 400000 in
theorem hear_no {v : Value} {w : World} (H : IsNo w v) (t : Int) :
    Calls Try.prog 20 #[v, .int .i64 t] w fun e w' => e = .returned (.bool false) ∧ w = w' := by
  have HM := hide (made_no H)
  clear H
  go_enter Try.func20, Try.ntmps20
  go_wp2_with (go_at_call 31; refine (unhide HM).mono ?_; rintro e w' ⟨rfl, rfl⟩)
  go_ret
  exact ⟨rfl, rfl⟩

def Vt.stand (V : Vt) : Vt := (V.begin (V.term + 1) V.self).setVt V.self true

set_option maxHeartbeats 400000 in
theorem stand_ok {h : Nat} {V : Vt} {w : World} (H : IsV w h V) (O : V.Ok) (ht : V.term < 1099511627776) :
    Calls Try.prog 14 #[P0 h] w fun e w' => e = .returned (.int .i64 0) ∧ IsV w' h V.stand ∧ Upd (One h) w.heap.size w w' := by
  have h1 := H.c1; have h2 := H.c2
  have hme := O.me; have hle := O.le; have ht0 := O.t0
  have hz : (0 : Int) ≤ (V.self : Int) := by omega
  have hy : (V.self : Int) < 5 := by omega
  have hw : IntKind.i64.wrap (V.term + 1) = V.term + 1 := wrap_id (by omega) (by omega)
  have HM := hide (made_yes H O)
  have HG := hide (begin_any H.drew (V.term + 1) V.self)
  clear H O
  go_enter Try.func14, Try.ntmps14
  go_wp2_with (first
    | (go_at_call 31; refine (unhide HM).mono ?_; rintro e w' ⟨rfl, rfl⟩))
  go_region_with (first | (go_at_call 32; refine (unhide HG).mono ?_; rintro e w' ⟨rfl, h3, h4⟩))
  all_goals
   have HS := hide (h3.setVt V.self (by omega) true)
   have b1 : w'.cell? ⟨h, 1, none⟩ = some (.int .i64 V.self) := h3.c1
   have b4 : w'.cell? ⟨h, 4 + V.self, none⟩ = some (.bool false) := h3.cv V.self (by omega)
   have bf := h3.fr
   have HU := hide h4
   clear h3 h4 h1 h2 HG HM
   go_wp2
   go_region
   go_wp2
   go_ret
   exact ⟨rfl, (unhide HS).drew, (((Upd.refl _ _ _).drew.trans (unhide HU)).one _).drew⟩

set_option maxHeartbeats 400000 in
theorem stand_long {h : Nat} {V : Vt} {w : World} (H : IsV w h V) (O : V.Ok) (ht : V.term = 1099511627776) :
    Calls Try.prog 14 #[P0 h] w fun e w' => e = .returned (.int .i64 3) ∧ w = w' := by
  have h2 := H.c2; rw [ht] at h2
  have HM := hide (made_yes H O)
  clear H O ht
  go_enter Try.func14, Try.ntmps14
  go_wp2_with (first
    | (go_at_call 31; refine (unhide HM).mono ?_; rintro e w' ⟨rfl, rfl⟩))
  go_ret
  exact ⟨rfl, rfl⟩

set_option maxHeartbeats 400000 in
theorem stand_no {v : Value} {w : World} (H : IsNo w v) :
    Calls Try.prog 14 #[v] w fun e w' => e = .returned (.int .i64 2) ∧ w = w' := by
  have HM := hide (made_no H)
  clear H
  go_enter Try.func14, Try.ntmps14
  go_wp2_with (go_at_call 31; refine (unhide HM).mono ?_; rintro e w' ⟨rfl, rfl⟩)
  go_ret
  exact ⟨rfl, rfl⟩

set_option maxHeartbeats 400000 in
theorem standing_yes {h : Nat} {V : Vt} {w : World} (H : IsV w h V) (O : V.Ok) :
    Calls Try.prog 15 #[P0 h] w fun e w' => e = .returned (.bool (V.vt V.self)) ∧ Below w.heap.size w w' := by
  have hme := O.me; have hle := O.le
  have hz : (0 : Int) ≤ (V.self : Int) := by omega
  have hy : (V.self : Int) < 5 := by omega
  have h1 := H.c1; have h4 := H.cv V.self (by omega)
  have HM := hide (made_yes H.drew O)
  clear H O
  go_enter Try.func15, Try.ntmps15
  go_wp2
  go_region_held3 (fun x => x.cell? ⟨h, 1, none⟩ = some (.int .i64 V.self) ∧ x.cell? ⟨h, 4 + V.self, none⟩ = some (.bool (V.vt V.self))) (go_keep) ((first | (go_at_call 31; refine (unhide HM).mono ?_; rintro e w' ⟨rfl, rfl⟩)))
  go_wp2
  go_ret
  exact ⟨rfl, (Below.refl _ _).drew⟩

set_option maxHeartbeats 400000 in
theorem standing_no {v : Value} {w : World} (H : IsNo w v) :
    Calls Try.prog 15 #[v] w fun e w' => e = .returned (.bool false) ∧ Below w.heap.size w w' := by
  have HM := hide (made_no H.drew)
  clear H
  go_enter Try.func15, Try.ntmps15
  go_wp2
  refine wp_region_held_drew (S := fun _ => True) (by kernel_rfl) trivial (fun hHeld => ?_)
  refine wpAnyH_take (i := 0) (v := ?v1x0) rfl (by kernel_rfl) (by kernel_rfl) (by kernel_rfl) (fun _ _ _ h => h) (Or.inl ⟨by rfl, ?hy1x0⟩) (by assumption) ?rest1x0
  case hy1x0 => intro w hSw; go_simp <;> with_reducible rfl
  simp only [Act.put, List.getElem_toArray, List.getElem_cons_zero, List.setIfInBounds_toArray, List.set_cons_zero, List.set_cons_succ]
  refine wpAnyH_ready (rs := [1]) (by kernel_rfl) (by simp) ?_
  refine AllReadyH.cons rfl (fun K hK => ?_) AllReadyH.nil
  go_simp
  refine (unhide HM).mono ?_
  rintro e wq ⟨rfl, rfl⟩
  refine hK _ _ trivial ?_
  clear hK hHeld
  intro hHeld
  refine wpAnyH_take (i := 2) (v := ?v2x2) rfl (by kernel_rfl) (by kernel_rfl) (by kernel_rfl) (fun _ _ _ h => h) (Or.inl ⟨by rfl, ?hy2x2⟩) (by assumption) ?rest2x2
  case hy2x2 => intro w hSw; go_simp <;> with_reducible rfl
  simp only [Act.put, List.getElem_toArray, List.getElem_cons_zero, List.getElem_cons_succ, List.setIfInBounds_toArray, List.set_cons_zero, List.set_cons_succ]
  refine wpAnyH_take (i := 3) (v := undef) rfl (by kernel_rfl) (by kernel_rfl) (by kernel_rfl) (fun _ _ _ h => h) (Or.inr ⟨by rfl, rfl⟩) (by assumption) ?_
  simp only [Act.put, List.getElem_toArray, List.getElem_cons_zero, List.getElem_cons_succ, List.setIfInBounds_toArray, List.set_cons_zero, List.set_cons_succ]
  refine wpAnyH_take (i := 4) (v := undef) rfl (by kernel_rfl) (by kernel_rfl) (by kernel_rfl) (fun _ _ _ h => h) (Or.inr ⟨by rfl, rfl⟩) (by assumption) ?_
  simp only [Act.put, List.getElem_toArray, List.getElem_cons_zero, List.getElem_cons_succ, List.setIfInBounds_toArray, List.set_cons_zero, List.set_cons_succ]
  refine wpAnyH_take (i := 5) (v := undef) rfl (by kernel_rfl) (by kernel_rfl) (by kernel_rfl) (fun _ _ _ h => h) (Or.inr ⟨by rfl, rfl⟩) (by assumption) ?_
  simp only [Act.put, List.getElem_toArray, List.getElem_cons_zero, List.getElem_cons_succ, List.setIfInBounds_toArray, List.set_cons_zero, List.set_cons_succ]
  refine wpAnyH_take (i := 6) (v := undef) rfl (by kernel_rfl) (by kernel_rfl) (by kernel_rfl) (fun _ _ _ h => h) (Or.inr ⟨by rfl, rfl⟩) (by assumption) ?_
  simp only [Act.put, List.getElem_toArray, List.getElem_cons_zero, List.getElem_cons_succ, List.setIfInBounds_toArray, List.set_cons_zero, List.set_cons_succ]
  refine wpAnyH_take (i := 7) (v := undef) rfl (by kernel_rfl) (by kernel_rfl) (by kernel_rfl) (fun _ _ _ h => h) (Or.inr ⟨by rfl, rfl⟩) (by assumption) ?_
  simp only [Act.put, List.getElem_toArray, List.getElem_cons_zero, List.getElem_cons_succ, List.setIfInBounds_toArray, List.set_cons_zero, List.set_cons_succ]
  refine wpAnyH_take (i := 8) (v := undef) rfl (by kernel_rfl) (by kernel_rfl) (by kernel_rfl) (fun _ _ _ h => h) (Or.inr ⟨by rfl, rfl⟩) (by assumption) ?_
  simp only [Act.put, List.getElem_toArray, List.getElem_cons_zero, List.getElem_cons_succ, List.setIfInBounds_toArray, List.set_cons_zero, List.set_cons_succ]
  refine wpAnyH_take (i := 9) (v := undef) rfl (by kernel_rfl) (by kernel_rfl) (by kernel_rfl) (fun _ _ _ h => h) (Or.inr ⟨by rfl, rfl⟩) (by assumption) ?_
  simp only [Act.put, List.getElem_toArray, List.getElem_cons_zero, List.getElem_cons_succ, List.setIfInBounds_toArray, List.set_cons_zero, List.set_cons_succ]
  refine wpAnyH_take (i := 10) (v := undef) rfl (by kernel_rfl) (by kernel_rfl) (by kernel_rfl) (fun _ _ _ h => h) (Or.inr ⟨by rfl, rfl⟩) (by assumption) ?_
  simp only [Act.put, List.getElem_toArray, List.getElem_cons_zero, List.getElem_cons_succ, List.setIfInBounds_toArray, List.set_cons_zero, List.set_cons_succ]
  refine wpAnyH_take (i := 11) (v := undef) rfl (by kernel_rfl) (by kernel_rfl) (by kernel_rfl) (fun _ _ _ h => h) (Or.inr ⟨by rfl, rfl⟩) (by assumption) ?_
  simp only [Act.put, List.getElem_toArray, List.getElem_cons_zero, List.getElem_cons_succ, List.setIfInBounds_toArray, List.set_cons_zero, List.set_cons_succ]
  refine wpAnyH_take (i := 12) (v := undef) rfl (by kernel_rfl) (by kernel_rfl) (by kernel_rfl) (fun _ _ _ h => h) (Or.inr ⟨by rfl, rfl⟩) (by assumption) ?_
  simp only [Act.put, List.getElem_toArray, List.getElem_cons_zero, List.getElem_cons_succ, List.setIfInBounds_toArray, List.set_cons_zero, List.set_cons_succ]
  refine wpAnyH_take (i := 13) (v := ?v3x13) rfl (by kernel_rfl) (by kernel_rfl) (by kernel_rfl) (fun _ _ _ h => h) (Or.inl ⟨by rfl, ?hy3x13⟩) (by assumption) ?rest3x13
  case hy3x13 => intro w hSw; go_simp <;> with_reducible rfl
  simp only [Act.put, List.getElem_toArray, List.getElem_cons_zero, List.getElem_cons_succ, List.setIfInBounds_toArray, List.set_cons_zero, List.set_cons_succ]
  refine wpAnyH_take (i := 14) (v := ?v4x14) rfl (by kernel_rfl) (by kernel_rfl) (by kernel_rfl) (fun _ _ _ h => h) (Or.inl ⟨by rfl, ?hy4x14⟩) (by assumption) ?rest4x14
  case hy4x14 => intro w hSw; go_simp <;> with_reducible rfl
  simp only [Act.put, List.getElem_toArray, List.getElem_cons_zero, List.getElem_cons_succ, List.setIfInBounds_toArray, List.set_cons_zero, List.set_cons_succ]
  refine wpAnyH_done (by kernel_rfl) ?_ _
  go_wp2
  go_ret
  exact ⟨rfl, (Below.refl _ _).drew⟩

end Go.Proofs.Ytpadbbkklmgimaa
