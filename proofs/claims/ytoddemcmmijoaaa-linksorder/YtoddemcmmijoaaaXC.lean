/- Record: keys that may be. -/
import Derived.Test.YtoddemcmmijoaaaKV
namespace Go.Proofs.Ytoddemcmmijoaaa
open Go.RowKit
set_option maxRecDepth 100000

/-- A slice of keys. -/
def SeesK (w : World) (v : Value) (l : List (Int × Int)) : Prop :=
  ∃ ao cap gb ob, v = .slice ao l.length cap ∧ l.length ≤ cap ∧ l.length ≤ 9223372036854775807 ∧ (0 < l.length → ao = some ⟨gb, ob, none⟩) ∧ ∀ t, t < l.length → w.cell? ⟨gb, ob + t * 2, none⟩ = some (.int .i32 (l.getD t (0, 0)).1) ∧ w.cell? ⟨gb, ob + t * 2 + 1, none⟩ = some (.int .i64 (l.getD t (0, 0)).2)
theorem SeesK.below {w w' : World} {v : Value} {l : List (Int × Int)} (h : SeesK w v l) (hb : Below w.heap.size w w') : SeesK w' v l := by
  obtain ⟨ao, cap, gb, ob, h1, h2, h3, h4, h5⟩ := h
  refine ⟨ao, cap, gb, ob, h1, h2, h3, h4, fun t ht => ?_⟩
  have c : ∀ o u, w.cell? ⟨gb, o, none⟩ = some u → w'.cell? ⟨gb, o, none⟩ = some u := fun o u h => (hb.cell (p := ⟨gb, o, none⟩) (World.block_lt_of_cell? w _ h)).trans h
  exact ⟨c _ _ (h5 t ht).1, c _ _ (h5 t ht).2⟩

def ordL : List (Int × Int) → Bool
  | a :: b :: r => lessK a b && ordL (b :: r)
  | _ => true
theorem ordL_iff : ∀ l : List (Int × Int), ordL l = true ↔ ∀ t, t + 1 < l.length → lessK (l.getD t (0, 0)) (l.getD (t + 1) (0, 0)) = true
  | [] => by simp [ordL]
  | [a] => by simp [ordL]
  | a :: b :: r => by
    simp only [ordL, Bool.and_eq_true]
    rw [ordL_iff (b :: r)]
    constructor
    · rintro ⟨h1, h2⟩ t ht
      cases t with
      | zero => exact h1
      | succ t => exact h2 t (by simpa using ht)
    · intro h
      exact ⟨h 0 (by simp), fun t ht => h (t + 1) (by simpa using ht)⟩
/-- Which keys may be. -/
def mayK (l : List (Int × Int)) : Bool := decide (l.length ≤ 16) && ordL l
theorem mayK_no {l : List (Int × Int)} {t : Nat} (h : t + 1 < l.length) (hl : lessK (l.getD t (0, 0)) (l.getD (t + 1) (0, 0)) = false) : mayK l = false := by
  unfold mayK
  rw [Bool.and_eq_false_iff]
  right
  cases ho : ordL l with
  | false => rfl
  | true => rw [(ordL_iff l).1 ho t h] at hl; cases hl
theorem mayK_of {l : List (Int × Int)} (h : ∀ t, t + 1 < l.length → lessK (l.getD t (0, 0)) (l.getD (t + 1) (0, 0)) = true) : mayK l = decide (l.length ≤ 16) := by
  unfold mayK
  rw [(ordL_iff l).2 h, Bool.and_true]
theorem wrap_i64 (x : Int) (h1 : -9223372036854775808 ≤ x) (h2 : x ≤ 9223372036854775807) : IntKind.i64.wrap x = x := by
  simp [IntKind.wrap, IntKind.signed, IntKind.bits]
  omega

set_option maxHeartbeats 3200000 in
theorem keysMayBe_any (v : Value) (l : List (Int × Int)) (w : World) (hs : SeesK w v l) :
    Calls Try.prog 63 #[v] w fun e w' => e = .returned (.bool (mayK l)) ∧ Below w.heap.size w w' := by
  have HS : Hid (∀ w', Below w.heap.size w w' → SeesK w' v l) := fun w' hb => hs.below hb
  obtain ⟨ao, cap, _, _, rfl, hcap, hmax, _⟩ := id hs
  clear hs
  by_cases h16 : 16 < l.length
  · have hm : mayK l = false := by unfold mayK; rw [Bool.and_eq_false_iff]; left; simp; omega
    rw [hm]
    go_enter Try.func63, Try.ntmps63
    go_wp2
    go_ret
    exact ⟨rfl, Below.refl _ _⟩
  go_enter Try.func63, Try.ntmps63
  go_wp2
  go_loopw [3] (fun c wr => ∃ t : Nat, 1 ≤ t ∧ (t ≤ l.length ∨ t = 1) ∧ c = .int .i64 t ∧ (∀ u, u + 1 < t → lessK (l.getD u (0, 0)) (l.getD (u + 1) (0, 0)) = true) ∧ Below w.heap.size w wr) (fun c _ => l.length - (intOf c).toNat)
  case atStart => exact ⟨1, by omega, .inr rfl, rfl, fun u hu => absurd hu (by omega), Below.refl _ _⟩
  case round =>
    obtain ⟨t, h1, h2, rfl, hord, hb⟩ := hrel
    by_cases hlt : t < l.length
    · obtain ⟨ao', cap', gb, ob, hv, _, _, hao, hcl⟩ := unhide HS wr hb
      simp only [Value.slice.injEq, true_and] at hv
      obtain ⟨rfl, rfl⟩ := hv
      obtain rfl := hao (by omega)
      have HCl : Hid (∀ w', Below wr.heap.size wr w' → (w'.cell? ⟨gb, ob + (t - 1) * 2, none⟩ = some (.int .i32 (l.getD (t - 1) (0, 0)).1) ∧ w'.cell? ⟨gb, ob + (t - 1) * 2 + 1, none⟩ = some (.int .i64 (l.getD (t - 1) (0, 0)).2) ∧ w'.cell? ⟨gb, ob + t * 2, none⟩ = some (.int .i32 (l.getD t (0, 0)).1) ∧ w'.cell? ⟨gb, ob + t * 2 + 1, none⟩ = some (.int .i64 (l.getD t (0, 0)).2))) := fun w' hb' => by
        have c : ∀ o u, wr.cell? ⟨gb, o, none⟩ = some u → w'.cell? ⟨gb, o, none⟩ = some u := fun o u h => (hb'.cell (p := ⟨gb, o, none⟩) (World.block_lt_of_cell? wr _ h)).trans h
        exact ⟨c _ _ (hcl (t - 1) (by omega)).1, c _ _ (hcl (t - 1) (by omega)).2, c _ _ (hcl t hlt).1, c _ _ (hcl t hlt).2⟩
      have HO := hide hord
      have HB := hide hb
      clear hcl hao hord hb
      obtain ⟨k0, hk0⟩ : ∃ k, l.getD (t - 1) (0, 0) = k := ⟨_, rfl⟩
      obtain ⟨k1, hk1⟩ : ∃ k, l.getD t (0, 0) = k := ⟨_, rfl⟩
      rw [hk0, hk1] at HCl
      have HK0 := hide hk0
      have HK1 := hide hk1
      clear hk0 hk1
      obtain ⟨a0, a1⟩ := k0
      obtain ⟨b0, b1⟩ := k1
      simp only at HCl
      have hwr : IntKind.i64.wrap ((t : Int) - 1) = ((t - 1 : Nat) : Int) := by rw [wrap_i64 _ (by omega) (by omega)]; omega
      have hlt0 : t - 1 < l.length := by omega
      go_wp2_with fail
      refine wp_region_held_drew (S := fun w' => w'.cell? ⟨gb, ob + (t - 1) * 2, none⟩ = some (.int .i32 a0) ∧ w'.cell? ⟨gb, ob + (t - 1) * 2 + 1, none⟩ = some (.int .i64 a1) ∧ w'.cell? ⟨gb, ob + t * 2, none⟩ = some (.int .i32 b0) ∧ w'.cell? ⟨gb, ob + t * 2 + 1, none⟩ = some (.int .i64 b1)) (by kernel_rfl) (unhide HCl _ (Below.refl _ _).drew) (fun hHeld => ?_)
      refine wpAnyH_take (i := 0) (v := ?v1x0) rfl (by kernel_rfl) (by kernel_rfl) (by kernel_rfl) (fun _ _ _ h => h) (Or.inl ⟨by rfl, ?hy1x0⟩) (by assumption) ?rest1x0
      case hy1x0 => intro w hSw; obtain ⟨s1, s2, s3, s4⟩ := hSw; go_simp <;> with_reducible rfl
      simp only [Act.put, List.getElem_toArray, List.getElem_cons_zero, List.setIfInBounds_toArray, List.set_cons_zero, List.set_cons_succ]
      refine wpAnyH_take (i := 1) (v := ?v2x1) rfl (by kernel_rfl) (by kernel_rfl) (by kernel_rfl) (fun _ _ _ h => h) (Or.inl ⟨by rfl, ?hy2x1⟩) (by assumption) ?rest2x1
      case hy2x1 => intro w hSw; obtain ⟨s1, s2, s3, s4⟩ := hSw; go_simp <;> with_reducible rfl
      simp only [Act.put, List.getElem_toArray, List.getElem_cons_zero, List.getElem_cons_succ, List.setIfInBounds_toArray, List.set_cons_zero, List.set_cons_succ]
      refine wpAnyH_take (i := 2) (v := .int .i64 ((t - 1 : Nat) : Int)) rfl (by kernel_rfl) (by kernel_rfl) (by kernel_rfl) (fun _ _ _ h => h) (Or.inl ⟨by rfl, ?hy3x2⟩) (by assumption) ?rest3x2
      case hy3x2 => intro w hSw; obtain ⟨s1, s2, s3, s4⟩ := hSw; go_simp <;> with_reducible rfl
      simp only [Act.put, List.getElem_toArray, List.getElem_cons_zero, List.getElem_cons_succ, List.setIfInBounds_toArray, List.set_cons_zero, List.set_cons_succ]
      refine wpAnyH_take (i := 3) (v := ?v4x3) rfl (by kernel_rfl) (by kernel_rfl) (by kernel_rfl) (fun _ _ _ h => h) (Or.inl ⟨by rfl, ?hy4x3⟩) (by assumption) ?rest4x3
      case hy4x3 => intro w hSw; obtain ⟨s1, s2, s3, s4⟩ := hSw; go_simp <;> with_reducible rfl
      simp only [Act.put, List.getElem_toArray, List.getElem_cons_zero, List.getElem_cons_succ, List.setIfInBounds_toArray, List.set_cons_zero, List.set_cons_succ]
      refine wpAnyH_take (i := 4) (v := .agg #[.int .i32 a0, .int .i64 a1]) rfl (by kernel_rfl) (by kernel_rfl) (by kernel_rfl) (fun _ _ _ h => h) (Or.inl ⟨by rfl, ?hy5x4⟩) (by assumption) ?rest5x4
      case hy5x4 => intro w hSw; obtain ⟨s1, s2, s3, s4⟩ := hSw; go_simp <;> with_reducible rfl
      simp only [Act.put, List.getElem_toArray, List.getElem_cons_zero, List.getElem_cons_succ, List.setIfInBounds_toArray, List.set_cons_zero, List.set_cons_succ]
      refine wpAnyH_take (i := 5) (v := ?v6x5) rfl (by kernel_rfl) (by kernel_rfl) (by kernel_rfl) (fun _ _ _ h => h) (Or.inl ⟨by rfl, ?hy6x5⟩) (by assumption) ?rest6x5
      case hy6x5 => intro w hSw; obtain ⟨s1, s2, s3, s4⟩ := hSw; go_simp <;> with_reducible rfl
      simp only [Act.put, List.getElem_toArray, List.getElem_cons_zero, List.getElem_cons_succ, List.setIfInBounds_toArray, List.set_cons_zero, List.set_cons_succ]
      refine wpAnyH_take (i := 6) (v := ?v7x6) rfl (by kernel_rfl) (by kernel_rfl) (by kernel_rfl) (fun _ _ _ h => h) (Or.inl ⟨by rfl, ?hy7x6⟩) (by assumption) ?rest7x6
      case hy7x6 => intro w hSw; obtain ⟨s1, s2, s3, s4⟩ := hSw; go_simp <;> with_reducible rfl
      simp only [Act.put, List.getElem_toArray, List.getElem_cons_zero, List.getElem_cons_succ, List.setIfInBounds_toArray, List.set_cons_zero, List.set_cons_succ]
      refine wpAnyH_take (i := 7) (v := ?v8x7) rfl (by kernel_rfl) (by kernel_rfl) (by kernel_rfl) (fun _ _ _ h => h) (Or.inl ⟨by rfl, ?hy8x7⟩) (by assumption) ?rest8x7
      case hy8x7 => intro w hSw; obtain ⟨s1, s2, s3, s4⟩ := hSw; go_simp <;> with_reducible rfl
      simp only [Act.put, List.getElem_toArray, List.getElem_cons_zero, List.getElem_cons_succ, List.setIfInBounds_toArray, List.set_cons_zero, List.set_cons_succ]
      refine wpAnyH_take (i := 8) (v := .agg #[.int .i32 b0, .int .i64 b1]) rfl (by kernel_rfl) (by kernel_rfl) (by kernel_rfl) (fun _ _ _ h => h) (Or.inl ⟨by rfl, ?hy9x8⟩) (by assumption) ?rest9x8
      case hy9x8 => intro w hSw; obtain ⟨s1, s2, s3, s4⟩ := hSw; go_simp <;> with_reducible rfl
      simp only [Act.put, List.getElem_toArray, List.getElem_cons_zero, List.getElem_cons_succ, List.setIfInBounds_toArray, List.set_cons_zero, List.set_cons_succ]
      refine wpAnyH_ready (rs := [9]) (by kernel_rfl) (by simp) ?_
      refine AllReadyH.cons rfl (fun K hK => ?_) AllReadyH.nil
      go_simp
      refine (compareKeys_any a0 a1 b0 b1 _).mono ?_
      rintro e wq ⟨rfl, hb2⟩
      refine hK _ _ (unhide HCl _ ((Below.refl _ _).drew.trans hb2)) ?_
      clear hK hHeld
      have HB2 : Hid (Below w.heap.size w _) := (unhide HB).trans (((Below.refl _ _).drew.trans hb2).mono (unhide HB).size)
      clear hb2
      intro hHeld
      obtain ⟨r, hr⟩ : ∃ r, cmpK (a0, a1) (b0, b1) = r := ⟨_, rfl⟩
      have hge := cmpK_less (a0, a1) (b0, b1)
      rw [hr] at hge ⊢
      clear hr
      refine wpAnyH_take (i := 10) (v := .bool (!lessK (a0, a1) (b0, b1))) rfl (by kernel_rfl) (by kernel_rfl) (by kernel_rfl) (fun _ _ _ h => h) (Or.inl ⟨by rfl, ?hy10x10⟩) (by assumption) ?rest10x10
      case hy10x10 => intro w hSw; obtain ⟨s1, s2, s3, s4⟩ := hSw; go_simp <;> with_reducible rfl
      simp only [Act.put, List.getElem_toArray, List.getElem_cons_zero, List.getElem_cons_succ, List.setIfInBounds_toArray, List.set_cons_zero, List.set_cons_succ]
      refine wpAnyH_done (by kernel_rfl) ?_ _
      cases hlk : lessK (a0, a1) (b0, b1) with
      | false =>
        go_wp2
        go_ret
        refine ⟨retBool (mayK_no (t := t - 1) (by omega) ?_).symm, unhide HB2⟩
        rw [unhide HK0, show t - 1 + 1 = t by omega, unhide HK1]
        exact hlk
      | true =>
        go_wp2
        go_roundw
        case rel =>
          refine ⟨t + 1, by omega, .inl (by omega), by go_num, fun u hu => ?_, unhide HB2⟩
          by_cases hut : u + 1 < t
          · exact unhide HO u hut
          · obtain rfl : u = t - 1 := by omega
            rw [unhide HK0, show t - 1 + 1 = t by omega, unhide HK1]
            exact hlk
        case measure => simp [intOf]; omega
    · have HO := hide hord
      have HB := hide hb
      clear hord hb
      go_wp2
      go_ret
      refine ⟨retBool ?_, unhide HB⟩
      rw [mayK_of (fun u hu => unhide HO u (by omega))]
      simp; omega

end Go.Proofs.Ytoddemcmmijoaaa
