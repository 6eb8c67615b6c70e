/- Both books side by side: equal. -/
import Derived.Test.YtgehhoddmmjmjaaR4
namespace Go.Proofs.Ytgehhoddmmjmjaa
open Go.RowKit
set_option maxRecDepth 100000

/-- The program's book at h and the document's at r, b, d are the same book B; all of them lie at N or beyond. -/
structure Jb (x : World) (N h r b cb d cd : Nat) (B : Bk) : Prop where
  ok : B.Ok
  i : IsB x h B
  j : IsR x r b cb d cd B
  hr : h ≠ r
  hb : h ≠ b
  hd : h ≠ d
  nh : N ≤ h
  nr : N ≤ r
  nb : N ≤ b
  nd : N ≤ d
theorem Jb.below {x y : World} {N h r b cb d cd : Nat} {B : Bk} (J : Jb x N h r b cb d cd B) (hb : Below x.heap.size x y) : Jb y N h r b cb d cd B := ⟨J.ok, J.i.below hb, J.j.below hb, J.hr, J.hb, J.hd, J.nh, J.nr, J.nb, J.nd⟩
theorem Jb.drew {x : World} {N h r b cb d cd : Nat} {B : Bk} (J : Jb x N h r b cb d cd B) : Jb x.drew N h r b cb d cd B := J.below (Below.refl _ _).drew
/-- The program's book has gone on. -/
theorem IsR.one {x y : World} {r b cb d cd h : Nat} {B : Bk} (H : IsR x r b cb d cd B) (hu : Upd (One h) x.heap.size x y) (h1 : h ≠ r) (h2 : h ≠ b) (h3 : h ≠ d) : IsR y r b cb d cd B := H.upd hu (Nat.le_refl _) (Ne.symm h1) (Ne.symm h2) (Ne.symm h3)
theorem IsB.tri {x y : World} {r b d h : Nat} {B : Bk} (H : IsB x h B) (hu : Upd (Tri r b d) x.heap.size x y) (h1 : h ≠ r) (h2 : h ≠ b) (h3 : h ≠ d) : IsB y h B := H.upd hu (Nat.le_refl _) (by rintro (c | c | c); exact h1 c; exact h2 c; exact h3 c)

def AtI (w : World) (n : Nat) (c : Value) (wr : World) : Prop := ∃ i : Int, -1 ≤ i ∧ i ≤ (n : Int) + 1 ∧ c = .int .i64 i ∧ wr = w

set_option maxHeartbeats 1600000 in
theorem equal_any {w : World} {N h r b cb d cd : Nat} {B : Bk} (J : Jb w N h r b cb d cd B) :
    Calls Try.prog 12 #[P0 h, P0 r] w fun e w' => e = .returned (.bool true) ∧ Below w.heap.size w w' := by
  have h0 := J.j.c0
  have h5 := J.ok.le
  have HJ := hide J
  clear J
  go_enter Try.func12, Try.ntmps12
  go_wp2
  go_loopw [5] (fun c wr => AtI w B.n c wr) (fun c _ => ((B.n : Int) + 1 - intOf c).toNat)
  case atStart => exact ⟨-1, by omega, by omega, rfl, rfl⟩
  case round =>
    obtain ⟨i, hi0, hi1, rfl, rfl⟩ := hrel
    by_cases hlt : i ≤ B.n
    · have HN := hide (next_yes (unhide HJ).i (unhide HJ).ok i)
      have HL := hide (like_yes (unhide HJ).i (unhide HJ).ok i)
      have HRN := hide (rnext_any (unhide HJ).j (unhide HJ).ok i)
      have HRL := hide (rlike_any (unhide HJ).j (unhide HJ).ok i)
      have hw : IntKind.i64.wrap (i + 1) = i + 1 := by rw [IntKind.wrap_i64]; omega
      generalize B.next i = z1 at HN HRN
      generalize B.like i = z2 at HL HRL
      go_wp2_with (first
        | (go_at_call 19; refine (unhide HN).mono ?_; rintro e w' ⟨rfl, rfl⟩)
        | (go_at_call 26; refine (unhide HRN).mono ?_; rintro e w' ⟨rfl, rfl⟩)
        | (go_at_call 15; refine (unhide HL).mono ?_; rintro e w' ⟨rfl, rfl⟩)
        | (go_at_call 27; refine (unhide HRL).mono ?_; rintro e w' ⟨rfl, rfl⟩))
      go_roundw
      case rel => exact ⟨i + 1, by omega, by omega, rfl, rfl⟩
      case measure => simp [intOf]; omega
    · have HLe := hide (length_yes (unhide HJ).i.drew (unhide HJ).ok)
      have c2 : wr.drew.cell? ⟨r, 2, none⟩ = some (.int .i64 (B.lk B.self)) := (unhide HJ).j.c2
      have hrl : r < wr.heap.size := (unhide HJ).j.lt
      have HG := hide (agreed_yes (unhide HJ).i.drew (unhide HJ).ok)
      have HO := hide (unhide HJ).ok
      generalize B.lk B.self = zl at HLe c2
      obtain ⟨za, hza⟩ : ∃ za, B.agreed = za := ⟨_, rfl⟩
      rw [hza] at HG
      go_wp2
      refine wp_region_held_drew (S := fun x => x.cell? ⟨r, 2, none⟩ = some (.int .i64 zl)) (by kernel_rfl) c2 (fun hHeld => ?_)
      refine wpAnyH_take (i := 0) (v := ?v1x0) rfl (by kernel_rfl) (by kernel_rfl) (by kernel_rfl) (fun _ _ _ h => h) (Or.inl ⟨by rfl, ?hy1x0⟩) (by assumption) ?rest1x0
      case hy1x0 => intro w hSw; go_simp <;> with_reducible rfl
      simp only [Act.put, List.getElem_toArray, List.getElem_cons_zero, List.setIfInBounds_toArray, List.set_cons_zero, List.set_cons_succ]
      refine wpAnyH_take (i := 2) (v := ?v2x2) rfl (by kernel_rfl) (by kernel_rfl) (by kernel_rfl) (fun _ _ _ h => h) (Or.inl ⟨by rfl, ?hy2x2⟩) (by assumption) ?rest2x2
      case hy2x2 => intro w hSw; go_simp <;> with_reducible rfl
      simp only [Act.put, List.getElem_toArray, List.getElem_cons_zero, List.getElem_cons_succ, List.setIfInBounds_toArray, List.set_cons_zero, List.set_cons_succ]
      refine wpAnyH_take (i := 3) (v := ?v3x3) rfl (by kernel_rfl) (by kernel_rfl) (by kernel_rfl) (fun _ _ _ h => h) (Or.inl ⟨by rfl, ?hy3x3⟩) (by assumption) ?rest3x3
      case hy3x3 => intro w hSw; go_simp <;> with_reducible rfl
      simp only [Act.put, List.getElem_toArray, List.getElem_cons_zero, List.getElem_cons_succ, List.setIfInBounds_toArray, List.set_cons_zero, List.set_cons_succ]
      refine wpAnyH_take (i := 4) (v := ?v4x4) rfl (by kernel_rfl) (by kernel_rfl) (by kernel_rfl) (fun _ _ _ h => h) (Or.inl ⟨by rfl, ?hy4x4⟩) (by assumption) ?rest4x4
      case hy4x4 => intro w hSw; go_simp <;> with_reducible rfl
      simp only [Act.put, List.getElem_toArray, List.getElem_cons_zero, List.getElem_cons_succ, List.setIfInBounds_toArray, List.set_cons_zero, List.set_cons_succ]
      refine wpAnyH_take (i := 5) (v := ?v5x5) rfl (by kernel_rfl) (by kernel_rfl) (by kernel_rfl) (fun _ _ _ h => h) (Or.inl ⟨by rfl, ?hy5x5⟩) (by assumption) ?rest5x5
      case hy5x5 => intro w hSw; go_simp <;> with_reducible rfl
      simp only [Act.put, List.getElem_toArray, List.getElem_cons_zero, List.getElem_cons_succ, List.setIfInBounds_toArray, List.set_cons_zero, List.set_cons_succ]
      refine wpAnyH_ready (rs := [1]) (by kernel_rfl) (by simp) ?_
      refine AllReadyH.cons rfl (fun K hK => ?_) AllReadyH.nil
      go_simp
      refine (unhide HLe).mono ?_
      rintro e wq ⟨rfl, rfl⟩
      refine hK _ _ c2 ?_
      clear hK hHeld
      intro hHeld
      refine wpAnyH_take (i := 6) (v := (.bool true)) rfl (by kernel_rfl) (by kernel_rfl) (by kernel_rfl) (fun _ _ _ h => h) (Or.inl ⟨by rfl, ?hy6x6⟩) (by assumption) ?rest6x6
      case hy6x6 => intro w hSw; go_simp <;> with_reducible rfl
      simp only [Act.put, List.getElem_toArray, List.getElem_cons_zero, List.getElem_cons_succ, List.setIfInBounds_toArray, List.set_cons_zero, List.set_cons_succ]
      refine wpAnyH_take (i := 7) (v := ?v7x7) rfl (by kernel_rfl) (by kernel_rfl) (by kernel_rfl) (fun _ _ _ h => h) (Or.inl ⟨by rfl, ?hy7x7⟩) (by assumption) ?rest7x7
      case hy7x7 => intro w hSw; go_simp <;> with_reducible rfl
      simp only [Act.put, List.getElem_toArray, List.getElem_cons_zero, List.getElem_cons_succ, List.setIfInBounds_toArray, List.set_cons_zero, List.set_cons_succ]
      refine wpAnyH_take (i := 8) (v := ?v8x8) rfl (by kernel_rfl) (by kernel_rfl) (by kernel_rfl) (fun _ _ _ h => h) (Or.inl ⟨by rfl, ?hy8x8⟩) (by assumption) ?rest8x8
      case hy8x8 => intro w hSw; go_simp <;> with_reducible rfl
      simp only [Act.put, List.getElem_toArray, List.getElem_cons_zero, List.getElem_cons_succ, List.setIfInBounds_toArray, List.set_cons_zero, List.set_cons_succ]
      refine wpAnyH_take (i := 10) (v := ?v9x10) rfl (by kernel_rfl) (by kernel_rfl) (by kernel_rfl) (fun _ _ _ h => h) (Or.inl ⟨by rfl, ?hy9x10⟩) (by assumption) ?rest9x10
      case hy9x10 => intro w hSw; go_simp <;> with_reducible rfl
      simp only [Act.put, List.getElem_toArray, List.getElem_cons_zero, List.getElem_cons_succ, List.setIfInBounds_toArray, List.set_cons_zero, List.set_cons_succ]
      refine wpAnyH_ready (rs := [9]) (by kernel_rfl) (by simp) ?_
      refine AllReadyH.cons rfl (fun K hK => ?_) AllReadyH.nil
      go_simp
      refine (unhide HG).mono ?_
      rintro e y1 ⟨rfl, b1⟩
      refine hK _ _ ((b1.cell (p := ⟨r, 2, none⟩) hrl).trans c2) ?_
      clear hK hHeld
      have HB1 : Hid (Below wr.heap.size wr y1) := (Below.refl _ _).drew.trans b1
      have d2 := (b1.cell (p := ⟨r, 2, none⟩) hrl).trans c2
      clear b1 c2
      intro hHeld
      refine wpAnyH_ready (rs := [11]) (by kernel_rfl) (by simp) ?_
      refine AllReadyH.cons rfl (fun K hK => ?_) AllReadyH.nil
      go_simp
      refine ((hza ▸ ragreed_any ((unhide HJ).j.below (unhide HB1)) (unhide HO))).mono ?_
      rintro e wq ⟨rfl, rfl⟩
      refine hK _ _ d2 ?_
      clear hK hHeld
      intro hHeld
      refine wpAnyH_take (i := 12) (v := (.bool true)) rfl (by kernel_rfl) (by kernel_rfl) (by kernel_rfl) (fun _ _ _ h => h) (Or.inl ⟨by rfl, ?hy10x12⟩) (by assumption) ?rest10x12
      case hy10x12 => intro w hSw; go_simp <;> with_reducible rfl
      simp only [Act.put, List.getElem_toArray, List.getElem_cons_zero, List.getElem_cons_succ, List.setIfInBounds_toArray, List.set_cons_zero, List.set_cons_succ]
      refine wpAnyH_take (i := 13) (v := ?v11x13) rfl (by kernel_rfl) (by kernel_rfl) (by kernel_rfl) (fun _ _ _ h => h) (Or.inl ⟨by rfl, ?hy11x13⟩) (by assumption) ?rest11x13
      case hy11x13 => intro w hSw; go_simp <;> with_reducible rfl
      simp only [Act.put, List.getElem_toArray, List.getElem_cons_zero, List.getElem_cons_succ, List.setIfInBounds_toArray, List.set_cons_zero, List.set_cons_succ]
      refine wpAnyH_take (i := 14) (v := ?v12x14) rfl (by kernel_rfl) (by kernel_rfl) (by kernel_rfl) (fun _ _ _ h => h) (Or.inl ⟨by rfl, ?hy12x14⟩) (by assumption) ?rest12x14
      case hy12x14 => intro w hSw; go_simp <;> with_reducible rfl
      simp only [Act.put, List.getElem_toArray, List.getElem_cons_zero, List.getElem_cons_succ, List.setIfInBounds_toArray, List.set_cons_zero, List.set_cons_succ]
      refine wpAnyH_take (i := 15) (v := ?v13x15) rfl (by kernel_rfl) (by kernel_rfl) (by kernel_rfl) (fun _ _ _ h => h) (Or.inl ⟨by rfl, ?hy13x15⟩) (by assumption) ?rest13x15
      case hy13x15 => intro w hSw; go_simp <;> with_reducible rfl
      simp only [Act.put, List.getElem_toArray, List.getElem_cons_zero, List.getElem_cons_succ, List.setIfInBounds_toArray, List.set_cons_zero, List.set_cons_succ]
      refine wpAnyH_take (i := 17) (v := ?v14x17) rfl (by kernel_rfl) (by kernel_rfl) (by kernel_rfl) (fun _ _ _ h => h) (Or.inl ⟨by rfl, ?hy14x17⟩) (by assumption) ?rest14x17
      case hy14x17 => intro w hSw; go_simp <;> with_reducible rfl
      simp only [Act.put, List.getElem_toArray, List.getElem_cons_zero, List.getElem_cons_succ, List.setIfInBounds_toArray, List.set_cons_zero, List.set_cons_succ]
      refine wpAnyH_ready (rs := [16]) (by kernel_rfl) (by simp) ?_
      refine AllReadyH.cons rfl (fun K hK => ?_) AllReadyH.nil
      go_simp
      refine (lagging_any ((unhide HJ).i.below (unhide HB1))).mono ?_
      rintro e y2 ⟨rfl, I2, b2⟩
      refine hK _ _ ((b2.cell (p := ⟨r, 2, none⟩) (by have := (unhide HB1).size; show r < _; omega)).trans d2) ?_
      clear hK hHeld
      have HB2 : Hid (Below wr.heap.size wr y2) := (unhide HB1).trans (b2.mono (unhide HB1).size)
      have HI2 := hide I2
      have e2 := (b2.cell (p := ⟨r, 2, none⟩) (by have := (unhide HB1).size; show r < _; omega)).trans d2
      clear b2 I2 d2
      intro hHeld
      refine wpAnyH_ready (rs := [18]) (by kernel_rfl) (by simp) ?_
      refine AllReadyH.cons rfl (fun K hK => ?_) AllReadyH.nil
      go_simp
      refine (rlagging_any ((unhide HJ).j.below (unhide HB2)) (unhide HO)).mono ?_
      rintro e y3 ⟨v, rfl, W3, b3⟩
      refine hK _ _ ((b3.cell (p := ⟨r, 2, none⟩) (by have := (unhide HB2).size; show r < _; omega)).trans e2) ?_
      clear hK hHeld
      have HB3 : Hid (Below wr.heap.size wr y3) := (unhide HB2).trans (b3.mono (unhide HB2).size)
      have HI3 := hide ((unhide HI2).below b3)
      have HW3 := hide W3
      have f2 := (b3.cell (p := ⟨r, 2, none⟩) (by have := (unhide HB2).size; show r < _; omega)).trans e2
      clear b3 W3 e2
      intro hHeld
      refine wpAnyH_ready (rs := [19]) (by kernel_rfl) (by simp) ?_
      refine AllReadyH.cons rfl (fun K hK => ?_) AllReadyH.nil
      go_simp
      refine (saw_any (unhide HI3) (unhide HO).le (fun _ => unhide HO) v (unhide HW3)).mono ?_
      rintro e y4 ⟨rfl, b4⟩
      refine hK _ _ ((b4.cell (p := ⟨r, 2, none⟩) (by have := (unhide HB3).size; show r < _; omega)).trans f2) ?_
      clear hK hHeld
      have HB4 : Hid (Below wr.heap.size wr y4) := (unhide HB3).trans (b4.mono (unhide HB3).size)
      clear b4
      intro hHeld
      refine wpAnyH_take (i := 20) (v := ?v15x20) rfl (by kernel_rfl) (by kernel_rfl) (by kernel_rfl) (fun _ _ _ h => h) (Or.inl ⟨by rfl, ?hy15x20⟩) (by assumption) ?rest15x20
      case hy15x20 => intro w hSw; go_simp <;> with_reducible rfl
      simp only [Act.put, List.getElem_toArray, List.getElem_cons_zero, List.getElem_cons_succ, List.setIfInBounds_toArray, List.set_cons_zero, List.set_cons_succ]
      refine wpAnyH_take (i := 21) (v := ?v16x21) rfl (by kernel_rfl) (by kernel_rfl) (by kernel_rfl) (fun _ _ _ h => h) (Or.inl ⟨by rfl, ?hy16x21⟩) (by assumption) ?rest16x21
      case hy16x21 => intro w hSw; go_simp <;> with_reducible rfl
      simp only [Act.put, List.getElem_toArray, List.getElem_cons_zero, List.getElem_cons_succ, List.setIfInBounds_toArray, List.set_cons_zero, List.set_cons_succ]
      refine wpAnyH_done (by kernel_rfl) ?_ _
      go_wp2
      go_ret
      exact ⟨rfl, unhide HB4⟩
end Go.Proofs.Ytgehhoddmmjmjaa
