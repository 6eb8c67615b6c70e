/- MatchDoes: the walk. -/
import Derived.Test.YtgehhoddmmjmjaaD2
namespace Go.Proofs.Ytgehhoddmmjmjaa
open Go.RowKit
set_option maxRecDepth 100000

set_option maxHeartbeats 800000 in
theorem does_arg (n s l : Int) (sv : Value) (w : World) (h : okNew n s l = false) :
    Calls Try.prog 3 #[.agg #[.int .i64 n, .int .i64 s], .int .i64 l, sv] w fun e w' => e = .returned (.bool true) ∧ Below w.heap.size w w' := by
  obtain ⟨B, hB⟩ : ∃ B, bx w n s = B := ⟨_, rfl⟩
  have HBX : Hid (∀ x, Below (w.heap.size + 1) B x → x.cell? ⟨w.heap.size, 0, none⟩ = some (.int .i64 n) ∧ x.cell? ⟨w.heap.size, 1, none⟩ = some (.int .i64 s)) := fun x hx => box2b (by rw [← hB] at hx; exact hx)
  obtain ⟨q0, q1⟩ := unhide HBX B (Below.refl _ _)
  have HB0 : Hid (Below w.heap.size w B) := by rw [← hB]; exact bx_below w n s
  have HSZ : Hid (B.heap.size = w.heap.size + 1) := by show _ = _; rw [← hB]; exact bx_size w n s
  go_enter Try.func3, Try.ntmps3
  go_wp2_with (rw [hB])
  refine (new_arg B n s l h).mono ?_
  rintro e w1 ⟨rfl, hb1⟩
  have HB1 := hide ((unhide HB0).trans (hb1.mono (unhide HB0).size))
  clear q0 q1
  obtain ⟨q0, q1⟩ := unhide HBX w1 (by rw [← unhide HSZ]; exact hb1)
  clear hb1
  go_wp2_with fail
  refine (rnew_arg w1 n s l h).mono ?_
  rintro e w2 ⟨rfl, hb2⟩
  have HB2 := hide ((unhide HB1).trans (hb2.mono (unhide HB1).size))
  clear hb2 q0 q1
  go_wp2_with fail
  refine (begun_any w2).mono ?_
  rintro e w3 ⟨rfl, hb3⟩
  have HB3 := hide ((unhide HB2).trans (hb3.mono (unhide HB2).size))
  clear hb3
  go_wp2
  go_ret
  exact ⟨rfl, unhide HB3⟩

/-- Where the script stands. -/
def AtDo (w : World) (n s m r b cb d cd : Nat) (v c : Value) (wr : World) : Prop :=
  ∃ (t h : Nat) (B : Bk), t ≤ m ∧ c = .int .i64 t ∧ v = P0 h ∧ Jb wr (w.heap.size + 1) h r b cb d cd B ∧ Below (w.heap.size + 1) (bx w n s) wr

set_option maxHeartbeats 1600000 in
theorem does_ok (n s : Nat) (l : Int) (h0 : 1 ≤ n) (h1 : n ≤ 5) (h3 : s < n) (h4 : 0 ≤ l) (h5 : l ≤ 1099511627776) (sv : Value) (m : Nat) (os : Nat → OpV) (w : World) (hs : SeesOps w sv m os) :
    Calls Try.prog 3 #[.agg #[.int .i64 n, .int .i64 s], .int .i64 l, sv] w fun e w' => e = .returned (.bool true) ∧ Below w.heap.size w w' := by
  obtain ⟨B, hB⟩ : ∃ B, bx w n s = B := ⟨_, rfl⟩
  have HSZ : Hid (B.heap.size = w.heap.size + 1) := by show _ = _; rw [← hB]; exact bx_size w n s
  have HBX : Hid (∀ x, Below (w.heap.size + 1) (bx w n s) x → x.cell? ⟨w.heap.size, 0, none⟩ = some (.int .i64 n) ∧ x.cell? ⟨w.heap.size, 1, none⟩ = some (.int .i64 s)) := fun x hx => box2b hx
  have HS : Hid (∀ w', Below (w.heap.size + 1) (bx w n s) w' → SeesOps w' sv m os ∧ Below w.heap.size w w') := fun w' hb => by
    have := (bx_below w n s).trans (hb.mono (by omega)); exact ⟨hs.below this, this⟩
  obtain ⟨ao, cap0, _, _, rfl, hcap, hmax, _⟩ := id hs
  obtain ⟨q0, q1⟩ := unhide HBX B (by rw [hB]; exact Below.refl _ _)
  clear hs
  go_enter Try.func3, Try.ntmps3
  go_wp2_with (rw [hB])
  refine (new_ok B n s l h0 h1 h3 h4 h5).mono ?_
  rintro e w1 ⟨rfl, I1, hb1⟩
  clear q0 q1
  have hbx1 : Below (w.heap.size + 1) (bx w n s) w1 := by rw [hB, ← unhide HSZ]; exact hb1
  obtain ⟨q0, q1⟩ := unhide HBX w1 hbx1
  have HI1 := hide I1
  have HL1 := hide hbx1
  clear hb1 I1 hbx1
  go_wp2_with fail
  refine (rnew_ok w1 n s l h0 h1 h3 h4 h5).mono ?_
  rintro e w2 ⟨rfl, ⟨b, cb, d, cd, R2, hb, hd⟩, hb2⟩
  have HJ2 : Hid (Jb w2 (w.heap.size + 1) (B.heap.size + 1) (w1.heap.size + 1) b cb d cd (Bk.new n s l)) := by
    have := unhide HSZ
    have l1 := (unhide HI1).lt
    exact ⟨Bk.new_ok h0 h1 h3 h4 h5, (unhide HI1).below hb2, R2, by omega, by omega, by omega, by omega, by omega, by omega, by omega⟩
  have HL2 := hide ((unhide HL1).trans (hb2.mono (by have := (unhide HL1).size; simp at this; omega)))
  clear hb2 R2 q0 q1 HI1 HL1
  go_wp2_with fail
  refine (begun_any w2).mono ?_
  rintro e w3 ⟨rfl, hb3⟩
  have HJ3 := hide ((unhide HJ2).below hb3)
  have HL3 := hide ((unhide HL2).trans (hb3.mono (by have := (unhide HL2).size; simp at this; omega)))
  clear hb3 HJ2 HL2 hb hd
  generalize B.heap.size + 1 = ph at HJ3 ⊢
  generalize w1.heap.size + 1 = pr at HJ3 ⊢
  go_wp2
  go_loopw [7, 44] (fun v c wr => AtDo w n s m pr b cb d cd v c wr) (fun _ c _ => m - (intOf c).toNat)
  case atStart => exact ⟨0, ph, _, Nat.zero_le _, rfl, rfl, unhide HJ3, unhide HL3⟩
  case round =>
    clear HJ3 HL3
    obtain ⟨t, h, Bk', ht, rfl, rfl, J, hE⟩ := hrel
    by_cases hlt : t < m
    · obtain ⟨⟨ao', cap', gb, ob, hv, _, _, hao, hcl⟩, _⟩ := unhide HS wr hE
      simp only [Value.slice.injEq, true_and] at hv
      obtain ⟨rfl, rfl⟩ := hv
      obtain rfl := hao (by omega)
      obtain ⟨q, hq⟩ : ∃ q, os t = q := ⟨_, rfl⟩
      have hc := hcl t hlt
      rw [hq] at hc
      obtain ⟨act, who, slot⟩ := q
      have c0 : wr.cell? ⟨gb, ob + t * 3, none⟩ = some (.int .i64 act) := hc 0 (by decide)
      have c1 : wr.cell? ⟨gb, ob + t * 3 + 1, none⟩ = some (.int .i64 who) := hc 1 (by decide)
      have c2 : wr.cell? ⟨gb, ob + t * 3 + 2, none⟩ = some (.int .i64 slot) := hc 2 (by decide)
      clear hcl hao hq hc
      obtain ⟨X, hX⟩ : ∃ X, wr.alloc (.cells #[.int .i64 act, .int .i64 who, .int .i64 slot] 34) = X := ⟨_, rfl⟩
      have bX : Below wr.heap.size wr X := by rw [← hX]; exact (Below.refl _ _).alloc (Nat.le_refl _) _
      obtain ⟨d0, d1, d2⟩ := box3 (w := wr) (x := X) (by rw [← hX]; exact Below.refl _ _)
      have HE1 := hide (hE.trans (bX.mono (by have := hE.size; simp at this; omega)))
      have HST := hide (step_any (J.below bX) (by have := (unhide HE1).size; simp at this; exact this) act who slot)
      have HJ := hide (J.below bX)
      clear J hE bX
      go_wp2_with (rw [hX])
      refine (unhide HST).mono ?_
      rintro e y1 ⟨h', B', rfl, J1, u1⟩
      have HJ1 := hide J1
      have HE2 : Hid (Below (w.heap.size + 1) (bx w n s) y1) := (unhide HE1).trans (u1.below (by have := (unhide HE1).size; simp at this; exact this) (fun k hk c => by
        have j := unhide HJ
        have := j.nh; have := j.nr; have := j.nb; have := j.nd
        rcases c with c | c | c | c <;> omega))
      clear J1 u1 d0 d1 d2
      go_wp2_with fail
      refine (equal_any (unhide HJ1)).mono ?_
      rintro e y2 ⟨rfl, b2⟩
      have HX : Hid (AtDo w n s m pr b cb d cd (P0 h') (.int .i64 ((t : Int) + 1)) y2) := ⟨t + 1, h', B', by omega, by simp, rfl, (unhide HJ1).below b2, (unhide HE2).trans (b2.mono (by have := (unhide HE2).size; simp at this; omega))⟩
      clear b2
      go_wp2
      go_roundw
      case rel => exact unhide HX
      case measure => simp [intOf]; omega
    · have HJ := hide J
      have HE := hide hE
      clear J hE
      go_wp2_with fail
      refine (equal_any (unhide HJ)).mono ?_
      rintro e y2 ⟨rfl, b2⟩
      have HF := hide ((unhide HS y2 ((unhide HE).trans (b2.mono (by have := (unhide HE).size; simp at this; omega)))).2)
      clear b2
      go_wp2
      go_ret
      exact ⟨rfl, unhide HF⟩
end Go.Proofs.Ytgehhoddmmjmjaa
