/- MatchNone: the walk. -/
import Derived.Test.YtgehhoddmmjmjaaLI
import Derived.Test.YtgehhoddmmjmjaaMM
namespace Go.Proofs.Ytgehhoddmmjmjaa
open Go.RowKit
set_option maxRecDepth 100000

theorem saw_nil {w : World} {b : Nat} (IB : IsB w b Bk.zero) : Calls Try.prog 20 #[It b, .slice none 0 0] w fun e w' => e = .returned (.bool true) ∧ Below w.heap.size w w' :=
  saw_any IB (by decide) (fun h => absurd h (by decide)) _ ⟨none, 0, 0, rfl, Nat.le_refl _, fun h => absurd h (by decide), fun t h => absurd h (by simp [lags, othU, Bk.zero])⟩

/-- Where the two that no call made stand. -/
def AtNo (W1 : World) (c : Value) (wr : World) : Prop := ∃ k : Nat, k ≤ 2 ∧ c = .int .i64 k ∧ Below W1.heap.size W1 wr

set_option maxHeartbeats 1600000 in
theorem none_walk (act who slot : Int) (w : World) :
    Calls Try.prog 7 #[.agg #[.int .i64 act, .int .i64 who, .int .i64 slot]] w fun e w' => e = .returned (.bool true) ∧ Below w.heap.size w w' := by
  obtain ⟨B, hB⟩ : ∃ B, w.alloc (.cells #[.int .i64 act, .int .i64 who, .int .i64 slot] 34) = B := ⟨_, rfl⟩
  have HB0 : Hid (Below w.heap.size w B) := by rw [← hB]; exact (Below.refl _ _).alloc (Nat.le_refl _) _
  have HSZ : Hid (B.heap.size = w.heap.size + 1) := by show _ = _; rw [← hB]; simp
  have HBX : Hid (∀ x, Below B.heap.size B x → x.cell? ⟨w.heap.size, 0, none⟩ = some (.int .i64 act) ∧ x.cell? ⟨w.heap.size, 1, none⟩ = some (.int .i64 who) ∧ x.cell? ⟨w.heap.size, 2, none⟩ = some (.int .i64 slot)) := fun x hx => box3 (by rw [hB, ← unhide HSZ]; exact hx)
  go_enter Try.func7, Try.ntmps7
  go_wp2_with (rw [hB])
  refine (begun_any B).mono ?_
  rintro e w1 ⟨rfl, hb1⟩
  have HB1 := hide hb1
  clear hb1
  obtain ⟨W1, hW1⟩ : ∃ W1, (w1.alloc (.cells #[.int .i64 0, .int .i64 0, .int .i64 0, .int .i64 0, .int .i64 0, .int .i64 0, .int .i64 0, .int .i64 0, .int .i64 0, .int .i64 0, .int .i64 0, .int .i64 0] 52)).alloc (.cells #[.pointer none, .pointer (some ⟨w1.heap.size, 0, none⟩)] 25) = W1 := ⟨_, rfl⟩
  have hsz : W1.heap.size = w1.heap.size + 2 := by rw [← hW1]; simp
  have bW : Below w1.heap.size w1 W1 := by rw [← hW1]; exact ((Below.refl _ _).alloc (Nat.le_refl _) _).alloc (by simp) _
  have HBW : Hid (Below B.heap.size B W1) := (unhide HB1).trans (bW.mono (unhide HB1).size)
  have HTWO : Hid (∀ k, k < 2 → ∃ v, (∀ w', Below W1.heap.size W1 w' → w'.cell? ⟨w1.heap.size + 1, k, none⟩ = some v) ∧ IsZero W1 v) := by
    have hz : IsB W1 w1.heap.size Bk.zero := by
      rw [← hW1]; exact (isB_new w1 _ Bk.zero rfl rfl).alloc _
    have hc : ∀ j, W1.cell? ⟨w1.heap.size + 1, j, none⟩ = (#[.pointer none, .pointer (some ⟨w1.heap.size, 0, none⟩)] : Array Value)[j]? := fun j => by
      rw [← hW1]
      have := World.cell?_alloc_mark (w1.alloc (.cells #[.int .i64 0, .int .i64 0, .int .i64 0, .int .i64 0, .int .i64 0, .int .i64 0, .int .i64 0, .int .i64 0, .int .i64 0, .int .i64 0, .int .i64 0, .int .i64 0] 52)) #[.pointer none, .pointer (some ⟨w1.heap.size, 0, none⟩)] 25 (0, 0) j
      rw [World.size_alloc] at this
      exact this
    intro k hk
    rcases (show k = 0 ∨ k = 1 by omega) with rfl | rfl
    · exact ⟨.pointer none, fun w' hb => (hb.cell (p := ⟨w1.heap.size + 1, 0, none⟩) (by show w1.heap.size + 1 < _; omega)).trans (hc 0), Or.inl rfl⟩
    · exact ⟨P0 w1.heap.size, fun w' hb => (hb.cell (p := ⟨w1.heap.size + 1, 1, none⟩) (by show w1.heap.size + 1 < _; omega)).trans (hc 1), Or.inr ⟨_, rfl, hz⟩⟩
  clear hsz bW
  go_wp2_with (rw [hW1])
  go_loopw [13] (fun c wr => AtNo W1 c wr) (fun c _ => 2 - (intOf c).toNat)
  case atStart => exact ⟨0, by omega, rfl, Below.refl _ _⟩
  case round =>
    obtain ⟨k, hk, rfl, hbr⟩ := hrel
    have HBR := hide hbr
    have HBr : Hid (Below B.heap.size B wr) := (unhide HBW).trans ((unhide HBR).mono (unhide HBW).size)
    have HC0 : Hid (∀ x, Below wr.heap.size wr x → Below W1.heap.size W1 x ∧ Below B.heap.size B x) := fun x hx => ⟨(unhide HBR).trans (hx.mono (unhide HBR).size), (unhide HBr).trans (hx.mono (unhide HBr).size)⟩
    by_cases hlt : k < 2
    · have hk0 : (0 : Int) ≤ (k : Int) := by omega
      have hk2 : (k : Int) < 2 := by omega
      obtain ⟨v, hv, hno⟩ := unhide HTWO k hlt
      have hv0 := hv wr hbr
      have HZ : Hid (∀ w', Below W1.heap.size W1 w' → IsZero w' v) := fun w' hb => hno.below hb
      have HZ0 := hide (unhide HZ wr hbr)
      obtain ⟨q0, q1, q2⟩ := unhide HBX wr (unhide HBr)
      clear hv hno hbr
      go_wp2_with fail
      refine (told_no (unhide HZ0).no who slot true).mono ?_
      rintro e wz ⟨rfl, rfl⟩
      go_wp2_with fail
      refine (grow_no (unhide HZ0).no slot).mono ?_
      rintro e wz ⟨rfl, rfl⟩
      go_wp2_with fail
      refine (sent_no (unhide HZ0).no who slot).mono ?_
      rintro e wz ⟨rfl, rfl⟩
      go_wp2_with fail
      refine (next_no (unhide HZ0).no who).mono ?_
      rintro e wz ⟨rfl, rfl⟩
      go_wp2_with fail
      refine (like_no (unhide HZ0).no who).mono ?_
      rintro e wz ⟨rfl, rfl⟩
      go_wp2_with fail
      refine (length_no (unhide HZ0).no).mono ?_
      rintro e wz ⟨rfl, rfl⟩
      go_wp2_with fail
      refine (agreed_no (unhide HZ0).no).mono ?_
      rintro e wz ⟨rfl, rfl⟩
      go_wp2_with fail
      refine (lagging_no (unhide HZ0)).mono ?_
      rintro e y5 ⟨rfl, I5, hb5⟩
      have HB5 := hide hb5
      have HI5 := hide I5
      clear hb5 I5
      go_wp2_with fail
      refine (saw_nil (unhide HI5)).mono ?_
      rintro e y6 ⟨rfl, hb6⟩
      have HB6 := hide ((unhide HB5).trans (hb6.mono (unhide HB5).size))
      clear hb6
      go_wp2_with fail
      refine (clone_no (unhide HZ _ (unhide HC0 _ (unhide HB6)).1).no).mono ?_
      rintro e wz ⟨rfl, rfl⟩
      go_wp2
      go_roundw
      case rel => exact ⟨k + 1, by omega, by go_num, (unhide HC0 _ (unhide HB6)).1⟩
      case measure => simp [intOf]; omega
    · have HEr : Hid (Below w.heap.size w wr) := (unhide HB0).trans ((unhide HBr).mono (unhide HB0).size)
      clear hbr
      go_wp2
      go_ret
      exact ⟨rfl, unhide HEr⟩
end Go.Proofs.Ytgehhoddmmjmjaa
