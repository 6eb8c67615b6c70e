/- live. -/
import Derived.Test.YtpadbbkklmgimaaR4
import Derived.Test.YtpadbbkklmgimaaI3
namespace Go.Proofs.Ytpadbbkklmgimaa
open Go.RowKit

theorem Vt.new_ok {n s : Nat} {t v : Int} (h0 : 1 ≤ n) (h1 : n ≤ 5) (h3 : s < n) (h4 : 0 ≤ t) (h5 : t ≤ 1099511627776) (h6 : -1 ≤ v) (h7 : v < n) : (Vt.new n s t v).Ok := ⟨h0, h1, h3, h4, h5, h6, h7⟩

abbrev L0 : Vt := Vt.new 3 0 4 (-1)
abbrev L1 : Vt := L0.stand
abbrev L2 : Vt := L1.setVt 1 true
theorem L0_ok : L0.Ok := Vt.new_ok (by decide) (by decide) (by decide) (by decide) (by decide) (by decide) (by decide)
theorem L1_ok : L1.Ok := L0_ok.stand (by decide)
theorem L2_ok : L2.Ok := L1_ok.setVt 1 true

theorem grant_any {h : Nat} {V : Vt} {w : World} (H : IsV w h V) (O : V.Ok) (who term xl xz len last : Int) :
    Calls Try.prog 16 #[P0 h, .agg #[.int .i64 who, .int .i64 term, .int .i64 xl, .int .i64 xz], .int .i64 len, .int .i64 last] w fun e w' => e = .returned (.bool (V.grants who term xl xz len last)) ∧ IsV w' h (V.grant who term xl xz len last) ∧ Upd (One h) w.heap.size w w' := by
  unfold Vt.grants Vt.grant
  cases hm : V.may who term
  · refine (grant_bad H O who term xl xz len last hm).mono fun e w' ⟨he, hb⟩ => ⟨he, ?_, Upd.of hb⟩
    rw [if_neg (by simp)]; exact H.below hb
  · rw [if_pos rfl, Bool.true_and]; exact grant_may H O who term xl xz len last hm

theorem rgrant_any {r b cap : Nat} {V : Vt} {w : World} (H : IsR w r b cap V) (O : V.Ok) (who term xl xz len last : Int) :
    Calls Try.prog 26 #[P0 r, .agg #[.int .i64 who, .int .i64 term, .int .i64 xl, .int .i64 xz], .int .i64 len, .int .i64 last] w fun e w' => e = .returned (.bool (V.grants who term xl xz len last)) ∧ HasR w' r b w.heap.size (V.grant who term xl xz len last) ∧ Upd (One r) w.heap.size w w' := by
  unfold Vt.grants Vt.grant
  cases hm : V.may who term
  · refine (rgrant_bad H O who term xl xz len last hm).mono fun e w' ⟨he, hb⟩ => ⟨he, ?_, Upd.of hb⟩
    rw [if_neg (by simp)]; exact ⟨b, cap, H.below O.pos hb, Or.inl rfl⟩
  · rw [if_pos rfl, Bool.true_and]; exact rgrant_may H O who term xl xz len last hm

set_option maxHeartbeats 400000 in
theorem grant_no {v : Value} {w : World} (H : IsNo w v) (who term xl xz len last : Int) :
    Calls Try.prog 16 #[v, .agg #[.int .i64 who, .int .i64 term, .int .i64 xl, .int .i64 xz], .int .i64 len, .int .i64 last] w fun e w' => e = .returned (.bool false) ∧ Below w.heap.size w w' := by
  have HA := hide (another_no (H.below ((Below.refl _ _).alloc (Nat.le_refl _) (.cells #[.int .i64 who, .int .i64 term, .int .i64 xl, .int .i64 xz] 36))) who)
  clear H
  go_enter Try.func16, Try.ntmps16
  go_wp2_with (first
    | (go_at_call 33; refine (unhide HA).mono ?_; rintro e w' ⟨rfl, rfl⟩))
  go_ret
  exact ⟨rfl, (Below.refl _ _).alloc (Nat.le_refl _) _⟩

set_option maxHeartbeats 800000 in
theorem live_any (w : World) : Calls Try.prog 8 #[] w fun e w' => e = .returned (.bool true) ∧ Below w.heap.size w w' := by
  go_enter Try.func8, Try.ntmps8
  go_wp2_with fail
  refine (new_ok w 3 0 4 (-1) (by decide) (by decide) (by decide) (by decide) (by decide) (by decide) (by decide)).mono ?_
  rintro e w1 ⟨rfl, I1, b1⟩
  have U1 : Upd (One (w.heap.size + 1)) w.heap.size w w1 := Upd.of b1
  have HI1 := hide I1; have HU1 := hide U1
  clear I1 b1 U1
  go_wp2_with fail
  refine (stand_ok (unhide HI1) L0_ok (by decide)).mono ?_
  rintro e w2 ⟨rfl, I2, U2⟩
  have HI2 : Hid (IsV w2 (w.heap.size + 1) L1) := I2
  have HU2 := hide ((unhide HU1).trans (U2.less (unhide HU1).size))
  clear I2 U2
  go_wp2_with fail
  refine (term_yes (unhide HI2) L1_ok).mono ?_
  rintro e wq ⟨rfl, rfl⟩
  have hte : L1.term = 5 := by decide
  rw [hte]
  go_wp2_with fail
  refine (count_is (unhide HI2) L1_ok 1 5 true (by decide)).mono ?_
  rintro e w3 ⟨rfl, I3, U3⟩
  have HI3 : Hid (IsV w3 (w.heap.size + 1) L2) := I3
  have HU3 := hide ((unhide HU2).trans (U3.less (unhide HU2).size))
  have hwn : (!L1.won && (L1.setVt (Int.toNat 1) true).won) = true := by decide
  clear I3 U3
  rw [hwn]
  go_wp2_with fail
  refine (won_any (unhide HI3) L2_ok).mono ?_
  rintro e w4 ⟨rfl, b4⟩
  have hw4 : L2.won = true := by decide
  rw [hw4]
  have HI4 := hide ((unhide HI3).below b4)
  have HU4 := hide ((unhide HU3).trans ((Upd.of b4).less (unhide HU3).size))
  clear b4
  go_wp2_with fail
  refine (grant_any (unhide HI4) L2_ok 2 5 0 0 0 0).mono ?_
  rintro e w5 ⟨rfl, I5, U5⟩
  have hg5 : L2.grants 2 5 0 0 0 0 = false := by decide
  rw [hg5]
  have HI5 := hide I5
  have HU5 := hide ((unhide HU4).trans (U5.less (unhide HU4).size))
  clear I5 U5
  go_wp2_with fail
  refine (grant_any (unhide HI5) (L2_ok.grant _ _ _ _ _ _) 2 6 9 5 9 5).mono ?_
  rintro e w6 ⟨rfl, I6, U6⟩
  have hg6 : (L2.grant 2 5 0 0 0 0).grants 2 6 9 5 9 5 = true := by decide
  rw [hg6]
  have HU6 := hide ((unhide HU5).trans (U6.less (unhide HU5).size))
  clear I6 U6
  go_wp2
  go_ret
  exact ⟨rfl, (unhide HU6).below (Nat.le_refl _) (fun k hk h => by have : k = w.heap.size + 1 := h; omega)⟩
end Go.Proofs.Ytpadbbkklmgimaa
