/- Contracts of Size, putLow, copied, putNums. -/
import Derived.Test.YtggllgimlfchhaaGreatKK
namespace Go.Proofs.YtggllgimlfchhaaGreat
open Go.RowKit
set_option maxRecDepth 100000

/-- How many bytes numbers have in all. -/
def sizeL : List Int → Nat
  | [] => 0
  | x :: r => 1 + wid (mag x) + sizeL r

theorem sizeL_append (a b : List Int) : sizeL (a ++ b) = sizeL a + sizeL b := by
  induction a with
  | nil => simp [sizeL]
  | cons x r ih => simp only [List.cons_append, sizeL, ih]; omega
theorem sizeL_le (l : List Int) : sizeL l ≤ 9 * l.length := by
  induction l with
  | nil => simp [sizeL]
  | cons x r ih => have := wid_le (mag x); simp only [sizeL, List.length_cons]; omega
theorem take_snoc (l : List Int) (k : Nat) (h : k < l.length) : l.take (k + 1) = l.take k ++ [l.getD k 0] := by
  rw [List.take_succ_eq_append_getElem h]; simp [List.getD, h]
theorem sizeL_take (l : List Int) (k : Nat) (h : k < l.length) : sizeL (l.take (k + 1)) = sizeL (l.take k) + (1 + wid (mag (l.getD k 0))) := by
  rw [take_snoc l k h, sizeL_append]; simp [sizeL]

theorem mag_bounds (x : Int) (h1 : -9223372036854775808 ≤ x) (h2 : x ≤ 9223372036854775807) : 0 ≤ mag x ∧ mag x ≤ 9223372036854775808 := by
  unfold mag; split <;> omega

set_option maxHeartbeats 400000 in
theorem size_any (a : Addr) (l : List Int) (cap : Nat) (w : World) (hl : l.length ≤ 140737488351232) (hb : ∀ t, t < l.length → -9223372036854775808 ≤ l.getD t 0 ∧ l.getD t 0 ≤ 9223372036854775807)
    (hc : ∀ t, t < l.length → w.cell? (a.add t) = some (.int .i64 (l.getD t 0))) :
    Calls Tryz.prog 130 #[.slice (some a) l.length cap] w fun e w' => e = .returned (.int .i64 (sizeL l)) ∧ w = w' := by
  go_enter Tryz.func130, Tryz.ntmps130
  go_wp2
  go_loop [3, 8] (fun n i => ∃ k : Nat, k ≤ l.length ∧ i = .int .i64 k ∧ n = .int .i64 (sizeL (l.take k))) (fun _ i => l.length - (intOf i).toNat)
  case atStart => exact ⟨0, Nat.zero_le _, rfl, rfl⟩
  case round =>
    obtain ⟨k, hk, rfl, rfl⟩ := hrel
    have hs := sizeL_le (l.take k)
    have hs2 : (l.take k).length ≤ k := List.length_take_le _ _
    by_cases hlt : k < l.length
    · have hck := hc k hlt
      obtain ⟨hb1, hb2⟩ := hb k hlt
      have hst : Hid (sizeL (l.take (k + 1)) = sizeL (l.take k) + (1 + wid (mag (l.getD k 0)))) := sizeL_take l k hlt
      have hw8 := wid_le (mag (l.getD k 0))
      obtain ⟨hm1, hm2⟩ := mag_bounds _ hb1 hb2
      generalize l.getD k 0 = x at *
      clear hc hb
      go_wp2_with (first | (go_at_call 154; refine (mag_any _ hb1 hb2 _).mono ?_; rintro e w' ⟨rfl, rfl⟩) | (go_at_call 155; refine (wid_any _ hm1 (by omega) _).mono ?_; rintro e w' ⟨rfl, rfl⟩))
      go_round
      case rel => exact ⟨k + 1, by omega, by go_num, by rw [hst.out]; go_num⟩
      case measure => simp [intOf]; omega
    · go_wp2
      go_ret
      exact ⟨ret_int (by rw [List.take_of_length_le (by omega)]), rfl⟩

end Go.Proofs.YtggllgimlfchhaaGreat
