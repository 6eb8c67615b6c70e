/- Contracts of the smallest functions of package shape: must, magnitude, width and bits.Len64. -/
import Derived.Test.YthdghnppledakaaProg
import Derived.Test.YthdghnppledakaaMath
import Derived.WalkKit
import Derived.WalkSpells
import Derived.WalkLawsBesides
import Derived.Lib.BitFns
namespace Go.Proofs.Ythdghnppledakaa
open Go.RowKit

theorem ret_int {k : IntKind} {a b : Int} (h : a = b) : Ending.returned (.int k a) = .returned (.int k b) := by rw [h]

set_option maxHeartbeats 400000 in
theorem must_ok (er : Int) (w : World) :
    Calls Try.prog 47 #[.bool true, .int .i64 er] w fun e w' => e = .returned (.tuple #[]) ∧ w = w' := by
  go_enter Try.func47, Try.ntmps47
  go_wp2
  go_end0
  exact ⟨rfl, rfl⟩

set_option maxHeartbeats 400000 in
theorem must_no (er : Int) (w : World) :
    Calls Try.prog 47 #[.bool false, .int .i64 er] w fun e w' => e = .panicked [{ v := .iface 70 (.agg #[.int .i64 er]), recovered := false }] ∧ w = w' := by
  go_enter Try.func47, Try.ntmps47
  go_wp2
  exact ⟨rfl, rfl, rfl⟩

theorem mag_u64 (x : Int) (h : x < 0) (h2 : -9223372036854775808 ≤ x) : IntKind.u64.wrap (-IntKind.u64.wrap x) = mag x := by
  simp only [IntKind.wrap_u64, mag]; split <;> omega
set_option maxHeartbeats 400000 in
theorem mag_any (x : Int) (h1 : -9223372036854775808 ≤ x) (h2 : x ≤ 9223372036854775807) (w : World) :
    Calls Try.prog 36 #[.int .i64 x] w fun e w' => e = .returned (.int .u64 (mag x)) ∧ w = w' := by
  by_cases h : x < 0
  · go_enter Try.func36, Try.ntmps36
    go_wp2
    go_ret
    exact ⟨ret_int (mag_u64 x h h1), rfl⟩
  · go_enter Try.func36, Try.ntmps36
    go_wp2
    go_ret
    exact ⟨ret_int (by unfold mag; rw [if_neg (by omega)]), rfl⟩

theorem len8_fin : ∀ y : Fin 256, 0 ≤ Lib.len8 (y.val : Int) ∧ Lib.len8 (y.val : Int) ≤ 8 ∧ (y.val = 0 → Lib.len8 (y.val : Int) = 0) ∧ (y.val ≠ 0 → 1 ≤ Lib.len8 (y.val : Int)) := by decide +kernel
theorem len8_facts (y : Int) (h0 : 0 ≤ y) (h1 : y ≤ 255) : 0 ≤ Lib.len8 y ∧ Lib.len8 y ≤ 8 ∧ (y = 0 → Lib.len8 y = 0) ∧ (y ≠ 0 → 1 ≤ Lib.len8 y) := by
  have h := len8_fin ⟨y.toNat, by omega⟩
  simp only [Int.toNat_of_nonneg h0] at h
  exact ⟨h.1, h.2.1, fun e => h.2.2.1 (by omega), fun e => h.2.2.2 (by omega)⟩

theorem len8_get (y : Int) (h : y.toNat < Lib.len8tab.size) : ((Lib.len8tab[y.toNat]'h).toNat : Int) = Lib.len8 y := by
  unfold Lib.len8
  rw [getElem?_pos Lib.len8tab y.toNat h]
  rfl

theorem len_fin (x y : Int) (k : Nat) (h : y.toNat < Lib.len8tab.size) (h0 : 1 ≤ y) (h1 : y ≤ 255) (hk : k ≤ 7) (hw : wid x = k + 1) (c : Int) (hc : c = 8 * k) :
    0 ≤ wrap64 (c + wrap64 ↑(Lib.len8tab[y.toNat]'h).toNat) ∧ wrap64 (c + wrap64 ↑(Lib.len8tab[y.toNat]'h).toNat) ≤ 64 ∧ (wrap64 (c + wrap64 ↑(Lib.len8tab[y.toNat]'h).toNat) + 7) / 8 = ↑(wid x) := by
  obtain ⟨a, b, _, d⟩ := len8_facts y (by omega) h1
  have d' := d (by omega)
  rw [len8_get y h, hw]
  subst hc
  unfold wrap64
  omega

theorem len_fin0 (x : Int) (h : x.toNat < Lib.len8tab.size) (h0 : 0 ≤ x) (h1 : x ≤ 255) :
    0 ≤ wrap64 (wrap64 ↑(Lib.len8tab[x.toNat]'h).toNat) ∧ wrap64 (wrap64 ↑(Lib.len8tab[x.toNat]'h).toNat) ≤ 64 ∧ (wrap64 (wrap64 ↑(Lib.len8tab[x.toNat]'h).toNat) + 7) / 8 = ↑(wid x) := by
  obtain ⟨a, b, c, d⟩ := len8_facts x h0 h1
  have hw : wid x = if x < 1 then 0 else 1 := by unfold wid; split; rfl; rw [if_pos (by omega)]
  rw [len8_get x h, hw]
  unfold wrap64
  split
  · have := c (by omega); omega
  · have := d (by omega); omega

theorem wid_cut (x : Int) (k : Nat) (hk : k ≤ 7) (h1 : x < B256 (k + 1)) (h0 : B256 k ≤ x) : wid x = k + 1 := wid_of x k h1 h0 hk

set_option maxHeartbeats 4000000 in
set_option maxRecDepth 100000 in
theorem len_any (x : Int) (h1 : 0 ≤ x) (h2 : x ≤ 18446744073709551615) (w : World) :
    Calls Try.prog 49 #[.int .u64 x] w fun e w' => (∃ n : Int, e = .returned (.int .i64 n) ∧ 0 ≤ n ∧ n ≤ 64 ∧ (n + 7) / 8 = wid x) ∧ w = w' := by
  have hsz : (Lib.len8tab.size : Int) = 256 := by rw [Lib.len8tab_size]; rfl
  go_enter Try.func49, Try.ntmps49
  go_wp2
  all_goals (go_ret; refine ⟨⟨_, rfl, ?_⟩, rfl⟩)
  · exact len_fin x _ 7 _ (by omega) (by omega) (by omega) (wid_cut x 7 (by omega) (by simp only [B256]; omega) (by simp only [B256]; omega)) _ rfl
  · exact len_fin x _ 6 _ (by omega) (by omega) (by omega) (wid_cut x 6 (by omega) (by simp only [B256]; omega) (by simp only [B256]; omega)) _ rfl
  · exact len_fin x _ 5 _ (by omega) (by omega) (by omega) (wid_cut x 5 (by omega) (by simp only [B256]; omega) (by simp only [B256]; omega)) _ rfl
  · exact len_fin x _ 4 _ (by omega) (by omega) (by omega) (wid_cut x 4 (by omega) (by simp only [B256]; omega) (by simp only [B256]; omega)) _ rfl
  · exact len_fin x _ 3 _ (by omega) (by omega) (by omega) (wid_cut x 3 (by omega) (by simp only [B256]; omega) (by simp only [B256]; omega)) _ rfl
  · exact len_fin x _ 2 _ (by omega) (by omega) (by omega) (wid_cut x 2 (by omega) (by simp only [B256]; omega) (by simp only [B256]; omega)) _ rfl
  · exact len_fin x _ 1 _ (by omega) (by omega) (by omega) (wid_cut x 1 (by omega) (by simp only [B256]; omega) (by simp only [B256]; omega)) _ rfl
  · exact len_fin0 x _ h1 (by omega)

theorem quo8 (n : Int) (h0 : 0 ≤ n) (h1 : n ≤ 64) : (n + 7).tdiv 8 = (n + 7) / 8 := Int.tdiv_eq_ediv_of_nonneg (by omega)

set_option maxHeartbeats 400000 in
theorem wid_any (x : Int) (h1 : 0 ≤ x) (h2 : x ≤ 18446744073709551615) (w : World) :
    Calls Try.prog 35 #[.int .u64 x] w fun e w' => e = .returned (.int .i64 (wid x)) ∧ w = w' := by
  go_enter Try.func35, Try.ntmps35
  go_wp2_with (go_at_call 49; refine (len_any x h1 h2 _).mono ?_; rintro e w' ⟨⟨n, rfl, hn0, hn1, hn2⟩, rfl⟩; have HN : Hid ((n + 7) / 8 = wid x) := hn2; clear hn2)
  go_ret
  exact ⟨ret_int HN.out, rfl⟩

end Go.Proofs.Ythdghnppledakaa
