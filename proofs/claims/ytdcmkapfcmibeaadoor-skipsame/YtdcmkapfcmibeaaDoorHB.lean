/- Several texts as one. -/
import Derived.Test.YtdcmkapfcmibeaaDoorProg
import Derived.Test.YtdcmkapfcmibeaaDoorHA
import Derived.WalkKit
import Derived.WalkSpells
import Derived.WalkLawsBesides
import Derived.Lib.BitFns

/- Contracts of the smallest functions of package shape: must, magnitude, width and bits.Len64. -/
namespace Go.Proofs.YtdcmkapfcmibeaaDoor.Sh
open Go.RowKit
set_option maxRecDepth 100000

theorem ret_int {k : IntKind} {a b : Int} (h : a = b) : Ending.returned (.int k a) = .returned (.int k b) := by rw [h]

set_option maxHeartbeats 400000 in
theorem must_ok (er : Int) (w : World) :
    Calls Tryd.prog 95 #[.bool true, .int .i64 er] w fun e w' => e = .returned (.tuple #[]) ∧ w = w' := by
  go_enter Tryd.func95, Tryd.ntmps95
  go_wp2
  go_end0
  exact ⟨rfl, rfl⟩

set_option maxHeartbeats 400000 in
theorem must_no (er : Int) (w : World) :
    Calls Tryd.prog 95 #[.bool false, .int .i64 er] w fun e w' => e = .panicked [{ v := .iface 142 (.agg #[.int .i64 er]), recovered := false }] ∧ w = w' := by
  go_enter Tryd.func95, Tryd.ntmps95
  go_wp2
  exact ⟨rfl, rfl, rfl⟩

theorem mag_u64 (x : Int) (h : x < 0) (h2 : -9223372036854775808 ≤ x) : IntKind.u64.wrap (-IntKind.u64.wrap x) = mag x := by
  simp only [IntKind.wrap_u64, mag]; split <;> omega
set_option maxHeartbeats 400000 in
theorem mag_any (x : Int) (h1 : -9223372036854775808 ≤ x) (h2 : x ≤ 9223372036854775807) (w : World) :
    Calls Tryd.prog 85 #[.int .i64 x] w fun e w' => e = .returned (.int .u64 (mag x)) ∧ w = w' := by
  by_cases h : x < 0
  · go_enter Tryd.func85, Tryd.ntmps85
    go_wp2
    go_ret
    exact ⟨ret_int (mag_u64 x h h1), rfl⟩
  · go_enter Tryd.func85, Tryd.ntmps85
    go_wp2
    go_ret
    exact ⟨ret_int (by unfold mag; rw [if_neg (by omega)]), rfl⟩

theorem len8_fin : ∀ y : Fin 256, 0 ≤ Lib.len8 (y.val : Int) ∧ Lib.len8 (y.val : Int) ≤ 8 ∧ (y.val = 0 → Lib.len8 (y.val : Int) = 0) ∧ (y.val ≠ 0 → 1 ≤ Lib.len8 (y.val : Int)) := by decide +kernel
theorem len8_facts (y : Int) (h0 : 0 ≤ y) (h1 : y ≤ 255) : 0 ≤ Lib.len8 y ∧ Lib.len8 y ≤ 8 ∧ (y = 0 → Lib.len8 y = 0) ∧ (y ≠ 0 → 1 ≤ Lib.len8 y) := by
  have h := len8_fin ⟨y.toNat, by omega⟩
  simp only [Int.toNat_of_nonneg h0] at h
  exact ⟨h.1, h.2.1, fun e => h.2.2.1 (by omega), fun e => h.2.2.2 (by omega)⟩

theorem len8_get (y : Int) (h : y.toNat < Lib.len8tab.size) : ((Lib.len8tab[y.toNat]'h).toNat : Int) = Lib.len8 y := by
  unfold Lib.len8
  rw [getElem?_pos Lib.len8tab y.toNat h]
  rfl

theorem len_fin (x y : Int) (k : Nat) (h : y.toNat < Lib.len8tab.size) (h0 : 1 ≤ y) (h1 : y ≤ 255) (hk : k ≤ 7) (hw : wid x = k + 1) (c : Int) (hc : c = 8 * k) :
    0 ≤ wrap64 (c + wrap64 ↑(Lib.len8tab[y.toNat]'h).toNat) ∧ wrap64 (c + wrap64 ↑(Lib.len8tab[y.toNat]'h).toNat) ≤ 64 ∧ (wrap64 (c + wrap64 ↑(Lib.len8tab[y.toNat]'h).toNat) + 7) / 8 = ↑(wid x) := by
  obtain ⟨a, b, _, d⟩ := len8_facts y (by omega) h1
  have d' := d (by omega)
  rw [len8_get y h, hw]
  subst hc
  unfold wrap64
  omega

theorem len_fin0 (x : Int) (h : x.toNat < Lib.len8tab.size) (h0 : 0 ≤ x) (h1 : x ≤ 255) :
    0 ≤ wrap64 (wrap64 ↑(Lib.len8tab[x.toNat]'h).toNat) ∧ wrap64 (wrap64 ↑(Lib.len8tab[x.toNat]'h).toNat) ≤ 64 ∧ (wrap64 (wrap64 ↑(Lib.len8tab[x.toNat]'h).toNat) + 7) / 8 = ↑(wid x) := by
  obtain ⟨a, b, c, d⟩ := len8_facts x h0 h1
  have hw : wid x = if x < 1 then 0 else 1 := by unfold wid; split; rfl; rw [if_pos (by omega)]
  rw [len8_get x h, hw]
  unfold wrap64
  split
  · have := c (by omega); omega
  · have := d (by omega); omega

theorem wid_cut (x : Int) (k : Nat) (hk : k ≤ 7) (h1 : x < B256 (k + 1)) (h0 : B256 k ≤ x) : wid x = k + 1 := wid_of x k h1 h0 hk

set_option maxHeartbeats 4000000 in
set_option maxRecDepth 100000 in
theorem len_any (x : Int) (h1 : 0 ≤ x) (h2 : x ≤ 18446744073709551615) (w : World) :
    Calls Tryd.prog 92 #[.int .u64 x] w fun e w' => (∃ n : Int, e = .returned (.int .i64 n) ∧ 0 ≤ n ∧ n ≤ 64 ∧ (n + 7) / 8 = wid x) ∧ w = w' := by
  have hsz : (Lib.len8tab.size : Int) = 256 := by rw [Lib.len8tab_size]; rfl
  go_enter Tryd.func92, Tryd.ntmps92
  go_wp2
  all_goals (go_ret; refine ⟨⟨_, rfl, ?_⟩, rfl⟩)
  · exact len_fin x _ 7 _ (by omega) (by omega) (by omega) (wid_cut x 7 (by omega) (by simp only [B256]; omega) (by simp only [B256]; omega)) _ rfl
  · exact len_fin x _ 6 _ (by omega) (by omega) (by omega) (wid_cut x 6 (by omega) (by simp only [B256]; omega) (by simp only [B256]; omega)) _ rfl
  · exact len_fin x _ 5 _ (by omega) (by omega) (by omega) (wid_cut x 5 (by omega) (by simp only [B256]; omega) (by simp only [B256]; omega)) _ rfl
  · exact len_fin x _ 4 _ (by omega) (by omega) (by omega) (wid_cut x 4 (by omega) (by simp only [B256]; omega) (by simp only [B256]; omega)) _ rfl
  · exact len_fin x _ 3 _ (by omega) (by omega) (by omega) (wid_cut x 3 (by omega) (by simp only [B256]; omega) (by simp only [B256]; omega)) _ rfl
  · exact len_fin x _ 2 _ (by omega) (by omega) (by omega) (wid_cut x 2 (by omega) (by simp only [B256]; omega) (by simp only [B256]; omega)) _ rfl
  · exact len_fin x _ 1 _ (by omega) (by omega) (by omega) (wid_cut x 1 (by omega) (by simp only [B256]; omega) (by simp only [B256]; omega)) _ rfl
  · exact len_fin0 x _ h1 (by omega)

theorem quo8 (n : Int) (h0 : 0 ≤ n) (h1 : n ≤ 64) : (n + 7).tdiv 8 = (n + 7) / 8 := Int.tdiv_eq_ediv_of_nonneg (by omega)

set_option maxHeartbeats 400000 in
theorem wid_any (x : Int) (h1 : 0 ≤ x) (h2 : x ≤ 18446744073709551615) (w : World) :
    Calls Tryd.prog 86 #[.int .u64 x] w fun e w' => e = .returned (.int .i64 (wid x)) ∧ w = w' := by
  go_enter Tryd.func86, Tryd.ntmps86
  go_wp2_with (go_at_call 92; refine (len_any x h1 h2 _).mono ?_; rintro e w' ⟨⟨n, rfl, hn0, hn1, hn2⟩, rfl⟩; have HN : Hid ((n + 7) / 8 = wid x) := hn2; clear hn2)
  go_ret
  exact ⟨ret_int HN.out, rfl⟩

end Go.Proofs.YtdcmkapfcmibeaaDoor.Sh

/- Contracts of Size, putLow, copied, putNums. -/
namespace Go.Proofs.YtdcmkapfcmibeaaDoor.Sh
open Go.RowKit
set_option maxRecDepth 100000

/-- How many bytes numbers have in all. -/
def sizeL : List Int → Nat
  | [] => 0
  | x :: r => 1 + wid (mag x) + sizeL r

theorem sizeL_append (a b : List Int) : sizeL (a ++ b) = sizeL a + sizeL b := by
  induction a with
  | nil => simp [sizeL]
  | cons x r ih => simp only [List.cons_append, sizeL, ih]; omega
theorem sizeL_le (l : List Int) : sizeL l ≤ 9 * l.length := by
  induction l with
  | nil => simp [sizeL]
  | cons x r ih => have := wid_le (mag x); simp only [sizeL, List.length_cons]; omega
theorem take_snoc (l : List Int) (k : Nat) (h : k < l.length) : l.take (k + 1) = l.take k ++ [l.getD k 0] := by
  rw [List.take_succ_eq_append_getElem h]; simp [List.getD, h]
theorem sizeL_take (l : List Int) (k : Nat) (h : k < l.length) : sizeL (l.take (k + 1)) = sizeL (l.take k) + (1 + wid (mag (l.getD k 0))) := by
  rw [take_snoc l k h, sizeL_append]; simp [sizeL]

theorem mag_bounds (x : Int) (h1 : -9223372036854775808 ≤ x) (h2 : x ≤ 9223372036854775807) : 0 ≤ mag x ∧ mag x ≤ 9223372036854775808 := by
  unfold mag; split <;> omega

set_option maxHeartbeats 400000 in
theorem size_any (a : Addr) (l : List Int) (cap : Nat) (w : World) (hl : l.length ≤ 140737488351232) (hb : ∀ t, t < l.length → -9223372036854775808 ≤ l.getD t 0 ∧ l.getD t 0 ≤ 9223372036854775807)
    (hc : ∀ t, t < l.length → w.cell? (a.add t) = some (.int .i64 (l.getD t 0))) :
    Calls Tryd.prog 77 #[.slice (some a) l.length cap] w fun e w' => e = .returned (.int .i64 (sizeL l)) ∧ w = w' := by
  go_enter Tryd.func77, Tryd.ntmps77
  go_wp2
  go_loop [3, 8] (fun n i => ∃ k : Nat, k ≤ l.length ∧ i = .int .i64 k ∧ n = .int .i64 (sizeL (l.take k))) (fun _ i => l.length - (intOf i).toNat)
  case atStart => exact ⟨0, Nat.zero_le _, rfl, rfl⟩
  case round =>
    obtain ⟨k, hk, rfl, rfl⟩ := hrel
    have hs := sizeL_le (l.take k)
    have hs2 : (l.take k).length ≤ k := List.length_take_le _ _
    by_cases hlt : k < l.length
    · have hck := hc k hlt
      obtain ⟨hb1, hb2⟩ := hb k hlt
      have hst : Hid (sizeL (l.take (k + 1)) = sizeL (l.take k) + (1 + wid (mag (l.getD k 0)))) := sizeL_take l k hlt
      have hw8 := wid_le (mag (l.getD k 0))
      obtain ⟨hm1, hm2⟩ := mag_bounds _ hb1 hb2
      generalize l.getD k 0 = x at *
      clear hc hb
      go_wp2_with (first | (go_at_call 85; refine (mag_any _ hb1 hb2 _).mono ?_; rintro e w' ⟨rfl, rfl⟩) | (go_at_call 86; refine (wid_any _ hm1 (by omega) _).mono ?_; rintro e w' ⟨rfl, rfl⟩))
      go_round
      case rel => exact ⟨k + 1, by omega, by go_num, by rw [hst.out]; go_num⟩
      case measure => simp [intOf]; omega
    · go_wp2
      go_ret
      exact ⟨ret_int (by rw [List.take_of_length_le (by omega)]), rfl⟩

end Go.Proofs.YtdcmkapfcmibeaaDoor.Sh

/- Contracts of putLow, copied, putNums. -/
namespace Go.Proofs.YtdcmkapfcmibeaaDoor.Sh
open Go.RowKit
set_option maxRecDepth 100000

theorem Tryd.info5 : (Tryd.prog.info? 5).map (fun i => (i.zero, i.size, i.bytes)) = some (some (.int .u8 0), 1, 1) := by kernel_rfl

set_option maxHeartbeats 800000 in
theorem putLow_any (base : Nat) (v : Value) (n : Nat) (xs : List Int) (u : Int) (k : Nat) (w : World) (hu : 0 ≤ u) (hk : k ≤ 8) (hn : n + 8 ≤ 140737488355328)
    (hown : w.ownsRow base 5 1 v n (ints .u8 xs)) (hbase : base ≤ w.heap.size) :
    Calls Tryd.prog 87 #[v, .int .u64 u, .int .i64 k] w fun e w' => ∃ v', e = .returned v' ∧ w'.ownsRow base 5 1 v' (n + k) (ints .u8 (xs ++ lowL k u)) ∧ Keeps base w w' := by
  obtain ⟨i0, hi, hz0, hz1, hz2⟩ := info_parts Tryd.info5
  go_enter Tryd.func87, Tryd.ntmps87
  go_wp2
  go_loopw [0, 1, 8] (fun vb vu vi wr => ∃ j : Nat, j ≤ k ∧ vi = .int .i64 j ∧ vu = .int .u64 (sh j u) ∧ wr.ownsRow base 5 1 vb (n + j) (ints .u8 (xs ++ lowL j u)) ∧ Keeps base w wr)
    (fun _ _ vi _ => k - (intOf vi).toNat)
  case atStart => exact ⟨0, Nat.zero_le _, rfl, rfl, by simpa [lowL] using hown, Keeps.refl _ _⟩
  case round =>
    obtain ⟨j, hj, rfl, rfl, hownr, hnx⟩ := hrel
    have hs0 := sh_nonneg j u hu
    have hs1 := sh_le j u hu
    have hsz := hnx.below.size
    by_cases hlt : j < k
    · go_wp2_with (at_builtin; refine wpList_append_own _ rfl _ _ 39 rfl base 5 i0 (.int .u8 0) 1 1 Tryd.underlying39 hi hz0 hz1 hz2 rfl (by decide) _ _ _ rfl (hownr.alloc _) ⟨wr.heap.size, 0, none⟩ 1 1 [.int .u8 (sh j u % 256)] rfl rfl ?c1 ?c2 ?c3 ?c4 ?c5 ?_)
      case c1 => exact cell_one_new _ _ _
      case c2 => intro x hx; simp at hx; subst hx; rfl
      case c3 => unfold maxLen; omega
      case c4 => omega
      case c5 => simp; omega
      intro v' w1 hown' hgrow _
      have hb1 : Keeps base w w1 := (hnx.alloc (by omega) _).grown (hownr.alloc _) hgrow (by simp; omega)
      have ho2 : w1.ownsRow base 5 1 v' (n + (j + 1)) (ints .u8 (xs ++ lowL (j + 1) u)) := by
        rw [lowL_snoc, ← List.append_assoc, ints_append, ints_one]; exact hown'
      clear hown' hgrow hownr hown hnx
      go_wp2
      go_roundw
      case rel => exact ⟨j + 1, by omega, by go_num, rfl, ho2, hb1⟩
      case measure => simp [intOf]; omega
    · go_wp2
      go_ret
      obtain rfl : j = k := by omega
      exact ⟨_, rfl, hownr, hnx⟩

set_option maxHeartbeats 800000 in
/-- A copy of what is seen, in new memory. -/
theorem copied_any (v : Value) (zs : List Int) (more : Nat) (w : World) (hs : Sees w .u8 v zs) (hn : zs.length + more ≤ 140737488355328) :
    Calls Tryd.prog 76 #[v, .int .i64 more] w fun e w' => ∃ v', e = .returned v' ∧ w'.ownsRow w.heap.size 5 1 v' zs.length (ints .u8 zs) ∧ Below w.heap.size w w' := by
  obtain ⟨i0, hi, hz0, hz1, hz2⟩ := info_parts Tryd.info5
  obtain ⟨ao, cap, rfl, hl, hnil, hc⟩ := hs
  cases ao with
  | none =>
    obtain rfl := hnil rfl
    obtain rfl : zs = [] := List.length_eq_zero_iff.1 (by omega)
    clear hc hnil hl
    go_enter Tryd.func76, Tryd.ntmps76
    go_wp2_with (at_make; refine wpList_make_own _ rfl _ _ 39 rfl w.heap.size 5 i0 (.int .u8 0) 1 Tryd.underlying39 hi hz0 hz1 _ _ _ more rfl rfl (by simp) ?b2 ?b3 (Nat.le_refl _) ?_)
    case b2 => rw [hz2]; simp at hn; omega
    case b3 => unfold maxLen; simp at hn; omega
    intro w0 hown0 hgrow0
    go_wp2_with (at_builtin; refine wpList_append_own_none rfl _ _ 39 rfl w.heap.size 5 i0 1 Tryd.underlying39 hi _ _ _ rfl hown0 rfl ?_)
    go_ret
    exact ⟨_, rfl, hown0, (Below.refl _ _).grown hgrow0 (Nat.le_refl _) (fun k h => by cases h)⟩
  | some a =>
    have hca := hc a rfl
    clear hc hnil
    go_enter Tryd.func76, Tryd.ntmps76
    go_wp2_with (at_make; refine wpList_make_own _ rfl _ _ 39 rfl w.heap.size 5 i0 (.int .u8 0) 1 Tryd.underlying39 hi hz0 hz1 _ _ _ (zs.length + more) rfl rfl (by omega) ?b2 ?b3 (Nat.le_refl _) ?_)
    case b2 => rw [hz2]; omega
    case b3 => unfold maxLen; omega
    intro w0 hown0 hgrow0
    have hb0 : Below w.heap.size w w0 := (Below.refl _ _).grown hgrow0 (Nat.le_refl _) (fun k h => by cases h)
    have hnews : ∀ j u, (ints .u8 zs)[j]? = some u → w0.cell? (a.add j) = some u := fun j u hu => by
      obtain ⟨hj, rfl⟩ := ints_get hu
      have := hca j hj
      exact (hb0.cell (World.block_lt_of_cell? w _ this)).trans this
    clear hca
    go_wp2_with (at_builtin; refine wpList_append_own _ rfl _ _ 39 rfl w.heap.size 5 i0 (.int .u8 0) 1 1 Tryd.underlying39 hi hz0 hz1 hz2 rfl (by decide) _ _ _ rfl hown0 a zs.length cap (ints .u8 zs) rfl ?c0 hnews (ints_cell _ _) ?c3 ?c4 ?c5 ?_)
    case c0 => rw [ints_length]; omega
    case c3 => unfold maxLen; omega
    case c4 => omega
    case c5 => exact hb0.size
    intro v' w1 hown' hgrow _
    have ho : w1.ownsRow w.heap.size 5 1 v' zs.length (ints .u8 zs) := by simpa using hown'
    go_wp2
    go_ret
    exact ⟨_, rfl, ho, hb0.grown hgrow hb0.size (own_block_le hown0)⟩

end Go.Proofs.YtdcmkapfcmibeaaDoor.Sh
