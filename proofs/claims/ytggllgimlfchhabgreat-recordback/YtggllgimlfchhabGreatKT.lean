/- Several texts as one. -/
import Derived.Test.YtggllgimlfchhabGreatKO
import Derived.Test.YtggllgimlfchhabGreatKP

/- Contracts of Size, putLow, copied, putNums. -/
namespace Go.Proofs.YtggllgimlfchhabGreat
open Go.RowKit
set_option maxRecDepth 100000

/-- How many bytes numbers have in all. -/
def sizeL : List Int → Nat
  | [] => 0
  | x :: r => 1 + wid (mag x) + sizeL r

theorem sizeL_append (a b : List Int) : sizeL (a ++ b) = sizeL a + sizeL b := by
  induction a with
  | nil => simp [sizeL]
  | cons x r ih => simp only [List.cons_append, sizeL, ih]; omega
theorem sizeL_le (l : List Int) : sizeL l ≤ 9 * l.length := by
  induction l with
  | nil => simp [sizeL]
  | cons x r ih => have := wid_le (mag x); simp only [sizeL, List.length_cons]; omega
theorem take_snoc (l : List Int) (k : Nat) (h : k < l.length) : l.take (k + 1) = l.take k ++ [l.getD k 0] := by
  rw [List.take_succ_eq_append_getElem h]; simp [List.getD, h]
theorem sizeL_take (l : List Int) (k : Nat) (h : k < l.length) : sizeL (l.take (k + 1)) = sizeL (l.take k) + (1 + wid (mag (l.getD k 0))) := by
  rw [take_snoc l k h, sizeL_append]; simp [sizeL]

theorem mag_bounds (x : Int) (h1 : -9223372036854775808 ≤ x) (h2 : x ≤ 9223372036854775807) : 0 ≤ mag x ∧ mag x ≤ 9223372036854775808 := by
  unfold mag; split <;> omega

set_option maxHeartbeats 400000 in
theorem size_any (a : Addr) (l : List Int) (cap : Nat) (w : World) (hl : l.length ≤ 140737488351232) (hb : ∀ t, t < l.length → -9223372036854775808 ≤ l.getD t 0 ∧ l.getD t 0 ≤ 9223372036854775807)
    (hc : ∀ t, t < l.length → w.cell? (a.add t) = some (.int .i64 (l.getD t 0))) :
    Calls Tryz.prog 109 #[.slice (some a) l.length cap] w fun e w' => e = .returned (.int .i64 (sizeL l)) ∧ w = w' := by
  go_enter Tryz.func109, Tryz.ntmps109
  go_wp2
  go_loop [3, 8] (fun n i => ∃ k : Nat, k ≤ l.length ∧ i = .int .i64 k ∧ n = .int .i64 (sizeL (l.take k))) (fun _ i => l.length - (intOf i).toNat)
  case atStart => exact ⟨0, Nat.zero_le _, rfl, rfl⟩
  case round =>
    obtain ⟨k, hk, rfl, rfl⟩ := hrel
    have hs := sizeL_le (l.take k)
    have hs2 : (l.take k).length ≤ k := List.length_take_le _ _
    by_cases hlt : k < l.length
    · have hck := hc k hlt
      obtain ⟨hb1, hb2⟩ := hb k hlt
      have hst : Hid (sizeL (l.take (k + 1)) = sizeL (l.take k) + (1 + wid (mag (l.getD k 0)))) := sizeL_take l k hlt
      have hw8 := wid_le (mag (l.getD k 0))
      obtain ⟨hm1, hm2⟩ := mag_bounds _ hb1 hb2
      generalize l.getD k 0 = x at *
      clear hc hb
      go_wp2_with (first | (go_at_call 126; refine (mag_any _ hb1 hb2 _).mono ?_; rintro e w' ⟨rfl, rfl⟩) | (go_at_call 127; refine (wid_any _ hm1 (by omega) _).mono ?_; rintro e w' ⟨rfl, rfl⟩))
      go_round
      case rel => exact ⟨k + 1, by omega, by go_num, by rw [hst.out]; go_num⟩
      case measure => simp [intOf]; omega
    · go_wp2
      go_ret
      exact ⟨ret_int (by rw [List.take_of_length_le (by omega)]), rfl⟩

end Go.Proofs.YtggllgimlfchhabGreat

/- Contracts of putLow, copied, putNums. -/
namespace Go.Proofs.YtggllgimlfchhabGreat
open Go.RowKit
set_option maxRecDepth 100000

theorem Tryz.info5 : (Tryz.prog.info? 5).map (fun i => (i.zero, i.size, i.bytes)) = some (some (.int .u8 0), 1, 1) := by kernel_rfl

set_option maxHeartbeats 800000 in
theorem putLow_any (base : Nat) (v : Value) (n : Nat) (xs : List Int) (u : Int) (k : Nat) (w : World) (hu : 0 ≤ u) (hk : k ≤ 8) (hn : n + 8 ≤ 140737488355328)
    (hown : w.ownsRow base 5 1 v n (ints .u8 xs)) (hbase : base ≤ w.heap.size) :
    Calls Tryz.prog 71 #[v, .int .u64 u, .int .i64 k] w fun e w' => ∃ v', e = .returned v' ∧ w'.ownsRow base 5 1 v' (n + k) (ints .u8 (xs ++ lowL k u)) ∧ Keeps base w w' := by
  obtain ⟨i0, hi, hz0, hz1, hz2⟩ := info_parts Tryz.info5
  go_enter Tryz.func71, Tryz.ntmps71
  go_wp2
  go_loopw [0, 1, 8] (fun vb vu vi wr => ∃ j : Nat, j ≤ k ∧ vi = .int .i64 j ∧ vu = .int .u64 (sh j u) ∧ wr.ownsRow base 5 1 vb (n + j) (ints .u8 (xs ++ lowL j u)) ∧ Keeps base w wr)
    (fun _ _ vi _ => k - (intOf vi).toNat)
  case atStart => exact ⟨0, Nat.zero_le _, rfl, rfl, by simpa [lowL] using hown, Keeps.refl _ _⟩
  case round =>
    obtain ⟨j, hj, rfl, rfl, hownr, hnx⟩ := hrel
    have hs0 := sh_nonneg j u hu
    have hs1 := sh_le j u hu
    have hsz := hnx.below.size
    by_cases hlt : j < k
    · go_wp2_with (at_builtin; refine wpList_append_own _ rfl _ _ 26 rfl base 5 i0 (.int .u8 0) 1 1 Tryz.underlying26 hi hz0 hz1 hz2 rfl (by decide) _ _ _ rfl (hownr.alloc _) ⟨wr.heap.size, 0, none⟩ 1 1 [.int .u8 (sh j u % 256)] rfl rfl ?c1 ?c2 ?c3 ?c4 ?c5 ?_)
      case c1 => exact cell_one_new _ _ _
      case c2 => intro x hx; simp at hx; subst hx; rfl
      case c3 => unfold maxLen; omega
      case c4 => omega
      case c5 => simp; omega
      intro v' w1 hown' hgrow _
      have hb1 : Keeps base w w1 := (hnx.alloc (by omega) _).grown (hownr.alloc _) hgrow (by simp; omega)
      have ho2 : w1.ownsRow base 5 1 v' (n + (j + 1)) (ints .u8 (xs ++ lowL (j + 1) u)) := by
        rw [lowL_snoc, ← List.append_assoc, ints_append, ints_one]; exact hown'
      clear hown' hgrow hownr hown hnx
      go_wp2
      go_roundw
      case rel => exact ⟨j + 1, by omega, by go_num, rfl, ho2, hb1⟩
      case measure => simp [intOf]; omega
    · go_wp2
      go_ret
      obtain rfl : j = k := by omega
      exact ⟨_, rfl, hownr, hnx⟩

set_option maxHeartbeats 800000 in
/-- A copy of what is seen, in new memory. -/
theorem copied_any (v : Value) (zs : List Int) (more : Nat) (w : World) (hs : Sees w .u8 v zs) (hn : zs.length + more ≤ 140737488355328) :
    Calls Tryz.prog 108 #[v, .int .i64 more] w fun e w' => ∃ v', e = .returned v' ∧ w'.ownsRow w.heap.size 5 1 v' zs.length (ints .u8 zs) ∧ Below w.heap.size w w' := by
  obtain ⟨i0, hi, hz0, hz1, hz2⟩ := info_parts Tryz.info5
  obtain ⟨ao, cap, rfl, hl, hnil, hc⟩ := hs
  cases ao with
  | none =>
    obtain rfl := hnil rfl
    obtain rfl : zs = [] := List.length_eq_zero_iff.1 (by omega)
    clear hc hnil hl
    go_enter Tryz.func108, Tryz.ntmps108
    go_wp2_with (at_make; refine wpList_make_own _ rfl _ _ 26 rfl w.heap.size 5 i0 (.int .u8 0) 1 Tryz.underlying26 hi hz0 hz1 _ _ _ more rfl rfl (by simp) ?b2 ?b3 (Nat.le_refl _) ?_)
    case b2 => rw [hz2]; simp at hn; omega
    case b3 => unfold maxLen; simp at hn; omega
    intro w0 hown0 hgrow0
    go_wp2_with (at_builtin; refine wpList_append_own_none rfl _ _ 26 rfl w.heap.size 5 i0 1 Tryz.underlying26 hi _ _ _ rfl hown0 rfl ?_)
    go_ret
    exact ⟨_, rfl, hown0, (Below.refl _ _).grown hgrow0 (Nat.le_refl _) (fun k h => by cases h)⟩
  | some a =>
    have hca := hc a rfl
    clear hc hnil
    go_enter Tryz.func108, Tryz.ntmps108
    go_wp2_with (at_make; refine wpList_make_own _ rfl _ _ 26 rfl w.heap.size 5 i0 (.int .u8 0) 1 Tryz.underlying26 hi hz0 hz1 _ _ _ (zs.length + more) rfl rfl (by omega) ?b2 ?b3 (Nat.le_refl _) ?_)
    case b2 => rw [hz2]; omega
    case b3 => unfold maxLen; omega
    intro w0 hown0 hgrow0
    have hb0 : Below w.heap.size w w0 := (Below.refl _ _).grown hgrow0 (Nat.le_refl _) (fun k h => by cases h)
    have hnews : ∀ j u, (ints .u8 zs)[j]? = some u → w0.cell? (a.add j) = some u := fun j u hu => by
      obtain ⟨hj, rfl⟩ := ints_get hu
      have := hca j hj
      exact (hb0.cell (World.block_lt_of_cell? w _ this)).trans this
    clear hca
    go_wp2_with (at_builtin; refine wpList_append_own _ rfl _ _ 26 rfl w.heap.size 5 i0 (.int .u8 0) 1 1 Tryz.underlying26 hi hz0 hz1 hz2 rfl (by decide) _ _ _ rfl hown0 a zs.length cap (ints .u8 zs) rfl ?c0 hnews (ints_cell _ _) ?c3 ?c4 ?c5 ?_)
    case c0 => rw [ints_length]; omega
    case c3 => unfold maxLen; omega
    case c4 => omega
    case c5 => exact hb0.size
    intro v' w1 hown' hgrow _
    have ho : w1.ownsRow w.heap.size 5 1 v' zs.length (ints .u8 zs) := by simpa using hown'
    go_wp2
    go_ret
    exact ⟨_, rfl, ho, hb0.grown hgrow hb0.size (own_block_le hown0)⟩

end Go.Proofs.YtggllgimlfchhabGreat
