/- Several texts as one. -/
import Derived.Test.YtdcmkapfcmibeaaDoorHB

/- Contracts of Size, putNums, Num, Blob for every slice that is seen. -/
namespace Go.Proofs.YtdcmkapfcmibeaaDoor.Sh
open Go.RowKit
set_option maxRecDepth 100000

/-- A number's bytes. -/
def numB (x : Int) : List Int := (2 * (wid (mag x) : Int) + (if x < 0 then 1 else 0)) :: lowL (wid (mag x)) (mag x)
/-- Numbers' bytes, one behind the other. -/
def putL : List Int → List Int
  | [] => []
  | x :: r => numB x ++ putL r

theorem numB_length (x : Int) : (numB x).length = 1 + wid (mag x) := by simp [numB, lowL_length]; omega
theorem putL_length (l : List Int) : (putL l).length = sizeL l := by
  induction l with
  | nil => rfl
  | cons x r ih => simp only [putL, List.length_append, numB_length, sizeL, ih]
theorem putL_append (a b : List Int) : putL (a ++ b) = putL a ++ putL b := by
  induction a with
  | nil => rfl
  | cons x r ih => simp only [List.cons_append, putL, ih, List.append_assoc]
theorem putL_take (l : List Int) (k : Nat) (h : k < l.length) : putL (l.take (k + 1)) = putL (l.take k) ++ numB (l.getD k 0) := by
  rw [take_snoc l k h, putL_append]; simp [putL]
theorem numB_byte (x : Int) : ∀ b ∈ numB x, 0 ≤ b ∧ b ≤ 255 := by
  intro b hb
  have := wid_le (mag x)
  simp only [numB, List.mem_cons] at hb
  rcases hb with rfl | hb
  · split <;> omega
  · exact lowL_byte _ _ b hb

def I64 (l : List Int) : Prop := ∀ t, t < l.length → -9223372036854775808 ≤ l.getD t 0 ∧ l.getD t 0 ≤ 9223372036854775807

set_option maxHeartbeats 400000 in
theorem size_nil (w : World) : Calls Tryd.prog 77 #[.slice none 0 0] w fun e w' => e = .returned (.int .i64 0) ∧ w = w' := by
  go_enter Tryd.func77, Tryd.ntmps77
  go_wp2
  refine wp_loop_rounds 1 ?_
  rw [rounds_succ]
  go_wp2
  go_ret
  exact ⟨rfl, rfl⟩

theorem size_sees (v : Value) (l : List Int) (w : World) (hs : Sees w .i64 v l) (hl : l.length ≤ 140737488351232) (hb : I64 l) :
    Calls Tryd.prog 77 #[v] w fun e w' => e = .returned (.int .i64 (sizeL l)) ∧ w = w' := by
  obtain ⟨ao, cap, rfl, hlc, hnil, hc⟩ := hs
  cases ao with
  | none =>
    obtain rfl := hnil rfl
    obtain rfl : l = [] := List.length_eq_zero_iff.1 (by omega)
    exact size_nil w
  | some a => exact size_any a l cap w hl hb (hc a rfl)

set_option maxHeartbeats 800000 in
theorem putNums_some (base : Nat) (v : Value) (n : Nat) (xs : List Int) (a : Addr) (l : List Int) (cap : Nat) (w : World) (hl : l.length ≤ 140737488351232) (hb : I64 l) (hn : n + sizeL l + 8 ≤ 140737488355328)
    (hc : ∀ t, t < l.length → w.cell? (a.add t) = some (.int .i64 (l.getD t 0)) ∧ Apart w base (a.add t))
    (hown : w.ownsRow base 5 1 v n (ints .u8 xs)) (hbase : base ≤ w.heap.size) :
    Calls Tryd.prog 75 #[v, .slice (some a) l.length cap] w fun e w' => ∃ v', e = .returned v' ∧ w'.ownsRow base 5 1 v' (n + sizeL l) (ints .u8 (xs ++ putL l)) ∧ Keeps base w w' := by
  obtain ⟨i0, hi, hz0, hz1, hz2⟩ := info_parts Tryd.info5
  go_enter Tryd.func75, Tryd.ntmps75
  go_wp2
  go_loopw [0, 12] (fun vb vi wr => ∃ j : Nat, j ≤ l.length ∧ vi = .int .i64 j ∧ wr.ownsRow base 5 1 vb (n + sizeL (l.take j)) (ints .u8 (xs ++ putL (l.take j))) ∧ Keeps base w wr)
    (fun _ vi _ => l.length - (intOf vi).toNat)
  case atStart => exact ⟨0, Nat.zero_le _, rfl, by simpa [sizeL, putL] using hown, Keeps.refl _ _⟩
  case round =>
    obtain ⟨j, hj, rfl, hownr, hnx⟩ := hrel
    have hsz := hnx.below.size
    by_cases hlt : j < l.length
    · obtain ⟨hc1, hc2⟩ := hc j hlt
      have hcr : wr.cell? (a.add j) = some (.int .i64 (l.getD j 0)) := (hnx.cell hc2).1.trans hc1
      obtain ⟨hb1, hb2⟩ := hb j hlt
      have hst : Hid (sizeL (l.take (j + 1)) = sizeL (l.take j) + (1 + wid (mag (l.getD j 0)))) := sizeL_take l j hlt
      have hpt : Hid (putL (l.take (j + 1)) = putL (l.take j) ++ numB (l.getD j 0)) := putL_take l j hlt
      have hsl : sizeL (l.take (j + 1)) ≤ sizeL l := by
        have := sizeL_append (l.take (j + 1)) (l.drop (j + 1)); rw [List.take_append_drop] at this; omega
      rw [hst.out] at hsl
      have hw8 := wid_le (mag (l.getD j 0))
      obtain ⟨hm1, hm2⟩ := mag_bounds _ hb1 hb2
      generalize l.getD j 0 = x at *
      clear hc hb hc1 hc2
      by_cases hx : x < 0
      · go_wp2_with (first
          | (go_at_call 85; refine (mag_any _ hb1 hb2 _).mono ?_; rintro e w' ⟨rfl, rfl⟩)
          | (go_at_call 86; refine (wid_any _ hm1 (by omega) _).mono ?_; rintro e w' ⟨rfl, rfl⟩)
          | (at_builtin; refine wpList_append_own _ rfl _ _ 39 rfl base 5 i0 (.int .u8 0) 1 1 Tryd.underlying39 hi hz0 hz1 hz2 rfl (by decide) _ _ _ rfl (hownr.alloc _) ⟨wr.heap.size, 0, none⟩ 1 1 [.int .u8 (2 * (wid (mag x) : Int) + 1)] rfl rfl ?c1 ?c2 ?c3 ?c4 ?c5 ?_))
        case c1 => exact cell_one_new _ _ _
        case c2 => intro y hy; simp at hy; subst hy; rfl
        case c3 => unfold maxLen; omega
        case c4 => omega
        case c5 => simp; omega
        intro v1 w1 hown1 hgrow _
        have hk1 : Keeps base w w1 := (hnx.alloc (by omega) _).grown (hownr.alloc _) hgrow (by simp; omega)
        have hsz1 := hk1.below.size
        have ho1 : w1.ownsRow base 5 1 v1 (n + sizeL (l.take j) + 1) (ints .u8 (xs ++ putL (l.take j) ++ [(2 * (wid (mag x) : Int) + 1)])) := by rw [ints_append, ints_one]; exact hown1
        clear hown1 hgrow hownr hown hnx hcr
        go_wp2_with (go_at_call 87; refine (putLow_any base v1 _ _ _ _ w1 hm1 hw8 (by omega) ho1 (by omega)).mono ?_; rintro e w2 ⟨v2, rfl, ho2, hk2⟩)
        have ho3 : w2.ownsRow base 5 1 v2 (n + sizeL (l.take (j + 1))) (ints .u8 (xs ++ putL (l.take (j + 1)))) := by
          rw [hst.out, hpt.out]
          have e1 : n + (sizeL (l.take j) + (1 + wid (mag x))) = n + sizeL (l.take j) + 1 + wid (mag x) := by omega
          have e2 : xs ++ (putL (l.take j) ++ numB x) = xs ++ putL (l.take j) ++ [(2 * (wid (mag x) : Int) + 1)] ++ lowL (wid (mag x)) (mag x) := by simp [numB, hx]
          rw [e1, e2]; exact ho2
        clear ho2 ho1
        go_roundw
        case rel => exact ⟨j + 1, by omega, by go_num, ho3, hk1.trans hk2⟩
        case measure => simp [intOf]; omega
      · go_wp2_with (first
          | (go_at_call 85; refine (mag_any _ hb1 hb2 _).mono ?_; rintro e w' ⟨rfl, rfl⟩)
          | (go_at_call 86; refine (wid_any _ hm1 (by omega) _).mono ?_; rintro e w' ⟨rfl, rfl⟩)
          | (at_builtin; refine wpList_append_own _ rfl _ _ 39 rfl base 5 i0 (.int .u8 0) 1 1 Tryd.underlying39 hi hz0 hz1 hz2 rfl (by decide) _ _ _ rfl (hownr.alloc _) ⟨wr.heap.size, 0, none⟩ 1 1 [.int .u8 (2 * (wid (mag x) : Int))] rfl rfl ?c1 ?c2 ?c3 ?c4 ?c5 ?_))
        case c1 => exact cell_one_new _ _ _
        case c2 => intro y hy; simp at hy; subst hy; rfl
        case c3 => unfold maxLen; omega
        case c4 => omega
        case c5 => simp; omega
        intro v1 w1 hown1 hgrow _
        have hk1 : Keeps base w w1 := (hnx.alloc (by omega) _).grown (hownr.alloc _) hgrow (by simp; omega)
        have hsz1 := hk1.below.size
        have ho1 : w1.ownsRow base 5 1 v1 (n + sizeL (l.take j) + 1) (ints .u8 (xs ++ putL (l.take j) ++ [2 * (wid (mag x) : Int)])) := by rw [ints_append, ints_one]; exact hown1
        clear hown1 hgrow hownr hown hnx hcr
        go_wp2_with (go_at_call 87; refine (putLow_any base v1 _ _ _ _ w1 hm1 hw8 (by omega) ho1 (by omega)).mono ?_; rintro e w2 ⟨v2, rfl, ho2, hk2⟩)
        have ho3 : w2.ownsRow base 5 1 v2 (n + sizeL (l.take (j + 1))) (ints .u8 (xs ++ putL (l.take (j + 1)))) := by
          rw [hst.out, hpt.out]
          have e1 : n + (sizeL (l.take j) + (1 + wid (mag x))) = n + sizeL (l.take j) + 1 + wid (mag x) := by omega
          have e2 : xs ++ (putL (l.take j) ++ numB x) = xs ++ putL (l.take j) ++ [2 * (wid (mag x) : Int)] ++ lowL (wid (mag x)) (mag x) := by rw [numB, if_neg (by omega)]; simp
          rw [e1, e2]; exact ho2
        clear ho2 ho1
        go_roundw
        case rel => exact ⟨j + 1, by omega, by go_num, ho3, hk1.trans hk2⟩
        case measure => simp [intOf]; omega
    · go_wp2
      go_ret
      obtain rfl : j = l.length := by omega
      rw [List.take_length] at hownr
      exact ⟨_, rfl, hownr, hnx⟩

set_option maxHeartbeats 400000 in
theorem putNums_nil (v : Value) (w : World) : Calls Tryd.prog 75 #[v, .slice none 0 0] w fun e w' => e = .returned v ∧ w = w' := by
  go_enter Tryd.func75, Tryd.ntmps75
  go_wp2
  refine wp_loop_rounds 1 ?_
  rw [rounds_succ]
  go_wp2
  go_ret
  exact ⟨rfl, rfl⟩

theorem putNums_sees (base : Nat) (v lv : Value) (n : Nat) (xs l : List Int) (w : World) (hs : Sees w .i64 lv l) (hl : l.length ≤ 140737488351232) (hb : I64 l) (hn : n + sizeL l + 8 ≤ 140737488355328)
    (hap : ∀ a c, lv = .slice (some a) l.length c → ∀ t, t < l.length → Apart w base (a.add t)) (hown : w.ownsRow base 5 1 v n (ints .u8 xs)) (hbase : base ≤ w.heap.size) :
    Calls Tryd.prog 75 #[v, lv] w fun e w' => ∃ v', e = .returned v' ∧ w'.ownsRow base 5 1 v' (n + sizeL l) (ints .u8 (xs ++ putL l)) ∧ Keeps base w w' := by
  obtain ⟨ao, cap, rfl, hlc, hnil, hc⟩ := hs
  cases ao with
  | none =>
    obtain rfl := hnil rfl
    obtain rfl : l = [] := List.length_eq_zero_iff.1 (by omega)
    refine (putNums_nil v w).mono ?_
    rintro e w' ⟨rfl, rfl⟩
    exact ⟨v, rfl, by simpa [sizeL, putL] using hown, Keeps.refl _ _⟩
  | some a => exact putNums_some base v n xs a l cap w hl hb hn (fun t ht => ⟨hc a rfl t ht, hap a cap rfl t ht⟩) hown hbase

theorem sees_apart {w : World} {k : IntKind} {lv : Value} {l : List Int} (hs : Sees w k lv l) {w' : World} : ∀ a c, lv = .slice (some a) l.length c → ∀ t, t < l.length → Apart w' w.heap.size (a.add t) := by
  intro a c e t ht
  obtain ⟨ao, cap, rfl, _, _, hc⟩ := hs
  simp only [Value.slice.injEq, true_and] at e
  exact .inl (World.block_lt_of_cell? w _ (hc a e.1 t ht))

set_option maxHeartbeats 400000 in
/-- Num: bytes that are seen and, behind them, numbers that are seen, in new memory. -/
theorem num_any (bv lv : Value) (zs l : List Int) (w : World) (hs : Sees w .u8 bv zs) (hls : Sees w .i64 lv l) (hl : l.length ≤ 140737488351232) (hb : I64 l) (hn : zs.length + sizeL l + 8 ≤ 140737488355328) :
    Calls Tryd.prog 55 #[bv, lv] w fun e w' => ∃ v', e = .returned v' ∧ w'.ownsRow w.heap.size 5 1 v' (zs.length + sizeL l) (ints .u8 (zs ++ putL l)) ∧ Below w.heap.size w w' := by
  go_enter Tryd.func55, Tryd.ntmps55
  go_wp2_with (go_at_call 77; refine (size_sees lv l _ hls hl hb).mono ?_; rintro e w' ⟨rfl, rfl⟩)
  go_wp2_with (go_at_call 76; refine (copied_any bv zs _ _ hs (by omega)).mono ?_; rintro e w1 ⟨v1, rfl, ho1, hb1⟩)
  have hls1 := hls.below hb1
  go_wp2_with (go_at_call 75; refine (putNums_sees w.heap.size v1 lv _ zs l w1 hls1 hl hb (by omega) (sees_apart hls) ho1 hb1.size).mono ?_; rintro e w2 ⟨v2, rfl, ho2, hk2⟩)
  go_ret
  exact ⟨_, rfl, ho2, hb1.trans hk2.below⟩

end Go.Proofs.YtdcmkapfcmibeaaDoor.Sh

/- Contracts of Blob and bytes.Equal. -/
namespace Go.Proofs.YtdcmkapfcmibeaaDoor.Sh
open Go.RowKit
set_option maxRecDepth 100000

theorem str_beq {xs ys : List Int} (hx : Byt xs) (hy : Byt ys) : ((strOf xs).toList == (strOf ys).toList) = decide (xs = ys) := by
  rw [ByteArray.toList_eq, ByteArray.toList_eq, Bool.eq_iff_iff]
  simp only [beq_iff_eq, decide_eq_true_eq]
  constructor
  · intro h
    refine strOf_inj hx hy ?_
    have : (strOf xs).data = (strOf ys).data := Array.toList_inj.1 h
    cases hs : strOf xs
    cases hs' : strOf ys
    rw [hs, hs'] at this
    simp_all
  · rintro rfl; rfl

set_option maxHeartbeats 400000 in
theorem equal_any (av bv : Value) (xs ys : List Int) (w : World) (ha : Sees w .u8 av xs) (hb : Sees w .u8 bv ys) (hx : Byt xs) (hy : Byt ys) :
    Calls Tryd.prog 16 #[av, bv] w fun e w' => e = .returned (.bool (decide (xs = ys))) ∧ w = w' := by
  have h1 := run_conv_sees (P := Tryd.prog) w 39 9 5 av xs Tryd.underlying39 Tryd.underlying5 Tryd.underlying9 ha hx
  have h2 := run_conv_sees (P := Tryd.prog) w 39 9 5 bv ys Tryd.underlying39 Tryd.underlying5 Tryd.underlying9 hb hy
  clear ha hb
  go_enter Tryd.func16, Tryd.ntmps16
  go_wp2
  go_ret
  exact ⟨by rw [← str_beq hx hy]; rfl, rfl⟩

theorem sees_one (w : World) (x : Int) : Sees (w.alloc (.cells #[.int .i64 x] 2)) .i64 (.slice (some ⟨w.heap.size, 0, none⟩) 1 1) [x] := sees_new w .i64 [x] 2 1 rfl
theorem apart_one (w : World) (x : Int) (base : Nat) : ∀ a c, (Value.slice (some ⟨w.heap.size, 0, none⟩) 1 1) = .slice (some a) [x].length c → ∀ t, t < [x].length → Apart (w.alloc (.cells #[.int .i64 x] 2)) base (a.add t) := by
  intro a c e t ht
  simp only [Value.slice.injEq, Option.some.injEq] at e
  obtain ⟨rfl, _, _⟩ := e
  obtain rfl : t = 0 := by simp at ht; omega
  exact .inr ⟨_, _, heap_alloc_new w _⟩
theorem I64_one (x : Int) (h1 : -9223372036854775808 ≤ x) (h2 : x ≤ 9223372036854775807) : I64 [x] := by
  intro t ht
  obtain rfl : t = 0 := by simp at ht; omega
  exact ⟨h1, h2⟩

theorem copied_int (v : Value) (zs : List Int) (m : Int) (w : World) (hs : Sees w .u8 v zs) (h0 : 0 ≤ m) (hn : zs.length + m ≤ 140737488355328) :
    Calls Tryd.prog 76 #[v, .int .i64 m] w fun e w' => ∃ v', e = .returned v' ∧ w'.ownsRow w.heap.size 5 1 v' zs.length (ints .u8 zs) ∧ Below w.heap.size w w' := by
  obtain ⟨k, rfl⟩ := Int.eq_ofNat_of_zero_le h0
  exact copied_any v zs k w hs (by omega)

end Go.Proofs.YtdcmkapfcmibeaaDoor.Sh
