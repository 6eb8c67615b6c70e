/- Several texts as one. -/
import Derived.Test.YtggllgimlfchhabGreatKT

/- Contracts of Size, putNums, Num, Blob for every slice that is seen. -/
namespace Go.Proofs.YtggllgimlfchhabGreat
open Go.RowKit
set_option maxRecDepth 100000

/-- A number's bytes. -/
def numB (x : Int) : List Int := (2 * (wid (mag x) : Int) + (if x < 0 then 1 else 0)) :: lowL (wid (mag x)) (mag x)
/-- Numbers' bytes, one behind the other. -/
def putL : List Int → List Int
  | [] => []
  | x :: r => numB x ++ putL r

theorem numB_length (x : Int) : (numB x).length = 1 + wid (mag x) := by simp [numB, lowL_length]; omega
theorem putL_length (l : List Int) : (putL l).length = sizeL l := by
  induction l with
  | nil => rfl
  | cons x r ih => simp only [putL, List.length_append, numB_length, sizeL, ih]
theorem putL_append (a b : List Int) : putL (a ++ b) = putL a ++ putL b := by
  induction a with
  | nil => rfl
  | cons x r ih => simp only [List.cons_append, putL, ih, List.append_assoc]
theorem putL_take (l : List Int) (k : Nat) (h : k < l.length) : putL (l.take (k + 1)) = putL (l.take k) ++ numB (l.getD k 0) := by
  rw [take_snoc l k h, putL_append]; simp [putL]
theorem numB_byte (x : Int) : ∀ b ∈ numB x, 0 ≤ b ∧ b ≤ 255 := by
  intro b hb
  have := wid_le (mag x)
  simp only [numB, List.mem_cons] at hb
  rcases hb with rfl | hb
  · split <;> omega
  · exact lowL_byte _ _ b hb

def I64 (l : List Int) : Prop := ∀ t, t < l.length → -9223372036854775808 ≤ l.getD t 0 ∧ l.getD t 0 ≤ 9223372036854775807

set_option maxHeartbeats 400000 in
theorem size_nil (w : World) : Calls Tryz.prog 109 #[.slice none 0 0] w fun e w' => e = .returned (.int .i64 0) ∧ w = w' := by
  go_enter Tryz.func109, Tryz.ntmps109
  go_wp2
  refine wp_loop_rounds 1 ?_
  rw [rounds_succ]
  go_wp2
  go_ret
  exact ⟨rfl, rfl⟩

theorem size_sees (v : Value) (l : List Int) (w : World) (hs : Sees w .i64 v l) (hl : l.length ≤ 140737488351232) (hb : I64 l) :
    Calls Tryz.prog 109 #[v] w fun e w' => e = .returned (.int .i64 (sizeL l)) ∧ w = w' := by
  obtain ⟨ao, cap, rfl, hlc, hnil, hc⟩ := hs
  cases ao with
  | none =>
    obtain rfl := hnil rfl
    obtain rfl : l = [] := List.length_eq_zero_iff.1 (by omega)
    exact size_nil w
  | some a => exact size_any a l cap w hl hb (hc a rfl)

set_option maxHeartbeats 800000 in
theorem putNums_some (base : Nat) (v : Value) (n : Nat) (xs : List Int) (a : Addr) (l : List Int) (cap : Nat) (w : World) (hl : l.length ≤ 140737488351232) (hb : I64 l) (hn : n + sizeL l + 8 ≤ 140737488355328)
    (hc : ∀ t, t < l.length → w.cell? (a.add t) = some (.int .i64 (l.getD t 0)) ∧ Apart w base (a.add t))
    (hown : w.ownsRow base 5 1 v n (ints .u8 xs)) (hbase : base ≤ w.heap.size) :
    Calls Tryz.prog 107 #[v, .slice (some a) l.length cap] w fun e w' => ∃ v', e = .returned v' ∧ w'.ownsRow base 5 1 v' (n + sizeL l) (ints .u8 (xs ++ putL l)) ∧ Keeps base w w' := by
  obtain ⟨i0, hi, hz0, hz1, hz2⟩ := info_parts Tryz.info5
  go_enter Tryz.func107, Tryz.ntmps107
  go_wp2
  go_loopw [0, 12] (fun vb vi wr => ∃ j : Nat, j ≤ l.length ∧ vi = .int .i64 j ∧ wr.ownsRow base 5 1 vb (n + sizeL (l.take j)) (ints .u8 (xs ++ putL (l.take j))) ∧ Keeps base w wr)
    (fun _ vi _ => l.length - (intOf vi).toNat)
  case atStart => exact ⟨0, Nat.zero_le _, rfl, by simpa [sizeL, putL] using hown, Keeps.refl _ _⟩
  case round =>
    obtain ⟨j, hj, rfl, hownr, hnx⟩ := hrel
    have hsz := hnx.below.size
    by_cases hlt : j < l.length
    · obtain ⟨hc1, hc2⟩ := hc j hlt
      have hcr : wr.cell? (a.add j) = some (.int .i64 (l.getD j 0)) := (hnx.cell hc2).1.trans hc1
      obtain ⟨hb1, hb2⟩ := hb j hlt
      have hst : Hid (sizeL (l.take (j + 1)) = sizeL (l.take j) + (1 + wid (mag (l.getD j 0)))) := sizeL_take l j hlt
      have hpt : Hid (putL (l.take (j + 1)) = putL (l.take j) ++ numB (l.getD j 0)) := putL_take l j hlt
      have hsl : sizeL (l.take (j + 1)) ≤ sizeL l := by
        have := sizeL_append (l.take (j + 1)) (l.drop (j + 1)); rw [List.take_append_drop] at this; omega
      rw [hst.out] at hsl
      have hw8 := wid_le (mag (l.getD j 0))
      obtain ⟨hm1, hm2⟩ := mag_bounds _ hb1 hb2
      generalize l.getD j 0 = x at *
      clear hc hb hc1 hc2
      by_cases hx : x < 0
      · go_wp2_with (first
          | (go_at_call 126; refine (mag_any _ hb1 hb2 _).mono ?_; rintro e w' ⟨rfl, rfl⟩)
          | (go_at_call 127; refine (wid_any _ hm1 (by omega) _).mono ?_; rintro e w' ⟨rfl, rfl⟩)
          | (at_builtin; refine wpList_append_own _ rfl _ _ 26 rfl base 5 i0 (.int .u8 0) 1 1 Tryz.underlying26 hi hz0 hz1 hz2 rfl (by decide) _ _ _ rfl (hownr.alloc _) ⟨wr.heap.size, 0, none⟩ 1 1 [.int .u8 (2 * (wid (mag x) : Int) + 1)] rfl rfl ?c1 ?c2 ?c3 ?c4 ?c5 ?_))
        case c1 => exact cell_one_new _ _ _
        case c2 => intro y hy; simp at hy; subst hy; rfl
        case c3 => unfold maxLen; omega
        case c4 => omega
        case c5 => simp; omega
        intro v1 w1 hown1 hgrow _
        have hk1 : Keeps base w w1 := (hnx.alloc (by omega) _).grown (hownr.alloc _) hgrow (by simp; omega)
        have hsz1 := hk1.below.size
        have ho1 : w1.ownsRow base 5 1 v1 (n + sizeL (l.take j) + 1) (ints .u8 (xs ++ putL (l.take j) ++ [(2 * (wid (mag x) : Int) + 1)])) := by rw [ints_append, ints_one]; exact hown1
        clear hown1 hgrow hownr hown hnx hcr
        go_wp2_with (go_at_call 71; refine (putLow_any base v1 _ _ _ _ w1 hm1 hw8 (by omega) ho1 (by omega)).mono ?_; rintro e w2 ⟨v2, rfl, ho2, hk2⟩)
        have ho3 : w2.ownsRow base 5 1 v2 (n + sizeL (l.take (j + 1))) (ints .u8 (xs ++ putL (l.take (j + 1)))) := by
          rw [hst.out, hpt.out]
          have e1 : n + (sizeL (l.take j) + (1 + wid (mag x))) = n + sizeL (l.take j) + 1 + wid (mag x) := by omega
          have e2 : xs ++ (putL (l.take j) ++ numB x) = xs ++ putL (l.take j) ++ [(2 * (wid (mag x) : Int) + 1)] ++ lowL (wid (mag x)) (mag x) := by simp [numB, hx]
          rw [e1, e2]; exact ho2
        clear ho2 ho1
        go_roundw
        case rel => exact ⟨j + 1, by omega, by go_num, ho3, hk1.trans hk2⟩
        case measure => simp [intOf]; omega
      · go_wp2_with (first
          | (go_at_call 126; refine (mag_any _ hb1 hb2 _).mono ?_; rintro e w' ⟨rfl, rfl⟩)
          | (go_at_call 127; refine (wid_any _ hm1 (by omega) _).mono ?_; rintro e w' ⟨rfl, rfl⟩)
          | (at_builtin; refine wpList_append_own _ rfl _ _ 26 rfl base 5 i0 (.int .u8 0) 1 1 Tryz.underlying26 hi hz0 hz1 hz2 rfl (by decide) _ _ _ rfl (hownr.alloc _) ⟨wr.heap.size, 0, none⟩ 1 1 [.int .u8 (2 * (wid (mag x) : Int))] rfl rfl ?c1 ?c2 ?c3 ?c4 ?c5 ?_))
        case c1 => exact cell_one_new _ _ _
        case c2 => intro y hy; simp at hy; subst hy; rfl
        case c3 => unfold maxLen; omega
        case c4 => omega
        case c5 => simp; omega
        intro v1 w1 hown1 hgrow _
        have hk1 : Keeps base w w1 := (hnx.alloc (by omega) _).grown (hownr.alloc _) hgrow (by simp; omega)
        have hsz1 := hk1.below.size
        have ho1 : w1.ownsRow base 5 1 v1 (n + sizeL (l.take j) + 1) (ints .u8 (xs ++ putL (l.take j) ++ [2 * (wid (mag x) : Int)])) := by rw [ints_append, ints_one]; exact hown1
        clear hown1 hgrow hownr hown hnx hcr
        go_wp2_with (go_at_call 71; refine (putLow_any base v1 _ _ _ _ w1 hm1 hw8 (by omega) ho1 (by omega)).mono ?_; rintro e w2 ⟨v2, rfl, ho2, hk2⟩)
        have ho3 : w2.ownsRow base 5 1 v2 (n + sizeL (l.take (j + 1))) (ints .u8 (xs ++ putL (l.take (j + 1)))) := by
          rw [hst.out, hpt.out]
          have e1 : n + (sizeL (l.take j) + (1 + wid (mag x))) = n + sizeL (l.take j) + 1 + wid (mag x) := by omega
          have e2 : xs ++ (putL (l.take j) ++ numB x) = xs ++ putL (l.take j) ++ [2 * (wid (mag x) : Int)] ++ lowL (wid (mag x)) (mag x) := by rw [numB, if_neg (by omega)]; simp
          rw [e1, e2]; exact ho2
        clear ho2 ho1
        go_roundw
        case rel => exact ⟨j + 1, by omega, by go_num, ho3, hk1.trans hk2⟩
        case measure => simp [intOf]; omega
    · go_wp2
      go_ret
      obtain rfl : j = l.length := by omega
      rw [List.take_length] at hownr
      exact ⟨_, rfl, hownr, hnx⟩

set_option maxHeartbeats 400000 in
theorem putNums_nil (v : Value) (w : World) : Calls Tryz.prog 107 #[v, .slice none 0 0] w fun e w' => e = .returned v ∧ w = w' := by
  go_enter Tryz.func107, Tryz.ntmps107
  go_wp2
  refine wp_loop_rounds 1 ?_
  rw [rounds_succ]
  go_wp2
  go_ret
  exact ⟨rfl, rfl⟩

theorem putNums_sees (base : Nat) (v lv : Value) (n : Nat) (xs l : List Int) (w : World) (hs : Sees w .i64 lv l) (hl : l.length ≤ 140737488351232) (hb : I64 l) (hn : n + sizeL l + 8 ≤ 140737488355328)
    (hap : ∀ a c, lv = .slice (some a) l.length c → ∀ t, t < l.length → Apart w base (a.add t)) (hown : w.ownsRow base 5 1 v n (ints .u8 xs)) (hbase : base ≤ w.heap.size) :
    Calls Tryz.prog 107 #[v, lv] w fun e w' => ∃ v', e = .returned v' ∧ w'.ownsRow base 5 1 v' (n + sizeL l) (ints .u8 (xs ++ putL l)) ∧ Keeps base w w' := by
  obtain ⟨ao, cap, rfl, hlc, hnil, hc⟩ := hs
  cases ao with
  | none =>
    obtain rfl := hnil rfl
    obtain rfl : l = [] := List.length_eq_zero_iff.1 (by omega)
    refine (putNums_nil v w).mono ?_
    rintro e w' ⟨rfl, rfl⟩
    exact ⟨v, rfl, by simpa [sizeL, putL] using hown, Keeps.refl _ _⟩
  | some a => exact putNums_some base v n xs a l cap w hl hb hn (fun t ht => ⟨hc a rfl t ht, hap a cap rfl t ht⟩) hown hbase

theorem sees_apart {w : World} {k : IntKind} {lv : Value} {l : List Int} (hs : Sees w k lv l) {w' : World} : ∀ a c, lv = .slice (some a) l.length c → ∀ t, t < l.length → Apart w' w.heap.size (a.add t) := by
  intro a c e t ht
  obtain ⟨ao, cap, rfl, _, _, hc⟩ := hs
  simp only [Value.slice.injEq, true_and] at e
  exact .inl (World.block_lt_of_cell? w _ (hc a e.1 t ht))

set_option maxHeartbeats 400000 in
/-- Num: bytes that are seen and, behind them, numbers that are seen, in new memory. -/
theorem num_any (bv lv : Value) (zs l : List Int) (w : World) (hs : Sees w .u8 bv zs) (hls : Sees w .i64 lv l) (hl : l.length ≤ 140737488351232) (hb : I64 l) (hn : zs.length + sizeL l + 8 ≤ 140737488355328) :
    Calls Tryz.prog 85 #[bv, lv] w fun e w' => ∃ v', e = .returned v' ∧ w'.ownsRow w.heap.size 5 1 v' (zs.length + sizeL l) (ints .u8 (zs ++ putL l)) ∧ Below w.heap.size w w' := by
  go_enter Tryz.func85, Tryz.ntmps85
  go_wp2_with (go_at_call 109; refine (size_sees lv l _ hls hl hb).mono ?_; rintro e w' ⟨rfl, rfl⟩)
  go_wp2_with (go_at_call 108; refine (copied_any bv zs _ _ hs (by omega)).mono ?_; rintro e w1 ⟨v1, rfl, ho1, hb1⟩)
  have hls1 := hls.below hb1
  go_wp2_with (go_at_call 107; refine (putNums_sees w.heap.size v1 lv _ zs l w1 hls1 hl hb (by omega) (sees_apart hls) ho1 hb1.size).mono ?_; rintro e w2 ⟨v2, rfl, ho2, hk2⟩)
  go_ret
  exact ⟨_, rfl, ho2, hb1.trans hk2.below⟩

end Go.Proofs.YtggllgimlfchhabGreat

/- Contracts of Blob and bytes.Equal. -/
namespace Go.Proofs.YtggllgimlfchhabGreat
open Go.RowKit
set_option maxRecDepth 100000

theorem str_beq {xs ys : List Int} (hx : Byt xs) (hy : Byt ys) : ((strOf xs).toList == (strOf ys).toList) = decide (xs = ys) := by
  rw [ByteArray.toList_eq, ByteArray.toList_eq, Bool.eq_iff_iff]
  simp only [beq_iff_eq, decide_eq_true_eq]
  constructor
  · intro h
    refine strOf_inj hx hy ?_
    have : (strOf xs).data = (strOf ys).data := Array.toList_inj.1 h
    cases hs : strOf xs
    cases hs' : strOf ys
    rw [hs, hs'] at this
    simp_all
  · rintro rfl; rfl

set_option maxHeartbeats 400000 in
theorem equal_any (av bv : Value) (xs ys : List Int) (w : World) (ha : Sees w .u8 av xs) (hb : Sees w .u8 bv ys) (hx : Byt xs) (hy : Byt ys) :
    Calls Tryz.prog 15 #[av, bv] w fun e w' => e = .returned (.bool (decide (xs = ys))) ∧ w = w' := by
  have h1 := run_conv_sees (P := Tryz.prog) w 26 9 5 av xs Tryz.underlying26 Tryz.underlying5 Tryz.underlying9 ha hx
  have h2 := run_conv_sees (P := Tryz.prog) w 26 9 5 bv ys Tryz.underlying26 Tryz.underlying5 Tryz.underlying9 hb hy
  clear ha hb
  go_enter Tryz.func15, Tryz.ntmps15
  go_wp2
  go_ret
  exact ⟨by rw [← str_beq hx hy]; rfl, rfl⟩


theorem sees_one (w : World) (x : Int) : Sees (w.alloc (.cells #[.int .i64 x] 2)) .i64 (.slice (some ⟨w.heap.size, 0, none⟩) 1 1) [x] := sees_new w .i64 [x] 2 1 rfl
theorem apart_one (w : World) (x : Int) (base : Nat) : ∀ a c, (Value.slice (some ⟨w.heap.size, 0, none⟩) 1 1) = .slice (some a) [x].length c → ∀ t, t < [x].length → Apart (w.alloc (.cells #[.int .i64 x] 2)) base (a.add t) := by
  intro a c e t ht
  simp only [Value.slice.injEq, Option.some.injEq] at e
  obtain ⟨rfl, _, _⟩ := e
  obtain rfl : t = 0 := by simp at ht; omega
  exact .inr ⟨_, _, heap_alloc_new w _⟩
theorem I64_one (x : Int) (h1 : -9223372036854775808 ≤ x) (h2 : x ≤ 9223372036854775807) : I64 [x] := by
  intro t ht
  obtain rfl : t = 0 := by simp at ht; omega
  exact ⟨h1, h2⟩

theorem copied_int (v : Value) (zs : List Int) (m : Int) (w : World) (hs : Sees w .u8 v zs) (h0 : 0 ≤ m) (hn : zs.length + m ≤ 140737488355328) :
    Calls Tryz.prog 108 #[v, .int .i64 m] w fun e w' => ∃ v', e = .returned v' ∧ w'.ownsRow w.heap.size 5 1 v' zs.length (ints .u8 zs) ∧ Below w.heap.size w w' := by
  obtain ⟨k, rfl⟩ := Int.eq_ofNat_of_zero_le h0
  exact copied_any v zs k w hs (by omega)

set_option maxHeartbeats 800000 in
/-- Blob: bytes that are seen and, behind them, others as a blob, in new memory. -/
theorem blob_any (bv dv : Value) (zs ds : List Int) (w : World) (hs : Sees w .u8 bv zs) (hd : Sees w .u8 dv ds) (hn : zs.length + ds.length + 64 ≤ 140737488355328) :
    Calls Tryz.prog 72 #[bv, dv] w fun e w' => ∃ v', e = .returned v' ∧ w'.ownsRow w.heap.size 5 1 v' (zs.length + sizeL [(ds.length : Int)] + ds.length) (ints .u8 (zs ++ putL [(ds.length : Int)] ++ ds)) ∧ Below w.heap.size w w' := by
  obtain ⟨i0, hi, hz0, hz1, hz2⟩ := info_parts Tryz.info5
  have hI := I64_one (ds.length : Int) (by omega) (by omega)
  have h9 := sizeL_le [(ds.length : Int)]
  simp only [List.length_singleton] at h9
  have hd0 := hd
  obtain ⟨ao, cap, rfl, hlc, hnil, hc⟩ := hd0
  go_enter Tryz.func72, Tryz.ntmps72
  have hso := sees_one w ds.length
  have hsw : Sees (w.alloc (.cells #[.int .i64 (ds.length : Int)] 2)) .u8 bv zs := hs.below ((Below.refl _ _).alloc (Nat.le_refl _) _)
  go_wp2_with (go_at_call 109; refine (size_sees _ [(ds.length : Int)] _ hso (by simp) hI).mono ?_; rintro e w' ⟨rfl, rfl⟩)
  go_wp2_with (go_at_call 108; refine (copied_int bv zs _ _ hsw (by omega) (by omega)).mono ?_; rintro e w1 ⟨v1, rfl, ho1, hb1⟩)
  have hsz1 : w.heap.size + 1 ≤ w1.heap.size := by have := hb1.size; simp at this; omega
  have hso2 := sees_one w1 ds.length
  simp only [World.size_alloc] at ho1 hb1
  have hbw1 : Below w.heap.size w w1 := ((Below.refl _ _).alloc (Nat.le_refl _) _).trans (hb1.mono (by omega))
  clear hso hsw hs hd
  cases ao with
  | none =>
    obtain rfl := hnil rfl
    obtain rfl : ds = [] := List.length_eq_zero_iff.1 (by omega)
    clear hc hnil hlc
    go_wp2_with (first
      | (go_at_call 107; refine (putNums_sees (w.heap.size + 1) v1 _ _ zs [(([] : List Int).length : Int)] _ hso2 (by simp) hI (by omega) (apart_one w1 _ _) (ho1.alloc _) (by simp; omega)).mono ?_; rintro e w2 ⟨v2, rfl, ho2, hk2⟩)
      | (at_builtin; refine wpList_append_own_none rfl _ _ 26 rfl (w.heap.size + 1) 5 i0 1 Tryz.underlying26 hi _ _ _ rfl ho2 rfl ?_))
    have hbw2 : Below w.heap.size w w2 := (hbw1.alloc (by omega) _).trans (hk2.below.mono (by omega))
    go_ret
    exact ⟨_, rfl, own_mono (by simpa using ho2) (by omega), hbw2⟩
  | some a =>
    go_wp2_with (first
      | (go_at_call 107; refine (putNums_sees (w.heap.size + 1) v1 _ _ zs [(ds.length : Int)] _ hso2 (by simp) hI (by omega) (apart_one w1 _ _) (ho1.alloc _) (by simp; omega)).mono ?_; rintro e w2 ⟨v2, rfl, ho2, hk2⟩)
      | (at_builtin; refine wpList_append_own _ rfl _ _ 26 rfl (w.heap.size + 1) 5 i0 (.int .u8 0) 1 1 Tryz.underlying26 hi hz0 hz1 hz2 rfl (by decide) _ _ _ rfl ho2 a ds.length cap (ints .u8 ds) rfl ?c0 ?hnews (ints_cell _ _) ?c3 ?c4 ?c5 ?_))
    case c0 => rw [ints_length]; omega
    case hnews =>
      have hbw2 : Below w.heap.size w w2 := (hbw1.alloc (by omega) _).trans (hk2.below.mono (by omega))
      intro j u hu
      obtain ⟨hj, rfl⟩ := ints_get hu
      have := hc a rfl j hj
      exact (hbw2.cell (World.block_lt_of_cell? w _ this)).trans this
    case c3 => unfold maxLen; omega
    case c4 => omega
    case c5 => have := hk2.below.size; simp at this; omega
    intro v' w3 hown' hgrow _
    have hbw2 : Below w.heap.size w w2 := (hbw1.alloc (by omega) _).trans (hk2.below.mono (by omega))
    have hsz3 : w.heap.size ≤ w2.heap.size := hbw2.size
    go_wp2
    go_ret
    exact ⟨_, rfl, own_mono (by rw [ints_append]; exact hown') (by omega), hbw2.grown hgrow (by omega) (own_block_le (own_mono ho2 (by omega)))⟩

end Go.Proofs.YtggllgimlfchhabGreat

/- Contracts of Check, and of the document's own Check. -/
namespace Go.Proofs.YtggllgimlfchhabGreat
open Go.RowKit
set_option maxRecDepth 100000

/-- One step of the check. -/
def fstep (h x : Int) : Int := IntKind.u64.wrap (bits .xor .u64 h x * 1099511628211)
/-- The check of bytes, from h on. -/
def chkF : Int → List Int → Int
  | h, [] => h
  | h, x :: r => chkF (fstep h x) r
theorem chkF_append (h : Int) (a b : List Int) : chkF h (a ++ b) = chkF (chkF h a) b := by
  induction a generalizing h with
  | nil => rfl
  | cons x r ih => exact ih _
theorem chkF_snoc (h : Int) (l : List Int) (k : Nat) (hk : k < l.length) : chkF h (l.take (k + 1)) = fstep (chkF h (l.take k)) (l.getD k 0) := by
  rw [take_snoc l k hk, chkF_append]; rfl
theorem fstep_bounds (h x : Int) : 0 ≤ fstep h x ∧ fstep h x ≤ 18446744073709551615 := by
  unfold fstep; rw [IntKind.wrap_u64]; omega
theorem chkF_bounds (h : Int) (l : List Int) (h0 : 0 ≤ h) (h1 : h ≤ 18446744073709551615) : 0 ≤ chkF h l ∧ chkF h l ≤ 18446744073709551615 := by
  induction l generalizing h with
  | nil => exact ⟨h0, h1⟩
  | cons x r ih => exact ih _ (fstep_bounds h x).1 (fstep_bounds h x).2
/-- Where the check begins. -/
def c0 : Int := 14695981039346656037
theorem c0_bounds : 0 ≤ c0 ∧ c0 ≤ 18446744073709551615 := by unfold c0; omega

/-- A list of lists of bytes: the slices vs lie under lv, and each of them shows its bytes. -/
def SeesV (w : World) (lv : Value) (vs : List Value) (ls : List (List Int)) : Prop :=
  (∃ ao cap, lv = .slice ao vs.length cap ∧ vs.length ≤ cap ∧ (ao = none → cap = 0) ∧ ∀ a, ao = some a → ∀ t, t < vs.length → w.cell? (a.add t) = some (vs.getD t .nilIface)) ∧
  ls.length = vs.length ∧ ∀ t, t < vs.length → Sees w .u8 (vs.getD t .nilIface) (ls.getD t []) ∧ Byt (ls.getD t []) ∧ (ls.getD t []).length ≤ 140737488355328

theorem SeesV.below {w w' : World} {lv : Value} {vs : List Value} {ls : List (List Int)} (h : SeesV w lv vs ls) (hb : Below w.heap.size w w') : SeesV w' lv vs ls := by
  obtain ⟨⟨ao, cap, hv, hl, hn, ha⟩, h2, h3⟩ := h
  exact ⟨⟨ao, cap, hv, hl, hn, fun a e t ht => (hb.cell (World.block_lt_of_cell? w _ (ha a e t ht))).trans (ha a e t ht)⟩, h2, fun t ht => ⟨(h3 t ht).1.below hb, (h3 t ht).2⟩⟩

theorem flat_snoc (ls : List (List Int)) (k : Nat) (h : k < ls.length) : (ls.take (k + 1)).flatten = (ls.take k).flatten ++ ls.getD k [] := by
  rw [List.take_succ_eq_append_getElem h, List.flatten_append]
  simp only [List.flatten_cons, List.flatten_nil, List.append_nil]
  congr 1
  simp [List.getD, h]

set_option maxHeartbeats 1000000 in
/-- Check. -/
theorem check_any (lv : Value) (vs : List Value) (ls : List (List Int)) (w : World) (hs : SeesV w lv vs ls) (hm : vs.length ≤ 140737488355328) :
    Calls Tryz.prog 73 #[lv] w fun e w' => e = .returned (.int .u64 (chkF c0 ls.flatten)) ∧ w = w' := by
  obtain ⟨⟨ao, cap, rfl, hlc, hnil, hc⟩, hls, hall⟩ := hs
  have HLS := hide hls
  clear hls
  go_enter Tryz.func73, Tryz.ntmps73
  go_wp2
  go_loop [3, 10] (fun h i => ∃ k : Nat, k ≤ vs.length ∧ i = .int .i64 k ∧ h = .int .u64 (chkF c0 (ls.take k).flatten)) (fun _ i => vs.length - (intOf i).toNat)
  case atStart => exact ⟨0, Nat.zero_le _, rfl, rfl⟩
  case round =>
    obtain ⟨k, hk, rfl, rfl⟩ := hrel
    by_cases hlt : k < vs.length
    · cases ao with
      | none => have := hnil rfl; omega
      | some a =>
        have hcj := hc a rfl k hlt
        obtain ⟨hsv, hbv, hlv⟩ := hall k hlt
        have hfl := flat_snoc ls k (by rw [HLS.out]; exact hlt)
        have hst := chkF_append c0 (ls.take k).flatten (ls.getD k [])
        rw [← hfl] at hst
        obtain ⟨hb1, hb2⟩ := chkF_bounds c0 (ls.take k).flatten c0_bounds.1 c0_bounds.2
        clear hc hnil hall hfl
        generalize ls.getD k [] = zs at *
        generalize vs.getD k .nilIface = v at *
        generalize chkF c0 (ls.take k).flatten = h at *
        obtain ⟨ao2, cap2, rfl, hlc2, hnil2, hc2⟩ := hsv
        have HST := hide hst
        clear hst
        go_wp2
        go_loop [3, 16] (fun h' i => ∃ j : Nat, j ≤ zs.length ∧ i = .int .i64 j ∧ h' = .int .u64 (chkF h (zs.take j))) (fun _ i => zs.length - (intOf i).toNat)
        case atStart => exact ⟨0, Nat.zero_le _, rfl, rfl⟩
        case round =>
          obtain ⟨j, hj, rfl, rfl⟩ := hrel
          by_cases hlt2 : j < zs.length
          · cases ao2 with
            | none => have := hnil2 rfl; omega
            | some a2 =>
              have hcj2 := hc2 a2 rfl j hlt2
              obtain ⟨hg1, hg2⟩ := hbv.get j
              have hst2 := hide (chkF_snoc h zs j hlt2)
              obtain ⟨hd1, hd2⟩ := chkF_bounds h (zs.take j) hb1 hb2
              clear hc2 hnil2
              generalize zs.getD j 0 = x at *
              generalize hh : chkF h (zs.take j) = h' at *
              have HH := hide hh
              clear hh
              go_wp2
              go_round
              case rel => exact ⟨j + 1, by omega, by go_num, by rw [hst2.out]; rfl⟩
              case measure => simp [intOf]; omega
          · obtain rfl : j = zs.length := by omega
            rw [List.take_length]
            go_wp2
            go_round
            case rel => exact ⟨k + 1, by omega, by go_num, by rw [HST.out]⟩
            case measure => simp [intOf]; omega
    · go_wp2
      go_ret
      exact ⟨ret_int (by rw [List.take_of_length_le (by rw [HLS.out]; omega)]), rfl⟩

/-- A list of one list. -/
theorem seesV_one (w : World) (v : Value) (zs : List Int) (hs : Sees w .u8 v zs) (hb : Byt zs) (hm : zs.length ≤ 140737488355328) : SeesV (w.alloc (.cells #[v] 26)) (.slice (some ⟨w.heap.size, 0, none⟩) 1 1) [v] [zs] := by
  refine ⟨⟨_, 1, rfl, Nat.le_refl _, (fun h => by cases h), fun a h t ht => ?_⟩, rfl, fun t ht => ?_⟩
  · obtain rfl := Option.some.inj h
    obtain rfl : t = 0 := by simp at ht; omega
    exact cell_of_one (heap_alloc_new w _)
  · obtain rfl : t = 0 := by simp at ht; omega
    exact ⟨hs.below ((Below.refl _ _).alloc (Nat.le_refl _) _), hb, hm⟩

theorem check_one (w : World) (v : Value) (zs : List Int) (hs : Sees w .u8 v zs) (hb : Byt zs) (hm : zs.length ≤ 140737488355328) :
    Calls Tryz.prog 73 #[.slice (some ⟨w.heap.size, 0, none⟩) 1 1] (w.alloc (.cells #[v] 26)) fun e w' => e = .returned (.int .u64 (chkF c0 zs)) ∧ w.alloc (.cells #[v] 26) = w' := by
  have := check_any _ [v] [zs] _ (seesV_one w v zs hs hb hm) (by simp)
  simpa using this

end Go.Proofs.YtggllgimlfchhabGreat
