/- Contracts of Blob and bytes.Equal. -/
import Derived.Test.YthdghnppledakaaW3
namespace Go.Proofs.Ythdghnppledakaa
open Go.RowKit

theorem str_beq {xs ys : List Int} (hx : Byt xs) (hy : Byt ys) : ((strOf xs).toList == (strOf ys).toList) = decide (xs = ys) := by
  rw [ByteArray.toList_eq, ByteArray.toList_eq, Bool.eq_iff_iff]
  simp only [beq_iff_eq, decide_eq_true_eq]
  constructor
  · intro h
    refine strOf_inj hx hy ?_
    have : (strOf xs).data = (strOf ys).data := Array.toList_inj.1 h
    cases hs : strOf xs
    cases hs' : strOf ys
    rw [hs, hs'] at this
    simp_all
  · rintro rfl; rfl

set_option maxHeartbeats 400000 in
theorem equal_any (av bv : Value) (xs ys : List Int) (w : World) (ha : Sees w .u8 av xs) (hb : Sees w .u8 bv ys) (hx : Byt xs) (hy : Byt ys) :
    Calls Try.prog 12 #[av, bv] w fun e w' => e = .returned (.bool (decide (xs = ys))) ∧ w = w' := by
  have h1 := run_conv_sees (P := Try.prog) w 22 9 5 av xs Try.underlying22 Try.underlying5 Try.underlying9 ha hx
  have h2 := run_conv_sees (P := Try.prog) w 22 9 5 bv ys Try.underlying22 Try.underlying5 Try.underlying9 hb hy
  clear ha hb
  go_enter Try.func12, Try.ntmps12
  go_wp2
  go_ret
  exact ⟨by rw [← str_beq hx hy]; rfl, rfl⟩

set_option maxHeartbeats 400000 in
theorem check_nil (w : World) : Calls Try.prog 27 #[.slice none 0 0] w fun e w' => e = .returned (.int .u64 14695981039346656037) ∧ w = w' := by
  go_enter Try.func27, Try.ntmps27
  go_wp2
  refine wp_loop_rounds 1 ?_
  rw [rounds_succ]
  go_wp2
  go_ret
  exact ⟨rfl, rfl⟩

theorem sees_one (w : World) (x : Int) : Sees (w.alloc (.cells #[.int .i64 x] 2)) .i64 (.slice (some ⟨w.heap.size, 0, none⟩) 1 1) [x] := sees_new w .i64 [x] 2 1 rfl
theorem apart_one (w : World) (x : Int) (base : Nat) : ∀ a c, (Value.slice (some ⟨w.heap.size, 0, none⟩) 1 1) = .slice (some a) [x].length c → ∀ t, t < [x].length → Apart (w.alloc (.cells #[.int .i64 x] 2)) base (a.add t) := by
  intro a c e t ht
  simp only [Value.slice.injEq, Option.some.injEq] at e
  obtain ⟨rfl, _, _⟩ := e
  obtain rfl : t = 0 := by simp at ht; omega
  exact .inr ⟨_, _, heap_alloc_new w _⟩
theorem I64_one (x : Int) (h1 : -9223372036854775808 ≤ x) (h2 : x ≤ 9223372036854775807) : I64 [x] := by
  intro t ht
  obtain rfl : t = 0 := by simp at ht; omega
  exact ⟨h1, h2⟩

theorem copied_int (v : Value) (zs : List Int) (m : Int) (w : World) (hs : Sees w .u8 v zs) (h0 : 0 ≤ m) (hn : zs.length + m ≤ 140737488355328) :
    Calls Try.prog 33 #[v, .int .i64 m] w fun e w' => ∃ v', e = .returned v' ∧ w'.ownsRow w.heap.size 5 1 v' zs.length (ints .u8 zs) ∧ Below w.heap.size w w' := by
  obtain ⟨k, rfl⟩ := Int.eq_ofNat_of_zero_le h0
  exact copied_any v zs k w hs (by omega)

set_option maxHeartbeats 800000 in
/-- Blob: bytes that are seen and, behind them, others as a blob, in new memory. -/
theorem blob_any (bv dv : Value) (zs ds : List Int) (w : World) (hs : Sees w .u8 bv zs) (hd : Sees w .u8 dv ds) (hn : zs.length + ds.length + 64 ≤ 140737488355328) :
    Calls Try.prog 20 #[bv, dv] w fun e w' => ∃ v', e = .returned v' ∧ w'.ownsRow w.heap.size 5 1 v' (zs.length + sizeL [(ds.length : Int)] + ds.length) (ints .u8 (zs ++ putL [(ds.length : Int)] ++ ds)) ∧ Below w.heap.size w w' := by
  obtain ⟨i0, hi, hz0, hz1, hz2⟩ := info_parts Try.info5
  have hI := I64_one (ds.length : Int) (by omega) (by omega)
  have h9 := sizeL_le [(ds.length : Int)]
  simp only [List.length_singleton] at h9
  have hd0 := hd
  obtain ⟨ao, cap, rfl, hlc, hnil, hc⟩ := hd0
  go_enter Try.func20, Try.ntmps20
  have hso := sees_one w ds.length
  have hsw : Sees (w.alloc (.cells #[.int .i64 (ds.length : Int)] 2)) .u8 bv zs := hs.below ((Below.refl _ _).alloc (Nat.le_refl _) _)
  go_wp2_with (go_at_call 15; refine (size_sees _ [(ds.length : Int)] _ hso (by simp) hI).mono ?_; rintro e w' ⟨rfl, rfl⟩)
  go_wp2_with (go_at_call 33; refine (copied_int bv zs _ _ hsw (by omega) (by omega)).mono ?_; rintro e w1 ⟨v1, rfl, ho1, hb1⟩)
  have hsz1 : w.heap.size + 1 ≤ w1.heap.size := by have := hb1.size; simp at this; omega
  have hso2 := sees_one w1 ds.length
  simp only [World.size_alloc] at ho1 hb1
  have hbw1 : Below w.heap.size w w1 := ((Below.refl _ _).alloc (Nat.le_refl _) _).trans (hb1.mono (by omega))
  clear hso hsw hs hd
  cases ao with
  | none =>
    obtain rfl := hnil rfl
    obtain rfl : ds = [] := List.length_eq_zero_iff.1 (by omega)
    clear hc hnil hlc
    go_wp2_with (first
      | (go_at_call 32; refine (putNums_sees (w.heap.size + 1) v1 _ _ zs [(([] : List Int).length : Int)] _ hso2 (by simp) hI (by omega) (apart_one w1 _ _) (ho1.alloc _) (by simp; omega)).mono ?_; rintro e w2 ⟨v2, rfl, ho2, hk2⟩)
      | (at_builtin; refine wpList_append_own_none rfl _ _ 22 rfl (w.heap.size + 1) 5 i0 1 Try.underlying22 hi _ _ _ rfl ho2 rfl ?_))
    have hbw2 : Below w.heap.size w w2 := (hbw1.alloc (by omega) _).trans (hk2.below.mono (by omega))
    go_ret
    exact ⟨_, rfl, own_mono (by simpa using ho2) (by omega), hbw2⟩
  | some a =>
    go_wp2_with (first
      | (go_at_call 32; refine (putNums_sees (w.heap.size + 1) v1 _ _ zs [(ds.length : Int)] _ hso2 (by simp) hI (by omega) (apart_one w1 _ _) (ho1.alloc _) (by simp; omega)).mono ?_; rintro e w2 ⟨v2, rfl, ho2, hk2⟩)
      | (at_builtin; refine wpList_append_own _ rfl _ _ 22 rfl (w.heap.size + 1) 5 i0 (.int .u8 0) 1 1 Try.underlying22 hi hz0 hz1 hz2 rfl (by decide) _ _ _ rfl ho2 a ds.length cap (ints .u8 ds) rfl ?c0 ?hnews (ints_cell _ _) ?c3 ?c4 ?c5 ?_))
    case c0 => rw [ints_length]; omega
    case hnews =>
      have hbw2 : Below w.heap.size w w2 := (hbw1.alloc (by omega) _).trans (hk2.below.mono (by omega))
      intro j u hu
      obtain ⟨hj, rfl⟩ := ints_get hu
      have := hc a rfl j hj
      exact (hbw2.cell (World.block_lt_of_cell? w _ this)).trans this
    case c3 => unfold maxLen; omega
    case c4 => omega
    case c5 => have := hk2.below.size; simp at this; omega
    intro v' w3 hown' hgrow _
    have hbw2 : Below w.heap.size w w2 := (hbw1.alloc (by omega) _).trans (hk2.below.mono (by omega))
    have hsz3 : w.heap.size ≤ w2.heap.size := hbw2.size
    go_wp2
    go_ret
    exact ⟨_, rfl, own_mono (by rw [ints_append]; exact hown') (by omega), hbw2.grown hgrow (by omega) (own_block_le (own_mono ho2 (by omega)))⟩

end Go.Proofs.Ythdghnppledakaa
