/- Several texts as one. -/
import Derived.Test.YtggllgimlfchhaaGreatKS
import Derived.Deep.QuietTactic
import Derived.BigQuiet
import Derived.Deep.RegionHeld3

/- Contracts of Blob and bytes.Equal. -/
namespace Go.Proofs.YtggllgimlfchhaaGreat
open Go.RowKit
set_option maxRecDepth 100000

theorem str_beq {xs ys : List Int} (hx : Byt xs) (hy : Byt ys) : ((strOf xs).toList == (strOf ys).toList) = decide (xs = ys) := by
  rw [ByteArray.toList_eq, ByteArray.toList_eq, Bool.eq_iff_iff]
  simp only [beq_iff_eq, decide_eq_true_eq]
  constructor
  · intro h
    refine strOf_inj hx hy ?_
    have : (strOf xs).data = (strOf ys).data := Array.toList_inj.1 h
    cases hs : strOf xs
    cases hs' : strOf ys
    rw [hs, hs'] at this
    simp_all
  · rintro rfl; rfl

set_option maxHeartbeats 400000 in
theorem equal_any (av bv : Value) (xs ys : List Int) (w : World) (ha : Sees w .u8 av xs) (hb : Sees w .u8 bv ys) (hx : Byt xs) (hy : Byt ys) :
    Calls Tryz.prog 19 #[av, bv] w fun e w' => e = .returned (.bool (decide (xs = ys))) ∧ w = w' := by
  have h1 := run_conv_sees (P := Tryz.prog) w 23 9 5 av xs Tryz.underlying23 Tryz.underlying5 Tryz.underlying9 ha hx
  have h2 := run_conv_sees (P := Tryz.prog) w 23 9 5 bv ys Tryz.underlying23 Tryz.underlying5 Tryz.underlying9 hb hy
  clear ha hb
  go_enter Tryz.func19, Tryz.ntmps19
  go_wp2
  go_ret
  exact ⟨by rw [← str_beq hx hy]; rfl, rfl⟩


theorem sees_one (w : World) (x : Int) : Sees (w.alloc (.cells #[.int .i64 x] 2)) .i64 (.slice (some ⟨w.heap.size, 0, none⟩) 1 1) [x] := sees_new w .i64 [x] 2 1 rfl
theorem apart_one (w : World) (x : Int) (base : Nat) : ∀ a c, (Value.slice (some ⟨w.heap.size, 0, none⟩) 1 1) = .slice (some a) [x].length c → ∀ t, t < [x].length → Apart (w.alloc (.cells #[.int .i64 x] 2)) base (a.add t) := by
  intro a c e t ht
  simp only [Value.slice.injEq, Option.some.injEq] at e
  obtain ⟨rfl, _, _⟩ := e
  obtain rfl : t = 0 := by simp at ht; omega
  exact .inr ⟨_, _, heap_alloc_new w _⟩
theorem I64_one (x : Int) (h1 : -9223372036854775808 ≤ x) (h2 : x ≤ 9223372036854775807) : I64 [x] := by
  intro t ht
  obtain rfl : t = 0 := by simp at ht; omega
  exact ⟨h1, h2⟩

theorem copied_int (v : Value) (zs : List Int) (m : Int) (w : World) (hs : Sees w .u8 v zs) (h0 : 0 ≤ m) (hn : zs.length + m ≤ 140737488355328) :
    Calls Tryz.prog 129 #[v, .int .i64 m] w fun e w' => ∃ v', e = .returned v' ∧ w'.ownsRow w.heap.size 5 1 v' zs.length (ints .u8 zs) ∧ Below w.heap.size w w' := by
  obtain ⟨k, rfl⟩ := Int.eq_ofNat_of_zero_le h0
  exact copied_any v zs k w hs (by omega)

set_option maxHeartbeats 800000 in
/-- Blob: bytes that are seen and, behind them, others as a blob, in new memory. -/
theorem blob_any (bv dv : Value) (zs ds : List Int) (w : World) (hs : Sees w .u8 bv zs) (hd : Sees w .u8 dv ds) (hn : zs.length + ds.length + 64 ≤ 140737488355328) :
    Calls Tryz.prog 79 #[bv, dv] w fun e w' => ∃ v', e = .returned v' ∧ w'.ownsRow w.heap.size 5 1 v' (zs.length + sizeL [(ds.length : Int)] + ds.length) (ints .u8 (zs ++ putL [(ds.length : Int)] ++ ds)) ∧ Below w.heap.size w w' := by
  obtain ⟨i0, hi, hz0, hz1, hz2⟩ := info_parts Tryz.info5
  have hI := I64_one (ds.length : Int) (by omega) (by omega)
  have h9 := sizeL_le [(ds.length : Int)]
  simp only [List.length_singleton] at h9
  have hd0 := hd
  obtain ⟨ao, cap, rfl, hlc, hnil, hc⟩ := hd0
  go_enter Tryz.func79, Tryz.ntmps79
  have hso := sees_one w ds.length
  have hsw : Sees (w.alloc (.cells #[.int .i64 (ds.length : Int)] 2)) .u8 bv zs := hs.below ((Below.refl _ _).alloc (Nat.le_refl _) _)
  go_wp2_with (go_at_call 130; refine (size_sees _ [(ds.length : Int)] _ hso (by simp) hI).mono ?_; rintro e w' ⟨rfl, rfl⟩)
  go_wp2_with (go_at_call 129; refine (copied_int bv zs _ _ hsw (by omega) (by omega)).mono ?_; rintro e w1 ⟨v1, rfl, ho1, hb1⟩)
  have hsz1 : w.heap.size + 1 ≤ w1.heap.size := by have := hb1.size; simp at this; omega
  have hso2 := sees_one w1 ds.length
  simp only [World.size_alloc] at ho1 hb1
  have hbw1 : Below w.heap.size w w1 := ((Below.refl _ _).alloc (Nat.le_refl _) _).trans (hb1.mono (by omega))
  clear hso hsw hs hd
  cases ao with
  | none =>
    obtain rfl := hnil rfl
    obtain rfl : ds = [] := List.length_eq_zero_iff.1 (by omega)
    clear hc hnil hlc
    go_wp2_with (first
      | (go_at_call 128; refine (putNums_sees (w.heap.size + 1) v1 _ _ zs [(([] : List Int).length : Int)] _ hso2 (by simp) hI (by omega) (apart_one w1 _ _) (ho1.alloc _) (by simp; omega)).mono ?_; rintro e w2 ⟨v2, rfl, ho2, hk2⟩)
      | (at_builtin; refine wpList_append_own_none rfl _ _ 23 rfl (w.heap.size + 1) 5 i0 1 Tryz.underlying23 hi _ _ _ rfl ho2 rfl ?_))
    have hbw2 : Below w.heap.size w w2 := (hbw1.alloc (by omega) _).trans (hk2.below.mono (by omega))
    go_ret
    exact ⟨_, rfl, own_mono (by simpa using ho2) (by omega), hbw2⟩
  | some a =>
    go_wp2_with (first
      | (go_at_call 128; refine (putNums_sees (w.heap.size + 1) v1 _ _ zs [(ds.length : Int)] _ hso2 (by simp) hI (by omega) (apart_one w1 _ _) (ho1.alloc _) (by simp; omega)).mono ?_; rintro e w2 ⟨v2, rfl, ho2, hk2⟩)
      | (at_builtin; refine wpList_append_own _ rfl _ _ 23 rfl (w.heap.size + 1) 5 i0 (.int .u8 0) 1 1 Tryz.underlying23 hi hz0 hz1 hz2 rfl (by decide) _ _ _ rfl ho2 a ds.length cap (ints .u8 ds) rfl ?c0 ?hnews (ints_cell _ _) ?c3 ?c4 ?c5 ?_))
    case c0 => rw [ints_length]; omega
    case hnews =>
      have hbw2 : Below w.heap.size w w2 := (hbw1.alloc (by omega) _).trans (hk2.below.mono (by omega))
      intro j u hu
      obtain ⟨hj, rfl⟩ := ints_get hu
      have := hc a rfl j hj
      exact (hbw2.cell (World.block_lt_of_cell? w _ this)).trans this
    case c3 => unfold maxLen; omega
    case c4 => omega
    case c5 => have := hk2.below.size; simp at this; omega
    intro v' w3 hown' hgrow _
    have hbw2 : Below w.heap.size w w2 := (hbw1.alloc (by omega) _).trans (hk2.below.mono (by omega))
    have hsz3 : w.heap.size ≤ w2.heap.size := hbw2.size
    go_wp2
    go_ret
    exact ⟨_, rfl, own_mono (by rw [ints_append]; exact hown') (by omega), hbw2.grown hgrow (by omega) (own_block_le (own_mono ho2 (by omega)))⟩

end Go.Proofs.YtggllgimlfchhaaGreat

/- Contracts of the reader: next, low, number. -/
namespace Go.Proofs.YtggllgimlfchhaaGreat
open Go.RowKit
set_option maxRecDepth 100000

theorem must_okq (er : Int) (w : World) :
    Calls Tryz.prog 142 #[.bool true, .int .i64 er] w fun e w' => e = .returned (.tuple #[]) ∧ w' = w := (must_ok er w).mono fun _ _ h => ⟨h.1, h.2.symm⟩

set_option maxHeartbeats 400000 in
theorem next_cells (R : Nat) (ao : Option Addr) (len cap p n : Nat) (w : World) (hl : len ≤ cap) (hm : len ≤ 140737488355328) (hp : p + n ≤ len)
    (h0 : w.cell? ⟨R, 0, none⟩ = some (.slice ao len cap)) (h1 : w.cell? ⟨R, 1, none⟩ = some (.int .i64 p)) (f1 : w.frozen? ⟨R, 1, none⟩ = false) :
    Calls Tryz.prog 143 #[.pointer (some ⟨R, 0, none⟩), .int .i64 n] w fun e w' => e = .returned (.slice (if cap = p then ao else ao.map (·.add p)) (p + n - p) (cap - p)) ∧ ∃ j k, w' = ((w.drewN j).setCell ⟨R, 1, none⟩ (.int .i64 ((p + n : Nat) : Int))).drewN k := by
  have hle : decide ((n : Int) ≤ (len : Int) - (p : Int)) = true := by simp; omega
  have ep : ((p + n : Nat) : Int) = (p : Int) + (n : Int) := by omega
  rw [ep]
  clear ep
  by_cases hcp : cap = p
  · rw [if_pos hcp]
    subst hcp
    rw [Nat.sub_self cap]
    go_enter Tryz.func143, Tryz.ntmps143
    go_wp2
    go_quiet ((go_at_call 142; exact Calls.quiet_of_same (must_okq _ _)))
    go_wp2
    go_quiet (fail)
    go_wp2
    go_ret
    exact ⟨rfl, _, _, rfl⟩
  · rw [if_neg hcp]
    go_enter Tryz.func143, Tryz.ntmps143
    go_wp2
    go_quiet ((go_at_call 142; exact Calls.quiet_of_same (must_okq _ _)))
    go_wp2
    go_quiet (fail)
    go_wp2
    go_ret
    exact ⟨rfl, _, _, rfl⟩

set_option maxHeartbeats 800000 in
theorem next_short (R : Nat) (ao : Option Addr) (len cap p : Nat) (n : Int) (w : World) (hm : len ≤ 140737488355328) (hp : p ≤ len) (hn : (len : Int) - p < n)
    (h0 : w.cell? ⟨R, 0, none⟩ = some (.slice ao len cap)) (h1 : w.cell? ⟨R, 1, none⟩ = some (.int .i64 p)) :
    Calls Tryz.prog 143 #[.pointer (some ⟨R, 0, none⟩), .int .i64 n] w fun e w' => e = .panicked [{ v := .iface 166 (.agg #[.int .i64 10]), recovered := false }] ∧ w' = w.drew := by
  have hw : IntKind.i64.wrap ((len : Int) - (p : Int)) = (len : Int) - (p : Int) := by rw [IntKind.wrap_i64]; omega
  have HW : Hid (decide (n ≤ IntKind.i64.wrap ((len : Int) - (p : Int))) = false) := by rw [hw]; show decide _ = false; simp; omega
  clear hw hn
  go_enter Tryz.func143, Tryz.ntmps143
  go_wp2
  refine wp_region_held_drew (S := fun w' => w'.cell? ⟨R, 0, none⟩ = some (.slice ao len cap) ∧ w'.cell? ⟨R, 1, none⟩ = some (.int .i64 p)) (by kernel_rfl) ⟨by simpa using h0, by simpa using h1⟩ (fun hHeld => ?_)
  refine wpAnyH_take (i := 0) (v := ?v0) rfl (by kernel_rfl) (by kernel_rfl) (by kernel_rfl) (fun _ _ _ h => h) (Or.inl ⟨by rfl, ?hy0⟩) (by assumption) ?rest0
  case hy0 => intro w hSw; go_simp <;> with_reducible rfl
  simp only [Act.put, List.getElem_toArray, List.getElem_cons_zero, List.setIfInBounds_toArray, List.set_cons_zero, List.set_cons_succ]
  refine wpAnyH_take (i := 1) (v := ?v1) rfl (by kernel_rfl) (by kernel_rfl) (by kernel_rfl) (fun _ _ _ h => h) (Or.inl ⟨by rfl, ?hy1⟩) (by assumption) ?rest1
  case hy1 => intro w hSw; go_simp <;> with_reducible rfl
  simp only [Act.put, List.getElem_toArray, List.getElem_cons_zero, List.getElem_cons_succ, List.setIfInBounds_toArray, List.set_cons_zero, List.set_cons_succ]
  refine wpAnyH_take (i := 2) (v := ?v2) rfl (by kernel_rfl) (by kernel_rfl) (by kernel_rfl) (fun _ _ _ h => h) (Or.inl ⟨by rfl, ?hy2⟩) (by assumption) ?rest2
  case hy2 => intro w hSw; go_simp <;> with_reducible rfl
  simp only [Act.put, List.getElem_toArray, List.getElem_cons_zero, List.getElem_cons_succ, List.setIfInBounds_toArray, List.set_cons_zero, List.set_cons_succ]
  refine wpAnyH_take (i := 3) (v := ?v3) rfl (by kernel_rfl) (by kernel_rfl) (by kernel_rfl) (fun _ _ _ h => h) (Or.inl ⟨by rfl, ?hy3⟩) (by assumption) ?rest3
  case hy3 => intro w hSw; go_simp <;> with_reducible rfl
  simp only [Act.put, List.getElem_toArray, List.getElem_cons_zero, List.getElem_cons_succ, List.setIfInBounds_toArray, List.set_cons_zero, List.set_cons_succ]
  refine wpAnyH_take (i := 4) (v := ?v4) rfl (by kernel_rfl) (by kernel_rfl) (by kernel_rfl) (fun _ _ _ h => h) (Or.inl ⟨by rfl, ?hy4⟩) (by assumption) ?rest4
  case hy4 => intro w hSw; go_simp <;> with_reducible rfl
  simp only [Act.put, List.getElem_toArray, List.getElem_cons_zero, List.getElem_cons_succ, List.setIfInBounds_toArray, List.set_cons_zero, List.set_cons_succ]
  refine wpAnyH_take (i := 5) (v := ?v5) rfl (by kernel_rfl) (by kernel_rfl) (by kernel_rfl) (fun _ _ _ h => h) (Or.inl ⟨by rfl, ?hy5⟩) (by assumption) ?rest5
  case hy5 => intro w hSw; go_simp <;> with_reducible rfl
  simp only [Act.put, List.getElem_toArray, List.getElem_cons_zero, List.getElem_cons_succ, List.setIfInBounds_toArray, List.set_cons_zero, List.set_cons_succ]
  refine wpAnyH_take (i := 6) (v := ?v6) rfl (by kernel_rfl) (by kernel_rfl) (by kernel_rfl) (fun _ _ _ h => h) (Or.inl ⟨by rfl, ?hy6⟩) (by assumption) ?rest6
  case hy6 => intro w hSw; go_simp <;> with_reducible rfl
  simp only [Act.put, List.getElem_toArray, List.getElem_cons_zero, List.getElem_cons_succ, List.setIfInBounds_toArray, List.set_cons_zero, List.set_cons_succ]
  refine wpAnyH_take (i := 7) (v := ?v7) rfl (by kernel_rfl) (by kernel_rfl) (by kernel_rfl) (fun _ _ _ h => h) (Or.inl ⟨by rfl, ?hy7⟩) (by assumption) ?rest7
  case hy7 => intro w hSw; go_simp <;> with_reducible rfl
  simp only [Act.put, List.getElem_toArray, List.getElem_cons_zero, List.getElem_cons_succ, List.setIfInBounds_toArray, List.set_cons_zero, List.set_cons_succ]
  refine wpAnyH_take (i := 8) (v := ?v8) rfl (by kernel_rfl) (by kernel_rfl) (by kernel_rfl) (fun _ _ _ h => h) (Or.inl ⟨by rfl, ?hy8⟩) (by assumption) ?rest8
  case hy8 => intro w hSw; go_simp <;> with_reducible rfl
  simp only [Act.put, List.getElem_toArray, List.getElem_cons_zero, List.getElem_cons_succ, List.setIfInBounds_toArray, List.set_cons_zero, List.set_cons_succ]
  refine wpAnyH_take (i := 9) (v := ?v9) rfl (by kernel_rfl) (by kernel_rfl) (by kernel_rfl) (fun _ _ _ h => h) (Or.inl ⟨by rfl, ?hy9⟩) (by assumption) ?rest9
  case hy9 => intro w hSw; go_simp <;> with_reducible rfl
  simp only [Act.put, List.getElem_toArray, List.getElem_cons_zero, List.getElem_cons_succ, List.setIfInBounds_toArray, List.set_cons_zero, List.set_cons_succ]
  refine wpAnyH_take (i := 10) (v := ?v10) rfl (by kernel_rfl) (by kernel_rfl) (by kernel_rfl) (fun _ _ _ h => h) (Or.inl ⟨by rfl, ?hy10⟩) (by assumption) ?rest10
  case hy10 => intro w hSw; go_simp <;> with_reducible rfl
  simp only [Act.put, List.getElem_toArray, List.getElem_cons_zero, List.getElem_cons_succ, List.setIfInBounds_toArray, List.set_cons_zero, List.set_cons_succ]
  refine wpAnyH_take (i := 11) (v := ?v11) rfl (by kernel_rfl) (by kernel_rfl) (by kernel_rfl) (fun _ _ _ h => h) (Or.inl ⟨by rfl, ?hy11⟩) (by assumption) ?rest11
  case hy11 => intro w hSw; go_simp <;> with_reducible rfl
  simp only [Act.put, List.getElem_toArray, List.getElem_cons_zero, List.getElem_cons_succ, List.setIfInBounds_toArray, List.set_cons_zero, List.set_cons_succ]
  refine wpAnyH_ready (rs := [12]) (by kernel_rfl) (by simp) ?_
  refine AllReadyH.cons rfl (fun K hK => ?_) AllReadyH.nil
  go_simp
  rw [HW.out]
  refine (must_no _ _).mono ?_
  rintro e w' ⟨rfl, rfl⟩
  exact ⟨rfl, rfl, rfl⟩

end Go.Proofs.YtggllgimlfchhaaGreat
