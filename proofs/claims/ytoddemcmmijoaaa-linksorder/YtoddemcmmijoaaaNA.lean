/- Contracts of slices.Clone: bytes, numbers, keys. -/
import Derived.Test.YtoddemcmmijoaaaKM
import Derived.Test.YtoddemcmmijoaaaKZ27
namespace Go.Proofs.Ytoddemcmmijoaaa
open Go.RowKit
set_option maxRecDepth 100000

set_option maxHeartbeats 400000 in
theorem cloneB_any (bv : Value) (zs : List Int) (w : World) (hs : Sees w .u8 bv zs) (hm : zs.length ≤ 140737488355328) :
    Calls Try.prog 32 #[bv] w fun e w' => ∃ x, e = .returned x ∧ w'.ownsRow w.heap.size 5 1 x zs.length (ints .u8 zs) ∧ Below w.heap.size w w' := by
  obtain ⟨i0, hi, hz0, hz1, hz2⟩ := info_parts Try.info5
  have HS := hide hs
  have hE := fun (w : World) a n c => Lib.run_eql_slice_nil (P := Try.prog) w 34 5 a n c 0 0 Try.underlying34
  obtain ⟨ao, cap, rfl, hlc, hnil, hc⟩ := hs
  clear hc
  cases ao with
  | none =>
    obtain rfl := hnil rfl
    obtain rfl : zs = [] := List.length_eq_zero_iff.1 (by omega)
    go_enter Try.func32, Try.ntmps32
    go_wp2
    go_ret
    exact ⟨_, rfl, World.ownsRow_nil _ _ _ _, Below.refl _ _⟩
  | some a =>
    go_enter Try.func32, Try.ntmps32
    go_wp2_with (at_builtin; refine wpList_append_sees rfl _ _ 34 rfl w.heap.size 5 i0 (.int .u8 0) 1 Try.underlying34 hi hz0 hz1 hz2 rfl _ 0 [] rfl (own_new w .u8 [] 5 w.heap.size 0 rfl (Nat.le_refl _) (by decide)) .u8 _ zs rfl ?d0 ?d1 ?d2 ?d3 ?_)
    case d0 => exact (unhide HS).below ((Below.refl _ _).alloc (Nat.le_refl _) _)
    case d1 => unfold maxLen; omega
    case d2 => omega
    case d3 => simp
    intro x w1 ho hg
    go_wp2
    go_ret
    refine ⟨x, rfl, by simpa using ho, ((Below.refl _ _).alloc (Nat.le_refl _) _).grown hg (by simp) ?_⟩
    intro k hk
    simp [Value.ownBlock] at hk
    omega

set_option maxHeartbeats 400000 in
theorem cloneI_any (bv : Value) (zs : List Int) (w : World) (hs : Sees w .i64 bv zs) (hm : zs.length ≤ 17592186043904) :
    Calls Try.prog 56 #[bv] w fun e w' => ∃ x, e = .returned x ∧ w'.ownsRow w.heap.size 2 1 x zs.length (ints .i64 zs) ∧ Below w.heap.size w w' := by
  obtain ⟨i0, hi, hz0, hz1, hz2⟩ := info_parts Try.info2
  have HS := hide hs
  have hE := fun (w : World) a n c => Lib.run_eql_slice_nil (P := Try.prog) w 78 2 a n c 0 0 Try.underlying78
  obtain ⟨ao, cap, rfl, hlc, hnil, hc⟩ := hs
  clear hc
  cases ao with
  | none =>
    obtain rfl := hnil rfl
    obtain rfl : zs = [] := List.length_eq_zero_iff.1 (by omega)
    go_enter Try.func56, Try.ntmps56
    go_wp2
    go_ret
    exact ⟨_, rfl, World.ownsRow_nil _ _ _ _, Below.refl _ _⟩
  | some a =>
    go_enter Try.func56, Try.ntmps56
    go_wp2_with (at_builtin; refine wpList_append_sees rfl _ _ 78 rfl w.heap.size 2 i0 (.int .i64 0) 8 Try.underlying78 hi hz0 hz1 hz2 rfl _ 0 [] rfl (own_new w .i64 [] 2 w.heap.size 0 rfl (Nat.le_refl _) (by decide)) .i64 _ zs rfl ?d0 ?d1 ?d2 ?d3 ?_)
    case d0 => exact (unhide HS).below ((Below.refl _ _).alloc (Nat.le_refl _) _)
    case d1 => unfold maxLen; omega
    case d2 => omega
    case d3 => simp
    intro x w1 ho hg
    go_wp2
    go_ret
    refine ⟨x, rfl, by simpa using ho, ((Below.refl _ _).alloc (Nat.le_refl _) _).grown hg (by simp) ?_⟩
    intro k hk
    simp [Value.ownBlock] at hk
    omega


theorem own_empty0 (w : World) (T size : Nat) : (w.alloc (.cells #[] T)).ownsRow w.heap.size T size (.slice (some ⟨w.heap.size, 0, none⟩) 0 0) 0 [] :=
  ⟨by simp, .inr ⟨w.heap.size, 0, #[], rfl, Nat.le_refl _, heap_alloc_new w _, Nat.le_refl _, by unfold maxLen; omega, by simp, by simp⟩⟩
theorem keyCs_length : ∀ l : List (Int × Int), (keyCs l).length = l.length * 2
  | [] => rfl
  | k :: l => by simp only [keyCs, List.length_cons, keyCs_length l]; omega
theorem keyCs_one : ∀ (l : List (Int × Int)), ∀ u ∈ keyCs l, u.oneCell' = true
  | [], u, h => by cases h
  | k :: l, u, h => by
    simp only [keyCs, List.mem_cons] at h
    rcases h with rfl | rfl | h
    · rfl
    · rfl
    · exact keyCs_one l u h
theorem keys_cells {w : World} {gb ob : Nat} {l : List (Int × Int)} (h : ∀ t, t < l.length → w.cell? ⟨gb, ob + t * 2, none⟩ = some (.int .i32 (l.getD t (0, 0)).1) ∧ w.cell? ⟨gb, ob + t * 2 + 1, none⟩ = some (.int .i64 (l.getD t (0, 0)).2)) (j : Nat) (u : Value) (hu : (keyCs l)[j]? = some u) : w.cell? ((⟨gb, ob, none⟩ : Addr).add j) = some u := by
  have hj : j < l.length * 2 := by have := (List.getElem?_eq_some_iff.1 hu).1; rwa [keyCs_length] at this
  have hadd : (⟨gb, ob, none⟩ : Addr).add j = ⟨gb, ob + j, none⟩ := by unfold Addr.add; split <;> simp_all
  rw [hadd]
  have ht : j / 2 < l.length := by omega
  obtain ⟨c0, c1⟩ := h (j / 2) ht
  obtain ⟨k0, k1⟩ := keyCs_at l (j / 2) ht
  by_cases e : j % 2 = 0
  · have ej : j / 2 * 2 = j := by omega
    rw [ej] at k0 c0
    rw [k0] at hu
    rw [c0, hu]
  · have ej : j / 2 * 2 + 1 = j := by omega
    rw [ej] at k1
    rw [Nat.add_assoc, ej] at c1
    rw [k1] at hu
    rw [c1, hu]

set_option maxHeartbeats 400000 in
theorem cloneK_any (v : Value) (l : List (Int × Int)) (w : World) (hs : SeesK w v l) (hm : l.length ≤ 8796093021952) :
    Calls Try.prog 57 #[v] w fun e w' => ∃ x, e = .returned x ∧ w'.ownsRow w.heap.size 103 2 x l.length (keyCs l) ∧ Below w.heap.size w w' := by
  obtain ⟨i0, hi, hz0, hz1, hz2⟩ := info_parts Try.info103
  have hE := fun (w : World) a n c => Lib.run_eql_slice_nil (P := Try.prog) w 79 103 a n c 0 0 Try.underlying79
  obtain ⟨ao, cap, gb, ob, rfl, hlc, _, hao, hc⟩ := hs
  have HC := hide hc
  clear hc
  cases ao with
  | none =>
    obtain rfl : l = [] := by
      cases l with
      | nil => rfl
      | cons x r => have := hao (by simp); cases this
    go_enter Try.func57, Try.ntmps57
    go_wp2
    go_ret
    exact ⟨_, rfl, World.ownsRow_nil _ _ _ _, Below.refl _ _⟩
  | some a =>
    have HN : Hid (∀ j u, (keyCs l)[j]? = some u → (w.alloc (.cells #[] 103)).cell? (a.add j) = some u) := fun j u hu => by
      have hpos : 0 < l.length := by
        have := (List.getElem?_eq_some_iff.1 hu).1; rw [keyCs_length] at this; omega
      obtain rfl := Option.some.inj (hao hpos)
      have := keys_cells (unhide HC) j u hu
      exact (World.cell?_alloc_lt _ _ _ (World.block_lt_of_cell? w _ this)).trans this
    clear hao HC
    go_enter Try.func57, Try.ntmps57
    go_wp2_with (at_builtin; refine wpList_append_own _ rfl _ _ 79 rfl w.heap.size 103 i0 (.agg #[.int .i32 0, .int .i64 0]) 2 16 Try.underlying79 hi hz0 hz1 hz2 rfl (by decide) _ 0 [] rfl (own_empty0 w 103 2) a l.length cap (keyCs l) rfl (keyCs_length l) (unhide HN) (keyCs_one l) ?d2 ?d3 ?d4 ?_)
    case d2 => unfold maxLen; omega
    case d3 => omega
    case d4 => simp
    intro x w1 ho hg _
    go_wp2
    go_ret
    refine ⟨x, rfl, by simpa using ho, ((Below.refl _ _).alloc (Nat.le_refl _) _).grown hg (by simp) ?_⟩
    intro k hk
    simp [Value.ownBlock] at hk
    omega
end Go.Proofs.Ytoddemcmmijoaaa
