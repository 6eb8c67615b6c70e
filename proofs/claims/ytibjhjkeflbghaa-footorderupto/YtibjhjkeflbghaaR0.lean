/- slices.Contains of numbers and of locks. -/
import Derived.Test.YtibjhjkeflbghaaKI
namespace Go.Proofs.Ytibjhjkeflbghaa
open Go.RowKit
set_option maxRecDepth 100000

theorem getD_mem' {α : Type} [Inhabited α] {l : List α} {t : Nat} (h : t < l.length) : l.getD t default ∈ l := by
  have : l.getD t default = l[t] := by simp [List.getD, h]
  rw [this]
  exact List.getElem_mem h
theorem mem_getD {α : Type} [Inhabited α] {l : List α} {x : α} (h : x ∈ l) : ∃ t, t < l.length ∧ l.getD t default = x := by
  obtain ⟨i, hi, he⟩ := List.getElem_of_mem h
  exact ⟨i, hi, by simp [List.getD, hi, he]⟩

set_option maxHeartbeats 1600000 in
theorem indexN_any {v : Value} {l : List Int} {w : World} (hs : SeesL nC 1 w v l) (k : Int) :
    Calls Try.prog 50 #[v, .int .i64 k] w fun e w' => (∃ n : Int, e = .returned (.int .i64 n) ∧ decide (n ≥ 0) = decide (k ∈ l)) ∧ Below w.heap.size w w' := by
  have HS : Hid (∀ w', Below w.heap.size w w' → SeesL nC 1 w' v l) := fun w' hb => hs.below nC_len hb
  obtain ⟨ao, cap, hv⟩ := hs.shape
  have hmax : l.length ≤ 9223372036854775807 := by obtain ⟨_, _, _, _, _, _, h, _⟩ := hs; exact h
  have HV := hide hv
  obtain ⟨n, hn⟩ : ∃ n, l.length = n := ⟨_, rfl⟩
  rw [hn] at hv hmax
  have HN := hide hn
  subst hv
  clear hs hn
  go_enter Try.func50, Try.ntmps50
  go_wp2
  go_loopw [8] (fun c wr => ∃ t : Nat, t ≤ n ∧ c = .int .i64 t ∧ (∀ u, u < t → l.getD u default ≠ k) ∧ Below w.heap.size w wr) (fun c _ => n - (intOf c).toNat)
  case atStart => exact ⟨0, by omega, rfl, fun u hu => absurd hu (by omega), Below.refl _ _⟩
  case round =>
    obtain ⟨t, ht, rfl, hall, hgr⟩ := hrel
    have HA := hide hall
    have HR := hide hgr
    by_cases hlt : t < n
    · have hnl := unhide HN
      obtain ⟨gb, ob, hao, g0⟩ := int_cells (unhide HS wr hgr) rfl (show t < l.length by omega)
      subst hao
      obtain ⟨x, hx⟩ : ∃ k, l.getD t 0 = k := ⟨_, rfl⟩
      rw [hx] at g0
      have hx' : l.getD t default = x := hx
      have HX := hide hx'
      have hlt0 : (t : Int) < (n : Int) := by omega
      clear hx hx' hgr hall hnl
      by_cases he : k = x
      · have hE : (k == x) = true := by simpa using he
        have HE := hide he
        clear he
        go_wp2
        go_ret
        refine ⟨⟨_, rfl, ?_⟩, unhide HR⟩
        have : k ∈ l := by
          rw [unhide HE, ← unhide HX]
          exact getD_mem' (by rw [unhide HN]; exact hlt)
        simp [this]
      · have hE : (k == x) = false := by simpa using he
        have HE := hide he
        clear he
        go_wp2
        go_roundw
        case rel =>
          refine ⟨t + 1, by omega, by go_num, fun u hu => ?_, unhide HR⟩
          by_cases hu' : u = t
          · subst hu'; rw [unhide HX]; exact fun h => unhide HE h.symm
          · exact unhide HA u (by omega)
        case measure => simp [intOf]; omega
    · obtain rfl : t = n := by omega
      clear hall hgr
      go_wp2
      go_ret
      refine ⟨⟨_, rfl, ?_⟩, unhide HR⟩
      have h2 := unhide HN
      have : k ∉ l := fun hm => by
        obtain ⟨i, hi, he⟩ := mem_getD hm
        exact unhide HA i (by omega) he
      simp [this]
set_option maxHeartbeats 800000 in
theorem containsN_any {v : Value} {l : List Int} {w : World} (hs : SeesL nC 1 w v l) (k : Int) :
    Calls Try.prog 30 #[v, .int .i64 k] w fun e w' => e = .returned (.bool (decide (k ∈ l))) ∧ Below w.heap.size w w' := by
  have HC := hide (indexN_any hs k)
  obtain ⟨ao, cap, hv⟩ := hs.shape
  subst hv
  clear hs
  go_enter Try.func30, Try.ntmps30
  go_wp2_with (go_at_call 50; refine (unhide HC).mono ?_; rintro e w1 ⟨⟨n, rfl, hn⟩, hg1⟩; have HN := hide hn; have HG1 := hide hg1; clear hn hg1)
  go_ret
  exact ⟨retBool (unhide HN), unhide HG1⟩

set_option maxHeartbeats 1600000 in
theorem indexL_any {v : Value} {l : List Lk} {w : World} (hs : SeesL lC 3 w v l) (a b : Int) (d : Bool) :
    Calls Try.prog 51 #[v, .agg #[.int .i32 a, .int .i64 b, .bool d]] w fun e w' => (∃ n : Int, e = .returned (.int .i64 n) ∧ decide (n ≥ 0) = decide (((a, b), d) ∈ l)) ∧ Below w.heap.size w w' := by
  obtain ⟨Y, hY⟩ : ∃ y, w.alloc (.cells #[.int .i32 a, .int .i64 b, .bool d] 39) = y := ⟨_, rfl⟩
  have bY : Below w.heap.size w Y := hY ▸ below_box _
  have x0 : Y.heap[w.heap.size]? = some (.cells #[.int .i32 a, .int .i64 b, .bool d] 39) := by rw [← hY]; exact heap_alloc_new w _
  have HB : Hid (∀ z, Below Y.heap.size Y z → z.cell? ⟨w.heap.size, 0, none⟩ = some (.int .i32 a) ∧ z.cell? ⟨w.heap.size, 1, none⟩ = some (.int .i64 b) ∧ z.cell? ⟨w.heap.size, 2, none⟩ = some (.bool d)) := fun z hz => by
    have h := (hz.block _ (Array.getElem?_eq_some_iff.1 x0).1).trans x0
    exact ⟨cell_at h, cell_at h, cell_at h⟩
  have HS : Hid (∀ w', Below Y.heap.size Y w' → SeesL lC 3 w' v l) := fun w' hb => (hs.below lC_len bY).below lC_len hb
  obtain ⟨ao, cap, hv⟩ := hs.shape
  have hmax : l.length ≤ 9223372036854775807 := by obtain ⟨_, _, _, _, _, _, h, _⟩ := hs; exact h
  obtain ⟨n, hn⟩ : ∃ n, l.length = n := ⟨_, rfl⟩
  rw [hn] at hv hmax
  have HN := hide hn
  subst hv
  have HBY := hide bY
  have HY := hide hY
  clear hs hn bY x0 hY
  go_enter Try.func51, Try.ntmps51
  go_wp2_with (rw [unhide HY])
  go_loopw [8] (fun c wr => ∃ t : Nat, t ≤ n ∧ c = .int .i64 t ∧ (∀ u, u < t → l.getD u default ≠ ((a, b), d)) ∧ Below Y.heap.size Y wr) (fun c _ => n - (intOf c).toNat)
  case atStart => exact ⟨0, by omega, rfl, fun u hu => absurd hu (by omega), Below.refl _ _⟩
  case round =>
    obtain ⟨t, ht, rfl, hall, hgr⟩ := hrel
    have HA := hide hall
    have HR := hide hgr
    by_cases hlt : t < n
    · have hnl := unhide HN
      obtain ⟨gb, ob, hao, g1, g2, g3⟩ := lock_cells (unhide HS wr hgr) rfl (show t < l.length by omega)
      subst hao
      obtain ⟨c1, c2, c3⟩ := unhide HB wr hgr
      obtain ⟨⟨⟨x0, x1⟩, x2⟩, hx⟩ : ∃ k, l.getD t default = k := ⟨_, rfl⟩
      rw [hx] at g1 g2 g3
      have HX := hide hx
      have hlt0 : (t : Int) < (n : Int) := by omega
      clear hx hgr hall hnl
      by_cases he : ((a, b), d) = ((x0, x1), x2)
      · have hE : ∀ z, (binOp .eql 39 (.agg #[.int .i32 a, .int .i64 b, .bool d]) (.agg #[.int .i32 x0, .int .i64 x1, .bool x2])).run Try.prog z = .ok (.bool true) z := fun z => by have := eql_lk ((a, b), d) ((x0, x1), x2) z; rw [decide_eq_true he] at this; exact this
        have HE := hide he
        clear he
        go_wp2
        go_quiet (fail)
        go_wp2
        go_ret
        refine ⟨⟨_, rfl, ?_⟩, (unhide HBY).trans ((Below.drewN (unhide HR) nq).mono (unhide HBY).size)⟩
        have : ((a, b), d) ∈ l := by
          rw [unhide HE, ← unhide HX]
          exact getD_mem' (by rw [unhide HN]; exact hlt)
        simp [this]
      · have hE : ∀ z, (binOp .eql 39 (.agg #[.int .i32 a, .int .i64 b, .bool d]) (.agg #[.int .i32 x0, .int .i64 x1, .bool x2])).run Try.prog z = .ok (.bool false) z := fun z => by have := eql_lk ((a, b), d) ((x0, x1), x2) z; rw [decide_eq_false he] at this; exact this
        have HE := hide he
        clear he
        go_wp2
        go_quiet (fail)
        go_wp2
        go_roundw
        case rel =>
          refine ⟨t + 1, by omega, by go_num, fun u hu => ?_, Below.drewN (unhide HR) nq⟩
          by_cases hu' : u = t
          · subst hu'; rw [unhide HX]; exact fun h => unhide HE h.symm
          · exact unhide HA u (by omega)
        case measure => simp [intOf]; omega
    · obtain rfl : t = n := by omega
      clear hall hgr
      go_wp2
      go_ret
      refine ⟨⟨_, rfl, ?_⟩, (unhide HBY).trans ((unhide HR).mono (unhide HBY).size)⟩
      have h2 := unhide HN
      have : ((a, b), d) ∉ l := fun hm => by
        obtain ⟨i, hi, he⟩ := mem_getD hm
        exact unhide HA i (by omega) he
      simp [this]
set_option maxHeartbeats 800000 in
theorem containsL_any {v : Value} {l : List Lk} {w : World} (hs : SeesL lC 3 w v l) (a b : Int) (d : Bool) :
    Calls Try.prog 31 #[v, .agg #[.int .i32 a, .int .i64 b, .bool d]] w fun e w' => e = .returned (.bool (decide (((a, b), d) ∈ l))) ∧ Below w.heap.size w w' := by
  obtain ⟨Y, hY⟩ : ∃ y, w.alloc (.cells #[.int .i32 a, .int .i64 b, .bool d] 39) = y := ⟨_, rfl⟩
  have bY : Below w.heap.size w Y := hY ▸ below_box _
  have x0 : Y.heap[w.heap.size]? = some (.cells #[.int .i32 a, .int .i64 b, .bool d] 39) := by rw [← hY]; exact heap_alloc_new w _
  have c1 : Y.cell? ⟨w.heap.size, 0, none⟩ = some (.int .i32 a) := cell_at x0
  have c2 : Y.cell? ⟨w.heap.size, 1, none⟩ = some (.int .i64 b) := cell_at x0
  have c3 : Y.cell? ⟨w.heap.size, 2, none⟩ = some (.bool d) := cell_at x0
  have HC := hide (indexL_any (hs.below lC_len bY) a b d)
  have HBY := hide bY
  obtain ⟨ao, cap, hv⟩ := hs.shape
  subst hv
  clear hs bY x0
  go_enter Try.func31, Try.ntmps31
  go_wp2_with (first | rw [hY] | (go_at_call 51; refine (unhide HC).mono ?_; rintro e w1 ⟨⟨n, rfl, hn⟩, hg1⟩; have HN := hide hn; have HG1 := hide hg1; clear hn hg1))
  go_ret
  exact ⟨retBool (unhide HN), (unhide HBY).trans ((unhide HG1).mono (unhide HBY).size)⟩
end Go.Proofs.Ytibjhjkeflbghaa
