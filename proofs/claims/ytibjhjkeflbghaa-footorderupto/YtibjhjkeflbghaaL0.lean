/- Locks and ints in memory; lists held against each other. -/
import Derived.Test.YtibjhjkeflbghaaB1
import Derived.BigQuiet
import Derived.Deep.QuietTactic
namespace Go.Proofs.Ytibjhjkeflbghaa
open Go.RowKit
set_option maxRecDepth 100000

theorem Below.drewN {B : Nat} {a w : World} (h : Below B a w) (n : Nat) : Below B a (w.drewN n) := ⟨h.os, h.tape, h.output, h.size, h.block⟩
/-- A lock: its key, whether it is for one alone. -/
abbrev Lk := Ky × Bool
def lC (x : Lk) : List Value := [.int .i32 x.1.1, .int .i64 x.1.2, .bool x.2]
def nC (x : Int) : List Value := [.int .i64 x]
theorem lC_len (x : Lk) : (lC x).length = 3 := rfl
theorem nC_len (x : Int) : (nC x).length = 1 := rfl
theorem lC_one (x : Lk) : ∀ u ∈ lC x, u.oneCell' = true := by
  intro u hu
  simp only [lC, List.mem_cons, List.not_mem_nil, or_false] at hu
  rcases hu with rfl | rfl | rfl <;> rfl
theorem nC_one (x : Int) : ∀ u ∈ nC x, u.oneCell' = true := by
  intro u hu
  simp only [nC, List.mem_cons, List.not_mem_nil, or_false] at hu
  rcases hu with rfl
  rfl
theorem Try.info39 : (Try.prog.info? 39).map (fun i => (i.zero, i.size, i.bytes)) = some (some (.agg #[.int .i32 0, .int .i64 0, .bool false]), 3, 24) := by kernel_rfl
theorem Try.info3 : (Try.prog.info? 3).map (fun i => (i.zero, i.size, i.bytes)) = some (some (.int .i64 0), 1, 8) := by kernel_rfl
theorem append_locks {w : World} {base : Nat} {v v2 : Value} {n : Nat} {l l2 : List Lk} (ty : TypeId) (hown : w.ownsRow base 39 3 v n (l.flatMap lC)) (hs : SeesL lC 3 w v2 l2) (hl : n + l2.length ≤ 5864062014805) (hbase : base ≤ w.heap.size) :
    ∃ v' w', (Builtin.append_ #[35, 35] ty #[v, v2]).run Try.prog w = .ok v' w' ∧ w'.ownsRow base 39 3 v' (n + l2.length) ((l ++ l2).flatMap lC) ∧ w.grownBy w' v.ownBlock := by
  obtain ⟨i, hi, hz, hs1, hb⟩ := info_parts Try.info39
  rw [List.flatMap_append]
  exact run_append_L lC_len lC_one base 35 ty 39 i _ 24 Try.underlying35 hi hz hs1 hb rfl (by decide) hown hs (by unfold maxLen; omega) (by omega) hbase
theorem append_ints {w : World} {base : Nat} {v v2 : Value} {n : Nat} {l l2 : List Int} (ty : TypeId) (hown : w.ownsRow base 3 1 v n (l.flatMap nC)) (hs : SeesL nC 1 w v2 l2) (hl : n + l2.length ≤ 5864062014805) (hbase : base ≤ w.heap.size) :
    ∃ v' w', (Builtin.append_ #[30, 30] ty #[v, v2]).run Try.prog w = .ok v' w' ∧ w'.ownsRow base 3 1 v' (n + l2.length) ((l ++ l2).flatMap nC) ∧ w.grownBy w' v.ownBlock := by
  obtain ⟨i, hi, hz, hs1, hb⟩ := info_parts Try.info3
  rw [List.flatMap_append]
  exact run_append_L nC_len nC_one base 30 ty 3 i _ 8 Try.underlying30 hi hz hs1 hb rfl (by decide) hown hs (by unfold maxLen; omega) (by omega) hbase
theorem sees_oneL (w : World) (k : Lk) : SeesL lC 3 (w.alloc (.cells #[.int .i32 k.1.1, .int .i64 k.1.2, .bool k.2] 39)) (.slice (some ⟨w.heap.size, 0, none⟩) 1 1) [k] := by
  refine ⟨_, 1, w.heap.size, 0, rfl, by simp, by simp, (fun h => by cases h), fun _ => rfl, fun t x hx j hj => ?_⟩
  obtain ⟨ht, rfl⟩ := List.getElem?_eq_some_iff.1 hx
  obtain rfl : t = 0 := by simpa using ht
  rw [cell_at (heap_alloc_new w _)]
  rcases (by omega : j = 0 ∨ j = 1 ∨ j = 2) with rfl | rfl | rfl <;> rfl
theorem sees_oneN (w : World) (k : Int) : SeesL nC 1 (w.alloc (.cells #[.int .i64 k] 3)) (.slice (some ⟨w.heap.size, 0, none⟩) 1 1) [k] := by
  refine ⟨_, 1, w.heap.size, 0, rfl, by simp, by simp, (fun h => by cases h), fun _ => rfl, fun t x hx j hj => ?_⟩
  obtain ⟨ht, rfl⟩ := List.getElem?_eq_some_iff.1 hx
  obtain rfl : t = 0 := by simpa using ht
  rw [cell_at (heap_alloc_new w _)]
  obtain rfl : j = 0 := by omega
  rfl
theorem eq_lk (d : Nat) (x0 x1 y0 y1 : Int) (x2 y2 : Bool) (w : World) : (Op.equalIn (d + 3) 39 (.agg #[.int .i32 x0, .int .i64 x1, .bool x2]) (.agg #[.int .i32 y0, .int .i64 y1, .bool y2])).run Try.prog w = .ok (((x0 == y0) && (x1 == y1)) && (x2 == y2)) w := by
  have hS : Try.prog.underlying 39 = some (.struct (Try.prog.fieldsOf 39)) := by kernel_rfl
  have hp : Try.prog.stoodInHeld 39 = false := by kernel_rfl
  have hk := fun w => eq_key d x0 x1 y0 y1 w
  rw [show d + 3 = (d + 2) + 1 from rfl, run_equalIn_struct w (d + 2) 39 _ _ hS hp]
  simp only [Program.fieldsOf, Try.underlying39]
  by_cases h1 : x0 = y0 <;> by_cases h2 : x1 = y1 <;> by_cases h3 : x2 = y2 <;> simp [Op.eqFields, part, go_sem, hk, h1, h2, h3]
theorem neq_lk (x y : Lk) (w : World) : (binOp .neq 39 (.agg #[.int .i32 x.1.1, .int .i64 x.1.2, .bool x.2]) (.agg #[.int .i32 y.1.1, .int .i64 y.1.2, .bool y.2])).run Try.prog w = .ok (.bool (!decide (x = y))) w := by
  obtain ⟨⟨x0, x1⟩, x2⟩ := x
  obtain ⟨⟨y0, y1⟩, y2⟩ := y
  rw [run_neq_struct, show (10000 : Nat) = 9997 + 3 from rfl, eq_lk]
  by_cases h1 : x0 = y0 <;> by_cases h2 : x1 = y1 <;> by_cases h3 : x2 = y2 <;> simp [h1, h2, h3, Result.andThen]
theorem eql_lk (x y : Lk) (w : World) : (binOp .eql 39 (.agg #[.int .i32 x.1.1, .int .i64 x.1.2, .bool x.2]) (.agg #[.int .i32 y.1.1, .int .i64 y.1.2, .bool y.2])).run Try.prog w = .ok (.bool (decide (x = y))) w := by
  obtain ⟨⟨x0, x1⟩, x2⟩ := x
  obtain ⟨⟨y0, y1⟩, y2⟩ := y
  rw [run_eql_struct, show (10000 : Nat) = 9997 + 3 from rfl, eq_lk]
  by_cases h1 : x0 = y0 <;> by_cases h2 : x1 = y1 <;> by_cases h3 : x2 = y2 <;> simp [h1, h2, h3, Result.andThen]
theorem neq_ky (x y : Ky) (w : World) : (binOp .neq 37 (.agg #[.int .i32 x.1, .int .i64 x.2]) (.agg #[.int .i32 y.1, .int .i64 y.2])).run Try.prog w = .ok (.bool (!decide (x = y))) w := neq_key x.1 x.2 y.1 y.2 w
theorem SeesL.at {α : Type} [Inhabited α] {c : α → List Value} {k : Nat} {w : World} {v : Value} {l : List α} (h : SeesL c k w v l) : ∃ ao cap gb ob, v = .slice ao l.length cap ∧ (0 < l.length → ao = some ⟨gb, ob, none⟩) ∧ ∀ t, t < l.length → ∀ j, j < k → w.cell? ⟨gb, ob + t * k + j, none⟩ = (c (l.getD t default))[j]? := by
  obtain ⟨ao, cap, gb, ob, h1, _, _, _, h5, h6⟩ := h
  refine ⟨ao, cap, gb, ob, h1, h5, fun t ht j hj => h6 t _ ?_ j hj⟩
  simp [List.getD, ht]
set_option maxHeartbeats 1600000 in
theorem ints_any {w : World} {u v : Value} {A B : List Int} (ha : SeesL nC 1 w u A) (hb : SeesL nC 1 w v B) :
    Calls Try.prog 25 #[u, v] w fun e w' => e = .returned (.bool (decide (A = B))) ∧ Below w.heap.size w w' := by
  have HA : Hid (∀ w', Below w.heap.size w w' → SeesL nC 1 w' u A) := fun w' hg => ha.below nC_len hg
  have HB : Hid (∀ w', Below w.heap.size w w' → SeesL nC 1 w' v B) := fun w' hg => hb.below nC_len hg
  have hmax : A.length ≤ 9223372036854775807 := by obtain ⟨_, _, _, _, _, _, h, _⟩ := ha; exact h
  obtain ⟨ao, ca, hv⟩ := ha.shape
  obtain ⟨bo, cb, hv2⟩ := hb.shape
  have HV := hide hv
  have HV2 := hide hv2
  obtain ⟨n, hn⟩ : ∃ n, A.length = n := ⟨_, rfl⟩
  obtain ⟨n2, hn2⟩ : ∃ n, B.length = n := ⟨_, rfl⟩
  obtain ⟨r, hr⟩ : ∃ r, decide (A = B) = r := ⟨_, rfl⟩
  rw [hv, hv2, hn, hn2, hr]
  have HN := hide hn
  have HN2 := hide hn2
  have HRr := hide hr
  rw [hn] at hmax
  clear ha hb hv hv2 hn hn2 hr
  by_cases hl : n = n2
  · subst hl
    have hne : ((n : Int) != (n : Int)) = false := by simp
    go_enter Try.func25, Try.ntmps25
    go_wp2
    go_loopw [13] (fun c wr => ∃ t : Nat, t ≤ n ∧ c = .int .i64 t ∧ (∀ u, u < t → A.getD u default = B.getD u default) ∧ Below w.heap.size w wr) (fun c _ => n - (intOf c).toNat)
    case atStart => exact ⟨0, by omega, rfl, fun u hu => absurd hu (by omega), Below.refl _ _⟩
    case round =>
      obtain ⟨t, ht, rfl, hall, hgr⟩ := hrel
      have HL := hide hall
      have HR := hide hgr
      by_cases hlt : t < n
      · obtain ⟨ao', ca', ga, oa, hv', hao, hca⟩ := SeesL.at (unhide HA wr hgr)
        obtain ⟨bo', cb', gb, ob, hv2', hbo, hcb⟩ := SeesL.at (unhide HB wr hgr)
        rw [unhide HV] at hv'
        rw [unhide HV2] at hv2'
        simp only [Value.slice.injEq, true_and] at hv' hv2'
        obtain ⟨rfl, rfl⟩ := hv'
        obtain ⟨rfl, rfl⟩ := hv2'
        have hnl := unhide HN
        have hnl2 := unhide HN2
        obtain rfl := hao (by omega)
        obtain rfl := hbo (by omega)
        obtain ⟨x, hx⟩ : ∃ k, A.getD t default = k := ⟨_, rfl⟩
        obtain ⟨y, hy⟩ : ∃ k, B.getD t default = k := ⟨_, rfl⟩
        have p0 : wr.cell? ⟨ga, oa + t, none⟩ = some (.int .i64 x) := by have h := hca t (by omega) 0 (by decide); rw [hx] at h; simpa [nC] using h
        have q0 : wr.cell? ⟨gb, ob + t, none⟩ = some (.int .i64 y) := by have h := hcb t (by omega) 0 (by decide); rw [hy] at h; simpa [nC] using h
        have HX := hide hx
        have HY := hide hy
        have hlt0 : (t : Int) < (n : Int) := by omega
        clear hca hcb hao hbo hx hy hgr hall hnl hnl2
        by_cases he : x = y
        · skip
          have hE : (x != y) = false := by simpa using he
          have HE := hide he
          clear he
          go_wp2
          go_quiet (fail)
          go_wp2
          go_roundw
          case rel =>
            refine ⟨t + 1, by omega, by go_num, fun u hu => ?_, ((unhide HR).trans (Below.drewN (Below.refl _ _) nq))⟩
            by_cases hu' : u = t
            · subst hu'; rw [unhide HX, unhide HY]; exact unhide HE
            · exact unhide HL u (by omega)
          case measure => simp [intOf]; omega
        · skip
          have hE : (x != y) = true := by simpa using he
          have HE := hide he
          clear he
          go_wp2
          go_quiet (fail)
          go_wp2
          go_ret
          refine ⟨retBool ?_, (unhide HR).trans (Below.drewN (Below.refl _ _) nq)⟩
          rw [← unhide HRr]
          symm
          refine decide_eq_false fun h => unhide HE ?_
          have h1 := unhide HX
          have h2 := unhide HY
          rw [h] at h1
          exact h1.symm.trans h2
      · obtain rfl : t = n := by omega
        go_wp2
        go_ret
        refine ⟨retBool ?_, unhide HR⟩
        rw [← unhide HRr]
        symm
        exact decide_eq_true (list_alike ((unhide HN).trans (unhide HN2).symm) fun t ht => unhide HL t (by rw [unhide HN] at ht; exact ht))
  · have hb : ((n : Int) != (n2 : Int)) = true := by rw [bne_iff_ne]; omega
    go_enter Try.func25, Try.ntmps25
    go_wp2
    go_ret
    refine ⟨retBool ?_, Below.refl _ _⟩
    rw [← unhide HRr]
    symm
    exact decide_eq_false fun h => hl (by rw [← unhide HN, ← unhide HN2, h])
set_option maxHeartbeats 1600000 in
theorem keysEq_any {w : World} {u v : Value} {A B : List Ky} (ha : SeesL kC 2 w u A) (hb : SeesL kC 2 w v B) :
    Calls Try.prog 33 #[u, v] w fun e w' => e = .returned (.bool (decide (A = B))) ∧ Below w.heap.size w w' := by
  have HA : Hid (∀ w', Below w.heap.size w w' → SeesL kC 2 w' u A) := fun w' hg => ha.below kC_len hg
  have HB : Hid (∀ w', Below w.heap.size w w' → SeesL kC 2 w' v B) := fun w' hg => hb.below kC_len hg
  have hmax : A.length ≤ 9223372036854775807 := by obtain ⟨_, _, _, _, _, _, h, _⟩ := ha; exact h
  obtain ⟨ao, ca, hv⟩ := ha.shape
  obtain ⟨bo, cb, hv2⟩ := hb.shape
  have HV := hide hv
  have HV2 := hide hv2
  obtain ⟨n, hn⟩ : ∃ n, A.length = n := ⟨_, rfl⟩
  obtain ⟨n2, hn2⟩ : ∃ n, B.length = n := ⟨_, rfl⟩
  obtain ⟨r, hr⟩ : ∃ r, decide (A = B) = r := ⟨_, rfl⟩
  rw [hv, hv2, hn, hn2, hr]
  have HN := hide hn
  have HN2 := hide hn2
  have HRr := hide hr
  rw [hn] at hmax
  clear ha hb hv hv2 hn hn2 hr
  by_cases hl : n = n2
  · subst hl
    have hne : ((n : Int) != (n : Int)) = false := by simp
    go_enter Try.func33, Try.ntmps33
    go_wp2
    go_loopw [13] (fun c wr => ∃ t : Nat, t ≤ n ∧ c = .int .i64 t ∧ (∀ u, u < t → A.getD u default = B.getD u default) ∧ Below w.heap.size w wr) (fun c _ => n - (intOf c).toNat)
    case atStart => exact ⟨0, by omega, rfl, fun u hu => absurd hu (by omega), Below.refl _ _⟩
    case round =>
      obtain ⟨t, ht, rfl, hall, hgr⟩ := hrel
      have HL := hide hall
      have HR := hide hgr
      by_cases hlt : t < n
      · obtain ⟨ao', ca', ga, oa, hv', hao, hca⟩ := SeesL.at (unhide HA wr hgr)
        obtain ⟨bo', cb', gb, ob, hv2', hbo, hcb⟩ := SeesL.at (unhide HB wr hgr)
        rw [unhide HV] at hv'
        rw [unhide HV2] at hv2'
        simp only [Value.slice.injEq, true_and] at hv' hv2'
        obtain ⟨rfl, rfl⟩ := hv'
        obtain ⟨rfl, rfl⟩ := hv2'
        have hnl := unhide HN
        have hnl2 := unhide HN2
        obtain rfl := hao (by omega)
        obtain rfl := hbo (by omega)
        obtain ⟨x, hx⟩ : ∃ k, A.getD t default = k := ⟨_, rfl⟩
        obtain ⟨y, hy⟩ : ∃ k, B.getD t default = k := ⟨_, rfl⟩
        have p0 : wr.cell? ⟨ga, oa + t * 2, none⟩ = some (.int .i32 x.1) := by have h := hca t (by omega) 0 (by decide); rw [hx] at h; simpa [kC] using h
        have q0 : wr.cell? ⟨gb, ob + t * 2, none⟩ = some (.int .i32 y.1) := by have h := hcb t (by omega) 0 (by decide); rw [hy] at h; simpa [kC] using h
        have p1 : wr.cell? ⟨ga, oa + t * 2 + 1, none⟩ = some (.int .i64 x.2) := by have h := hca t (by omega) 1 (by decide); rw [hx] at h; simpa [kC] using h
        have q1 : wr.cell? ⟨gb, ob + t * 2 + 1, none⟩ = some (.int .i64 y.2) := by have h := hcb t (by omega) 1 (by decide); rw [hy] at h; simpa [kC] using h
        have HX := hide hx
        have HY := hide hy
        have hlt0 : (t : Int) < (n : Int) := by omega
        clear hca hcb hao hbo hx hy hgr hall hnl hnl2
        by_cases he : x = y
        · skip
          have hE : ∀ z, (binOp .neq 37 (.agg #[.int .i32 x.1, .int .i64 x.2]) (.agg #[.int .i32 y.1, .int .i64 y.2])).run Try.prog z = .ok (.bool false) z := fun z => by have := neq_ky x y z; rw [decide_eq_true he] at this; exact this
          have HE := hide he
          clear he
          go_wp2
          go_quiet (fail)
          go_wp2
          go_roundw
          case rel =>
            refine ⟨t + 1, by omega, by go_num, fun u hu => ?_, ((unhide HR).trans (Below.drewN (Below.refl _ _) nq))⟩
            by_cases hu' : u = t
            · subst hu'; rw [unhide HX, unhide HY]; exact unhide HE
            · exact unhide HL u (by omega)
          case measure => simp [intOf]; omega
        · skip
          have hE : ∀ z, (binOp .neq 37 (.agg #[.int .i32 x.1, .int .i64 x.2]) (.agg #[.int .i32 y.1, .int .i64 y.2])).run Try.prog z = .ok (.bool true) z := fun z => by have := neq_ky x y z; rw [decide_eq_false he] at this; exact this
          have HE := hide he
          clear he
          go_wp2
          go_quiet (fail)
          go_wp2
          go_ret
          refine ⟨retBool ?_, (unhide HR).trans (Below.drewN (Below.refl _ _) nq)⟩
          rw [← unhide HRr]
          symm
          refine decide_eq_false fun h => unhide HE ?_
          have h1 := unhide HX
          have h2 := unhide HY
          rw [h] at h1
          exact h1.symm.trans h2
      · obtain rfl : t = n := by omega
        go_wp2
        go_ret
        refine ⟨retBool ?_, unhide HR⟩
        rw [← unhide HRr]
        symm
        exact decide_eq_true (list_alike ((unhide HN).trans (unhide HN2).symm) fun t ht => unhide HL t (by rw [unhide HN] at ht; exact ht))
  · have hb : ((n : Int) != (n2 : Int)) = true := by rw [bne_iff_ne]; omega
    go_enter Try.func33, Try.ntmps33
    go_wp2
    go_ret
    refine ⟨retBool ?_, Below.refl _ _⟩
    rw [← unhide HRr]
    symm
    exact decide_eq_false fun h => hl (by rw [← unhide HN, ← unhide HN2, h])
set_option maxHeartbeats 1600000 in
theorem locks_any {w : World} {u v : Value} {A B : List Lk} (ha : SeesL lC 3 w u A) (hb : SeesL lC 3 w v B) :
    Calls Try.prog 13 #[u, v] w fun e w' => e = .returned (.bool (decide (A = B))) ∧ Below w.heap.size w w' := by
  have HA : Hid (∀ w', Below w.heap.size w w' → SeesL lC 3 w' u A) := fun w' hg => ha.below lC_len hg
  have HB : Hid (∀ w', Below w.heap.size w w' → SeesL lC 3 w' v B) := fun w' hg => hb.below lC_len hg
  have hmax : A.length ≤ 9223372036854775807 := by obtain ⟨_, _, _, _, _, _, h, _⟩ := ha; exact h
  obtain ⟨ao, ca, hv⟩ := ha.shape
  obtain ⟨bo, cb, hv2⟩ := hb.shape
  have HV := hide hv
  have HV2 := hide hv2
  obtain ⟨n, hn⟩ : ∃ n, A.length = n := ⟨_, rfl⟩
  obtain ⟨n2, hn2⟩ : ∃ n, B.length = n := ⟨_, rfl⟩
  obtain ⟨r, hr⟩ : ∃ r, decide (A = B) = r := ⟨_, rfl⟩
  rw [hv, hv2, hn, hn2, hr]
  have HN := hide hn
  have HN2 := hide hn2
  have HRr := hide hr
  rw [hn] at hmax
  clear ha hb hv hv2 hn hn2 hr
  by_cases hl : n = n2
  · subst hl
    have hne : ((n : Int) != (n : Int)) = false := by simp
    go_enter Try.func13, Try.ntmps13
    go_wp2
    go_loopw [13] (fun c wr => ∃ t : Nat, t ≤ n ∧ c = .int .i64 t ∧ (∀ u, u < t → A.getD u default = B.getD u default) ∧ Below w.heap.size w wr) (fun c _ => n - (intOf c).toNat)
    case atStart => exact ⟨0, by omega, rfl, fun u hu => absurd hu (by omega), Below.refl _ _⟩
    case round =>
      obtain ⟨t, ht, rfl, hall, hgr⟩ := hrel
      have HL := hide hall
      have HR := hide hgr
      by_cases hlt : t < n
      · obtain ⟨ao', ca', ga, oa, hv', hao, hca⟩ := SeesL.at (unhide HA wr hgr)
        obtain ⟨bo', cb', gb, ob, hv2', hbo, hcb⟩ := SeesL.at (unhide HB wr hgr)
        rw [unhide HV] at hv'
        rw [unhide HV2] at hv2'
        simp only [Value.slice.injEq, true_and] at hv' hv2'
        obtain ⟨rfl, rfl⟩ := hv'
        obtain ⟨rfl, rfl⟩ := hv2'
        have hnl := unhide HN
        have hnl2 := unhide HN2
        obtain rfl := hao (by omega)
        obtain rfl := hbo (by omega)
        obtain ⟨x, hx⟩ : ∃ k, A.getD t default = k := ⟨_, rfl⟩
        obtain ⟨y, hy⟩ : ∃ k, B.getD t default = k := ⟨_, rfl⟩
        have p0 : wr.cell? ⟨ga, oa + t * 3, none⟩ = some (.int .i32 x.1.1) := by have h := hca t (by omega) 0 (by decide); rw [hx] at h; simpa [lC] using h
        have q0 : wr.cell? ⟨gb, ob + t * 3, none⟩ = some (.int .i32 y.1.1) := by have h := hcb t (by omega) 0 (by decide); rw [hy] at h; simpa [lC] using h
        have p1 : wr.cell? ⟨ga, oa + t * 3 + 1, none⟩ = some (.int .i64 x.1.2) := by have h := hca t (by omega) 1 (by decide); rw [hx] at h; simpa [lC] using h
        have q1 : wr.cell? ⟨gb, ob + t * 3 + 1, none⟩ = some (.int .i64 y.1.2) := by have h := hcb t (by omega) 1 (by decide); rw [hy] at h; simpa [lC] using h
        have p2 : wr.cell? ⟨ga, oa + t * 3 + 2, none⟩ = some (.bool x.2) := by have h := hca t (by omega) 2 (by decide); rw [hx] at h; simpa [lC] using h
        have q2 : wr.cell? ⟨gb, ob + t * 3 + 2, none⟩ = some (.bool y.2) := by have h := hcb t (by omega) 2 (by decide); rw [hy] at h; simpa [lC] using h
        have HX := hide hx
        have HY := hide hy
        have hlt0 : (t : Int) < (n : Int) := by omega
        clear hca hcb hao hbo hx hy hgr hall hnl hnl2
        by_cases he : x = y
        · skip
          have hE : ∀ z, (binOp .neq 39 (.agg #[.int .i32 x.1.1, .int .i64 x.1.2, .bool x.2]) (.agg #[.int .i32 y.1.1, .int .i64 y.1.2, .bool y.2])).run Try.prog z = .ok (.bool false) z := fun z => by have := neq_lk x y z; rw [decide_eq_true he] at this; exact this
          have HE := hide he
          clear he
          go_wp2
          go_quiet (fail)
          go_wp2
          go_roundw
          case rel =>
            refine ⟨t + 1, by omega, by go_num, fun u hu => ?_, ((unhide HR).trans (Below.drewN (Below.refl _ _) nq))⟩
            by_cases hu' : u = t
            · subst hu'; rw [unhide HX, unhide HY]; exact unhide HE
            · exact unhide HL u (by omega)
          case measure => simp [intOf]; omega
        · skip
          have hE : ∀ z, (binOp .neq 39 (.agg #[.int .i32 x.1.1, .int .i64 x.1.2, .bool x.2]) (.agg #[.int .i32 y.1.1, .int .i64 y.1.2, .bool y.2])).run Try.prog z = .ok (.bool true) z := fun z => by have := neq_lk x y z; rw [decide_eq_false he] at this; exact this
          have HE := hide he
          clear he
          go_wp2
          go_quiet (fail)
          go_wp2
          go_ret
          refine ⟨retBool ?_, (unhide HR).trans (Below.drewN (Below.refl _ _) nq)⟩
          rw [← unhide HRr]
          symm
          refine decide_eq_false fun h => unhide HE ?_
          have h1 := unhide HX
          have h2 := unhide HY
          rw [h] at h1
          exact h1.symm.trans h2
      · obtain rfl : t = n := by omega
        go_wp2
        go_ret
        refine ⟨retBool ?_, unhide HR⟩
        rw [← unhide HRr]
        symm
        exact decide_eq_true (list_alike ((unhide HN).trans (unhide HN2).symm) fun t ht => unhide HL t (by rw [unhide HN] at ht; exact ht))
  · have hb : ((n : Int) != (n2 : Int)) = true := by rw [bne_iff_ne]; omega
    go_enter Try.func13, Try.ntmps13
    go_wp2
    go_ret
    refine ⟨retBool ?_, Below.refl _ _⟩
    rw [← unhide HRr]
    symm
    exact decide_eq_false fun h => hl (by rw [← unhide HN, ← unhide HN2, h])
set_option maxHeartbeats 1600000 in
theorem sints_any {w : World} {u v : Value} {A B : List Int} (ha : SeesL nC 1 w u A) (hb : SeesL nC 1 w v B) :
    Calls Try.prog 35 #[u, v] w fun e w' => e = .returned (.bool (decide (A = B))) ∧ Below w.heap.size w w' := by
  have HA : Hid (∀ w', Below w.heap.size w w' → SeesL nC 1 w' u A) := fun w' hg => ha.below nC_len hg
  have HB : Hid (∀ w', Below w.heap.size w w' → SeesL nC 1 w' v B) := fun w' hg => hb.below nC_len hg
  have hmax : A.length ≤ 9223372036854775807 := by obtain ⟨_, _, _, _, _, _, h, _⟩ := ha; exact h
  obtain ⟨ao, ca, hv⟩ := ha.shape
  obtain ⟨bo, cb, hv2⟩ := hb.shape
  have HV := hide hv
  have HV2 := hide hv2
  obtain ⟨n, hn⟩ : ∃ n, A.length = n := ⟨_, rfl⟩
  obtain ⟨n2, hn2⟩ : ∃ n, B.length = n := ⟨_, rfl⟩
  obtain ⟨r, hr⟩ : ∃ r, decide (A = B) = r := ⟨_, rfl⟩
  rw [hv, hv2, hn, hn2, hr]
  have HN := hide hn
  have HN2 := hide hn2
  have HRr := hide hr
  rw [hn] at hmax
  clear ha hb hv hv2 hn hn2 hr
  by_cases hl : n = n2
  · subst hl
    have hne : ((n : Int) != (n : Int)) = false := by simp
    go_enter Try.func35, Try.ntmps35
    go_wp2
    go_loopw [5] (fun c wr => ∃ t : Nat, t ≤ n ∧ c = .int .i64 t ∧ (∀ u, u < t → A.getD u default = B.getD u default) ∧ Below w.heap.size w wr) (fun c _ => n - (intOf c).toNat)
    case atStart => exact ⟨0, by omega, rfl, fun u hu => absurd hu (by omega), Below.refl _ _⟩
    case round =>
      obtain ⟨t, ht, rfl, hall, hgr⟩ := hrel
      have HL := hide hall
      have HR := hide hgr
      by_cases hlt : t < n
      · obtain ⟨ao', ca', ga, oa, hv', hao, hca⟩ := SeesL.at (unhide HA wr hgr)
        obtain ⟨bo', cb', gb, ob, hv2', hbo, hcb⟩ := SeesL.at (unhide HB wr hgr)
        rw [unhide HV] at hv'
        rw [unhide HV2] at hv2'
        simp only [Value.slice.injEq, true_and] at hv' hv2'
        obtain ⟨rfl, rfl⟩ := hv'
        obtain ⟨rfl, rfl⟩ := hv2'
        have hnl := unhide HN
        have hnl2 := unhide HN2
        obtain rfl := hao (by omega)
        obtain rfl := hbo (by omega)
        obtain ⟨x, hx⟩ : ∃ k, A.getD t default = k := ⟨_, rfl⟩
        obtain ⟨y, hy⟩ : ∃ k, B.getD t default = k := ⟨_, rfl⟩
        have p0 : wr.cell? ⟨ga, oa + t, none⟩ = some (.int .i64 x) := by have h := hca t (by omega) 0 (by decide); rw [hx] at h; simpa [nC] using h
        have q0 : wr.cell? ⟨gb, ob + t, none⟩ = some (.int .i64 y) := by have h := hcb t (by omega) 0 (by decide); rw [hy] at h; simpa [nC] using h
        have HX := hide hx
        have HY := hide hy
        have hlt0 : (t : Int) < (n : Int) := by omega
        clear hca hcb hao hbo hx hy hgr hall hnl hnl2
        by_cases he : x = y
        · skip
          have hE : (x != y) = false := by simpa using he
          have HE := hide he
          clear he
          go_wp2
          go_quiet (fail)
          go_wp2
          go_roundw
          case rel =>
            refine ⟨t + 1, by omega, by go_num, fun u hu => ?_, ((unhide HR).trans (Below.drewN (Below.refl _ _) nq))⟩
            by_cases hu' : u = t
            · subst hu'; rw [unhide HX, unhide HY]; exact unhide HE
            · exact unhide HL u (by omega)
          case measure => simp [intOf]; omega
        · skip
          have hE : (x != y) = true := by simpa using he
          have HE := hide he
          clear he
          go_wp2
          go_quiet (fail)
          go_wp2
          go_ret
          refine ⟨retBool ?_, (unhide HR).trans (Below.drewN (Below.refl _ _) nq)⟩
          rw [← unhide HRr]
          symm
          refine decide_eq_false fun h => unhide HE ?_
          have h1 := unhide HX
          have h2 := unhide HY
          rw [h] at h1
          exact h1.symm.trans h2
      · obtain rfl : t = n := by omega
        go_wp2
        go_ret
        refine ⟨retBool ?_, unhide HR⟩
        rw [← unhide HRr]
        symm
        exact decide_eq_true (list_alike ((unhide HN).trans (unhide HN2).symm) fun t ht => unhide HL t (by rw [unhide HN] at ht; exact ht))
  · have hb : ((n : Int) != (n2 : Int)) = true := by rw [bne_iff_ne]; omega
    go_enter Try.func35, Try.ntmps35
    go_wp2
    go_ret
    refine ⟨retBool ?_, Below.refl _ _⟩
    rw [← unhide HRr]
    symm
    exact decide_eq_false fun h => hl (by rw [← unhide HN, ← unhide HN2, h])
end Go.Proofs.Ytibjhjkeflbghaa
