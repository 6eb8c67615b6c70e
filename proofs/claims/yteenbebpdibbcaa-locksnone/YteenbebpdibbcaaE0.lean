/- Lists of names compared; id. -/
import Derived.Test.YteenbebpdibbcaaP8
namespace Go.Proofs.Yteenbebpdibbcaa
open Go.RowKit
set_option maxRecDepth 100000

theorem Below.drewN {B : Nat} {a w : World} (h : Below B a w) (n : Nat) : Below B a (w.drewN n) := ⟨h.os, h.tape, h.output, h.size, h.block⟩
theorem eq_idv (d : Nat) (x0 x1 y0 y1 : Int) (w : World) : (Op.equalIn (d + 2) 29 (.agg #[.int .i64 x0, .int .i64 x1]) (.agg #[.int .i64 y0, .int .i64 y1])).run Try.prog w = .ok ((x0 == y0) && (x1 == y1)) w := by
  have hS : Try.prog.underlying 29 = some (.struct (Try.prog.fieldsOf 29)) := by kernel_rfl
  have hp : Try.prog.stoodInHeld 29 = false := by kernel_rfl
  rw [show d + 2 = (d + 1) + 1 from rfl, run_equalIn_struct w (d + 1) 29 _ _ hS hp]
  simp only [Program.fieldsOf, Try.underlying29]
  by_cases h1 : x0 = y0 <;> by_cases h2 : x1 = y1 <;> simp [Op.eqFields, part, go_sem, h1, h2]
theorem neq_idv (x0 x1 y0 y1 : Int) (w : World) : (binOp .neq 29 (.agg #[.int .i64 x0, .int .i64 x1]) (.agg #[.int .i64 y0, .int .i64 y1])).run Try.prog w = .ok (.bool (!decide ((x0, x1) = (y0, y1)))) w := by
  rw [run_neq_struct, show (10000 : Nat) = 9998 + 2 from rfl, eq_idv]
  by_cases h1 : x0 = y0 <;> by_cases h2 : x1 = y1 <;> simp [h1, h2, Result.andThen]
theorem eql_idv (x0 x1 y0 y1 : Int) (w : World) : (binOp .eql 29 (.agg #[.int .i64 x0, .int .i64 x1]) (.agg #[.int .i64 y0, .int .i64 y1])).run Try.prog w = .ok (.bool (decide ((x0, x1) = (y0, y1)))) w := by
  rw [run_eql_struct, show (10000 : Nat) = 9998 + 2 from rfl, eq_idv]
  by_cases h1 : x0 = y0 <;> by_cases h2 : x1 = y1 <;> simp [h1, h2, Result.andThen]


theorem neq_id2 (x y : Ky) (w : World) : (binOp .neq 29 (.agg #[.int .i64 x.1, .int .i64 x.2]) (.agg #[.int .i64 y.1, .int .i64 y.2])).run Try.prog w = .ok (.bool (!decide (x = y))) w := neq_idv x.1 x.2 y.1 y.2 w

set_option maxHeartbeats 1600000 in
theorem idsEq_any {w : World} {u v : Value} {A B : List Ky} (ha : SeesL iC 2 w u A) (hb : SeesL iC 2 w v B) :
    Calls Try.prog 32 #[u, v] w fun e w' => e = .returned (.bool (decide (A = B))) ∧ Below w.heap.size w w' := by
  have HA : Hid (∀ w', Below w.heap.size w w' → SeesL iC 2 w' u A) := fun w' hg => ha.below iC_len hg
  have HB : Hid (∀ w', Below w.heap.size w w' → SeesL iC 2 w' v B) := fun w' hg => hb.below iC_len hg
  have hmax : A.length ≤ 9223372036854775807 := by obtain ⟨_, _, _, _, _, _, h, _⟩ := ha; exact h
  obtain ⟨ao, ca, hv⟩ := ha.shape
  obtain ⟨bo, cb, hv2⟩ := hb.shape
  have HV := hide hv
  have HV2 := hide hv2
  obtain ⟨n, hn⟩ : ∃ n, A.length = n := ⟨_, rfl⟩
  obtain ⟨n2, hn2⟩ : ∃ n, B.length = n := ⟨_, rfl⟩
  obtain ⟨r, hr⟩ : ∃ r, decide (A = B) = r := ⟨_, rfl⟩
  rw [hv, hv2, hn, hn2, hr]
  have HN := hide hn
  have HN2 := hide hn2
  have HRr := hide hr
  rw [hn] at hmax
  clear ha hb hv hv2 hn hn2 hr
  by_cases hl : n = n2
  · subst hl
    have hne : ((n : Int) != (n : Int)) = false := by simp
    go_enter Try.func32, Try.ntmps32
    go_wp2
    go_loopw [13] (fun c wr => ∃ t : Nat, t ≤ n ∧ c = .int .i64 t ∧ (∀ u, u < t → A.getD u default = B.getD u default) ∧ Below w.heap.size w wr) (fun c _ => n - (intOf c).toNat)
    case atStart => exact ⟨0, by omega, rfl, fun u hu => absurd hu (by omega), Below.refl _ _⟩
    case round =>
      obtain ⟨t, ht, rfl, hall, hgr⟩ := hrel
      have HL := hide hall
      have HR := hide hgr
      by_cases hlt : t < n
      · obtain ⟨ao', ca', ga, oa, hv', hao, hca⟩ := SeesL.at (unhide HA wr hgr)
        obtain ⟨bo', cb', gb, ob, hv2', hbo, hcb⟩ := SeesL.at (unhide HB wr hgr)
        rw [unhide HV] at hv'
        rw [unhide HV2] at hv2'
        simp only [Value.slice.injEq, true_and] at hv' hv2'
        obtain ⟨rfl, rfl⟩ := hv'
        obtain ⟨rfl, rfl⟩ := hv2'
        have hnl := unhide HN
        have hnl2 := unhide HN2
        obtain rfl := hao (by omega)
        obtain rfl := hbo (by omega)
        obtain ⟨x, hx⟩ : ∃ k, A.getD t default = k := ⟨_, rfl⟩
        obtain ⟨y, hy⟩ : ∃ k, B.getD t default = k := ⟨_, rfl⟩
        have p0 : wr.cell? ⟨ga, oa + t * 2, none⟩ = some (.int .i64 x.1) := by have h := hca t (by omega) 0 (by decide); rw [hx] at h; simpa [iC] using h
        have q0 : wr.cell? ⟨gb, ob + t * 2, none⟩ = some (.int .i64 y.1) := by have h := hcb t (by omega) 0 (by decide); rw [hy] at h; simpa [iC] using h
        have p1 : wr.cell? ⟨ga, oa + t * 2 + 1, none⟩ = some (.int .i64 x.2) := by have h := hca t (by omega) 1 (by decide); rw [hx] at h; simpa [iC] using h
        have q1 : wr.cell? ⟨gb, ob + t * 2 + 1, none⟩ = some (.int .i64 y.2) := by have h := hcb t (by omega) 1 (by decide); rw [hy] at h; simpa [iC] using h
        have HX := hide hx
        have HY := hide hy
        have hlt0 : (t : Int) < (n : Int) := by omega
        clear hca hcb hao hbo hx hy hgr hall hnl hnl2
        by_cases he : x = y
        · skip
          have hE : ∀ z, (binOp .neq 29 (.agg #[.int .i64 x.1, .int .i64 x.2]) (.agg #[.int .i64 y.1, .int .i64 y.2])).run Try.prog z = .ok (.bool false) z := fun z => by have := neq_id2 x y z; rw [decide_eq_true he] at this; exact this
          have HE := hide he
          clear he
          go_wp2
          go_quiet (fail)
          go_wp2
          go_roundw
          case rel =>
            refine ⟨t + 1, by omega, by go_num, fun u hu => ?_, ((unhide HR).trans (Below.drewN (Below.refl _ _) nq))⟩
            by_cases hu' : u = t
            · subst hu'; rw [unhide HX, unhide HY]; exact unhide HE
            · exact unhide HL u (by omega)
          case measure => simp [intOf]; omega
        · skip
          have hE : ∀ z, (binOp .neq 29 (.agg #[.int .i64 x.1, .int .i64 x.2]) (.agg #[.int .i64 y.1, .int .i64 y.2])).run Try.prog z = .ok (.bool true) z := fun z => by have := neq_id2 x y z; rw [decide_eq_false he] at this; exact this
          have HE := hide he
          clear he
          go_wp2
          go_quiet (fail)
          go_wp2
          go_ret
          refine ⟨retBool ?_, (unhide HR).trans (Below.drewN (Below.refl _ _) nq)⟩
          rw [← unhide HRr]
          symm
          refine decide_eq_false fun h => unhide HE ?_
          have h1 := unhide HX
          have h2 := unhide HY
          rw [h] at h1
          exact h1.symm.trans h2
      · obtain rfl : t = n := by omega
        go_wp2
        go_ret
        refine ⟨retBool ?_, unhide HR⟩
        rw [← unhide HRr]
        symm
        exact decide_eq_true (list_alike ((unhide HN).trans (unhide HN2).symm) fun t ht => unhide HL t (by rw [unhide HN] at ht; exact ht))
  · have hb : ((n : Int) != (n2 : Int)) = true := by rw [bne_iff_ne]; omega
    go_enter Try.func32, Try.ntmps32
    go_wp2
    go_ret
    refine ⟨retBool ?_, Below.refl _ _⟩
    rw [← unhide HRr]
    symm
    exact decide_eq_false fun h => hl (by rw [← unhide HN, ← unhide HN2, h])

theorem id_any (n : Int) (w : World) : Calls Try.prog 17 #[.int .i64 n] w fun e w' => e = .returned (.agg #[.int .i64 n, .int .i64 0]) ∧ Below w.heap.size w w' := by
  obtain ⟨W1, hW1⟩ : ∃ z, w.alloc (.cells #[.int .i64 0, .int .i64 0] 29) = z := ⟨_, rfl⟩
  have hc : W1.heap[w.heap.size]? = some (.cells #[.int .i64 0, .int .i64 0] 29) := by rw [← hW1]; exact heap_alloc_new w _
  have c0 : W1.cell? ⟨w.heap.size, 0, none⟩ = some (.int .i64 0) := cell_at hc
  have c1 : W1.cell? ⟨w.heap.size, 1, none⟩ = some (.int .i64 0) := cell_at hc
  have f0 : W1.frozen? ⟨w.heap.size, 0, none⟩ = false := frozen_of_heap hc
  have f1 : W1.frozen? ⟨w.heap.size, 1, none⟩ = false := frozen_of_heap hc
  have b1 : Below w.heap.size w W1 := hW1 ▸ below_box _
  go_enter Try.func17, Try.ntmps17
  go_wp2
  have h1 := heap_setCell_same W1 w.heap.size 0 _ 29 (.int .i64 n) hc
  have h2 := heap_setCell_same _ w.heap.size 1 _ 29 (.int .i64 0) h1
  refine bodyPost_ret (results_cell_row rfl _ _ w.heap.size 29 _ (0, 0) _ rfl h2 Try.underlying29 rfl (by kernel_rfl)) rfl ?_
  exact ⟨rfl, (b1.setCell (Nat.le_refl _) _).setCell (Nat.le_refl _) _⟩
end Go.Proofs.Yteenbebpdibbcaa
