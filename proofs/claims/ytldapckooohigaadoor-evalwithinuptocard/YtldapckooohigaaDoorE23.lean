/- Lists held against each other. -/
import Derived.Test.YtldapckooohigaaDoorJSP
import Derived.Test.YtldapckooohigaaDoorJS
import Derived.Test.YtldapckooohigaaDoorJE
import Derived.Test.YtldapckooohigaaDoorJW
import Derived.BigQuiet
import Derived.Deep.QuietTactic
namespace Go.Proofs.YtldapckooohigaaDoor
open Go.RowKit
set_option maxRecDepth 100000

theorem eq_ch (d : Nat) (x0 x1 x2 y0 y1 y2 : Int) (x3 y3 : Bool) (w : World) : (Op.equalIn (d + 3) 40 (.agg #[.int .i32 x0, .int .i64 x1, .int .i64 x2, .bool x3]) (.agg #[.int .i32 y0, .int .i64 y1, .int .i64 y2, .bool y3])).run Tryd.prog w = .ok ((((x0 == y0) && (x1 == y1)) && (x2 == y2)) && (x3 == y3)) w := by
  have hS : Tryd.prog.underlying 40 = some (.struct (Tryd.prog.fieldsOf 40)) := by kernel_rfl
  have hp : Tryd.prog.stoodInHeld 40 = false := by kernel_rfl
  have hk := fun w => eq_keyS d x0 x1 y0 y1 w
  rw [show d + 3 = (d + 2) + 1 from rfl, run_equalIn_struct w (d + 2) 40 _ _ hS hp]
  simp only [Program.fieldsOf, Tryd.underlying40]
  by_cases h1 : x0 = y0 <;> by_cases h2 : x1 = y1 <;> by_cases h3 : x2 = y2 <;> by_cases h4 : x3 = y3 <;> simp [Op.eqFields, part, go_sem, hk, h1, h2, h3, h4]
theorem neq_ch (x y : Ch) (w : World) : (binOp .neq 40 (.agg #[.int .i32 x.1.1, .int .i64 x.1.2, .int .i64 x.2.1, .bool x.2.2]) (.agg #[.int .i32 y.1.1, .int .i64 y.1.2, .int .i64 y.2.1, .bool y.2.2])).run Tryd.prog w = .ok (.bool (!decide (x = y))) w := by
  obtain ⟨⟨x0, x1⟩, x2, x3⟩ := x
  obtain ⟨⟨y0, y1⟩, y2, y3⟩ := y
  rw [run_neq_struct, show (10000 : Nat) = 9997 + 3 from rfl, eq_ch]
  by_cases h1 : x0 = y0 <;> by_cases h2 : x1 = y1 <;> by_cases h3 : x2 = y2 <;> by_cases h4 : x3 = y3 <;> simp [h1, h2, h3, h4, Result.andThen]
theorem neq_pr (x y : Pr) (w : World) : (binOp .neq 45 (.agg #[.int .i32 x.1.1, .int .i64 x.1.2, .int .i64 x.2]) (.agg #[.int .i32 y.1.1, .int .i64 y.1.2, .int .i64 y.2])).run Tryd.prog w = .ok (.bool (!decide (x = y))) w := neq_pair x.1.1 x.1.2 x.2 y.1.1 y.1.2 y.2 w
theorem SeesL.at {α : Type} [Inhabited α] {c : α → List Value} {k : Nat} {w : World} {v : Value} {l : List α} (h : SeesL c k w v l) : ∃ ao cap gb ob, v = .slice ao l.length cap ∧ (0 < l.length → ao = some ⟨gb, ob, none⟩) ∧ ∀ t, t < l.length → ∀ j, j < k → w.cell? ⟨gb, ob + t * k + j, none⟩ = (c (l.getD t default))[j]? := by
  obtain ⟨ao, cap, gb, ob, h1, _, _, _, h5, h6⟩ := h
  refine ⟨ao, cap, gb, ob, h1, h5, fun t ht j hj => h6 t _ ?_ j hj⟩
  simp [List.getD, ht]
set_option maxHeartbeats 1600000 in
theorem ints_any {w : World} {u v : Value} {A B : List Int} (ha : SeesL nC 1 w u A) (hb : SeesL nC 1 w v B) :
    Calls Tryd.prog 31 #[u, v] w fun e w' => e = .returned (.bool (decide (A = B))) ∧ Below w.heap.size w w' := by
  have HA : Hid (∀ w', Below w.heap.size w w' → SeesL nC 1 w' u A) := fun w' hg => ha.below nC_len hg
  have HB : Hid (∀ w', Below w.heap.size w w' → SeesL nC 1 w' v B) := fun w' hg => hb.below nC_len hg
  have hmax : A.length ≤ 9223372036854775807 := by obtain ⟨_, _, _, _, _, _, h, _⟩ := ha; exact h
  obtain ⟨ao, ca, hv⟩ := ha.shape
  obtain ⟨bo, cb, hv2⟩ := hb.shape
  have HV := hide hv
  have HV2 := hide hv2
  obtain ⟨n, hn⟩ : ∃ n, A.length = n := ⟨_, rfl⟩
  obtain ⟨n2, hn2⟩ : ∃ n, B.length = n := ⟨_, rfl⟩
  obtain ⟨r, hr⟩ : ∃ r, decide (A = B) = r := ⟨_, rfl⟩
  rw [hv, hv2, hn, hn2, hr]
  have HN := hide hn
  have HN2 := hide hn2
  have HRr := hide hr
  rw [hn] at hmax
  clear ha hb hv hv2 hn hn2 hr
  by_cases hl : n = n2
  · subst hl
    have hne : ((n : Int) != (n : Int)) = false := by simp
    go_enter Tryd.func31, Tryd.ntmps31
    go_wp2
    go_loopw [13] (fun c wr => ∃ t : Nat, t ≤ n ∧ c = .int .i64 t ∧ (∀ u, u < t → A.getD u default = B.getD u default) ∧ Below w.heap.size w wr) (fun c _ => n - (intOf c).toNat)
    case atStart => exact ⟨0, by omega, rfl, fun u hu => absurd hu (by omega), Below.refl _ _⟩
    case round =>
      obtain ⟨t, ht, rfl, hall, hgr⟩ := hrel
      have HL := hide hall
      have HR := hide hgr
      by_cases hlt : t < n
      · obtain ⟨ao', ca', ga, oa, hv', hao, hca⟩ := SeesL.at (unhide HA wr hgr)
        obtain ⟨bo', cb', gb, ob, hv2', hbo, hcb⟩ := SeesL.at (unhide HB wr hgr)
        rw [unhide HV] at hv'
        rw [unhide HV2] at hv2'
        simp only [Value.slice.injEq, true_and] at hv' hv2'
        obtain ⟨rfl, rfl⟩ := hv'
        obtain ⟨rfl, rfl⟩ := hv2'
        have hnl := unhide HN
        have hnl2 := unhide HN2
        obtain rfl := hao (by omega)
        obtain rfl := hbo (by omega)
        obtain ⟨x, hx⟩ : ∃ k, A.getD t default = k := ⟨_, rfl⟩
        obtain ⟨y, hy⟩ : ∃ k, B.getD t default = k := ⟨_, rfl⟩
        have p0 : wr.cell? ⟨ga, oa + t, none⟩ = some (.int .i64 x) := by have h := hca t (by omega) 0 (by decide); rw [hx] at h; simpa [nC] using h
        have q0 : wr.cell? ⟨gb, ob + t, none⟩ = some (.int .i64 y) := by have h := hcb t (by omega) 0 (by decide); rw [hy] at h; simpa [nC] using h
        have HX := hide hx
        have HY := hide hy
        have hlt0 : (t : Int) < (n : Int) := by omega
        clear hca hcb hao hbo hx hy hgr hall hnl hnl2
        by_cases he : x = y
        · skip
          have hE : (x != y) = false := by simpa using he
          have HE := hide he
          clear he
          go_wp2
          go_quiet (fail)
          go_wp2
          go_roundw
          case rel =>
            refine ⟨t + 1, by omega, by go_num, fun u hu => ?_, ((unhide HR).trans (Below.drewN (Below.refl _ _) nq))⟩
            by_cases hu' : u = t
            · subst hu'; rw [unhide HX, unhide HY]; exact unhide HE
            · exact unhide HL u (by omega)
          case measure => simp [intOf]; omega
        · skip
          have hE : (x != y) = true := by simpa using he
          have HE := hide he
          clear he
          go_wp2
          go_quiet (fail)
          go_wp2
          go_ret
          refine ⟨retBool ?_, (unhide HR).trans (Below.drewN (Below.refl _ _) nq)⟩
          rw [← unhide HRr]
          symm
          refine decide_eq_false fun h => unhide HE ?_
          have h1 := unhide HX
          have h2 := unhide HY
          rw [h] at h1
          exact h1.symm.trans h2
      · obtain rfl : t = n := by omega
        go_wp2
        go_ret
        refine ⟨retBool ?_, unhide HR⟩
        rw [← unhide HRr]
        symm
        exact decide_eq_true (list_alike ((unhide HN).trans (unhide HN2).symm) fun t ht => unhide HL t (by rw [unhide HN] at ht; exact ht))
  · have hb : ((n : Int) != (n2 : Int)) = true := by rw [bne_iff_ne]; omega
    go_enter Tryd.func31, Tryd.ntmps31
    go_wp2
    go_ret
    refine ⟨retBool ?_, Below.refl _ _⟩
    rw [← unhide HRr]
    symm
    exact decide_eq_false fun h => hl (by rw [← unhide HN, ← unhide HN2, h])
set_option maxHeartbeats 1600000 in
theorem sints_any {w : World} {u v : Value} {A B : List Int} (ha : SeesL nC 1 w u A) (hb : SeesL nC 1 w v B) :
    Calls Tryd.prog 37 #[u, v] w fun e w' => e = .returned (.bool (decide (A = B))) ∧ Below w.heap.size w w' := by
  have HA : Hid (∀ w', Below w.heap.size w w' → SeesL nC 1 w' u A) := fun w' hg => ha.below nC_len hg
  have HB : Hid (∀ w', Below w.heap.size w w' → SeesL nC 1 w' v B) := fun w' hg => hb.below nC_len hg
  have hmax : A.length ≤ 9223372036854775807 := by obtain ⟨_, _, _, _, _, _, h, _⟩ := ha; exact h
  obtain ⟨ao, ca, hv⟩ := ha.shape
  obtain ⟨bo, cb, hv2⟩ := hb.shape
  have HV := hide hv
  have HV2 := hide hv2
  obtain ⟨n, hn⟩ : ∃ n, A.length = n := ⟨_, rfl⟩
  obtain ⟨n2, hn2⟩ : ∃ n, B.length = n := ⟨_, rfl⟩
  obtain ⟨r, hr⟩ : ∃ r, decide (A = B) = r := ⟨_, rfl⟩
  rw [hv, hv2, hn, hn2, hr]
  have HN := hide hn
  have HN2 := hide hn2
  have HRr := hide hr
  rw [hn] at hmax
  clear ha hb hv hv2 hn hn2 hr
  by_cases hl : n = n2
  · subst hl
    have hne : ((n : Int) != (n : Int)) = false := by simp
    go_enter Tryd.func37, Tryd.ntmps37
    go_wp2
    go_loopw [5] (fun c wr => ∃ t : Nat, t ≤ n ∧ c = .int .i64 t ∧ (∀ u, u < t → A.getD u default = B.getD u default) ∧ Below w.heap.size w wr) (fun c _ => n - (intOf c).toNat)
    case atStart => exact ⟨0, by omega, rfl, fun u hu => absurd hu (by omega), Below.refl _ _⟩
    case round =>
      obtain ⟨t, ht, rfl, hall, hgr⟩ := hrel
      have HL := hide hall
      have HR := hide hgr
      by_cases hlt : t < n
      · obtain ⟨ao', ca', ga, oa, hv', hao, hca⟩ := SeesL.at (unhide HA wr hgr)
        obtain ⟨bo', cb', gb, ob, hv2', hbo, hcb⟩ := SeesL.at (unhide HB wr hgr)
        rw [unhide HV] at hv'
        rw [unhide HV2] at hv2'
        simp only [Value.slice.injEq, true_and] at hv' hv2'
        obtain ⟨rfl, rfl⟩ := hv'
        obtain ⟨rfl, rfl⟩ := hv2'
        have hnl := unhide HN
        have hnl2 := unhide HN2
        obtain rfl := hao (by omega)
        obtain rfl := hbo (by omega)
        obtain ⟨x, hx⟩ : ∃ k, A.getD t default = k := ⟨_, rfl⟩
        obtain ⟨y, hy⟩ : ∃ k, B.getD t default = k := ⟨_, rfl⟩
        have p0 : wr.cell? ⟨ga, oa + t, none⟩ = some (.int .i64 x) := by have h := hca t (by omega) 0 (by decide); rw [hx] at h; simpa [nC] using h
        have q0 : wr.cell? ⟨gb, ob + t, none⟩ = some (.int .i64 y) := by have h := hcb t (by omega) 0 (by decide); rw [hy] at h; simpa [nC] using h
        have HX := hide hx
        have HY := hide hy
        have hlt0 : (t : Int) < (n : Int) := by omega
        clear hca hcb hao hbo hx hy hgr hall hnl hnl2
        by_cases he : x = y
        · skip
          have hE : (x != y) = false := by simpa using he
          have HE := hide he
          clear he
          go_wp2
          go_quiet (fail)
          go_wp2
          go_roundw
          case rel =>
            refine ⟨t + 1, by omega, by go_num, fun u hu => ?_, ((unhide HR).trans (Below.drewN (Below.refl _ _) nq))⟩
            by_cases hu' : u = t
            · subst hu'; rw [unhide HX, unhide HY]; exact unhide HE
            · exact unhide HL u (by omega)
          case measure => simp [intOf]; omega
        · skip
          have hE : (x != y) = true := by simpa using he
          have HE := hide he
          clear he
          go_wp2
          go_quiet (fail)
          go_wp2
          go_ret
          refine ⟨retBool ?_, (unhide HR).trans (Below.drewN (Below.refl _ _) nq)⟩
          rw [← unhide HRr]
          symm
          refine decide_eq_false fun h => unhide HE ?_
          have h1 := unhide HX
          have h2 := unhide HY
          rw [h] at h1
          exact h1.symm.trans h2
      · obtain rfl : t = n := by omega
        go_wp2
        go_ret
        refine ⟨retBool ?_, unhide HR⟩
        rw [← unhide HRr]
        symm
        exact decide_eq_true (list_alike ((unhide HN).trans (unhide HN2).symm) fun t ht => unhide HL t (by rw [unhide HN] at ht; exact ht))
  · have hb : ((n : Int) != (n2 : Int)) = true := by rw [bne_iff_ne]; omega
    go_enter Tryd.func37, Tryd.ntmps37
    go_wp2
    go_ret
    refine ⟨retBool ?_, Below.refl _ _⟩
    rw [← unhide HRr]
    symm
    exact decide_eq_false fun h => hl (by rw [← unhide HN, ← unhide HN2, h])
set_option maxHeartbeats 1600000 in
theorem chs_any {w : World} {u v : Value} {A B : List Ch} (ha : SeesL chC 4 w u A) (hb : SeesL chC 4 w v B) :
    Calls Tryd.prog 13 #[u, v] w fun e w' => e = .returned (.bool (decide (A = B))) ∧ Below w.heap.size w w' := by
  have HA : Hid (∀ w', Below w.heap.size w w' → SeesL chC 4 w' u A) := fun w' hg => ha.below chC_len hg
  have HB : Hid (∀ w', Below w.heap.size w w' → SeesL chC 4 w' v B) := fun w' hg => hb.below chC_len hg
  have hmax : A.length ≤ 9223372036854775807 := by obtain ⟨_, _, _, _, _, _, h, _⟩ := ha; exact h
  obtain ⟨ao, ca, hv⟩ := ha.shape
  obtain ⟨bo, cb, hv2⟩ := hb.shape
  have HV := hide hv
  have HV2 := hide hv2
  obtain ⟨n, hn⟩ : ∃ n, A.length = n := ⟨_, rfl⟩
  obtain ⟨n2, hn2⟩ : ∃ n, B.length = n := ⟨_, rfl⟩
  obtain ⟨r, hr⟩ : ∃ r, decide (A = B) = r := ⟨_, rfl⟩
  rw [hv, hv2, hn, hn2, hr]
  have HN := hide hn
  have HN2 := hide hn2
  have HRr := hide hr
  rw [hn] at hmax
  clear ha hb hv hv2 hn hn2 hr
  by_cases hl : n = n2
  · subst hl
    have hne : ((n : Int) != (n : Int)) = false := by simp
    go_enter Tryd.func13, Tryd.ntmps13
    go_wp2
    go_loopw [13] (fun c wr => ∃ t : Nat, t ≤ n ∧ c = .int .i64 t ∧ (∀ u, u < t → A.getD u default = B.getD u default) ∧ Below w.heap.size w wr) (fun c _ => n - (intOf c).toNat)
    case atStart => exact ⟨0, by omega, rfl, fun u hu => absurd hu (by omega), Below.refl _ _⟩
    case round =>
      obtain ⟨t, ht, rfl, hall, hgr⟩ := hrel
      have HL := hide hall
      have HR := hide hgr
      by_cases hlt : t < n
      · obtain ⟨ao', ca', ga, oa, hv', hao, hca⟩ := SeesL.at (unhide HA wr hgr)
        obtain ⟨bo', cb', gb, ob, hv2', hbo, hcb⟩ := SeesL.at (unhide HB wr hgr)
        rw [unhide HV] at hv'
        rw [unhide HV2] at hv2'
        simp only [Value.slice.injEq, true_and] at hv' hv2'
        obtain ⟨rfl, rfl⟩ := hv'
        obtain ⟨rfl, rfl⟩ := hv2'
        have hnl := unhide HN
        have hnl2 := unhide HN2
        obtain rfl := hao (by omega)
        obtain rfl := hbo (by omega)
        obtain ⟨x, hx⟩ : ∃ k, A.getD t default = k := ⟨_, rfl⟩
        obtain ⟨y, hy⟩ : ∃ k, B.getD t default = k := ⟨_, rfl⟩
        have p0 : wr.cell? ⟨ga, oa + t * 4, none⟩ = some (.int .i32 x.1.1) := by have h := hca t (by omega) 0 (by decide); rw [hx] at h; simpa [chC] using h
        have q0 : wr.cell? ⟨gb, ob + t * 4, none⟩ = some (.int .i32 y.1.1) := by have h := hcb t (by omega) 0 (by decide); rw [hy] at h; simpa [chC] using h
        have p1 : wr.cell? ⟨ga, oa + t * 4 + 1, none⟩ = some (.int .i64 x.1.2) := by have h := hca t (by omega) 1 (by decide); rw [hx] at h; simpa [chC] using h
        have q1 : wr.cell? ⟨gb, ob + t * 4 + 1, none⟩ = some (.int .i64 y.1.2) := by have h := hcb t (by omega) 1 (by decide); rw [hy] at h; simpa [chC] using h
        have p2 : wr.cell? ⟨ga, oa + t * 4 + 2, none⟩ = some (.int .i64 x.2.1) := by have h := hca t (by omega) 2 (by decide); rw [hx] at h; simpa [chC] using h
        have q2 : wr.cell? ⟨gb, ob + t * 4 + 2, none⟩ = some (.int .i64 y.2.1) := by have h := hcb t (by omega) 2 (by decide); rw [hy] at h; simpa [chC] using h
        have p3 : wr.cell? ⟨ga, oa + t * 4 + 3, none⟩ = some (.bool x.2.2) := by have h := hca t (by omega) 3 (by decide); rw [hx] at h; simpa [chC] using h
        have q3 : wr.cell? ⟨gb, ob + t * 4 + 3, none⟩ = some (.bool y.2.2) := by have h := hcb t (by omega) 3 (by decide); rw [hy] at h; simpa [chC] using h
        have HX := hide hx
        have HY := hide hy
        have hlt0 : (t : Int) < (n : Int) := by omega
        clear hca hcb hao hbo hx hy hgr hall hnl hnl2
        by_cases he : x = y
        · skip
          have hE : ∀ z, (binOp .neq 40 (.agg #[.int .i32 x.1.1, .int .i64 x.1.2, .int .i64 x.2.1, .bool x.2.2]) (.agg #[.int .i32 y.1.1, .int .i64 y.1.2, .int .i64 y.2.1, .bool y.2.2])).run Tryd.prog z = .ok (.bool false) z := fun z => by have := neq_ch x y z; rw [decide_eq_true he] at this; exact this
          have HE := hide he
          clear he
          go_wp2
          go_quiet (fail)
          go_wp2
          go_roundw
          case rel =>
            refine ⟨t + 1, by omega, by go_num, fun u hu => ?_, ((unhide HR).trans (Below.drewN (Below.refl _ _) nq))⟩
            by_cases hu' : u = t
            · subst hu'; rw [unhide HX, unhide HY]; exact unhide HE
            · exact unhide HL u (by omega)
          case measure => simp [intOf]; omega
        · skip
          have hE : ∀ z, (binOp .neq 40 (.agg #[.int .i32 x.1.1, .int .i64 x.1.2, .int .i64 x.2.1, .bool x.2.2]) (.agg #[.int .i32 y.1.1, .int .i64 y.1.2, .int .i64 y.2.1, .bool y.2.2])).run Tryd.prog z = .ok (.bool true) z := fun z => by have := neq_ch x y z; rw [decide_eq_false he] at this; exact this
          have HE := hide he
          clear he
          go_wp2
          go_quiet (fail)
          go_wp2
          go_ret
          refine ⟨retBool ?_, (unhide HR).trans (Below.drewN (Below.refl _ _) nq)⟩
          rw [← unhide HRr]
          symm
          refine decide_eq_false fun h => unhide HE ?_
          have h1 := unhide HX
          have h2 := unhide HY
          rw [h] at h1
          exact h1.symm.trans h2
      · obtain rfl : t = n := by omega
        go_wp2
        go_ret
        refine ⟨retBool ?_, unhide HR⟩
        rw [← unhide HRr]
        symm
        exact decide_eq_true (list_alike ((unhide HN).trans (unhide HN2).symm) fun t ht => unhide HL t (by rw [unhide HN] at ht; exact ht))
  · have hb : ((n : Int) != (n2 : Int)) = true := by rw [bne_iff_ne]; omega
    go_enter Tryd.func13, Tryd.ntmps13
    go_wp2
    go_ret
    refine ⟨retBool ?_, Below.refl _ _⟩
    rw [← unhide HRr]
    symm
    exact decide_eq_false fun h => hl (by rw [← unhide HN, ← unhide HN2, h])
set_option maxHeartbeats 1600000 in
theorem prs_any {w : World} {u v : Value} {A B : List Pr} (ha : SeesL pC 3 w u A) (hb : SeesL pC 3 w v B) :
    Calls Tryd.prog 16 #[u, v] w fun e w' => e = .returned (.bool (decide (A = B))) ∧ Below w.heap.size w w' := by
  have HA : Hid (∀ w', Below w.heap.size w w' → SeesL pC 3 w' u A) := fun w' hg => ha.below pC_len hg
  have HB : Hid (∀ w', Below w.heap.size w w' → SeesL pC 3 w' v B) := fun w' hg => hb.below pC_len hg
  have hmax : A.length ≤ 9223372036854775807 := by obtain ⟨_, _, _, _, _, _, h, _⟩ := ha; exact h
  obtain ⟨ao, ca, hv⟩ := ha.shape
  obtain ⟨bo, cb, hv2⟩ := hb.shape
  have HV := hide hv
  have HV2 := hide hv2
  obtain ⟨n, hn⟩ : ∃ n, A.length = n := ⟨_, rfl⟩
  obtain ⟨n2, hn2⟩ : ∃ n, B.length = n := ⟨_, rfl⟩
  obtain ⟨r, hr⟩ : ∃ r, decide (A = B) = r := ⟨_, rfl⟩
  rw [hv, hv2, hn, hn2, hr]
  have HN := hide hn
  have HN2 := hide hn2
  have HRr := hide hr
  rw [hn] at hmax
  clear ha hb hv hv2 hn hn2 hr
  by_cases hl : n = n2
  · subst hl
    have hne : ((n : Int) != (n : Int)) = false := by simp
    go_enter Tryd.func16, Tryd.ntmps16
    go_wp2
    go_loopw [13] (fun c wr => ∃ t : Nat, t ≤ n ∧ c = .int .i64 t ∧ (∀ u, u < t → A.getD u default = B.getD u default) ∧ Below w.heap.size w wr) (fun c _ => n - (intOf c).toNat)
    case atStart => exact ⟨0, by omega, rfl, fun u hu => absurd hu (by omega), Below.refl _ _⟩
    case round =>
      obtain ⟨t, ht, rfl, hall, hgr⟩ := hrel
      have HL := hide hall
      have HR := hide hgr
      by_cases hlt : t < n
      · obtain ⟨ao', ca', ga, oa, hv', hao, hca⟩ := SeesL.at (unhide HA wr hgr)
        obtain ⟨bo', cb', gb, ob, hv2', hbo, hcb⟩ := SeesL.at (unhide HB wr hgr)
        rw [unhide HV] at hv'
        rw [unhide HV2] at hv2'
        simp only [Value.slice.injEq, true_and] at hv' hv2'
        obtain ⟨rfl, rfl⟩ := hv'
        obtain ⟨rfl, rfl⟩ := hv2'
        have hnl := unhide HN
        have hnl2 := unhide HN2
        obtain rfl := hao (by omega)
        obtain rfl := hbo (by omega)
        obtain ⟨x, hx⟩ : ∃ k, A.getD t default = k := ⟨_, rfl⟩
        obtain ⟨y, hy⟩ : ∃ k, B.getD t default = k := ⟨_, rfl⟩
        have p0 : wr.cell? ⟨ga, oa + t * 3, none⟩ = some (.int .i32 x.1.1) := by have h := hca t (by omega) 0 (by decide); rw [hx] at h; simpa [pC] using h
        have q0 : wr.cell? ⟨gb, ob + t * 3, none⟩ = some (.int .i32 y.1.1) := by have h := hcb t (by omega) 0 (by decide); rw [hy] at h; simpa [pC] using h
        have p1 : wr.cell? ⟨ga, oa + t * 3 + 1, none⟩ = some (.int .i64 x.1.2) := by have h := hca t (by omega) 1 (by decide); rw [hx] at h; simpa [pC] using h
        have q1 : wr.cell? ⟨gb, ob + t * 3 + 1, none⟩ = some (.int .i64 y.1.2) := by have h := hcb t (by omega) 1 (by decide); rw [hy] at h; simpa [pC] using h
        have p2 : wr.cell? ⟨ga, oa + t * 3 + 2, none⟩ = some (.int .i64 x.2) := by have h := hca t (by omega) 2 (by decide); rw [hx] at h; simpa [pC] using h
        have q2 : wr.cell? ⟨gb, ob + t * 3 + 2, none⟩ = some (.int .i64 y.2) := by have h := hcb t (by omega) 2 (by decide); rw [hy] at h; simpa [pC] using h
        have HX := hide hx
        have HY := hide hy
        have hlt0 : (t : Int) < (n : Int) := by omega
        clear hca hcb hao hbo hx hy hgr hall hnl hnl2
        by_cases he : x = y
        · skip
          have hE : ∀ z, (binOp .neq 45 (.agg #[.int .i32 x.1.1, .int .i64 x.1.2, .int .i64 x.2]) (.agg #[.int .i32 y.1.1, .int .i64 y.1.2, .int .i64 y.2])).run Tryd.prog z = .ok (.bool false) z := fun z => by have := neq_pr x y z; rw [decide_eq_true he] at this; exact this
          have HE := hide he
          clear he
          go_wp2
          go_quiet (fail)
          go_wp2
          go_roundw
          case rel =>
            refine ⟨t + 1, by omega, by go_num, fun u hu => ?_, ((unhide HR).trans (Below.drewN (Below.refl _ _) nq))⟩
            by_cases hu' : u = t
            · subst hu'; rw [unhide HX, unhide HY]; exact unhide HE
            · exact unhide HL u (by omega)
          case measure => simp [intOf]; omega
        · skip
          have hE : ∀ z, (binOp .neq 45 (.agg #[.int .i32 x.1.1, .int .i64 x.1.2, .int .i64 x.2]) (.agg #[.int .i32 y.1.1, .int .i64 y.1.2, .int .i64 y.2])).run Tryd.prog z = .ok (.bool true) z := fun z => by have := neq_pr x y z; rw [decide_eq_false he] at this; exact this
          have HE := hide he
          clear he
          go_wp2
          go_quiet (fail)
          go_wp2
          go_ret
          refine ⟨retBool ?_, (unhide HR).trans (Below.drewN (Below.refl _ _) nq)⟩
          rw [← unhide HRr]
          symm
          refine decide_eq_false fun h => unhide HE ?_
          have h1 := unhide HX
          have h2 := unhide HY
          rw [h] at h1
          exact h1.symm.trans h2
      · obtain rfl : t = n := by omega
        go_wp2
        go_ret
        refine ⟨retBool ?_, unhide HR⟩
        rw [← unhide HRr]
        symm
        exact decide_eq_true (list_alike ((unhide HN).trans (unhide HN2).symm) fun t ht => unhide HL t (by rw [unhide HN] at ht; exact ht))
  · have hb : ((n : Int) != (n2 : Int)) = true := by rw [bne_iff_ne]; omega
    go_enter Tryd.func16, Tryd.ntmps16
    go_wp2
    go_ret
    refine ⟨retBool ?_, Below.refl _ _⟩
    rw [← unhide HRr]
    symm
    exact decide_eq_false fun h => hl (by rw [← unhide HN, ← unhide HN2, h])
end Go.Proofs.YtldapckooohigaaDoor
