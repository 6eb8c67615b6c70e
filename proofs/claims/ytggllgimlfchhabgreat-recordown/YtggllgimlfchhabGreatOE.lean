/- RecordOwn: spoil. -/
import Derived.Test.YtggllgimlfchhabGreatOD
namespace Go.Proofs.YtggllgimlfchhabGreat
open Go.RowKit
set_option maxRecDepth 100000

set_option maxHeartbeats 3200000 in
theorem spoil_any {P : Nat → Prop} (ek ef en : Int) (ta : Option Addr) (n tc : Nat) (w : World) (hs : SoftTs P w (.slice ta n tc) n) :
    Calls Tryz.prog 19 #[.agg #[.int .i64 ek, .int .i64 ef, .int .i64 en, .slice ta n tc]] w fun e w' => e = .returned (.tuple #[]) ∧ Mild P w w' := by
  have hal : Below w.heap.size w (w.alloc (.cells #[.int .i64 ek, .int .i64 ef, .int .i64 en, .slice ta n tc] 24)) := (Below.refl _ _).alloc (Nat.le_refl _) _
  have hx0 : (w.alloc (.cells #[.int .i64 ek, .int .i64 ef, .int .i64 en, .slice ta n tc] 24)).heap[w.heap.size]? = some (.cells #[.int .i64 ek, .int .i64 ef, .int .i64 en, .slice ta n tc] 24) := heap_alloc_new w _
  obtain ⟨y0, hy0⟩ : ∃ y, w.alloc (.cells #[.int .i64 ek, .int .i64 ef, .int .i64 en, .slice ta n tc] 24) = y := ⟨_, rfl⟩
  rw [hy0] at hal hx0
  have HM0 : Hid (Mild P w y0) := Mild.of hal
  have HS := hide (hs.on (unhide HM0))
  have hn : n ≤ 9223372036854775807 := by obtain ⟨_, _, _, _, h, _⟩ := hs; exact h
  have HX := hide hx0
  have HX3 : Hid (∀ x, Mild P y0 x → x.cell? ⟨w.heap.size, 3, none⟩ = some (.slice ta n tc)) := fun x m => m.slice hx0 (cell_of_heap hx0)
  have k0 : y0.cell? ⟨w.heap.size, 3, none⟩ = some (.slice ta n tc) := cell_of_heap hx0
  clear hal hx0 hs
  go_enter Tryz.func19, Tryz.ntmps19
  go_wp2_with (rw [hy0])
  go_loopw [11] (fun c wr => ∃ t : Nat, t ≤ n ∧ c = .int .i64 t ∧ Mild P y0 wr) (fun c _ => n - (intOf c).toNat)
  case atStart => exact ⟨0, by omega, rfl, Mild.refl _ _⟩
  case round =>
    obtain ⟨t, ht, rfl, m0⟩ := hrel
    by_cases hlt : t < n
    case neg =>
      have HF := hide ((unhide HM0).trans m0)
      have hnl : ¬ (t : Int) < (n : Int) := by omega
      clear m0
      go_wp2
      go_end0
      exact ⟨rfl, unhide HF⟩
    have k3 := unhide HX3 wr m0
    obtain ⟨ao, cap, hv, _, _, hsf⟩ := (unhide HS).on m0
    simp only [Value.slice.injEq, true_and] at hv
    obtain ⟨rfl, rfl⟩ := hv
    obtain ⟨g, cur, T, rfl, hP, hg, hst⟩ := hsf (by omega)
    obtain ⟨cv, av, rv, wv, n1, n2, n3, n4, ⟨x0, q0⟩, ⟨x1, q1⟩, q2, q3, q4, q5, s1, s2, s3, s4⟩ := hst t hlt
    have S1 := hide s1
    have S2 := hide s2
    have S3 := hide s3
    have S4 := hide s4
    obtain ⟨a1, c1, rfl, _, hn1, _⟩ := s1
    obtain ⟨a2, c2, rfl, _, hn2, _⟩ := s2
    obtain ⟨a3, c3, rfl, _, hn3, _⟩ := s3
    obtain ⟨a4, c4, rfl, _, hn4, _⟩ := s4
    have z0 : wr.cell? ⟨g, 0 + t * 6, none⟩ = some (.int .i64 x0) := by rw [Nat.zero_add]; exact q0
    have z1 : wr.cell? ⟨g, 0 + t * 6 + 1, none⟩ = some (.int .i64 x1) := by rw [Nat.zero_add]; exact q1
    have z2 : wr.cell? ⟨g, 0 + t * 6 + 2, none⟩ = some (.slice a1 n1 c1) := by rw [Nat.zero_add]; exact q2
    have z3 : wr.cell? ⟨g, 0 + t * 6 + 3, none⟩ = some (.slice a2 n2 c2) := by rw [Nat.zero_add]; exact q3
    have z4 : wr.cell? ⟨g, 0 + t * 6 + 4, none⟩ = some (.slice a3 n3 c3) := by rw [Nat.zero_add]; exact q4
    have z5 : wr.cell? ⟨g, 0 + t * 6 + 5, none⟩ = some (.slice a4 n4 c4) := by rw [Nat.zero_add]; exact q5
    have hal : Below wr.heap.size wr (wr.alloc (.cells #[.int .i64 0, .int .i64 0, .slice none 0 0, .slice none 0 0, .slice none 0 0, .slice none 0 0] 70)) := (Below.refl _ _).alloc (Nat.le_refl _) _
    have hxa : (wr.alloc (.cells #[.int .i64 0, .int .i64 0, .slice none 0 0, .slice none 0 0, .slice none 0 0, .slice none 0 0] 70)).heap[wr.heap.size]? = some (.cells #[.int .i64 0, .int .i64 0, .slice none 0 0, .slice none 0 0, .slice none 0 0, .slice none 0 0] 70) := heap_alloc_new wr _
    obtain ⟨za, hza⟩ : ∃ y, wr.alloc (.cells #[.int .i64 0, .int .i64 0, .slice none 0 0, .slice none 0 0, .slice none 0 0, .slice none 0 0] 70) = y := ⟨_, rfl⟩
    rw [hza] at hal hxa
    have hbb := below_setRow hal (cs := #[.int .i64 x0, .int .i64 x1, .slice a1 n1 c1, .slice a2 n2 c2, .slice a3 n3 c3, .slice a4 n4 c4]) (g := wr.heap.size) (Nat.le_refl _)
    have hxb := setRow_heap za wr.heap.size _ #[.int .i64 x0, .int .i64 x1, .slice a1 n1 c1, .slice a2 n2 c2, .slice a3 n3 c3, .slice a4 n4 c4] 70 (0, 0) hxa
    obtain ⟨Y, hY⟩ : ∃ n, wr.heap.size = n := ⟨_, rfl⟩
    rw [hY] at hxa hxb
    have m1 : Mild P wr (za.setRow wr.heap.size #[.int .i64 x0, .int .i64 x1, .slice a1 n1 c1, .slice a2 n2 c2, .slice a3 n3 c3, .slice a4 n4 c4]) := Mild.of hbb
    rw [hY] at m1
    obtain ⟨wb, hwb⟩ : ∃ y, za.setRow Y #[.int .i64 x0, .int .i64 x1, .slice a1 n1 c1, .slice a2 n2 c2, .slice a3 n3 c3, .slice a4 n4 c4] = y := ⟨_, rfl⟩
    rw [hwb] at hxb m1
    have HXA := hide hxa
    have HYB := hide hxb
    have HMB := hide (m0.trans m1)
    have HMR := hide m1
    have HG := hide hg
    have HY2 : Hid (∀ x, Mild P wb x → x.cell? ⟨Y, 2, none⟩ = some (.slice a1 n1 c1) ∧ x.cell? ⟨Y, 3, none⟩ = some (.slice a2 n2 c2) ∧ x.cell? ⟨Y, 4, none⟩ = some (.slice a3 n3 c3) ∧ x.cell? ⟨Y, 5, none⟩ = some (.slice a4 n4 c4)) := fun x m => ⟨m.slice hxb (cell_of_heap hxb), m.slice hxb (cell_of_heap hxb), m.slice hxb (cell_of_heap hxb), m.slice hxb (cell_of_heap hxb)⟩
    have HW1 : Hid (∀ x j, Mild P wb x → j < n1 → ∃ g1 a, a1 = some ⟨g1, 0, none⟩ ∧ x.cell? ⟨g1, j, none⟩ = some (.int .u8 a) ∧ x.frozen? ⟨g1, j, none⟩ = false ∧ ∀ y, Mild P wb (x.setCell ⟨g1, j, none⟩ (.int .u8 y))) := fun x j m hj => by
      obtain ⟨ao, cp, e, _, _, h⟩ := ((unhide S1).on (unhide HMR)).on m
      simp only [Value.slice.injEq, true_and] at e
      obtain ⟨rfl, rfl⟩ := e
      obtain ⟨g1, cu, T1, rfl, hP1, hg1, hc1⟩ := h (by omega)
      obtain ⟨a, ha⟩ := hc1 j hj
      rw [show j * 1 + 0 = j by omega] at ha
      exact ⟨g1, a, rfl, ha, frozen_of_heap hg1, fun y => m.trans (Mild.set hP1 ha y)⟩
    have HW2 : Hid (∀ x j, Mild P wb x → j < n2 → ∃ g1 a, a2 = some ⟨g1, 0, none⟩ ∧ x.cell? ⟨g1, j, none⟩ = some (.int .i64 a) ∧ x.frozen? ⟨g1, j, none⟩ = false ∧ ∀ y, Mild P wb (x.setCell ⟨g1, j, none⟩ (.int .i64 y))) := fun x j m hj => by
      obtain ⟨ao, cp, e, _, _, h⟩ := ((unhide S2).on (unhide HMR)).on m
      simp only [Value.slice.injEq, true_and] at e
      obtain ⟨rfl, rfl⟩ := e
      obtain ⟨g1, cu, T1, rfl, hP1, hg1, hc1⟩ := h (by omega)
      obtain ⟨a, ha⟩ := hc1 j hj
      rw [show j * 1 + 0 = j by omega] at ha
      exact ⟨g1, a, rfl, ha, frozen_of_heap hg1, fun y => m.trans (Mild.set hP1 ha y)⟩
    have HW3 : Hid (∀ x j, Mild P wb x → j < n3 → ∃ g1 a, a3 = some ⟨g1, 0, none⟩ ∧ x.cell? ⟨g1, j * 2 + 1, none⟩ = some (.int .i64 a) ∧ x.frozen? ⟨g1, j * 2 + 1, none⟩ = false ∧ ∀ y, Mild P wb (x.setCell ⟨g1, j * 2 + 1, none⟩ (.int .i64 y))) := fun x j m hj => by
      obtain ⟨ao, cp, e, _, _, h⟩ := ((unhide S3).on (unhide HMR)).on m
      simp only [Value.slice.injEq, true_and] at e
      obtain ⟨rfl, rfl⟩ := e
      obtain ⟨g1, cu, T1, rfl, hP1, hg1, hc1⟩ := h (by omega)
      obtain ⟨a, ha⟩ := hc1 j hj
      exact ⟨g1, a, rfl, ha, frozen_of_heap hg1, fun y => m.trans (Mild.set hP1 ha y)⟩
    have HW4 : Hid (∀ x j, Mild P wb x → j < n4 → ∃ g1 a, a4 = some ⟨g1, 0, none⟩ ∧ x.cell? ⟨g1, j * 2 + 1, none⟩ = some (.int .i64 a) ∧ x.frozen? ⟨g1, j * 2 + 1, none⟩ = false ∧ ∀ y, Mild P wb (x.setCell ⟨g1, j * 2 + 1, none⟩ (.int .i64 y))) := fun x j m hj => by
      obtain ⟨ao, cp, e, _, _, h⟩ := ((unhide S4).on (unhide HMR)).on m
      simp only [Value.slice.injEq, true_and] at e
      obtain ⟨rfl, rfl⟩ := e
      obtain ⟨g1, cu, T1, rfl, hP1, hg1, hc1⟩ := h (by omega)
      obtain ⟨a, ha⟩ := hc1 j hj
      exact ⟨g1, a, rfl, ha, frozen_of_heap hg1, fun y => m.trans (Mild.set hP1 ha y)⟩
    have HEND : Hid (∀ x, Mild P wb x → x.cell? ⟨w.heap.size, 3, none⟩ = some (.slice (some ⟨g, 0, none⟩) n tc) ∧ (∃ a, x.cell? ⟨g, t * 6, none⟩ = some (.int .i64 a)) ∧ x.frozen? ⟨g, t * 6, none⟩ = false ∧ ∀ y, Mild P y0 (x.setCell ⟨g, t * 6, none⟩ (.int .i64 y))) := fun x m => by
      have mm := (unhide HMR).trans m
      obtain ⟨a, ha⟩ := mm.int (unhide HG) ⟨x0, q0⟩
      exact ⟨unhide HX3 x ((unhide HMB).trans m), ⟨a, ha⟩, mm.frozen (unhide HG) _, fun y => ((unhide HMB).trans m).trans (Mild.set hP ha y)⟩
    have kb := (unhide HY2 wb (Mild.refl _ _)).1
    clear hst hsf hal hxa hbb hxb m1 m0 hg HS
    go_wp2_with (first | rw [hza] | rw [hwb] | rw [hY] | refine wpList_store_row rfl 70 _ _ rfl Y _ _ rfl rfl 70 (unhide HXA) (by kernel_rfl) rfl (by first | kernel_rfl | simp [Value.oneCell']) ?_)
    go_loopw [22] (fun c wr => ∃ j : Nat, j ≤ n1 ∧ c = .int .i64 j ∧ Mild P wb wr) (fun c _ => n1 - (intOf c).toNat)
    case atStart => exact ⟨0, by omega, rfl, Mild.refl _ _⟩
    case round =>
      obtain ⟨j, hj, rfl, m1⟩ := hrel
      have kc := (unhide HY2 _ m1).1
      by_cases hjl : j < n1
      case pos =>
        obtain ⟨g1, a, e1, hc1, hf1, hm1⟩ := unhide HW1 _ j m1 hjl
        subst e1
        have hc2 : wr.cell? ⟨g1, 0 + j, none⟩ = some (.int .u8 a) := by simpa using hc1
        have hf2 : wr.frozen? ⟨g1, 0 + j, none⟩ = false := by simpa using hf1
        have HM := hide hm1
        clear hm1 m1
        go_wp2
        go_roundw
        case rel => exact ⟨j + 1, by omega, by go_num, by simpa using unhide HM _⟩
        case measure => simp [intOf]; omega
      have hjn : ¬ (j : Int) < (n1 : Int) := by omega
      have kn := (unhide HY2 _ m1).2.1
      go_wp2
      go_loopw [36] (fun c wr => ∃ j : Nat, j ≤ n2 ∧ c = .int .i64 j ∧ Mild P wb wr) (fun c _ => n2 - (intOf c).toNat)
      case atStart => exact ⟨0, by omega, rfl, m1⟩
      case round =>
        obtain ⟨j, hj, rfl, m2⟩ := hrel
        have kc := (unhide HY2 _ m2).2.1
        by_cases hjl : j < n2
        case pos =>
          obtain ⟨g1, a, e1, hc1, hf1, hm1⟩ := unhide HW2 _ j m2 hjl
          subst e1
          have hc2 : wr.cell? ⟨g1, 0 + j, none⟩ = some (.int .i64 a) := by simpa using hc1
          have hf2 : wr.frozen? ⟨g1, 0 + j, none⟩ = false := by simpa using hf1
          have HM := hide hm1
          clear hm1 m2
          go_wp2
          go_roundw
          case rel => exact ⟨j + 1, by omega, by go_num, by simpa using unhide HM _⟩
          case measure => simp [intOf]; omega
        have hjn : ¬ (j : Int) < (n2 : Int) := by omega
        have kn := (unhide HY2 _ m2).2.2.1
        go_wp2
        go_loopw [47] (fun c wr => ∃ j : Nat, j ≤ n3 ∧ c = .int .i64 j ∧ Mild P wb wr) (fun c _ => n3 - (intOf c).toNat)
        case atStart => exact ⟨0, by omega, rfl, m2⟩
        case round =>
          obtain ⟨j, hj, rfl, m3⟩ := hrel
          have kc := (unhide HY2 _ m3).2.2.1
          by_cases hjl : j < n3
          case pos =>
            obtain ⟨g1, a, e1, hc1, hf1, hm1⟩ := unhide HW3 _ j m3 hjl
            subst e1
            have hc2 : wr.cell? ⟨g1, 0 + j * 2 + 1, none⟩ = some (.int .i64 a) := by simpa using hc1
            have hf2 : wr.frozen? ⟨g1, 0 + j * 2 + 1, none⟩ = false := by simpa using hf1
            have HM := hide hm1
            clear hm1 m3
            go_wp2
            go_roundw
            case rel => exact ⟨j + 1, by omega, by go_num, by simpa using unhide HM _⟩
            case measure => simp [intOf]; omega
          have hjn : ¬ (j : Int) < (n3 : Int) := by omega
          have kn := (unhide HY2 _ m3).2.2.2
          go_wp2
          go_loopw [59] (fun c wr => ∃ j : Nat, j ≤ n4 ∧ c = .int .i64 j ∧ Mild P wb wr) (fun c _ => n4 - (intOf c).toNat)
          case atStart => exact ⟨0, by omega, rfl, m3⟩
          case round =>
            obtain ⟨j, hj, rfl, m4⟩ := hrel
            have kc := (unhide HY2 _ m4).2.2.2
            by_cases hjl : j < n4
            case pos =>
              obtain ⟨g1, a, e1, hc1, hf1, hm1⟩ := unhide HW4 _ j m4 hjl
              subst e1
              have hc2 : wr.cell? ⟨g1, 0 + j * 2 + 1, none⟩ = some (.int .i64 a) := by simpa using hc1
              have hf2 : wr.frozen? ⟨g1, 0 + j * 2 + 1, none⟩ = false := by simpa using hf1
              have HM := hide hm1
              clear hm1 m4
              go_wp2
              go_roundw
              case rel => exact ⟨j + 1, by omega, by go_num, by simpa using unhide HM _⟩
              case measure => simp [intOf]; omega
            have hjn : ¬ (j : Int) < (n4 : Int) := by omega
            obtain ⟨ke, ⟨a, hc1⟩, hf1, hm1⟩ := unhide HEND _ m4
            have hc2 : wr.cell? ⟨g, 0 + t * 6, none⟩ = some (.int .i64 a) := by simpa using hc1
            have hf2 : wr.frozen? ⟨g, 0 + t * 6, none⟩ = false := by simpa using hf1
            have HM := hide hm1
            clear hm1 m4
            go_wp2
            go_roundw
            case rel => exact ⟨t + 1, by omega, by go_num, by simpa using unhide HM _⟩
            case measure => simp [intOf]; omega
end Go.Proofs.YtggllgimlfchhabGreat
