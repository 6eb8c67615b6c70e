/- Several texts as one. -/
import Derived.Test.YtggllgimlfchhabGreatKZ

/- Record: lists that are the same. -/
namespace Go.Proofs.YtggllgimlfchhabGreat
open Go.RowKit
set_option maxRecDepth 100000

theorem list_differ {α : Type} [Inhabited α] {xs ys : List α} {d : α} {t : Nat} (h : xs.getD t d ≠ ys.getD t d) : ¬ xs = ys := fun e => h (by rw [e])
theorem list_alike {α : Type} {xs ys : List α} {d : α} (hl : xs.length = ys.length) (h : ∀ t, t < xs.length → xs.getD t d = ys.getD t d) : xs = ys := by
  refine List.ext_getElem hl fun i h1 h2 => ?_
  have := h i h1
  simpa [List.getD, h1, h2] using this

theorem eq_key (d : Nat) (x0 x1 y0 y1 : Int) (w : World) : (Op.equalIn (d + 2) 91 (.agg #[.int .i32 x0, .int .i64 x1]) (.agg #[.int .i32 y0, .int .i64 y1])).run Tryz.prog w = .ok ((x0 == y0) && (x1 == y1)) w := by
  have hS : Tryz.prog.underlying 91 = some (.struct (Tryz.prog.fieldsOf 91)) := by kernel_rfl
  have hp : Tryz.prog.stoodInHeld 91 = false := by kernel_rfl
  rw [show d + 2 = (d + 1) + 1 from rfl, run_equalIn_struct w (d + 1) 91 _ _ hS hp]
  simp only [Program.fieldsOf, Tryz.underlying91]
  by_cases h1 : x0 = y0 <;> by_cases h2 : x1 = y1 <;> simp [Op.eqFields, part, go_sem, h1, h2]
theorem neq_key (x0 x1 y0 y1 : Int) (w : World) : (binOp .neq 91 (.agg #[.int .i32 x0, .int .i64 x1]) (.agg #[.int .i32 y0, .int .i64 y1])).run Tryz.prog w = .ok (.bool (!decide ((x0, x1) = (y0, y1)))) w := by
  rw [run_neq_struct, show (10000 : Nat) = 9998 + 2 from rfl, eq_key]
  by_cases h1 : x0 = y0 <;> by_cases h2 : x1 = y1 <;> simp [h1, h2, Result.andThen]

set_option maxHeartbeats 3200000 in
theorem equalInts_any (av bv : Value) (xs ys : List (Int)) (w : World) (ha : Sees w .i64 av xs) (hb : Sees w .i64 bv ys) (hm : xs.length ≤ 9223372036854775807) :
    Calls Tryz.prog 119 #[av, bv] w fun e w' => e = .returned (.bool (decide (xs = ys))) ∧ Below w.heap.size w w' := by
  have HA := hide ha
  have HB := hide hb
  obtain ⟨ao, ca, rfl, hca, _⟩ := ha
  obtain ⟨bo, cb, rfl, hcb, _⟩ := hb
  by_cases hl : xs.length = ys.length
  · rw [← hl] at hcb ⊢
    have HL := hide hl
    clear hl
    go_enter Tryz.func119, Tryz.ntmps119
    go_wp2
    go_loopw [13] (fun c wr => ∃ t : Nat, t ≤ xs.length ∧ c = .int .i64 t ∧ (∀ u, u < t → xs.getD u 0 = ys.getD u 0) ∧ Below w.heap.size w wr) (fun c _ => xs.length - (intOf c).toNat)
    case atStart => exact ⟨0, by omega, rfl, fun u hu => absurd hu (by omega), Below.refl _ _⟩
    case round =>
      obtain ⟨t, ht, rfl, heq, hb⟩ := hrel
      have HE := hide heq
      have HBW := hide hb
      by_cases hlt : t < xs.length
      · have hA := (unhide HA).below hb
        have hB := (unhide HB).below hb
        obtain ⟨ao', ca', hv, _, _, h1⟩ := hA
        obtain ⟨bo', cb', hv', _, _, h2⟩ := hB
        simp only [Value.slice.injEq, true_and] at hv hv'
        obtain ⟨rfl, rfl⟩ := hv
        obtain ⟨rfl, _, rfl⟩ := hv'
        rw [← unhide HL] at h2
        obtain ⟨a, rfl⟩ : ∃ a, ao = some a := by
          cases ao with
          | none => exfalso; have := (unhide HA); obtain ⟨_, _, e, h3, h4, _⟩ := this; simp only [Value.slice.injEq, true_and] at e; obtain ⟨rfl, rfl⟩ := e; have := h4 rfl; omega
          | some a => exact ⟨a, rfl⟩
        obtain ⟨b, rfl⟩ : ∃ b, bo = some b := by
          cases bo with
          | none => exfalso; have hz := (unhide HB); have hL := unhide HL; obtain ⟨_, _, e, h3, h4, _⟩ := hz; simp only [Value.slice.injEq] at e; obtain ⟨rfl, _, rfl⟩ := e; have := h4 rfl; omega
          | some b => exact ⟨b, rfl⟩
        have hx := h1 a rfl t hlt
        have hy := h2 b rfl t hlt
        obtain ⟨x, ex⟩ : ∃ x, xs.getD t 0 = x := ⟨_, rfl⟩
        obtain ⟨y, ey⟩ : ∃ y, ys.getD t 0 = y := ⟨_, rfl⟩
        rw [ex] at hx
        rw [ey] at hy
        have HX := hide ex
        have HY := hide ey
        clear h1 h2 ex ey hb heq
        go_wp2_with fail
        refine wp_region_held_drew (S := fun w' => w'.cell? (a.add t) = some (.int .i64 x) ∧ w'.cell? (b.add t) = some (.int .i64 y)) (by kernel_rfl) ⟨hx, hy⟩ (fun hHeld => ?_)
        refine wpAnyH_take (i := 0) (v := ?v1x0) rfl (by kernel_rfl) (by kernel_rfl) (by kernel_rfl) (fun _ _ _ h => h) (Or.inl ⟨by rfl, ?hy1x0⟩) (by assumption) ?rest1x0
        case hy1x0 => intro w hSw; obtain ⟨s1, s2⟩ := hSw; go_simp <;> with_reducible rfl
        simp only [Act.put, List.getElem_toArray, List.getElem_cons_zero, List.setIfInBounds_toArray, List.set_cons_zero, List.set_cons_succ]
        refine wpAnyH_take (i := 1) (v := ?v2x1) rfl (by kernel_rfl) (by kernel_rfl) (by kernel_rfl) (fun _ _ _ h => h) (Or.inl ⟨by rfl, ?hy2x1⟩) (by assumption) ?rest2x1
        case hy2x1 => intro w hSw; obtain ⟨s1, s2⟩ := hSw; go_simp <;> with_reducible rfl
        simp only [Act.put, List.getElem_toArray, List.getElem_cons_zero, List.getElem_cons_succ, List.setIfInBounds_toArray, List.set_cons_zero, List.set_cons_succ]
        refine wpAnyH_take (i := 2) (v := ?v3x2) rfl (by kernel_rfl) (by kernel_rfl) (by kernel_rfl) (fun _ _ _ h => h) (Or.inl ⟨by rfl, ?hy3x2⟩) (by assumption) ?rest3x2
        case hy3x2 => intro w hSw; obtain ⟨s1, s2⟩ := hSw; go_simp <;> with_reducible rfl
        simp only [Act.put, List.getElem_toArray, List.getElem_cons_zero, List.getElem_cons_succ, List.setIfInBounds_toArray, List.set_cons_zero, List.set_cons_succ]
        refine wpAnyH_take (i := 3) (v := .int .i64 x) rfl (by kernel_rfl) (by kernel_rfl) (by kernel_rfl) (fun _ _ _ h => h) (Or.inl ⟨by rfl, ?hy4x3⟩) (by assumption) ?rest4x3
        case hy4x3 => intro w hSw; obtain ⟨s1, s2⟩ := hSw; go_simp <;> with_reducible rfl
        simp only [Act.put, List.getElem_toArray, List.getElem_cons_zero, List.getElem_cons_succ, List.setIfInBounds_toArray, List.set_cons_zero, List.set_cons_succ]
        refine wpAnyH_take (i := 4) (v := ?v5x4) rfl (by kernel_rfl) (by kernel_rfl) (by kernel_rfl) (fun _ _ _ h => h) (Or.inl ⟨by rfl, ?hy5x4⟩) (by assumption) ?rest5x4
        case hy5x4 => intro w hSw; obtain ⟨s1, s2⟩ := hSw; go_simp <;> with_reducible rfl
        simp only [Act.put, List.getElem_toArray, List.getElem_cons_zero, List.getElem_cons_succ, List.setIfInBounds_toArray, List.set_cons_zero, List.set_cons_succ]
        refine wpAnyH_take (i := 5) (v := ?v6x5) rfl (by kernel_rfl) (by kernel_rfl) (by kernel_rfl) (fun _ _ _ h => h) (Or.inl ⟨by rfl, ?hy6x5⟩) (by assumption) ?rest6x5
        case hy6x5 => intro w hSw; obtain ⟨s1, s2⟩ := hSw; go_simp <;> with_reducible rfl
        simp only [Act.put, List.getElem_toArray, List.getElem_cons_zero, List.getElem_cons_succ, List.setIfInBounds_toArray, List.set_cons_zero, List.set_cons_succ]
        refine wpAnyH_take (i := 6) (v := ?v7x6) rfl (by kernel_rfl) (by kernel_rfl) (by kernel_rfl) (fun _ _ _ h => h) (Or.inl ⟨by rfl, ?hy7x6⟩) (by assumption) ?rest7x6
        case hy7x6 => intro w hSw; obtain ⟨s1, s2⟩ := hSw; go_simp <;> with_reducible rfl
        simp only [Act.put, List.getElem_toArray, List.getElem_cons_zero, List.getElem_cons_succ, List.setIfInBounds_toArray, List.set_cons_zero, List.set_cons_succ]
        refine wpAnyH_take (i := 7) (v := .int .i64 y) rfl (by kernel_rfl) (by kernel_rfl) (by kernel_rfl) (fun _ _ _ h => h) (Or.inl ⟨by rfl, ?hy8x7⟩) (by assumption) ?rest8x7
        case hy8x7 => intro w hSw; obtain ⟨s1, s2⟩ := hSw; go_simp <;> with_reducible rfl
        simp only [Act.put, List.getElem_toArray, List.getElem_cons_zero, List.getElem_cons_succ, List.setIfInBounds_toArray, List.set_cons_zero, List.set_cons_succ]
        by_cases hxy : x = y
        · have hxb : decide (x = y) = true := by simp [hxy]
          refine wpAnyH_take (i := 8) (v := .bool false) rfl (by kernel_rfl) (by kernel_rfl) (by kernel_rfl) (fun _ _ _ h => h) (Or.inl ⟨by rfl, ?hy9x8⟩) (by assumption) ?rest9x8
          case hy9x8 => intro w hSw; obtain ⟨s1, s2⟩ := hSw; go_simp <;> with_reducible rfl
          simp only [Act.put, List.getElem_toArray, List.getElem_cons_zero, List.getElem_cons_succ, List.setIfInBounds_toArray, List.set_cons_zero, List.set_cons_succ]
          refine wpAnyH_done (by kernel_rfl) ?_ _
          go_wp2
          go_roundw
          case rel =>
            refine ⟨t + 1, by omega, by go_num, fun u hu => ?_, (unhide HBW).drew⟩
            by_cases hut : u < t
            · exact unhide HE u hut
            · obtain rfl : u = t := by omega
              rw [unhide HX, unhide HY, hxy]
          case measure => simp [intOf]; omega
        · have hxb : decide (x = y) = false := by simp [hxy]
          refine wpAnyH_take (i := 8) (v := .bool true) rfl (by kernel_rfl) (by kernel_rfl) (by kernel_rfl) (fun _ _ _ h => h) (Or.inl ⟨by rfl, ?hy10x8⟩) (by assumption) ?rest10x8
          case hy10x8 => intro w hSw; obtain ⟨s1, s2⟩ := hSw; go_simp <;> with_reducible rfl
          simp only [Act.put, List.getElem_toArray, List.getElem_cons_zero, List.getElem_cons_succ, List.setIfInBounds_toArray, List.set_cons_zero, List.set_cons_succ]
          refine wpAnyH_done (by kernel_rfl) ?_ _
          go_wp2
          go_ret
          refine ⟨retBool ?_, (unhide HBW).drew⟩
          rw [eq_comm, decide_eq_false_iff_not]
          exact list_differ (d := 0) (t := t) (by rw [unhide HX, unhide HY]; exact hxy)
      · clear hb heq
        go_wp2
        go_ret
        refine ⟨retBool ?_, unhide HBW⟩
        rw [eq_comm, decide_eq_true_iff]
        exact list_alike (d := 0) (unhide HL) (fun u hu => unhide HE u (by omega))
  · have hd : decide (xs = ys) = false := by rw [decide_eq_false_iff_not]; exact fun e => hl (by rw [e])
    rw [hd]
    go_enter Tryz.func119, Tryz.ntmps119
    go_wp2
    go_ret
    exact ⟨rfl, Below.refl _ _⟩

set_option maxHeartbeats 3200000 in
theorem sameInts_any (av bv : Value) (xs ys : List (Int)) (w : World) (ha : Sees w .i64 av xs) (hb : Sees w .i64 bv ys) (hm : xs.length ≤ 9223372036854775807) :
    Calls Tryz.prog 63 #[av, bv] w fun e w' => e = .returned (.bool (decide (xs = ys))) ∧ Below w.heap.size w w' := by
  have HA := hide ha
  have HB := hide hb
  obtain ⟨ao, ca, rfl, hca, _⟩ := ha
  obtain ⟨bo, cb, rfl, hcb, _⟩ := hb
  by_cases hl : xs.length = ys.length
  · rw [← hl] at hcb ⊢
    have HL := hide hl
    clear hl
    go_enter Tryz.func63, Tryz.ntmps63
    go_wp2
    go_loopw [5] (fun c wr => ∃ t : Nat, t ≤ xs.length ∧ c = .int .i64 t ∧ (∀ u, u < t → xs.getD u 0 = ys.getD u 0) ∧ Below w.heap.size w wr) (fun c _ => xs.length - (intOf c).toNat)
    case atStart => exact ⟨0, by omega, rfl, fun u hu => absurd hu (by omega), Below.refl _ _⟩
    case round =>
      obtain ⟨t, ht, rfl, heq, hb⟩ := hrel
      have HE := hide heq
      have HBW := hide hb
      by_cases hlt : t < xs.length
      · have hA := (unhide HA).below hb
        have hB := (unhide HB).below hb
        obtain ⟨ao', ca', hv, _, _, h1⟩ := hA
        obtain ⟨bo', cb', hv', _, _, h2⟩ := hB
        simp only [Value.slice.injEq, true_and] at hv hv'
        obtain ⟨rfl, rfl⟩ := hv
        obtain ⟨rfl, _, rfl⟩ := hv'
        rw [← unhide HL] at h2
        obtain ⟨a, rfl⟩ : ∃ a, ao = some a := by
          cases ao with
          | none => exfalso; have := (unhide HA); obtain ⟨_, _, e, h3, h4, _⟩ := this; simp only [Value.slice.injEq, true_and] at e; obtain ⟨rfl, rfl⟩ := e; have := h4 rfl; omega
          | some a => exact ⟨a, rfl⟩
        obtain ⟨b, rfl⟩ : ∃ b, bo = some b := by
          cases bo with
          | none => exfalso; have hz := (unhide HB); have hL := unhide HL; obtain ⟨_, _, e, h3, h4, _⟩ := hz; simp only [Value.slice.injEq] at e; obtain ⟨rfl, _, rfl⟩ := e; have := h4 rfl; omega
          | some b => exact ⟨b, rfl⟩
        have hx := h1 a rfl t hlt
        have hy := h2 b rfl t hlt
        obtain ⟨x, ex⟩ : ∃ x, xs.getD t 0 = x := ⟨_, rfl⟩
        obtain ⟨y, ey⟩ : ∃ y, ys.getD t 0 = y := ⟨_, rfl⟩
        rw [ex] at hx
        rw [ey] at hy
        have HX := hide ex
        have HY := hide ey
        clear h1 h2 ex ey hb heq
        go_wp2_with fail
        refine wp_region_held_drew (S := fun w' => w'.cell? (a.add t) = some (.int .i64 x) ∧ w'.cell? (b.add t) = some (.int .i64 y)) (by kernel_rfl) ⟨hx, hy⟩ (fun hHeld => ?_)
        refine wpAnyH_take (i := 0) (v := ?v11x0) rfl (by kernel_rfl) (by kernel_rfl) (by kernel_rfl) (fun _ _ _ h => h) (Or.inl ⟨by rfl, ?hy11x0⟩) (by assumption) ?rest11x0
        case hy11x0 => intro w hSw; obtain ⟨s1, s2⟩ := hSw; go_simp <;> with_reducible rfl
        simp only [Act.put, List.getElem_toArray, List.getElem_cons_zero, List.setIfInBounds_toArray, List.set_cons_zero, List.set_cons_succ]
        refine wpAnyH_take (i := 1) (v := ?v12x1) rfl (by kernel_rfl) (by kernel_rfl) (by kernel_rfl) (fun _ _ _ h => h) (Or.inl ⟨by rfl, ?hy12x1⟩) (by assumption) ?rest12x1
        case hy12x1 => intro w hSw; obtain ⟨s1, s2⟩ := hSw; go_simp <;> with_reducible rfl
        simp only [Act.put, List.getElem_toArray, List.getElem_cons_zero, List.getElem_cons_succ, List.setIfInBounds_toArray, List.set_cons_zero, List.set_cons_succ]
        refine wpAnyH_take (i := 2) (v := ?v13x2) rfl (by kernel_rfl) (by kernel_rfl) (by kernel_rfl) (fun _ _ _ h => h) (Or.inl ⟨by rfl, ?hy13x2⟩) (by assumption) ?rest13x2
        case hy13x2 => intro w hSw; obtain ⟨s1, s2⟩ := hSw; go_simp <;> with_reducible rfl
        simp only [Act.put, List.getElem_toArray, List.getElem_cons_zero, List.getElem_cons_succ, List.setIfInBounds_toArray, List.set_cons_zero, List.set_cons_succ]
        refine wpAnyH_take (i := 3) (v := .int .i64 x) rfl (by kernel_rfl) (by kernel_rfl) (by kernel_rfl) (fun _ _ _ h => h) (Or.inl ⟨by rfl, ?hy14x3⟩) (by assumption) ?rest14x3
        case hy14x3 => intro w hSw; obtain ⟨s1, s2⟩ := hSw; go_simp <;> with_reducible rfl
        simp only [Act.put, List.getElem_toArray, List.getElem_cons_zero, List.getElem_cons_succ, List.setIfInBounds_toArray, List.set_cons_zero, List.set_cons_succ]
        refine wpAnyH_take (i := 4) (v := ?v15x4) rfl (by kernel_rfl) (by kernel_rfl) (by kernel_rfl) (fun _ _ _ h => h) (Or.inl ⟨by rfl, ?hy15x4⟩) (by assumption) ?rest15x4
        case hy15x4 => intro w hSw; obtain ⟨s1, s2⟩ := hSw; go_simp <;> with_reducible rfl
        simp only [Act.put, List.getElem_toArray, List.getElem_cons_zero, List.getElem_cons_succ, List.setIfInBounds_toArray, List.set_cons_zero, List.set_cons_succ]
        refine wpAnyH_take (i := 5) (v := ?v16x5) rfl (by kernel_rfl) (by kernel_rfl) (by kernel_rfl) (fun _ _ _ h => h) (Or.inl ⟨by rfl, ?hy16x5⟩) (by assumption) ?rest16x5
        case hy16x5 => intro w hSw; obtain ⟨s1, s2⟩ := hSw; go_simp <;> with_reducible rfl
        simp only [Act.put, List.getElem_toArray, List.getElem_cons_zero, List.getElem_cons_succ, List.setIfInBounds_toArray, List.set_cons_zero, List.set_cons_succ]
        refine wpAnyH_take (i := 6) (v := ?v17x6) rfl (by kernel_rfl) (by kernel_rfl) (by kernel_rfl) (fun _ _ _ h => h) (Or.inl ⟨by rfl, ?hy17x6⟩) (by assumption) ?rest17x6
        case hy17x6 => intro w hSw; obtain ⟨s1, s2⟩ := hSw; go_simp <;> with_reducible rfl
        simp only [Act.put, List.getElem_toArray, List.getElem_cons_zero, List.getElem_cons_succ, List.setIfInBounds_toArray, List.set_cons_zero, List.set_cons_succ]
        refine wpAnyH_take (i := 7) (v := .int .i64 y) rfl (by kernel_rfl) (by kernel_rfl) (by kernel_rfl) (fun _ _ _ h => h) (Or.inl ⟨by rfl, ?hy18x7⟩) (by assumption) ?rest18x7
        case hy18x7 => intro w hSw; obtain ⟨s1, s2⟩ := hSw; go_simp <;> with_reducible rfl
        simp only [Act.put, List.getElem_toArray, List.getElem_cons_zero, List.getElem_cons_succ, List.setIfInBounds_toArray, List.set_cons_zero, List.set_cons_succ]
        by_cases hxy : x = y
        · have hxb : decide (x = y) = true := by simp [hxy]
          refine wpAnyH_take (i := 8) (v := .bool false) rfl (by kernel_rfl) (by kernel_rfl) (by kernel_rfl) (fun _ _ _ h => h) (Or.inl ⟨by rfl, ?hy19x8⟩) (by assumption) ?rest19x8
          case hy19x8 => intro w hSw; obtain ⟨s1, s2⟩ := hSw; go_simp <;> with_reducible rfl
          simp only [Act.put, List.getElem_toArray, List.getElem_cons_zero, List.getElem_cons_succ, List.setIfInBounds_toArray, List.set_cons_zero, List.set_cons_succ]
          refine wpAnyH_done (by kernel_rfl) ?_ _
          go_wp2
          go_roundw
          case rel =>
            refine ⟨t + 1, by omega, by go_num, fun u hu => ?_, (unhide HBW).drew⟩
            by_cases hut : u < t
            · exact unhide HE u hut
            · obtain rfl : u = t := by omega
              rw [unhide HX, unhide HY, hxy]
          case measure => simp [intOf]; omega
        · have hxb : decide (x = y) = false := by simp [hxy]
          refine wpAnyH_take (i := 8) (v := .bool true) rfl (by kernel_rfl) (by kernel_rfl) (by kernel_rfl) (fun _ _ _ h => h) (Or.inl ⟨by rfl, ?hy20x8⟩) (by assumption) ?rest20x8
          case hy20x8 => intro w hSw; obtain ⟨s1, s2⟩ := hSw; go_simp <;> with_reducible rfl
          simp only [Act.put, List.getElem_toArray, List.getElem_cons_zero, List.getElem_cons_succ, List.setIfInBounds_toArray, List.set_cons_zero, List.set_cons_succ]
          refine wpAnyH_done (by kernel_rfl) ?_ _
          go_wp2
          go_ret
          refine ⟨retBool ?_, (unhide HBW).drew⟩
          rw [eq_comm, decide_eq_false_iff_not]
          exact list_differ (d := 0) (t := t) (by rw [unhide HX, unhide HY]; exact hxy)
      · clear hb heq
        go_wp2
        go_ret
        refine ⟨retBool ?_, unhide HBW⟩
        rw [eq_comm, decide_eq_true_iff]
        exact list_alike (d := 0) (unhide HL) (fun u hu => unhide HE u (by omega))
  · have hd : decide (xs = ys) = false := by rw [decide_eq_false_iff_not]; exact fun e => hl (by rw [e])
    rw [hd]
    go_enter Tryz.func63, Tryz.ntmps63
    go_wp2
    go_ret
    exact ⟨rfl, Below.refl _ _⟩

set_option maxHeartbeats 3200000 in
theorem equalKeys_any (av bv : Value) (xs ys : List (Int × Int)) (w : World) (ha : SeesK w av xs) (hb : SeesK w bv ys) (hm : xs.length ≤ 9223372036854775807) :
    Calls Tryz.prog 120 #[av, bv] w fun e w' => e = .returned (.bool (decide (xs = ys))) ∧ Below w.heap.size w w' := by
  have HA := hide ha
  have HB := hide hb
  obtain ⟨ao, ca, _, _, rfl, hca, _⟩ := ha
  obtain ⟨bo, cb, _, _, rfl, hcb, _⟩ := hb
  by_cases hl : xs.length = ys.length
  · rw [← hl] at hcb ⊢
    have HL := hide hl
    clear hl
    go_enter Tryz.func120, Tryz.ntmps120
    go_wp2
    go_loopw [13] (fun c wr => ∃ t : Nat, t ≤ xs.length ∧ c = .int .i64 t ∧ (∀ u, u < t → xs.getD u (0, 0) = ys.getD u (0, 0)) ∧ Below w.heap.size w wr) (fun c _ => xs.length - (intOf c).toNat)
    case atStart => exact ⟨0, by omega, rfl, fun u hu => absurd hu (by omega), Below.refl _ _⟩
    case round =>
      obtain ⟨t, ht, rfl, heq, hb⟩ := hrel
      have HE := hide heq
      have HBW := hide hb
      by_cases hlt : t < xs.length
      · have hA := (unhide HA).below hb
        have hB := (unhide HB).below hb
        obtain ⟨ao', ca', ga, oa, hv, _, _, ha', h1⟩ := hA
        obtain ⟨bo', cb', gb, ob, hv', _, _, hb', h2⟩ := hB
        simp only [Value.slice.injEq, true_and] at hv hv'
        obtain ⟨rfl, rfl⟩ := hv
        obtain ⟨rfl, _, rfl⟩ := hv'
        rw [← unhide HL] at h2 hb'
        obtain rfl := ha' (by omega)
        obtain rfl := hb' (by omega)
        obtain ⟨hx0, hx1⟩ := h1 t hlt
        obtain ⟨hy0, hy1⟩ := h2 t hlt
        obtain ⟨x, ex⟩ : ∃ x, xs.getD t (0, 0) = x := ⟨_, rfl⟩
        obtain ⟨y, ey⟩ : ∃ y, ys.getD t (0, 0) = y := ⟨_, rfl⟩
        rw [ex] at hx0 hx1
        rw [ey] at hy0 hy1
        have HX := hide ex
        have HY := hide ey
        clear h1 h2 ex ey hb heq ha' hb'
        obtain ⟨x0, x1⟩ := x
        obtain ⟨y0, y1⟩ := y
        simp only at hx0 hx1 hy0 hy1
        have hneq := fun w => neq_key x0 x1 y0 y1 w
        go_wp2_with fail
        refine wp_region_held_drew (S := fun w' => w'.cell? ⟨ga, oa + t * 2, none⟩ = some (.int .i32 x0) ∧ w'.cell? ⟨ga, oa + t * 2 + 1, none⟩ = some (.int .i64 x1) ∧ w'.cell? ⟨gb, ob + t * 2, none⟩ = some (.int .i32 y0) ∧ w'.cell? ⟨gb, ob + t * 2 + 1, none⟩ = some (.int .i64 y1)) (by kernel_rfl) ⟨hx0, hx1, hy0, hy1⟩ (fun hHeld => ?_)
        refine wpAnyH_take (i := 0) (v := ?v21x0) rfl (by kernel_rfl) (by kernel_rfl) (by kernel_rfl) (fun _ _ _ h => h) (Or.inl ⟨by rfl, ?hy21x0⟩) (by assumption) ?rest21x0
        case hy21x0 => intro w hSw; obtain ⟨s1, s2, s3, s4⟩ := hSw; go_simp <;> with_reducible rfl
        simp only [Act.put, List.getElem_toArray, List.getElem_cons_zero, List.setIfInBounds_toArray, List.set_cons_zero, List.set_cons_succ]
        refine wpAnyH_take (i := 1) (v := ?v22x1) rfl (by kernel_rfl) (by kernel_rfl) (by kernel_rfl) (fun _ _ _ h => h) (Or.inl ⟨by rfl, ?hy22x1⟩) (by assumption) ?rest22x1
        case hy22x1 => intro w hSw; obtain ⟨s1, s2, s3, s4⟩ := hSw; go_simp <;> with_reducible rfl
        simp only [Act.put, List.getElem_toArray, List.getElem_cons_zero, List.getElem_cons_succ, List.setIfInBounds_toArray, List.set_cons_zero, List.set_cons_succ]
        refine wpAnyH_take (i := 2) (v := ?v23x2) rfl (by kernel_rfl) (by kernel_rfl) (by kernel_rfl) (fun _ _ _ h => h) (Or.inl ⟨by rfl, ?hy23x2⟩) (by assumption) ?rest23x2
        case hy23x2 => intro w hSw; obtain ⟨s1, s2, s3, s4⟩ := hSw; go_simp <;> with_reducible rfl
        simp only [Act.put, List.getElem_toArray, List.getElem_cons_zero, List.getElem_cons_succ, List.setIfInBounds_toArray, List.set_cons_zero, List.set_cons_succ]
        refine wpAnyH_take (i := 3) (v := .agg #[.int .i32 x0, .int .i64 x1]) rfl (by kernel_rfl) (by kernel_rfl) (by kernel_rfl) (fun _ _ _ h => h) (Or.inl ⟨by rfl, ?hy24x3⟩) (by assumption) ?rest24x3
        case hy24x3 => intro w hSw; obtain ⟨s1, s2, s3, s4⟩ := hSw; go_simp <;> with_reducible rfl
        simp only [Act.put, List.getElem_toArray, List.getElem_cons_zero, List.getElem_cons_succ, List.setIfInBounds_toArray, List.set_cons_zero, List.set_cons_succ]
        refine wpAnyH_take (i := 4) (v := ?v25x4) rfl (by kernel_rfl) (by kernel_rfl) (by kernel_rfl) (fun _ _ _ h => h) (Or.inl ⟨by rfl, ?hy25x4⟩) (by assumption) ?rest25x4
        case hy25x4 => intro w hSw; obtain ⟨s1, s2, s3, s4⟩ := hSw; go_simp <;> with_reducible rfl
        simp only [Act.put, List.getElem_toArray, List.getElem_cons_zero, List.getElem_cons_succ, List.setIfInBounds_toArray, List.set_cons_zero, List.set_cons_succ]
        refine wpAnyH_take (i := 5) (v := ?v26x5) rfl (by kernel_rfl) (by kernel_rfl) (by kernel_rfl) (fun _ _ _ h => h) (Or.inl ⟨by rfl, ?hy26x5⟩) (by assumption) ?rest26x5
        case hy26x5 => intro w hSw; obtain ⟨s1, s2, s3, s4⟩ := hSw; go_simp <;> with_reducible rfl
        simp only [Act.put, List.getElem_toArray, List.getElem_cons_zero, List.getElem_cons_succ, List.setIfInBounds_toArray, List.set_cons_zero, List.set_cons_succ]
        refine wpAnyH_take (i := 6) (v := ?v27x6) rfl (by kernel_rfl) (by kernel_rfl) (by kernel_rfl) (fun _ _ _ h => h) (Or.inl ⟨by rfl, ?hy27x6⟩) (by assumption) ?rest27x6
        case hy27x6 => intro w hSw; obtain ⟨s1, s2, s3, s4⟩ := hSw; go_simp <;> with_reducible rfl
        simp only [Act.put, List.getElem_toArray, List.getElem_cons_zero, List.getElem_cons_succ, List.setIfInBounds_toArray, List.set_cons_zero, List.set_cons_succ]
        refine wpAnyH_take (i := 7) (v := .agg #[.int .i32 y0, .int .i64 y1]) rfl (by kernel_rfl) (by kernel_rfl) (by kernel_rfl) (fun _ _ _ h => h) (Or.inl ⟨by rfl, ?hy28x7⟩) (by assumption) ?rest28x7
        case hy28x7 => intro w hSw; obtain ⟨s1, s2, s3, s4⟩ := hSw; go_simp <;> with_reducible rfl
        simp only [Act.put, List.getElem_toArray, List.getElem_cons_zero, List.getElem_cons_succ, List.setIfInBounds_toArray, List.set_cons_zero, List.set_cons_succ]
        by_cases hxy : (x0, x1) = (y0, y1)
        · have hxb : decide ((x0, x1) = (y0, y1)) = true := by simp [hxy]
          refine wpAnyH_take (i := 8) (v := .bool false) rfl (by kernel_rfl) (by kernel_rfl) (by kernel_rfl) (fun _ _ _ h => h) (Or.inl ⟨by rfl, ?hy29x8⟩) (by assumption) ?rest29x8
          case hy29x8 => intro w hSw; obtain ⟨s1, s2, s3, s4⟩ := hSw; go_simp <;> with_reducible rfl
          simp only [Act.put, List.getElem_toArray, List.getElem_cons_zero, List.getElem_cons_succ, List.setIfInBounds_toArray, List.set_cons_zero, List.set_cons_succ]
          refine wpAnyH_done (by kernel_rfl) ?_ _
          go_wp2
          go_roundw
          case rel =>
            refine ⟨t + 1, by omega, by go_num, fun u hu => ?_, (unhide HBW).drew⟩
            by_cases hut : u < t
            · exact unhide HE u hut
            · obtain rfl : u = t := by omega
              rw [unhide HX, unhide HY, hxy]
          case measure => simp [intOf]; omega
        · have hxb : decide ((x0, x1) = (y0, y1)) = false := by simp [hxy]
          refine wpAnyH_take (i := 8) (v := .bool true) rfl (by kernel_rfl) (by kernel_rfl) (by kernel_rfl) (fun _ _ _ h => h) (Or.inl ⟨by rfl, ?hy30x8⟩) (by assumption) ?rest30x8
          case hy30x8 => intro w hSw; obtain ⟨s1, s2, s3, s4⟩ := hSw; go_simp <;> with_reducible rfl
          simp only [Act.put, List.getElem_toArray, List.getElem_cons_zero, List.getElem_cons_succ, List.setIfInBounds_toArray, List.set_cons_zero, List.set_cons_succ]
          refine wpAnyH_done (by kernel_rfl) ?_ _
          go_wp2
          go_ret
          refine ⟨retBool ?_, (unhide HBW).drew⟩
          rw [eq_comm, decide_eq_false_iff_not]
          exact list_differ (d := (0, 0)) (t := t) (by rw [unhide HX, unhide HY]; exact hxy)
      · clear hb heq
        go_wp2
        go_ret
        refine ⟨retBool ?_, unhide HBW⟩
        rw [eq_comm, decide_eq_true_iff]
        exact list_alike (d := (0, 0)) (unhide HL) (fun u hu => unhide HE u (by omega))
  · have hd : decide (xs = ys) = false := by rw [decide_eq_false_iff_not]; exact fun e => hl (by rw [e])
    rw [hd]
    go_enter Tryz.func120, Tryz.ntmps120
    go_wp2
    go_ret
    exact ⟨rfl, Below.refl _ _⟩

set_option maxHeartbeats 3200000 in
theorem sameKeys_any (av bv : Value) (xs ys : List (Int × Int)) (w : World) (ha : SeesK w av xs) (hb : SeesK w bv ys) (hm : xs.length ≤ 9223372036854775807) :
    Calls Tryz.prog 64 #[av, bv] w fun e w' => e = .returned (.bool (decide (xs = ys))) ∧ Below w.heap.size w w' := by
  have HA := hide ha
  have HB := hide hb
  obtain ⟨ao, ca, _, _, rfl, hca, _⟩ := ha
  obtain ⟨bo, cb, _, _, rfl, hcb, _⟩ := hb
  by_cases hl : xs.length = ys.length
  · rw [← hl] at hcb ⊢
    have HL := hide hl
    clear hl
    go_enter Tryz.func64, Tryz.ntmps64
    go_wp2
    go_loopw [5] (fun c wr => ∃ t : Nat, t ≤ xs.length ∧ c = .int .i64 t ∧ (∀ u, u < t → xs.getD u (0, 0) = ys.getD u (0, 0)) ∧ Below w.heap.size w wr) (fun c _ => xs.length - (intOf c).toNat)
    case atStart => exact ⟨0, by omega, rfl, fun u hu => absurd hu (by omega), Below.refl _ _⟩
    case round =>
      obtain ⟨t, ht, rfl, heq, hb⟩ := hrel
      have HE := hide heq
      have HBW := hide hb
      by_cases hlt : t < xs.length
      · have hA := (unhide HA).below hb
        have hB := (unhide HB).below hb
        obtain ⟨ao', ca', ga, oa, hv, _, _, ha', h1⟩ := hA
        obtain ⟨bo', cb', gb, ob, hv', _, _, hb', h2⟩ := hB
        simp only [Value.slice.injEq, true_and] at hv hv'
        obtain ⟨rfl, rfl⟩ := hv
        obtain ⟨rfl, _, rfl⟩ := hv'
        rw [← unhide HL] at h2 hb'
        obtain rfl := ha' (by omega)
        obtain rfl := hb' (by omega)
        obtain ⟨hx0, hx1⟩ := h1 t hlt
        obtain ⟨hy0, hy1⟩ := h2 t hlt
        obtain ⟨x, ex⟩ : ∃ x, xs.getD t (0, 0) = x := ⟨_, rfl⟩
        obtain ⟨y, ey⟩ : ∃ y, ys.getD t (0, 0) = y := ⟨_, rfl⟩
        rw [ex] at hx0 hx1
        rw [ey] at hy0 hy1
        have HX := hide ex
        have HY := hide ey
        clear h1 h2 ex ey hb heq ha' hb'
        obtain ⟨x0, x1⟩ := x
        obtain ⟨y0, y1⟩ := y
        simp only at hx0 hx1 hy0 hy1
        have hneq := fun w => neq_key x0 x1 y0 y1 w
        go_wp2_with fail
        refine wp_region_held_drew (S := fun w' => w'.cell? ⟨ga, oa + t * 2, none⟩ = some (.int .i32 x0) ∧ w'.cell? ⟨ga, oa + t * 2 + 1, none⟩ = some (.int .i64 x1) ∧ w'.cell? ⟨gb, ob + t * 2, none⟩ = some (.int .i32 y0) ∧ w'.cell? ⟨gb, ob + t * 2 + 1, none⟩ = some (.int .i64 y1)) (by kernel_rfl) ⟨hx0, hx1, hy0, hy1⟩ (fun hHeld => ?_)
        refine wpAnyH_take (i := 0) (v := ?v31x0) rfl (by kernel_rfl) (by kernel_rfl) (by kernel_rfl) (fun _ _ _ h => h) (Or.inl ⟨by rfl, ?hy31x0⟩) (by assumption) ?rest31x0
        case hy31x0 => intro w hSw; obtain ⟨s1, s2, s3, s4⟩ := hSw; go_simp <;> with_reducible rfl
        simp only [Act.put, List.getElem_toArray, List.getElem_cons_zero, List.setIfInBounds_toArray, List.set_cons_zero, List.set_cons_succ]
        refine wpAnyH_take (i := 1) (v := ?v32x1) rfl (by kernel_rfl) (by kernel_rfl) (by kernel_rfl) (fun _ _ _ h => h) (Or.inl ⟨by rfl, ?hy32x1⟩) (by assumption) ?rest32x1
        case hy32x1 => intro w hSw; obtain ⟨s1, s2, s3, s4⟩ := hSw; go_simp <;> with_reducible rfl
        simp only [Act.put, List.getElem_toArray, List.getElem_cons_zero, List.getElem_cons_succ, List.setIfInBounds_toArray, List.set_cons_zero, List.set_cons_succ]
        refine wpAnyH_take (i := 2) (v := ?v33x2) rfl (by kernel_rfl) (by kernel_rfl) (by kernel_rfl) (fun _ _ _ h => h) (Or.inl ⟨by rfl, ?hy33x2⟩) (by assumption) ?rest33x2
        case hy33x2 => intro w hSw; obtain ⟨s1, s2, s3, s4⟩ := hSw; go_simp <;> with_reducible rfl
        simp only [Act.put, List.getElem_toArray, List.getElem_cons_zero, List.getElem_cons_succ, List.setIfInBounds_toArray, List.set_cons_zero, List.set_cons_succ]
        refine wpAnyH_take (i := 3) (v := .agg #[.int .i32 x0, .int .i64 x1]) rfl (by kernel_rfl) (by kernel_rfl) (by kernel_rfl) (fun _ _ _ h => h) (Or.inl ⟨by rfl, ?hy34x3⟩) (by assumption) ?rest34x3
        case hy34x3 => intro w hSw; obtain ⟨s1, s2, s3, s4⟩ := hSw; go_simp <;> with_reducible rfl
        simp only [Act.put, List.getElem_toArray, List.getElem_cons_zero, List.getElem_cons_succ, List.setIfInBounds_toArray, List.set_cons_zero, List.set_cons_succ]
        refine wpAnyH_take (i := 4) (v := ?v35x4) rfl (by kernel_rfl) (by kernel_rfl) (by kernel_rfl) (fun _ _ _ h => h) (Or.inl ⟨by rfl, ?hy35x4⟩) (by assumption) ?rest35x4
        case hy35x4 => intro w hSw; obtain ⟨s1, s2, s3, s4⟩ := hSw; go_simp <;> with_reducible rfl
        simp only [Act.put, List.getElem_toArray, List.getElem_cons_zero, List.getElem_cons_succ, List.setIfInBounds_toArray, List.set_cons_zero, List.set_cons_succ]
        refine wpAnyH_take (i := 5) (v := ?v36x5) rfl (by kernel_rfl) (by kernel_rfl) (by kernel_rfl) (fun _ _ _ h => h) (Or.inl ⟨by rfl, ?hy36x5⟩) (by assumption) ?rest36x5
        case hy36x5 => intro w hSw; obtain ⟨s1, s2, s3, s4⟩ := hSw; go_simp <;> with_reducible rfl
        simp only [Act.put, List.getElem_toArray, List.getElem_cons_zero, List.getElem_cons_succ, List.setIfInBounds_toArray, List.set_cons_zero, List.set_cons_succ]
        refine wpAnyH_take (i := 6) (v := ?v37x6) rfl (by kernel_rfl) (by kernel_rfl) (by kernel_rfl) (fun _ _ _ h => h) (Or.inl ⟨by rfl, ?hy37x6⟩) (by assumption) ?rest37x6
        case hy37x6 => intro w hSw; obtain ⟨s1, s2, s3, s4⟩ := hSw; go_simp <;> with_reducible rfl
        simp only [Act.put, List.getElem_toArray, List.getElem_cons_zero, List.getElem_cons_succ, List.setIfInBounds_toArray, List.set_cons_zero, List.set_cons_succ]
        refine wpAnyH_take (i := 7) (v := .agg #[.int .i32 y0, .int .i64 y1]) rfl (by kernel_rfl) (by kernel_rfl) (by kernel_rfl) (fun _ _ _ h => h) (Or.inl ⟨by rfl, ?hy38x7⟩) (by assumption) ?rest38x7
        case hy38x7 => intro w hSw; obtain ⟨s1, s2, s3, s4⟩ := hSw; go_simp <;> with_reducible rfl
        simp only [Act.put, List.getElem_toArray, List.getElem_cons_zero, List.getElem_cons_succ, List.setIfInBounds_toArray, List.set_cons_zero, List.set_cons_succ]
        by_cases hxy : (x0, x1) = (y0, y1)
        · have hxb : decide ((x0, x1) = (y0, y1)) = true := by simp [hxy]
          refine wpAnyH_take (i := 8) (v := .bool false) rfl (by kernel_rfl) (by kernel_rfl) (by kernel_rfl) (fun _ _ _ h => h) (Or.inl ⟨by rfl, ?hy39x8⟩) (by assumption) ?rest39x8
          case hy39x8 => intro w hSw; obtain ⟨s1, s2, s3, s4⟩ := hSw; go_simp <;> with_reducible rfl
          simp only [Act.put, List.getElem_toArray, List.getElem_cons_zero, List.getElem_cons_succ, List.setIfInBounds_toArray, List.set_cons_zero, List.set_cons_succ]
          refine wpAnyH_done (by kernel_rfl) ?_ _
          go_wp2
          go_roundw
          case rel =>
            refine ⟨t + 1, by omega, by go_num, fun u hu => ?_, (unhide HBW).drew⟩
            by_cases hut : u < t
            · exact unhide HE u hut
            · obtain rfl : u = t := by omega
              rw [unhide HX, unhide HY, hxy]
          case measure => simp [intOf]; omega
        · have hxb : decide ((x0, x1) = (y0, y1)) = false := by simp [hxy]
          refine wpAnyH_take (i := 8) (v := .bool true) rfl (by kernel_rfl) (by kernel_rfl) (by kernel_rfl) (fun _ _ _ h => h) (Or.inl ⟨by rfl, ?hy40x8⟩) (by assumption) ?rest40x8
          case hy40x8 => intro w hSw; obtain ⟨s1, s2, s3, s4⟩ := hSw; go_simp <;> with_reducible rfl
          simp only [Act.put, List.getElem_toArray, List.getElem_cons_zero, List.getElem_cons_succ, List.setIfInBounds_toArray, List.set_cons_zero, List.set_cons_succ]
          refine wpAnyH_done (by kernel_rfl) ?_ _
          go_wp2
          go_ret
          refine ⟨retBool ?_, (unhide HBW).drew⟩
          rw [eq_comm, decide_eq_false_iff_not]
          exact list_differ (d := (0, 0)) (t := t) (by rw [unhide HX, unhide HY]; exact hxy)
      · clear hb heq
        go_wp2
        go_ret
        refine ⟨retBool ?_, unhide HBW⟩
        rw [eq_comm, decide_eq_true_iff]
        exact list_alike (d := (0, 0)) (unhide HL) (fun u hu => unhide HE u (by omega))
  · have hd : decide (xs = ys) = false := by rw [decide_eq_false_iff_not]; exact fun e => hl (by rw [e])
    rw [hd]
    go_enter Tryz.func64, Tryz.ntmps64
    go_wp2
    go_ret
    exact ⟨rfl, Below.refl _ _⟩

end Go.Proofs.YtggllgimlfchhabGreat

/- Record: transactions that are the same. -/
namespace Go.Proofs.YtggllgimlfchhabGreat
open Go.RowKit
set_option maxRecDepth 100000

theorem sameT_eq (t u : TxnD) : decide (t = u) = (decide (t.ses = u.ses) && decide (t.req = u.req) && decide (t.code = u.code) && decide (t.args = u.args) && decide (t.reads = u.reads) && decide (t.writes = u.writes)) := by
  obtain ⟨a, b, c, d, e, f⟩ := t
  obtain ⟨a', b', c', d', e', f'⟩ := u
  simp [TxnD.mk.injEq, Bool.and_assoc]
theorem str_no {xs ys : List Int} (hx : Byt xs) (hy : Byt ys) (h : xs ≠ ys) : ((strOf xs).toList == (strOf ys).toList) = false := by
  rw [str_beq hx hy]; simpa using h

set_option maxHeartbeats 6400000 in
theorem sameTxn_any (cs ds : Array Value) (t u : TxnD) (w : World) (ht : SeesT w cs t) (hu : SeesT w ds u) (hbt : Byt t.code) (hbu : Byt u.code) (hm : t.args.length ≤ 9223372036854775807) :
    Calls Tryz.prog 83 #[.agg cs, .agg ds] w fun e w' => e = .returned (.bool (decide (t = u))) ∧ Below w.heap.size w w' := by
  rw [sameT_eq]
  obtain ⟨tses, treq, tcode, targs, treads, twrites⟩ := t
  obtain ⟨uses, ureq, ucode, uargs, ureads, uwrites⟩ := u
  simp only at hbt hbu hm ⊢
  obtain ⟨_, _, _, _, rfl, tc, ta, tr, tw⟩ := ht
  obtain ⟨_, _, _, _, rfl, uc, ua, ur, uw⟩ := hu
  simp only at tc ta tr tw uc ua ur uw
  obtain ⟨ac, acc, rfl, _⟩ := id tc
  obtain ⟨aa, aca, rfl, _⟩ := id ta
  obtain ⟨ar, acr, _, _, rfl, _, tm, _⟩ := id tr
  obtain ⟨aw, acw, _, _, rfl, _, tm2, _⟩ := id tw
  obtain ⟨bc, bcc, rfl, _⟩ := id uc
  obtain ⟨ba, bca, rfl, _⟩ := id ua
  obtain ⟨br, bcr, _, _, rfl, _⟩ := id ur
  obtain ⟨bw, bcw, _, _, rfl, _⟩ := id uw
  have HB : Hid (Below w.heap.size w ((w.alloc (.cells #[.int .i64 tses, .int .i64 treq, .slice ac tcode.length acc, .slice aa targs.length aca, .slice ar treads.length acr, .slice aw twrites.length acw] 70)).alloc (.cells #[.int .i64 uses, .int .i64 ureq, .slice bc ucode.length bcc, .slice ba uargs.length bca, .slice br ureads.length bcr, .slice bw uwrites.length bcw] 70))) := ((Below.refl _ _).alloc (Nat.le_refl _) _).alloc (by simp) _
  have HBX : Hid (∀ w' : World, Below (w.heap.size + 2) ((w.alloc (.cells #[.int .i64 tses, .int .i64 treq, .slice ac tcode.length acc, .slice aa targs.length aca, .slice ar treads.length acr, .slice aw twrites.length acw] 70)).alloc (.cells #[.int .i64 uses, .int .i64 ureq, .slice bc ucode.length bcc, .slice ba uargs.length bca, .slice br ureads.length bcr, .slice bw uwrites.length bcw] 70)) w' → w'.cell? ⟨w.heap.size, 3, none⟩ = some (.slice aa targs.length aca) ∧ w'.cell? ⟨w.heap.size, 4, none⟩ = some (.slice ar treads.length acr) ∧ w'.cell? ⟨w.heap.size, 5, none⟩ = some (.slice aw twrites.length acw) ∧ w'.cell? ⟨w.heap.size + 1, 3, none⟩ = some (.slice ba uargs.length bca) ∧ w'.cell? ⟨w.heap.size + 1, 4, none⟩ = some (.slice br ureads.length bcr) ∧ w'.cell? ⟨w.heap.size + 1, 5, none⟩ = some (.slice bw uwrites.length bcw)) := fun w' hb => by
    have e : (w.alloc (.cells #[.int .i64 tses, .int .i64 treq, .slice ac tcode.length acc, .slice aa targs.length aca, .slice ar treads.length acr, .slice aw twrites.length acw] 70)).heap.size = w.heap.size + 1 := by simp
    refine ⟨?_, ?_, ?_, ?_, ?_, ?_⟩
    · rw [hb.cell (p := ⟨w.heap.size, 3, none⟩) (by simp), World.cell?_alloc_lt _ _ _ (by simp), World.cell?_alloc_new]; rfl
    · rw [hb.cell (p := ⟨w.heap.size, 4, none⟩) (by simp), World.cell?_alloc_lt _ _ _ (by simp), World.cell?_alloc_new]; rfl
    · rw [hb.cell (p := ⟨w.heap.size, 5, none⟩) (by simp), World.cell?_alloc_lt _ _ _ (by simp), World.cell?_alloc_new]; rfl
    · rw [hb.cell (p := ⟨w.heap.size + 1, 3, none⟩) (by simp), ← e, World.cell?_alloc_new]; rfl
    · rw [hb.cell (p := ⟨w.heap.size + 1, 4, none⟩) (by simp), ← e, World.cell?_alloc_new]; rfl
    · rw [hb.cell (p := ⟨w.heap.size + 1, 5, none⟩) (by simp), ← e, World.cell?_alloc_new]; rfl
  have HA : Hid (∀ w', Below w.heap.size w w' → Calls Tryz.prog 119 #[.slice aa targs.length aca, .slice ba uargs.length bca] w' fun e w2 => e = .returned (.bool (decide (targs = uargs))) ∧ Below w'.heap.size w' w2) := fun w' hb => equalInts_any _ _ _ _ _ (ta.below hb) (ua.below hb) hm
  have HR : Hid (∀ w', Below w.heap.size w w' → Calls Tryz.prog 120 #[.slice ar treads.length acr, .slice br ureads.length bcr] w' fun e w2 => e = .returned (.bool (decide (treads = ureads))) ∧ Below w'.heap.size w' w2) := fun w' hb => equalKeys_any _ _ _ _ _ (tr.below hb) (ur.below hb) tm
  have HW : Hid (∀ w', Below w.heap.size w w' → Calls Tryz.prog 120 #[.slice aw twrites.length acw, .slice bw uwrites.length bcw] w' fun e w2 => e = .returned (.bool (decide (twrites = uwrites))) ∧ Below w'.heap.size w' w2) := fun w' hb => equalKeys_any _ _ _ _ _ (tw.below hb) (uw.below hb) tm2
  have HC : Hid (Calls Tryz.prog 15 #[.slice ac tcode.length acc, .slice bc ucode.length bcc] ((w.alloc (.cells #[.int .i64 tses, .int .i64 treq, .slice ac tcode.length acc, .slice aa targs.length aca, .slice ar treads.length acr, .slice aw twrites.length acw] 70)).alloc (.cells #[.int .i64 uses, .int .i64 ureq, .slice bc ucode.length bcc, .slice ba uargs.length bca, .slice br ureads.length bcr, .slice bw uwrites.length bcw] 70)) fun e w2 => e = .returned (.bool (decide (tcode = ucode))) ∧ ((w.alloc (.cells #[.int .i64 tses, .int .i64 treq, .slice ac tcode.length acc, .slice aa targs.length aca, .slice ar treads.length acr, .slice aw twrites.length acw] 70)).alloc (.cells #[.int .i64 uses, .int .i64 ureq, .slice bc ucode.length bcc, .slice ba uargs.length bca, .slice br ureads.length bcr, .slice bw uwrites.length bcw] 70)) = w2) := equal_any _ _ _ _ _ (tc.below (unhide HB)) (uc.below (unhide HB)) hbt hbu
  clear tc ta tr tw uc ua ur uw tm tm2 hm
  by_cases h1 : tses = uses
  case neg =>
    go_enter Tryz.func83, Tryz.ntmps83
    go_wp2_with fail
    go_ret
    exact ⟨retBool (by simp [h1]), unhide HB⟩
  subst h1
  by_cases h2 : treq = ureq
  case neg =>
    go_enter Tryz.func83, Tryz.ntmps83
    go_wp2_with fail
    go_ret
    exact ⟨retBool (by simp [h2]), unhide HB⟩
  subst h2
  go_enter Tryz.func83, Tryz.ntmps83
  go_wp2_with fail
  refine (unhide HC).mono ?_
  rintro e w2 ⟨rfl, rfl⟩
  by_cases h3 : tcode = ucode
  case neg =>
    have h3d : decide (tcode = ucode) = false := by simpa using h3
    rw [h3d]
    go_wp2_with fail
    go_ret
    exact ⟨retBool (by simp [h3]), unhide HB⟩
  have h3d : decide (tcode = ucode) = true := by simpa using h3
  rw [h3d]
  have H3 := hide h3d
  clear h3 h3d
  go_wp2_with fail
  refine (unhide HA _ (unhide HB)).mono ?_
  rintro e w3 ⟨rfl, hb0⟩
  have HB0 : Hid (Below w.heap.size w w3) := (unhide HB).trans (hb0.mono (unhide HB).size)
  have HX0 : Hid (Below (w.heap.size + 2) ((w.alloc (.cells #[.int .i64 tses, .int .i64 treq, .slice ac tcode.length acc, .slice aa targs.length aca, .slice ar treads.length acr, .slice aw twrites.length acw] 70)).alloc (.cells #[.int .i64 tses, .int .i64 treq, .slice bc ucode.length bcc, .slice ba uargs.length bca, .slice br ureads.length bcr, .slice bw uwrites.length bcw] 70)) w3) := hb0.mono (by simp)
  clear hb0
  by_cases h4 : targs = uargs
  case neg =>
    have hd : decide (targs = uargs) = false := by simpa using h4
    rw [hd]
    go_wp2_with fail
    go_ret
    exact ⟨retBool (by simp [h4]), unhide HB0⟩
  have hd0 : decide (targs = uargs) = true := by simpa using h4
  rw [hd0]
  have HD0 := hide hd0
  clear h4 hd0
  obtain ⟨c00, c01, c02, c03, c04, c05⟩ := unhide HBX w3 (unhide HX0)
  go_wp2_with fail
  refine (unhide HR _ (unhide HB0)).mono ?_
  rintro e w4 ⟨rfl, hb1⟩
  have HB1 : Hid (Below w.heap.size w w4) := (unhide HB0).trans (hb1.mono (unhide HB0).size)
  have HX1 : Hid (Below (w.heap.size + 2) ((w.alloc (.cells #[.int .i64 tses, .int .i64 treq, .slice ac tcode.length acc, .slice aa targs.length aca, .slice ar treads.length acr, .slice aw twrites.length acw] 70)).alloc (.cells #[.int .i64 tses, .int .i64 treq, .slice bc ucode.length bcc, .slice ba uargs.length bca, .slice br ureads.length bcr, .slice bw uwrites.length bcw] 70)) w4) := (unhide HX0).trans (hb1.mono (by have := (unhide HX0).size; simpa using this))
  clear hb1
  by_cases h5 : treads = ureads
  case neg =>
    have hd : decide (treads = ureads) = false := by simpa using h5
    rw [hd]
    go_wp2_with fail
    go_ret
    exact ⟨retBool (by simp [h5]), unhide HB1⟩
  have hd1 : decide (treads = ureads) = true := by simpa using h5
  rw [hd1]
  have HD1 := hide hd1
  clear h5 hd1
  obtain ⟨c10, c11, c12, c13, c14, c15⟩ := unhide HBX w4 (unhide HX1)
  go_wp2_with fail
  refine (unhide HW _ (unhide HB1)).mono ?_
  rintro e w5 ⟨rfl, hb2⟩
  have HB2 : Hid (Below w.heap.size w w5) := (unhide HB1).trans (hb2.mono (unhide HB1).size)
  have HX2 : Hid (Below (w.heap.size + 2) ((w.alloc (.cells #[.int .i64 tses, .int .i64 treq, .slice ac tcode.length acc, .slice aa targs.length aca, .slice ar treads.length acr, .slice aw twrites.length acw] 70)).alloc (.cells #[.int .i64 tses, .int .i64 treq, .slice bc ucode.length bcc, .slice ba uargs.length bca, .slice br ureads.length bcr, .slice bw uwrites.length bcw] 70)) w5) := (unhide HX1).trans (hb2.mono (by have := (unhide HX1).size; simpa using this))
  clear hb2
  go_wp2_with fail
  go_ret
  refine ⟨retBool ?_, unhide HB2⟩
  rw [unhide H3, unhide HD0, unhide HD1]
  simp

set_option maxHeartbeats 6400000 in
theorem refSameTxn_any (cs ds : Array Value) (t u : TxnD) (w : World) (ht : SeesT w cs t) (hu : SeesT w ds u) (hbt : Byt t.code) (hbu : Byt u.code) (hm : t.args.length ≤ 9223372036854775807) :
    Calls Tryz.prog 28 #[.agg cs, .agg ds] w fun e w' => e = .returned (.bool (decide (t = u))) ∧ Below w.heap.size w w' := by
  rw [sameT_eq]
  obtain ⟨tses, treq, tcode, targs, treads, twrites⟩ := t
  obtain ⟨uses, ureq, ucode, uargs, ureads, uwrites⟩ := u
  simp only at hbt hbu hm ⊢
  obtain ⟨_, _, _, _, rfl, tc, ta, tr, tw⟩ := ht
  obtain ⟨_, _, _, _, rfl, uc, ua, ur, uw⟩ := hu
  simp only at tc ta tr tw uc ua ur uw
  obtain ⟨ac, acc, rfl, _⟩ := id tc
  obtain ⟨aa, aca, rfl, _⟩ := id ta
  obtain ⟨ar, acr, _, _, rfl, _, tm, _⟩ := id tr
  obtain ⟨aw, acw, _, _, rfl, _, tm2, _⟩ := id tw
  obtain ⟨bc, bcc, rfl, _⟩ := id uc
  obtain ⟨ba, bca, rfl, _⟩ := id ua
  obtain ⟨br, bcr, _, _, rfl, _⟩ := id ur
  obtain ⟨bw, bcw, _, _, rfl, _⟩ := id uw
  have HB : Hid (Below w.heap.size w ((w.alloc (.cells #[.int .i64 tses, .int .i64 treq, .slice ac tcode.length acc, .slice aa targs.length aca, .slice ar treads.length acr, .slice aw twrites.length acw] 70)).alloc (.cells #[.int .i64 uses, .int .i64 ureq, .slice bc ucode.length bcc, .slice ba uargs.length bca, .slice br ureads.length bcr, .slice bw uwrites.length bcw] 70))) := ((Below.refl _ _).alloc (Nat.le_refl _) _).alloc (by simp) _
  have HBX : Hid (∀ w' : World, Below (w.heap.size + 2) ((w.alloc (.cells #[.int .i64 tses, .int .i64 treq, .slice ac tcode.length acc, .slice aa targs.length aca, .slice ar treads.length acr, .slice aw twrites.length acw] 70)).alloc (.cells #[.int .i64 uses, .int .i64 ureq, .slice bc ucode.length bcc, .slice ba uargs.length bca, .slice br ureads.length bcr, .slice bw uwrites.length bcw] 70)) w' → w'.cell? ⟨w.heap.size, 3, none⟩ = some (.slice aa targs.length aca) ∧ w'.cell? ⟨w.heap.size, 4, none⟩ = some (.slice ar treads.length acr) ∧ w'.cell? ⟨w.heap.size, 5, none⟩ = some (.slice aw twrites.length acw) ∧ w'.cell? ⟨w.heap.size + 1, 3, none⟩ = some (.slice ba uargs.length bca) ∧ w'.cell? ⟨w.heap.size + 1, 4, none⟩ = some (.slice br ureads.length bcr) ∧ w'.cell? ⟨w.heap.size + 1, 5, none⟩ = some (.slice bw uwrites.length bcw)) := fun w' hb => by
    have e : (w.alloc (.cells #[.int .i64 tses, .int .i64 treq, .slice ac tcode.length acc, .slice aa targs.length aca, .slice ar treads.length acr, .slice aw twrites.length acw] 70)).heap.size = w.heap.size + 1 := by simp
    refine ⟨?_, ?_, ?_, ?_, ?_, ?_⟩
    · rw [hb.cell (p := ⟨w.heap.size, 3, none⟩) (by simp), World.cell?_alloc_lt _ _ _ (by simp), World.cell?_alloc_new]; rfl
    · rw [hb.cell (p := ⟨w.heap.size, 4, none⟩) (by simp), World.cell?_alloc_lt _ _ _ (by simp), World.cell?_alloc_new]; rfl
    · rw [hb.cell (p := ⟨w.heap.size, 5, none⟩) (by simp), World.cell?_alloc_lt _ _ _ (by simp), World.cell?_alloc_new]; rfl
    · rw [hb.cell (p := ⟨w.heap.size + 1, 3, none⟩) (by simp), ← e, World.cell?_alloc_new]; rfl
    · rw [hb.cell (p := ⟨w.heap.size + 1, 4, none⟩) (by simp), ← e, World.cell?_alloc_new]; rfl
    · rw [hb.cell (p := ⟨w.heap.size + 1, 5, none⟩) (by simp), ← e, World.cell?_alloc_new]; rfl
  have HA : Hid (∀ w', Below w.heap.size w w' → Calls Tryz.prog 63 #[.slice aa targs.length aca, .slice ba uargs.length bca] w' fun e w2 => e = .returned (.bool (decide (targs = uargs))) ∧ Below w'.heap.size w' w2) := fun w' hb => sameInts_any _ _ _ _ _ (ta.below hb) (ua.below hb) hm
  have HR : Hid (∀ w', Below w.heap.size w w' → Calls Tryz.prog 64 #[.slice ar treads.length acr, .slice br ureads.length bcr] w' fun e w2 => e = .returned (.bool (decide (treads = ureads))) ∧ Below w'.heap.size w' w2) := fun w' hb => sameKeys_any _ _ _ _ _ (tr.below hb) (ur.below hb) tm
  have HW : Hid (∀ w', Below w.heap.size w w' → Calls Tryz.prog 64 #[.slice aw twrites.length acw, .slice bw uwrites.length bcw] w' fun e w2 => e = .returned (.bool (decide (twrites = uwrites))) ∧ Below w'.heap.size w' w2) := fun w' hb => sameKeys_any _ _ _ _ _ (tw.below hb) (uw.below hb) tm2
  have hcv1 := run_conv_sees (P := Tryz.prog) ((w.alloc (.cells #[.int .i64 tses, .int .i64 treq, .slice ac tcode.length acc, .slice aa targs.length aca, .slice ar treads.length acr, .slice aw twrites.length acw] 70)).alloc (.cells #[.int .i64 uses, .int .i64 ureq, .slice bc ucode.length bcc, .slice ba uargs.length bca, .slice br ureads.length bcr, .slice bw uwrites.length bcw] 70)) 26 9 5 _ tcode Tryz.underlying26 Tryz.underlying5 Tryz.underlying9 (tc.below (unhide HB)) hbt
  have hcv2 := run_conv_sees (P := Tryz.prog) ((w.alloc (.cells #[.int .i64 tses, .int .i64 treq, .slice ac tcode.length acc, .slice aa targs.length aca, .slice ar treads.length acr, .slice aw twrites.length acw] 70)).alloc (.cells #[.int .i64 uses, .int .i64 ureq, .slice bc ucode.length bcc, .slice ba uargs.length bca, .slice br ureads.length bcr, .slice bw uwrites.length bcw] 70)) 26 9 5 _ ucode Tryz.underlying26 Tryz.underlying5 Tryz.underlying9 (uc.below (unhide HB)) hbu
  clear tc ta tr tw uc ua ur uw tm tm2 hm
  by_cases h1 : tses = uses
  case neg =>
    go_enter Tryz.func28, Tryz.ntmps28
    go_wp2_with fail
    go_ret
    exact ⟨retBool (by simp [h1]), unhide HB⟩
  subst h1
  by_cases h2 : treq = ureq
  case neg =>
    go_enter Tryz.func28, Tryz.ntmps28
    go_wp2_with fail
    go_ret
    exact ⟨retBool (by simp [h2]), unhide HB⟩
  subst h2
  by_cases h3 : tcode = ucode
  case neg =>
    have hsn := str_no hbt hbu h3
    go_enter Tryz.func28, Tryz.ntmps28
    go_wp2_with fail
    go_ret
    exact ⟨retBool (by simp [h3]), unhide HB⟩
  have hsy : ((strOf tcode).toList == (strOf ucode).toList) = true := by rw [h3]; simp
  have h3d : decide (tcode = ucode) = true := by simpa using h3
  have H3 := hide h3d
  clear h3 h3d
  go_enter Tryz.func28, Tryz.ntmps28
  go_wp2_with fail
  refine (unhide HA _ (unhide HB)).mono ?_
  rintro e w3 ⟨rfl, hb0⟩
  have HB0 : Hid (Below w.heap.size w w3) := (unhide HB).trans (hb0.mono (unhide HB).size)
  have HX0 : Hid (Below (w.heap.size + 2) ((w.alloc (.cells #[.int .i64 tses, .int .i64 treq, .slice ac tcode.length acc, .slice aa targs.length aca, .slice ar treads.length acr, .slice aw twrites.length acw] 70)).alloc (.cells #[.int .i64 tses, .int .i64 treq, .slice bc ucode.length bcc, .slice ba uargs.length bca, .slice br ureads.length bcr, .slice bw uwrites.length bcw] 70)) w3) := hb0.mono (by simp)
  clear hb0
  by_cases h4 : targs = uargs
  case neg =>
    have hd : decide (targs = uargs) = false := by simpa using h4
    rw [hd]
    go_wp2_with fail
    go_ret
    exact ⟨retBool (by simp [h4]), unhide HB0⟩
  have hd0 : decide (targs = uargs) = true := by simpa using h4
  rw [hd0]
  have HD0 := hide hd0
  clear h4 hd0
  obtain ⟨c00, c01, c02, c03, c04, c05⟩ := unhide HBX w3 (unhide HX0)
  go_wp2_with fail
  refine (unhide HR _ (unhide HB0)).mono ?_
  rintro e w4 ⟨rfl, hb1⟩
  have HB1 : Hid (Below w.heap.size w w4) := (unhide HB0).trans (hb1.mono (unhide HB0).size)
  have HX1 : Hid (Below (w.heap.size + 2) ((w.alloc (.cells #[.int .i64 tses, .int .i64 treq, .slice ac tcode.length acc, .slice aa targs.length aca, .slice ar treads.length acr, .slice aw twrites.length acw] 70)).alloc (.cells #[.int .i64 tses, .int .i64 treq, .slice bc ucode.length bcc, .slice ba uargs.length bca, .slice br ureads.length bcr, .slice bw uwrites.length bcw] 70)) w4) := (unhide HX0).trans (hb1.mono (by have := (unhide HX0).size; simpa using this))
  clear hb1
  by_cases h5 : treads = ureads
  case neg =>
    have hd : decide (treads = ureads) = false := by simpa using h5
    rw [hd]
    go_wp2_with fail
    go_ret
    exact ⟨retBool (by simp [h5]), unhide HB1⟩
  have hd1 : decide (treads = ureads) = true := by simpa using h5
  rw [hd1]
  have HD1 := hide hd1
  clear h5 hd1
  obtain ⟨c10, c11, c12, c13, c14, c15⟩ := unhide HBX w4 (unhide HX1)
  go_wp2_with fail
  refine (unhide HW _ (unhide HB1)).mono ?_
  rintro e w5 ⟨rfl, hb2⟩
  have HB2 : Hid (Below w.heap.size w w5) := (unhide HB1).trans (hb2.mono (unhide HB1).size)
  have HX2 : Hid (Below (w.heap.size + 2) ((w.alloc (.cells #[.int .i64 tses, .int .i64 treq, .slice ac tcode.length acc, .slice aa targs.length aca, .slice ar treads.length acr, .slice aw twrites.length acw] 70)).alloc (.cells #[.int .i64 tses, .int .i64 treq, .slice bc ucode.length bcc, .slice ba uargs.length bca, .slice br ureads.length bcr, .slice bw uwrites.length bcw] 70)) w5) := (unhide HX1).trans (hb2.mono (by have := (unhide HX1).size; simpa using this))
  clear hb2
  go_wp2_with fail
  go_ret
  refine ⟨retBool ?_, unhide HB2⟩
  rw [unhide H3, unhide HD0, unhide HD1]
  simp

end Go.Proofs.YtggllgimlfchhabGreat
