/- Record: lists that are the same. -/
import Derived.Test.YtoddemcmmijoaaaXD
namespace Go.Proofs.Ytoddemcmmijoaaa
open Go.RowKit
set_option maxRecDepth 100000

theorem list_differ {α : Type} [Inhabited α] {xs ys : List α} {d : α} {t : Nat} (h : xs.getD t d ≠ ys.getD t d) : ¬ xs = ys := fun e => h (by rw [e])
theorem list_alike {α : Type} {xs ys : List α} {d : α} (hl : xs.length = ys.length) (h : ∀ t, t < xs.length → xs.getD t d = ys.getD t d) : xs = ys := by
  refine List.ext_getElem hl fun i h1 h2 => ?_
  have := h i h1
  simpa [List.getD, h1, h2] using this

theorem eq_key (d : Nat) (x0 x1 y0 y1 : Int) (w : World) : (Op.equalIn (d + 2) 103 (.agg #[.int .i32 x0, .int .i64 x1]) (.agg #[.int .i32 y0, .int .i64 y1])).run Try.prog w = .ok ((x0 == y0) && (x1 == y1)) w := by
  have hS : Try.prog.underlying 103 = some (.struct (Try.prog.fieldsOf 103)) := by kernel_rfl
  have hp : Try.prog.stoodInHeld 103 = false := by kernel_rfl
  rw [show d + 2 = (d + 1) + 1 from rfl, run_equalIn_struct w (d + 1) 103 _ _ hS hp]
  simp only [Program.fieldsOf, Try.underlying103]
  by_cases h1 : x0 = y0 <;> by_cases h2 : x1 = y1 <;> simp [Op.eqFields, part, go_sem, h1, h2]
theorem neq_key (x0 x1 y0 y1 : Int) (w : World) : (binOp .neq 103 (.agg #[.int .i32 x0, .int .i64 x1]) (.agg #[.int .i32 y0, .int .i64 y1])).run Try.prog w = .ok (.bool (!decide ((x0, x1) = (y0, y1)))) w := by
  rw [run_neq_struct, show (10000 : Nat) = 9998 + 2 from rfl, eq_key]
  by_cases h1 : x0 = y0 <;> by_cases h2 : x1 = y1 <;> simp [h1, h2, Result.andThen]

set_option maxHeartbeats 3200000 in
theorem equalInts_any (av bv : Value) (xs ys : List (Int)) (w : World) (ha : Sees w .i64 av xs) (hb : Sees w .i64 bv ys) (hm : xs.length ≤ 9223372036854775807) :
    Calls Try.prog 64 #[av, bv] w fun e w' => e = .returned (.bool (decide (xs = ys))) ∧ Below w.heap.size w w' := by
  have HA := hide ha
  have HB := hide hb
  obtain ⟨ao, ca, rfl, hca, _⟩ := ha
  obtain ⟨bo, cb, rfl, hcb, _⟩ := hb
  by_cases hl : xs.length = ys.length
  · rw [← hl] at hcb ⊢
    have HL := hide hl
    clear hl
    go_enter Try.func64, Try.ntmps64
    go_wp2
    go_loopw [13] (fun c wr => ∃ t : Nat, t ≤ xs.length ∧ c = .int .i64 t ∧ (∀ u, u < t → xs.getD u 0 = ys.getD u 0) ∧ Below w.heap.size w wr) (fun c _ => xs.length - (intOf c).toNat)
    case atStart => exact ⟨0, by omega, rfl, fun u hu => absurd hu (by omega), Below.refl _ _⟩
    case round =>
      obtain ⟨t, ht, rfl, heq, hb⟩ := hrel
      have HE := hide heq
      have HBW := hide hb
      by_cases hlt : t < xs.length
      · have hA := (unhide HA).below hb
        have hB := (unhide HB).below hb
        obtain ⟨ao', ca', hv, _, _, h1⟩ := hA
        obtain ⟨bo', cb', hv', _, _, h2⟩ := hB
        simp only [Value.slice.injEq, true_and] at hv hv'
        obtain ⟨rfl, rfl⟩ := hv
        obtain ⟨rfl, _, rfl⟩ := hv'
        rw [← unhide HL] at h2
        obtain ⟨a, rfl⟩ : ∃ a, ao = some a := by
          cases ao with
          | none => exfalso; have := (unhide HA); obtain ⟨_, _, e, h3, h4, _⟩ := this; simp only [Value.slice.injEq, true_and] at e; obtain ⟨rfl, rfl⟩ := e; have := h4 rfl; omega
          | some a => exact ⟨a, rfl⟩
        obtain ⟨b, rfl⟩ : ∃ b, bo = some b := by
          cases bo with
          | none => exfalso; have hz := (unhide HB); have hL := unhide HL; obtain ⟨_, _, e, h3, h4, _⟩ := hz; simp only [Value.slice.injEq] at e; obtain ⟨rfl, _, rfl⟩ := e; have := h4 rfl; omega
          | some b => exact ⟨b, rfl⟩
        have hx := h1 a rfl t hlt
        have hy := h2 b rfl t hlt
        obtain ⟨x, ex⟩ : ∃ x, xs.getD t 0 = x := ⟨_, rfl⟩
        obtain ⟨y, ey⟩ : ∃ y, ys.getD t 0 = y := ⟨_, rfl⟩
        rw [ex] at hx
        rw [ey] at hy
        have HX := hide ex
        have HY := hide ey
        clear h1 h2 ex ey hb heq
        go_wp2_with fail
        refine wp_region_held_drew (S := fun w' => w'.cell? (a.add t) = some (.int .i64 x) ∧ w'.cell? (b.add t) = some (.int .i64 y)) (by kernel_rfl) ⟨hx, hy⟩ (fun hHeld => ?_)
        refine wpAnyH_take (i := 0) (v := ?v1x0) rfl (by kernel_rfl) (by kernel_rfl) (by kernel_rfl) (fun _ _ _ h => h) (Or.inl ⟨by rfl, ?hy1x0⟩) (by assumption) ?rest1x0
        case hy1x0 => intro w hSw; obtain ⟨s1, s2⟩ := hSw; go_simp <;> with_reducible rfl
        simp only [Act.put, List.getElem_toArray, List.getElem_cons_zero, List.setIfInBounds_toArray, List.set_cons_zero, List.set_cons_succ]
        refine wpAnyH_take (i := 1) (v := ?v2x1) rfl (by kernel_rfl) (by kernel_rfl) (by kernel_rfl) (fun _ _ _ h => h) (Or.inl ⟨by rfl, ?hy2x1⟩) (by assumption) ?rest2x1
        case hy2x1 => intro w hSw; obtain ⟨s1, s2⟩ := hSw; go_simp <;> with_reducible rfl
        simp only [Act.put, List.getElem_toArray, List.getElem_cons_zero, List.getElem_cons_succ, List.setIfInBounds_toArray, List.set_cons_zero, List.set_cons_succ]
        refine wpAnyH_take (i := 2) (v := ?v3x2) rfl (by kernel_rfl) (by kernel_rfl) (by kernel_rfl) (fun _ _ _ h => h) (Or.inl ⟨by rfl, ?hy3x2⟩) (by assumption) ?rest3x2
        case hy3x2 => intro w hSw; obtain ⟨s1, s2⟩ := hSw; go_simp <;> with_reducible rfl
        simp only [Act.put, List.getElem_toArray, List.getElem_cons_zero, List.getElem_cons_succ, List.setIfInBounds_toArray, List.set_cons_zero, List.set_cons_succ]
        refine wpAnyH_take (i := 3) (v := .int .i64 x) rfl (by kernel_rfl) (by kernel_rfl) (by kernel_rfl) (fun _ _ _ h => h) (Or.inl ⟨by rfl, ?hy4x3⟩) (by assumption) ?rest4x3
        case hy4x3 => intro w hSw; obtain ⟨s1, s2⟩ := hSw; go_simp <;> with_reducible rfl
        simp only [Act.put, List.getElem_toArray, List.getElem_cons_zero, List.getElem_cons_succ, List.setIfInBounds_toArray, List.set_cons_zero, List.set_cons_succ]
        refine wpAnyH_take (i := 4) (v := ?v5x4) rfl (by kernel_rfl) (by kernel_rfl) (by kernel_rfl) (fun _ _ _ h => h) (Or.inl ⟨by rfl, ?hy5x4⟩) (by assumption) ?rest5x4
        case hy5x4 => intro w hSw; obtain ⟨s1, s2⟩ := hSw; go_simp <;> with_reducible rfl
        simp only [Act.put, List.getElem_toArray, List.getElem_cons_zero, List.getElem_cons_succ, List.setIfInBounds_toArray, List.set_cons_zero, List.set_cons_succ]
        refine wpAnyH_take (i := 5) (v := ?v6x5) rfl (by kernel_rfl) (by kernel_rfl) (by kernel_rfl) (fun _ _ _ h => h) (Or.inl ⟨by rfl, ?hy6x5⟩) (by assumption) ?rest6x5
        case hy6x5 => intro w hSw; obtain ⟨s1, s2⟩ := hSw; go_simp <;> with_reducible rfl
        simp only [Act.put, List.getElem_toArray, List.getElem_cons_zero, List.getElem_cons_succ, List.setIfInBounds_toArray, List.set_cons_zero, List.set_cons_succ]
        refine wpAnyH_take (i := 6) (v := ?v7x6) rfl (by kernel_rfl) (by kernel_rfl) (by kernel_rfl) (fun _ _ _ h => h) (Or.inl ⟨by rfl, ?hy7x6⟩) (by assumption) ?rest7x6
        case hy7x6 => intro w hSw; obtain ⟨s1, s2⟩ := hSw; go_simp <;> with_reducible rfl
        simp only [Act.put, List.getElem_toArray, List.getElem_cons_zero, List.getElem_cons_succ, List.setIfInBounds_toArray, List.set_cons_zero, List.set_cons_succ]
        refine wpAnyH_take (i := 7) (v := .int .i64 y) rfl (by kernel_rfl) (by kernel_rfl) (by kernel_rfl) (fun _ _ _ h => h) (Or.inl ⟨by rfl, ?hy8x7⟩) (by assumption) ?rest8x7
        case hy8x7 => intro w hSw; obtain ⟨s1, s2⟩ := hSw; go_simp <;> with_reducible rfl
        simp only [Act.put, List.getElem_toArray, List.getElem_cons_zero, List.getElem_cons_succ, List.setIfInBounds_toArray, List.set_cons_zero, List.set_cons_succ]
        by_cases hxy : x = y
        · have hxb : decide (x = y) = true := by simp [hxy]
          refine wpAnyH_take (i := 8) (v := .bool false) rfl (by kernel_rfl) (by kernel_rfl) (by kernel_rfl) (fun _ _ _ h => h) (Or.inl ⟨by rfl, ?hy9x8⟩) (by assumption) ?rest9x8
          case hy9x8 => intro w hSw; obtain ⟨s1, s2⟩ := hSw; go_simp <;> with_reducible rfl
          simp only [Act.put, List.getElem_toArray, List.getElem_cons_zero, List.getElem_cons_succ, List.setIfInBounds_toArray, List.set_cons_zero, List.set_cons_succ]
          refine wpAnyH_done (by kernel_rfl) ?_ _
          go_wp2
          go_roundw
          case rel =>
            refine ⟨t + 1, by omega, by go_num, fun u hu => ?_, (unhide HBW).drew⟩
            by_cases hut : u < t
            · exact unhide HE u hut
            · obtain rfl : u = t := by omega
              rw [unhide HX, unhide HY, hxy]
          case measure => simp [intOf]; omega
        · have hxb : decide (x = y) = false := by simp [hxy]
          refine wpAnyH_take (i := 8) (v := .bool true) rfl (by kernel_rfl) (by kernel_rfl) (by kernel_rfl) (fun _ _ _ h => h) (Or.inl ⟨by rfl, ?hy10x8⟩) (by assumption) ?rest10x8
          case hy10x8 => intro w hSw; obtain ⟨s1, s2⟩ := hSw; go_simp <;> with_reducible rfl
          simp only [Act.put, List.getElem_toArray, List.getElem_cons_zero, List.getElem_cons_succ, List.setIfInBounds_toArray, List.set_cons_zero, List.set_cons_succ]
          refine wpAnyH_done (by kernel_rfl) ?_ _
          go_wp2
          go_ret
          refine ⟨retBool ?_, (unhide HBW).drew⟩
          rw [eq_comm, decide_eq_false_iff_not]
          exact list_differ (d := 0) (t := t) (by rw [unhide HX, unhide HY]; exact hxy)
      · clear hb heq
        go_wp2
        go_ret
        refine ⟨retBool ?_, unhide HBW⟩
        rw [eq_comm, decide_eq_true_iff]
        exact list_alike (d := 0) (unhide HL) (fun u hu => unhide HE u (by omega))
  · have hd : decide (xs = ys) = false := by rw [decide_eq_false_iff_not]; exact fun e => hl (by rw [e])
    rw [hd]
    go_enter Try.func64, Try.ntmps64
    go_wp2
    go_ret
    exact ⟨rfl, Below.refl _ _⟩

set_option maxHeartbeats 3200000 in
theorem sameInts_any (av bv : Value) (xs ys : List (Int)) (w : World) (ha : Sees w .i64 av xs) (hb : Sees w .i64 bv ys) (hm : xs.length ≤ 9223372036854775807) :
    Calls Try.prog 44 #[av, bv] w fun e w' => e = .returned (.bool (decide (xs = ys))) ∧ Below w.heap.size w w' := by
  have HA := hide ha
  have HB := hide hb
  obtain ⟨ao, ca, rfl, hca, _⟩ := ha
  obtain ⟨bo, cb, rfl, hcb, _⟩ := hb
  by_cases hl : xs.length = ys.length
  · rw [← hl] at hcb ⊢
    have HL := hide hl
    clear hl
    go_enter Try.func44, Try.ntmps44
    go_wp2
    go_loopw [5] (fun c wr => ∃ t : Nat, t ≤ xs.length ∧ c = .int .i64 t ∧ (∀ u, u < t → xs.getD u 0 = ys.getD u 0) ∧ Below w.heap.size w wr) (fun c _ => xs.length - (intOf c).toNat)
    case atStart => exact ⟨0, by omega, rfl, fun u hu => absurd hu (by omega), Below.refl _ _⟩
    case round =>
      obtain ⟨t, ht, rfl, heq, hb⟩ := hrel
      have HE := hide heq
      have HBW := hide hb
      by_cases hlt : t < xs.length
      · have hA := (unhide HA).below hb
        have hB := (unhide HB).below hb
        obtain ⟨ao', ca', hv, _, _, h1⟩ := hA
        obtain ⟨bo', cb', hv', _, _, h2⟩ := hB
        simp only [Value.slice.injEq, true_and] at hv hv'
        obtain ⟨rfl, rfl⟩ := hv
        obtain ⟨rfl, _, rfl⟩ := hv'
        rw [← unhide HL] at h2
        obtain ⟨a, rfl⟩ : ∃ a, ao = some a := by
          cases ao with
          | none => exfalso; have := (unhide HA); obtain ⟨_, _, e, h3, h4, _⟩ := this; simp only [Value.slice.injEq, true_and] at e; obtain ⟨rfl, rfl⟩ := e; have := h4 rfl; omega
          | some a => exact ⟨a, rfl⟩
        obtain ⟨b, rfl⟩ : ∃ b, bo = some b := by
          cases bo with
          | none => exfalso; have hz := (unhide HB); have hL := unhide HL; obtain ⟨_, _, e, h3, h4, _⟩ := hz; simp only [Value.slice.injEq] at e; obtain ⟨rfl, _, rfl⟩ := e; have := h4 rfl; omega
          | some b => exact ⟨b, rfl⟩
        have hx := h1 a rfl t hlt
        have hy := h2 b rfl t hlt
        obtain ⟨x, ex⟩ : ∃ x, xs.getD t 0 = x := ⟨_, rfl⟩
        obtain ⟨y, ey⟩ : ∃ y, ys.getD t 0 = y := ⟨_, rfl⟩
        rw [ex] at hx
        rw [ey] at hy
        have HX := hide ex
        have HY := hide ey
        clear h1 h2 ex ey hb heq
        go_wp2_with fail
        refine wp_region_held_drew (S := fun w' => w'.cell? (a.add t) = some (.int .i64 x) ∧ w'.cell? (b.add t) = some (.int .i64 y)) (by kernel_rfl) ⟨hx, hy⟩ (fun hHeld => ?_)
        refine wpAnyH_take (i := 0) (v := ?v11x0) rfl (by kernel_rfl) (by kernel_rfl) (by kernel_rfl) (fun _ _ _ h => h) (Or.inl ⟨by rfl, ?hy11x0⟩) (by assumption) ?rest11x0
        case hy11x0 => intro w hSw; obtain ⟨s1, s2⟩ := hSw; go_simp <;> with_reducible rfl
        simp only [Act.put, List.getElem_toArray, List.getElem_cons_zero, List.setIfInBounds_toArray, List.set_cons_zero, List.set_cons_succ]
        refine wpAnyH_take (i := 1) (v := ?v12x1) rfl (by kernel_rfl) (by kernel_rfl) (by kernel_rfl) (fun _ _ _ h => h) (Or.inl ⟨by rfl, ?hy12x1⟩) (by assumption) ?rest12x1
        case hy12x1 => intro w hSw; obtain ⟨s1, s2⟩ := hSw; go_simp <;> with_reducible rfl
        simp only [Act.put, List.getElem_toArray, List.getElem_cons_zero, List.getElem_cons_succ, List.setIfInBounds_toArray, List.set_cons_zero, List.set_cons_succ]
        refine wpAnyH_take (i := 2) (v := ?v13x2) rfl (by kernel_rfl) (by kernel_rfl) (by kernel_rfl) (fun _ _ _ h => h) (Or.inl ⟨by rfl, ?hy13x2⟩) (by assumption) ?rest13x2
        case hy13x2 => intro w hSw; obtain ⟨s1, s2⟩ := hSw; go_simp <;> with_reducible rfl
        simp only [Act.put, List.getElem_toArray, List.getElem_cons_zero, List.getElem_cons_succ, List.setIfInBounds_toArray, List.set_cons_zero, List.set_cons_succ]
        refine wpAnyH_take (i := 3) (v := .int .i64 x) rfl (by kernel_rfl) (by kernel_rfl) (by kernel_rfl) (fun _ _ _ h => h) (Or.inl ⟨by rfl, ?hy14x3⟩) (by assumption) ?rest14x3
        case hy14x3 => intro w hSw; obtain ⟨s1, s2⟩ := hSw; go_simp <;> with_reducible rfl
        simp only [Act.put, List.getElem_toArray, List.getElem_cons_zero, List.getElem_cons_succ, List.setIfInBounds_toArray, List.set_cons_zero, List.set_cons_succ]
        refine wpAnyH_take (i := 4) (v := ?v15x4) rfl (by kernel_rfl) (by kernel_rfl) (by kernel_rfl) (fun _ _ _ h => h) (Or.inl ⟨by rfl, ?hy15x4⟩) (by assumption) ?rest15x4
        case hy15x4 => intro w hSw; obtain ⟨s1, s2⟩ := hSw; go_simp <;> with_reducible rfl
        simp only [Act.put, List.getElem_toArray, List.getElem_cons_zero, List.getElem_cons_succ, List.setIfInBounds_toArray, List.set_cons_zero, List.set_cons_succ]
        refine wpAnyH_take (i := 5) (v := ?v16x5) rfl (by kernel_rfl) (by kernel_rfl) (by kernel_rfl) (fun _ _ _ h => h) (Or.inl ⟨by rfl, ?hy16x5⟩) (by assumption) ?rest16x5
        case hy16x5 => intro w hSw; obtain ⟨s1, s2⟩ := hSw; go_simp <;> with_reducible rfl
        simp only [Act.put, List.getElem_toArray, List.getElem_cons_zero, List.getElem_cons_succ, List.setIfInBounds_toArray, List.set_cons_zero, List.set_cons_succ]
        refine wpAnyH_take (i := 6) (v := ?v17x6) rfl (by kernel_rfl) (by kernel_rfl) (by kernel_rfl) (fun _ _ _ h => h) (Or.inl ⟨by rfl, ?hy17x6⟩) (by assumption) ?rest17x6
        case hy17x6 => intro w hSw; obtain ⟨s1, s2⟩ := hSw; go_simp <;> with_reducible rfl
        simp only [Act.put, List.getElem_toArray, List.getElem_cons_zero, List.getElem_cons_succ, List.setIfInBounds_toArray, List.set_cons_zero, List.set_cons_succ]
        refine wpAnyH_take (i := 7) (v := .int .i64 y) rfl (by kernel_rfl) (by kernel_rfl) (by kernel_rfl) (fun _ _ _ h => h) (Or.inl ⟨by rfl, ?hy18x7⟩) (by assumption) ?rest18x7
        case hy18x7 => intro w hSw; obtain ⟨s1, s2⟩ := hSw; go_simp <;> with_reducible rfl
        simp only [Act.put, List.getElem_toArray, List.getElem_cons_zero, List.getElem_cons_succ, List.setIfInBounds_toArray, List.set_cons_zero, List.set_cons_succ]
        by_cases hxy : x = y
        · have hxb : decide (x = y) = true := by simp [hxy]
          refine wpAnyH_take (i := 8) (v := .bool false) rfl (by kernel_rfl) (by kernel_rfl) (by kernel_rfl) (fun _ _ _ h => h) (Or.inl ⟨by rfl, ?hy19x8⟩) (by assumption) ?rest19x8
          case hy19x8 => intro w hSw; obtain ⟨s1, s2⟩ := hSw; go_simp <;> with_reducible rfl
          simp only [Act.put, List.getElem_toArray, List.getElem_cons_zero, List.getElem_cons_succ, List.setIfInBounds_toArray, List.set_cons_zero, List.set_cons_succ]
          refine wpAnyH_done (by kernel_rfl) ?_ _
          go_wp2
          go_roundw
          case rel =>
            refine ⟨t + 1, by omega, by go_num, fun u hu => ?_, (unhide HBW).drew⟩
            by_cases hut : u < t
            · exact unhide HE u hut
            · obtain rfl : u = t := by omega
              rw [unhide HX, unhide HY, hxy]
          case measure => simp [intOf]; omega
        · have hxb : decide (x = y) = false := by simp [hxy]
          refine wpAnyH_take (i := 8) (v := .bool true) rfl (by kernel_rfl) (by kernel_rfl) (by kernel_rfl) (fun _ _ _ h => h) (Or.inl ⟨by rfl, ?hy20x8⟩) (by assumption) ?rest20x8
          case hy20x8 => intro w hSw; obtain ⟨s1, s2⟩ := hSw; go_simp <;> with_reducible rfl
          simp only [Act.put, List.getElem_toArray, List.getElem_cons_zero, List.getElem_cons_succ, List.setIfInBounds_toArray, List.set_cons_zero, List.set_cons_succ]
          refine wpAnyH_done (by kernel_rfl) ?_ _
          go_wp2
          go_ret
          refine ⟨retBool ?_, (unhide HBW).drew⟩
          rw [eq_comm, decide_eq_false_iff_not]
          exact list_differ (d := 0) (t := t) (by rw [unhide HX, unhide HY]; exact hxy)
      · clear hb heq
        go_wp2
        go_ret
        refine ⟨retBool ?_, unhide HBW⟩
        rw [eq_comm, decide_eq_true_iff]
        exact list_alike (d := 0) (unhide HL) (fun u hu => unhide HE u (by omega))
  · have hd : decide (xs = ys) = false := by rw [decide_eq_false_iff_not]; exact fun e => hl (by rw [e])
    rw [hd]
    go_enter Try.func44, Try.ntmps44
    go_wp2
    go_ret
    exact ⟨rfl, Below.refl _ _⟩

set_option maxHeartbeats 3200000 in
theorem equalKeys_any (av bv : Value) (xs ys : List (Int × Int)) (w : World) (ha : SeesK w av xs) (hb : SeesK w bv ys) (hm : xs.length ≤ 9223372036854775807) :
    Calls Try.prog 65 #[av, bv] w fun e w' => e = .returned (.bool (decide (xs = ys))) ∧ Below w.heap.size w w' := by
  have HA := hide ha
  have HB := hide hb
  obtain ⟨ao, ca, _, _, rfl, hca, _⟩ := ha
  obtain ⟨bo, cb, _, _, rfl, hcb, _⟩ := hb
  by_cases hl : xs.length = ys.length
  · rw [← hl] at hcb ⊢
    have HL := hide hl
    clear hl
    go_enter Try.func65, Try.ntmps65
    go_wp2
    go_loopw [13] (fun c wr => ∃ t : Nat, t ≤ xs.length ∧ c = .int .i64 t ∧ (∀ u, u < t → xs.getD u (0, 0) = ys.getD u (0, 0)) ∧ Below w.heap.size w wr) (fun c _ => xs.length - (intOf c).toNat)
    case atStart => exact ⟨0, by omega, rfl, fun u hu => absurd hu (by omega), Below.refl _ _⟩
    case round =>
      obtain ⟨t, ht, rfl, heq, hb⟩ := hrel
      have HE := hide heq
      have HBW := hide hb
      by_cases hlt : t < xs.length
      · have hA := (unhide HA).below hb
        have hB := (unhide HB).below hb
        obtain ⟨ao', ca', ga, oa, hv, _, _, ha', h1⟩ := hA
        obtain ⟨bo', cb', gb, ob, hv', _, _, hb', h2⟩ := hB
        simp only [Value.slice.injEq, true_and] at hv hv'
        obtain ⟨rfl, rfl⟩ := hv
        obtain ⟨rfl, _, rfl⟩ := hv'
        rw [← unhide HL] at h2 hb'
        obtain rfl := ha' (by omega)
        obtain rfl := hb' (by omega)
        obtain ⟨hx0, hx1⟩ := h1 t hlt
        obtain ⟨hy0, hy1⟩ := h2 t hlt
        obtain ⟨x, ex⟩ : ∃ x, xs.getD t (0, 0) = x := ⟨_, rfl⟩
        obtain ⟨y, ey⟩ : ∃ y, ys.getD t (0, 0) = y := ⟨_, rfl⟩
        rw [ex] at hx0 hx1
        rw [ey] at hy0 hy1
        have HX := hide ex
        have HY := hide ey
        clear h1 h2 ex ey hb heq ha' hb'
        obtain ⟨x0, x1⟩ := x
        obtain ⟨y0, y1⟩ := y
        simp only at hx0 hx1 hy0 hy1
        have hneq := fun w => neq_key x0 x1 y0 y1 w
        go_wp2_with fail
        refine wp_region_held_drew (S := fun w' => w'.cell? ⟨ga, oa + t * 2, none⟩ = some (.int .i32 x0) ∧ w'.cell? ⟨ga, oa + t * 2 + 1, none⟩ = some (.int .i64 x1) ∧ w'.cell? ⟨gb, ob + t * 2, none⟩ = some (.int .i32 y0) ∧ w'.cell? ⟨gb, ob + t * 2 + 1, none⟩ = some (.int .i64 y1)) (by kernel_rfl) ⟨hx0, hx1, hy0, hy1⟩ (fun hHeld => ?_)
        refine wpAnyH_take (i := 0) (v := ?v21x0) rfl (by kernel_rfl) (by kernel_rfl) (by kernel_rfl) (fun _ _ _ h => h) (Or.inl ⟨by rfl, ?hy21x0⟩) (by assumption) ?rest21x0
        case hy21x0 => intro w hSw; obtain ⟨s1, s2, s3, s4⟩ := hSw; go_simp <;> with_reducible rfl
        simp only [Act.put, List.getElem_toArray, List.getElem_cons_zero, List.setIfInBounds_toArray, List.set_cons_zero, List.set_cons_succ]
        refine wpAnyH_take (i := 1) (v := ?v22x1) rfl (by kernel_rfl) (by kernel_rfl) (by kernel_rfl) (fun _ _ _ h => h) (Or.inl ⟨by rfl, ?hy22x1⟩) (by assumption) ?rest22x1
        case hy22x1 => intro w hSw; obtain ⟨s1, s2, s3, s4⟩ := hSw; go_simp <;> with_reducible rfl
        simp only [Act.put, List.getElem_toArray, List.getElem_cons_zero, List.getElem_cons_succ, List.setIfInBounds_toArray, List.set_cons_zero, List.set_cons_succ]
        refine wpAnyH_take (i := 2) (v := ?v23x2) rfl (by kernel_rfl) (by kernel_rfl) (by kernel_rfl) (fun _ _ _ h => h) (Or.inl ⟨by rfl, ?hy23x2⟩) (by assumption) ?rest23x2
        case hy23x2 => intro w hSw; obtain ⟨s1, s2, s3, s4⟩ := hSw; go_simp <;> with_reducible rfl
        simp only [Act.put, List.getElem_toArray, List.getElem_cons_zero, List.getElem_cons_succ, List.setIfInBounds_toArray, List.set_cons_zero, List.set_cons_succ]
        refine wpAnyH_take (i := 3) (v := .agg #[.int .i32 x0, .int .i64 x1]) rfl (by kernel_rfl) (by kernel_rfl) (by kernel_rfl) (fun _ _ _ h => h) (Or.inl ⟨by rfl, ?hy24x3⟩) (by assumption) ?rest24x3
        case hy24x3 => intro w hSw; obtain ⟨s1, s2, s3, s4⟩ := hSw; go_simp <;> with_reducible rfl
        simp only [Act.put, List.getElem_toArray, List.getElem_cons_zero, List.getElem_cons_succ, List.setIfInBounds_toArray, List.set_cons_zero, List.set_cons_succ]
        refine wpAnyH_take (i := 4) (v := ?v25x4) rfl (by kernel_rfl) (by kernel_rfl) (by kernel_rfl) (fun _ _ _ h => h) (Or.inl ⟨by rfl, ?hy25x4⟩) (by assumption) ?rest25x4
        case hy25x4 => intro w hSw; obtain ⟨s1, s2, s3, s4⟩ := hSw; go_simp <;> with_reducible rfl
        simp only [Act.put, List.getElem_toArray, List.getElem_cons_zero, List.getElem_cons_succ, List.setIfInBounds_toArray, List.set_cons_zero, List.set_cons_succ]
        refine wpAnyH_take (i := 5) (v := ?v26x5) rfl (by kernel_rfl) (by kernel_rfl) (by kernel_rfl) (fun _ _ _ h => h) (Or.inl ⟨by rfl, ?hy26x5⟩) (by assumption) ?rest26x5
        case hy26x5 => intro w hSw; obtain ⟨s1, s2, s3, s4⟩ := hSw; go_simp <;> with_reducible rfl
        simp only [Act.put, List.getElem_toArray, List.getElem_cons_zero, List.getElem_cons_succ, List.setIfInBounds_toArray, List.set_cons_zero, List.set_cons_succ]
        refine wpAnyH_take (i := 6) (v := ?v27x6) rfl (by kernel_rfl) (by kernel_rfl) (by kernel_rfl) (fun _ _ _ h => h) (Or.inl ⟨by rfl, ?hy27x6⟩) (by assumption) ?rest27x6
        case hy27x6 => intro w hSw; obtain ⟨s1, s2, s3, s4⟩ := hSw; go_simp <;> with_reducible rfl
        simp only [Act.put, List.getElem_toArray, List.getElem_cons_zero, List.getElem_cons_succ, List.setIfInBounds_toArray, List.set_cons_zero, List.set_cons_succ]
        refine wpAnyH_take (i := 7) (v := .agg #[.int .i32 y0, .int .i64 y1]) rfl (by kernel_rfl) (by kernel_rfl) (by kernel_rfl) (fun _ _ _ h => h) (Or.inl ⟨by rfl, ?hy28x7⟩) (by assumption) ?rest28x7
        case hy28x7 => intro w hSw; obtain ⟨s1, s2, s3, s4⟩ := hSw; go_simp <;> with_reducible rfl
        simp only [Act.put, List.getElem_toArray, List.getElem_cons_zero, List.getElem_cons_succ, List.setIfInBounds_toArray, List.set_cons_zero, List.set_cons_succ]
        by_cases hxy : (x0, x1) = (y0, y1)
        · have hxb : decide ((x0, x1) = (y0, y1)) = true := by simp [hxy]
          refine wpAnyH_take (i := 8) (v := .bool false) rfl (by kernel_rfl) (by kernel_rfl) (by kernel_rfl) (fun _ _ _ h => h) (Or.inl ⟨by rfl, ?hy29x8⟩) (by assumption) ?rest29x8
          case hy29x8 => intro w hSw; obtain ⟨s1, s2, s3, s4⟩ := hSw; go_simp <;> with_reducible rfl
          simp only [Act.put, List.getElem_toArray, List.getElem_cons_zero, List.getElem_cons_succ, List.setIfInBounds_toArray, List.set_cons_zero, List.set_cons_succ]
          refine wpAnyH_done (by kernel_rfl) ?_ _
          go_wp2
          go_roundw
          case rel =>
            refine ⟨t + 1, by omega, by go_num, fun u hu => ?_, (unhide HBW).drew⟩
            by_cases hut : u < t
            · exact unhide HE u hut
            · obtain rfl : u = t := by omega
              rw [unhide HX, unhide HY, hxy]
          case measure => simp [intOf]; omega
        · have hxb : decide ((x0, x1) = (y0, y1)) = false := by simp [hxy]
          refine wpAnyH_take (i := 8) (v := .bool true) rfl (by kernel_rfl) (by kernel_rfl) (by kernel_rfl) (fun _ _ _ h => h) (Or.inl ⟨by rfl, ?hy30x8⟩) (by assumption) ?rest30x8
          case hy30x8 => intro w hSw; obtain ⟨s1, s2, s3, s4⟩ := hSw; go_simp <;> with_reducible rfl
          simp only [Act.put, List.getElem_toArray, List.getElem_cons_zero, List.getElem_cons_succ, List.setIfInBounds_toArray, List.set_cons_zero, List.set_cons_succ]
          refine wpAnyH_done (by kernel_rfl) ?_ _
          go_wp2
          go_ret
          refine ⟨retBool ?_, (unhide HBW).drew⟩
          rw [eq_comm, decide_eq_false_iff_not]
          exact list_differ (d := (0, 0)) (t := t) (by rw [unhide HX, unhide HY]; exact hxy)
      · clear hb heq
        go_wp2
        go_ret
        refine ⟨retBool ?_, unhide HBW⟩
        rw [eq_comm, decide_eq_true_iff]
        exact list_alike (d := (0, 0)) (unhide HL) (fun u hu => unhide HE u (by omega))
  · have hd : decide (xs = ys) = false := by rw [decide_eq_false_iff_not]; exact fun e => hl (by rw [e])
    rw [hd]
    go_enter Try.func65, Try.ntmps65
    go_wp2
    go_ret
    exact ⟨rfl, Below.refl _ _⟩

set_option maxHeartbeats 3200000 in
theorem sameKeys_any (av bv : Value) (xs ys : List (Int × Int)) (w : World) (ha : SeesK w av xs) (hb : SeesK w bv ys) (hm : xs.length ≤ 9223372036854775807) :
    Calls Try.prog 45 #[av, bv] w fun e w' => e = .returned (.bool (decide (xs = ys))) ∧ Below w.heap.size w w' := by
  have HA := hide ha
  have HB := hide hb
  obtain ⟨ao, ca, _, _, rfl, hca, _⟩ := ha
  obtain ⟨bo, cb, _, _, rfl, hcb, _⟩ := hb
  by_cases hl : xs.length = ys.length
  · rw [← hl] at hcb ⊢
    have HL := hide hl
    clear hl
    go_enter Try.func45, Try.ntmps45
    go_wp2
    go_loopw [5] (fun c wr => ∃ t : Nat, t ≤ xs.length ∧ c = .int .i64 t ∧ (∀ u, u < t → xs.getD u (0, 0) = ys.getD u (0, 0)) ∧ Below w.heap.size w wr) (fun c _ => xs.length - (intOf c).toNat)
    case atStart => exact ⟨0, by omega, rfl, fun u hu => absurd hu (by omega), Below.refl _ _⟩
    case round =>
      obtain ⟨t, ht, rfl, heq, hb⟩ := hrel
      have HE := hide heq
      have HBW := hide hb
      by_cases hlt : t < xs.length
      · have hA := (unhide HA).below hb
        have hB := (unhide HB).below hb
        obtain ⟨ao', ca', ga, oa, hv, _, _, ha', h1⟩ := hA
        obtain ⟨bo', cb', gb, ob, hv', _, _, hb', h2⟩ := hB
        simp only [Value.slice.injEq, true_and] at hv hv'
        obtain ⟨rfl, rfl⟩ := hv
        obtain ⟨rfl, _, rfl⟩ := hv'
        rw [← unhide HL] at h2 hb'
        obtain rfl := ha' (by omega)
        obtain rfl := hb' (by omega)
        obtain ⟨hx0, hx1⟩ := h1 t hlt
        obtain ⟨hy0, hy1⟩ := h2 t hlt
        obtain ⟨x, ex⟩ : ∃ x, xs.getD t (0, 0) = x := ⟨_, rfl⟩
        obtain ⟨y, ey⟩ : ∃ y, ys.getD t (0, 0) = y := ⟨_, rfl⟩
        rw [ex] at hx0 hx1
        rw [ey] at hy0 hy1
        have HX := hide ex
        have HY := hide ey
        clear h1 h2 ex ey hb heq ha' hb'
        obtain ⟨x0, x1⟩ := x
        obtain ⟨y0, y1⟩ := y
        simp only at hx0 hx1 hy0 hy1
        have hneq := fun w => neq_key x0 x1 y0 y1 w
        go_wp2_with fail
        refine wp_region_held_drew (S := fun w' => w'.cell? ⟨ga, oa + t * 2, none⟩ = some (.int .i32 x0) ∧ w'.cell? ⟨ga, oa + t * 2 + 1, none⟩ = some (.int .i64 x1) ∧ w'.cell? ⟨gb, ob + t * 2, none⟩ = some (.int .i32 y0) ∧ w'.cell? ⟨gb, ob + t * 2 + 1, none⟩ = some (.int .i64 y1)) (by kernel_rfl) ⟨hx0, hx1, hy0, hy1⟩ (fun hHeld => ?_)
        refine wpAnyH_take (i := 0) (v := ?v31x0) rfl (by kernel_rfl) (by kernel_rfl) (by kernel_rfl) (fun _ _ _ h => h) (Or.inl ⟨by rfl, ?hy31x0⟩) (by assumption) ?rest31x0
        case hy31x0 => intro w hSw; obtain ⟨s1, s2, s3, s4⟩ := hSw; go_simp <;> with_reducible rfl
        simp only [Act.put, List.getElem_toArray, List.getElem_cons_zero, List.setIfInBounds_toArray, List.set_cons_zero, List.set_cons_succ]
        refine wpAnyH_take (i := 1) (v := ?v32x1) rfl (by kernel_rfl) (by kernel_rfl) (by kernel_rfl) (fun _ _ _ h => h) (Or.inl ⟨by rfl, ?hy32x1⟩) (by assumption) ?rest32x1
        case hy32x1 => intro w hSw; obtain ⟨s1, s2, s3, s4⟩ := hSw; go_simp <;> with_reducible rfl
        simp only [Act.put, List.getElem_toArray, List.getElem_cons_zero, List.getElem_cons_succ, List.setIfInBounds_toArray, List.set_cons_zero, List.set_cons_succ]
        refine wpAnyH_take (i := 2) (v := ?v33x2) rfl (by kernel_rfl) (by kernel_rfl) (by kernel_rfl) (fun _ _ _ h => h) (Or.inl ⟨by rfl, ?hy33x2⟩) (by assumption) ?rest33x2
        case hy33x2 => intro w hSw; obtain ⟨s1, s2, s3, s4⟩ := hSw; go_simp <;> with_reducible rfl
        simp only [Act.put, List.getElem_toArray, List.getElem_cons_zero, List.getElem_cons_succ, List.setIfInBounds_toArray, List.set_cons_zero, List.set_cons_succ]
        refine wpAnyH_take (i := 3) (v := .agg #[.int .i32 x0, .int .i64 x1]) rfl (by kernel_rfl) (by kernel_rfl) (by kernel_rfl) (fun _ _ _ h => h) (Or.inl ⟨by rfl, ?hy34x3⟩) (by assumption) ?rest34x3
        case hy34x3 => intro w hSw; obtain ⟨s1, s2, s3, s4⟩ := hSw; go_simp <;> with_reducible rfl
        simp only [Act.put, List.getElem_toArray, List.getElem_cons_zero, List.getElem_cons_succ, List.setIfInBounds_toArray, List.set_cons_zero, List.set_cons_succ]
        refine wpAnyH_take (i := 4) (v := ?v35x4) rfl (by kernel_rfl) (by kernel_rfl) (by kernel_rfl) (fun _ _ _ h => h) (Or.inl ⟨by rfl, ?hy35x4⟩) (by assumption) ?rest35x4
        case hy35x4 => intro w hSw; obtain ⟨s1, s2, s3, s4⟩ := hSw; go_simp <;> with_reducible rfl
        simp only [Act.put, List.getElem_toArray, List.getElem_cons_zero, List.getElem_cons_succ, List.setIfInBounds_toArray, List.set_cons_zero, List.set_cons_succ]
        refine wpAnyH_take (i := 5) (v := ?v36x5) rfl (by kernel_rfl) (by kernel_rfl) (by kernel_rfl) (fun _ _ _ h => h) (Or.inl ⟨by rfl, ?hy36x5⟩) (by assumption) ?rest36x5
        case hy36x5 => intro w hSw; obtain ⟨s1, s2, s3, s4⟩ := hSw; go_simp <;> with_reducible rfl
        simp only [Act.put, List.getElem_toArray, List.getElem_cons_zero, List.getElem_cons_succ, List.setIfInBounds_toArray, List.set_cons_zero, List.set_cons_succ]
        refine wpAnyH_take (i := 6) (v := ?v37x6) rfl (by kernel_rfl) (by kernel_rfl) (by kernel_rfl) (fun _ _ _ h => h) (Or.inl ⟨by rfl, ?hy37x6⟩) (by assumption) ?rest37x6
        case hy37x6 => intro w hSw; obtain ⟨s1, s2, s3, s4⟩ := hSw; go_simp <;> with_reducible rfl
        simp only [Act.put, List.getElem_toArray, List.getElem_cons_zero, List.getElem_cons_succ, List.setIfInBounds_toArray, List.set_cons_zero, List.set_cons_succ]
        refine wpAnyH_take (i := 7) (v := .agg #[.int .i32 y0, .int .i64 y1]) rfl (by kernel_rfl) (by kernel_rfl) (by kernel_rfl) (fun _ _ _ h => h) (Or.inl ⟨by rfl, ?hy38x7⟩) (by assumption) ?rest38x7
        case hy38x7 => intro w hSw; obtain ⟨s1, s2, s3, s4⟩ := hSw; go_simp <;> with_reducible rfl
        simp only [Act.put, List.getElem_toArray, List.getElem_cons_zero, List.getElem_cons_succ, List.setIfInBounds_toArray, List.set_cons_zero, List.set_cons_succ]
        by_cases hxy : (x0, x1) = (y0, y1)
        · have hxb : decide ((x0, x1) = (y0, y1)) = true := by simp [hxy]
          refine wpAnyH_take (i := 8) (v := .bool false) rfl (by kernel_rfl) (by kernel_rfl) (by kernel_rfl) (fun _ _ _ h => h) (Or.inl ⟨by rfl, ?hy39x8⟩) (by assumption) ?rest39x8
          case hy39x8 => intro w hSw; obtain ⟨s1, s2, s3, s4⟩ := hSw; go_simp <;> with_reducible rfl
          simp only [Act.put, List.getElem_toArray, List.getElem_cons_zero, List.getElem_cons_succ, List.setIfInBounds_toArray, List.set_cons_zero, List.set_cons_succ]
          refine wpAnyH_done (by kernel_rfl) ?_ _
          go_wp2
          go_roundw
          case rel =>
            refine ⟨t + 1, by omega, by go_num, fun u hu => ?_, (unhide HBW).drew⟩
            by_cases hut : u < t
            · exact unhide HE u hut
            · obtain rfl : u = t := by omega
              rw [unhide HX, unhide HY, hxy]
          case measure => simp [intOf]; omega
        · have hxb : decide ((x0, x1) = (y0, y1)) = false := by simp [hxy]
          refine wpAnyH_take (i := 8) (v := .bool true) rfl (by kernel_rfl) (by kernel_rfl) (by kernel_rfl) (fun _ _ _ h => h) (Or.inl ⟨by rfl, ?hy40x8⟩) (by assumption) ?rest40x8
          case hy40x8 => intro w hSw; obtain ⟨s1, s2, s3, s4⟩ := hSw; go_simp <;> with_reducible rfl
          simp only [Act.put, List.getElem_toArray, List.getElem_cons_zero, List.getElem_cons_succ, List.setIfInBounds_toArray, List.set_cons_zero, List.set_cons_succ]
          refine wpAnyH_done (by kernel_rfl) ?_ _
          go_wp2
          go_ret
          refine ⟨retBool ?_, (unhide HBW).drew⟩
          rw [eq_comm, decide_eq_false_iff_not]
          exact list_differ (d := (0, 0)) (t := t) (by rw [unhide HX, unhide HY]; exact hxy)
      · clear hb heq
        go_wp2
        go_ret
        refine ⟨retBool ?_, unhide HBW⟩
        rw [eq_comm, decide_eq_true_iff]
        exact list_alike (d := (0, 0)) (unhide HL) (fun u hu => unhide HE u (by omega))
  · have hd : decide (xs = ys) = false := by rw [decide_eq_false_iff_not]; exact fun e => hl (by rw [e])
    rw [hd]
    go_enter Try.func45, Try.ntmps45
    go_wp2
    go_ret
    exact ⟨rfl, Below.refl _ _⟩

end Go.Proofs.Ytoddemcmmijoaaa
