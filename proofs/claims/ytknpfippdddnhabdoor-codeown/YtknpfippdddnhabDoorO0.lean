/- bytes.Clone; instructions that are the same; SameInstrs of what is the same. -/
import Derived.Test.YtknpfippdddnhabDoorU6
import Derived.Test.YtknpfippdddnhabDoorZ1
import Derived.Lib.SliceRun
namespace Go.Proofs.YtknpfippdddnhabDoor
open Go.RowKit Go.Shelf
set_option maxRecDepth 100000
theorem own_empty (w : World) : (w.alloc (.cells #[] 5)).ownsRow w.heap.size 5 1 (.slice (some ⟨w.heap.size, 0, none⟩) 0 0) 0 (([] : List Int).flatMap yC) := by
  refine ⟨rfl, .inr ⟨w.heap.size, 0, #[], rfl, Nat.le_refl _, heap_alloc_new w _, Nat.le_refl _, by decide, rfl, rfl⟩⟩
set_option maxHeartbeats 400000 in
/-- bytes.Clone. -/
theorem clone_any {w : World} {v : Value} {l : List Int} (hs : SeesL yC 1 w v l) (hm : l.length ≤ 140737488355328) :
    Calls Tryd.prog 4 #[v] w fun e w' => ∃ x, e = .returned x ∧ w'.ownsRow w.heap.size 5 1 x l.length (l.flatMap yC) ∧ Below w.heap.size w w' := by
  obtain ⟨ao, cap, gb, ob, rfl, h2, h3, h4, h5, h6⟩ := id hs
  have hE := fun (w : World) a n c => Lib.run_eql_slice_nil (P := Tryd.prog) w 22 5 a n c 0 0 Tryd.underlying22
  cases ao with
  | none =>
    obtain rfl := h4 rfl
    obtain rfl : l = [] := List.length_eq_zero_iff.1 (by omega)
    clear hs h5 h6
    go_enter Tryd.func4, Tryd.ntmps4
    go_wp2
    go_ret
    exact ⟨_, rfl, own_nil _ _ _ _, Below.refl _ _⟩
  | some ad =>
    obtain ⟨ao, cp, w', h1, ho, hb⟩ := rtY.app (base := w.heap.size) 22 (own_empty w) (hs.below yC_len (below_box (.cells #[] 5))) (by omega) (by omega) (by simp)
    have HB : Hid (Below w.heap.size w w') := (below_box _).trans hb
    have HO := hide ho
    have H1 := hide h1
    generalize l.length = n at *
    clear hs h5 h6 h4 ho h1 hb
    go_enter Tryd.func4, Tryd.ntmps4
    go_wp2_with ((with_reducible show wpList _ _ _ (⟨some 7, _, _, _, _, _⟩ :: _) _ _); refine wpList_append_wanted (by rfl) _ _ 22 rfl rfl rfl (unhide H1) ?_)
    go_ret
    have ho := unhide HO
    rw [Nat.zero_add, List.nil_append] at ho
    exact ⟨_, rfl, ho, unhide HB⟩
theorem eq_ins (d : Nat) (x y : Ins) (w : World) : (Op.equalIn (d + 3) 35 (iW x) (iW y)).run Tryd.prog w = .ok (decide (x = y)) w := by
  obtain ⟨x0, x1, x2, x3, x4⟩ := x
  obtain ⟨y0, y1, y2, y3, y4⟩ := y
  have hS : Tryd.prog.underlying 35 = some (.struct (Tryd.prog.fieldsOf 35)) := by kernel_rfl
  have hp : Tryd.prog.stoodInHeld 35 = false := by kernel_rfl
  have h2 := fun (w : World) (x y : Int) => run_equalIn_int (P := Tryd.prog) w (d + 1) 2 .i64 .i64 x y Tryd.underlying2
  have h3 := fun (w : World) (x y : Int) => run_equalIn_int (P := Tryd.prog) w (d + 1) 3 .i64 .i64 x y Tryd.underlying3
  have hp0 : ∀ w (a b c e f : Int), (part 3 #[.int .i64 a, .int .i64 b, .int .i64 c, .int .i64 e, .int .i64 f] 0).run Tryd.prog w = .ok (.int .i64 a) w := fun w a b c e f => by simp [part, go_sem]
  have hp1 : ∀ w (a b c e f : Int), (part 3 #[.int .i64 a, .int .i64 b, .int .i64 c, .int .i64 e, .int .i64 f] 1).run Tryd.prog w = .ok (.int .i64 b) w := fun w a b c e f => by simp [part, go_sem]
  have hp2 : ∀ w (a b c e f : Int), (part 3 #[.int .i64 a, .int .i64 b, .int .i64 c, .int .i64 e, .int .i64 f] 2).run Tryd.prog w = .ok (.int .i64 c) w := fun w a b c e f => by simp [part, go_sem]
  have hp3 : ∀ w (a b c e f : Int), (part 3 #[.int .i64 a, .int .i64 b, .int .i64 c, .int .i64 e, .int .i64 f] 3).run Tryd.prog w = .ok (.int .i64 e) w := fun w a b c e f => by simp [part, go_sem]
  have hp4 : ∀ w (a b c e f : Int), (part 2 #[.int .i64 a, .int .i64 b, .int .i64 c, .int .i64 e, .int .i64 f] 4).run Tryd.prog w = .ok (.int .i64 f) w := fun w a b c e f => by simp [part, go_sem]
  rw [show d + 3 = (d + 2) + 1 from rfl, run_equalIn_struct w (d + 2) 35 _ _ hS hp]
  simp only [Program.fieldsOf, Tryd.underlying35]
  by_cases e0 : x0 = y0 <;> by_cases e1 : x1 = y1 <;> by_cases e2 : x2 = y2 <;> by_cases e3 : x3 = y3 <;> by_cases e4 : x4 = y4 <;> simp [Op.eqFields, hp0, hp1, hp2, hp3, hp4, h2, h3, e0, e1, e2, e3, e4]
theorem neq_ins (x y : Ins) (w : World) : (binOp .neq 35 (iW x) (iW y)).run Tryd.prog w = .ok (.bool (!decide (x = y))) w := by
  rw [run_neq_struct, show (10000 : Nat) = 9997 + 3 from rfl, eq_ins]
  rfl

set_option maxHeartbeats 1600000 in
theorem same_yes {w : World} {u v : Value} {L : List Ins} (ha : SeesL iC 5 w u L) (hb : SeesL iC 5 w v L) (hm : L.length ≤ 3518437208883) : Calls Tryd.prog 11 #[u, v] w fun e w' => e = .returned (.bool true) ∧ Below w.heap.size w w' := by
  have HA := hide ha
  have HB := hide hb
  obtain ⟨ao, cap, rfl⟩ := ha.shape
  obtain ⟨bo, bap, rfl⟩ := hb.shape
  obtain ⟨k, hk⟩ : ∃ k, L.length = k := ⟨_, rfl⟩
  rw [hk] at HA HB hm ⊢
  have HK := hide hk
  have hkk : ((k : Int) != (k : Int)) = false := by simp
  clear ha hb hk
  go_enter Tryd.func11, Tryd.ntmps11
  go_wp2
  go_loopw [5] (fun c z => ∃ t : Nat, t ≤ k ∧ c = .int .i64 t ∧ Below w.heap.size w z) (fun c _ => k - (intOf c).toNat)
  case atStart => exact ⟨0, Nat.zero_le _, rfl, Below.refl _ _⟩
  case round =>
    obtain ⟨t, ht, rfl, hB⟩ := hrel
    have HBZ := hide hB
    by_cases hlt : t < k
    · obtain ⟨x, hx⟩ : ∃ x, L[t]? = some x := ⟨_, List.getElem?_eq_getElem (by rw [unhide HK]; exact hlt)⟩
      obtain ⟨ao', cap', g, o, hv2, _, hao, hc⟩ := ((unhide HA).below iC_len hB).ins
      simp only [Value.slice.injEq] at hv2
      obtain ⟨rfl, -, rfl⟩ := hv2
      obtain rfl := hao (by rw [unhide HK]; omega)
      obtain ⟨bo', bap', h, q, hv3, _, hbo, hd⟩ := ((unhide HB).below iC_len hB).ins
      simp only [Value.slice.injEq] at hv3
      obtain ⟨rfl, -, rfl⟩ := hv3
      obtain rfl := hbo (by rw [unhide HK]; omega)
      have HD := hide (And.intro (hc t x hx) (hd t x hx))
      have hi0 : (0 : Int) ≤ (t : Int) := by omega
      have hi1 : (t : Int) < (k : Int) := by omega
      have hnq := fun z => neq_ins x x z
      simp only [decide_true, Bool.not_true] at hnq
      clear hc hd hx hB
      obtain ⟨xd, xo, xa, xb, xm⟩ := x
      go_wp2
      refine wp_region_held_drew (S := fun z => (z.cell? ⟨g, o + t * 5, none⟩ = some (.int .i64 xd) ∧ z.cell? ⟨g, o + t * 5 + 1, none⟩ = some (.int .i64 xo) ∧ z.cell? ⟨g, o + t * 5 + 2, none⟩ = some (.int .i64 xa) ∧ z.cell? ⟨g, o + t * 5 + 3, none⟩ = some (.int .i64 xb) ∧ z.cell? ⟨g, o + t * 5 + 4, none⟩ = some (.int .i64 xm)) ∧ z.cell? ⟨h, q + t * 5, none⟩ = some (.int .i64 xd) ∧ z.cell? ⟨h, q + t * 5 + 1, none⟩ = some (.int .i64 xo) ∧ z.cell? ⟨h, q + t * 5 + 2, none⟩ = some (.int .i64 xa) ∧ z.cell? ⟨h, q + t * 5 + 3, none⟩ = some (.int .i64 xb) ∧ z.cell? ⟨h, q + t * 5 + 4, none⟩ = some (.int .i64 xm)) (by kernel_rfl) (unhide HD) (fun hHeld => ?_)
      refine wpAnyH_take (i := 0) (v := ?v1) rfl (by kernel_rfl) (by kernel_rfl) (by kernel_rfl) (fun _ _ _ h => h) (Or.inl ⟨by rfl, ?hy1⟩) (by assumption) ?rest1
      case hy1 => intro w hSw; obtain ⟨⟨s0, s1, s2, s3, s4⟩, s5, s6, s7, s8, s9⟩ := hSw; go_simp <;> with_reducible rfl
      simp only [Act.put, List.getElem_toArray, List.getElem_cons_zero, List.setIfInBounds_toArray, List.set_cons_zero, List.set_cons_succ]
      refine wpAnyH_take (i := 1) (v := ?v2) rfl (by kernel_rfl) (by kernel_rfl) (by kernel_rfl) (fun _ _ _ h => h) (Or.inl ⟨by rfl, ?hy2⟩) (by assumption) ?rest2
      case hy2 => intro w hSw; obtain ⟨⟨s0, s1, s2, s3, s4⟩, s5, s6, s7, s8, s9⟩ := hSw; go_simp <;> with_reducible rfl
      simp only [Act.put, List.getElem_toArray, List.getElem_cons_zero, List.getElem_cons_succ, List.setIfInBounds_toArray, List.set_cons_zero, List.set_cons_succ]
      refine wpAnyH_take (i := 2) (v := ?v3) rfl (by kernel_rfl) (by kernel_rfl) (by kernel_rfl) (fun _ _ _ h => h) (Or.inl ⟨by rfl, ?hy3⟩) (by assumption) ?rest3
      case hy3 => intro w hSw; obtain ⟨⟨s0, s1, s2, s3, s4⟩, s5, s6, s7, s8, s9⟩ := hSw; go_simp <;> with_reducible rfl
      simp only [Act.put, List.getElem_toArray, List.getElem_cons_zero, List.getElem_cons_succ, List.setIfInBounds_toArray, List.set_cons_zero, List.set_cons_succ]
      refine wpAnyH_take (i := 3) (v := ?v4) rfl (by kernel_rfl) (by kernel_rfl) (by kernel_rfl) (fun _ _ _ h => h) (Or.inl ⟨by rfl, ?hy4⟩) (by assumption) ?rest4
      case hy4 => intro w hSw; obtain ⟨⟨s0, s1, s2, s3, s4⟩, s5, s6, s7, s8, s9⟩ := hSw; go_simp <;> with_reducible rfl
      simp only [Act.put, List.getElem_toArray, List.getElem_cons_zero, List.getElem_cons_succ, List.setIfInBounds_toArray, List.set_cons_zero, List.set_cons_succ]
      refine wpAnyH_take (i := 4) (v := ?v5) rfl (by kernel_rfl) (by kernel_rfl) (by kernel_rfl) (fun _ _ _ h => h) (Or.inl ⟨by rfl, ?hy5⟩) (by assumption) ?rest5
      case hy5 => intro w hSw; obtain ⟨⟨s0, s1, s2, s3, s4⟩, s5, s6, s7, s8, s9⟩ := hSw; go_simp <;> with_reducible rfl
      simp only [Act.put, List.getElem_toArray, List.getElem_cons_zero, List.getElem_cons_succ, List.setIfInBounds_toArray, List.set_cons_zero, List.set_cons_succ]
      refine wpAnyH_take (i := 5) (v := ?v6) rfl (by kernel_rfl) (by kernel_rfl) (by kernel_rfl) (fun _ _ _ h => h) (Or.inl ⟨by rfl, ?hy6⟩) (by assumption) ?rest6
      case hy6 => intro w hSw; obtain ⟨⟨s0, s1, s2, s3, s4⟩, s5, s6, s7, s8, s9⟩ := hSw; go_simp <;> with_reducible rfl
      simp only [Act.put, List.getElem_toArray, List.getElem_cons_zero, List.getElem_cons_succ, List.setIfInBounds_toArray, List.set_cons_zero, List.set_cons_succ]
      refine wpAnyH_take (i := 6) (v := ?v7) rfl (by kernel_rfl) (by kernel_rfl) (by kernel_rfl) (fun _ _ _ h => h) (Or.inl ⟨by rfl, ?hy7⟩) (by assumption) ?rest7
      case hy7 => intro w hSw; obtain ⟨⟨s0, s1, s2, s3, s4⟩, s5, s6, s7, s8, s9⟩ := hSw; go_simp <;> with_reducible rfl
      simp only [Act.put, List.getElem_toArray, List.getElem_cons_zero, List.getElem_cons_succ, List.setIfInBounds_toArray, List.set_cons_zero, List.set_cons_succ]
      refine wpAnyH_take (i := 7) (v := ?v8) rfl (by kernel_rfl) (by kernel_rfl) (by kernel_rfl) (fun _ _ _ h => h) (Or.inl ⟨by rfl, ?hy8⟩) (by assumption) ?rest8
      case hy8 => intro w hSw; obtain ⟨⟨s0, s1, s2, s3, s4⟩, s5, s6, s7, s8, s9⟩ := hSw; go_simp <;> with_reducible rfl
      simp only [Act.put, List.getElem_toArray, List.getElem_cons_zero, List.getElem_cons_succ, List.setIfInBounds_toArray, List.set_cons_zero, List.set_cons_succ]
      refine wpAnyH_take (i := 8) (v := .bool false) rfl (by kernel_rfl) (by kernel_rfl) (by kernel_rfl) (fun _ _ _ h => h) (Or.inl ⟨by rfl, ?hy9⟩) (by assumption) ?rest9
      case hy9 => intro w hSw; obtain ⟨⟨s0, s1, s2, s3, s4⟩, s5, s6, s7, s8, s9⟩ := hSw; go_simp <;> with_reducible rfl
      simp only [Act.put, List.getElem_toArray, List.getElem_cons_zero, List.getElem_cons_succ, List.setIfInBounds_toArray, List.set_cons_zero, List.set_cons_succ]
      refine wpAnyH_done (by kernel_rfl) ?_ _
      clear hHeld HD hnq
      go_wp2
      go_roundw
      case rel => exact ⟨t + 1, by omega, by go_num, (unhide HBZ).drew⟩
      case measure => simp [intOf]; omega
    · have hge : ¬ (t : Int) < (k : Int) := by omega
      clear hB
      go_wp2
      go_ret
      exact ⟨rfl, unhide HBZ⟩
end Go.Proofs.YtknpfippdddnhabDoor
