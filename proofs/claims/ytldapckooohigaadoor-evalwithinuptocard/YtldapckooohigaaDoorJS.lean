/- Several texts as one. -/
import Derived.Test.YtldapckooohigaaDoorChecked
import Derived.Test.YtldapckooohigaaDoorJP
import Derived.Laws.OwnMore

/- Keys in order: cmp.Compare, cmp.Or, shard.Compare and the document's Compare. -/
namespace Go.Proofs.YtldapckooohigaaDoor
open Go.RowKit
set_option maxRecDepth 100000

/-- Which of two comes first: -1, 0, 1. -/
def cmpI (a b : Int) : Int := if a < b then -1 else if b < a then 1 else 0

theorem nan32 (a : Int) (w : World) : Calls Tryd.prog 81 #[.int .i32 a] w fun e w' => e = .returned (.bool false) ∧ w = w' := by
  go_enter Tryd.func81, Tryd.ntmps81
  go_wp2
  go_ret
  exact ⟨retBool (by simp), rfl⟩
theorem nan64 (a : Int) (w : World) : Calls Tryd.prog 82 #[.int .i64 a] w fun e w' => e = .returned (.bool false) ∧ w = w' := by
  go_enter Tryd.func82, Tryd.ntmps82
  go_wp2
  go_ret
  exact ⟨retBool (by simp), rfl⟩
theorem cmp32 (a b : Int) (w : World) : Calls Tryd.prog 58 #[.int .i32 a, .int .i32 b] w fun e w' => e = .returned (.int .i64 (cmpI a b)) ∧ w = w' := by
  unfold cmpI
  by_cases h1 : a < b
  · rw [if_pos h1]
    go_enter Tryd.func58, Tryd.ntmps58
    go_wp2_with (go_at_call 81; refine (nan32 _ _).mono ?_; rintro e w' ⟨rfl, rfl⟩)
    go_ret
    exact ⟨rfl, rfl⟩
  · rw [if_neg h1]
    by_cases h2 : b < a
    · rw [if_pos h2]
      go_enter Tryd.func58, Tryd.ntmps58
      go_wp2_with (go_at_call 81; refine (nan32 _ _).mono ?_; rintro e w' ⟨rfl, rfl⟩)
      go_ret
      exact ⟨rfl, rfl⟩
    · rw [if_neg h2]
      go_enter Tryd.func58, Tryd.ntmps58
      go_wp2_with (go_at_call 81; refine (nan32 _ _).mono ?_; rintro e w' ⟨rfl, rfl⟩)
      go_ret
      exact ⟨rfl, rfl⟩
theorem cmp64 (a b : Int) (w : World) : Calls Tryd.prog 59 #[.int .i64 a, .int .i64 b] w fun e w' => e = .returned (.int .i64 (cmpI a b)) ∧ w = w' := by
  unfold cmpI
  by_cases h1 : a < b
  · rw [if_pos h1]
    go_enter Tryd.func59, Tryd.ntmps59
    go_wp2_with (go_at_call 82; refine (nan64 _ _).mono ?_; rintro e w' ⟨rfl, rfl⟩)
    go_ret
    exact ⟨rfl, rfl⟩
  · rw [if_neg h1]
    by_cases h2 : b < a
    · rw [if_pos h2]
      go_enter Tryd.func59, Tryd.ntmps59
      go_wp2_with (go_at_call 82; refine (nan64 _ _).mono ?_; rintro e w' ⟨rfl, rfl⟩)
      go_ret
      exact ⟨rfl, rfl⟩
    · rw [if_neg h2]
      go_enter Tryd.func59, Tryd.ntmps59
      go_wp2_with (go_at_call 82; refine (nan64 _ _).mono ?_; rintro e w' ⟨rfl, rfl⟩)
      go_ret
      exact ⟨rfl, rfl⟩

/-- cmp.Or of two. -/
theorem or2 (b : Nat) (x y : Int) (w : World) (c0 : w.cell? ⟨b, 0, none⟩ = some (.int .i64 x)) (c1 : w.cell? ⟨b, 1, none⟩ = some (.int .i64 y)) :
    Calls Tryd.prog 57 #[.slice (some ⟨b, 0, none⟩) 2 2] w fun e w' => e = .returned (.int .i64 (if x = 0 then y else x)) ∧ w = w' := by
  go_enter Tryd.func57, Tryd.ntmps57
  go_wp2
  go_loopw [8] (fun c wr => ∃ t : Nat, t ≤ 2 ∧ c = .int .i64 t ∧ wr = w ∧ (1 ≤ t → x = 0) ∧ (2 ≤ t → y = 0)) (fun c _ => 2 - (intOf c).toNat)
  case atStart => exact ⟨0, by omega, rfl, rfl, by omega, by omega⟩
  case round =>
    obtain ⟨t, ht, rfl, rfl, h1, h2⟩ := hrel
    rcases (by omega : t = 0 ∨ t = 1 ∨ t = 2) with rfl | rfl | rfl
    · clear h1 h2
      by_cases hx : x = 0
      · go_wp2
        go_roundw
        case rel => exact ⟨1, by omega, rfl, trivial, fun _ => hx, fun h => absurd h (by omega)⟩
        case measure => simp [intOf]
      · go_wp2
        go_ret
        exact ⟨retInt (by simp), rfl⟩
    · have hx := h1 (by omega)
      clear h1 h2
      by_cases hy : y = 0
      · go_wp2
        go_roundw
        case rel => exact ⟨2, by omega, rfl, trivial, fun _ => hx, fun _ => hy⟩
        case measure => simp [intOf]
      · go_wp2
        go_ret
        exact ⟨retInt (by simp), rfl⟩
    · have hx := h1 (by omega)
      have hy := h2 (by omega)
      clear h1 h2
      go_wp2
      go_ret
      exact ⟨retInt (by simp), rfl⟩
def keyC (k : Int × Int) : Array Value := #[.int .i32 k.1, .int .i64 k.2]
def cmpK (a b : Int × Int) : Int := if cmpI a.1 b.1 = 0 then cmpI a.2 b.2 else cmpI a.1 b.1
def lessK (a b : Int × Int) : Bool := decide (a.1 < b.1 ∨ (a.1 = b.1 ∧ a.2 < b.2))

set_option maxHeartbeats 1600000 in
theorem compare_any (a0 a1 b0 b1 : Int) (w : World) :
    Calls Tryd.prog 47 #[.agg #[.int .i32 a0, .int .i64 a1], .agg #[.int .i32 b0, .int .i64 b1]] w fun e w' => e = .returned (.int .i64 (cmpK (a0, a1) (b0, b1))) ∧ Grew w w' := by
  have HC : Hid (∀ w' : World, Below (w.heap.size + 2) ((w.alloc (.cells #[.int .i32 a0, .int .i64 a1] 38)).alloc (.cells #[.int .i32 b0, .int .i64 b1] 38)) w' → w'.cell? ⟨w.heap.size, 0, none⟩ = some (.int .i32 a0) ∧ w'.cell? ⟨w.heap.size, 1, none⟩ = some (.int .i64 a1) ∧ w'.cell? ⟨w.heap.size + 1, 0, none⟩ = some (.int .i32 b0) ∧ w'.cell? ⟨w.heap.size + 1, 1, none⟩ = some (.int .i64 b1)) := fun w' hb => by
    have e : (w.alloc (.cells #[.int .i32 a0, .int .i64 a1] 38)).heap.size = w.heap.size + 1 := by simp
    refine ⟨?_, ?_, ?_, ?_⟩
    · rw [hb.cell (p := ⟨w.heap.size, 0, none⟩) (by simp), World.cell?_alloc_lt _ _ _ (by simp), World.cell?_alloc_new]; rfl
    · rw [hb.cell (p := ⟨w.heap.size, 1, none⟩) (by simp), World.cell?_alloc_lt _ _ _ (by simp), World.cell?_alloc_new]; rfl
    · rw [hb.cell (p := ⟨w.heap.size + 1, 0, none⟩) (by simp), ← e, World.cell?_alloc_new]; rfl
    · rw [hb.cell (p := ⟨w.heap.size + 1, 1, none⟩) (by simp), ← e, World.cell?_alloc_new]; rfl
  go_enter Tryd.func47, Tryd.ntmps47
  go_wp2_with fail
  have HS := hide (unhide HC _ (Below.refl (w.heap.size + 2) _).drew)
  refine wp_region_held_drew (S := fun w' => w'.cell? ⟨w.heap.size, 0, none⟩ = some (.int .i32 a0) ∧ w'.cell? ⟨w.heap.size, 1, none⟩ = some (.int .i64 a1) ∧ w'.cell? ⟨w.heap.size + 1, 0, none⟩ = some (.int .i32 b0) ∧ w'.cell? ⟨w.heap.size + 1, 1, none⟩ = some (.int .i64 b1)) (by kernel_rfl) (unhide HS) (fun hHeld => ?_)
  refine wpAnyH_take (i := 0) (v := ?v1x0) rfl (by kernel_rfl) (by kernel_rfl) (by kernel_rfl) (fun _ _ _ h => h) (Or.inl ⟨by rfl, ?hy1x0⟩) (by assumption) ?rest1x0
  case hy1x0 => intro w hSw; obtain ⟨s1, s2, s3, s4⟩ := hSw; go_simp <;> with_reducible rfl
  simp only [Act.put, List.getElem_toArray, List.getElem_cons_zero, List.setIfInBounds_toArray, List.set_cons_zero, List.set_cons_succ]
  refine wpAnyH_take (i := 1) (v := .int .i32 a0) rfl (by kernel_rfl) (by kernel_rfl) (by kernel_rfl) (fun _ _ _ h => h) (Or.inl ⟨by rfl, ?hy2x1⟩) (by assumption) ?rest2x1
  case hy2x1 => intro w hSw; obtain ⟨s1, s2, s3, s4⟩ := hSw; go_simp <;> with_reducible rfl
  simp only [Act.put, List.getElem_toArray, List.getElem_cons_zero, List.getElem_cons_succ, List.setIfInBounds_toArray, List.set_cons_zero, List.set_cons_succ]
  refine wpAnyH_take (i := 2) (v := ?v3x2) rfl (by kernel_rfl) (by kernel_rfl) (by kernel_rfl) (fun _ _ _ h => h) (Or.inl ⟨by rfl, ?hy3x2⟩) (by assumption) ?rest3x2
  case hy3x2 => intro w hSw; obtain ⟨s1, s2, s3, s4⟩ := hSw; go_simp <;> with_reducible rfl
  simp only [Act.put, List.getElem_toArray, List.getElem_cons_zero, List.getElem_cons_succ, List.setIfInBounds_toArray, List.set_cons_zero, List.set_cons_succ]
  refine wpAnyH_take (i := 3) (v := .int .i32 b0) rfl (by kernel_rfl) (by kernel_rfl) (by kernel_rfl) (fun _ _ _ h => h) (Or.inl ⟨by rfl, ?hy4x3⟩) (by assumption) ?rest4x3
  case hy4x3 => intro w hSw; obtain ⟨s1, s2, s3, s4⟩ := hSw; go_simp <;> with_reducible rfl
  simp only [Act.put, List.getElem_toArray, List.getElem_cons_zero, List.getElem_cons_succ, List.setIfInBounds_toArray, List.set_cons_zero, List.set_cons_succ]
  refine wpAnyH_take (i := 5) (v := ?v5x5) rfl (by kernel_rfl) (by kernel_rfl) (by kernel_rfl) (fun _ _ _ h => h) (Or.inl ⟨by rfl, ?hy5x5⟩) (by assumption) ?rest5x5
  case hy5x5 => intro w hSw; obtain ⟨s1, s2, s3, s4⟩ := hSw; go_simp <;> with_reducible rfl
  simp only [Act.put, List.getElem_toArray, List.getElem_cons_zero, List.getElem_cons_succ, List.setIfInBounds_toArray, List.set_cons_zero, List.set_cons_succ]
  refine wpAnyH_take (i := 6) (v := .int .i64 a1) rfl (by kernel_rfl) (by kernel_rfl) (by kernel_rfl) (fun _ _ _ h => h) (Or.inl ⟨by rfl, ?hy6x6⟩) (by assumption) ?rest6x6
  case hy6x6 => intro w hSw; obtain ⟨s1, s2, s3, s4⟩ := hSw; go_simp <;> with_reducible rfl
  simp only [Act.put, List.getElem_toArray, List.getElem_cons_zero, List.getElem_cons_succ, List.setIfInBounds_toArray, List.set_cons_zero, List.set_cons_succ]
  refine wpAnyH_take (i := 7) (v := ?v7x7) rfl (by kernel_rfl) (by kernel_rfl) (by kernel_rfl) (fun _ _ _ h => h) (Or.inl ⟨by rfl, ?hy7x7⟩) (by assumption) ?rest7x7
  case hy7x7 => intro w hSw; obtain ⟨s1, s2, s3, s4⟩ := hSw; go_simp <;> with_reducible rfl
  simp only [Act.put, List.getElem_toArray, List.getElem_cons_zero, List.getElem_cons_succ, List.setIfInBounds_toArray, List.set_cons_zero, List.set_cons_succ]
  refine wpAnyH_take (i := 8) (v := .int .i64 b1) rfl (by kernel_rfl) (by kernel_rfl) (by kernel_rfl) (fun _ _ _ h => h) (Or.inl ⟨by rfl, ?hy8x8⟩) (by assumption) ?rest8x8
  case hy8x8 => intro w hSw; obtain ⟨s1, s2, s3, s4⟩ := hSw; go_simp <;> with_reducible rfl
  simp only [Act.put, List.getElem_toArray, List.getElem_cons_zero, List.getElem_cons_succ, List.setIfInBounds_toArray, List.set_cons_zero, List.set_cons_succ]
  refine wpAnyH_ready (rs := [4]) (by kernel_rfl) (by simp) ?_
  refine AllReadyH.cons rfl (fun K hK => ?_) AllReadyH.nil
  go_simp
  refine (cmp32 a0 b0 _).mono ?_
  rintro e wq ⟨rfl, rfl⟩
  refine hK _ _ (by assumption) ?_
  clear hK hHeld
  intro hHeld
  refine wpAnyH_ready (rs := [9]) (by kernel_rfl) (by simp) ?_
  refine AllReadyH.cons rfl (fun K hK => ?_) AllReadyH.nil
  go_simp
  refine (cmp64 a1 b1 _).mono ?_
  rintro e wq ⟨rfl, rfl⟩
  refine hK _ _ (by assumption) ?_
  clear hK hHeld
  intro hHeld
  refine wpAnyH_ready (rs := [10]) (by kernel_rfl) (by simp) ?_
  refine AllReadyH.cons rfl (fun K hK => ?_) AllReadyH.nil
  go_simp
  refine hK _ _ (unhide HC _ ((Below.refl (w.heap.size + 2) _).alloc (by simp) _).drew) ?_
  clear hK hHeld
  intro hHeld
  have HO := hide (or2 (w.heap.size + 1 + 1) (cmpI a0 b0) (cmpI a1 b1) ((((w.alloc (.cells #[.int .i32 a0, .int .i64 a1] 38)).alloc (.cells #[.int .i32 b0, .int .i64 b1] 38)).alloc (.cells #[.int .i64 (cmpI a0 b0), .int .i64 (cmpI a1 b1)] 3)).drew)
    (by have := World.cell?_alloc_new ((w.alloc (.cells #[.int .i32 a0, .int .i64 a1] 38)).alloc (.cells #[.int .i32 b0, .int .i64 b1] 38)) #[.int .i64 (cmpI a0 b0), .int .i64 (cmpI a1 b1)] 3 0; simpa using this)
    (by have := World.cell?_alloc_new ((w.alloc (.cells #[.int .i32 a0, .int .i64 a1] 38)).alloc (.cells #[.int .i32 b0, .int .i64 b1] 38)) #[.int .i64 (cmpI a0 b0), .int .i64 (cmpI a1 b1)] 3 1; simpa using this))
  obtain ⟨r, hr⟩ : ∃ r, (if cmpI a0 b0 = 0 then cmpI a1 b1 else cmpI a0 b0) = r := ⟨_, rfl⟩
  rw [hr] at HO
  have HR := hide hr
  clear hr
  refine wpAnyH_ready (rs := [11]) (by kernel_rfl) (by simp) ?_
  refine AllReadyH.cons rfl (fun K hK => ?_) AllReadyH.nil
  go_simp
  refine (unhide HO).mono ?_
  rintro e wq ⟨rfl, rfl⟩
  refine hK _ _ (by assumption) ?_
  clear hK hHeld
  intro hHeld
  refine wpAnyH_take (i := 12) (v := ?v9x12) rfl (by kernel_rfl) (by kernel_rfl) (by kernel_rfl) (fun _ _ _ h => h) (Or.inl ⟨by rfl, ?hy9x12⟩) (by assumption) ?rest9x12
  case hy9x12 => intro w hSw; obtain ⟨s1, s2, s3, s4⟩ := hSw; go_simp <;> with_reducible rfl
  simp only [Act.put, List.getElem_toArray, List.getElem_cons_zero, List.getElem_cons_succ, List.setIfInBounds_toArray, List.set_cons_zero, List.set_cons_succ]
  refine wpAnyH_done (by kernel_rfl) ?_ _
  go_wp2
  go_ret
  exact ⟨retInt (unhide HR).symm, grew_drew (grew_alloc (grew_alloc (grew_alloc (grew_refl _) _) _) _)⟩


theorem eq_keyS (d : Nat) (x0 x1 y0 y1 : Int) (w : World) : (Op.equalIn (d + 2) 38 (.agg #[.int .i32 x0, .int .i64 x1]) (.agg #[.int .i32 y0, .int .i64 y1])).run Tryd.prog w = .ok ((x0 == y0) && (x1 == y1)) w := by
  have hS : Tryd.prog.underlying 38 = some (.struct (Tryd.prog.fieldsOf 38)) := by kernel_rfl
  have hp : Tryd.prog.stoodInHeld 38 = false := by kernel_rfl
  rw [show d + 2 = (d + 1) + 1 from rfl, run_equalIn_struct w (d + 1) 38 _ _ hS hp]
  simp only [Program.fieldsOf, Tryd.underlying38]
  by_cases h1 : x0 = y0 <;> by_cases h2 : x1 = y1 <;> simp [Op.eqFields, part, go_sem, h1, h2]
theorem neq_key (x0 x1 y0 y1 : Int) (w : World) : (binOp .neq 38 (.agg #[.int .i32 x0, .int .i64 x1]) (.agg #[.int .i32 y0, .int .i64 y1])).run Tryd.prog w = .ok (.bool (!decide ((x0, x1) = (y0, y1)))) w := by
  rw [run_neq_struct, show (10000 : Nat) = 9998 + 2 from rfl, eq_keyS]
  by_cases h1 : x0 = y0 <;> by_cases h2 : x1 = y1 <;> simp [h1, h2, Result.andThen]
theorem eql_key (x0 x1 y0 y1 : Int) (w : World) : (binOp .eql 38 (.agg #[.int .i32 x0, .int .i64 x1]) (.agg #[.int .i32 y0, .int .i64 y1])).run Tryd.prog w = .ok (.bool (decide ((x0, x1) = (y0, y1)))) w := by
  rw [run_eql_struct, show (10000 : Nat) = 9998 + 2 from rfl, eq_keyS]
  by_cases h1 : x0 = y0 <;> by_cases h2 : x1 = y1 <;> simp [h1, h2, Result.andThen]

theorem rcompare_any (a0 a1 b0 b1 : Int) (w : World) :
    Calls Tryd.prog 49 #[.agg #[.int .i32 a0, .int .i64 a1], .agg #[.int .i32 b0, .int .i64 b1]] w fun e w' => e = .returned (.int .i64 (cmpK (a0, a1) (b0, b1))) ∧ Grew w w' := by
  have hE := eql_key a0 a1 b0 b1
  have hg : Grew w ((w.alloc (.cells #[.int .i32 a0, .int .i64 a1] 38)).alloc (.cells #[.int .i32 b0, .int .i64 b1] 38)) := grew_alloc (grew_alloc (grew_refl _) _) _
  have HG := hide hg
  clear hg
  by_cases h1 : a0 < b0
  · have e : cmpK (a0, a1) (b0, b1) = -1 := by simp [cmpK, cmpI, h1]
    rw [e]
    go_enter Tryd.func49, Tryd.ntmps49
    go_wp2
    go_ret
    exact ⟨rfl, unhide HG⟩
  · by_cases h2 : a0 = b0
    · subst h2
      by_cases h3 : a1 < b1
      · have e : cmpK (a0, a1) (a0, b1) = -1 := by simp [cmpK, cmpI, h3]
        rw [e]
        go_enter Tryd.func49, Tryd.ntmps49
        go_wp2
        go_ret
        exact ⟨rfl, unhide HG⟩
      · by_cases h4 : a1 = b1
        · subst h4
          have e : cmpK (a0, a1) (a0, a1) = 0 := by simp [cmpK, cmpI]
          rw [e]
          go_enter Tryd.func49, Tryd.ntmps49
          go_wp2
          go_ret
          exact ⟨rfl, unhide HG⟩
        · have e : cmpK (a0, a1) (a0, b1) = 1 := by simp [cmpK, cmpI, h3]; omega
          rw [e]
          go_enter Tryd.func49, Tryd.ntmps49
          go_wp2
          go_ret
          exact ⟨rfl, unhide HG⟩
    · have e : cmpK (a0, a1) (b0, b1) = 1 := by simp [cmpK, cmpI, h1]; omega
      rw [e]
      have h5 : ¬ (a0, a1) = (b0, b1) := fun c => h2 (by injection c)
      go_enter Tryd.func49, Tryd.ntmps49
      go_wp2
      go_ret
      exact ⟨rfl, unhide HG⟩

/-! ### the order of keys -/
theorem cmpK_neg (a b : Int × Int) : cmpK a b < 0 ↔ ltK a b := by
  unfold cmpK cmpI ltK
  (repeat' split) <;> omega
theorem cmpK_zero (a b : Int × Int) : cmpK a b = 0 ↔ a = b := by
  obtain ⟨a0, a1⟩ := a
  obtain ⟨b0, b1⟩ := b
  simp only [cmpK, cmpI, Prod.mk.injEq]
  (repeat' split) <;> omega
theorem cmpK_anti (a b : Int × Int) : cmpK a b = -cmpK b a := by
  unfold cmpK cmpI
  (repeat' split) <;> omega
theorem cmpK_range (a b : Int × Int) : cmpK a b = -1 ∨ cmpK a b = 0 ∨ cmpK a b = 1 := by
  unfold cmpK cmpI
  (repeat' split) <;> omega
theorem ltK_irrefl (a : Int × Int) : ¬ ltK a a := by unfold ltK; omega
theorem ltK_trans {a b c : Int × Int} (h : ltK a b) (k : ltK b c) : ltK a c := by unfold ltK at *; omega
theorem ltK_total {a b : Int × Int} (h : ¬ ltK a b) (k : ¬ ltK b a) : a = b := by
  obtain ⟨a0, a1⟩ := a
  obtain ⟨b0, b1⟩ := b
  simp only [ltK, Prod.mk.injEq] at *
  omega
end Go.Proofs.YtldapckooohigaaDoor

/- Lists of keys and of pairs in memory: seen, and one's own. -/
namespace Go.Proofs.YtldapckooohigaaDoor
open Go.RowKit
set_option maxRecDepth 100000

abbrev Pr := (Int × Int) × Int
def pC (p : Pr) : List Value := [.int .i32 p.1.1, .int .i64 p.1.2, .int .i64 p.2]
theorem pC_len (p : Pr) : (pC p).length = 3 := rfl
theorem pC_one (k : Pr) : ∀ u ∈ pC k, u.oneCell' = true := by
  intro u hu
  simp only [pC, List.mem_cons, List.not_mem_nil, or_false] at hu
  rcases hu with rfl | rfl | rfl <;> rfl

section
variable {α : Type} {c : α → List Value} {k : Nat}
end
theorem Tryd.info38 : (Tryd.prog.info? 38).map (fun i => (i.zero, i.size, i.bytes)) = some (some (.agg #[.int .i32 0, .int .i64 0]), 2, 16) := by kernel_rfl
theorem Tryd.info45 : (Tryd.prog.info? 45).map (fun i => (i.zero, i.size, i.bytes)) = some (some (.agg #[.int .i32 0, .int .i64 0, .int .i64 0]), 3, 24) := by kernel_rfl
theorem append_keys {w : World} {base : Nat} {v v2 : Value} {n : Nat} {l l2 : List Ky} (ty : TypeId) (hown : w.ownsRow base 38 2 v n (l.flatMap kC)) (hs : SeesL kC 2 w v2 l2) (hl : n + l2.length ≤ 8796093022208) (hbase : base ≤ w.heap.size) :
    ∃ v' w', (Builtin.append_ #[33, 33] ty #[v, v2]).run Tryd.prog w = .ok v' w' ∧ w'.ownsRow base 38 2 v' (n + l2.length) ((l ++ l2).flatMap kC) ∧ w.grownBy w' v.ownBlock := by
  obtain ⟨i, hi, hz, hs1, hb⟩ := info_parts Tryd.info38
  rw [List.flatMap_append]
  exact run_append_L kC_len kC_one base 33 ty 38 i _ 16 Tryd.underlying33 hi hz hs1 hb rfl (by decide) hown hs (by unfold maxLen; omega) (by omega) hbase
theorem append_pairs {w : World} {base : Nat} {v v2 : Value} {n : Nat} {l l2 : List Pr} (ty : TypeId) (hown : w.ownsRow base 45 3 v n (l.flatMap pC)) (hs : SeesL pC 3 w v2 l2) (hl : n + l2.length ≤ 5864062014805) (hbase : base ≤ w.heap.size) :
    ∃ v' w', (Builtin.append_ #[29, 29] ty #[v, v2]).run Tryd.prog w = .ok v' w' ∧ w'.ownsRow base 45 3 v' (n + l2.length) ((l ++ l2).flatMap pC) ∧ w.grownBy w' v.ownBlock := by
  obtain ⟨i, hi, hz, hs1, hb⟩ := info_parts Tryd.info45
  rw [List.flatMap_append]
  exact run_append_L pC_len pC_one base 29 ty 45 i _ 24 Tryd.underlying29 hi hz hs1 hb rfl (by decide) hown hs (by unfold maxLen; omega) (by omega) hbase
/-- A slice of one new element. -/
theorem sees_oneK (w : World) (k : Ky) : SeesL kC 2 (w.alloc (.cells #[.int .i32 k.1, .int .i64 k.2] 38)) (.slice (some ⟨w.heap.size, 0, none⟩) 1 1) [k] := by
  refine ⟨_, 1, w.heap.size, 0, rfl, by simp, by simp, (fun h => by cases h), fun _ => rfl, fun t x hx j hj => ?_⟩
  obtain ⟨ht, rfl⟩ := List.getElem?_eq_some_iff.1 hx
  obtain rfl : t = 0 := by simpa using ht
  rw [cell_at (heap_alloc_new w _)]
  rcases (by omega : j = 0 ∨ j = 1) with rfl | rfl <;> rfl
theorem sees_oneP (w : World) (k : Pr) : SeesL pC 3 (w.alloc (.cells #[.int .i32 k.1.1, .int .i64 k.1.2, .int .i64 k.2] 45)) (.slice (some ⟨w.heap.size, 0, none⟩) 1 1) [k] := by
  refine ⟨_, 1, w.heap.size, 0, rfl, by simp, by simp, (fun h => by cases h), fun _ => rfl, fun t x hx j hj => ?_⟩
  obtain ⟨ht, rfl⟩ := List.getElem?_eq_some_iff.1 hx
  obtain rfl : t = 0 := by simpa using ht
  rw [cell_at (heap_alloc_new w _)]
  rcases (by omega : j = 0 ∨ j = 1 ∨ j = 2) with rfl | rfl | rfl <;> rfl
/-- One element's cells. -/
theorem SeesL.keyS {w : World} {v : Value} {l : List Ky} (h : SeesL kC 2 w v l) : ∃ ao cap gb ob, v = .slice ao l.length cap ∧ l.length ≤ cap ∧ l.length ≤ 9223372036854775807 ∧ (0 < l.length → ao = some ⟨gb, ob, none⟩) ∧ ∀ t, t < l.length → w.cell? ⟨gb, ob + t * 2, none⟩ = some (.int .i32 (l.getD t default).1) ∧ w.cell? ⟨gb, ob + t * 2 + 1, none⟩ = some (.int .i64 (l.getD t default).2) := by
  obtain ⟨ao, cap, gb, ob, h1, h2, h3, h4, h5, h6⟩ := h
  refine ⟨ao, cap, gb, ob, h1, h2, h3, h5, fun t ht => ?_⟩
  have e : l[t]? = some (l.getD t default) := by simp [List.getD, ht]
  exact ⟨h6 t _ e 0 (by omega), h6 t _ e 1 (by omega)⟩
theorem SeesL.pair {w : World} {v : Value} {l : List Pr} (h : SeesL pC 3 w v l) : ∃ ao cap gb ob, v = .slice ao l.length cap ∧ l.length ≤ cap ∧ l.length ≤ 9223372036854775807 ∧ (0 < l.length → ao = some ⟨gb, ob, none⟩) ∧ ∀ t, t < l.length → w.cell? ⟨gb, ob + t * 3, none⟩ = some (.int .i32 (l.getD t default).1.1) ∧ w.cell? ⟨gb, ob + t * 3 + 1, none⟩ = some (.int .i64 (l.getD t default).1.2) ∧ w.cell? ⟨gb, ob + t * 3 + 2, none⟩ = some (.int .i64 (l.getD t default).2) := by
  obtain ⟨ao, cap, gb, ob, h1, h2, h3, h4, h5, h6⟩ := h
  refine ⟨ao, cap, gb, ob, h1, h2, h3, h5, fun t ht => ?_⟩
  have e : l[t]? = some (l.getD t default) := by simp [List.getD, ht]
  exact ⟨h6 t _ e 0 (by omega), h6 t _ e 1 (by omega), h6 t _ e 2 (by omega)⟩
end Go.Proofs.YtldapckooohigaaDoor

/- SameKeys, SamePairs, Has. -/
namespace Go.Proofs.YtldapckooohigaaDoor
open Go.RowKit
set_option maxRecDepth 100000

theorem eq_pair (d : Nat) (x0 x1 x2 y0 y1 y2 : Int) (w : World) : (Op.equalIn (d + 3) 45 (.agg #[.int .i32 x0, .int .i64 x1, .int .i64 x2]) (.agg #[.int .i32 y0, .int .i64 y1, .int .i64 y2])).run Tryd.prog w = .ok (((x0 == y0) && (x1 == y1)) && (x2 == y2)) w := by
  have hS : Tryd.prog.underlying 45 = some (.struct (Tryd.prog.fieldsOf 45)) := by kernel_rfl
  have hp : Tryd.prog.stoodInHeld 45 = false := by kernel_rfl
  have hk := fun w => eq_keyS d x0 x1 y0 y1 w
  rw [show d + 3 = (d + 2) + 1 from rfl, run_equalIn_struct w (d + 2) 45 _ _ hS hp]
  simp only [Program.fieldsOf, Tryd.underlying45]
  by_cases h1 : x0 = y0 <;> by_cases h2 : x1 = y1 <;> by_cases h3 : x2 = y2 <;> simp [Op.eqFields, part, go_sem, hk, h1, h2, h3]
theorem neq_pair (x0 x1 x2 y0 y1 y2 : Int) (w : World) : (binOp .neq 45 (.agg #[.int .i32 x0, .int .i64 x1, .int .i64 x2]) (.agg #[.int .i32 y0, .int .i64 y1, .int .i64 y2])).run Tryd.prog w = .ok (.bool (!decide (((x0, x1), x2) = ((y0, y1), y2)))) w := by
  rw [run_neq_struct, show (10000 : Nat) = 9997 + 3 from rfl, eq_pair]
  by_cases h1 : x0 = y0 <;> by_cases h2 : x1 = y1 <;> by_cases h3 : x2 = y2 <;> simp [h1, h2, h3, Result.andThen]

set_option maxHeartbeats 3200000 in
theorem index_any {v : Value} {l : List Ky} {w : World} (hs : SeesL kC 2 w v l) (a b : Int) :
    Calls Tryd.prog 40 #[v, .agg #[.int .i32 a, .int .i64 b]] w fun e w' => (∃ n : Int, e = .returned (.int .i64 n) ∧ decide (n ≥ 0) = decide ((a, b) ∈ l)) ∧ Grew w w' := by
  have HS : Hid (∀ w', Grew w w' → SeesL kC 2 w' v l) := fun w' hb => hs.below kC_len hb.below
  obtain ⟨y, hy⟩ : ∃ y, w.alloc (.cells #[.int .i32 a, .int .i64 b] 38) = y := ⟨_, rfl⟩
  have hg : Grew w y := hy ▸ grew_alloc (grew_refl _) _
  have g0 : y.heap[w.heap.size]? = some (.cells #[.int .i32 a, .int .i64 b] 38) := by rw [← hy]; exact heap_alloc_new w _
  have HK : Hid (∀ w', Grew y w' → w'.cell? ⟨w.heap.size, 0, none⟩ = some (.int .i32 a) ∧ w'.cell? ⟨w.heap.size, 1, none⟩ = some (.int .i64 b)) := fun w' hb => by
    have h := (hb.below.block _ (Array.getElem?_eq_some_iff.1 g0).1).trans g0
    exact ⟨cell_at h, cell_at h⟩
  obtain ⟨ao, cap, _, _, hv, hcap, hmax, _⟩ := SeesL.keyS hs
  have HV := hide hv
  have HG := hide hg
  obtain ⟨n, hn⟩ : ∃ n, l.length = n := ⟨_, rfl⟩
  rw [hv, hn]
  have HN := hide hn
  rw [hn] at hcap hmax
  clear hs hg g0 hv hn
  go_enter Tryd.func40, Tryd.ntmps40
  go_wp2_with (rw [hy])
  go_loopw [8] (fun c wr => ∃ t : Nat, t ≤ n ∧ c = .int .i64 t ∧ (∀ u, u < t → l.getD u default ≠ (a, b)) ∧ Grew y wr) (fun c _ => n - (intOf c).toNat)
  case atStart => exact ⟨0, by omega, rfl, fun u hu => absurd hu (by omega), grew_refl _⟩
  case round =>
    obtain ⟨t, ht, rfl, hall, hgr⟩ := hrel
    have HA := hide hall
    have HR := hide hgr
    by_cases hlt : t < n
    · obtain ⟨ao', cap', gb, ob, hv', _, _, hao, hcl⟩ := SeesL.keyS (unhide HS wr (grew_trans (unhide HG) hgr))
      rw [unhide HV] at hv'
      simp only [Value.slice.injEq, true_and] at hv'
      obtain ⟨rfl, rfl⟩ := hv'
      have hnl := unhide HN
      obtain rfl := hao (by omega)
      obtain ⟨g1, g2⟩ := hcl t (by omega)
      obtain ⟨g3, g4⟩ := unhide HK wr hgr
      obtain ⟨⟨x0, x1⟩, hx⟩ : ∃ k, l.getD t default = k := ⟨_, rfl⟩
      rw [hx] at g1 g2
      have HX := hide hx
      have hE := eql_key a b x0 x1
      clear hcl hao hx hgr hall hnl
      go_wp2_with fail
      refine wp_region_held_drew (S := fun x => x.cell? ⟨gb, ob + t * 2, none⟩ = some (.int .i32 x0) ∧ x.cell? ⟨gb, ob + t * 2 + 1, none⟩ = some (.int .i64 x1) ∧ x.cell? ⟨w.heap.size, 0, none⟩ = some (.int .i32 a) ∧ x.cell? ⟨w.heap.size, 1, none⟩ = some (.int .i64 b)) (by kernel_rfl) ⟨g1, g2, g3, g4⟩ (fun hHeld => ?_)
      by_cases he : (a, b) = (x0, x1)
      · have hd : decide ((a, b) = (x0, x1)) = true := decide_eq_true he
        refine wpAnyH_take (i := 0) (v := (.agg #[.int .i32 a, .int .i64 b])) rfl (by kernel_rfl) (by kernel_rfl) (by kernel_rfl) (fun _ _ _ h => h) (Or.inl ⟨by rfl, ?hy37x0⟩) (by assumption) ?rest37x0
        case hy37x0 => intro w hSw; obtain ⟨s1, s2, s3, s4⟩ := hSw; go_simp <;> with_reducible rfl
        simp only [Act.put, List.getElem_toArray, List.getElem_cons_zero, List.setIfInBounds_toArray, List.set_cons_zero, List.set_cons_succ]
        refine wpAnyH_take (i := 1) (v := ?v38x1) rfl (by kernel_rfl) (by kernel_rfl) (by kernel_rfl) (fun _ _ _ h => h) (Or.inl ⟨by rfl, ?hy38x1⟩) (by assumption) ?rest38x1
        case hy38x1 => intro w hSw; obtain ⟨s1, s2, s3, s4⟩ := hSw; go_simp <;> with_reducible rfl
        simp only [Act.put, List.getElem_toArray, List.getElem_cons_zero, List.getElem_cons_succ, List.setIfInBounds_toArray, List.set_cons_zero, List.set_cons_succ]
        refine wpAnyH_take (i := 2) (v := ?v39x2) rfl (by kernel_rfl) (by kernel_rfl) (by kernel_rfl) (fun _ _ _ h => h) (Or.inl ⟨by rfl, ?hy39x2⟩) (by assumption) ?rest39x2
        case hy39x2 => intro w hSw; obtain ⟨s1, s2, s3, s4⟩ := hSw; go_simp <;> with_reducible rfl
        simp only [Act.put, List.getElem_toArray, List.getElem_cons_zero, List.getElem_cons_succ, List.setIfInBounds_toArray, List.set_cons_zero, List.set_cons_succ]
        refine wpAnyH_take (i := 3) (v := ?v40x3) rfl (by kernel_rfl) (by kernel_rfl) (by kernel_rfl) (fun _ _ _ h => h) (Or.inl ⟨by rfl, ?hy40x3⟩) (by assumption) ?rest40x3
        case hy40x3 => intro w hSw; obtain ⟨s1, s2, s3, s4⟩ := hSw; go_simp <;> with_reducible rfl
        simp only [Act.put, List.getElem_toArray, List.getElem_cons_zero, List.getElem_cons_succ, List.setIfInBounds_toArray, List.set_cons_zero, List.set_cons_succ]
        refine wpAnyH_take (i := 4) (v := (.agg #[.int .i32 x0, .int .i64 x1])) rfl (by kernel_rfl) (by kernel_rfl) (by kernel_rfl) (fun _ _ _ h => h) (Or.inl ⟨by rfl, ?hy41x4⟩) (by assumption) ?rest41x4
        case hy41x4 => intro w hSw; obtain ⟨s1, s2, s3, s4⟩ := hSw; go_simp <;> with_reducible rfl
        simp only [Act.put, List.getElem_toArray, List.getElem_cons_zero, List.getElem_cons_succ, List.setIfInBounds_toArray, List.set_cons_zero, List.set_cons_succ]
        refine wpAnyH_take (i := 5) (v := (.bool true)) rfl (by kernel_rfl) (by kernel_rfl) (by kernel_rfl) (fun _ _ _ h => h) (Or.inl ⟨by rfl, ?hy42x5⟩) (by assumption) ?rest42x5
        case hy42x5 => intro w hSw; obtain ⟨s1, s2, s3, s4⟩ := hSw; go_simp <;> with_reducible rfl
        simp only [Act.put, List.getElem_toArray, List.getElem_cons_zero, List.getElem_cons_succ, List.setIfInBounds_toArray, List.set_cons_zero, List.set_cons_succ]
        refine wpAnyH_done (by kernel_rfl) ?_ _
        go_wp2
        go_ret
        refine ⟨⟨_, rfl, ?_⟩, grew_drew (grew_trans (unhide HG) (unhide HR))⟩
        have : (a, b) ∈ l := by
          have h1 := unhide HX
          rw [he, ← h1]
          have h2 := unhide HN
          have h3 : t < l.length := by omega
          simp [List.getD, h3]
        simp [this]
      · have hd : decide ((a, b) = (x0, x1)) = false := decide_eq_false he
        refine wpAnyH_take (i := 0) (v := (.agg #[.int .i32 a, .int .i64 b])) rfl (by kernel_rfl) (by kernel_rfl) (by kernel_rfl) (fun _ _ _ h => h) (Or.inl ⟨by rfl, ?hy43x0⟩) (by assumption) ?rest43x0
        case hy43x0 => intro w hSw; obtain ⟨s1, s2, s3, s4⟩ := hSw; go_simp <;> with_reducible rfl
        simp only [Act.put, List.getElem_toArray, List.getElem_cons_zero, List.setIfInBounds_toArray, List.set_cons_zero, List.set_cons_succ]
        refine wpAnyH_take (i := 1) (v := ?v44x1) rfl (by kernel_rfl) (by kernel_rfl) (by kernel_rfl) (fun _ _ _ h => h) (Or.inl ⟨by rfl, ?hy44x1⟩) (by assumption) ?rest44x1
        case hy44x1 => intro w hSw; obtain ⟨s1, s2, s3, s4⟩ := hSw; go_simp <;> with_reducible rfl
        simp only [Act.put, List.getElem_toArray, List.getElem_cons_zero, List.getElem_cons_succ, List.setIfInBounds_toArray, List.set_cons_zero, List.set_cons_succ]
        refine wpAnyH_take (i := 2) (v := ?v45x2) rfl (by kernel_rfl) (by kernel_rfl) (by kernel_rfl) (fun _ _ _ h => h) (Or.inl ⟨by rfl, ?hy45x2⟩) (by assumption) ?rest45x2
        case hy45x2 => intro w hSw; obtain ⟨s1, s2, s3, s4⟩ := hSw; go_simp <;> with_reducible rfl
        simp only [Act.put, List.getElem_toArray, List.getElem_cons_zero, List.getElem_cons_succ, List.setIfInBounds_toArray, List.set_cons_zero, List.set_cons_succ]
        refine wpAnyH_take (i := 3) (v := ?v46x3) rfl (by kernel_rfl) (by kernel_rfl) (by kernel_rfl) (fun _ _ _ h => h) (Or.inl ⟨by rfl, ?hy46x3⟩) (by assumption) ?rest46x3
        case hy46x3 => intro w hSw; obtain ⟨s1, s2, s3, s4⟩ := hSw; go_simp <;> with_reducible rfl
        simp only [Act.put, List.getElem_toArray, List.getElem_cons_zero, List.getElem_cons_succ, List.setIfInBounds_toArray, List.set_cons_zero, List.set_cons_succ]
        refine wpAnyH_take (i := 4) (v := (.agg #[.int .i32 x0, .int .i64 x1])) rfl (by kernel_rfl) (by kernel_rfl) (by kernel_rfl) (fun _ _ _ h => h) (Or.inl ⟨by rfl, ?hy47x4⟩) (by assumption) ?rest47x4
        case hy47x4 => intro w hSw; obtain ⟨s1, s2, s3, s4⟩ := hSw; go_simp <;> with_reducible rfl
        simp only [Act.put, List.getElem_toArray, List.getElem_cons_zero, List.getElem_cons_succ, List.setIfInBounds_toArray, List.set_cons_zero, List.set_cons_succ]
        refine wpAnyH_take (i := 5) (v := (.bool false)) rfl (by kernel_rfl) (by kernel_rfl) (by kernel_rfl) (fun _ _ _ h => h) (Or.inl ⟨by rfl, ?hy48x5⟩) (by assumption) ?rest48x5
        case hy48x5 => intro w hSw; obtain ⟨s1, s2, s3, s4⟩ := hSw; go_simp <;> with_reducible rfl
        simp only [Act.put, List.getElem_toArray, List.getElem_cons_zero, List.getElem_cons_succ, List.setIfInBounds_toArray, List.set_cons_zero, List.set_cons_succ]
        refine wpAnyH_done (by kernel_rfl) ?_ _
        go_wp2
        go_roundw
        case rel =>
          refine ⟨t + 1, by omega, by go_num, fun u hu => ?_, grew_drew (unhide HR)⟩
          by_cases hu' : u = t
          · subst hu'; rw [unhide HX]; exact fun h => he h.symm
          · exact unhide HA u (by omega)
        case measure => simp [intOf]; omega
    · obtain rfl : t = n := by omega
      go_wp2
      go_ret
      refine ⟨⟨_, rfl, ?_⟩, grew_trans (unhide HG) (unhide HR)⟩
      have h2 := unhide HN
      have : (a, b) ∉ l := fun hm => by
        obtain ⟨i, hi, he⟩ := List.getElem_of_mem hm
        exact unhide HA i (by omega) (by simp [List.getD, hi, he])
      simp [this]
set_option maxHeartbeats 800000 in
theorem contains_any {v : Value} {l : List Ky} {w : World} (hs : SeesL kC 2 w v l) (a b : Int) :
    Calls Tryd.prog 24 #[v, .agg #[.int .i32 a, .int .i64 b]] w fun e w' => e = .returned (.bool (decide ((a, b) ∈ l))) ∧ Grew w w' := by
  obtain ⟨y, hy⟩ : ∃ y, w.alloc (.cells #[.int .i32 a, .int .i64 b] 38) = y := ⟨_, rfl⟩
  have hg : Grew w y := hy ▸ grew_alloc (grew_refl _) _
  have g0 : y.cell? ⟨w.heap.size, 0, none⟩ = some (.int .i32 a) := by rw [← hy]; exact cell_at (heap_alloc_new w _)
  have g1 : y.cell? ⟨w.heap.size, 1, none⟩ = some (.int .i64 b) := by rw [← hy]; exact cell_at (heap_alloc_new w _)
  have HC := hide (index_any (hs.below kC_len hg.below) a b)
  have HG := hide hg
  obtain ⟨ao, cap, hv⟩ := hs.shape
  subst hv
  clear hs hg
  go_enter Tryd.func24, Tryd.ntmps24
  go_wp2_with (first | rw [hy] | (go_at_call 40; refine (unhide HC).mono ?_; rintro e w1 ⟨⟨n, rfl, hn⟩, hg1⟩; have HN := hide hn; have HG1 := hide hg1; clear hn hg1))
  go_ret
  exact ⟨retBool (unhide HN), grew_trans (unhide HG) (unhide HG1)⟩
set_option maxHeartbeats 800000 in
theorem shas_any {v : Value} {l : List Ky} {w : World} (hs : SeesL kC 2 w v l) (a b : Int) :
    Calls Tryd.prog 65 #[v, .agg #[.int .i32 a, .int .i64 b]] w fun e w' => e = .returned (.bool (decide ((a, b) ∈ l))) ∧ Grew w w' := by
  obtain ⟨y, hy⟩ : ∃ y, w.alloc (.cells #[.int .i32 a, .int .i64 b] 38) = y := ⟨_, rfl⟩
  have hg : Grew w y := hy ▸ grew_alloc (grew_refl _) _
  have g0 : y.cell? ⟨w.heap.size, 0, none⟩ = some (.int .i32 a) := by rw [← hy]; exact cell_at (heap_alloc_new w _)
  have g1 : y.cell? ⟨w.heap.size, 1, none⟩ = some (.int .i64 b) := by rw [← hy]; exact cell_at (heap_alloc_new w _)
  have HC := hide (contains_any (hs.below kC_len hg.below) a b)
  have HG := hide hg
  obtain ⟨ao, cap, hv⟩ := hs.shape
  subst hv
  obtain ⟨r, hr⟩ : ∃ r, decide ((a, b) ∈ l) = r := ⟨_, rfl⟩
  rw [hr] at HC ⊢
  clear hs hg hr
  go_enter Tryd.func65, Tryd.ntmps65
  go_wp2_with (first | rw [hy] | (go_at_call 24; refine (unhide HC).mono ?_; rintro e w1 ⟨rfl, hg1⟩; have HG1 := hide hg1; clear hg1))
  go_ret
  exact ⟨rfl, grew_trans (unhide HG) (unhide HG1)⟩
end Go.Proofs.YtldapckooohigaaDoor
