/- Several texts as one. -/
import Derived.Test.YtknpfippdddnhabDoorP0
import Derived.Deep.QuietTactic
import Derived.BigQuiet
import Derived.Deep.RegionHeld3

/- The smallest functions: must, Size, registers, wide, isRegister, jumps, behind. -/
namespace Go.Proofs.YtknpfippdddnhabDoor
open Go.RowKit
set_option maxRecDepth 100000

def GiveUp (er : Int) : Ending := .panicked [{ v := .iface 56 (.agg #[.int .i64 er]), recovered := false }]
/-- The table of sizes. -/
def Tab (w : World) : Prop := ∀ i, i < 28 → w.cell? ⟨0, i, none⟩ = some (.int .i64 (szL.getD i 0))
theorem Tab.pos {w : World} (h : Tab w) : 0 < w.heap.size := World.block_lt_of_cell? w _ (h 0 (by decide))
theorem Tab.below {w w' : World} {b : Nat} (h : Tab w) (hb : Below b w w') (h0 : 0 < b) : Tab w' := fun i hi => (hb.cell (p := ⟨0, i, none⟩) h0).trans (h i hi)

theorem must_ok (er : Int) (w : World) : Calls Tryd.prog 27 #[.bool true, .int .i64 er] w fun e w' => e = .returned (.tuple #[]) ∧ w = w' := by
  go_enter Tryd.func27, Tryd.ntmps27
  go_wp2
  go_end0
  exact ⟨rfl, rfl⟩
theorem must_no (er : Int) (w : World) : Calls Tryd.prog 27 #[.bool false, .int .i64 er] w fun e w' => e = GiveUp er ∧ w = w' := by
  go_enter Tryd.func27, Tryd.ntmps27
  go_wp2
  exact ⟨rfl, rfl, rfl⟩

theorem size_yes (op : Int) (w : World) (hT : Tab w) (h0 : 0 ≤ op) (h1 : op < 28) : Calls Tryd.prog 37 #[.int .i64 op] w fun e w' => e = .returned (.tuple #[.int .i64 (sz op), .bool true]) ∧ w = w' := by
  have hc := hT op.toNat (by omega)
  have hf := (op_facts h0 h1).2.2.2.2.2
  rw [hf] at hc
  clear hf hT
  generalize sz op = s at *
  have g1 : ¬ op < 0 := by omega
  have g2 : ¬ 28 ≤ op := by omega
  go_enter Tryd.func37, Tryd.ntmps37
  go_wp2
  go_ret2
  exact ⟨rfl, rfl⟩
theorem size_no (op : Int) (w : World) (h : ¬ (0 ≤ op ∧ op < 28)) : Calls Tryd.prog 37 #[.int .i64 op] w fun e w' => e = .returned (.tuple #[.int .i64 (sz op), .bool false]) ∧ w = w' := by
  rw [sz_none h]
  by_cases g1 : op < 0
  · clear h
    go_enter Tryd.func37, Tryd.ntmps37
    go_wp2
    go_ret2
    exact ⟨rfl, rfl⟩
  · have g2 : 28 ≤ op := by omega
    clear h
    go_enter Tryd.func37, Tryd.ntmps37
    go_wp2
    go_ret2
    exact ⟨rfl, rfl⟩
theorem reg_any (op : Int) (w : World) (h0 : 0 ≤ op) (h1 : op < 28) : Calls Tryd.prog 38 #[.int .i64 op] w fun e w' => e = .returned (.int .i64 (rg op)) ∧ w = w' := by
  rcases op_cases h0 h1 with rfl | rfl | rfl | rfl | rfl | rfl | rfl | rfl | rfl | rfl | rfl | rfl | rfl | rfl | rfl | rfl | rfl | rfl | rfl | rfl | rfl | rfl | rfl | rfl | rfl | rfl | rfl | rfl
  all_goals
    clear h0 h1
    go_enter Tryd.func38, Tryd.ntmps38
    go_wp2
    go_ret
    exact ⟨rfl, rfl⟩
theorem reg_q (op : Int) (w : World) (h0 : 0 ≤ op) (h1 : op < 28) : Calls Tryd.prog 38 #[.int .i64 op] w fun e w' => e = .returned (.int .i64 (rg op)) ∧ w' = w := (reg_any op w h0 h1).mono fun _ _ h => ⟨h.1, h.2.symm⟩
theorem isreg_any (r : Int) (w : World) : Calls Tryd.prog 51 #[.int .i64 r] w fun e w' => e = .returned (.bool (decide (0 ≤ r ∧ r < 8))) ∧ w = w' := by
  by_cases h1 : 0 ≤ r
  · by_cases h2 : r < 8
    · rw [decide_eq_true (p := 0 ≤ r ∧ r < 8) ⟨h1, h2⟩]
      go_enter Tryd.func51, Tryd.ntmps51
      go_wp2
      go_ret
      exact ⟨rfl, rfl⟩
    · rw [decide_eq_false (p := 0 ≤ r ∧ r < 8) (by omega)]
      go_enter Tryd.func51, Tryd.ntmps51
      go_wp2
      go_ret
      exact ⟨rfl, rfl⟩
  · rw [decide_eq_false (p := 0 ≤ r ∧ r < 8) (by omega)]
    go_enter Tryd.func51, Tryd.ntmps51
    go_wp2
    go_ret
    exact ⟨rfl, rfl⟩
set_option maxHeartbeats 800000 in
theorem wide_any (op : Int) (w : World) (hT : Tab w) (h0 : 0 ≤ op) (h1 : op < 28) : Calls Tryd.prog 43 #[.int .i64 op] w fun e w' => e = .returned (.int .i64 (wd op)) ∧ ∃ j, w' = w.drewN j := by
  have hc := hT op.toNat (by omega)
  obtain ⟨f1, f2, f3, f4, f5, f6⟩ := op_facts h0 h1
  rw [f6] at hc
  have e : (wd op : Int) = sz op - 1 - rg op := by omega
  rw [e]
  have HR := hide (fun w => reg_q op w h0 h1)
  have F3 := hide f3
  clear e f6 hT f3
  generalize sz op = s at *
  generalize rg op = r at *
  go_enter Tryd.func43, Tryd.ntmps43
  go_wp2
  go_quiet ((go_at_call 38; exact Calls.quiet_of_same (unhide HR _)))
  go_wp2
  go_ret
  exact ⟨rfl, _, rfl⟩
end Go.Proofs.YtknpfippdddnhabDoor

/- sound, lean, fits, jumps, behind, number. -/
namespace Go.Proofs.YtknpfippdddnhabDoor
open Go.RowKit
set_option maxRecDepth 100000

abbrev iV (d o a b m : Int) : Value := .agg #[.int .i64 d, .int .i64 o, .int .i64 a, .int .i64 b, .int .i64 m]
theorem grew_drewN {a w : World} (h : Grew a w) : ∀ j, Grew a (w.drewN j) := fun j => by
  obtain ⟨q, os, rfl⟩ := h
  exact ⟨q + j, os, by simp [Sort.grow, World.drewN, Nat.add_assoc]⟩

theorem jumps_any (d o a b m : Int) (w : World) : Calls Tryd.prog 30 #[iV d o a b m] w fun e w' => e = .returned (.bool (jmp ⟨d, o, a, b, m⟩)) ∧ Grew w w' := by
  by_cases h1 : o = 22
  · rw [show jmp ⟨d, o, a, b, m⟩ = true from decide_eq_true (.inl h1)]
    subst h1
    go_enter Tryd.func30, Tryd.ntmps30
    go_wp2
    go_ret
    exact ⟨rfl, grew_alloc (grew_refl _) _⟩
  · have g1 : (o == 22) = false := by simpa using h1
    by_cases h2 : o = 23
    · rw [show jmp ⟨d, o, a, b, m⟩ = true from decide_eq_true (.inr h2)]
      subst h2
      go_enter Tryd.func30, Tryd.ntmps30
      go_wp2
      go_ret
      exact ⟨rfl, grew_alloc (grew_refl _) _⟩
    · have g2 : (o == 23) = false := by simpa using h2
      rw [show jmp ⟨d, o, a, b, m⟩ = false from decide_eq_false (by rintro (h | h); exact h1 h; exact h2 h)]
      clear h1 h2
      go_enter Tryd.func30, Tryd.ntmps30
      go_wp2
      go_ret
      exact ⟨rfl, grew_alloc (grew_refl _) _⟩

set_option maxHeartbeats 800000 in
theorem sound_any (d o a b m : Int) (w : World) : Calls Tryd.prog 40 #[iV d o a b m] w fun e w' => e = .returned (.bool (sd ⟨d, o, a, b, m⟩)) ∧ Grew w w' := by
  have key : ∀ (c : Bool), (decide (0 ≤ a ∧ a < 8)) = c → (o = 19 → m = 8 ∨ m = 16 ∨ m = 32) → sd ⟨d, o, a, b, m⟩ = (c && decide (0 ≤ b ∧ b < 8)) := by
    intro c hc hm
    subst hc
    unfold sd
    by_cases h1 : 0 ≤ a ∧ a < 8 <;> by_cases h2 : 0 ≤ b ∧ b < 8 <;> simp [h1, h2]
    exact Classical.or_iff_not_imp_left.2 fun h => hm (Classical.not_not.1 h)
  have HI := hide isreg_any
  obtain ⟨c1, hc1⟩ : ∃ c, decide (0 ≤ a ∧ a < 8) = c := ⟨_, rfl⟩
  obtain ⟨c2, hc2⟩ : ∃ c, decide (0 ≤ b ∧ b < 8) = c := ⟨_, rfl⟩
  rw [hc2] at key
  have KA : Hid (∀ w, Calls Tryd.prog 51 #[.int .i64 a] w fun e w' => e = .returned (.bool c1) ∧ w = w') := fun w => by rw [← hc1]; exact isreg_any a w
  have KB : Hid (∀ w, Calls Tryd.prog 51 #[.int .i64 b] w fun e w' => e = .returned (.bool c2) ∧ w = w') := fun w => by rw [← hc2]; exact isreg_any b w
  have HK := hide (key c1 hc1)
  have HC1 := hide hc1
  have HC2 := hide hc2
  clear key hc1 hc2 HI
  by_cases h1 : o = 19
  · by_cases h2 : m = 8
    · rw [unhide HK fun _ => .inl h2]
      subst h1 h2
      cases c1
      all_goals
        go_enter Tryd.func40, Tryd.ntmps40
        go_wp2_with fail
        refine (unhide KA _).mono ?_
        rintro e w' ⟨rfl, rfl⟩
        go_wp2_with (go_at_call 51; refine (unhide KB _).mono ?_; rintro e w' ⟨rfl, rfl⟩)
        go_ret
        exact ⟨rfl, grew_alloc (grew_refl _) _⟩
    · have g2 : (m != 8) = true := by simpa using h2
      by_cases h3 : m = 16
      · rw [unhide HK fun _ => .inr (.inl h3)]
        subst h1 h3
        cases c1
        all_goals
          go_enter Tryd.func40, Tryd.ntmps40
          go_wp2_with fail
          refine (unhide KA _).mono ?_
          rintro e w' ⟨rfl, rfl⟩
          go_wp2_with (go_at_call 51; refine (unhide KB _).mono ?_; rintro e w' ⟨rfl, rfl⟩)
          go_ret
          exact ⟨rfl, grew_alloc (grew_refl _) _⟩
      · have g3 : (m != 16) = true := by simpa using h3
        by_cases h4 : m = 32
        · rw [unhide HK fun _ => .inr (.inr h4)]
          subst h1 h4
          cases c1
          all_goals
            go_enter Tryd.func40, Tryd.ntmps40
            go_wp2_with fail
            refine (unhide KA _).mono ?_
            rintro e w' ⟨rfl, rfl⟩
            go_wp2_with (go_at_call 51; refine (unhide KB _).mono ?_; rintro e w' ⟨rfl, rfl⟩)
            go_ret
            exact ⟨rfl, grew_alloc (grew_refl _) _⟩
        · have g4 : (m != 32) = true := by simpa using h4
          rw [show sd ⟨d, o, a, b, m⟩ = false from decide_eq_false (by rintro ⟨h, -⟩; rcases h h1 with h | h | h; exact h2 h; exact h3 h; exact h4 h)]
          subst h1
          clear h2 h3 h4
          go_enter Tryd.func40, Tryd.ntmps40
          go_wp2
          go_ret
          exact ⟨rfl, grew_alloc (grew_refl _) _⟩
  · rw [unhide HK fun h => absurd h h1]
    have g1 : (o == 19) = false := by simpa using h1
    clear h1
    cases c1
    all_goals
      go_enter Tryd.func40, Tryd.ntmps40
      go_wp2_with fail
      refine (unhide KA _).mono ?_
      rintro e w' ⟨rfl, rfl⟩
      go_wp2_with (go_at_call 51; refine (unhide KB _).mono ?_; rintro e w' ⟨rfl, rfl⟩)
      go_ret
      exact ⟨rfl, grew_alloc (grew_refl _) _⟩

set_option maxHeartbeats 800000 in
theorem behind_any (d o a b m : Int) (w : World) (hT : Tab w) (h0 : 0 ≤ o) (h1 : o < 28) (hd : 0 ≤ d) (hd1 : d ≤ 4611686018427387904) : Calls Tryd.prog 28 #[iV d o a b m] w fun e w' => e = .returned (.int .i64 (d + sz o)) ∧ Grew w w' := by
  have hT' : Tab (w.alloc (.cells #[.int .i64 d, .int .i64 o, .int .i64 a, .int .i64 b, .int .i64 m] 35)) := hT.below (below_box _) hT.pos
  have hc := hT' o.toNat (by omega)
  obtain ⟨f1, f2, f3, f4, f5, f6⟩ := op_facts h0 h1
  rw [f6] at hc
  clear f3 f4 f5 f6 hT hT'
  generalize sz o = s at *
  go_enter Tryd.func28, Tryd.ntmps28
  go_wp2
  go_quiet (fail)
  go_wp2
  go_ret
  exact ⟨rfl, grew_drewN (grew_alloc (grew_refl _) _) _⟩
end Go.Proofs.YtknpfippdddnhabDoor

/- lean, fits, number. -/
namespace Go.Proofs.YtknpfippdddnhabDoor
open Go.RowKit
set_option maxRecDepth 100000

theorem grew_of_drewN {w w' : World} (h : ∃ j, w' = w.drewN j) : Grew w w' := by obtain ⟨j, rfl⟩ := h; exact grew_drewN (grew_refl _) j
theorem lnn_eq (d o a b m : Int) : lnn ⟨d, o, a, b, m⟩ = ((decide (0 < (rg o : Int)) || decide (a = 0)) && ((decide (1 < (rg o : Int)) || decide (b = 0)) && (decide (0 < (wd o : Int)) || decide (m = 0)))) := by
  unfold lnn
  by_cases h1 : 0 < rg o <;> by_cases h2 : 1 < rg o <;> by_cases h3 : 0 < wd o <;> by_cases h4 : a = 0 <;> by_cases h5 : b = 0 <;> by_cases h6 : m = 0 <;> simp [h1, h2, h3, h4, h5, h6] <;> omega

set_option maxHeartbeats 1600000 in
theorem lean_any (d o a b m : Int) (w : World) (hT : Tab w) (h0 : 0 ≤ o) (h1 : o < 28) : Calls Tryd.prog 41 #[iV d o a b m] w fun e w' => e = .returned (.bool (lnn ⟨d, o, a, b, m⟩)) ∧ Grew w w' := by
  have HR := hide (fun w => reg_any o w h0 h1)
  have hb : Below w.heap.size w (w.alloc (.cells #[.int .i64 d, .int .i64 o, .int .i64 a, .int .i64 b, .int .i64 m] 35)) := below_box _
  have HW := hide (wide_any o _ (hT.below hb hT.pos) h0 h1)
  rw [lnn_eq]
  obtain ⟨f1, f2, f3, f4, f5, f6⟩ := op_facts h0 h1
  have q1 : (0 : Int) ≤ rg o ∧ (rg o : Int) ≤ 2 ∧ (0 : Int) ≤ wd o ∧ (wd o : Int) ≤ 2 := by omega
  clear f1 f2 f3 f4 f5 f6 hb hT h0 h1
  generalize (rg o : Int) = r at *
  generalize (wd o : Int) = s at *
  rcases (by omega : r = 0 ∨ r = 1 ∨ r = 2) with rfl | rfl | rfl
  all_goals
    by_cases h4 : a = 0
    all_goals first
      | subst h4
      | (have g4 : (a == 0) = false := (by simpa using h4); rw [decide_eq_false h4]; clear h4)
    all_goals
      by_cases h5 : b = 0
    all_goals first
      | subst h5
      | (have g5 : (b == 0) = false := (by simpa using h5); rw [decide_eq_false h5]; clear h5)
    all_goals
      by_cases h6 : m = 0
    all_goals first
      | subst h6
      | (have g6 : (m == 0) = false := (by simpa using h6); rw [decide_eq_false h6]; clear h6)
    all_goals
      rcases (by omega : s = 0 ∨ s = 1 ∨ s = 2) with rfl | rfl | rfl
    all_goals
      clear q1
      go_enter Tryd.func41, Tryd.ntmps41
      go_wp2_with (first
        | (go_at_call 38; refine (unhide HR _).mono ?_; rintro e w' ⟨rfl, rfl⟩)
        | (go_at_call 43; refine (unhide HW).mono ?_; rintro e w' ⟨rfl, j, rfl⟩))
      go_ret
      exact ⟨rfl, by first | exact grew_alloc (grew_refl _) _ | exact grew_drewN (grew_alloc (grew_refl _) _) _⟩
end Go.Proofs.YtknpfippdddnhabDoor

/- fits, number. -/
namespace Go.Proofs.YtknpfippdddnhabDoor
open Go.RowKit
set_option maxRecDepth 100000

theorem i16_same (m : Int) (h1 : -9223372036854775808 ≤ m) (h2 : m ≤ 9223372036854775807) : (m == wrap64 (IntKind.i16.wrap m)) = decide (-32768 ≤ m ∧ m ≤ 32767) := by
  rw [Bool.eq_iff_iff]
  simp [IntKind.wrap, IntKind.signed, IntKind.bits, wrap64]
  omega
set_option maxHeartbeats 1600000 in
theorem fits_any (d o a b m : Int) (w : World) (hT : Tab w) (h0 : 0 ≤ o) (h1 : o < 28) (hm1 : -9223372036854775808 ≤ m) (hm2 : m ≤ 9223372036854775807) : Calls Tryd.prog 42 #[iV d o a b m] w fun e w' => e = .returned (.bool (fit ⟨d, o, a, b, m⟩)) ∧ Grew w w' := by
  by_cases ho : o = 1
  · have e : fit ⟨d, o, a, b, m⟩ = decide (-32768 ≤ m ∧ m ≤ 32767) := if_pos ho
    rw [e, ← i16_same m hm1 hm2]
    subst ho
    go_enter Tryd.func42, Tryd.ntmps42
    go_wp2
    go_ret
    exact ⟨rfl, grew_alloc (grew_refl _) _⟩
  · have g1 : (o == 1) = false := by simpa using ho
    have e : fit ⟨d, o, a, b, m⟩ = decide (0 ≤ m ∧ m < (if (wd o : Int) = 0 then 1 else if (wd o : Int) = 1 then 256 else 65536)) := by
      simp only [fit, if_neg ho]
      have e1 : ((wd o : Int) = 0) = (wd o = 0) := propext (by omega)
      have e2 : ((wd o : Int) = 1) = (wd o = 1) := propext (by omega)
      simp only [e1, e2]
    have hb : Below w.heap.size w (w.alloc (.cells #[.int .i64 d, .int .i64 o, .int .i64 a, .int .i64 b, .int .i64 m] 35)) := below_box _
    have hT' := hT.below hb hT.pos
    have HW : Hid (∀ n, Calls Tryd.prog 43 #[.int .i64 o] ((w.alloc (.cells #[.int .i64 d, .int .i64 o, .int .i64 a, .int .i64 b, .int .i64 m] 35)).drewN n) _) := fun n => wide_any o _ (fun i hi => hT' i hi) h0 h1
    obtain ⟨f1, f2, f3, f4, f5, f6⟩ := op_facts h0 h1
    have q1 : (0 : Int) ≤ wd o ∧ (wd o : Int) ≤ 2 := by omega
    rw [e]
    clear f1 f2 f3 f4 f5 f6 e hb hT hT' ho h0 h1
    generalize (wd o : Int) = s at *
    by_cases hm : 0 ≤ m
    · rcases (by omega : s = 0 ∨ s = 1 ∨ s = 2) with rfl | rfl | rfl
      · by_cases hl : m < 1
        · rw [decide_eq_true (by simp; omega)]
          go_enter Tryd.func42, Tryd.ntmps42
          go_wp2
          go_quiet ((go_at_call 43; exact Calls.quiet_of (unhide HW _)))
          go_wp2
          go_ret
          exact ⟨by first | rfl | exact retBool (decide_eq_false (by omega)) | exact retBool (decide_eq_true (by omega)), grew_drewN (grew_alloc (grew_refl _) _) _⟩
        · rw [decide_eq_false (by simp; omega)]
          go_enter Tryd.func42, Tryd.ntmps42
          go_wp2
          go_quiet ((go_at_call 43; exact Calls.quiet_of (unhide HW _)))
          go_wp2
          go_ret
          exact ⟨by first | rfl | exact retBool (decide_eq_false (by omega)) | exact retBool (decide_eq_true (by omega)), grew_drewN (grew_alloc (grew_refl _) _) _⟩
      · by_cases hl : m < 256
        · rw [decide_eq_true (by simp; omega)]
          go_enter Tryd.func42, Tryd.ntmps42
          go_wp2
          go_quiet ((go_at_call 43; exact Calls.quiet_of (unhide HW _)))
          go_wp2
          go_ret
          exact ⟨by first | rfl | exact retBool (decide_eq_false (by omega)) | exact retBool (decide_eq_true (by omega)), grew_drewN (grew_alloc (grew_refl _) _) _⟩
        · rw [decide_eq_false (by simp; omega)]
          go_enter Tryd.func42, Tryd.ntmps42
          go_wp2
          go_quiet ((go_at_call 43; exact Calls.quiet_of (unhide HW _)))
          go_wp2
          go_ret
          exact ⟨by first | rfl | exact retBool (decide_eq_false (by omega)) | exact retBool (decide_eq_true (by omega)), grew_drewN (grew_alloc (grew_refl _) _) _⟩
      · by_cases hl : m < 65536
        · rw [decide_eq_true (by simp; omega)]
          go_enter Tryd.func42, Tryd.ntmps42
          go_wp2
          go_quiet ((go_at_call 43; exact Calls.quiet_of (unhide HW _)))
          go_wp2
          go_ret
          exact ⟨by first | rfl | exact retBool (decide_eq_false (by omega)) | exact retBool (decide_eq_true (by omega)), grew_drewN (grew_alloc (grew_refl _) _) _⟩
        · rw [decide_eq_false (by simp; omega)]
          go_enter Tryd.func42, Tryd.ntmps42
          go_wp2
          go_quiet ((go_at_call 43; exact Calls.quiet_of (unhide HW _)))
          go_wp2
          go_ret
          exact ⟨by first | rfl | exact retBool (decide_eq_false (by omega)) | exact retBool (decide_eq_true (by omega)), grew_drewN (grew_alloc (grew_refl _) _) _⟩
    · rw [decide_eq_false (fun h => hm h.1)]
      have hd : decide (0 ≤ m) = false := by simpa using hm
      go_enter Tryd.func42, Tryd.ntmps42
      go_wp2
      go_quiet (fail)
      go_wp2
      go_ret
      exact ⟨by first | rfl | exact retBool (decide_eq_false (by omega)) | exact retBool (decide_eq_true (by omega)), grew_drewN (grew_alloc (grew_refl _) _) _⟩
end Go.Proofs.YtknpfippdddnhabDoor
