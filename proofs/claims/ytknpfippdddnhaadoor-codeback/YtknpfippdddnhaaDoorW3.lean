/- fits, number. -/
import Derived.Test.YtknpfippdddnhaaDoorW2
namespace Go.Proofs.YtknpfippdddnhaaDoor
open Go.RowKit
set_option maxRecDepth 100000

theorem i16_same (m : Int) (h1 : -9223372036854775808 ≤ m) (h2 : m ≤ 9223372036854775807) : (m == wrap64 (IntKind.i16.wrap m)) = decide (-32768 ≤ m ∧ m ≤ 32767) := by
  rw [Bool.eq_iff_iff]
  simp [IntKind.wrap, IntKind.signed, IntKind.bits, wrap64]
  omega
set_option maxHeartbeats 1600000 in
theorem fits_any (d o a b m : Int) (w : World) (hT : Tab w) (h0 : 0 ≤ o) (h1 : o < 28) (hm1 : -9223372036854775808 ≤ m) (hm2 : m ≤ 9223372036854775807) : Calls Tryd.prog 89 #[iV d o a b m] w fun e w' => e = .returned (.bool (fit ⟨d, o, a, b, m⟩)) ∧ Grew w w' := by
  by_cases ho : o = 1
  · have e : fit ⟨d, o, a, b, m⟩ = decide (-32768 ≤ m ∧ m ≤ 32767) := if_pos ho
    rw [e, ← i16_same m hm1 hm2]
    subst ho
    go_enter Tryd.func89, Tryd.ntmps89
    go_wp2
    go_ret
    exact ⟨rfl, grew_alloc (grew_refl _) _⟩
  · have g1 : (o == 1) = false := by simpa using ho
    have e : fit ⟨d, o, a, b, m⟩ = decide (0 ≤ m ∧ m < (if (wd o : Int) = 0 then 1 else if (wd o : Int) = 1 then 256 else 65536)) := by
      simp only [fit, if_neg ho]
      have e1 : ((wd o : Int) = 0) = (wd o = 0) := propext (by omega)
      have e2 : ((wd o : Int) = 1) = (wd o = 1) := propext (by omega)
      simp only [e1, e2]
    have hb : Below w.heap.size w (w.alloc (.cells #[.int .i64 d, .int .i64 o, .int .i64 a, .int .i64 b, .int .i64 m] 28)) := below_box _
    have hT' := hT.below hb hT.pos
    have HW : Hid (∀ n, Calls Tryd.prog 90 #[.int .i64 o] ((w.alloc (.cells #[.int .i64 d, .int .i64 o, .int .i64 a, .int .i64 b, .int .i64 m] 28)).drewN n) _) := fun n => wide_any o _ (fun i hi => hT' i hi) h0 h1
    obtain ⟨f1, f2, f3, f4, f5, f6⟩ := op_facts h0 h1
    have q1 : (0 : Int) ≤ wd o ∧ (wd o : Int) ≤ 2 := by omega
    rw [e]
    clear f1 f2 f3 f4 f5 f6 e hb hT hT' ho h0 h1
    generalize (wd o : Int) = s at *
    by_cases hm : 0 ≤ m
    · rcases (by omega : s = 0 ∨ s = 1 ∨ s = 2) with rfl | rfl | rfl
      · by_cases hl : m < 1
        · rw [decide_eq_true (by simp; omega)]
          go_enter Tryd.func89, Tryd.ntmps89
          go_wp2
          go_quiet ((go_at_call 90; exact Calls.quiet_of (unhide HW _)))
          go_wp2
          go_ret
          exact ⟨by first | rfl | exact retBool (decide_eq_false (by omega)) | exact retBool (decide_eq_true (by omega)), grew_drewN (grew_alloc (grew_refl _) _) _⟩
        · rw [decide_eq_false (by simp; omega)]
          go_enter Tryd.func89, Tryd.ntmps89
          go_wp2
          go_quiet ((go_at_call 90; exact Calls.quiet_of (unhide HW _)))
          go_wp2
          go_ret
          exact ⟨by first | rfl | exact retBool (decide_eq_false (by omega)) | exact retBool (decide_eq_true (by omega)), grew_drewN (grew_alloc (grew_refl _) _) _⟩
      · by_cases hl : m < 256
        · rw [decide_eq_true (by simp; omega)]
          go_enter Tryd.func89, Tryd.ntmps89
          go_wp2
          go_quiet ((go_at_call 90; exact Calls.quiet_of (unhide HW _)))
          go_wp2
          go_ret
          exact ⟨by first | rfl | exact retBool (decide_eq_false (by omega)) | exact retBool (decide_eq_true (by omega)), grew_drewN (grew_alloc (grew_refl _) _) _⟩
        · rw [decide_eq_false (by simp; omega)]
          go_enter Tryd.func89, Tryd.ntmps89
          go_wp2
          go_quiet ((go_at_call 90; exact Calls.quiet_of (unhide HW _)))
          go_wp2
          go_ret
          exact ⟨by first | rfl | exact retBool (decide_eq_false (by omega)) | exact retBool (decide_eq_true (by omega)), grew_drewN (grew_alloc (grew_refl _) _) _⟩
      · by_cases hl : m < 65536
        · rw [decide_eq_true (by simp; omega)]
          go_enter Tryd.func89, Tryd.ntmps89
          go_wp2
          go_quiet ((go_at_call 90; exact Calls.quiet_of (unhide HW _)))
          go_wp2
          go_ret
          exact ⟨by first | rfl | exact retBool (decide_eq_false (by omega)) | exact retBool (decide_eq_true (by omega)), grew_drewN (grew_alloc (grew_refl _) _) _⟩
        · rw [decide_eq_false (by simp; omega)]
          go_enter Tryd.func89, Tryd.ntmps89
          go_wp2
          go_quiet ((go_at_call 90; exact Calls.quiet_of (unhide HW _)))
          go_wp2
          go_ret
          exact ⟨by first | rfl | exact retBool (decide_eq_false (by omega)) | exact retBool (decide_eq_true (by omega)), grew_drewN (grew_alloc (grew_refl _) _) _⟩
    · rw [decide_eq_false (fun h => hm h.1)]
      have hd : decide (0 ≤ m) = false := by simpa using hm
      go_enter Tryd.func89, Tryd.ntmps89
      go_wp2
      go_quiet (fail)
      go_wp2
      go_ret
      exact ⟨by first | rfl | exact retBool (decide_eq_false (by omega)) | exact retBool (decide_eq_true (by omega)), grew_drewN (grew_alloc (grew_refl _) _) _⟩
end Go.Proofs.YtknpfippdddnhaaDoor
