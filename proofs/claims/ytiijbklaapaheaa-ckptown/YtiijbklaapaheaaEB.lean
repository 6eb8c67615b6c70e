/- The document's Encode that refuses. -/
import Derived.Test.YtiijbklaapaheaaEA
namespace Go.Proofs.Ytiijbklaapaheaa
open Go.RowKit
set_option maxRecDepth 100000

theorem faultE_not {number slot last : Int} {len : Nat} (h : faultE number slot last len ≠ 0) :
    (faultE number slot last len = 1 ∧ (isC number = false ∨ (isC number = true ∧ number < 1) ∨ (isC number = true ∧ 1 ≤ number ∧ isC slot = false) ∨ (isC number = true ∧ 1 ≤ number ∧ isC slot = true ∧ isC last = false))) ∨
    (faultE number slot last len = 3 ∧ isC number = true ∧ 1 ≤ number ∧ isC slot = true ∧ isC last = true ∧ 524288 < len) := by
  unfold faultE at *
  by_cases c : 1 ≤ number ∧ number ≤ 1099511627776 ∧ isC slot = true ∧ isC last = true
  · rw [if_pos c] at *
    right
    by_cases c2 : len ≤ 524288
    · rw [if_pos c2] at h; exact absurd rfl h
    · rw [if_neg c2]
      exact ⟨rfl, isC_iff.2 ⟨by have := c.1; omega, c.2.1⟩, c.1, c.2.2.1, c.2.2.2, by omega⟩
  · rw [if_neg c] at *
    left
    refine ⟨rfl, ?_⟩
    cases h1 : isC number
    · exact Or.inl rfl
    · right
      have hc := isC_iff.1 h1
      by_cases h2 : number < 1
      · exact Or.inl ⟨rfl, h2⟩
      · right
        cases h3 : isC slot
        · exact Or.inl ⟨rfl, by omega, rfl⟩
        · right
          refine ⟨rfl, by omega, rfl, ?_⟩
          cases h4 : isC last
          · rfl
          · exact absurd ⟨by omega, hc.2, h3, h4⟩ c

set_option maxHeartbeats 1600000 in
theorem rencode_err (number slot last : Int) (ao : Option Addr) (len cap : Nat) (w : World) (hl : len ≤ 9223372036854775807) (hf : faultE number slot last len ≠ 0) :
    Calls Try.prog 9 #[.int .i64 number, .agg #[.int .i64 slot, .int .i64 last, .slice ao len cap]] w fun e w' => e = .returned (.tuple #[.slice none 0 0, .int .i64 (faultE number slot last len)]) ∧ Below w.heap.size w w' := by
  obtain ⟨B, hB⟩ : ∃ B, w.alloc (.cells #[.int .i64 slot, .int .i64 last, .slice ao len cap] 24) = B := ⟨_, rfl⟩
  have HBB : Hid (Below w.heap.size w B) := hB ▸ (Below.refl _ _).alloc (Nat.le_refl _) _
  have HSZ : Hid (B.heap.size = w.heap.size + 1) := by show _ = _; rw [← hB]; simp
  obtain ⟨q0, q1, q2⟩ : B.cell? ⟨w.heap.size, 0, none⟩ = some (.int .i64 slot) ∧ B.cell? ⟨w.heap.size, 1, none⟩ = some (.int .i64 last) ∧ B.cell? ⟨w.heap.size, 2, none⟩ = some (.slice ao len cap) := box3 (by rw [hB, ← unhide HSZ]; exact Below.refl _ _)
  have HC0 := hide (count_any number B)
  have HC1 := hide (count_any slot B)
  have HC2 := hide (count_any last B)
  rcases faultE_not hf with ⟨he, h1 | ⟨h1, h2⟩ | ⟨h1, h2, h3⟩ | ⟨h1, h2, h3, h4⟩⟩ | ⟨he, h1, h2, h3, h4, h5⟩
  · rw [he]
    rw [h1] at HC0
    clear hf he
    go_enter Try.func9, Try.ntmps9
    go_wp2_with (first | rw [hB] | (go_at_call 30; refine (unhide HC0).mono ?_; rintro e w1 ⟨rfl, rfl⟩))
    go_ret2
    exact ⟨rfl, unhide HBB⟩
  · rw [he]
    rw [h1] at HC0
    clear hf he
    go_enter Try.func9, Try.ntmps9
    go_wp2_with (first | rw [hB] | (go_at_call 30; refine (unhide HC0).mono ?_; rintro e w1 ⟨rfl, rfl⟩))
    go_ret2
    exact ⟨rfl, unhide HBB⟩
  · rw [he]
    rw [h1] at HC0
    rw [h3] at HC1
    clear hf he
    go_enter Try.func9, Try.ntmps9
    go_wp2_with (first | rw [hB] | fail)
    refine (unhide HC0).mono ?_
    rintro e w1 ⟨rfl, rfl⟩
    go_wp2_with fail
    refine (unhide HC1).mono ?_
    rintro e w1 ⟨rfl, rfl⟩
    go_wp2
    go_ret2
    exact ⟨rfl, unhide HBB⟩
  · rw [he]
    rw [h1] at HC0
    rw [h3] at HC1
    rw [h4] at HC2
    clear hf he
    go_enter Try.func9, Try.ntmps9
    go_wp2_with (first | rw [hB] | fail)
    refine (unhide HC0).mono ?_
    rintro e w1 ⟨rfl, rfl⟩
    go_wp2_with fail
    refine (unhide HC1).mono ?_
    rintro e w1 ⟨rfl, rfl⟩
    go_wp2_with fail
    refine (unhide HC2).mono ?_
    rintro e w1 ⟨rfl, rfl⟩
    go_wp2
    go_ret2
    exact ⟨rfl, unhide HBB⟩
  · rw [he]
    rw [h1] at HC0
    rw [h3] at HC1
    rw [h4] at HC2
    clear hf he
    go_enter Try.func9, Try.ntmps9
    go_wp2_with (first | rw [hB] | fail)
    refine (unhide HC0).mono ?_
    rintro e w1 ⟨rfl, rfl⟩
    go_wp2_with fail
    refine (unhide HC1).mono ?_
    rintro e w1 ⟨rfl, rfl⟩
    go_wp2_with fail
    refine (unhide HC2).mono ?_
    rintro e w1 ⟨rfl, rfl⟩
    go_wp2
    go_ret2
    exact ⟨rfl, unhide HBB⟩

end Go.Proofs.Ytiijbklaapaheaa
