/- Record: entries that may be. -/
import Derived.Test.YtggllgimlfchhaaXH
namespace Go.Proofs.Ytggllgimlfchhaa
open Go.RowKit
set_option maxRecDepth 100000

theorem okTs_nil : OkTs [] := fun t h => by cases h
set_option maxHeartbeats 3200000 in
theorem entryMayBe_any (cs : Array Value) (t : EntD) (w : World) (ht : SeesE w cs t) (ot : OkTs t.txns) :
    Calls Try.prog 61 #[.agg cs] w fun e w' => e = .returned (.bool (mayE t)) ∧ Below w.heap.size w w' := by
  obtain ⟨k, f, n, txns⟩ := t
  obtain ⟨_, rfl, ht⟩ := ht
  simp only at ht ot ⊢
  have HT : Hid (∀ w', Below w.heap.size w w' → SeesTs w' _ txns) := fun w' h => ht.below h
  obtain ⟨ta, tc, _, _, rfl, htc, htm, _⟩ := ht
  have HOT := hide ot
  clear ot
  have HB : Hid (Below w.heap.size w (w.alloc (.cells #[.int .i64 k, .int .i64 f, .int .i64 n, .slice ta txns.length tc] 24))) := (Below.refl _ _).alloc (Nat.le_refl _) _
  by_cases hk0 : k = 0
  · subst hk0
    have hm : mayE ⟨0, f, n, txns⟩ = decide (EntD.mk 0 f n txns = dE) := by unfold mayE; rw [if_pos rfl]
    rw [hm]
    have HQ := hide (sameEntry_any _ _ ⟨0, f, n, txns⟩ dE (w.alloc (.cells #[.int .i64 0, .int .i64 f, .int .i64 n, .slice ta txns.length tc] 24)) ⟨_, rfl, unhide HT _ (unhide HB)⟩ (SeesE.zero _) (unhide HOT) okTs_nil)
    simp only at HQ
    go_enter Try.func61, Try.ntmps61
    go_wp2_with fail
    refine (unhide HQ).mono ?_
    rintro e w2 ⟨rfl, hb2⟩
    have HB2 : Hid (Below w.heap.size w w2) := (unhide HB).trans (hb2.mono (unhide HB).size)
    clear hb2
    go_wp2_with fail
    go_ret
    exact ⟨rfl, unhide HB2⟩
  by_cases hk1 : k = 1
  · subst hk1
    have hm : mayE ⟨1, f, n, txns⟩ = (isRep f && isCnt n && decide (1 ≤ txns.length) && decide (txns.length ≤ 16) && txns.all mayT) := by unfold mayE; rw [if_neg (by simp), if_pos rfl]
    rw [hm]
    have HQ := hide (all_any _ txns (w.alloc (.cells #[.int .i64 1, .int .i64 f, .int .i64 n, .slice ta txns.length tc] 24)) (unhide HT _ (unhide HB)))
    clear hk0 hm
    cases h1 : isRep f with
    | false =>
      go_enter Try.func61, Try.ntmps61
      go_wp2_with (first | (go_at_call 86; refine (isReplica_any _ _).mono ?_; rintro e w' ⟨rfl, rfl⟩) | fail)
      go_ret
      exact ⟨retBool (by simp), unhide HB⟩
    | true =>
    cases h2 : isCnt n with
    | false =>
      go_enter Try.func61, Try.ntmps61
      go_wp2_with (first | (go_at_call 86; refine (isReplica_any _ _).mono ?_; rintro e w' ⟨rfl, rfl⟩) | (go_at_call 68; refine (isCount_any _ _).mono ?_; rintro e w' ⟨rfl, rfl⟩) | fail)
      go_ret
      exact ⟨retBool (by simp), unhide HB⟩
    | true =>
    by_cases h3 : txns.length < 1
    · have hd : decide (1 ≤ txns.length) = false := decide_eq_false (by omega)
      rw [hd]
      go_enter Try.func61, Try.ntmps61
      go_wp2_with (first | (go_at_call 86; refine (isReplica_any _ _).mono ?_; rintro e w' ⟨rfl, rfl⟩) | (go_at_call 68; refine (isCount_any _ _).mono ?_; rintro e w' ⟨rfl, rfl⟩) | fail)
      go_ret
      exact ⟨retBool (by simp), unhide HB⟩
    by_cases h4 : 16 < txns.length
    · have hd : decide (txns.length ≤ 16) = false := decide_eq_false (by omega)
      rw [hd]
      go_enter Try.func61, Try.ntmps61
      go_wp2_with (first | (go_at_call 86; refine (isReplica_any _ _).mono ?_; rintro e w' ⟨rfl, rfl⟩) | (go_at_call 68; refine (isCount_any _ _).mono ?_; rintro e w' ⟨rfl, rfl⟩) | fail)
      go_ret
      exact ⟨retBool (by simp), unhide HB⟩
    · have hd : decide (1 ≤ txns.length) = true := decide_eq_true (by omega)
      have hd2 : decide (txns.length ≤ 16) = true := decide_eq_true (by omega)
      rw [hd, hd2]
      clear hd hd2
      go_enter Try.func61, Try.ntmps61
      go_wp2_with (first | (go_at_call 86; refine (isReplica_any _ _).mono ?_; rintro e w' ⟨rfl, rfl⟩) | (go_at_call 68; refine (isCount_any _ _).mono ?_; rintro e w' ⟨rfl, rfl⟩) | fail)
      refine (unhide HQ).mono ?_
      rintro e w2 ⟨rfl, hb2⟩
      have HB2 : Hid (Below w.heap.size w w2) := (unhide HB).trans (hb2.mono (unhide HB).size)
      clear hb2
      go_wp2_with fail
      go_ret
      exact ⟨retBool (by simp), unhide HB2⟩
  · have hm : mayE ⟨k, f, n, txns⟩ = false := by unfold mayE; rw [if_neg hk0, if_neg hk1]
    rw [hm]
    go_enter Try.func61, Try.ntmps61
    go_wp2_with fail
    go_ret
    exact ⟨rfl, unhide HB⟩

end Go.Proofs.Ytggllgimlfchhaa
