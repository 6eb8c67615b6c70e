/- Several texts as one. -/
import Derived.Test.YtggllgimlfchhaaGreatXH

/- Record: entries that may be. -/
namespace Go.Proofs.YtggllgimlfchhaaGreat
open Go.RowKit
set_option maxRecDepth 100000

theorem okTs_nil : OkTs [] := fun t h => by cases h
set_option maxHeartbeats 3200000 in
theorem entryMayBe_any (cs : Array Value) (t : EntD) (w : World) (ht : SeesE w cs t) (ot : OkTs t.txns) :
    Calls Tryz.prog 33 #[.agg cs] w fun e w' => e = .returned (.bool (mayE t)) ∧ Below w.heap.size w w' := by
  obtain ⟨k, f, n, txns⟩ := t
  obtain ⟨_, rfl, ht⟩ := ht
  simp only at ht ot ⊢
  have HT : Hid (∀ w', Below w.heap.size w w' → SeesTs w' _ txns) := fun w' h => ht.below h
  obtain ⟨ta, tc, _, _, rfl, htc, htm, _⟩ := ht
  have HOT := hide ot
  clear ot
  have HB : Hid (Below w.heap.size w (w.alloc (.cells #[.int .i64 k, .int .i64 f, .int .i64 n, .slice ta txns.length tc] 29))) := (Below.refl _ _).alloc (Nat.le_refl _) _
  by_cases hk0 : k = 0
  · subst hk0
    have hm : mayE ⟨0, f, n, txns⟩ = decide (EntD.mk 0 f n txns = dE) := by unfold mayE; rw [if_pos rfl]
    rw [hm]
    have HQ := hide (sameEntry_any _ _ ⟨0, f, n, txns⟩ dE (w.alloc (.cells #[.int .i64 0, .int .i64 f, .int .i64 n, .slice ta txns.length tc] 29)) ⟨_, rfl, unhide HT _ (unhide HB)⟩ (SeesE.zero _) (unhide HOT) okTs_nil)
    simp only at HQ
    go_enter Tryz.func33, Tryz.ntmps33
    go_wp2_with fail
    refine (unhide HQ).mono ?_
    rintro e w2 ⟨rfl, hb2⟩
    have HB2 : Hid (Below w.heap.size w w2) := (unhide HB).trans (hb2.mono (unhide HB).size)
    clear hb2
    go_wp2_with fail
    go_ret
    exact ⟨rfl, unhide HB2⟩
  by_cases hk1 : k = 1
  · subst hk1
    have hm : mayE ⟨1, f, n, txns⟩ = (isRep f && isCnt n && decide (1 ≤ txns.length) && decide (txns.length ≤ 16) && txns.all mayT) := by unfold mayE; rw [if_neg (by simp), if_pos rfl]
    rw [hm]
    have HQ := hide (all_any _ txns (w.alloc (.cells #[.int .i64 1, .int .i64 f, .int .i64 n, .slice ta txns.length tc] 29)) (unhide HT _ (unhide HB)))
    clear hk0 hm
    cases h1 : isRep f with
    | false =>
      go_enter Tryz.func33, Tryz.ntmps33
      go_wp2_with (first | (go_at_call 62; refine (isReplica_any _ _).mono ?_; rintro e w' ⟨rfl, rfl⟩) | fail)
      go_ret
      exact ⟨retBool (by simp), unhide HB⟩
    | true =>
    cases h2 : isCnt n with
    | false =>
      go_enter Tryz.func33, Tryz.ntmps33
      go_wp2_with (first | (go_at_call 62; refine (isReplica_any _ _).mono ?_; rintro e w' ⟨rfl, rfl⟩) | (go_at_call 59; refine (isCount_any _ _).mono ?_; rintro e w' ⟨rfl, rfl⟩) | fail)
      go_ret
      exact ⟨retBool (by simp), unhide HB⟩
    | true =>
    by_cases h3 : txns.length < 1
    · have hd : decide (1 ≤ txns.length) = false := decide_eq_false (by omega)
      rw [hd]
      go_enter Tryz.func33, Tryz.ntmps33
      go_wp2_with (first | (go_at_call 62; refine (isReplica_any _ _).mono ?_; rintro e w' ⟨rfl, rfl⟩) | (go_at_call 59; refine (isCount_any _ _).mono ?_; rintro e w' ⟨rfl, rfl⟩) | fail)
      go_ret
      exact ⟨retBool (by simp), unhide HB⟩
    by_cases h4 : 16 < txns.length
    · have hd : decide (txns.length ≤ 16) = false := decide_eq_false (by omega)
      rw [hd]
      go_enter Tryz.func33, Tryz.ntmps33
      go_wp2_with (first | (go_at_call 62; refine (isReplica_any _ _).mono ?_; rintro e w' ⟨rfl, rfl⟩) | (go_at_call 59; refine (isCount_any _ _).mono ?_; rintro e w' ⟨rfl, rfl⟩) | fail)
      go_ret
      exact ⟨retBool (by simp), unhide HB⟩
    · have hd : decide (1 ≤ txns.length) = true := decide_eq_true (by omega)
      have hd2 : decide (txns.length ≤ 16) = true := decide_eq_true (by omega)
      rw [hd, hd2]
      clear hd hd2
      go_enter Tryz.func33, Tryz.ntmps33
      go_wp2_with (first | (go_at_call 62; refine (isReplica_any _ _).mono ?_; rintro e w' ⟨rfl, rfl⟩) | (go_at_call 59; refine (isCount_any _ _).mono ?_; rintro e w' ⟨rfl, rfl⟩) | fail)
      refine (unhide HQ).mono ?_
      rintro e w2 ⟨rfl, hb2⟩
      have HB2 : Hid (Below w.heap.size w w2) := (unhide HB).trans (hb2.mono (unhide HB).size)
      clear hb2
      go_wp2_with fail
      go_ret
      exact ⟨retBool (by simp), unhide HB2⟩
  · have hm : mayE ⟨k, f, n, txns⟩ = false := by unfold mayE; rw [if_neg hk0, if_neg hk1]
    rw [hm]
    go_enter Tryz.func33, Tryz.ntmps33
    go_wp2_with fail
    go_ret
    exact ⟨rfl, unhide HB⟩

set_option maxHeartbeats 6400000 in
theorem mayEntry_any (cs : Array Value) (t : EntD) (w : World) (ht : SeesE w cs t) (ot : OkTs t.txns) :
    Calls Tryz.prog 34 #[.agg cs] w fun e w' => e = .returned (.bool (mayE t)) ∧ Below w.heap.size w w' := by
  obtain ⟨k, f, n, txns⟩ := t
  obtain ⟨_, rfl, ht⟩ := ht
  simp only at ht ot ⊢
  have HT : Hid (∀ w', Below w.heap.size w w' → SeesTs w' _ txns) := fun w' h => ht.below h
  obtain ⟨ta, tc, _, _, rfl, htc, htm, _⟩ := ht
  have HOT := hide ot
  clear ot
  have HB : Hid (Below w.heap.size w (w.alloc (.cells #[.int .i64 k, .int .i64 f, .int .i64 n, .slice ta txns.length tc] 29))) := (Below.refl _ _).alloc (Nat.le_refl _) _
  by_cases hk0 : k = 0
  · subst hk0
    have hm : mayE ⟨0, f, n, txns⟩ = decide (EntD.mk 0 f n txns = dE) := by unfold mayE; rw [if_pos rfl]
    rw [hm]
    have HQ := hide (refSameEntry_any _ _ ⟨0, f, n, txns⟩ dE (w.alloc (.cells #[.int .i64 0, .int .i64 f, .int .i64 n, .slice ta txns.length tc] 29)) ⟨_, rfl, unhide HT _ (unhide HB)⟩ (SeesE.zero _) (unhide HOT) okTs_nil)
    simp only at HQ
    go_enter Tryz.func34, Tryz.ntmps34
    go_wp2_with fail
    refine (unhide HQ).mono ?_
    rintro e w2 ⟨rfl, hb2⟩
    have HB2 : Hid (Below w.heap.size w w2) := (unhide HB).trans (hb2.mono (unhide HB).size)
    clear hb2
    go_wp2_with fail
    go_ret
    exact ⟨rfl, unhide HB2⟩
  have hm : mayE ⟨k, f, n, txns⟩ = (decide (k = 1) && isRep f && isCnt n && decide (1 ≤ txns.length) && decide (txns.length ≤ 16) && txns.all mayT) := by
    unfold mayE
    rw [if_neg hk0]
    by_cases h : k = 1 <;> simp [h]
  rw [hm]
  clear hm
  have HBX : Hid (∀ w' : World, Below (w.heap.size + 1) (w.alloc (.cells #[.int .i64 k, .int .i64 f, .int .i64 n, .slice ta txns.length tc] 29)) w' → w'.cell? ⟨w.heap.size, 0, none⟩ = some (.int .i64 k) ∧ w'.cell? ⟨w.heap.size, 1, none⟩ = some (.int .i64 f) ∧ w'.cell? ⟨w.heap.size, 2, none⟩ = some (.int .i64 n) ∧ w'.cell? ⟨w.heap.size, 3, none⟩ = some (.slice ta txns.length tc)) := fun w' hb => by
    refine ⟨?_, ?_, ?_, ?_⟩
    · rw [hb.cell (p := ⟨w.heap.size, 0, none⟩) (Nat.lt_succ_self _), World.cell?_alloc_new]; rfl
    · rw [hb.cell (p := ⟨w.heap.size, 1, none⟩) (Nat.lt_succ_self _), World.cell?_alloc_new]; rfl
    · rw [hb.cell (p := ⟨w.heap.size, 2, none⟩) (Nat.lt_succ_self _), World.cell?_alloc_new]; rfl
    · rw [hb.cell (p := ⟨w.heap.size, 3, none⟩) (Nat.lt_succ_self _), World.cell?_alloc_new]; rfl
  have hkb : (k == 0) = false := by simpa using hk0
  go_enter Tryz.func34, Tryz.ntmps34
  go_wp2
  go_loopw [3] (fun c wr => ∃ t : Nat, t ≤ txns.length ∧ c = .int .i64 t ∧ (∀ u, u < t → mayT (txns.getD u dT) = true) ∧ Below (w.heap.size + 1) (w.alloc (.cells #[.int .i64 k, .int .i64 f, .int .i64 n, .slice ta txns.length tc] 29)) wr) (fun c _ => txns.length - (intOf c).toNat)
  case atStart => exact ⟨0, by omega, rfl, fun u hu => absurd hu (by omega), Below.refl _ _⟩
  case round =>
    obtain ⟨t, ht, rfl, hall, hb⟩ := hrel
    have HA := hide hall
    have HW := hide hb
    have hbw : Below w.heap.size w wr := (unhide HB).trans (hb.mono (by omega))
    have HBW := hide hbw
    obtain ⟨x0, x1, x2, x3⟩ := unhide HBX wr hb
    by_cases hlt : t < txns.length
    · obtain ⟨ao', ca', ga, oa, hv, _, _, ha', h1⟩ := unhide HT wr hbw
      simp only [Value.slice.injEq, true_and] at hv
      obtain ⟨rfl, rfl⟩ := hv
      obtain rfl := ha' (by omega)
      obtain ⟨cvk, avk, rvk, wvk, kh0, kh1, kh2, kh3, kh4, kh5, khs⟩ := h1 t hlt
      obtain ⟨k1, kc1, k2, kc2, k3, kc3, k4, kc4, rfl, rfl, rfl, rfl⟩ := khs.shape
      obtain ⟨kd, ke⟩ : ∃ d, txns.getD t dT = d := ⟨_, rfl⟩
      rw [ke] at kh0 kh1 kh2 kh3 kh4 kh5 khs
      obtain ⟨ks, kes⟩ : ∃ n, kd.ses = n := ⟨_, rfl⟩
      obtain ⟨kq, keq⟩ : ∃ n, kd.req = n := ⟨_, rfl⟩
      obtain ⟨kn1, ke1⟩ : ∃ n, kd.code.length = n := ⟨_, rfl⟩
      obtain ⟨kn2, ke2⟩ : ∃ n, kd.args.length = n := ⟨_, rfl⟩
      obtain ⟨kn3, ke3⟩ : ∃ n, kd.reads.length = n := ⟨_, rfl⟩
      obtain ⟨kn4, ke4⟩ : ∃ n, kd.writes.length = n := ⟨_, rfl⟩
      rw [kes, keq, ke1, ke2, ke3, ke4] at khs
      rw [kes] at kh0
      rw [keq] at kh1
      rw [ke1] at kh2
      rw [ke2] at kh3
      rw [ke3] at kh4
      rw [ke4] at kh5
      have kE := hide ke
      have kHS := hide khs
      clear khs ke kes keq ke1 ke2 ke3 ke4
      have HM := hide (mayTxn_any _ kd _ (unhide kHS))
      clear h1 ha' hall hb hbw
      go_wp2_with fail
      refine (unhide HM).mono ?_
      rintro e w2 ⟨rfl, hb2⟩
      have HB2 := hide hb2
      clear hb2 HM
      cases hmy : mayT kd with
      | false =>
        go_wp2_with fail
        go_ret
        exact ⟨retBool (by rw [all_no hlt (by rw [unhide kE]; exact hmy)]; simp), (unhide HBW).trans ((unhide HB2).mono (unhide HBW).size)⟩
      | true =>
        go_wp2_with fail
        go_roundw
        case rel =>
          have hal2 : ∀ u, u < t + 1 → mayT (txns.getD u dT) = true := fun u hu => by
            by_cases hut : u < t
            · exact unhide HA u hut
            · obtain rfl : u = t := by omega
              rw [unhide kE]; exact hmy
          have hbz := (unhide HW).trans ((unhide HB2).mono (by have := (unhide HW).size; simp at this; omega))
          first | exact ⟨t + 1, by omega, by go_num, hal2, hbz⟩ | ((repeat apply Exists.intro); exact ⟨⟨t + 1, by omega, by go_num, hal2, hbz⟩, rfl⟩)
        case measure => simp [intOf]; omega
    · have hy := all_yes (l := txns) (p := mayT) (fun u hu => unhide HA u (by omega))
      have HYA := hide hy
      clear hall hb hbw hy
      by_cases hk1 : k = 1
      case neg =>
        go_wp2_with fail
        go_ret
        exact ⟨retBool (by simp [hk1]), unhide HBW⟩
      subst hk1
      clear hk0 hkb
      cases h1 : isRep f with
      | false =>
        go_wp2_with (first | (go_at_call 64; refine (replica_any _ _).mono ?_; rintro e w' ⟨rfl, rfl⟩) | (go_at_call 60; refine (count_any _ _).mono ?_; rintro e w' ⟨rfl, rfl⟩) | fail)
        go_ret
        exact ⟨retBool (by simp), unhide HBW⟩
      | true =>
      cases h2 : isCnt n with
      | false =>
        go_wp2_with (first | (go_at_call 64; refine (replica_any _ _).mono ?_; rintro e w' ⟨rfl, rfl⟩) | (go_at_call 60; refine (count_any _ _).mono ?_; rintro e w' ⟨rfl, rfl⟩) | fail)
        go_ret
        exact ⟨retBool (by simp), unhide HBW⟩
      | true =>
      by_cases h3 : txns.length < 1
      · have hd : Hid (decide (1 ≤ txns.length) = false) := decide_eq_false (by omega)
        go_wp2_with (first | (go_at_call 64; refine (replica_any _ _).mono ?_; rintro e w' ⟨rfl, rfl⟩) | (go_at_call 60; refine (count_any _ _).mono ?_; rintro e w' ⟨rfl, rfl⟩) | fail)
        go_ret
        exact ⟨retBool (by rw [unhide hd]; simp), unhide HBW⟩
      · have hd : Hid (decide (1 ≤ txns.length) = true) := decide_eq_true (by omega)
        go_wp2_with (first | (go_at_call 64; refine (replica_any _ _).mono ?_; rintro e w' ⟨rfl, rfl⟩) | (go_at_call 60; refine (count_any _ _).mono ?_; rintro e w' ⟨rfl, rfl⟩) | fail)
        go_ret
        exact ⟨retBool (by rw [unhide hd, unhide HYA]; simp only [Bool.true_and, Bool.and_true]; exact decide_eq_decide.2 (by omega)), unhide HBW⟩
end Go.Proofs.YtggllgimlfchhaaGreat

/- Record: what the checks answer, of keys, transactions, entries. -/
namespace Go.Proofs.YtggllgimlfchhaaGreat
open Go.RowKit
set_option maxRecDepth 100000

set_option maxHeartbeats 400000 in
theorem errno_any (b : Bool) (w : World) : Calls Tryz.prog 29 #[.bool b] w fun e w' => e = .returned (.int .i64 (if b then 0 else 40)) ∧ w = w' := by
  cases b <;>
  · go_enter Tryz.func29, Tryz.ntmps29
    go_wp2
    go_ret
    exact ⟨rfl, rfl⟩

set_option maxHeartbeats 800000 in
theorem checkKeys_any (v : Value) (l : List (Int × Int)) (w : World) (hs : SeesK w v l) :
    Calls Tryz.prog 7 #[v] w fun e w' => e = .returned (.int .i64 (if mayK l then 0 else 40)) ∧ Below w.heap.size w w' := by
  have hsT := hs
  obtain ⟨ao, cap, _, _, rfl, _⟩ := hs
  have hal : Below w.heap.size w w := Below.refl _ _
  have HM := hide (keysMayBe_any _ l w hsT)
  have HAL := hide hal
  have HE := hide (verdict_any (mayK l))
  clear hal hsT
  generalize mayK l = m at *
  have HE2 : Hid (∀ E : Int, (if m = true then (0 : Int) else 40) = E → ∀ w, Calls Tryz.prog 27 #[.bool m] w fun e w' => e = .returned (.int .i64 E) ∧ w = w') := fun E h w => by rw [← h]; exact unhide HE w
  obtain ⟨E, hE⟩ : ∃ E, (if m = true then (0 : Int) else 40) = E := ⟨_, rfl⟩
  rw [hE]
  have HE3 := hide (unhide HE2 E hE)
  clear HE HE2 hE
  go_enter Tryz.func7, Tryz.ntmps7
  go_wp2_with fail
  refine (unhide HM).mono ?_
  rintro e w1 ⟨rfl, hb1⟩
  have HB : Hid (Below w.heap.size w w1) := (unhide HAL).trans (hb1.mono (unhide HAL).size)
  clear hb1
  go_wp2_with fail
  refine (unhide HE3 w1).mono ?_
  rintro e w2 ⟨rfl, rfl⟩
  go_wp2_with fail
  go_ret
  exact ⟨rfl, unhide HB⟩

set_option maxHeartbeats 800000 in
theorem refCheckKeys_any (v : Value) (l : List (Int × Int)) (w : World) (hs : SeesK w v l) :
    Calls Tryz.prog 8 #[v] w fun e w' => e = .returned (.int .i64 (if mayK l then 0 else 40)) ∧ Below w.heap.size w w' := by
  have hsT := hs
  obtain ⟨ao, cap, _, _, rfl, _⟩ := hs
  have hal : Below w.heap.size w w := Below.refl _ _
  have HM := hide (mayKeys_any _ l w hsT)
  have HAL := hide hal
  have HE := hide (errno_any (mayK l))
  clear hal hsT
  generalize mayK l = m at *
  have HE2 : Hid (∀ E : Int, (if m = true then (0 : Int) else 40) = E → ∀ w, Calls Tryz.prog 29 #[.bool m] w fun e w' => e = .returned (.int .i64 E) ∧ w = w') := fun E h w => by rw [← h]; exact unhide HE w
  obtain ⟨E, hE⟩ : ∃ E, (if m = true then (0 : Int) else 40) = E := ⟨_, rfl⟩
  rw [hE]
  have HE3 := hide (unhide HE2 E hE)
  clear HE HE2 hE
  go_enter Tryz.func8, Tryz.ntmps8
  go_wp2_with fail
  refine (unhide HM).mono ?_
  rintro e w1 ⟨rfl, hb1⟩
  have HB : Hid (Below w.heap.size w w1) := (unhide HAL).trans (hb1.mono (unhide HAL).size)
  clear hb1
  go_wp2_with fail
  refine (unhide HE3 w1).mono ?_
  rintro e w2 ⟨rfl, rfl⟩
  go_wp2_with fail
  go_ret
  exact ⟨rfl, unhide HB⟩

set_option maxHeartbeats 800000 in
theorem checkTxn_any (cs : Array Value) (t : TxnD) (w : World) (hs : SeesT w cs t) :
    Calls Tryz.prog 9 #[.agg cs] w fun e w' => e = .returned (.int .i64 (if mayT t then 0 else 40)) ∧ Below w.heap.size w w' := by
  have hsT := hs
  obtain ⟨cv, av, rv, wv, rfl, _⟩ := hs
  have hal : Below w.heap.size w (w.alloc (.cells #[.int .i64 t.ses, .int .i64 t.req, cv, av, rv, wv] 26)) := (Below.refl _ _).alloc (Nat.le_refl _) _
  have HM := hide (txnMayBe_any _ t _ (hsT.below hal))
  have HAL := hide hal
  have HE := hide (verdict_any (mayT t))
  clear hal hsT
  generalize mayT t = m at *
  have HE2 : Hid (∀ E : Int, (if m = true then (0 : Int) else 40) = E → ∀ w, Calls Tryz.prog 27 #[.bool m] w fun e w' => e = .returned (.int .i64 E) ∧ w = w') := fun E h w => by rw [← h]; exact unhide HE w
  obtain ⟨E, hE⟩ : ∃ E, (if m = true then (0 : Int) else 40) = E := ⟨_, rfl⟩
  rw [hE]
  have HE3 := hide (unhide HE2 E hE)
  clear HE HE2 hE
  go_enter Tryz.func9, Tryz.ntmps9
  go_wp2_with fail
  refine (unhide HM).mono ?_
  rintro e w1 ⟨rfl, hb1⟩
  have HB : Hid (Below w.heap.size w w1) := (unhide HAL).trans (hb1.mono (unhide HAL).size)
  clear hb1
  go_wp2_with fail
  refine (unhide HE3 w1).mono ?_
  rintro e w2 ⟨rfl, rfl⟩
  go_wp2_with fail
  go_ret
  exact ⟨rfl, unhide HB⟩

set_option maxHeartbeats 800000 in
theorem refCheckTxn_any (cs : Array Value) (t : TxnD) (w : World) (hs : SeesT w cs t) :
    Calls Tryz.prog 10 #[.agg cs] w fun e w' => e = .returned (.int .i64 (if mayT t then 0 else 40)) ∧ Below w.heap.size w w' := by
  have hsT := hs
  obtain ⟨cv, av, rv, wv, rfl, _⟩ := hs
  have hal : Below w.heap.size w (w.alloc (.cells #[.int .i64 t.ses, .int .i64 t.req, cv, av, rv, wv] 26)) := (Below.refl _ _).alloc (Nat.le_refl _) _
  have HM := hide (mayTxn_any _ t _ (hsT.below hal))
  have HAL := hide hal
  have HE := hide (errno_any (mayT t))
  clear hal hsT
  generalize mayT t = m at *
  have HE2 : Hid (∀ E : Int, (if m = true then (0 : Int) else 40) = E → ∀ w, Calls Tryz.prog 29 #[.bool m] w fun e w' => e = .returned (.int .i64 E) ∧ w = w') := fun E h w => by rw [← h]; exact unhide HE w
  obtain ⟨E, hE⟩ : ∃ E, (if m = true then (0 : Int) else 40) = E := ⟨_, rfl⟩
  rw [hE]
  have HE3 := hide (unhide HE2 E hE)
  clear HE HE2 hE
  go_enter Tryz.func10, Tryz.ntmps10
  go_wp2_with fail
  refine (unhide HM).mono ?_
  rintro e w1 ⟨rfl, hb1⟩
  have HB : Hid (Below w.heap.size w w1) := (unhide HAL).trans (hb1.mono (unhide HAL).size)
  clear hb1
  go_wp2_with fail
  refine (unhide HE3 w1).mono ?_
  rintro e w2 ⟨rfl, rfl⟩
  go_wp2_with fail
  go_ret
  exact ⟨rfl, unhide HB⟩

set_option maxHeartbeats 800000 in
theorem checkEntry_any (cs : Array Value) (t : EntD) (w : World) (hs : SeesE w cs t) (ot : OkTs t.txns) :
    Calls Tryz.prog 11 #[.agg cs] w fun e w' => e = .returned (.int .i64 (if mayE t then 0 else 40)) ∧ Below w.heap.size w w' := by
  have hsT := hs
  obtain ⟨tv, rfl, _⟩ := hs
  have hal : Below w.heap.size w (w.alloc (.cells #[.int .i64 t.kind, .int .i64 t.frm, .int .i64 t.num, tv] 29)) := (Below.refl _ _).alloc (Nat.le_refl _) _
  have HM := hide (entryMayBe_any _ t _ (hsT.below hal) ot)
  have HAL := hide hal
  have HE := hide (verdict_any (mayE t))
  clear hal hsT
  generalize mayE t = m at *
  have HE2 : Hid (∀ E : Int, (if m = true then (0 : Int) else 40) = E → ∀ w, Calls Tryz.prog 27 #[.bool m] w fun e w' => e = .returned (.int .i64 E) ∧ w = w') := fun E h w => by rw [← h]; exact unhide HE w
  obtain ⟨E, hE⟩ : ∃ E, (if m = true then (0 : Int) else 40) = E := ⟨_, rfl⟩
  rw [hE]
  have HE3 := hide (unhide HE2 E hE)
  clear HE HE2 hE
  go_enter Tryz.func11, Tryz.ntmps11
  go_wp2_with fail
  refine (unhide HM).mono ?_
  rintro e w1 ⟨rfl, hb1⟩
  have HB : Hid (Below w.heap.size w w1) := (unhide HAL).trans (hb1.mono (unhide HAL).size)
  clear hb1
  go_wp2_with fail
  refine (unhide HE3 w1).mono ?_
  rintro e w2 ⟨rfl, rfl⟩
  go_wp2_with fail
  go_ret
  exact ⟨rfl, unhide HB⟩

set_option maxHeartbeats 800000 in
theorem refCheckEntry_any (cs : Array Value) (t : EntD) (w : World) (hs : SeesE w cs t) (ot : OkTs t.txns) :
    Calls Tryz.prog 12 #[.agg cs] w fun e w' => e = .returned (.int .i64 (if mayE t then 0 else 40)) ∧ Below w.heap.size w w' := by
  have hsT := hs
  obtain ⟨tv, rfl, _⟩ := hs
  have hal : Below w.heap.size w (w.alloc (.cells #[.int .i64 t.kind, .int .i64 t.frm, .int .i64 t.num, tv] 29)) := (Below.refl _ _).alloc (Nat.le_refl _) _
  have HM := hide (mayEntry_any _ t _ (hsT.below hal) ot)
  have HAL := hide hal
  have HE := hide (errno_any (mayE t))
  clear hal hsT
  generalize mayE t = m at *
  have HE2 : Hid (∀ E : Int, (if m = true then (0 : Int) else 40) = E → ∀ w, Calls Tryz.prog 29 #[.bool m] w fun e w' => e = .returned (.int .i64 E) ∧ w = w') := fun E h w => by rw [← h]; exact unhide HE w
  obtain ⟨E, hE⟩ : ∃ E, (if m = true then (0 : Int) else 40) = E := ⟨_, rfl⟩
  rw [hE]
  have HE3 := hide (unhide HE2 E hE)
  clear HE HE2 hE
  go_enter Tryz.func12, Tryz.ntmps12
  go_wp2_with fail
  refine (unhide HM).mono ?_
  rintro e w1 ⟨rfl, hb1⟩
  have HB : Hid (Below w.heap.size w w1) := (unhide HAL).trans (hb1.mono (unhide HAL).size)
  clear hb1
  go_wp2_with fail
  refine (unhide HE3 w1).mono ?_
  rintro e w2 ⟨rfl, rfl⟩
  go_wp2_with fail
  go_ret
  exact ⟨rfl, unhide HB⟩
end Go.Proofs.YtggllgimlfchhaaGreat
