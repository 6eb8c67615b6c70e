/- Several texts as one. -/
import Derived.Test.YtggllgimlfchhabGreatKM

/- Record: entries that may be. -/
namespace Go.Proofs.YtggllgimlfchhabGreat
open Go.RowKit
set_option maxRecDepth 100000

theorem okTs_nil : OkTs [] := fun t h => by cases h
set_option maxHeartbeats 3200000 in
theorem entryMayBe_any (cs : Array Value) (t : EntD) (w : World) (ht : SeesE w cs t) (ot : OkTs t.txns) :
    Calls Tryz.prog 23 #[.agg cs] w fun e w' => e = .returned (.bool (mayE t)) ∧ Below w.heap.size w w' := by
  obtain ⟨k, f, n, txns⟩ := t
  obtain ⟨_, rfl, ht⟩ := ht
  simp only at ht ot ⊢
  have HT : Hid (∀ w', Below w.heap.size w w' → SeesTs w' _ txns) := fun w' h => ht.below h
  obtain ⟨ta, tc, _, _, rfl, htc, htm, _⟩ := ht
  have HOT := hide ot
  clear ot
  have HB : Hid (Below w.heap.size w (w.alloc (.cells #[.int .i64 k, .int .i64 f, .int .i64 n, .slice ta txns.length tc] 24))) := (Below.refl _ _).alloc (Nat.le_refl _) _
  by_cases hk0 : k = 0
  · subst hk0
    have hm : mayE ⟨0, f, n, txns⟩ = decide (EntD.mk 0 f n txns = dE) := by unfold mayE; rw [if_pos rfl]
    rw [hm]
    have HQ := hide (sameEntry_any _ _ ⟨0, f, n, txns⟩ dE (w.alloc (.cells #[.int .i64 0, .int .i64 f, .int .i64 n, .slice ta txns.length tc] 24)) ⟨_, rfl, unhide HT _ (unhide HB)⟩ (SeesE.zero _) (unhide HOT) okTs_nil)
    simp only at HQ
    go_enter Tryz.func23, Tryz.ntmps23
    go_wp2_with fail
    refine (unhide HQ).mono ?_
    rintro e w2 ⟨rfl, hb2⟩
    have HB2 : Hid (Below w.heap.size w w2) := (unhide HB).trans (hb2.mono (unhide HB).size)
    clear hb2
    go_wp2_with fail
    go_ret
    exact ⟨rfl, unhide HB2⟩
  by_cases hk1 : k = 1
  · subst hk1
    have hm : mayE ⟨1, f, n, txns⟩ = (isRep f && isCnt n && decide (1 ≤ txns.length) && decide (txns.length ≤ 16) && txns.all mayT) := by unfold mayE; rw [if_neg (by simp), if_pos rfl]
    rw [hm]
    have HQ := hide (all_any _ txns (w.alloc (.cells #[.int .i64 1, .int .i64 f, .int .i64 n, .slice ta txns.length tc] 24)) (unhide HT _ (unhide HB)))
    clear hk0 hm
    cases h1 : isRep f with
    | false =>
      go_enter Tryz.func23, Tryz.ntmps23
      go_wp2_with (first | (go_at_call 50; refine (isReplica_any _ _).mono ?_; rintro e w' ⟨rfl, rfl⟩) | fail)
      go_ret
      exact ⟨retBool (by simp), unhide HB⟩
    | true =>
    cases h2 : isCnt n with
    | false =>
      go_enter Tryz.func23, Tryz.ntmps23
      go_wp2_with (first | (go_at_call 50; refine (isReplica_any _ _).mono ?_; rintro e w' ⟨rfl, rfl⟩) | (go_at_call 51; refine (isCount_any _ _).mono ?_; rintro e w' ⟨rfl, rfl⟩) | fail)
      go_ret
      exact ⟨retBool (by simp), unhide HB⟩
    | true =>
    by_cases h3 : txns.length < 1
    · have hd : decide (1 ≤ txns.length) = false := decide_eq_false (by omega)
      rw [hd]
      go_enter Tryz.func23, Tryz.ntmps23
      go_wp2_with (first | (go_at_call 50; refine (isReplica_any _ _).mono ?_; rintro e w' ⟨rfl, rfl⟩) | (go_at_call 51; refine (isCount_any _ _).mono ?_; rintro e w' ⟨rfl, rfl⟩) | fail)
      go_ret
      exact ⟨retBool (by simp), unhide HB⟩
    by_cases h4 : 16 < txns.length
    · have hd : decide (txns.length ≤ 16) = false := decide_eq_false (by omega)
      rw [hd]
      go_enter Tryz.func23, Tryz.ntmps23
      go_wp2_with (first | (go_at_call 50; refine (isReplica_any _ _).mono ?_; rintro e w' ⟨rfl, rfl⟩) | (go_at_call 51; refine (isCount_any _ _).mono ?_; rintro e w' ⟨rfl, rfl⟩) | fail)
      go_ret
      exact ⟨retBool (by simp), unhide HB⟩
    · have hd : decide (1 ≤ txns.length) = true := decide_eq_true (by omega)
      have hd2 : decide (txns.length ≤ 16) = true := decide_eq_true (by omega)
      rw [hd, hd2]
      clear hd hd2
      go_enter Tryz.func23, Tryz.ntmps23
      go_wp2_with (first | (go_at_call 50; refine (isReplica_any _ _).mono ?_; rintro e w' ⟨rfl, rfl⟩) | (go_at_call 51; refine (isCount_any _ _).mono ?_; rintro e w' ⟨rfl, rfl⟩) | fail)
      refine (unhide HQ).mono ?_
      rintro e w2 ⟨rfl, hb2⟩
      have HB2 : Hid (Below w.heap.size w w2) := (unhide HB).trans (hb2.mono (unhide HB).size)
      clear hb2
      go_wp2_with fail
      go_ret
      exact ⟨retBool (by simp), unhide HB2⟩
  · have hm : mayE ⟨k, f, n, txns⟩ = false := by unfold mayE; rw [if_neg hk0, if_neg hk1]
    rw [hm]
    go_enter Tryz.func23, Tryz.ntmps23
    go_wp2_with fail
    go_ret
    exact ⟨rfl, unhide HB⟩

set_option maxHeartbeats 6400000 in
theorem mayEntry_any (cs : Array Value) (t : EntD) (w : World) (ht : SeesE w cs t) (ot : OkTs t.txns) :
    Calls Tryz.prog 10 #[.agg cs] w fun e w' => e = .returned (.bool (mayE t)) ∧ Below w.heap.size w w' := by
  obtain ⟨k, f, n, txns⟩ := t
  obtain ⟨_, rfl, ht⟩ := ht
  simp only at ht ot ⊢
  have HT : Hid (∀ w', Below w.heap.size w w' → SeesTs w' _ txns) := fun w' h => ht.below h
  obtain ⟨ta, tc, _, _, rfl, htc, htm, _⟩ := ht
  have HOT := hide ot
  clear ot
  have HB : Hid (Below w.heap.size w (w.alloc (.cells #[.int .i64 k, .int .i64 f, .int .i64 n, .slice ta txns.length tc] 24))) := (Below.refl _ _).alloc (Nat.le_refl _) _
  by_cases hk0 : k = 0
  · subst hk0
    have hm : mayE ⟨0, f, n, txns⟩ = decide (EntD.mk 0 f n txns = dE) := by unfold mayE; rw [if_pos rfl]
    rw [hm]
    have HQ := hide (refSameEntry_any _ _ ⟨0, f, n, txns⟩ dE (w.alloc (.cells #[.int .i64 0, .int .i64 f, .int .i64 n, .slice ta txns.length tc] 24)) ⟨_, rfl, unhide HT _ (unhide HB)⟩ (SeesE.zero _) (unhide HOT) okTs_nil)
    simp only at HQ
    go_enter Tryz.func10, Tryz.ntmps10
    go_wp2_with fail
    refine (unhide HQ).mono ?_
    rintro e w2 ⟨rfl, hb2⟩
    have HB2 : Hid (Below w.heap.size w w2) := (unhide HB).trans (hb2.mono (unhide HB).size)
    clear hb2
    go_wp2_with fail
    go_ret
    exact ⟨rfl, unhide HB2⟩
  have hm : mayE ⟨k, f, n, txns⟩ = (decide (k = 1) && isRep f && isCnt n && decide (1 ≤ txns.length) && decide (txns.length ≤ 16) && txns.all mayT) := by
    unfold mayE
    rw [if_neg hk0]
    by_cases h : k = 1 <;> simp [h]
  rw [hm]
  clear hm
  have HBX : Hid (∀ w' : World, Below (w.heap.size + 1) (w.alloc (.cells #[.int .i64 k, .int .i64 f, .int .i64 n, .slice ta txns.length tc] 24)) w' → w'.cell? ⟨w.heap.size, 0, none⟩ = some (.int .i64 k) ∧ w'.cell? ⟨w.heap.size, 1, none⟩ = some (.int .i64 f) ∧ w'.cell? ⟨w.heap.size, 2, none⟩ = some (.int .i64 n) ∧ w'.cell? ⟨w.heap.size, 3, none⟩ = some (.slice ta txns.length tc)) := fun w' hb => by
    refine ⟨?_, ?_, ?_, ?_⟩
    · rw [hb.cell (p := ⟨w.heap.size, 0, none⟩) (Nat.lt_succ_self _), World.cell?_alloc_new]; rfl
    · rw [hb.cell (p := ⟨w.heap.size, 1, none⟩) (Nat.lt_succ_self _), World.cell?_alloc_new]; rfl
    · rw [hb.cell (p := ⟨w.heap.size, 2, none⟩) (Nat.lt_succ_self _), World.cell?_alloc_new]; rfl
    · rw [hb.cell (p := ⟨w.heap.size, 3, none⟩) (Nat.lt_succ_self _), World.cell?_alloc_new]; rfl
  have hkb : (k == 0) = false := by simpa using hk0
  go_enter Tryz.func10, Tryz.ntmps10
  go_wp2
  go_loopw [3] (fun c wr => ∃ t : Nat, t ≤ txns.length ∧ c = .int .i64 t ∧ (∀ u, u < t → mayT (txns.getD u dT) = true) ∧ Below (w.heap.size + 1) (w.alloc (.cells #[.int .i64 k, .int .i64 f, .int .i64 n, .slice ta txns.length tc] 24)) wr) (fun c _ => txns.length - (intOf c).toNat)
  case atStart => exact ⟨0, by omega, rfl, fun u hu => absurd hu (by omega), Below.refl _ _⟩
  case round =>
    obtain ⟨t, ht, rfl, hall, hb⟩ := hrel
    have HA := hide hall
    have HW := hide hb
    have hbw : Below w.heap.size w wr := (unhide HB).trans (hb.mono (by omega))
    have HBW := hide hbw
    obtain ⟨x0, x1, x2, x3⟩ := unhide HBX wr hb
    by_cases hlt : t < txns.length
    · obtain ⟨ao', ca', ga, oa, hv, _, _, ha', h1⟩ := unhide HT wr hbw
      simp only [Value.slice.injEq, true_and] at hv
      obtain ⟨rfl, rfl⟩ := hv
      obtain rfl := ha' (by omega)
      obtain ⟨cvk, avk, rvk, wvk, kh0, kh1, kh2, kh3, kh4, kh5, khs⟩ := h1 t hlt
      obtain ⟨k1, kc1, k2, kc2, k3, kc3, k4, kc4, rfl, rfl, rfl, rfl⟩ := khs.shape
      obtain ⟨kd, ke⟩ : ∃ d, txns.getD t dT = d := ⟨_, rfl⟩
      rw [ke] at kh0 kh1 kh2 kh3 kh4 kh5 khs
      obtain ⟨ks, kes⟩ : ∃ n, kd.ses = n := ⟨_, rfl⟩
      obtain ⟨kq, keq⟩ : ∃ n, kd.req = n := ⟨_, rfl⟩
      obtain ⟨kn1, ke1⟩ : ∃ n, kd.code.length = n := ⟨_, rfl⟩
      obtain ⟨kn2, ke2⟩ : ∃ n, kd.args.length = n := ⟨_, rfl⟩
      obtain ⟨kn3, ke3⟩ : ∃ n, kd.reads.length = n := ⟨_, rfl⟩
      obtain ⟨kn4, ke4⟩ : ∃ n, kd.writes.length = n := ⟨_, rfl⟩
      rw [kes, keq, ke1, ke2, ke3, ke4] at khs
      rw [kes] at kh0
      rw [keq] at kh1
      rw [ke1] at kh2
      rw [ke2] at kh3
      rw [ke3] at kh4
      rw [ke4] at kh5
      have kE := hide ke
      have kHS := hide khs
      clear khs ke kes keq ke1 ke2 ke3 ke4
      have HM := hide (mayTxn_any _ kd _ (unhide kHS))
      clear h1 ha' hall hb hbw
      go_wp2_with fail
      refine (unhide HM).mono ?_
      rintro e w2 ⟨rfl, hb2⟩
      have HB2 := hide hb2
      clear hb2 HM
      cases hmy : mayT kd with
      | false =>
        go_wp2_with fail
        go_ret
        exact ⟨retBool (by rw [all_no hlt (by rw [unhide kE]; exact hmy)]; simp), (unhide HBW).trans ((unhide HB2).mono (unhide HBW).size)⟩
      | true =>
        go_wp2_with fail
        go_roundw
        case rel =>
          have hal2 : ∀ u, u < t + 1 → mayT (txns.getD u dT) = true := fun u hu => by
            by_cases hut : u < t
            · exact unhide HA u hut
            · obtain rfl : u = t := by omega
              rw [unhide kE]; exact hmy
          have hbz := (unhide HW).trans ((unhide HB2).mono (by have := (unhide HW).size; simp at this; omega))
          first | exact ⟨t + 1, by omega, by go_num, hal2, hbz⟩ | ((repeat apply Exists.intro); exact ⟨⟨t + 1, by omega, by go_num, hal2, hbz⟩, rfl⟩)
        case measure => simp [intOf]; omega
    · have hy := all_yes (l := txns) (p := mayT) (fun u hu => unhide HA u (by omega))
      have HYA := hide hy
      clear hall hb hbw hy
      by_cases hk1 : k = 1
      case neg =>
        go_wp2_with fail
        go_ret
        exact ⟨retBool (by simp [hk1]), unhide HBW⟩
      subst hk1
      clear hk0 hkb
      cases h1 : isRep f with
      | false =>
        go_wp2_with (first | (go_at_call 30; refine (replica_any _ _).mono ?_; rintro e w' ⟨rfl, rfl⟩) | (go_at_call 31; refine (count_any _ _).mono ?_; rintro e w' ⟨rfl, rfl⟩) | fail)
        go_ret
        exact ⟨retBool (by simp), unhide HBW⟩
      | true =>
      cases h2 : isCnt n with
      | false =>
        go_wp2_with (first | (go_at_call 30; refine (replica_any _ _).mono ?_; rintro e w' ⟨rfl, rfl⟩) | (go_at_call 31; refine (count_any _ _).mono ?_; rintro e w' ⟨rfl, rfl⟩) | fail)
        go_ret
        exact ⟨retBool (by simp), unhide HBW⟩
      | true =>
      by_cases h3 : txns.length < 1
      · have hd : Hid (decide (1 ≤ txns.length) = false) := decide_eq_false (by omega)
        go_wp2_with (first | (go_at_call 30; refine (replica_any _ _).mono ?_; rintro e w' ⟨rfl, rfl⟩) | (go_at_call 31; refine (count_any _ _).mono ?_; rintro e w' ⟨rfl, rfl⟩) | fail)
        go_ret
        exact ⟨retBool (by rw [unhide hd]; simp), unhide HBW⟩
      · have hd : Hid (decide (1 ≤ txns.length) = true) := decide_eq_true (by omega)
        go_wp2_with (first | (go_at_call 30; refine (replica_any _ _).mono ?_; rintro e w' ⟨rfl, rfl⟩) | (go_at_call 31; refine (count_any _ _).mono ?_; rintro e w' ⟨rfl, rfl⟩) | fail)
        go_ret
        exact ⟨retBool (by rw [unhide hd, unhide HYA]; simp only [Bool.true_and, Bool.and_true]; exact decide_eq_decide.2 (by omega)), unhide HBW⟩
end Go.Proofs.YtggllgimlfchhabGreat

/- Record: which parts and termed entries may be. -/
namespace Go.Proofs.YtggllgimlfchhabGreat
open Go.RowKit
set_option maxRecDepth 100000

def mayP (p : PtD) : Bool := isCnt p.slot && decide (1 ≤ p.many) && decide (p.many ≤ 4096) && decide (0 ≤ p.idx) && decide (p.idx < p.many) && decide (p.data.length ≤ 16384)
def mayTm (t : TmD) : Bool := isCnt t.term && mayE t.ent
theorem allM_no {l : List TmD} {p : TmD → Bool} {t : Nat} (ht : t < l.length) (h : p (l.getD t dM) = false) : l.all p = false := by
  have e : l.getD t dM = l[t] := by simp [List.getD, ht]
  rw [e] at h
  cases ha : l.all p with
  | false => rfl
  | true => rw [List.all_eq_true.1 ha _ (List.getElem_mem ht)] at h; cases h
theorem allM_yes {l : List TmD} {p : TmD → Bool} (h : ∀ t, t < l.length → p (l.getD t dM) = true) : l.all p = true := by
  rw [List.all_eq_true]
  intro x hx
  obtain ⟨i, hi, rfl⟩ := List.getElem_of_mem hx
  have := h i hi
  simpa [List.getD, hi] using this

set_option maxHeartbeats 800000 in
theorem partMayBe_any (cs : Array Value) (p : PtD) (w : World) (hs : SeesP w cs p) :
    Calls Tryz.prog 99 #[.agg cs] w fun e w' => e = .returned (.bool (mayP p)) ∧ Below w.heap.size w w' := by
  obtain ⟨s, x, m, d⟩ := p
  obtain ⟨_, rfl, hd⟩ := hs
  obtain ⟨da, dc, rfl, _⟩ := hd
  simp only [mayP]
  obtain ⟨n, hn⟩ : ∃ n, d.length = n := ⟨_, rfl⟩
  rw [hn]
  clear hn
  have HB : Hid (Below w.heap.size w (w.alloc (.cells #[.int .i64 s, .int .i64 x, .int .i64 m, .slice da n dc] 28))) := (Below.refl _ _).alloc (Nat.le_refl _) _
  cases h1 : isCnt s with
  | false =>
    go_enter Tryz.func99, Tryz.ntmps99
    go_wp2_with (first | (go_at_call 51; refine (isCount_any _ _).mono ?_; rintro e w' ⟨rfl, rfl⟩) | fail)
    go_ret
    exact ⟨retBool (by simp), unhide HB⟩
  | true =>
  by_cases h2 : 1 ≤ m
  case neg =>
    go_enter Tryz.func99, Tryz.ntmps99
    go_wp2_with (first | (go_at_call 51; refine (isCount_any _ _).mono ?_; rintro e w' ⟨rfl, rfl⟩) | fail)
    go_ret
    exact ⟨retBool (by simp <;> omega), unhide HB⟩
  by_cases h3 : m ≤ 4096
  case neg =>
    go_enter Tryz.func99, Tryz.ntmps99
    go_wp2_with (first | (go_at_call 51; refine (isCount_any _ _).mono ?_; rintro e w' ⟨rfl, rfl⟩) | fail)
    go_ret
    exact ⟨retBool (by simp <;> omega), unhide HB⟩
  by_cases h4 : 0 ≤ x
  case neg =>
    go_enter Tryz.func99, Tryz.ntmps99
    go_wp2_with (first | (go_at_call 51; refine (isCount_any _ _).mono ?_; rintro e w' ⟨rfl, rfl⟩) | fail)
    go_ret
    exact ⟨retBool (by simp <;> omega), unhide HB⟩
  by_cases h5 : x < m
  case neg =>
    go_enter Tryz.func99, Tryz.ntmps99
    go_wp2_with (first | (go_at_call 51; refine (isCount_any _ _).mono ?_; rintro e w' ⟨rfl, rfl⟩) | fail)
    go_ret
    exact ⟨retBool (by simp <;> omega), unhide HB⟩
  case pos =>
    go_enter Tryz.func99, Tryz.ntmps99
    go_wp2_with (first | (go_at_call 51; refine (isCount_any _ _).mono ?_; rintro e w' ⟨rfl, rfl⟩) | fail)
    go_ret
    exact ⟨retBool (by simp only [h2, h3, h4, h5, decide_true, Bool.true_and]; exact decide_eq_decide.2 (by omega)), unhide HB⟩

set_option maxHeartbeats 800000 in
theorem mayPart_any (cs : Array Value) (p : PtD) (w : World) (hs : SeesP w cs p) :
    Calls Tryz.prog 42 #[.agg cs] w fun e w' => e = .returned (.bool (mayP p)) ∧ Below w.heap.size w w' := by
  obtain ⟨s, x, m, d⟩ := p
  obtain ⟨_, rfl, hd⟩ := hs
  obtain ⟨da, dc, rfl, _⟩ := hd
  simp only [mayP]
  obtain ⟨n, hn⟩ : ∃ n, d.length = n := ⟨_, rfl⟩
  rw [hn]
  clear hn
  have HB : Hid (Below w.heap.size w (w.alloc (.cells #[.int .i64 s, .int .i64 x, .int .i64 m, .slice da n dc] 28))) := (Below.refl _ _).alloc (Nat.le_refl _) _
  cases h1 : isCnt s with
  | false =>
    go_enter Tryz.func42, Tryz.ntmps42
    go_wp2_with (first | (go_at_call 31; refine (count_any _ _).mono ?_; rintro e w' ⟨rfl, rfl⟩) | fail)
    go_ret
    exact ⟨retBool (by simp), unhide HB⟩
  | true =>
  by_cases h2 : 1 ≤ m
  case neg =>
    go_enter Tryz.func42, Tryz.ntmps42
    go_wp2_with (first | (go_at_call 31; refine (count_any _ _).mono ?_; rintro e w' ⟨rfl, rfl⟩) | fail)
    go_ret
    exact ⟨retBool (by simp <;> omega), unhide HB⟩
  by_cases h3 : m ≤ 4096
  case neg =>
    go_enter Tryz.func42, Tryz.ntmps42
    go_wp2_with (first | (go_at_call 31; refine (count_any _ _).mono ?_; rintro e w' ⟨rfl, rfl⟩) | fail)
    go_ret
    exact ⟨retBool (by simp <;> omega), unhide HB⟩
  by_cases h4 : 0 ≤ x
  case neg =>
    go_enter Tryz.func42, Tryz.ntmps42
    go_wp2_with (first | (go_at_call 31; refine (count_any _ _).mono ?_; rintro e w' ⟨rfl, rfl⟩) | fail)
    go_ret
    exact ⟨retBool (by simp <;> omega), unhide HB⟩
  by_cases h5 : x < m
  case neg =>
    go_enter Tryz.func42, Tryz.ntmps42
    go_wp2_with (first | (go_at_call 31; refine (count_any _ _).mono ?_; rintro e w' ⟨rfl, rfl⟩) | fail)
    go_ret
    exact ⟨retBool (by simp <;> omega), unhide HB⟩
  case pos =>
    go_enter Tryz.func42, Tryz.ntmps42
    go_wp2_with (first | (go_at_call 31; refine (count_any _ _).mono ?_; rintro e w' ⟨rfl, rfl⟩) | fail)
    go_ret
    exact ⟨retBool (by simp only [h2, h3, h4, h5, decide_true, Bool.true_and]; exact decide_eq_decide.2 (by omega)), unhide HB⟩

set_option maxHeartbeats 800000 in
theorem termedMayBe_any (cs : Array Value) (t : TmD) (w : World) (hs : SeesTm w cs t) (ot : OkTs t.ent.txns) :
    Calls Tryz.prog 98 #[.agg cs] w fun e w' => e = .returned (.bool (mayTm t)) ∧ Below w.heap.size w w' := by
  obtain ⟨s, ⟨k, f, n, l⟩⟩ := t
  obtain ⟨_, rfl, ht⟩ := hs
  simp only at ht ot
  simp only [mayTm]
  have HT := hide ht
  obtain ⟨ta, tc, _, _, rfl, _⟩ := ht
  obtain ⟨L, hL⟩ : ∃ n, l.length = n := ⟨_, rfl⟩
  have hB : Below w.heap.size w (w.alloc (.cells #[.int .i64 s, .int .i64 k, .int .i64 f, .int .i64 n, .slice ta l.length tc] 52)) := (Below.refl _ _).alloc (Nat.le_refl _) _
  have HM := hide (entryMayBe_any _ ⟨k, f, n, l⟩ _ ⟨_, rfl, (unhide HT).below hB⟩ ot)
  simp only at HM
  have HB := hide hB
  rw [hL] at HM HB
  rw [hL]
  clear hL hB HT ot
  generalize mayE ⟨k, f, n, l⟩ = E at *
  cases h1 : isCnt s with
  | false =>
    go_enter Tryz.func98, Tryz.ntmps98
    go_wp2_with (first | (go_at_call 51; refine (isCount_any _ _).mono ?_; rintro e w' ⟨rfl, rfl⟩) | fail)
    go_ret
    exact ⟨retBool (by simp), unhide HB⟩
  | true =>
    go_enter Tryz.func98, Tryz.ntmps98
    go_wp2_with (first | (go_at_call 51; refine (isCount_any _ _).mono ?_; rintro e w' ⟨rfl, rfl⟩) | fail)
    refine (unhide HM).mono ?_
    rintro e w2 ⟨rfl, hb2⟩
    have HB2 : Hid (Below w.heap.size w w2) := (unhide HB).trans (hb2.mono (unhide HB).size)
    clear hb2 HM
    go_wp2_with fail
    go_ret
    exact ⟨retBool (by simp), unhide HB2⟩

set_option maxHeartbeats 1600000 in
theorem allM_any (v : Value) (l : List TmD) (w : World) (hs : SeesTms w v l) (ho : OkTms l) :
    Calls Tryz.prog 97 #[v, .func (.func 98) #[] #[]] w fun e w' => e = .returned (.bool (l.all mayTm)) ∧ Below w.heap.size w w' := by
  have HS : Hid (∀ w', Below w.heap.size w w' → SeesTms w' v l) := fun w' hb => hs.below hb
  have HO := hide ho
  obtain ⟨ao, cap, _, _, rfl, hcap, hmax, _⟩ := id hs
  clear hs ho
  go_enter Tryz.func97, Tryz.ntmps97
  go_wp2
  go_loopw [9] (fun c wr => ∃ t : Nat, t ≤ l.length ∧ c = .int .i64 t ∧ (∀ u, u < t → mayTm (l.getD u dM) = true) ∧ Below w.heap.size w wr) (fun c _ => l.length - (intOf c).toNat)
  case atStart => exact ⟨0, by omega, rfl, fun u hu => absurd hu (by omega), Below.refl _ _⟩
  case round =>
    obtain ⟨t, ht, rfl, hall, hb⟩ := hrel
    have HA := hide hall
    have HB := hide hb
    by_cases hlt : t < l.length
    · obtain ⟨ao', cap', gb, ob, hv, _, _, hao, hcl⟩ := unhide HS wr hb
      simp only [Value.slice.injEq, true_and] at hv
      obtain ⟨rfl, rfl⟩ := hv
      obtain rfl := hao (by omega)
      obtain ⟨ktv, kh0, kh1, kh2, kh3, kh4, khs⟩ := hcl t hlt
      obtain ⟨kd, ke⟩ : ∃ d, l.getD t dM = d := ⟨_, rfl⟩
      rw [ke] at kh0 kh1 kh2 kh3 khs
      have kS : SeesTm wr #[.int .i64 kd.term, .int .i64 kd.ent.kind, .int .i64 kd.ent.frm, .int .i64 kd.ent.num, ktv] kd := ⟨_, rfl, khs⟩
      obtain ⟨ka, kc, _, _, rfl, _⟩ := id khs
      obtain ⟨kt, ket⟩ : ∃ n, kd.term = n := ⟨_, rfl⟩
      obtain ⟨kk, kek⟩ : ∃ n, kd.ent.kind = n := ⟨_, rfl⟩
      obtain ⟨kf, kef⟩ : ∃ n, kd.ent.frm = n := ⟨_, rfl⟩
      obtain ⟨kn, ken⟩ : ∃ n, kd.ent.num = n := ⟨_, rfl⟩
      obtain ⟨kl, kel⟩ : ∃ n, kd.ent.txns.length = n := ⟨_, rfl⟩
      rw [ket, kek, kef, ken, kel] at kS
      rw [ket] at kh0
      rw [kek] at kh1
      rw [kef] at kh2
      rw [ken] at kh3
      rw [kel] at kh4
      have kE := hide ke
      have hal : Below wr.heap.size wr (wr.alloc (.cells #[.int .i64 kt, .int .i64 kk, .int .i64 kf, .int .i64 kn, .slice ka kl kc] 52)) := (Below.refl _ _).alloc (Nat.le_refl _) _
      have hok := (unhide HO).at hlt
      rw [ke] at hok
      have HM := hide (termedMayBe_any _ kd _ (kS.below hal) hok)
      have HB1 : Hid (Below w.heap.size w (wr.alloc (.cells #[.int .i64 kt, .int .i64 kk, .int .i64 kf, .int .i64 kn, .slice ka kl kc] 52))) := hb.trans (hal.mono hb.size)
      clear hcl hao hall hb hal hok ke kS ket kek kef ken kel khs
      go_wp2_with fail
      refine (unhide HM).mono ?_
      rintro e w2 ⟨rfl, hb2⟩
      have HB2 : Hid (Below w.heap.size w w2) := (unhide HB1).trans (hb2.mono (unhide HB1).size)
      clear hb2 HM
      cases hmy : mayTm kd with
      | false =>
        go_wp2
        go_ret
        exact ⟨retBool (allM_no hlt (by rw [unhide kE]; exact hmy)).symm, unhide HB2⟩
      | true =>
        have HMY := hide hmy
        go_wp2
        go_roundw
        case rel =>
          have hal2 : ∀ u, u < t + 1 → mayTm (l.getD u dM) = true := fun u hu => by
            by_cases hut : u < t
            · exact unhide HA u hut
            · obtain rfl : u = t := by omega
              rw [unhide kE]; exact unhide HMY
          first | exact ⟨t + 1, by omega, by go_num, hal2, unhide HB2⟩ | ((repeat apply Exists.intro); exact ⟨⟨t + 1, by omega, by go_num, hal2, unhide HB2⟩, rfl⟩)
        case measure => simp [intOf]; omega
    · clear hall hb
      go_wp2
      go_ret
      exact ⟨retBool (allM_yes (fun u hu => unhide HA u (by omega))).symm, unhide HB⟩

set_option maxHeartbeats 1600000 in
theorem refList_any (v : Value) (l : List TmD) (w : World) (hs : SeesTms w v l) (ho : OkTms l) :
    Calls Tryz.prog 41 #[v] w fun e w' => e = .returned (.bool (decide (l.length ≤ 4096) && l.all mayTm)) ∧ Below w.heap.size w w' := by
  have HS : Hid (∀ w', Below w.heap.size w w' → SeesTms w' v l) := fun w' hb => hs.below hb
  have HO := hide ho
  obtain ⟨ao, cap, _, _, rfl, hcap, hmax, _⟩ := id hs
  clear hs ho
  go_enter Tryz.func41, Tryz.ntmps41
  go_wp2
  go_loopw [3] (fun c wr => ∃ t : Nat, t ≤ l.length ∧ c = .int .i64 t ∧ (∀ u, u < t → mayTm (l.getD u dM) = true) ∧ Below w.heap.size w wr) (fun c _ => l.length - (intOf c).toNat)
  case atStart => exact ⟨0, by omega, rfl, fun u hu => absurd hu (by omega), Below.refl _ _⟩
  case round =>
    obtain ⟨t, ht, rfl, hall, hb⟩ := hrel
    have HA := hide hall
    have HB := hide hb
    by_cases hlt : t < l.length
    · obtain ⟨ao', cap', gb, ob, hv, _, _, hao, hcl⟩ := unhide HS wr hb
      simp only [Value.slice.injEq, true_and] at hv
      obtain ⟨rfl, rfl⟩ := hv
      obtain rfl := hao (by omega)
      obtain ⟨ktv, kh0, kh1, kh2, kh3, kh4, khs⟩ := hcl t hlt
      obtain ⟨kd, ke⟩ : ∃ d, l.getD t dM = d := ⟨_, rfl⟩
      rw [ke] at kh0 kh1 kh2 kh3 khs
      have kS : SeesTm wr #[.int .i64 kd.term, .int .i64 kd.ent.kind, .int .i64 kd.ent.frm, .int .i64 kd.ent.num, ktv] kd := ⟨_, rfl, khs⟩
      obtain ⟨ka, kc, _, _, rfl, _⟩ := id khs
      obtain ⟨kt, ket⟩ : ∃ n, kd.term = n := ⟨_, rfl⟩
      obtain ⟨kk, kek⟩ : ∃ n, kd.ent.kind = n := ⟨_, rfl⟩
      obtain ⟨kf, kef⟩ : ∃ n, kd.ent.frm = n := ⟨_, rfl⟩
      obtain ⟨kn, ken⟩ : ∃ n, kd.ent.num = n := ⟨_, rfl⟩
      obtain ⟨kl, kel⟩ : ∃ n, kd.ent.txns.length = n := ⟨_, rfl⟩
      rw [ket, kek, kef, ken, kel] at kS
      rw [ket] at kh0
      rw [kek] at kh1
      rw [kef] at kh2
      rw [ken] at kh3
      rw [kel] at kh4
      have kE := hide ke
      have hok := (unhide HO).at hlt
      rw [ke] at hok
      have HM : Hid (Calls Tryz.prog 10 #[.agg #[.int .i64 kk, .int .i64 kf, .int .i64 kn, .slice ka kl kc]] wr fun e w' => e = .returned (.bool (mayE kd.ent)) ∧ Below wr.heap.size wr w') := by
        rw [← kek, ← kef, ← ken, ← kel]
        exact mayEntry_any _ kd.ent wr ⟨_, rfl, khs⟩ hok
      have hmt : mayTm kd = (isCnt kt && mayE kd.ent) := by unfold mayTm; rw [ket]
      have HMT := hide hmt
      clear hcl hao hall hb hok ke kS ket kek kef ken kel hmt khs
      cases h1 : isCnt kt with
      | false =>
        go_wp2_with (first | (go_at_call 31; refine (count_any _ _).mono ?_; rintro e w' ⟨rfl, rfl⟩) | fail)
        go_ret
        exact ⟨retBool (by rw [allM_no hlt (by rw [unhide kE, unhide HMT, h1]; simp)]; simp), unhide HB⟩
      | true =>
      go_wp2_with (first | (go_at_call 31; refine (count_any _ _).mono ?_; rintro e w' ⟨rfl, rfl⟩) | fail)
      refine (unhide HM).mono ?_
      rintro e w2 ⟨rfl, hb2⟩
      have HB2 : Hid (Below w.heap.size w w2) := (unhide HB).trans (hb2.mono (unhide HB).size)
      clear hb2 HM
      cases hmy : mayE kd.ent with
      | false =>
        go_wp2_with fail
        go_ret
        exact ⟨retBool (by rw [allM_no hlt (by rw [unhide kE, unhide HMT, h1, hmy]; simp)]; simp), unhide HB2⟩
      | true =>
        have HMY : Hid (mayTm kd = true) := by show _ = true; rw [unhide HMT, h1, hmy]; rfl
        clear HMT
        go_wp2_with fail
        go_roundw
        case rel =>
          have hal2 : ∀ u, u < t + 1 → mayTm (l.getD u dM) = true := fun u hu => by
            by_cases hut : u < t
            · exact unhide HA u hut
            · obtain rfl : u = t := by omega
              rw [unhide kE]; exact unhide HMY
          first | exact ⟨t + 1, by omega, by go_num, hal2, unhide HB2⟩ | ((repeat apply Exists.intro); exact ⟨⟨t + 1, by omega, by go_num, hal2, unhide HB2⟩, rfl⟩)
        case measure => simp [intOf]; omega
    · have hy := allM_yes (l := l) (p := mayTm) (fun u hu => unhide HA u (by omega))
      have HYA := hide hy
      clear hall hb hy
      go_wp2_with fail
      go_ret
      exact ⟨retBool (by rw [unhide HYA]; simp only [Bool.and_true]; exact decide_eq_decide.2 (by omega)), unhide HB⟩
end Go.Proofs.YtggllgimlfchhabGreat
