/- Several texts as one. -/
import Derived.Test.YtoddemcmmijoaaaKW
import Derived.Test.YtoddemcmmijoaaaKK

/- Record: what the checks answer, of keys, transactions, entries. -/
namespace Go.Proofs.Ytoddemcmmijoaaa
open Go.RowKit
set_option maxRecDepth 100000

end Go.Proofs.Ytoddemcmmijoaaa

/- Record: which parts and termed entries may be. -/
namespace Go.Proofs.Ytoddemcmmijoaaa
open Go.RowKit
set_option maxRecDepth 100000

def mayP (p : PtD) : Bool := isCnt p.slot && decide (1 ≤ p.many) && decide (p.many ≤ 4096) && decide (0 ≤ p.idx) && decide (p.idx < p.many) && decide (p.data.length ≤ 16384)
def mayTm (t : TmD) : Bool := isCnt t.term && mayE t.ent
theorem allM_no {l : List TmD} {p : TmD → Bool} {t : Nat} (ht : t < l.length) (h : p (l.getD t dM) = false) : l.all p = false := by
  have e : l.getD t dM = l[t] := by simp [List.getD, ht]
  rw [e] at h
  cases ha : l.all p with
  | false => rfl
  | true => rw [List.all_eq_true.1 ha _ (List.getElem_mem ht)] at h; cases h
theorem allM_yes {l : List TmD} {p : TmD → Bool} (h : ∀ t, t < l.length → p (l.getD t dM) = true) : l.all p = true := by
  rw [List.all_eq_true]
  intro x hx
  obtain ⟨i, hi, rfl⟩ := List.getElem_of_mem hx
  have := h i hi
  simpa [List.getD, hi] using this

set_option maxHeartbeats 800000 in
theorem partMayBe_any (cs : Array Value) (p : PtD) (w : World) (hs : SeesP w cs p) :
    Calls Try.prog 50 #[.agg cs] w fun e w' => e = .returned (.bool (mayP p)) ∧ Below w.heap.size w w' := by
  obtain ⟨s, x, m, d⟩ := p
  obtain ⟨_, rfl, hd⟩ := hs
  obtain ⟨da, dc, rfl, _⟩ := hd
  simp only [mayP]
  obtain ⟨n, hn⟩ : ∃ n, d.length = n := ⟨_, rfl⟩
  rw [hn]
  clear hn
  have HB : Hid (Below w.heap.size w (w.alloc (.cells #[.int .i64 s, .int .i64 x, .int .i64 m, .slice da n dc] 36))) := (Below.refl _ _).alloc (Nat.le_refl _) _
  cases h1 : isCnt s with
  | false =>
    go_enter Try.func50, Try.ntmps50
    go_wp2_with (first | (go_at_call 46; refine (isCount_any _ _).mono ?_; rintro e w' ⟨rfl, rfl⟩) | fail)
    go_ret
    exact ⟨retBool (by simp), unhide HB⟩
  | true =>
  by_cases h2 : 1 ≤ m
  case neg =>
    go_enter Try.func50, Try.ntmps50
    go_wp2_with (first | (go_at_call 46; refine (isCount_any _ _).mono ?_; rintro e w' ⟨rfl, rfl⟩) | fail)
    go_ret
    exact ⟨retBool (by simp <;> omega), unhide HB⟩
  by_cases h3 : m ≤ 4096
  case neg =>
    go_enter Try.func50, Try.ntmps50
    go_wp2_with (first | (go_at_call 46; refine (isCount_any _ _).mono ?_; rintro e w' ⟨rfl, rfl⟩) | fail)
    go_ret
    exact ⟨retBool (by simp <;> omega), unhide HB⟩
  by_cases h4 : 0 ≤ x
  case neg =>
    go_enter Try.func50, Try.ntmps50
    go_wp2_with (first | (go_at_call 46; refine (isCount_any _ _).mono ?_; rintro e w' ⟨rfl, rfl⟩) | fail)
    go_ret
    exact ⟨retBool (by simp <;> omega), unhide HB⟩
  by_cases h5 : x < m
  case neg =>
    go_enter Try.func50, Try.ntmps50
    go_wp2_with (first | (go_at_call 46; refine (isCount_any _ _).mono ?_; rintro e w' ⟨rfl, rfl⟩) | fail)
    go_ret
    exact ⟨retBool (by simp <;> omega), unhide HB⟩
  case pos =>
    go_enter Try.func50, Try.ntmps50
    go_wp2_with (first | (go_at_call 46; refine (isCount_any _ _).mono ?_; rintro e w' ⟨rfl, rfl⟩) | fail)
    go_ret
    exact ⟨retBool (by simp only [h2, h3, h4, h5, decide_true, Bool.true_and]; exact decide_eq_decide.2 (by omega)), unhide HB⟩

set_option maxHeartbeats 800000 in
theorem termedMayBe_any (cs : Array Value) (t : TmD) (w : World) (hs : SeesTm w cs t) (ot : OkTs t.ent.txns) :
    Calls Try.prog 48 #[.agg cs] w fun e w' => e = .returned (.bool (mayTm t)) ∧ Below w.heap.size w w' := by
  obtain ⟨s, ⟨k, f, n, l⟩⟩ := t
  obtain ⟨_, rfl, ht⟩ := hs
  simp only at ht ot
  simp only [mayTm]
  have HT := hide ht
  obtain ⟨ta, tc, _, _, rfl, _⟩ := ht
  obtain ⟨L, hL⟩ : ∃ n, l.length = n := ⟨_, rfl⟩
  have hB : Below w.heap.size w (w.alloc (.cells #[.int .i64 s, .int .i64 k, .int .i64 f, .int .i64 n, .slice ta l.length tc] 71)) := (Below.refl _ _).alloc (Nat.le_refl _) _
  have HM := hide (entryMayBe_any _ ⟨k, f, n, l⟩ _ ⟨_, rfl, (unhide HT).below hB⟩ ot)
  simp only at HM
  have HB := hide hB
  rw [hL] at HM HB
  rw [hL]
  clear hL hB HT ot
  generalize mayE ⟨k, f, n, l⟩ = E at *
  cases h1 : isCnt s with
  | false =>
    go_enter Try.func48, Try.ntmps48
    go_wp2_with (first | (go_at_call 46; refine (isCount_any _ _).mono ?_; rintro e w' ⟨rfl, rfl⟩) | fail)
    go_ret
    exact ⟨retBool (by simp), unhide HB⟩
  | true =>
    go_enter Try.func48, Try.ntmps48
    go_wp2_with (first | (go_at_call 46; refine (isCount_any _ _).mono ?_; rintro e w' ⟨rfl, rfl⟩) | fail)
    refine (unhide HM).mono ?_
    rintro e w2 ⟨rfl, hb2⟩
    have HB2 : Hid (Below w.heap.size w w2) := (unhide HB).trans (hb2.mono (unhide HB).size)
    clear hb2 HM
    go_wp2_with fail
    go_ret
    exact ⟨retBool (by simp), unhide HB2⟩

set_option maxHeartbeats 1600000 in
theorem allM_any (v : Value) (l : List TmD) (w : World) (hs : SeesTms w v l) (ho : OkTms l) :
    Calls Try.prog 47 #[v, .func (.func 48) #[] #[]] w fun e w' => e = .returned (.bool (l.all mayTm)) ∧ Below w.heap.size w w' := by
  have HS : Hid (∀ w', Below w.heap.size w w' → SeesTms w' v l) := fun w' hb => hs.below hb
  have HO := hide ho
  obtain ⟨ao, cap, _, _, rfl, hcap, hmax, _⟩ := id hs
  clear hs ho
  go_enter Try.func47, Try.ntmps47
  go_wp2
  go_loopw [9] (fun c wr => ∃ t : Nat, t ≤ l.length ∧ c = .int .i64 t ∧ (∀ u, u < t → mayTm (l.getD u dM) = true) ∧ Below w.heap.size w wr) (fun c _ => l.length - (intOf c).toNat)
  case atStart => exact ⟨0, by omega, rfl, fun u hu => absurd hu (by omega), Below.refl _ _⟩
  case round =>
    obtain ⟨t, ht, rfl, hall, hb⟩ := hrel
    have HA := hide hall
    have HB := hide hb
    by_cases hlt : t < l.length
    · obtain ⟨ao', cap', gb, ob, hv, _, _, hao, hcl⟩ := unhide HS wr hb
      simp only [Value.slice.injEq, true_and] at hv
      obtain ⟨rfl, rfl⟩ := hv
      obtain rfl := hao (by omega)
      obtain ⟨ktv, kh0, kh1, kh2, kh3, kh4, khs⟩ := hcl t hlt
      obtain ⟨kd, ke⟩ : ∃ d, l.getD t dM = d := ⟨_, rfl⟩
      rw [ke] at kh0 kh1 kh2 kh3 khs
      have kS : SeesTm wr #[.int .i64 kd.term, .int .i64 kd.ent.kind, .int .i64 kd.ent.frm, .int .i64 kd.ent.num, ktv] kd := ⟨_, rfl, khs⟩
      obtain ⟨ka, kc, _, _, rfl, _⟩ := id khs
      obtain ⟨kt, ket⟩ : ∃ n, kd.term = n := ⟨_, rfl⟩
      obtain ⟨kk, kek⟩ : ∃ n, kd.ent.kind = n := ⟨_, rfl⟩
      obtain ⟨kf, kef⟩ : ∃ n, kd.ent.frm = n := ⟨_, rfl⟩
      obtain ⟨kn, ken⟩ : ∃ n, kd.ent.num = n := ⟨_, rfl⟩
      obtain ⟨kl, kel⟩ : ∃ n, kd.ent.txns.length = n := ⟨_, rfl⟩
      rw [ket, kek, kef, ken, kel] at kS
      rw [ket] at kh0
      rw [kek] at kh1
      rw [kef] at kh2
      rw [ken] at kh3
      rw [kel] at kh4
      have kE := hide ke
      have hal : Below wr.heap.size wr (wr.alloc (.cells #[.int .i64 kt, .int .i64 kk, .int .i64 kf, .int .i64 kn, .slice ka kl kc] 71)) := (Below.refl _ _).alloc (Nat.le_refl _) _
      have hok := (unhide HO).at hlt
      rw [ke] at hok
      have HM := hide (termedMayBe_any _ kd _ (kS.below hal) hok)
      have HB1 : Hid (Below w.heap.size w (wr.alloc (.cells #[.int .i64 kt, .int .i64 kk, .int .i64 kf, .int .i64 kn, .slice ka kl kc] 71))) := hb.trans (hal.mono hb.size)
      clear hcl hao hall hb hal hok ke kS ket kek kef ken kel khs
      go_wp2_with fail
      refine (unhide HM).mono ?_
      rintro e w2 ⟨rfl, hb2⟩
      have HB2 : Hid (Below w.heap.size w w2) := (unhide HB1).trans (hb2.mono (unhide HB1).size)
      clear hb2 HM
      cases hmy : mayTm kd with
      | false =>
        go_wp2
        go_ret
        exact ⟨retBool (allM_no hlt (by rw [unhide kE]; exact hmy)).symm, unhide HB2⟩
      | true =>
        have HMY := hide hmy
        go_wp2
        go_roundw
        case rel =>
          have hal2 : ∀ u, u < t + 1 → mayTm (l.getD u dM) = true := fun u hu => by
            by_cases hut : u < t
            · exact unhide HA u hut
            · obtain rfl : u = t := by omega
              rw [unhide kE]; exact unhide HMY
          first | exact ⟨t + 1, by omega, by go_num, hal2, unhide HB2⟩ | ((repeat apply Exists.intro); exact ⟨⟨t + 1, by omega, by go_num, hal2, unhide HB2⟩, rfl⟩)
        case measure => simp [intOf]; omega
    · clear hall hb
      go_wp2
      go_ret
      exact ⟨retBool (allM_yes (fun u hu => unhide HA u (by omega))).symm, unhide HB⟩

end Go.Proofs.Ytoddemcmmijoaaa
