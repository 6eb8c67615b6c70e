/- The document's own TakeNum (package trivetref01): it comes to the same. -/
import Derived.Test.YthdghnppledakaaW7
namespace Go.Proofs.Ythdghnppledakaa
open Go.RowKit

/-- A number's bytes are as few as will do just where the last one is not 0. -/
theorem wid_last (l : List Int) (hb : Byt l) (h8 : l.length ≤ 8) (hl : 0 < l.length) : wid (valL l) = l.length ↔ l.getD (l.length - 1) 0 ≠ 0 := by
  have ht := valL_take_snoc l (l.length - 1) (by omega)
  rw [show l.length - 1 + 1 = l.length by omega, List.take_length] at ht
  have hv := valL_bound (l.take (l.length - 1)) (hb.take _)
  rw [show (l.take (l.length - 1)).length = l.length - 1 by simp] at hv
  have hg := hb.get (l.length - 1)
  have hp := B256_pos (l.length - 1)
  have htop := valL_bound l hb
  have h64 : B256 l.length ≤ B256 8 := B256_mono _ _ h8
  rw [B256_8] at h64
  constructor
  · intro hw h0
    rw [h0, Int.zero_mul] at ht
    have := wid_bounds (valL l) htop.1 (by omega) (l.length - 1) (by omega)
    omega
  · intro h0
    have h1 : B256 (l.length - 1) ≤ valL l := by
      have : 1 * B256 (l.length - 1) ≤ l.getD (l.length - 1) 0 * B256 (l.length - 1) := Int.mul_le_mul_of_nonneg_right (by omega) (by omega)
      omega
    have := wid_of (valL l) (l.length - 1) (by rw [show l.length - 1 + 1 = l.length by omega]; exact htop.2) h1 (by omega)
    omega

theorem valL_drop (l : List Int) (j : Nat) (h : j < l.length) : valL (l.drop j) = l.getD j 0 + 256 * valL (l.drop (j + 1)) := by
  rw [List.drop_eq_getElem_cons h]; simp [valL, List.getD, h]

set_option maxHeartbeats 400000 in
theorem refTake_nil (ao : Option Addr) (cap : Nat) (w : World) :
    Calls Try.prog 10 #[.slice ao 0 cap] w fun e w' => e = .returned (.tuple #[.int .i64 0, .int .i64 0, .int .i64 10]) ∧ w = w' := by
  go_enter Try.func10, Try.ntmps10
  go_wp2
  go_ret3
  exact ⟨rfl, rfl⟩

set_option maxHeartbeats 400000 in
theorem refTake_head (a : Addr) (len cap : Nat) (h : Int) (w : World) (hm : len ≤ 140737488355328) (hl : 0 < len) (hc : w.cell? a = some (.int .u8 h)) (hb : 17 < h ∨ h = 1) :
    Calls Try.prog 10 #[.slice (some a) len cap] w fun e w' => e = .returned (.tuple #[.int .i64 0, .int .i64 0, .int .i64 11]) ∧ w = w' := by
  have hz : ((len : Int) == 0) = false := beq_eq_false_iff_ne.2 (by omega)
  rcases hb with hb | rfl
  · go_enter Try.func10, Try.ntmps10
    go_wp2
    go_ret3
    exact ⟨rfl, rfl⟩
  · go_enter Try.func10, Try.ntmps10
    go_wp2
    go_ret3
    exact ⟨rfl, rfl⟩

set_option maxHeartbeats 400000 in
theorem refTake_short (a : Addr) (len cap : Nat) (h : Int) (w : World) (hm : len ≤ 140737488355328) (hl : 0 < len) (hc : w.cell? a = some (.int .u8 h)) (h0 : 0 ≤ h) (h17 : h ≤ 17) (hne : (h == 1) = false) (hs : (len : Int) - 1 < h / 2) :
    Calls Try.prog 10 #[.slice (some a) len cap] w fun e w' => e = .returned (.tuple #[.int .i64 0, .int .i64 0, .int .i64 10]) ∧ w = w' := by
  have hz : ((len : Int) == 0) = false := beq_eq_false_iff_ne.2 (by omega)
  go_enter Try.func10, Try.ntmps10
  go_wp2
  go_ret3
  exact ⟨rfl, rfl⟩

theorem neg_ref (u : Int) (h0 : 0 ≤ u) (h1 : u ≤ 9223372036854775808) : wrap64 (wrap64 (-wrap64 (IntKind.u64.wrap (u - 1))) - 1) = -u := by
  rw [IntKind.wrap_u64]; unfold wrap64; omega

theorem tup3 {k1 k2 k3 : IntKind} {a b c a' b' c' : Int} (h1 : a = a') (h2 : b = b') (h3 : c = c') : Ending.returned (.tuple #[.int k1 a, .int k2 b, .int k3 c]) = .returned (.tuple #[.int k1 a', .int k2 b', .int k3 c']) := by rw [h1, h2, h3]

/-- What the numbers' rest comes to, once its bytes are there. -/
def tnRest (h : Int) (k : Nat) (u y : Int) : Int × Nat × Int :=
  if 0 < k ∧ y = 0 then (0, 0, 11)
  else if h % 2 = 0 then (if 9223372036854775808 ≤ u then (0, 0, 11) else (u, 1 + k, 0))
  else (if 9223372036854775808 < u then (0, 0, 11) else (-u, 1 + k, 0))

set_option maxHeartbeats 1600000 in
theorem refTake_rest (a : Addr) (len cap : Nat) (h : Int) (k : Nat) (L : List Int) (u y : Int) (w : World) (hm : len ≤ 140737488355328) (hc : w.cell? a = some (.int .u8 h)) (h0 : 0 ≤ h) (h17 : h ≤ 17) (hne : (h == 1) = false)
    (hk : h / 2 = k) (hkl : k + 1 ≤ len) (hL : L.length = k) (hu : valL L = u) (hb : Byt L) (hcL : ∀ t, t < k → w.cell? (a.add (t + 1)) = some (.int .u8 (L.getD t 0))) (hy : 0 < k → w.cell? (a.add k) = some (.int .u8 y)) :
    Calls Try.prog 10 #[.slice (some a) len cap] w fun e w' => e = .returned (.tuple #[.int .i64 (tnRest h k u y).1, .int .i64 (tnRest h k u y).2.1, .int .i64 (tnRest h k u y).2.2]) ∧ w = w' := by
  have hz : ((len : Int) == 0) = false := beq_eq_false_iff_ne.2 (by omega)
  have HK := hide hk
  have hk8 : k ≤ 8 := by omega
  have hsh : ¬ ((len : Int) - 1 < h / 2) := by omega
  have hhk0 : 0 ≤ h / 2 := by omega
  have hhk8 : h / 2 ≤ 8 := by omega
  clear hk
  go_enter Try.func10, Try.ntmps10
  go_wp2
  rw [HK.out]
  clear hsh hhk0 hhk8 HK
  have HL := hide hL
  clear hL
  have hb7 : ∀ j, 1 ≤ j → 0 ≤ valL (L.drop j) ∧ valL (L.drop j) ≤ 72057594037927935 := fun j hj => by
    have h1 := valL_bound (L.drop j) (hb.drop j)
    have h2 : B256 (L.drop j).length ≤ B256 7 := B256_mono _ _ (by rw [List.length_drop, HL.out]; omega)
    rw [show B256 7 = 72057594037927936 from rfl] at h2
    omega
  have hv8 : 0 ≤ u ∧ u ≤ 18446744073709551615 := by
    have h1 := valL_bound L hb
    rw [hu] at h1
    have h2 : B256 L.length ≤ B256 8 := B256_mono _ _ (by rw [HL.out]; omega)
    rw [B256_8] at h2
    omega
  have HUL := hide hu
  clear hu
  go_loop [6, 7] (fun u i => ∃ j : Nat, j ≤ k ∧ i = .int .i64 j ∧ u = .int .u64 (valL (L.drop j))) (fun _ i => (intOf i).toNat)
  case atStart => exact ⟨k, Nat.le_refl _, rfl, by rw [List.drop_of_length_le (by rw [HL.out]; omega)]; rfl⟩
  case round =>
    obtain ⟨j, hj, rfl, rfl⟩ := hrel
    by_cases hlt : 1 ≤ j
    · have hcj : w.cell? (a.add j) = some (.int .u8 (L.getD (j - 1) 0)) := by have := hcL (j - 1) (by omega); rwa [show j - 1 + 1 = j by omega] at this
      have hst := valL_drop L (j - 1) (by rw [HL.out]; omega)
      rw [show j - 1 + 1 = j by omega] at hst
      obtain ⟨hg1, hg2⟩ := hb.get (j - 1)
      obtain ⟨hu1, hu2⟩ := hb7 j hlt
      generalize L.getD (j - 1) 0 = x at *
      generalize hu : valL (L.drop j) = u' at *
      have HST := hide hst
      have HU := hide hu
      have hjl : (j : Int) < (len : Int) := by omega
      clear hst hu hb7 hcL hy hc hv8
      go_wp2
      go_round
      case rel => exact ⟨j - 1, by omega, by go_num, by rw [HST.out]; go_num⟩
      case measure => simp [intOf]; omega
    · obtain rfl : j = 0 := by omega
      rw [List.drop_zero, HUL.out]
      obtain ⟨hv0, hv1⟩ := hv8
      clear hb7 hcL
      by_cases c1 : 0 < k
      · have hyk := hy c1
        clear hy
        have hkl2 : (k : Int) < (len : Int) := by omega
        by_cases c2 : y = 0
        · have hyb : (y == 0) = true := beq_iff_eq.2 c2
          have HT : Hid (tnRest h k u y = (0, 0, 11)) := by unfold Hid tnRest; rw [if_pos ⟨c1, c2⟩]
          clear c2
          go_wp2
          go_ret3
          exact ⟨by rw [HT.out]; rfl, rfl⟩
        · have hyb : (y == 0) = false := beq_eq_false_iff_ne.2 c2
          by_cases c3 : h % 2 = 0
          · have hpar : (h % 2 == 0) = true := beq_iff_eq.2 c3
            by_cases c4 : 9223372036854775808 ≤ u
            · have HT : Hid (tnRest h k u y = (0, 0, 11)) := by unfold Hid tnRest; rw [if_neg (fun h => c2 h.2), if_pos c3, if_pos c4]
              clear c3
              go_wp2
              go_ret3
              exact ⟨by rw [HT.out]; rfl, rfl⟩
            · have HT : Hid (tnRest h k u y = (u, 1 + k, 0)) := by unfold Hid tnRest; rw [if_neg (fun h => c2 h.2), if_pos c3, if_neg c4]
              clear c3
              go_wp2
              go_ret3
              exact ⟨by rw [HT.out]; exact tup3 (a := u) (b := 1 + (k : Int)) (c := 0) (a' := u) (b' := ((1 + k : Nat) : Int)) (c' := 0) rfl (by omega) rfl, rfl⟩
          · have hpar : (h % 2 == 0) = false := beq_eq_false_iff_ne.2 c3
            by_cases c4 : 9223372036854775808 < u
            · have HT : Hid (tnRest h k u y = (0, 0, 11)) := by unfold Hid tnRest; rw [if_neg (fun h => c2 h.2), if_neg c3, if_pos c4]
              clear c3
              go_wp2
              go_ret3
              exact ⟨by rw [HT.out]; rfl, rfl⟩
            · have HT : Hid (tnRest h k u y = (-u, 1 + k, 0)) := by unfold Hid tnRest; rw [if_neg (fun h => c2 h.2), if_neg c3, if_neg c4]
              clear c3
              go_wp2
              go_ret3
              exact ⟨by rw [HT.out]; exact tup3 (a := wrap64 (wrap64 (-wrap64 (IntKind.u64.wrap (u - 1))) - 1)) (b := 1 + (k : Int)) (c := 0) (a' := -u) (b' := ((1 + k : Nat) : Int)) (c' := 0) (neg_ref u (by omega) (by omega)) (by omega) rfl, rfl⟩
      · clear hy
        by_cases c3 : h % 2 = 0
        · have hpar : (h % 2 == 0) = true := beq_iff_eq.2 c3
          by_cases c4 : 9223372036854775808 ≤ u
          · have HT : Hid (tnRest h k u y = (0, 0, 11)) := by unfold Hid tnRest; rw [if_neg (fun h => c1 h.1), if_pos c3, if_pos c4]
            clear c3
            go_wp2
            go_ret3
            exact ⟨by rw [HT.out]; rfl, rfl⟩
          · have HT : Hid (tnRest h k u y = (u, 1 + k, 0)) := by unfold Hid tnRest; rw [if_neg (fun h => c1 h.1), if_pos c3, if_neg c4]
            clear c3
            go_wp2
            go_ret3
            exact ⟨by rw [HT.out]; exact tup3 (a := u) (b := 1 + (k : Int)) (c := 0) (a' := u) (b' := ((1 + k : Nat) : Int)) (c' := 0) rfl (by omega) rfl, rfl⟩
        · have hpar : (h % 2 == 0) = false := beq_eq_false_iff_ne.2 c3
          by_cases c4 : 9223372036854775808 < u
          · have HT : Hid (tnRest h k u y = (0, 0, 11)) := by unfold Hid tnRest; rw [if_neg (fun h => c1 h.1), if_neg c3, if_pos c4]
            clear c3
            go_wp2
            go_ret3
            exact ⟨by rw [HT.out]; rfl, rfl⟩
          · have HT : Hid (tnRest h k u y = (-u, 1 + k, 0)) := by unfold Hid tnRest; rw [if_neg (fun h => c1 h.1), if_neg c3, if_neg c4]
            clear c3
            go_wp2
            go_ret3
            exact ⟨by rw [HT.out]; exact tup3 (a := wrap64 (wrap64 (-wrap64 (IntKind.u64.wrap (u - 1))) - 1)) (b := 1 + (k : Int)) (c := 0) (a' := -u) (b' := ((1 + k : Nat) : Int)) (c' := 0) (neg_ref u (by omega) (by omega)) (by omega) rfl, rfl⟩

theorem refTake_any (bv : Value) (zs : List Int) (w : World) (hs : Sees w .u8 bv zs) (hby : Byt zs) (hm : zs.length ≤ 140737488355328) :
    Calls Try.prog 10 #[bv] w fun e w' => e = .returned (.tuple #[.int .i64 (tn zs).1, .int .i64 (tn zs).2.1, .int .i64 (tn zs).2.2]) ∧ w = w' := by
  obtain ⟨ao, cap, rfl, hlc, hnil, hc⟩ := hs
  cases zs with
  | nil => exact refTake_nil ao cap w
  | cons h r =>
    cases ao with
    | none => have := hnil rfl; simp at hlc; omega
    | some a =>
      have hc' := hc a rfl
      have hx := hby h (List.mem_cons_self ..)
      have hr : Byt r := fun b hb => hby b (List.mem_cons_of_mem _ hb)
      have hc0 : w.cell? a = some (.int .u8 h) := hc' 0 (by simp)
      obtain ⟨k, hk⟩ : ∃ k, (h / 2).toNat = k := ⟨_, rfl⟩
      have hk2 : h / 2 = (k : Int) := by omega
      simp only [List.length_cons] at hm hlc hc' ⊢
      simp only [tn, hk]
      by_cases c1 : 17 < h ∨ h = 1
      · simp only [if_pos c1]
        exact refTake_head a _ cap h w hm (by omega) hc0 c1
      simp only [if_neg c1]
      have hne : (h == 1) = false := beq_eq_false_iff_ne.2 (by omega)
      by_cases c2 : r.length < k
      · simp only [if_pos c2]
        exact refTake_short a _ cap h w hm (by omega) hc0 hx.1 (by omega) hne (by omega)
      simp only [if_neg c2]
      have hLl : (r.take k).length = k := by simp; omega
      have hLb : Byt (r.take k) := hr.take k
      obtain ⟨u, hu⟩ : ∃ u, valL (r.take k) = u := ⟨_, rfl⟩
      have hgt : ∀ t, t < k → (r.take k).getD t 0 = r.getD t 0 := fun t ht => by simp [List.getD, ht]
      have hcL : ∀ t, t < k → w.cell? (a.add (t + 1)) = some (.int .u8 ((r.take k).getD t 0)) := fun t ht => by
        rw [hc' (t + 1) (by omega), hgt t ht]; simp [List.getD]
      refine (refTake_rest a _ cap h k (r.take k) u ((r.take k).getD (k - 1) 0) w hm hc0 hx.1 (by omega) hne hk2 (by omega) hLl hu hLb hcL (fun hk0 => by have := hcL (k - 1) (by omega); rwa [show k - 1 + 1 = k by omega] at this)).mono ?_
      rintro e w' ⟨rfl, rfl⟩
      rw [hu]
      refine ⟨?_, rfl⟩
      have hwl := wid_last (r.take k) hLb (by omega)
      rw [hLl, hu] at hwl
      have key : tnRest h k u ((r.take k).getD (k - 1) 0) = (if wid u ≠ k then (0, 0, 11) else if h % 2 = 1 then (if u ≤ 9223372036854775808 then (-u, 1 + k, 0) else (0, 0, 11)) else (if u < 9223372036854775808 then (u, 1 + k, 0) else (0, 0, 11))) := by
        unfold tnRest
        by_cases hk0 : 0 < k
        · have hw := hwl hk0
          by_cases hy : (r.take k).getD (k - 1) 0 = 0
          · rw [if_pos ⟨hk0, hy⟩, if_pos (show wid u ≠ k from fun e => (hw.1 e) hy)]
          · rw [if_neg (show ¬ (0 < k ∧ (r.take k).getD (k - 1) 0 = 0) from fun q => hy q.2), if_neg (show ¬ (wid u ≠ k) from fun q => q (hw.2 hy))]
            by_cases hp : h % 2 = 0
            · rw [if_pos hp, if_neg (by omega : ¬ h % 2 = 1)]
              by_cases h4 : 9223372036854775808 ≤ u
              · rw [if_pos h4, if_neg (by omega)]
              · rw [if_neg h4, if_pos (by omega)]
            · rw [if_neg hp, if_pos (by omega : h % 2 = 1)]
              by_cases h4 : 9223372036854775808 < u
              · rw [if_pos h4, if_neg (by omega)]
              · rw [if_neg h4, if_pos (by omega)]
        · obtain rfl : k = 0 := by omega
          have hu0 : u = 0 := by rw [← hu]; simp [valL]
          have hp : h % 2 = 0 := by omega
          subst hu0
          rw [if_neg (fun h => hk0 h.1), if_pos hp, if_neg (by omega), if_neg (by decide), if_neg (by omega : ¬ h % 2 = 1), if_pos (by omega)]
      rw [key]

end Go.Proofs.Ythdghnppledakaa
