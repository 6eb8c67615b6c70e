/- The bound of Steps; levels among those below; what an operation leaves. -/
import Derived.Test.YtdcmkapfcmibeaaDoorMN
import Derived.Test.YtdcmkapfcmibeaaDoorML
namespace Go.Proofs.YtdcmkapfcmibeaaDoor
open Go.RowKit Go.Shelf
set_option maxRecDepth 100000

theorem filter_two {T : List Nd} {p q r : Nd → Bool} (hp : ∀ n, p n = true → r n = true) (hq : ∀ n, q n = true → r n = true) (hd : ∀ n, p n = true → q n = false) : (T.filter p).length + (T.filter q).length ≤ (T.filter r).length := by
  induction T with
  | nil => simp
  | cons a t ih =>
    simp only [List.filter_cons]
    have h1 := hp a
    have h2 := hq a
    have h3 := hd a
    cases ha : p a <;> cases hb : q a <;> cases hc : r a <;> simp_all <;> omega
theorem stpAt_eq (T R : List Nd) (lev : Nat) : stpAt T R lev ≤ (T.filter fun n => decide (n.h = lev + 1)).length + 1 := by
  unfold stpAt
  have h1 : (onL lev (T.drop (posL (lev + 1) T))).length ≤ (T.filter fun n => decide (n.h = lev + 1)).length := by
    have e : onL lev (T.drop (posL (lev + 1) T)) = (T.drop (posL (lev + 1) T)).filter fun n => decide (n.h = lev + 1) := by
      refine List.filter_congr fun n hn => ?_
      have := posL_low (lev + 1) T n hn
      exact decide_eq_decide.2 (by omega)
    rw [e]
    exact ((List.drop_sublist _ T).filter _).length_le
  split <;> omega
theorem stpU_bound (T R : List Nd) (i : Nat) (hi : i ≤ 8) : stpU T R i ≤ (T.filter fun n => decide (8 - i < n.h)).length + i := by
  induction i with
  | zero => exact Nat.zero_le _
  | succ i ih =>
    have h1 := stpAt_eq T R (7 - i)
    have h2 := ih (by omega)
    have h3 := filter_two (T := T) (p := fun n => decide (8 - i < n.h)) (q := fun n => decide (n.h = 7 - i + 1)) (r := fun n => decide (8 - (i + 1) < n.h))
      (fun n h => by simp only [decide_eq_true_eq] at h ⊢; omega) (fun n h => by simp only [decide_eq_true_eq] at h ⊢; omega) (fun n h => by simp only [decide_eq_true_eq, decide_eq_false_iff_not] at h ⊢; omega)
    rw [stpU]
    omega
/-- Steps is at most eight more than the number of keys below. -/
theorem stp_bound (T R : List Nd) : stpU T R 8 ≤ T.length + 8 := by
  have h1 := stpU_bound T R 8 (by omega)
  have h2 := List.length_filter_le (fun n : Nd => decide (8 - 8 < n.h)) T
  omega
theorem onL_sub {lev : Nat} {L : List Nd} {k : Ky} (h : k ∈ (onL (lev + 1) L).map (·.k)) : k ∈ (onL lev L).map (·.k) := by
  obtain ⟨n, hn, rfl⟩ := List.mem_map.1 h
  have := onL_high hn
  exact List.mem_map.2 ⟨n, List.mem_filter.2 ⟨this.1, by simp; omega⟩, rfl⟩
theorem onL_zero {w : World} {b0 sb hd : Nat} {L : List Nd} {luck : Int} (h : Sk w b0 sb hd L luck) : onL 0 L = L := List.filter_eq_self.2 fun m hm => by have := (h.ok m hm).h; simp; omega

/-- Erase, whatever it answers. -/
theorem erase_do {w : World} {b0 sb hd : Nat} {L : List Nd} {luck : Int} (h : Sk w b0 sb hd L luck) (k : Ky) :
    Calls Tryd.prog 18 #[PN sb, .agg #[.int .i32 k.1, .int .i64 k.2]] w fun e w' => (∃ r, e = .returned (.int .i64 r)) ∧ (∃ L' luck', Sk w' b0 sb hd L' luck' ∧ L'.length ≤ L.length + 1) ∧ Below b0 w w' := by
  have hb0 : b0 ≤ w.heap.size := by have := h.from_ _ (.inl rfl); have := h.lt (.inl rfl); omega
  have none_ : (∀ n ∈ hi k L, n.k ≠ k) → Calls Tryd.prog 18 #[PN sb, .agg #[.int .i32 k.1, .int .i64 k.2]] w fun e w' => (∃ r, e = .returned (.int .i64 r)) ∧ (∃ L' luck', Sk w' b0 sb hd L' luck' ∧ L'.length ≤ L.length + 1) ∧ Below b0 w w' := fun hn =>
    (erase_none h k rfl rfl hn).mono fun e w' ⟨he, hb⟩ => ⟨⟨_, he⟩, ⟨L, luck, h.below hb, by omega⟩, hb.mono hb0⟩
  cases hR : hi k L with
  | nil => exact none_ (by rw [hR]; intro n hn; cases hn)
  | cons n r =>
    by_cases hk : n.k = k
    · refine (erase_has h k rfl hR hk).mono fun e w' ⟨he, hs, hU⟩ => ⟨⟨_, he⟩, ⟨_, luck, hs, ?_⟩, h.frame hU⟩
      have := congrArg List.length (h.rise.split k)
      rw [hR, List.length_append, List.length_cons] at this
      rw [List.length_append]; omega
    · refine none_ fun m hm => ?_
      rw [hR] at hm
      rcases List.mem_cons.1 hm with rfl | hm
      · exact hk
      · -- those behind n are above it, and n is not below k
        have hr : Rising (hi k L) := h.rise.sublist List.filter_sublist
        rw [hR] at hr
        have h1 := (List.pairwise_cons.1 hr).1 m hm
        have h2 := (hi_above (k := k) (L := L) (n := n) (by rw [hR]; simp)).2
        intro e
        rw [e] at h1
        exact h2 h1
/-- What is there of a key: the node that has it, or none. -/
theorem hi_cases {w : World} {b0 sb hd : Nat} {L : List Nd} {luck : Int} (h : Sk w b0 sb hd L luck) (k : Ky) : (∃ n r, hi k L = n :: r ∧ n.k = k) ∨ ∀ m ∈ hi k L, m.k ≠ k := by
  cases hR : hi k L with
  | nil => exact .inr fun m hm => by cases hm
  | cons n r =>
    by_cases hk : n.k = k
    · exact .inl ⟨n, r, rfl, hk⟩
    · refine .inr fun m hm => ?_
      rcases List.mem_cons.1 hm with rfl | hm
      · exact hk
      · have hr : Rising (hi k L) := h.rise.sublist List.filter_sublist
        rw [hR] at hr
        have h1 := (List.pairwise_cons.1 hr).1 m hm
        have h2 := (hi_above (k := k) (L := L) (n := n) (by rw [hR]; simp)).2
        intro e
        rw [e] at h1
        exact h2 h1
/-- Put, whatever it answers. -/
theorem put_do {w : World} {b0 sb hd : Nat} {L : List Nd} {luck : Int} (h : Sk w b0 sb hd L luck) (hT : Tab w) (hb : 0 < b0) (c : Pr) (h1 : -2147483648 ≤ c.1.1 ∧ c.1.1 ≤ 2147483647) (h2 : -9223372036854775808 ≤ c.1.2 ∧ c.1.2 ≤ 9223372036854775807) (h3 : -9223372036854775808 ≤ c.2.1 ∧ c.2.1 ≤ 9223372036854775807) (hlen : L.length < 1048576) :
    Calls Tryd.prog 19 #[PN sb, .agg #[.int .i32 c.1.1, .int .i64 c.1.2, .int .i64 c.2.1, .int .i64 c.2.2]] w fun e w' => (∃ r, e = .returned (.int .i64 r)) ∧ (∃ L' luck', Sk w' b0 sb hd L' luck' ∧ L'.length ≤ L.length + 1) ∧ Below b0 w w' := by
  have hb0 : b0 ≤ w.heap.size := by have := h.from_ _ (.inl rfl); have := h.lt (.inl rfl); omega
  by_cases hs : c.2.2 < 0 ∨ 1099511627776 < c.2.2
  · exact (put_arg h c.1 c.2.1 c.2.2 hs).mono fun e w' ⟨he, hbb⟩ => ⟨⟨_, he⟩, ⟨L, luck, h.below hbb, by omega⟩, hbb.mono hb0⟩
  · have hs0 : 0 ≤ c.2.2 := by omega
    have hs1 : c.2.2 ≤ 1099511627776 := by omega
    have hsp := congrArg List.length (h.rise.split c.1)
    rw [List.length_append] at hsp
    rcases hi_cases h c.1 with ⟨n, r, hR, hk⟩ | hno
    · refine (put_has h c.1 c.2.1 c.2.2 hs0 hs1 h3 rfl hR hk).mono fun e w' ⟨he, hsk, hU⟩ => ⟨⟨_, he⟩, ⟨_, luck, hsk, ?_⟩, h.frame hU⟩
      rw [hR, List.length_cons] at hsp
      rw [List.length_append, List.length_cons]; omega
    · refine (put_new h hT hb c.1 c.2.1 c.2.2 (okN_of h1 h2 h3 ⟨hs0, hs1⟩) rfl rfl hno hlen).mono fun e w' ⟨he, ⟨p, _, hsk⟩, hU⟩ => ⟨⟨_, he⟩, ⟨_, _, hsk, ?_⟩, h.frame hU⟩
      rw [List.length_append, List.length_cons]; omega
end Go.Proofs.YtdcmkapfcmibeaaDoor
