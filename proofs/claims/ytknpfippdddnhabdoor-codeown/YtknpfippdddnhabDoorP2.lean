/- What can be reached, in pure terms. -/
import Derived.Test.YtknpfippdddnhabDoorWB
namespace Go.Proofs.YtknpfippdddnhabDoor
open Go.RowKit
set_option maxRecDepth 100000

/-- Where a run may go on behind an instruction. -/
def onw (x : Ins) : List Int := if x.op = 0 ∨ x.op = 25 then [] else if x.op = 22 then [x.im] else if x.op = 23 then [x.ad + sz x.op, x.im] else [x.ad + sz x.op]
inductive Rch (l : List Int) : Nat → Prop
  | zero : Rch l 0
  | step {p : Nat} {q : Int} : Rch l p → p < l.length → q ∈ onw (rd l p) → Rch l q.toNat
/-- What a list of instructions that was read to the end is. -/
theorem wk_facts {l : List Int} {L : List Ins} : ∀ (n p : Nat), l.length - p ≤ n → p ≤ l.length → wkR l p = (L, 0) → (p < l.length → rd l p ∈ L ∧ oneE l p = 0) ∧ ∀ x ∈ L, ∃ q, x = rd l q ∧ oneE l q = 0 ∧ (q + sA l q = l.length ∨ rd l (q + sA l q) ∈ L) := by
  intro n
  induction n generalizing L with
  | zero =>
    intro p hn hp h
    have e : l.length ≤ p := by omega
    rw [wkR_end e] at h
    simp only [Prod.mk.injEq] at h
    obtain ⟨rfl, _⟩ := h
    exact ⟨fun h => absurd h (by omega), fun x hx => by cases hx⟩
  | succ n ih =>
    intro p hn hp h
    by_cases hlt : p < l.length
    · by_cases h0 : oneE l p = 0
      · have hs := sA_pos h0
        rw [wkR_yes h0] at h
        simp only [Prod.mk.injEq] at h
        obtain ⟨hL, h2⟩ := h
        have hk : wkR l (p + sA l p) = ((wkR l (p + sA l p)).1, 0) := by rw [← h2]
        obtain ⟨i1, i2⟩ := ih (p + sA l p) (by omega) (by omega) hk
        subst hL
        refine ⟨fun _ => ⟨List.mem_cons_self .., h0⟩, fun x hx => ?_⟩
        rcases List.mem_cons.1 hx with rfl | hx
        · refine ⟨p, rfl, h0, ?_⟩
          by_cases he : p + sA l p = l.length
          · exact .inl he
          · exact .inr (List.mem_cons_of_mem _ (i1 (by omega)).1)
        · obtain ⟨q, e1, e2, e3⟩ := i2 x hx
          exact ⟨q, e1, e2, e3.imp id (List.mem_cons_of_mem _)⟩
      · rw [wkR_no hlt h0] at h
        simp only [Prod.mk.injEq] at h
        exact absurd h.2 h0
    · rw [wkR_end (by omega)] at h
      simp only [Prod.mk.injEq] at h
      obtain ⟨rfl, _⟩ := h
      exact ⟨fun h => absurd h hlt, fun x hx => by cases hx⟩
theorem dec_ok {l : List Int} (h : (dec l).2 = 0) : l.length ≤ 512 ∧ wkR l 0 = ((dec l).1, 0) ∧ ∀ x ∈ (dec l).1, tgt (dec l).1 x = true := by
  unfold dec at h ⊢
  split at h
  · cases h
  · rename_i h1
    split at h
    · rename_i h2
      exact absurd h h2
    · rename_i h2
      split at h
      · rename_i h3
        rw [if_neg h1, if_neg h2, if_pos h3]
        have h2' : (wkR l 0).2 = 0 := Classical.not_not.1 h2
        exact ⟨by omega, by rw [← h2'], fun x hx => List.all_eq_true.1 h3 x hx⟩
      · cases h
/-- An address at which a run may stand: an instruction's, or the end. -/
def Ok (l : List Int) (p : Nat) : Prop := p ≤ l.length ∧ (p < l.length → oneE l p = 0 ∧ rd l p ∈ (dec l).1)
theorem ok_zero {l : List Int} (h : (dec l).2 = 0) : Ok l 0 := by
  obtain ⟨_, hw, _⟩ := dec_ok h
  exact ⟨Nat.zero_le _, fun hp => by have := (wk_facts _ 0 (Nat.le_refl _) (Nat.zero_le _) hw).1 hp; exact ⟨this.2, this.1⟩⟩
theorem ok_next {l : List Int} (hby : Byt l) (h : (dec l).2 = 0) {p : Nat} (hp : p < l.length) (ho : Ok l p) {q : Int} (hq : q ∈ onw (rd l p)) : 0 ≤ q ∧ Ok l q.toNat := by
  obtain ⟨_, hw, ht⟩ := dec_ok h
  have hf := (wk_facts _ 0 (Nat.le_refl _) (Nat.zero_le _) hw).2
  obtain ⟨h0, hm⟩ := ho.2 hp
  have hs := sA_pos h0
  have hnext : Ok l (p + sA l p) := by
    obtain ⟨q', e1, e2, e3⟩ := hf _ hm
    have eq : (p : Int) = q' := by have := congrArg Ins.ad e1; exact this
    obtain rfl : p = q' := by omega
    refine ⟨hs.2.2.1, fun hl => ?_⟩
    rcases e3 with e3 | e3
    · omega
    · obtain ⟨q'', f1, f2, _⟩ := hf _ e3
      have eq : ((p + sA l p : Nat) : Int) = q'' := by have := congrArg Ins.ad f1; exact this
      obtain rfl : p + sA l p = q'' := by omega
      exact ⟨f2, e3⟩
  have e1 : (rd l p).ad + sz (rd l p).op = ((p + sA l p : Nat) : Int) := by rw [rd_ad, rd_op, ← hs.2.2.2]; omega
  have hjump : jmp (rd l p) = true → 0 ≤ (rd l p).im ∧ Ok l (rd l p).im.toNat := fun hj => by
    have hi := rd_im hby p hj
    have htg := ht _ hm
    unfold tgt at htg
    rw [hj] at htg
    simp only [Bool.not_true, Bool.false_or, List.any_eq_true, decide_eq_true_eq] at htg
    obtain ⟨y, hy, hya⟩ := htg
    obtain ⟨q', f1, f2, _⟩ := hf _ hy
    have eq : (rd l p).im = q' := by rw [← hya, f1]; rfl
    refine ⟨hi, ?_⟩
    rw [eq, Int.toNat_natCast]
    have := (oneE_ok f2).1
    exact ⟨by omega, fun _ => ⟨f2, by rw [← f1]; exact hy⟩⟩
  unfold onw at hq
  split at hq
  · cases hq
  · split at hq
    · rename_i h22
      obtain rfl : q = (rd l p).im := by simpa using hq
      exact hjump (decide_eq_true (.inl h22))
    · split at hq
      · rename_i h23
        rw [e1] at hq
        simp only [List.mem_cons, List.not_mem_nil, or_false] at hq
        rcases hq with rfl | rfl
        · exact ⟨by omega, by rw [Int.toNat_natCast]; exact hnext⟩
        · exact hjump (decide_eq_true (.inr h23))
      · rw [e1] at hq
        obtain rfl : q = ((p + sA l p : Nat) : Int) := by simpa using hq
        exact ⟨by omega, by rw [Int.toNat_natCast]; exact hnext⟩
theorem onw_len (x : Ins) : (onw x).length ≤ 2 := by unfold onw; (repeat' split) <;> simp
/-- How many are marked. -/
def cnt (C : Nat → Bool) : Nat := ((List.range 512).filter C).length
theorem cnt_le (C : Nat → Bool) : cnt C ≤ 512 := by unfold cnt; exact Nat.le_trans (List.length_filter_le _ _) (by simp)
def mk1 (C : Nat → Bool) (p : Nat) : Nat → Bool := fun i => C i || decide (i = p)
theorem filt_or (C : Nat → Bool) (p : Nat) : ∀ l : List Nat, (l.filter (mk1 C p)).length = (l.filter C).length + (l.filter fun i => !C i && decide (i = p)).length
  | [] => rfl
  | x :: r => by
    have ih := filt_or C p r
    have e : mk1 C p x = (C x || decide (x = p)) := rfl
    rw [List.filter_cons, List.filter_cons, List.filter_cons, e]
    cases h1 : C x <;> by_cases h2 : x = p
    · rw [decide_eq_true h2]
      show (x :: _).length = (List.filter C r).length + (x :: _).length
      rw [List.length_cons, List.length_cons, ih]
      omega
    · rw [decide_eq_false h2]
      exact ih
    · show (x :: _).length = (x :: _).length + _
      rw [List.length_cons, List.length_cons, ih]
      simp only [Bool.not_true, Bool.false_and, Bool.false_eq_true, if_false]
      omega
    · show (x :: _).length = (x :: _).length + _
      rw [List.length_cons, List.length_cons, ih]
      simp only [Bool.not_true, Bool.false_and, Bool.false_eq_true, if_false]
      omega
theorem cnt_mk {C : Nat → Bool} {p : Nat} (hp : p < 512) (h : C p = false) : cnt (mk1 C p) ≥ cnt C + 1 := by
  unfold cnt
  rw [filt_or]
  have : p ∈ (List.range 512).filter fun i => !C i && decide (i = p) := by simp [hp, h]
  have := List.length_pos_of_mem this
  omega
end Go.Proofs.YtknpfippdddnhabDoor
