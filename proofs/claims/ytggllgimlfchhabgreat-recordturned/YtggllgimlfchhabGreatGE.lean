/- RecordTurned: what its walk wants. -/
import Derived.Test.YtggllgimlfchhabGreatGC
import Derived.Test.YtggllgimlfchhabGreatWJ
namespace Go.Proofs.YtggllgimlfchhabGreat
open Go.RowKit
set_option maxRecDepth 100000

theorem turned_byte {u bit : Int} (hu : 0 ≤ u ∧ u ≤ 255) (h0 : 0 ≤ bit % 8) (_h7 : bit % 8 ≤ 7) : 0 ≤ bits .xor .u8 u (2 ^ (bit % 8).toNat % 256) ∧ bits .xor .u8 u (2 ^ (bit % 8).toNat % 256) ≤ 255 ∧ bits .xor .u8 u (2 ^ (bit % 8).toNat % 256) ≠ u := by
  obtain ⟨k, hk⟩ : ∃ k : Int, (2 : Int) ^ (bit % 8).toNat % 256 = k := ⟨_, rfl⟩
  have hk1 : 1 ≤ k ∧ k ≤ 255 := by
    rw [← hk]
    have h8 : bit % 8 = 0 ∨ bit % 8 = 1 ∨ bit % 8 = 2 ∨ bit % 8 = 3 ∨ bit % 8 = 4 ∨ bit % 8 = 5 ∨ bit % 8 = 6 ∨ bit % 8 = 7 := by omega
    rcases h8 with h | h | h | h | h | h | h | h <;> rw [h] <;> decide
  rw [hk, u8_xor u k hu.1 (by omega) (by omega) (by omega)]
  have hxl : u.toNat ^^^ k.toNat < 2 ^ 8 := Nat.xor_lt_two_pow (by omega) (by omega)
  refine ⟨Int.natCast_nonneg _, by omega, fun e => ?_⟩
  have e2 : u.toNat ^^^ k.toNat = u.toNat ^^^ 0 := by rw [Nat.xor_zero]; omega
  have := nat_xor_cancel_left _ _ _ e2
  omega
theorem unm_bad {zs : List Int} (h : (unm zs).2 ≠ 0) : (unm zs).1 = dG := by
  unfold unm at h ⊢
  by_cases h1 : (tu zs).2.2 ≠ 0
  · rw [if_pos h1]
  rw [if_neg h1] at h ⊢
  by_cases h2 : (tu zs).2.1 < zs.length
  · rw [if_pos h2]
  rw [if_neg h2] at h ⊢
  unfold finM at h ⊢
  split at h
  · exact absurd rfl h
  · rename_i h3; rw [if_neg h3]
theorem unm_tu {zs : List Int} (h : (tu zs).2.2 ≠ 0) : (unm zs).2 = (tu zs).2.2 := by unfold unm; rw [if_pos h]
theorem mar_seal {m : MsgD} (h : marE m = 0) : marB m = sealB (msgB m) ∧ (msgB m).length ≤ 1048576 := by
  refine ⟨by simp only [marB, h, if_true], ?_⟩
  unfold marE at h
  split at h
  · split at h
    · cases h
    · omega
  · cases h
theorem turned_far {m : MsgD} (fm : FitM m) (om : OkM m) (he : marE m = 0) {p : Nat} (hp : p < (marB m).length) (hk : (marB m).getD 0 0 / 2 < (p : Int)) {y : Int} (y0 : 0 ≤ y) (y1 : y ≤ 255) (hy : y ≠ (marB m).getD p 0) : (unm ((marB m).set p y)).2 ≠ 0 := by
  obtain ⟨h1, h2⟩ := mar_seal he
  rw [h1] at hp hk hy ⊢
  have hg : (sealB (msgB m)).getD 0 0 = 2 * (wid (mag ((msgB m).length : Int)) : Int) := by
    rw [sealB_parts]
    simp [numB]
    omega
  rw [hg] at hk
  rw [sealB_length] at hp
  obtain ⟨q, hq⟩ : ∃ q, p = 1 + wid (mag ((msgB m).length : Int)) + q := ⟨p - (1 + wid (mag ((msgB m).length : Int))), by omega⟩
  rw [hq] at hy ⊢
  have ht := tu_changed (msgB m) h2 (msgB_byt fm om) q (by omega) y y0 y1 hy
  rw [unm_tu (by rw [ht]; decide), ht]
  decide
theorem turned_near {m n : MsgD} (fm : FitM m) (om : OkM m) (_he : marE m = 0) {p : Nat} (hp : p < (marB m).length) {y : Int} (y0 : 0 ≤ y) (y1 : y ≤ 255) (hy : y ≠ (marB m).getD p 0) (h : unm ((marB m).set p y) = (n, 0)) : n ≠ m := by
  rintro rfl
  have hb : Byt ((marB n).set p y) := fun x hx => by
    rcases List.mem_or_eq_of_mem_set hx with hx | rfl
    · exact marB_byt fm om x hx
    · exact ⟨y0, y1⟩
  have h1 := (unm_inv hb h).2
  have h2 : (marB n).getD p 0 = ((marB n).set p y).getD p 0 := congrArg (fun l => l.getD p 0) h1
  simp [List.getD, hp] at h2 hy
  exact hy h2.symm
theorem cut_short {m : MsgD} (he : marE m = 0) {c : Nat} (hc : c < (marB m).length) : (unm ((marB m).take c)).2 = 10 := by
  obtain ⟨h1, h2⟩ := mar_seal he
  rw [h1] at hc ⊢
  have ht := tu_cut (msgB m) h2 c hc
  rw [unm_tu (by rw [ht]; decide), ht]
theorem sees_take {w : World} {g L uc : Nat} {B : List Int} (h : Sees w .u8 (.slice (some ⟨g, 0, none⟩) L uc) B) (c : Nat) (hc : c ≤ B.length) : Sees w .u8 (.slice (some ⟨g, 0, none⟩) c uc) (B.take c) := by
  obtain ⟨ao, cap, hv, h1, h2, h3⟩ := h
  simp only [Value.slice.injEq] at hv
  obtain ⟨rfl, _, rfl⟩ := hv
  have hl : (B.take c).length = c := by rw [List.length_take]; omega
  refine ⟨_, _, by rw [hl], by omega, h2, fun a ha t ht => ?_⟩
  rw [h3 a ha t (by omega)]
  rw [hl] at ht
  simp [List.getD, ht]
theorem marB_pos {m : MsgD} (h : marE m = 0) : 0 < (marB m).length := by
  simp only [marB, h, if_true]
  rw [sealB_length]
  omega
end Go.Proofs.YtggllgimlfchhabGreat
