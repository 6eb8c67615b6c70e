/- Heights: what the document's loop counts is what the program draws. -/
import Derived.Test.YtdcmkapfcmibeaaDoorM7
import Derived.Lib.TrailingZeros
import Derived.Laws.Bits64b
namespace Go.Proofs.YtdcmkapfcmibeaaDoor
open Go.RowKit
set_option maxRecDepth 100000

theorem deB_nat : deB = Lib.deBruijn64tab.map Int.ofNat := by decide
theorem deB_at (i : Nat) : deB.getD i 0 = (Lib.deBruijn64tab.getD i 0 : Nat) := by
  rw [deB_nat, List.getD, List.getD, List.getElem?_map]
  cases Lib.deBruijn64tab[i]? <;> rfl
theorem tz_ctz (x : Nat) (hx : x < 18446744073709551616) : tz (x : Int) = (Lib.ctz 64 x : Nat) := by
  unfold tz
  by_cases h0 : x = 0
  · subst h0; rfl
  · rw [if_neg (by omega)]
    obtain ⟨hlow, hk⟩ := Lib.lowest_bit 64 x h0 hx
    obtain ⟨hi, htab⟩ := Lib.deBruijn64_at _ hk
    have e1 : IntKind.u64.wrap (-(x : Int)) = ((18446744073709551616 - x : Nat) : Int) := by rw [IntKind.wrap_u64]; omega
    have hI : tzI (x : Int) = ((2 ^ Lib.ctz 64 x * 285870213051353865 % 18446744073709551616 / 288230376151711744 : Nat) : Int) := by
      unfold tzI
      rw [e1, bits_and_u64_nat x _ hx (by omega), show 18446744073709551616 - x = 2 ^ 64 - x from rfl, hlow, IntKind.wrap_u64]
      generalize 2 ^ Lib.ctz 64 x = a
      rw [Int.natCast_ediv, Int.natCast_emod, Int.natCast_mul]
      rfl
    rw [hI, Int.toNat_natCast, deB_at, htab]
/-- How many ones stand at a number's end. -/
def ones : Nat → Nat → Nat
  | 0, _ => 0
  | f + 1, x => if x % 2 = 0 then 0 else 1 + ones f (x / 2)
theorem ones_le : ∀ f x, ones f x ≤ f
  | 0, _ => Nat.le_refl _
  | f + 1, x => by unfold ones; have := ones_le f (x / 2); split <;> omega
theorem ones_bit : ∀ f x j, j < ones f x → x / 2 ^ j % 2 = 1
  | 0, _, _, h => by simp [ones] at h
  | f + 1, x, j, h => by
    unfold ones at h
    split at h
    · omega
    · cases j with
      | zero => simp; omega
      | succ j =>
        have := ones_bit f (x / 2) j (by omega)
        rw [Nat.div_div_eq_div_mul, ← Nat.pow_succ'] at this
        exact this
theorem ones_end : ∀ f x, ones f x < f → x / 2 ^ ones f x % 2 = 0
  | 0, _, h => by omega
  | f + 1, x, h => by
    unfold ones at h ⊢
    by_cases c : x % 2 = 0
    · rw [if_pos c]; simpa using c
    · rw [if_neg c] at h ⊢
      have := ones_end f (x / 2) (by omega)
      rw [Nat.div_div_eq_div_mul, ← Nat.pow_succ'] at this
      rw [Nat.add_comm 1]
      exact this
theorem ones_all : ∀ f, ones f (2 ^ f - 1) = f
  | 0 => rfl
  | f + 1 => by
    unfold ones
    have h1 : 1 ≤ 2 ^ f := Nat.one_le_two_pow
    rw [Nat.pow_succ, if_neg (by omega), show (2 ^ f * 2 - 1) / 2 = 2 ^ f - 1 by omega, ones_all f]
    omega
theorem ctz_not : ∀ f x, x + 1 < 2 ^ f → Lib.ctzFrom f (2 ^ f - 1 - x) = ones f x
  | 0, x, h => by simp at h
  | f + 1, x, h => by
    unfold Lib.ctzFrom ones
    rw [Nat.pow_succ] at h ⊢
    by_cases c : x % 2 = 0
    · rw [if_pos c, if_pos (by omega)]
    · rw [if_neg c, if_neg (by omega), show (2 ^ f * 2 - 1 - x) / 2 = 2 ^ f - 1 - x / 2 by omega, ctz_not f (x / 2) (by omega)]
theorem xor_all (n x : Nat) (h : x < 2 ^ n) : (2 ^ n - 1) ^^^ x = 2 ^ n - 1 - x := by
  apply Nat.eq_of_testBit_eq
  intro i
  rw [show 2 ^ n - 1 - x = 2 ^ n - (x + 1) by omega, Nat.testBit_two_pow_sub_succ h, Nat.testBit_xor, Nat.testBit_two_pow_sub_one]
  by_cases c : i < n
  · simp [c]
  · have : x.testBit i = false := Nat.testBit_lt_two_pow (Nat.lt_of_lt_of_le h (Nat.pow_le_pow_right (by decide) (by omega)))
    simp [c, this]
theorem tz_not (x : Nat) (h : x < 18446744073709551616) : tz (notX (x : Int)) = (ones 64 x : Nat) := by
  have e : notX (x : Int) = ((18446744073709551615 - x : Nat) : Int) := by
    show bits .xor .u64 ((18446744073709551615 : Nat) : Int) (x : Int) = _
    rw [bits_xor_u64_nat _ _ (by decide) h]
    exact congrArg Int.ofNat (xor_all 64 x h)
  rw [e, tz_ctz _ (by omega)]
  congr 1
  unfold Lib.ctz
  by_cases c : x = 18446744073709551615
  · subst c; rw [if_pos (by decide)]; exact (ones_all 64).symm
  · rw [if_neg (by omega)]
    exact ctz_not 64 x (by show x + 1 < 18446744073709551616; omega)
/-- The height by the ones at the end. -/
theorem hgt_ones (x : Nat) (h : x < 18446744073709551616) : hgt (x : Int) = if 8 < 1 + (ones 64 x : Int) then 8 else 1 + (ones 64 x : Int) := by
  unfold hgt
  rw [tz_not x h]
/-- A loop that counts ones up to eight ends with the height. -/
theorem hgt_stop {x : Nat} (hx : x < 18446744073709551616) {h : Nat} (h1 : 1 ≤ h) (h8 : h < 8) (hall : ∀ j, j < h - 1 → x / 2 ^ j % 2 = 1) (hend : x / 2 ^ (h - 1) % 2 ≠ 1) : hgt (x : Int) = (h : Int) := by
  rw [hgt_ones x hx]
  have ho : ones 64 x = h - 1 := by
    rcases Nat.lt_trichotomy (ones 64 x) (h - 1) with c | c | c
    · have e1 := ones_end 64 x (by omega)
      have e2 := hall _ c
      omega
    · exact c
    · exact absurd (ones_bit 64 x _ c) hend
  rw [ho, if_neg (by omega)]
  omega
theorem hgt_most {x : Nat} (hx : x < 18446744073709551616) (hall : ∀ j, j < 7 → x / 2 ^ j % 2 = 1) : hgt (x : Int) = 8 := by
  rw [hgt_ones x hx]
  have ho : 7 ≤ ones 64 x := by
    apply Nat.le_of_not_lt
    intro c
    have e1 := ones_end 64 x (by omega)
    have e2 := hall _ c
    omega
  split <;> omega
end Go.Proofs.YtdcmkapfcmibeaaDoor
