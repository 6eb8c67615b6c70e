/- From; keys and bytes, in numbers: there and back, and the order. -/
import Derived.Test.YtbajggmpklajnabA3
namespace Go.Proofs.Ytbajggmpklajnab
open Go.RowKit
set_option maxRecDepth 100000

def or32 (x b : Int) : Int := bits .or .u32 (x * 256 % 4294967296) (b % 4294967296)
def or64 (x b : Int) : Int := bits .or .u64 (IntKind.u64.wrap (x * 256)) (IntKind.u64.wrap b)
def fromT (b0 b1 b2 b3 : Int) : Int := wrap32 (bits .xor .u32 (or32 (or32 (or32 (bits .or .u32 0 (b0 % 4294967296)) b1) b2) b3) 2147483648)
def fromR (b4 b5 b6 b7 b8 b9 b10 b11 : Int) : Int := wrap64 (bits .xor .u64 (or64 (or64 (or64 (or64 (or64 (or64 (or64 (bits .or .u64 0 (IntKind.u64.wrap b4)) b5) b6) b7) b8) b9) b10) b11) 9223372036854775808)
/-! ### in numbers -/
theorem nat_xor_top (k x : Nat) (h : x < 2 ^ k) : x ^^^ 2 ^ k = x + 2 ^ k := by
  have h1 : 2 ^ k + x = 2 ^ k ||| x := Nat.two_pow_add_eq_or_of_lt h 1 |> fun e => by simpa using e
  rw [Nat.add_comm, h1]
  refine Nat.eq_of_testBit_eq fun i => ?_
  rw [Nat.testBit_xor, Nat.testBit_or, Nat.testBit_two_pow]
  by_cases hi : k = i
  · subst hi
    simp [Nat.testBit_lt_two_pow h]
  · simp [hi]
theorem nat_xor_top2 (k x : Nat) (h : x < 2 ^ k) : (x + 2 ^ k) ^^^ 2 ^ k = x := by
  rw [← nat_xor_top k x h, Nat.xor_assoc, Nat.xor_self, Nat.xor_zero]
theorem wrap_u32 (n : Int) : IntKind.u32.wrap n = n % 4294967296 := by simp [IntKind.wrap, IntKind.bits, IntKind.signed]
theorem bits_xor_u32_nat (a b : Nat) (ha : a < 4294967296) (hb : b < 4294967296) : bits .xor .u32 (a : Int) (b : Int) = ((a ^^^ b : Nat) : Int) := by
  have hx : a ^^^ b < 2 ^ 32 := Nat.xor_lt_two_pow (by omega) (by omega)
  have h1 : (BitVec.ofInt 32 (a : Int)).toNat = a := by
    rw [BitVec.ofInt_natCast, BitVec.toNat_ofNat]; exact Nat.mod_eq_of_lt (by omega)
  have h2 : (BitVec.ofInt 32 (b : Int)).toNat = b := by
    rw [BitVec.ofInt_natCast, BitVec.toNat_ofNat]; exact Nat.mod_eq_of_lt (by omega)
  show IntKind.u32.wrap ((BitVec.ofInt 32 (a : Int) ^^^ BitVec.ofInt 32 (b : Int)).toNat : Int) = _
  rw [BitVec.toNat_xor, h1, h2, wrap_u32]
  omega
theorem bits_or_u32_nat (a b : Nat) (ha : a < 4294967296) (hb : b < 4294967296) : bits .or .u32 (a : Int) (b : Int) = ((a ||| b : Nat) : Int) := by
  have hx : a ||| b < 2 ^ 32 := Nat.or_lt_two_pow (by omega) (by omega)
  have h1 : (BitVec.ofInt 32 (a : Int)).toNat = a := by
    rw [BitVec.ofInt_natCast, BitVec.toNat_ofNat]; exact Nat.mod_eq_of_lt (by omega)
  have h2 : (BitVec.ofInt 32 (b : Int)).toNat = b := by
    rw [BitVec.ofInt_natCast, BitVec.toNat_ofNat]; exact Nat.mod_eq_of_lt (by omega)
  show IntKind.u32.wrap ((BitVec.ofInt 32 (a : Int) ||| BitVec.ofInt 32 (b : Int)).toNat : Int) = _
  rw [BitVec.toNat_or, h1, h2, wrap_u32]
  omega
theorem bits_or_u64_nat' (a b : Nat) (ha : a < 18446744073709551616) (hb : b < 18446744073709551616) : bits .or .u64 (a : Int) (b : Int) = ((a ||| b : Nat) : Int) := by
  have hx : a ||| b < 2 ^ 64 := Nat.or_lt_two_pow (by omega) (by omega)
  have h1 : (BitVec.ofInt 64 (a : Int)).toNat = a := by
    rw [BitVec.ofInt_natCast, BitVec.toNat_ofNat]; exact Nat.mod_eq_of_lt (by omega)
  have h2 : (BitVec.ofInt 64 (b : Int)).toNat = b := by
    rw [BitVec.ofInt_natCast, BitVec.toNat_ofNat]; exact Nat.mod_eq_of_lt (by omega)
  show IntKind.u64.wrap ((BitVec.ofInt 64 (a : Int) ||| BitVec.ofInt 64 (b : Int)).toNat : Int) = _
  rw [BitVec.toNat_or, h1, h2, IntKind.wrap_u64]
  omega
theorem xorT_num (x : Int) (h0 : 0 ≤ x) (h1 : x < 4294967296) : bits .xor .u32 x 2147483648 = if x < 2147483648 then x + 2147483648 else x - 2147483648 := by
  obtain ⟨n, rfl⟩ := Int.eq_ofNat_of_zero_le h0
  rw [show (2147483648 : Int) = ((2147483648 : Nat) : Int) from rfl, bits_xor_u32_nat n 2147483648 (by omega) (by omega)]
  by_cases h : n < 2147483648
  · rw [if_pos (by omega), show (2147483648 : Nat) = 2 ^ 31 from rfl, nat_xor_top 31 n h]; omega
  · rw [if_neg (by omega)]
    have := nat_xor_top2 31 (n - 2147483648) (by omega)
    rw [show n - 2147483648 + 2 ^ 31 = n by omega] at this
    rw [show (2147483648 : Nat) = 2 ^ 31 from rfl, this]; omega
theorem xorR_num (x : Int) (h0 : 0 ≤ x) (h1 : x < 18446744073709551616) : bits .xor .u64 x 9223372036854775808 = if x < 9223372036854775808 then x + 9223372036854775808 else x - 9223372036854775808 := by
  obtain ⟨n, rfl⟩ := Int.eq_ofNat_of_zero_le h0
  rw [show (9223372036854775808 : Int) = ((9223372036854775808 : Nat) : Int) from rfl, bits_xor_u64_nat n 9223372036854775808 (by omega) (by omega)]
  by_cases h : n < 9223372036854775808
  · rw [if_pos (by omega), show (9223372036854775808 : Nat) = 2 ^ 63 from rfl, nat_xor_top 63 n h]; omega
  · rw [if_neg (by omega)]
    have := nat_xor_top2 63 (n - 9223372036854775808) (by omega)
    rw [show n - 9223372036854775808 + 2 ^ 63 = n by omega] at this
    rw [show (9223372036854775808 : Nat) = 2 ^ 63 from rfl, this]; omega
theorem turnT_num (t : Int) (h : -2147483648 ≤ t ∧ t ≤ 2147483647) : turnT t = t + 2147483648 := by
  unfold turnT
  rw [wrap_u32, xorT_num _ (by omega) (by omega)]
  split <;> omega
theorem turnR_num (t : Int) (h : -9223372036854775808 ≤ t ∧ t ≤ 9223372036854775807) : turnR t = t + 9223372036854775808 := by
  unfold turnR
  rw [IntKind.wrap_u64, xorR_num _ (by omega) (by omega)]
  split <;> omega
theorem nat_or_byte (x b : Nat) (hb : b < 256) : (x * 256) ||| b = x * 256 + b := by
  have := Nat.shiftLeft_add_eq_or_of_lt (i := 8) (b := b) hb x
  rw [Nat.shiftLeft_eq] at this
  exact this.symm
theorem or32_num (x b : Int) (h0 : 0 ≤ x) (h1 : x < 16777216) (b0 : 0 ≤ b) (b1 : b < 256) : or32 x b = x * 256 + b := by
  obtain ⟨n, rfl⟩ := Int.eq_ofNat_of_zero_le h0
  obtain ⟨m, rfl⟩ := Int.eq_ofNat_of_zero_le b0
  unfold or32
  rw [show (n : Int) * 256 % 4294967296 = ((n * 256 : Nat) : Int) by omega, show (m : Int) % 4294967296 = (m : Int) by omega, bits_or_u32_nat _ _ (by omega) (by omega), nat_or_byte n m (by omega)]
  omega
theorem or64_num (x b : Int) (h0 : 0 ≤ x) (h1 : x < 72057594037927936) (b0 : 0 ≤ b) (b1 : b < 256) : or64 x b = x * 256 + b := by
  obtain ⟨n, rfl⟩ := Int.eq_ofNat_of_zero_le h0
  obtain ⟨m, rfl⟩ := Int.eq_ofNat_of_zero_le b0
  unfold or64
  rw [IntKind.wrap_u64, IntKind.wrap_u64, show (n : Int) * 256 % 18446744073709551616 = ((n * 256 : Nat) : Int) by omega, show (m : Int) % 18446744073709551616 = (m : Int) by omega, bits_or_u64_nat' _ _ (by omega) (by omega), nat_or_byte n m (by omega)]
  omega
def B8 (b : Int) : Prop := 0 ≤ b ∧ b < 256
theorem or0_32 (b : Int) (h : B8 b) : bits .or .u32 0 (b % 4294967296) = b := by
  have := or32_num 0 b (by omega) (by omega) h.1 h.2
  unfold or32 at this
  simpa using this
theorem or0_64 (b : Int) (h : B8 b) : bits .or .u64 0 (IntKind.u64.wrap b) = b := by
  have := or64_num 0 b (by omega) (by omega) h.1 h.2
  unfold or64 at this
  rw [IntKind.wrap_u64 (0 * 256)] at this
  simpa using this
theorem fromT_num (b0 b1 b2 b3 : Int) (h0 : B8 b0) (h1 : B8 b1) (h2 : B8 b2) (h3 : B8 b3) : fromT b0 b1 b2 b3 = ((b0 * 256 + b1) * 256 + b2) * 256 + b3 - 2147483648 := by
  unfold fromT
  unfold B8 at *
  rw [or0_32 b0 h0, or32_num b0 b1 (by omega) (by omega) (by omega) (by omega), or32_num _ b2 (by omega) (by omega) (by omega) (by omega), or32_num _ b3 (by omega) (by omega) (by omega) (by omega), xorT_num _ (by omega) (by omega)]
  unfold wrap32
  split <;> omega
theorem fromR_num (b0 b1 b2 b3 b4 b5 b6 b7 : Int) (h0 : B8 b0) (h1 : B8 b1) (h2 : B8 b2) (h3 : B8 b3) (h4 : B8 b4) (h5 : B8 b5) (h6 : B8 b6) (h7 : B8 b7) : fromR b0 b1 b2 b3 b4 b5 b6 b7 = ((((((b0 * 256 + b1) * 256 + b2) * 256 + b3) * 256 + b4) * 256 + b5) * 256 + b6) * 256 + b7 - 9223372036854775808 := by
  unfold fromR
  unfold B8 at *
  rw [or0_64 b0 h0, or64_num b0 b1 (by omega) (by omega) (by omega) (by omega), or64_num _ b2 (by omega) (by omega) (by omega) (by omega), or64_num _ b3 (by omega) (by omega) (by omega) (by omega), or64_num _ b4 (by omega) (by omega) (by omega) (by omega), or64_num _ b5 (by omega) (by omega) (by omega) (by omega), or64_num _ b6 (by omega) (by omega) (by omega) (by omega), or64_num _ b7 (by omega) (by omega) (by omega) (by omega), xorR_num _ (by omega) (by omega)]
  unfold wrap64
  split <;> omega
theorem xor64_range (a b : Int) : 0 ≤ bits .xor .u64 a b ∧ bits .xor .u64 a b < 18446744073709551616 := by
  show 0 ≤ IntKind.u64.wrap ((BitVec.ofInt 64 a ^^^ BitVec.ofInt 64 b).toNat : Int) ∧ IntKind.u64.wrap ((BitVec.ofInt 64 a ^^^ BitVec.ofInt 64 b).toNat : Int) < _
  rw [IntKind.wrap_u64]
  omega
theorem hashF_range (k : Int × Int) : 0 ≤ hashF k ∧ hashF k < 18446744073709551616 := xor64_range _ _
theorem partF_range (k : Int × Int) (n : Int) : 0 ≤ partF k n ∧ partF k n < manyF n := by
  have h1 := hashF_range k
  have h2 := manyF_range n
  unfold partF wrap64
  rw [IntKind.wrap_u64, IntKind.wrap_u64]
  generalize hashF k = h at *
  generalize manyF n = m at *
  have h3 : 0 ≤ h / 4294967296 ∧ h / 4294967296 < 4294967296 := by omega
  generalize h / 4294967296 = u at *
  have hm : m % 18446744073709551616 = m := by omega
  rw [hm]
  have hu : u * m ≤ u * 8 := Int.mul_le_mul_of_nonneg_left h2.2 h3.1
  have hu0 : 0 ≤ u * m := Int.mul_nonneg h3.1 (by omega)
  have hu1 : u * m < 4294967296 * m := Int.mul_lt_mul_of_pos_right h3.2 (by omega)
  generalize u * m = p at *
  omega
end Go.Proofs.Ytbajggmpklajnab
