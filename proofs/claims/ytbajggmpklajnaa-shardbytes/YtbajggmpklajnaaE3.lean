/- ShardBytes' walk. -/
import Derived.Test.YtbajggmpklajnaaE2
namespace Go.Proofs.Ytbajggmpklajnaa
open Go.RowKit
set_option maxRecDepth 100000

/-! ### the bytes' order, in numbers -/
/-- A key's bytes as numbers. -/
def bl (k : Ky) : List Int :=
  let T := k.1 + 2147483648
  let R := k.2 + 9223372036854775808
  [T / 256 / 256 / 256 % 256, T / 256 / 256 % 256, T / 256 % 256, T % 256, R / 256 / 256 / 256 / 256 / 256 / 256 / 256 % 256, R / 256 / 256 / 256 / 256 / 256 / 256 % 256, R / 256 / 256 / 256 / 256 / 256 % 256, R / 256 / 256 / 256 / 256 % 256, R / 256 / 256 / 256 % 256, R / 256 / 256 % 256, R / 256 % 256, R % 256]
theorem bytesV_bl (k : Ky) (h : OkK k) : bytesV (turnT k.1) (turnR k.2) = ((bl k).map (Value.int .u8)).toArray := by
  rw [turnT_num k.1 h.1, turnR_num k.2 h.2]
  rfl
/-- Which list comes first, told by the first place where they part. -/
def lex : List Int → List Int → Int
  | x :: r, y :: s => if x = y then lex r s else if x < y then -1 else 1
  | _, _ => 0
theorem lex_eq : ∀ {a b : List Int}, a = b → lex a b = 0
  | [], _, rfl => rfl
  | x :: r, _, rfl => by unfold lex; rw [if_pos rfl]; exact lex_eq rfl
theorem lex_at : ∀ (a b : List Int) (t : Nat) (x y : Int), a.length = b.length → (∀ u, u < t → a.getD u 0 = b.getD u 0) → a[t]? = some x → b[t]? = some y → x ≠ y → lex a b = if x < y then -1 else 1
  | [], b, t, x, y, _, _, h, _, _ => by simp at h
  | _ :: _, [], t, x, y, hl, _, _, _, _ => by simp at hl
  | p :: r, q :: s, 0, x, y, _, _, hx, hy, hn => by
    obtain rfl : p = x := by simpa using hx
    obtain rfl : q = y := by simpa using hy
    unfold lex
    rw [if_neg hn]
  | p :: r, q :: s, t + 1, x, y, hl, hu, hx, hy, hn => by
    have e : p = q := by simpa using hu 0 (by omega)
    unfold lex
    rw [if_pos e]
    exact lex_at r s t x y (by simpa using hl) (fun u h => by simpa using hu (u + 1) (by omega)) (by simpa using hx) (by simpa using hy) hn
/-- Numbers of 256 as digits: the first digit decides. -/
theorem dig {a b n : Int} (hn : 0 < n) : (if a / n = b / n then (if a % n = b % n then 0 else if a % n < b % n then (-1 : Int) else 1) else if a / n < b / n then -1 else 1) = cmpI a b := by
  have h1 := Int.emod_add_mul_ediv a n
  have h2 := Int.emod_add_mul_ediv b n
  have h3 := Int.emod_nonneg a (by omega : n ≠ 0)
  have h4 := Int.emod_nonneg b (by omega : n ≠ 0)
  have h5 := Int.emod_lt_of_pos a hn
  have h6 := Int.emod_lt_of_pos b hn
  unfold cmpI
  by_cases e : a / n = b / n
  · rw [if_pos e]
    rw [e] at h1
    generalize n * (b / n) = p at *
    (repeat' split) <;> omega
  · rw [if_neg e]
    by_cases l : a / n < b / n
    · rw [if_pos l]
      have := Int.mul_le_mul_of_nonneg_left (show a / n + 1 ≤ b / n from l) (by omega : 0 ≤ n)
      rw [Int.mul_add, Int.mul_one] at this
      rw [if_pos (by omega)]
    · rw [if_neg l]
      have := Int.mul_le_mul_of_nonneg_left (show b / n + 1 ≤ a / n by omega) (by omega : 0 ≤ n)
      rw [Int.mul_add, Int.mul_one] at this
      rw [if_neg (by omega), if_pos (by omega)]
/-- One digit more ahead of a list that is known. -/
theorem lex_step {a b n : Int} (hn : 0 < n) {r s : List Int} (h : lex r s = cmpI (a % n) (b % n)) : lex (a / n :: r) (b / n :: s) = cmpI a b := by
  rw [← dig (a := a) (b := b) hn]
  unfold lex
  by_cases e : a / n = b / n
  · rw [if_pos e, if_pos e, h]
    unfold cmpI
    (repeat' split) <;> omega
  · rw [if_neg e, if_neg e]
theorem lex_first {a b n z : Int} (hn : 0 < n) {r s : List Int} (h : lex r s = if a % n = b % n then z else cmpI (a % n) (b % n)) : lex (a / n :: r) (b / n :: s) = if a = b then z else cmpI a b := by
  have hd := dig (a := a) (b := b) hn
  have h1 := Int.emod_add_mul_ediv a n
  have h2 := Int.emod_add_mul_ediv b n
  unfold lex
  by_cases e : a / n = b / n
  · rw [if_pos e, h]
    rw [if_pos e] at hd
    by_cases e2 : a % n = b % n
    · rw [if_pos e2, if_pos (by rw [← h1, ← h2, e, e2])]
    · have hab : a ≠ b := fun c => e2 (by rw [c])
      rw [if_neg e2, if_neg hab, ← hd, if_neg e2]
      unfold cmpI
      (repeat' split) <;> omega
  · have hab : a ≠ b := fun c => e (by rw [c])
    rw [if_neg e, if_neg hab, ← hd, if_neg e]
theorem lex_R (R S : Int) (hR : 0 ≤ R ∧ R < 18446744073709551616) (hS : 0 ≤ S ∧ S < 18446744073709551616) :
    lex [R / 256 / 256 / 256 / 256 / 256 / 256 / 256 % 256, R / 256 / 256 / 256 / 256 / 256 / 256 % 256, R / 256 / 256 / 256 / 256 / 256 % 256, R / 256 / 256 / 256 / 256 % 256, R / 256 / 256 / 256 % 256, R / 256 / 256 % 256, R / 256 % 256, R % 256]
      [S / 256 / 256 / 256 / 256 / 256 / 256 / 256 % 256, S / 256 / 256 / 256 / 256 / 256 / 256 % 256, S / 256 / 256 / 256 / 256 / 256 % 256, S / 256 / 256 / 256 / 256 % 256, S / 256 / 256 / 256 % 256, S / 256 / 256 % 256, S / 256 % 256, S % 256] = cmpI R S := by
  have q0 : lex [R % 256] [S % 256] = cmpI (R % 256) (S % 256) := by
    unfold lex cmpI
    by_cases h : R % 256 = S % 256
    · rw [if_pos h, h]; simp [lex]
    · rw [if_neg h]; (repeat' split) <;> omega
  have q1 := lex_step (a := R % 65536) (b := S % 65536) (n := 256) (by decide) (by rw [show R % 65536 % 256 = R % 256 by omega, show S % 65536 % 256 = S % 256 by omega]; exact q0)
  have q2 := lex_step (a := R % 16777216) (b := S % 16777216) (n := 65536) (by decide) (by rw [show R % 16777216 % 65536 = R % 65536 by omega, show S % 16777216 % 65536 = S % 65536 by omega]; exact q1)
  have q3 := lex_step (a := R % 4294967296) (b := S % 4294967296) (n := 16777216) (by decide) (by rw [show R % 4294967296 % 16777216 = R % 16777216 by omega, show S % 4294967296 % 16777216 = S % 16777216 by omega]; exact q2)
  have q4 := lex_step (a := R % 1099511627776) (b := S % 1099511627776) (n := 4294967296) (by decide) (by rw [show R % 1099511627776 % 4294967296 = R % 4294967296 by omega, show S % 1099511627776 % 4294967296 = S % 4294967296 by omega]; exact q3)
  have q5 := lex_step (a := R % 281474976710656) (b := S % 281474976710656) (n := 1099511627776) (by decide) (by rw [show R % 281474976710656 % 1099511627776 = R % 1099511627776 by omega, show S % 281474976710656 % 1099511627776 = S % 1099511627776 by omega]; exact q4)
  have q6 := lex_step (a := R % 72057594037927936) (b := S % 72057594037927936) (n := 281474976710656) (by decide) (by rw [show R % 72057594037927936 % 281474976710656 = R % 281474976710656 by omega, show S % 72057594037927936 % 281474976710656 = S % 281474976710656 by omega]; exact q5)
  have q7 := lex_step (a := R % 18446744073709551616) (b := S % 18446744073709551616) (n := 72057594037927936) (by decide) (by rw [show R % 18446744073709551616 % 72057594037927936 = R % 72057594037927936 by omega, show S % 18446744073709551616 % 72057594037927936 = S % 72057594037927936 by omega]; exact q6)
  rw [Int.emod_eq_of_lt hR.1 hR.2, Int.emod_eq_of_lt hS.1 hS.2] at q7
  have d1 : ∀ x : Int, x % 65536 / 256 = x / 256 % 256 := fun x => by omega
  have d2 : ∀ x : Int, x % 16777216 / 65536 = x / 256 / 256 % 256 := fun x => by omega
  have d3 : ∀ x : Int, x % 4294967296 / 16777216 = x / 256 / 256 / 256 % 256 := fun x => by omega
  have d4 : ∀ x : Int, x % 1099511627776 / 4294967296 = x / 256 / 256 / 256 / 256 % 256 := fun x => by omega
  have d5 : ∀ x : Int, x % 281474976710656 / 1099511627776 = x / 256 / 256 / 256 / 256 / 256 % 256 := fun x => by omega
  have d6 : ∀ x : Int, x % 72057594037927936 / 281474976710656 = x / 256 / 256 / 256 / 256 / 256 / 256 % 256 := fun x => by omega
  have d7 : ∀ x : Int, 0 ≤ x → x < 18446744073709551616 → x / 72057594037927936 = x / 256 / 256 / 256 / 256 / 256 / 256 / 256 % 256 := fun x _ _ => by omega
  rw [d7 R hR.1 hR.2, d7 S hS.1 hS.2, d6, d6, d5, d5, d4, d4, d3, d3, d2, d2, d1, d1] at q7
  exact q7
theorem lex_T (T U z : Int) (hT : 0 ≤ T ∧ T < 4294967296) (hU : 0 ≤ U ∧ U < 4294967296) {r s : List Int} (h : lex r s = z) :
    lex (T / 256 / 256 / 256 % 256 :: T / 256 / 256 % 256 :: T / 256 % 256 :: T % 256 :: r) (U / 256 / 256 / 256 % 256 :: U / 256 / 256 % 256 :: U / 256 % 256 :: U % 256 :: s) = if T = U then z else cmpI T U := by
  have q0 : lex (T % 256 :: r) (U % 256 :: s) = if T % 256 = U % 256 then z else cmpI (T % 256) (U % 256) := by
    unfold lex cmpI
    by_cases h' : T % 256 = U % 256
    · rw [if_pos h', if_pos h', h]
    · rw [if_neg h', if_neg h']; (repeat' split) <;> omega
  have q1 := lex_first (a := T % 65536) (b := U % 65536) (n := 256) (by decide) (by rw [show T % 65536 % 256 = T % 256 by omega, show U % 65536 % 256 = U % 256 by omega]; exact q0)
  have q2 := lex_first (a := T % 16777216) (b := U % 16777216) (n := 65536) (by decide) (by rw [show T % 16777216 % 65536 = T % 65536 by omega, show U % 16777216 % 65536 = U % 65536 by omega]; exact q1)
  have q3 := lex_first (a := T % 4294967296) (b := U % 4294967296) (n := 16777216) (by decide) (by rw [show T % 4294967296 % 16777216 = T % 16777216 by omega, show U % 4294967296 % 16777216 = U % 16777216 by omega]; exact q2)
  rw [Int.emod_eq_of_lt hT.1 hT.2, Int.emod_eq_of_lt hU.1 hU.2] at q3
  have d1 : ∀ x : Int, x % 65536 / 256 = x / 256 % 256 := fun x => by omega
  have d2 : ∀ x : Int, x % 16777216 / 65536 = x / 256 / 256 % 256 := fun x => by omega
  have d3 : ∀ x : Int, 0 ≤ x → x < 4294967296 → x / 16777216 = x / 256 / 256 / 256 % 256 := fun x _ _ => by omega
  rw [d3 T hT.1 hT.2, d3 U hU.1 hU.2, d2, d2, d1, d1] at q3
  exact q3
theorem lex_bl (a b : Ky) (ha : OkK a) (hb : OkK b) : lex (bl a) (bl b) = cmpK a b := by
  have hr := lex_R (a.2 + 9223372036854775808) (b.2 + 9223372036854775808) (by have := ha.2; omega) (by have := hb.2; omega)
  have ht := lex_T (a.1 + 2147483648) (b.1 + 2147483648) _ (by have := ha.1; omega) (by have := hb.1; omega) hr
  unfold bl
  refine ht.trans ?_
  unfold cmpK cmpI
  (repeat' split) <;> omega
/-! ### there and back -/
theorem bl_byte (k : Ky) : ∀ x ∈ bl k, B8 x := by
  intro x hx
  unfold B8
  simp only [bl, List.mem_cons, List.not_mem_nil, or_false] at hx
  rcases hx with rfl | rfl | rfl | rfl | rfl | rfl | rfl | rfl | rfl | rfl | rfl | rfl <;> omega
end Go.Proofs.Ytbajggmpklajnaa
