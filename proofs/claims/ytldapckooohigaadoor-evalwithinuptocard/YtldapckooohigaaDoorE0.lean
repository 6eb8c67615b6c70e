/- Binary and Narrow, the program's and the document's. -/
import Derived.Test.YtldapckooohigaaDoorJP
import Derived.BigQuiet
import Derived.Deep.QuietTactic
namespace Go.Proofs.YtldapckooohigaaDoor
open Go.RowKit
set_option maxRecDepth 100000
def fl (b : Bool) : Int := if b then 1 else 0
theorem flag_any (b : Bool) (w : World) : Calls Tryd.prog 28 #[.bool b] w fun e w' => e = .returned (.int .i64 (fl b)) ∧ w = w' := by
  cases b
  · go_enter Tryd.func28, Tryd.ntmps28
    go_wp2
    go_ret
    exact ⟨rfl, rfl⟩
  · go_enter Tryd.func28, Tryd.ntmps28
    go_wp2
    go_ret
    exact ⟨rfl, rfl⟩
theorem truth_any (b : Bool) (w : World) : Calls Tryd.prog 29 #[.bool b] w fun e w' => e = .returned (.int .i64 (fl b)) ∧ w = w' := by
  cases b
  · go_enter Tryd.func29, Tryd.ntmps29
    go_wp2
    go_ret
    exact ⟨rfl, rfl⟩
  · go_enter Tryd.func29, Tryd.ntmps29
    go_wp2
    go_ret
    exact ⟨rfl, rfl⟩
/-- What is made of two numbers. -/
def binP (op a b : Int) : Int × Int :=
  if (op = 11 ∨ op = 12) ∧ b = 0 then (0, 3)
  else if op = 8 then (wrap64 (a + b), 0)
  else if op = 9 then (wrap64 (a - b), 0)
  else if op = 10 then (wrap64 (a * b), 0)
  else if op = 11 then (wrap64 (a.tdiv b), 0)
  else if op = 12 then (a.tmod b, 0)
  else if op = 13 then (bits BinOp.and IntKind.i64 a b, 0)
  else if op = 14 then (bits BinOp.or IntKind.i64 a b, 0)
  else if op = 15 then (bits BinOp.xor IntKind.i64 a b, 0)
  else if op = 16 then (wrap64 (a * 2 ^ (b % 64).toNat), 0)
  else if op = 17 then (a / 2 ^ (b % 64).toNat, 0)
  else if op = 18 then (wrap64 (IntKind.u64.wrap a / 2 ^ (b % 64).toNat), 0)
  else if op = 20 then (fl (decide (a < b)), 0)
  else if op = 21 then (fl (a == b), 0)
  else (0, 1)
theorem mask63 (b : Int) : min (IntKind.u64.wrap (bits BinOp.and IntKind.i64 b 63)).toNat 64 = (b % 64).toNat := by
  have h0 : bits BinOp.and IntKind.i64 b 63 = b % 64 := by
    have e : (BitVec.ofInt 64 b &&& BitVec.ofInt 64 63).toNat = (b % 64).toNat := by
      rw [BitVec.toNat_and, BitVec.toNat_ofInt, BitVec.toNat_ofInt]
      have h63 : ((63 : Int) % ((2 ^ 64 : Nat) : Int)).toNat = 2 ^ 6 - 1 := by decide
      rw [h63, Nat.and_two_pow_sub_one_eq_mod]
      omega
    show IntKind.i64.wrap ((BitVec.ofInt 64 b &&& BitVec.ofInt 64 63).toNat : Int) = b % 64
    rw [e]
    have h1 := Int.emod_nonneg b (by decide : (64 : Int) ≠ 0)
    have h2 := Int.emod_lt_of_pos b (by decide : (0 : Int) < 64)
    rw [Int.toNat_of_nonneg h1]
    exact wrap_i64 _ (by omega) (by omega)
  have h1 := Int.emod_nonneg b (by decide : (64 : Int) ≠ 0)
  have h2 := Int.emod_lt_of_pos b (by decide : (0 : Int) < 64)
  have h3 : IntKind.u64.wrap (b % 64) = b % 64 := by
    unfold IntKind.wrap
    simp [IntKind.signed, IntKind.bits]
    omega
  rw [h0, h3]
  omega
theorem t8_8 (a b : Int) (w : World) : Calls Tryd.prog 8 #[.int .i64 8, .int .i64 a, .int .i64 b] w fun e w' => e = .returned (.tuple #[.int .i64 (wrap64 (a + b)), .int .i64 0]) ∧ w = w' := by
  rcases hb : (b == 0) with _ | _
  · go_enter Tryd.func8, Tryd.ntmps8
    go_wp2
    exact bodyPost_ret (v := Value.tuple #[Value.int .i64 (wrap64 (a + b)), Value.int .i64 0]) (by simp [results, Tryd.results8, go_sem]) rfl ⟨rfl, rfl⟩
  · go_enter Tryd.func8, Tryd.ntmps8
    go_wp2
    exact bodyPost_ret (v := Value.tuple #[Value.int .i64 (wrap64 (a + b)), Value.int .i64 0]) (by simp [results, Tryd.results8, go_sem]) rfl ⟨rfl, rfl⟩
theorem t8_9 (a b : Int) (w : World) : Calls Tryd.prog 8 #[.int .i64 9, .int .i64 a, .int .i64 b] w fun e w' => e = .returned (.tuple #[.int .i64 (wrap64 (a - b)), .int .i64 0]) ∧ w = w' := by
  rcases hb : (b == 0) with _ | _
  · go_enter Tryd.func8, Tryd.ntmps8
    go_wp2
    exact bodyPost_ret (v := Value.tuple #[Value.int .i64 (wrap64 (a - b)), Value.int .i64 0]) (by simp [results, Tryd.results8, go_sem]) rfl ⟨rfl, rfl⟩
  · go_enter Tryd.func8, Tryd.ntmps8
    go_wp2
    exact bodyPost_ret (v := Value.tuple #[Value.int .i64 (wrap64 (a - b)), Value.int .i64 0]) (by simp [results, Tryd.results8, go_sem]) rfl ⟨rfl, rfl⟩
theorem t8_10 (a b : Int) (w : World) : Calls Tryd.prog 8 #[.int .i64 10, .int .i64 a, .int .i64 b] w fun e w' => e = .returned (.tuple #[.int .i64 (wrap64 (a * b)), .int .i64 0]) ∧ w = w' := by
  rcases hb : (b == 0) with _ | _
  · go_enter Tryd.func8, Tryd.ntmps8
    go_wp2
    exact bodyPost_ret (v := Value.tuple #[Value.int .i64 (wrap64 (a * b)), Value.int .i64 0]) (by simp [results, Tryd.results8, go_sem]) rfl ⟨rfl, rfl⟩
  · go_enter Tryd.func8, Tryd.ntmps8
    go_wp2
    exact bodyPost_ret (v := Value.tuple #[Value.int .i64 (wrap64 (a * b)), Value.int .i64 0]) (by simp [results, Tryd.results8, go_sem]) rfl ⟨rfl, rfl⟩
theorem t8_11z (a : Int) (w : World) : Calls Tryd.prog 8 #[.int .i64 11, .int .i64 a, .int .i64 0] w fun e w' => e = .returned (.tuple #[.int .i64 0, .int .i64 3]) ∧ w = w' := by
  go_enter Tryd.func8, Tryd.ntmps8
  go_wp2
  exact bodyPost_ret (v := Value.tuple #[Value.int .i64 (0), Value.int .i64 3]) (by simp [results, Tryd.results8, go_sem]) rfl ⟨rfl, rfl⟩
theorem t8_11 (a b : Int) (hb : ¬ b = 0) (w : World) : Calls Tryd.prog 8 #[.int .i64 11, .int .i64 a, .int .i64 b] w fun e w' => e = .returned (.tuple #[.int .i64 (wrap64 (a.tdiv b)), .int .i64 0]) ∧ w = w' := by
  have g1 : (b == 0) = false := by simpa using hb
  go_enter Tryd.func8, Tryd.ntmps8
  go_wp2
  exact bodyPost_ret (v := Value.tuple #[Value.int .i64 (wrap64 (a.tdiv b)), Value.int .i64 0]) (by simp [results, Tryd.results8, go_sem]) rfl ⟨rfl, rfl⟩
theorem t8_12z (a : Int) (w : World) : Calls Tryd.prog 8 #[.int .i64 12, .int .i64 a, .int .i64 0] w fun e w' => e = .returned (.tuple #[.int .i64 0, .int .i64 3]) ∧ w = w' := by
  go_enter Tryd.func8, Tryd.ntmps8
  go_wp2
  exact bodyPost_ret (v := Value.tuple #[Value.int .i64 (0), Value.int .i64 3]) (by simp [results, Tryd.results8, go_sem]) rfl ⟨rfl, rfl⟩
theorem t8_12 (a b : Int) (hb : ¬ b = 0) (w : World) : Calls Tryd.prog 8 #[.int .i64 12, .int .i64 a, .int .i64 b] w fun e w' => e = .returned (.tuple #[.int .i64 (a.tmod b), .int .i64 0]) ∧ w = w' := by
  have g1 : (b == 0) = false := by simpa using hb
  go_enter Tryd.func8, Tryd.ntmps8
  go_wp2
  exact bodyPost_ret (v := Value.tuple #[Value.int .i64 (a.tmod b), Value.int .i64 0]) (by simp [results, Tryd.results8, go_sem]) rfl ⟨rfl, rfl⟩
theorem t8_13 (a b : Int) (w : World) : Calls Tryd.prog 8 #[.int .i64 13, .int .i64 a, .int .i64 b] w fun e w' => e = .returned (.tuple #[.int .i64 (bits BinOp.and IntKind.i64 a b), .int .i64 0]) ∧ w = w' := by
  rcases hb : (b == 0) with _ | _
  · go_enter Tryd.func8, Tryd.ntmps8
    go_wp2
    exact bodyPost_ret (v := Value.tuple #[Value.int .i64 (bits BinOp.and IntKind.i64 a b), Value.int .i64 0]) (by simp [results, Tryd.results8, go_sem]) rfl ⟨rfl, rfl⟩
  · go_enter Tryd.func8, Tryd.ntmps8
    go_wp2
    exact bodyPost_ret (v := Value.tuple #[Value.int .i64 (bits BinOp.and IntKind.i64 a b), Value.int .i64 0]) (by simp [results, Tryd.results8, go_sem]) rfl ⟨rfl, rfl⟩
theorem t8_14 (a b : Int) (w : World) : Calls Tryd.prog 8 #[.int .i64 14, .int .i64 a, .int .i64 b] w fun e w' => e = .returned (.tuple #[.int .i64 (bits BinOp.or IntKind.i64 a b), .int .i64 0]) ∧ w = w' := by
  rcases hb : (b == 0) with _ | _
  · go_enter Tryd.func8, Tryd.ntmps8
    go_wp2
    exact bodyPost_ret (v := Value.tuple #[Value.int .i64 (bits BinOp.or IntKind.i64 a b), Value.int .i64 0]) (by simp [results, Tryd.results8, go_sem]) rfl ⟨rfl, rfl⟩
  · go_enter Tryd.func8, Tryd.ntmps8
    go_wp2
    exact bodyPost_ret (v := Value.tuple #[Value.int .i64 (bits BinOp.or IntKind.i64 a b), Value.int .i64 0]) (by simp [results, Tryd.results8, go_sem]) rfl ⟨rfl, rfl⟩
theorem t8_15 (a b : Int) (w : World) : Calls Tryd.prog 8 #[.int .i64 15, .int .i64 a, .int .i64 b] w fun e w' => e = .returned (.tuple #[.int .i64 (bits BinOp.xor IntKind.i64 a b), .int .i64 0]) ∧ w = w' := by
  rcases hb : (b == 0) with _ | _
  · go_enter Tryd.func8, Tryd.ntmps8
    go_wp2
    exact bodyPost_ret (v := Value.tuple #[Value.int .i64 (bits BinOp.xor IntKind.i64 a b), Value.int .i64 0]) (by simp [results, Tryd.results8, go_sem]) rfl ⟨rfl, rfl⟩
  · go_enter Tryd.func8, Tryd.ntmps8
    go_wp2
    exact bodyPost_ret (v := Value.tuple #[Value.int .i64 (bits BinOp.xor IntKind.i64 a b), Value.int .i64 0]) (by simp [results, Tryd.results8, go_sem]) rfl ⟨rfl, rfl⟩
theorem t8_16 (a b : Int) (w : World) : Calls Tryd.prog 8 #[.int .i64 16, .int .i64 a, .int .i64 b] w fun e w' => e = .returned (.tuple #[.int .i64 (wrap64 (a * 2 ^ (b % 64).toNat)), .int .i64 0]) ∧ w = w' := by
  rcases hb : (b == 0) with _ | _
  · go_enter Tryd.func8, Tryd.ntmps8
    go_wp2
    exact bodyPost_ret (v := Value.tuple #[Value.int .i64 (wrap64 (a * 2 ^ (b % 64).toNat)), Value.int .i64 0]) (by simp [results, Tryd.results8, go_sem]) rfl ⟨rfl, rfl⟩
  · go_enter Tryd.func8, Tryd.ntmps8
    go_wp2
    exact bodyPost_ret (v := Value.tuple #[Value.int .i64 (wrap64 (a * 2 ^ (b % 64).toNat)), Value.int .i64 0]) (by simp [results, Tryd.results8, go_sem]) rfl ⟨rfl, rfl⟩
theorem t8_17 (a b : Int) (w : World) : Calls Tryd.prog 8 #[.int .i64 17, .int .i64 a, .int .i64 b] w fun e w' => e = .returned (.tuple #[.int .i64 (a / 2 ^ (b % 64).toNat), .int .i64 0]) ∧ w = w' := by
  rcases hb : (b == 0) with _ | _
  · go_enter Tryd.func8, Tryd.ntmps8
    go_wp2
    exact bodyPost_ret (v := Value.tuple #[Value.int .i64 (a / 2 ^ (b % 64).toNat), Value.int .i64 0]) (by simp [results, Tryd.results8, go_sem]) rfl ⟨rfl, rfl⟩
  · go_enter Tryd.func8, Tryd.ntmps8
    go_wp2
    exact bodyPost_ret (v := Value.tuple #[Value.int .i64 (a / 2 ^ (b % 64).toNat), Value.int .i64 0]) (by simp [results, Tryd.results8, go_sem]) rfl ⟨rfl, rfl⟩
theorem t8_18 (a b : Int) (w : World) : Calls Tryd.prog 8 #[.int .i64 18, .int .i64 a, .int .i64 b] w fun e w' => e = .returned (.tuple #[.int .i64 (wrap64 (IntKind.u64.wrap a / 2 ^ (b % 64).toNat)), .int .i64 0]) ∧ w = w' := by
  rcases hb : (b == 0) with _ | _
  · go_enter Tryd.func8, Tryd.ntmps8
    go_wp2
    exact bodyPost_ret (v := Value.tuple #[Value.int .i64 (wrap64 (IntKind.u64.wrap a / 2 ^ (b % 64).toNat)), Value.int .i64 0]) (by simp [results, Tryd.results8, go_sem]) rfl ⟨rfl, rfl⟩
  · go_enter Tryd.func8, Tryd.ntmps8
    go_wp2
    exact bodyPost_ret (v := Value.tuple #[Value.int .i64 (wrap64 (IntKind.u64.wrap a / 2 ^ (b % 64).toNat)), Value.int .i64 0]) (by simp [results, Tryd.results8, go_sem]) rfl ⟨rfl, rfl⟩
theorem t8_20 (a b : Int) (w : World) : Calls Tryd.prog 8 #[.int .i64 20, .int .i64 a, .int .i64 b] w fun e w' => e = .returned (.tuple #[.int .i64 (fl (decide (a < b))), .int .i64 0]) ∧ w = w' := by
  have HF := hide (fun b w => flag_any b w)
  rcases hb : (b == 0) with _ | _
  · go_enter Tryd.func8, Tryd.ntmps8
    go_wp2_with (go_at_call 28; refine (unhide HF _ _).mono ?_; rintro e w1 ⟨rfl, rfl⟩)
    exact bodyPost_ret (v := Value.tuple #[Value.int .i64 (fl (decide (a < b))), Value.int .i64 0]) (by simp [results, Tryd.results8, go_sem]) rfl ⟨rfl, rfl⟩
  · go_enter Tryd.func8, Tryd.ntmps8
    go_wp2_with (go_at_call 28; refine (unhide HF _ _).mono ?_; rintro e w1 ⟨rfl, rfl⟩)
    exact bodyPost_ret (v := Value.tuple #[Value.int .i64 (fl (decide (a < b))), Value.int .i64 0]) (by simp [results, Tryd.results8, go_sem]) rfl ⟨rfl, rfl⟩
theorem t8_21 (a b : Int) (w : World) : Calls Tryd.prog 8 #[.int .i64 21, .int .i64 a, .int .i64 b] w fun e w' => e = .returned (.tuple #[.int .i64 (fl (a == b)), .int .i64 0]) ∧ w = w' := by
  have HF := hide (fun b w => flag_any b w)
  rcases hb : (b == 0) with _ | _
  · go_enter Tryd.func8, Tryd.ntmps8
    go_wp2_with (go_at_call 28; refine (unhide HF _ _).mono ?_; rintro e w1 ⟨rfl, rfl⟩)
    exact bodyPost_ret (v := Value.tuple #[Value.int .i64 (fl (a == b)), Value.int .i64 0]) (by simp [results, Tryd.results8, go_sem]) rfl ⟨rfl, rfl⟩
  · go_enter Tryd.func8, Tryd.ntmps8
    go_wp2_with (go_at_call 28; refine (unhide HF _ _).mono ?_; rintro e w1 ⟨rfl, rfl⟩)
    exact bodyPost_ret (v := Value.tuple #[Value.int .i64 (fl (a == b)), Value.int .i64 0]) (by simp [results, Tryd.results8, go_sem]) rfl ⟨rfl, rfl⟩
theorem t8_else (op a b : Int) (h8 : ¬ op = 8) (h9 : ¬ op = 9) (h10 : ¬ op = 10) (h11 : ¬ op = 11) (h12 : ¬ op = 12) (h13 : ¬ op = 13) (h14 : ¬ op = 14) (h15 : ¬ op = 15) (h16 : ¬ op = 16) (h17 : ¬ op = 17) (h18 : ¬ op = 18) (h20 : ¬ op = 20) (h21 : ¬ op = 21) (w : World) : Calls Tryd.prog 8 #[.int .i64 op, .int .i64 a, .int .i64 b] w fun e w' => e = .returned (.tuple #[.int .i64 0, .int .i64 1]) ∧ w = w' := by
  have k8 : (op == 8) = false := by simpa using h8
  have k9 : (op == 9) = false := by simpa using h9
  have k10 : (op == 10) = false := by simpa using h10
  have k11 : (op == 11) = false := by simpa using h11
  have k12 : (op == 12) = false := by simpa using h12
  have k13 : (op == 13) = false := by simpa using h13
  have k14 : (op == 14) = false := by simpa using h14
  have k15 : (op == 15) = false := by simpa using h15
  have k16 : (op == 16) = false := by simpa using h16
  have k17 : (op == 17) = false := by simpa using h17
  have k18 : (op == 18) = false := by simpa using h18
  have k20 : (op == 20) = false := by simpa using h20
  have k21 : (op == 21) = false := by simpa using h21
  clear h8 h9 h10 h11 h12 h13 h14 h15 h16 h17 h18 h20 h21
  rcases hb : (b == 0) with _ | _
  · go_enter Tryd.func8, Tryd.ntmps8
    go_wp2
    exact bodyPost_ret (v := Value.tuple #[Value.int .i64 0, Value.int .i64 1]) (by simp [results, Tryd.results8, go_sem]) rfl ⟨rfl, rfl⟩
  · go_enter Tryd.func8, Tryd.ntmps8
    go_wp2
    exact bodyPost_ret (v := Value.tuple #[Value.int .i64 0, Value.int .i64 1]) (by simp [results, Tryd.results8, go_sem]) rfl ⟨rfl, rfl⟩
theorem binary_any (op a b : Int) (w : World) : Calls Tryd.prog 8 #[.int .i64 op, .int .i64 a, .int .i64 b] w fun e w' => e = .returned (.tuple #[.int .i64 (binP op a b).1, .int .i64 (binP op a b).2]) ∧ w = w' := by
  by_cases h8 : op = 8
  · subst h8; exact t8_8 a b w
  by_cases h9 : op = 9
  · subst h9; exact t8_9 a b w
  by_cases h10 : op = 10
  · subst h10; exact t8_10 a b w
  by_cases h11 : op = 11
  · subst h11
    by_cases hb : b = 0
    · subst hb; exact t8_11z a w
    · have e : binP 11 a b = (wrap64 (a.tdiv b), 0) := by simp [binP, hb]
      rw [e]; exact t8_11 a b hb w
  by_cases h12 : op = 12
  · subst h12
    by_cases hb : b = 0
    · subst hb; exact t8_12z a w
    · have e : binP 12 a b = (a.tmod b, 0) := by simp [binP, hb]
      rw [e]; exact t8_12 a b hb w
  by_cases h13 : op = 13
  · subst h13; exact t8_13 a b w
  by_cases h14 : op = 14
  · subst h14; exact t8_14 a b w
  by_cases h15 : op = 15
  · subst h15; exact t8_15 a b w
  by_cases h16 : op = 16
  · subst h16; exact t8_16 a b w
  by_cases h17 : op = 17
  · subst h17; exact t8_17 a b w
  by_cases h18 : op = 18
  · subst h18; exact t8_18 a b w
  by_cases h20 : op = 20
  · subst h20; exact t8_20 a b w
  by_cases h21 : op = 21
  · subst h21; exact t8_21 a b w
  have e : binP op a b = (0, 1) := by simp [binP, h8, h9, h10, h11, h12, h13, h14, h15, h16, h17, h18, h20, h21]
  rw [e]; exact t8_else op a b h8 h9 h10 h11 h12 h13 h14 h15 h16 h17 h18 h20 h21 w
theorem t9_8 (a b : Int) (w : World) : Calls Tryd.prog 9 #[.int .i64 8, .int .i64 a, .int .i64 b] w fun e w' => e = .returned (.tuple #[.int .i64 (wrap64 (a + b)), .int .i64 0]) ∧ w = w' := by
  rcases hb : (b == 0) with _ | _
  · go_enter Tryd.func9, Tryd.ntmps9
    go_wp2
    exact bodyPost_ret (v := Value.tuple #[Value.int .i64 (wrap64 (a + b)), Value.int .i64 0]) (by simp [results, Tryd.results9, go_sem]) rfl ⟨rfl, rfl⟩
  · go_enter Tryd.func9, Tryd.ntmps9
    go_wp2
    exact bodyPost_ret (v := Value.tuple #[Value.int .i64 (wrap64 (a + b)), Value.int .i64 0]) (by simp [results, Tryd.results9, go_sem]) rfl ⟨rfl, rfl⟩
theorem t9_9 (a b : Int) (w : World) : Calls Tryd.prog 9 #[.int .i64 9, .int .i64 a, .int .i64 b] w fun e w' => e = .returned (.tuple #[.int .i64 (wrap64 (a - b)), .int .i64 0]) ∧ w = w' := by
  rcases hb : (b == 0) with _ | _
  · go_enter Tryd.func9, Tryd.ntmps9
    go_wp2
    exact bodyPost_ret (v := Value.tuple #[Value.int .i64 (wrap64 (a - b)), Value.int .i64 0]) (by simp [results, Tryd.results9, go_sem]) rfl ⟨rfl, rfl⟩
  · go_enter Tryd.func9, Tryd.ntmps9
    go_wp2
    exact bodyPost_ret (v := Value.tuple #[Value.int .i64 (wrap64 (a - b)), Value.int .i64 0]) (by simp [results, Tryd.results9, go_sem]) rfl ⟨rfl, rfl⟩
theorem t9_10 (a b : Int) (w : World) : Calls Tryd.prog 9 #[.int .i64 10, .int .i64 a, .int .i64 b] w fun e w' => e = .returned (.tuple #[.int .i64 (wrap64 (a * b)), .int .i64 0]) ∧ w = w' := by
  rcases hb : (b == 0) with _ | _
  · go_enter Tryd.func9, Tryd.ntmps9
    go_wp2
    exact bodyPost_ret (v := Value.tuple #[Value.int .i64 (wrap64 (a * b)), Value.int .i64 0]) (by simp [results, Tryd.results9, go_sem]) rfl ⟨rfl, rfl⟩
  · go_enter Tryd.func9, Tryd.ntmps9
    go_wp2
    exact bodyPost_ret (v := Value.tuple #[Value.int .i64 (wrap64 (a * b)), Value.int .i64 0]) (by simp [results, Tryd.results9, go_sem]) rfl ⟨rfl, rfl⟩
theorem t9_11z (a : Int) (w : World) : Calls Tryd.prog 9 #[.int .i64 11, .int .i64 a, .int .i64 0] w fun e w' => e = .returned (.tuple #[.int .i64 0, .int .i64 3]) ∧ w = w' := by
  go_enter Tryd.func9, Tryd.ntmps9
  go_wp2
  exact bodyPost_ret (v := Value.tuple #[Value.int .i64 (0), Value.int .i64 3]) (by simp [results, Tryd.results9, go_sem]) rfl ⟨rfl, rfl⟩
theorem t9_11 (a b : Int) (hb : ¬ b = 0) (w : World) : Calls Tryd.prog 9 #[.int .i64 11, .int .i64 a, .int .i64 b] w fun e w' => e = .returned (.tuple #[.int .i64 (wrap64 (a.tdiv b)), .int .i64 0]) ∧ w = w' := by
  have g1 : (b == 0) = false := by simpa using hb
  go_enter Tryd.func9, Tryd.ntmps9
  go_wp2
  exact bodyPost_ret (v := Value.tuple #[Value.int .i64 (wrap64 (a.tdiv b)), Value.int .i64 0]) (by simp [results, Tryd.results9, go_sem]) rfl ⟨rfl, rfl⟩
theorem t9_12z (a : Int) (w : World) : Calls Tryd.prog 9 #[.int .i64 12, .int .i64 a, .int .i64 0] w fun e w' => e = .returned (.tuple #[.int .i64 0, .int .i64 3]) ∧ w = w' := by
  go_enter Tryd.func9, Tryd.ntmps9
  go_wp2
  exact bodyPost_ret (v := Value.tuple #[Value.int .i64 (0), Value.int .i64 3]) (by simp [results, Tryd.results9, go_sem]) rfl ⟨rfl, rfl⟩
theorem t9_12 (a b : Int) (hb : ¬ b = 0) (w : World) : Calls Tryd.prog 9 #[.int .i64 12, .int .i64 a, .int .i64 b] w fun e w' => e = .returned (.tuple #[.int .i64 (a.tmod b), .int .i64 0]) ∧ w = w' := by
  have g1 : (b == 0) = false := by simpa using hb
  go_enter Tryd.func9, Tryd.ntmps9
  go_wp2
  exact bodyPost_ret (v := Value.tuple #[Value.int .i64 (a.tmod b), Value.int .i64 0]) (by simp [results, Tryd.results9, go_sem]) rfl ⟨rfl, rfl⟩
theorem t9_13 (a b : Int) (w : World) : Calls Tryd.prog 9 #[.int .i64 13, .int .i64 a, .int .i64 b] w fun e w' => e = .returned (.tuple #[.int .i64 (bits BinOp.and IntKind.i64 a b), .int .i64 0]) ∧ w = w' := by
  rcases hb : (b == 0) with _ | _
  · go_enter Tryd.func9, Tryd.ntmps9
    go_wp2
    exact bodyPost_ret (v := Value.tuple #[Value.int .i64 (bits BinOp.and IntKind.i64 a b), Value.int .i64 0]) (by simp [results, Tryd.results9, go_sem]) rfl ⟨rfl, rfl⟩
  · go_enter Tryd.func9, Tryd.ntmps9
    go_wp2
    exact bodyPost_ret (v := Value.tuple #[Value.int .i64 (bits BinOp.and IntKind.i64 a b), Value.int .i64 0]) (by simp [results, Tryd.results9, go_sem]) rfl ⟨rfl, rfl⟩
theorem t9_14 (a b : Int) (w : World) : Calls Tryd.prog 9 #[.int .i64 14, .int .i64 a, .int .i64 b] w fun e w' => e = .returned (.tuple #[.int .i64 (bits BinOp.or IntKind.i64 a b), .int .i64 0]) ∧ w = w' := by
  rcases hb : (b == 0) with _ | _
  · go_enter Tryd.func9, Tryd.ntmps9
    go_wp2
    exact bodyPost_ret (v := Value.tuple #[Value.int .i64 (bits BinOp.or IntKind.i64 a b), Value.int .i64 0]) (by simp [results, Tryd.results9, go_sem]) rfl ⟨rfl, rfl⟩
  · go_enter Tryd.func9, Tryd.ntmps9
    go_wp2
    exact bodyPost_ret (v := Value.tuple #[Value.int .i64 (bits BinOp.or IntKind.i64 a b), Value.int .i64 0]) (by simp [results, Tryd.results9, go_sem]) rfl ⟨rfl, rfl⟩
theorem t9_15 (a b : Int) (w : World) : Calls Tryd.prog 9 #[.int .i64 15, .int .i64 a, .int .i64 b] w fun e w' => e = .returned (.tuple #[.int .i64 (bits BinOp.xor IntKind.i64 a b), .int .i64 0]) ∧ w = w' := by
  rcases hb : (b == 0) with _ | _
  · go_enter Tryd.func9, Tryd.ntmps9
    go_wp2
    exact bodyPost_ret (v := Value.tuple #[Value.int .i64 (bits BinOp.xor IntKind.i64 a b), Value.int .i64 0]) (by simp [results, Tryd.results9, go_sem]) rfl ⟨rfl, rfl⟩
  · go_enter Tryd.func9, Tryd.ntmps9
    go_wp2
    exact bodyPost_ret (v := Value.tuple #[Value.int .i64 (bits BinOp.xor IntKind.i64 a b), Value.int .i64 0]) (by simp [results, Tryd.results9, go_sem]) rfl ⟨rfl, rfl⟩
theorem t9_16 (a b : Int) (w : World) : Calls Tryd.prog 9 #[.int .i64 16, .int .i64 a, .int .i64 b] w fun e w' => e = .returned (.tuple #[.int .i64 (wrap64 (a * 2 ^ (b % 64).toNat)), .int .i64 0]) ∧ w = w' := by
  rcases hb : (b == 0) with _ | _
  · go_enter Tryd.func9, Tryd.ntmps9
    go_wp2
    exact bodyPost_ret (v := Value.tuple #[Value.int .i64 (wrap64 (a * 2 ^ (b % 64).toNat)), Value.int .i64 0]) (by simp [results, Tryd.results9, go_sem, mask63]) rfl ⟨rfl, rfl⟩
  · go_enter Tryd.func9, Tryd.ntmps9
    go_wp2
    exact bodyPost_ret (v := Value.tuple #[Value.int .i64 (wrap64 (a * 2 ^ (b % 64).toNat)), Value.int .i64 0]) (by simp [results, Tryd.results9, go_sem, mask63]) rfl ⟨rfl, rfl⟩
theorem t9_17 (a b : Int) (w : World) : Calls Tryd.prog 9 #[.int .i64 17, .int .i64 a, .int .i64 b] w fun e w' => e = .returned (.tuple #[.int .i64 (a / 2 ^ (b % 64).toNat), .int .i64 0]) ∧ w = w' := by
  rcases hb : (b == 0) with _ | _
  · go_enter Tryd.func9, Tryd.ntmps9
    go_wp2
    exact bodyPost_ret (v := Value.tuple #[Value.int .i64 (a / 2 ^ (b % 64).toNat), Value.int .i64 0]) (by simp [results, Tryd.results9, go_sem, mask63]) rfl ⟨rfl, rfl⟩
  · go_enter Tryd.func9, Tryd.ntmps9
    go_wp2
    exact bodyPost_ret (v := Value.tuple #[Value.int .i64 (a / 2 ^ (b % 64).toNat), Value.int .i64 0]) (by simp [results, Tryd.results9, go_sem, mask63]) rfl ⟨rfl, rfl⟩
theorem t9_18 (a b : Int) (w : World) : Calls Tryd.prog 9 #[.int .i64 18, .int .i64 a, .int .i64 b] w fun e w' => e = .returned (.tuple #[.int .i64 (wrap64 (IntKind.u64.wrap a / 2 ^ (b % 64).toNat)), .int .i64 0]) ∧ w = w' := by
  rcases hb : (b == 0) with _ | _
  · go_enter Tryd.func9, Tryd.ntmps9
    go_wp2
    exact bodyPost_ret (v := Value.tuple #[Value.int .i64 (wrap64 (IntKind.u64.wrap a / 2 ^ (b % 64).toNat)), Value.int .i64 0]) (by simp [results, Tryd.results9, go_sem, mask63]) rfl ⟨rfl, rfl⟩
  · go_enter Tryd.func9, Tryd.ntmps9
    go_wp2
    exact bodyPost_ret (v := Value.tuple #[Value.int .i64 (wrap64 (IntKind.u64.wrap a / 2 ^ (b % 64).toNat)), Value.int .i64 0]) (by simp [results, Tryd.results9, go_sem, mask63]) rfl ⟨rfl, rfl⟩
theorem t9_20 (a b : Int) (w : World) : Calls Tryd.prog 9 #[.int .i64 20, .int .i64 a, .int .i64 b] w fun e w' => e = .returned (.tuple #[.int .i64 (fl (decide (a < b))), .int .i64 0]) ∧ w = w' := by
  have HF := hide (fun b w => truth_any b w)
  rcases hb : (b == 0) with _ | _
  · go_enter Tryd.func9, Tryd.ntmps9
    go_wp2_with (go_at_call 29; refine (unhide HF _ _).mono ?_; rintro e w1 ⟨rfl, rfl⟩)
    exact bodyPost_ret (v := Value.tuple #[Value.int .i64 (fl (decide (a < b))), Value.int .i64 0]) (by simp [results, Tryd.results9, go_sem]) rfl ⟨rfl, rfl⟩
  · go_enter Tryd.func9, Tryd.ntmps9
    go_wp2_with (go_at_call 29; refine (unhide HF _ _).mono ?_; rintro e w1 ⟨rfl, rfl⟩)
    exact bodyPost_ret (v := Value.tuple #[Value.int .i64 (fl (decide (a < b))), Value.int .i64 0]) (by simp [results, Tryd.results9, go_sem]) rfl ⟨rfl, rfl⟩
theorem t9_21 (a b : Int) (w : World) : Calls Tryd.prog 9 #[.int .i64 21, .int .i64 a, .int .i64 b] w fun e w' => e = .returned (.tuple #[.int .i64 (fl (a == b)), .int .i64 0]) ∧ w = w' := by
  have HF := hide (fun b w => truth_any b w)
  rcases hb : (b == 0) with _ | _
  · go_enter Tryd.func9, Tryd.ntmps9
    go_wp2_with (go_at_call 29; refine (unhide HF _ _).mono ?_; rintro e w1 ⟨rfl, rfl⟩)
    exact bodyPost_ret (v := Value.tuple #[Value.int .i64 (fl (a == b)), Value.int .i64 0]) (by simp [results, Tryd.results9, go_sem]) rfl ⟨rfl, rfl⟩
  · go_enter Tryd.func9, Tryd.ntmps9
    go_wp2_with (go_at_call 29; refine (unhide HF _ _).mono ?_; rintro e w1 ⟨rfl, rfl⟩)
    exact bodyPost_ret (v := Value.tuple #[Value.int .i64 (fl (a == b)), Value.int .i64 0]) (by simp [results, Tryd.results9, go_sem]) rfl ⟨rfl, rfl⟩
theorem t9_else (op a b : Int) (h8 : ¬ op = 8) (h9 : ¬ op = 9) (h10 : ¬ op = 10) (h11 : ¬ op = 11) (h12 : ¬ op = 12) (h13 : ¬ op = 13) (h14 : ¬ op = 14) (h15 : ¬ op = 15) (h16 : ¬ op = 16) (h17 : ¬ op = 17) (h18 : ¬ op = 18) (h20 : ¬ op = 20) (h21 : ¬ op = 21) (w : World) : Calls Tryd.prog 9 #[.int .i64 op, .int .i64 a, .int .i64 b] w fun e w' => e = .returned (.tuple #[.int .i64 0, .int .i64 1]) ∧ w = w' := by
  have k8 : (op == 8) = false := by simpa using h8
  have k9 : (op == 9) = false := by simpa using h9
  have k10 : (op == 10) = false := by simpa using h10
  have k11 : (op == 11) = false := by simpa using h11
  have k12 : (op == 12) = false := by simpa using h12
  have k13 : (op == 13) = false := by simpa using h13
  have k14 : (op == 14) = false := by simpa using h14
  have k15 : (op == 15) = false := by simpa using h15
  have k16 : (op == 16) = false := by simpa using h16
  have k17 : (op == 17) = false := by simpa using h17
  have k18 : (op == 18) = false := by simpa using h18
  have k20 : (op == 20) = false := by simpa using h20
  have k21 : (op == 21) = false := by simpa using h21
  clear h8 h9 h10 h11 h12 h13 h14 h15 h16 h17 h18 h20 h21
  rcases hb : (b == 0) with _ | _
  · go_enter Tryd.func9, Tryd.ntmps9
    go_wp2
    exact bodyPost_ret (v := Value.tuple #[Value.int .i64 0, Value.int .i64 1]) (by simp [results, Tryd.results9, go_sem]) rfl ⟨rfl, rfl⟩
  · go_enter Tryd.func9, Tryd.ntmps9
    go_wp2
    exact bodyPost_ret (v := Value.tuple #[Value.int .i64 0, Value.int .i64 1]) (by simp [results, Tryd.results9, go_sem]) rfl ⟨rfl, rfl⟩
theorem rbinary_any (op a b : Int) (w : World) : Calls Tryd.prog 9 #[.int .i64 op, .int .i64 a, .int .i64 b] w fun e w' => e = .returned (.tuple #[.int .i64 (binP op a b).1, .int .i64 (binP op a b).2]) ∧ w = w' := by
  by_cases h8 : op = 8
  · subst h8; exact t9_8 a b w
  by_cases h9 : op = 9
  · subst h9; exact t9_9 a b w
  by_cases h10 : op = 10
  · subst h10; exact t9_10 a b w
  by_cases h11 : op = 11
  · subst h11
    by_cases hb : b = 0
    · subst hb; exact t9_11z a w
    · have e : binP 11 a b = (wrap64 (a.tdiv b), 0) := by simp [binP, hb]
      rw [e]; exact t9_11 a b hb w
  by_cases h12 : op = 12
  · subst h12
    by_cases hb : b = 0
    · subst hb; exact t9_12z a w
    · have e : binP 12 a b = (a.tmod b, 0) := by simp [binP, hb]
      rw [e]; exact t9_12 a b hb w
  by_cases h13 : op = 13
  · subst h13; exact t9_13 a b w
  by_cases h14 : op = 14
  · subst h14; exact t9_14 a b w
  by_cases h15 : op = 15
  · subst h15; exact t9_15 a b w
  by_cases h16 : op = 16
  · subst h16; exact t9_16 a b w
  by_cases h17 : op = 17
  · subst h17; exact t9_17 a b w
  by_cases h18 : op = 18
  · subst h18; exact t9_18 a b w
  by_cases h20 : op = 20
  · subst h20; exact t9_20 a b w
  by_cases h21 : op = 21
  · subst h21; exact t9_21 a b w
  have e : binP op a b = (0, 1) := by simp [binP, h8, h9, h10, h11, h12, h13, h14, h15, h16, h17, h18, h20, h21]
  rw [e]; exact t9_else op a b h8 h9 h10 h11 h12 h13 h14 h15 h16 h17 h18 h20 h21 w
theorem w8_eq (a : Int) : IntKind.i8.wrap a = (a + 128) % 256 - 128 := by
  unfold IntKind.wrap
  simp [IntKind.signed, IntKind.bits]
  split <;> omega
theorem w16_eq (a : Int) : IntKind.i16.wrap a = (a + 32768) % 65536 - 32768 := by
  unfold IntKind.wrap
  simp [IntKind.signed, IntKind.bits]
  split <;> omega
/-- A number cut. -/
def narP (a n : Int) : Int := if n = 8 then (a + 128) % 256 - 128 else if n = 16 then (a + 32768) % 65536 - 32768 else if n = 32 then (a + 2147483648) % 4294967296 - 2147483648 else a
theorem n11_8 (a : Int) (w : World) : Calls Tryd.prog 11 #[.int .i64 a, .int .i64 8] w fun e w' => e = .returned (.int .i64 ((a + 128) % 256 - 128)) ∧ w = w' := by
  go_enter Tryd.func11, Tryd.ntmps11
  go_wp2
  go_ret
  exact ⟨retInt (by simp only [wrap64, w8_eq]; omega), rfl⟩
theorem n11_16 (a : Int) (w : World) : Calls Tryd.prog 11 #[.int .i64 a, .int .i64 16] w fun e w' => e = .returned (.int .i64 ((a + 32768) % 65536 - 32768)) ∧ w = w' := by
  go_enter Tryd.func11, Tryd.ntmps11
  go_wp2
  go_ret
  exact ⟨retInt (by simp only [wrap64, w16_eq]; omega), rfl⟩
theorem n11_32 (a : Int) (w : World) : Calls Tryd.prog 11 #[.int .i64 a, .int .i64 32] w fun e w' => e = .returned (.int .i64 ((a + 2147483648) % 4294967296 - 2147483648)) ∧ w = w' := by
  go_enter Tryd.func11, Tryd.ntmps11
  go_wp2
  go_ret
  exact ⟨retInt (by simp only [wrap64, wrap32]; omega), rfl⟩
theorem n11_else (a n : Int) (h8 : ¬ n = 8) (h16 : ¬ n = 16) (h32 : ¬ n = 32) (w : World) : Calls Tryd.prog 11 #[.int .i64 a, .int .i64 n] w fun e w' => e = .returned (.int .i64 a) ∧ w = w' := by
  have k8 : (n == 8) = false := by simpa using h8
  have k16 : (n == 16) = false := by simpa using h16
  have k32 : (n == 32) = false := by simpa using h32
  go_enter Tryd.func11, Tryd.ntmps11
  go_wp2
  go_ret
  exact ⟨rfl, rfl⟩
theorem narrow_any (a n : Int) (w : World) : Calls Tryd.prog 11 #[.int .i64 a, .int .i64 n] w fun e w' => e = .returned (.int .i64 (narP a n)) ∧ w = w' := by
  by_cases h8 : n = 8
  · subst h8; exact n11_8 a w
  by_cases h16 : n = 16
  · subst h16; exact n11_16 a w
  by_cases h32 : n = 32
  · subst h32; exact n11_32 a w
  have e : narP a n = a := by simp [narP, h8, h16, h32]
  rw [e]; exact n11_else a n h8 h16 h32 w
theorem n12_8 (a : Int) (w : World) : Calls Tryd.prog 12 #[.int .i64 a, .int .i64 8] w fun e w' => e = .returned (.int .i64 ((a + 128) % 256 - 128)) ∧ w = w' := by
  go_enter Tryd.func12, Tryd.ntmps12
  go_wp2
  go_ret
  exact ⟨retInt (by simp only [wrap64]; omega), rfl⟩
theorem n12_16 (a : Int) (w : World) : Calls Tryd.prog 12 #[.int .i64 a, .int .i64 16] w fun e w' => e = .returned (.int .i64 ((a + 32768) % 65536 - 32768)) ∧ w = w' := by
  go_enter Tryd.func12, Tryd.ntmps12
  go_wp2
  go_ret
  exact ⟨retInt (by simp only [wrap64]; omega), rfl⟩
theorem n12_32 (a : Int) (w : World) : Calls Tryd.prog 12 #[.int .i64 a, .int .i64 32] w fun e w' => e = .returned (.int .i64 ((a + 2147483648) % 4294967296 - 2147483648)) ∧ w = w' := by
  go_enter Tryd.func12, Tryd.ntmps12
  go_wp2
  go_ret
  exact ⟨retInt (by simp only [wrap64]; omega), rfl⟩
theorem n12_else (a n : Int) (h8 : ¬ n = 8) (h16 : ¬ n = 16) (h32 : ¬ n = 32) (w : World) : Calls Tryd.prog 12 #[.int .i64 a, .int .i64 n] w fun e w' => e = .returned (.int .i64 a) ∧ w = w' := by
  have k8 : (n == 8) = false := by simpa using h8
  have k16 : (n == 16) = false := by simpa using h16
  have k32 : (n == 32) = false := by simpa using h32
  have l8 : (n != 8) = true := by simpa using h8
  have l16 : (n != 16) = true := by simpa using h16
  have l32 : (n != 32) = true := by simpa using h32
  go_enter Tryd.func12, Tryd.ntmps12
  go_wp2
  go_ret
  exact ⟨rfl, rfl⟩
theorem rnarrow_any (a n : Int) (w : World) : Calls Tryd.prog 12 #[.int .i64 a, .int .i64 n] w fun e w' => e = .returned (.int .i64 (narP a n)) ∧ w = w' := by
  by_cases h8 : n = 8
  · subst h8; exact n12_8 a w
  by_cases h16 : n = 16
  · subst h16; exact n12_16 a w
  by_cases h32 : n = 32
  · subst h32; exact n12_32 a w
  have e : narP a n = a := by simp [narP, h8, h16, h32]
  rw [e]; exact n12_else a n h8 h16 h32 w
end Go.Proofs.YtldapckooohigaaDoor
