/- number. -/
import Derived.Test.YtknpfippdddnhabDoorJW
namespace Go.Proofs.YtknpfippdddnhabDoor
open Go.RowKit
set_option maxRecDepth 100000
theorem u16_or (x y : Int) (hx : 0 ≤ x ∧ x ≤ 255) (hy : 0 ≤ y ∧ y ≤ 255) : bits .or .u16 x (y * 256) = x + 256 * y := by
  rw [Int.mul_comm y 256]
  obtain ⟨a, rfl⟩ := Int.eq_ofNat_of_zero_le hx.1
  obtain ⟨b, rfl⟩ := Int.eq_ofNat_of_zero_le hy.1
  show IntKind.u16.wrap ((BitVec.ofInt 16 (a : Int) ||| BitVec.ofInt 16 (256 * (b : Int))).toNat : Int) = _
  have e : BitVec.ofInt 16 (256 * (b : Int)) = BitVec.ofNat 16 (2 ^ 8 * b) := by
    rw [show (256 * (b : Int)) = ((2 ^ 8 * b : Nat) : Int) by push_cast; rfl, BitVec.ofInt_natCast]
  rw [BitVec.ofInt_natCast, e, BitVec.toNat_or, BitVec.toNat_ofNat, BitVec.toNat_ofNat, Nat.mod_eq_of_lt (by omega), Nat.mod_eq_of_lt (by omega), Nat.or_comm, ← Nat.two_pow_add_eq_or_of_lt (by omega)]
  simp [IntKind.wrap, IntKind.signed, IntKind.bits]
  omega
theorem u16_or0 (x : Int) (hx : 0 ≤ x ∧ x ≤ 255) : bits .or .u16 0 x = x := by
  obtain ⟨a, rfl⟩ := Int.eq_ofNat_of_zero_le hx.1
  show IntKind.u16.wrap ((BitVec.ofInt 16 0 ||| BitVec.ofInt 16 (a : Int)).toNat : Int) = _
  rw [BitVec.ofInt_natCast]
  simp [IntKind.wrap, IntKind.signed, IntKind.bits]
  omega
theorem sg_of (u : Int) (h0 : 0 ≤ u) (h1 : u < 65536) : wrap64 (IntKind.i16.wrap u) = sg u := by
  unfold sg wrap64
  simp [IntKind.wrap, IntKind.signed, IntKind.bits]
  split <;> omega
theorem sg_of' (u : Int) (h0 : 0 ≤ u) (h1 : u < 65536) : IntKind.i16.wrap u = sg u := by
  unfold sg
  simp [IntKind.wrap, IntKind.signed, IntKind.bits]
  split <;> omega
theorem wrap64_id (u : Int) (h0 : 0 ≤ u) (h1 : u < 65536) : wrap64 u = u := by
  unfold wrap64; omega
set_option maxHeartbeats 1600000 in
theorem number0 (op : Int) (ao : Option Addr) (cap : Nat) (w : World) :
    Calls Tryd.prog 39 #[.int .i64 op, .slice ao 0 cap] w fun e w' => e = .returned (.int .i64 (imm op [])) ∧ w = w' := by
  rw [show imm op [] = 0 by unfold imm; split <;> rfl]
  by_cases he : op = 1
  · subst he
    go_enter Tryd.func39, Tryd.ntmps39
    go_wp2
    refine wp_loop_rounds 1 ?_
    rw [rounds_succ]
    go_wp2
    go_ret
    exact ⟨rfl, rfl⟩
  · have g1 : (op == 1) = false := by simpa using he
    go_enter Tryd.func39, Tryd.ntmps39
    go_wp2
    refine wp_loop_rounds 1 ?_
    rw [rounds_succ]
    go_wp2
    go_ret
    exact ⟨rfl, rfl⟩
set_option maxHeartbeats 1600000 in
theorem number1 (op x : Int) (g o cap : Nat) (w : World) (hx : 0 ≤ x ∧ x ≤ 255) (h0 : w.cell? ⟨g, o, none⟩ = some (.int .u8 x)) :
    Calls Tryd.prog 39 #[.int .i64 op, .slice (some ⟨g, o, none⟩) 1 cap] w fun e w' => e = .returned (.int .i64 (imm op [x])) ∧ w = w' := by
  have ho0 := u16_or0 x hx
  obtain ⟨hx0, hx1⟩ := hx
  by_cases he : op = 1
  · have e : imm op [x] = sg x := if_pos he
    rw [e]
    subst he
    have HE := hide (sg_of x (by omega) (by omega))
    have HE' := hide (sg_of' x (by omega) (by omega))
    clear e
    go_enter Tryd.func39, Tryd.ntmps39
    go_wp2
    refine wp_loop_rounds 2 ?_
    rw [rounds_succ]
    go_wp2
    rw [rounds_succ]
    go_wp2
    go_ret
    first | exact ⟨retInt (unhide HE), rfl⟩ | exact ⟨retInt (unhide HE'), rfl⟩ | (exact ⟨retInt (by unfold sg; rw [if_pos (by omega)]), rfl⟩)
  · have e : imm op [x] = x := if_neg he
    rw [e]
    have g1 : (op == 1) = false := by simpa using he
    have HE := hide (wrap64_id x (by omega) (by omega))
    clear e
    go_enter Tryd.func39, Tryd.ntmps39
    go_wp2
    refine wp_loop_rounds 2 ?_
    rw [rounds_succ]
    go_wp2
    rw [rounds_succ]
    go_wp2
    go_ret
    first | exact ⟨rfl, rfl⟩ | exact ⟨retInt (unhide HE), rfl⟩
set_option maxHeartbeats 1600000 in
theorem number2 (op x y : Int) (g o cap : Nat) (w : World) (hx : 0 ≤ x ∧ x ≤ 255) (hy : 0 ≤ y ∧ y ≤ 255) (h0 : w.cell? ⟨g, o, none⟩ = some (.int .u8 x)) (h1 : w.cell? ⟨g, o + 1, none⟩ = some (.int .u8 y)) :
    Calls Tryd.prog 39 #[.int .i64 op, .slice (some ⟨g, o, none⟩) 2 cap] w fun e w' => e = .returned (.int .i64 (imm op [x, y])) ∧ w = w' := by
  have ho0 := u16_or0 x hx
  have ho := u16_or x y hx hy
  obtain ⟨hy0, hy1⟩ := hy
  obtain ⟨hx0, hx1⟩ := hx
  by_cases he : op = 1
  · have e : imm op [x, y] = sg (x + 256 * y) := if_pos he
    rw [e]
    subst he
    have HE := hide (sg_of (x + 256 * y) (by omega) (by omega))
    have HE' := hide (sg_of' (x + 256 * y) (by omega) (by omega))
    clear e
    go_enter Tryd.func39, Tryd.ntmps39
    go_wp2
    refine wp_loop_rounds 3 ?_
    rw [rounds_succ]
    go_wp2
    rw [rounds_succ]
    go_wp2
    rw [rounds_succ]
    go_wp2
    go_ret
    first | exact ⟨retInt (unhide HE), rfl⟩ | exact ⟨retInt (unhide HE'), rfl⟩ | (exact ⟨retInt (by unfold sg; rw [if_pos (by omega)]), rfl⟩)
  · have e : imm op [x, y] = (x + 256 * y) := if_neg he
    rw [e]
    have g1 : (op == 1) = false := by simpa using he
    have HE := hide (wrap64_id (x + 256 * y) (by omega) (by omega))
    clear e
    go_enter Tryd.func39, Tryd.ntmps39
    go_wp2
    refine wp_loop_rounds 3 ?_
    rw [rounds_succ]
    go_wp2
    rw [rounds_succ]
    go_wp2
    rw [rounds_succ]
    go_wp2
    go_ret
    first | exact ⟨rfl, rfl⟩ | exact ⟨retInt (unhide HE), rfl⟩
end Go.Proofs.YtknpfippdddnhabDoor
