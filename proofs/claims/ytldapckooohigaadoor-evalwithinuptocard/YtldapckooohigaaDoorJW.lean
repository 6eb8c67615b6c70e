/- Several texts as one. -/
import Derived.Test.YtldapckooohigaaDoorJP
import Derived.Deep.QuietTactic
import Derived.BigQuiet
import Derived.Deep.RegionHeld3
import Derived.Laws.Rows

/- The smallest functions: must, Size, registers, wide, isRegister, jumps, behind. -/
namespace Go.Proofs.YtldapckooohigaaDoor
open Go.RowKit
set_option maxRecDepth 100000

def GiveUp (er : Int) : Ending := .panicked [{ v := .iface 115 (.agg #[.int .i64 er]), recovered := false }]
/-- The table of sizes. -/
def Tab (w : World) : Prop := ∀ i, i < 28 → w.cell? ⟨0, i, none⟩ = some (.int .i64 (szL.getD i 0))
theorem Tab.pos {w : World} (h : Tab w) : 0 < w.heap.size := World.block_lt_of_cell? w _ (h 0 (by decide))
theorem Tab.below {w w' : World} {b : Nat} (h : Tab w) (hb : Below b w w') (h0 : 0 < b) : Tab w' := fun i hi => (hb.cell (p := ⟨0, i, none⟩) h0).trans (h i hi)

theorem must_ok (er : Int) (w : World) : Calls Tryd.prog 67 #[.bool true, .int .i64 er] w fun e w' => e = .returned (.tuple #[]) ∧ w = w' := by
  go_enter Tryd.func67, Tryd.ntmps67
  go_wp2
  go_end0
  exact ⟨rfl, rfl⟩
theorem must_no (er : Int) (w : World) : Calls Tryd.prog 67 #[.bool false, .int .i64 er] w fun e w' => e = GiveUp er ∧ w = w' := by
  go_enter Tryd.func67, Tryd.ntmps67
  go_wp2
  exact ⟨rfl, rfl, rfl⟩

theorem size_yes (op : Int) (w : World) (hT : Tab w) (h0 : 0 ≤ op) (h1 : op < 28) : Calls Tryd.prog 84 #[.int .i64 op] w fun e w' => e = .returned (.tuple #[.int .i64 (sz op), .bool true]) ∧ w = w' := by
  have hc := hT op.toNat (by omega)
  have hf := (op_facts h0 h1).2.2.2.2.2
  rw [hf] at hc
  clear hf hT
  generalize sz op = s at *
  have g1 : ¬ op < 0 := by omega
  have g2 : ¬ 28 ≤ op := by omega
  go_enter Tryd.func84, Tryd.ntmps84
  go_wp2
  go_ret2
  exact ⟨rfl, rfl⟩
theorem size_no (op : Int) (w : World) (h : ¬ (0 ≤ op ∧ op < 28)) : Calls Tryd.prog 84 #[.int .i64 op] w fun e w' => e = .returned (.tuple #[.int .i64 (sz op), .bool false]) ∧ w = w' := by
  rw [sz_none h]
  by_cases g1 : op < 0
  · clear h
    go_enter Tryd.func84, Tryd.ntmps84
    go_wp2
    go_ret2
    exact ⟨rfl, rfl⟩
  · have g2 : 28 ≤ op := by omega
    clear h
    go_enter Tryd.func84, Tryd.ntmps84
    go_wp2
    go_ret2
    exact ⟨rfl, rfl⟩
theorem reg_any (op : Int) (w : World) (h0 : 0 ≤ op) (h1 : op < 28) : Calls Tryd.prog 85 #[.int .i64 op] w fun e w' => e = .returned (.int .i64 (rg op)) ∧ w = w' := by
  rcases op_cases h0 h1 with rfl | rfl | rfl | rfl | rfl | rfl | rfl | rfl | rfl | rfl | rfl | rfl | rfl | rfl | rfl | rfl | rfl | rfl | rfl | rfl | rfl | rfl | rfl | rfl | rfl | rfl | rfl | rfl
  all_goals
    clear h0 h1
    go_enter Tryd.func85, Tryd.ntmps85
    go_wp2
    go_ret
    exact ⟨rfl, rfl⟩
theorem reg_q (op : Int) (w : World) (h0 : 0 ≤ op) (h1 : op < 28) : Calls Tryd.prog 85 #[.int .i64 op] w fun e w' => e = .returned (.int .i64 (rg op)) ∧ w' = w := (reg_any op w h0 h1).mono fun _ _ h => ⟨h.1, h.2.symm⟩
theorem isreg_any (r : Int) (w : World) : Calls Tryd.prog 101 #[.int .i64 r] w fun e w' => e = .returned (.bool (decide (0 ≤ r ∧ r < 8))) ∧ w = w' := by
  by_cases h1 : 0 ≤ r
  · by_cases h2 : r < 8
    · rw [decide_eq_true (p := 0 ≤ r ∧ r < 8) ⟨h1, h2⟩]
      go_enter Tryd.func101, Tryd.ntmps101
      go_wp2
      go_ret
      exact ⟨rfl, rfl⟩
    · rw [decide_eq_false (p := 0 ≤ r ∧ r < 8) (by omega)]
      go_enter Tryd.func101, Tryd.ntmps101
      go_wp2
      go_ret
      exact ⟨rfl, rfl⟩
  · rw [decide_eq_false (p := 0 ≤ r ∧ r < 8) (by omega)]
    go_enter Tryd.func101, Tryd.ntmps101
    go_wp2
    go_ret
    exact ⟨rfl, rfl⟩
end Go.Proofs.YtldapckooohigaaDoor

/- sound, lean, fits, jumps, behind, number. -/
namespace Go.Proofs.YtldapckooohigaaDoor
open Go.RowKit
set_option maxRecDepth 100000

abbrev iV (d o a b m : Int) : Value := .agg #[.int .i64 d, .int .i64 o, .int .i64 a, .int .i64 b, .int .i64 m]
theorem grew_drewN {a w : World} (h : Grew a w) : ∀ j, Grew a (w.drewN j) := fun j => by
  obtain ⟨q, os, rfl⟩ := h
  exact ⟨q + j, os, by simp [Sort.grow, World.drewN, Nat.add_assoc]⟩

theorem jumps_any (d o a b m : Int) (w : World) : Calls Tryd.prog 70 #[iV d o a b m] w fun e w' => e = .returned (.bool (jmp ⟨d, o, a, b, m⟩)) ∧ Grew w w' := by
  by_cases h1 : o = 22
  · rw [show jmp ⟨d, o, a, b, m⟩ = true from decide_eq_true (.inl h1)]
    subst h1
    go_enter Tryd.func70, Tryd.ntmps70
    go_wp2
    go_ret
    exact ⟨rfl, grew_alloc (grew_refl _) _⟩
  · have g1 : (o == 22) = false := by simpa using h1
    by_cases h2 : o = 23
    · rw [show jmp ⟨d, o, a, b, m⟩ = true from decide_eq_true (.inr h2)]
      subst h2
      go_enter Tryd.func70, Tryd.ntmps70
      go_wp2
      go_ret
      exact ⟨rfl, grew_alloc (grew_refl _) _⟩
    · have g2 : (o == 23) = false := by simpa using h2
      rw [show jmp ⟨d, o, a, b, m⟩ = false from decide_eq_false (by rintro (h | h); exact h1 h; exact h2 h)]
      clear h1 h2
      go_enter Tryd.func70, Tryd.ntmps70
      go_wp2
      go_ret
      exact ⟨rfl, grew_alloc (grew_refl _) _⟩

set_option maxHeartbeats 800000 in
theorem sound_any (d o a b m : Int) (w : World) : Calls Tryd.prog 87 #[iV d o a b m] w fun e w' => e = .returned (.bool (sd ⟨d, o, a, b, m⟩)) ∧ Grew w w' := by
  have key : ∀ (c : Bool), (decide (0 ≤ a ∧ a < 8)) = c → (o = 19 → m = 8 ∨ m = 16 ∨ m = 32) → sd ⟨d, o, a, b, m⟩ = (c && decide (0 ≤ b ∧ b < 8)) := by
    intro c hc hm
    subst hc
    unfold sd
    by_cases h1 : 0 ≤ a ∧ a < 8 <;> by_cases h2 : 0 ≤ b ∧ b < 8 <;> simp [h1, h2]
    exact Classical.or_iff_not_imp_left.2 fun h => hm (Classical.not_not.1 h)
  have HI := hide isreg_any
  obtain ⟨c1, hc1⟩ : ∃ c, decide (0 ≤ a ∧ a < 8) = c := ⟨_, rfl⟩
  obtain ⟨c2, hc2⟩ : ∃ c, decide (0 ≤ b ∧ b < 8) = c := ⟨_, rfl⟩
  rw [hc2] at key
  have KA : Hid (∀ w, Calls Tryd.prog 101 #[.int .i64 a] w fun e w' => e = .returned (.bool c1) ∧ w = w') := fun w => by rw [← hc1]; exact isreg_any a w
  have KB : Hid (∀ w, Calls Tryd.prog 101 #[.int .i64 b] w fun e w' => e = .returned (.bool c2) ∧ w = w') := fun w => by rw [← hc2]; exact isreg_any b w
  have HK := hide (key c1 hc1)
  have HC1 := hide hc1
  have HC2 := hide hc2
  clear key hc1 hc2 HI
  by_cases h1 : o = 19
  · by_cases h2 : m = 8
    · rw [unhide HK fun _ => .inl h2]
      subst h1 h2
      cases c1
      all_goals
        go_enter Tryd.func87, Tryd.ntmps87
        go_wp2_with fail
        refine (unhide KA _).mono ?_
        rintro e w' ⟨rfl, rfl⟩
        go_wp2_with (go_at_call 101; refine (unhide KB _).mono ?_; rintro e w' ⟨rfl, rfl⟩)
        go_ret
        exact ⟨rfl, grew_alloc (grew_refl _) _⟩
    · have g2 : (m != 8) = true := by simpa using h2
      by_cases h3 : m = 16
      · rw [unhide HK fun _ => .inr (.inl h3)]
        subst h1 h3
        cases c1
        all_goals
          go_enter Tryd.func87, Tryd.ntmps87
          go_wp2_with fail
          refine (unhide KA _).mono ?_
          rintro e w' ⟨rfl, rfl⟩
          go_wp2_with (go_at_call 101; refine (unhide KB _).mono ?_; rintro e w' ⟨rfl, rfl⟩)
          go_ret
          exact ⟨rfl, grew_alloc (grew_refl _) _⟩
      · have g3 : (m != 16) = true := by simpa using h3
        by_cases h4 : m = 32
        · rw [unhide HK fun _ => .inr (.inr h4)]
          subst h1 h4
          cases c1
          all_goals
            go_enter Tryd.func87, Tryd.ntmps87
            go_wp2_with fail
            refine (unhide KA _).mono ?_
            rintro e w' ⟨rfl, rfl⟩
            go_wp2_with (go_at_call 101; refine (unhide KB _).mono ?_; rintro e w' ⟨rfl, rfl⟩)
            go_ret
            exact ⟨rfl, grew_alloc (grew_refl _) _⟩
        · have g4 : (m != 32) = true := by simpa using h4
          rw [show sd ⟨d, o, a, b, m⟩ = false from decide_eq_false (by rintro ⟨h, -⟩; rcases h h1 with h | h | h; exact h2 h; exact h3 h; exact h4 h)]
          subst h1
          clear h2 h3 h4
          go_enter Tryd.func87, Tryd.ntmps87
          go_wp2
          go_ret
          exact ⟨rfl, grew_alloc (grew_refl _) _⟩
  · rw [unhide HK fun h => absurd h h1]
    have g1 : (o == 19) = false := by simpa using h1
    clear h1
    cases c1
    all_goals
      go_enter Tryd.func87, Tryd.ntmps87
      go_wp2_with fail
      refine (unhide KA _).mono ?_
      rintro e w' ⟨rfl, rfl⟩
      go_wp2_with (go_at_call 101; refine (unhide KB _).mono ?_; rintro e w' ⟨rfl, rfl⟩)
      go_ret
      exact ⟨rfl, grew_alloc (grew_refl _) _⟩

set_option maxHeartbeats 800000 in
theorem behind_any (d o a b m : Int) (w : World) (hT : Tab w) (h0 : 0 ≤ o) (h1 : o < 28) (hd : 0 ≤ d) (hd1 : d ≤ 4611686018427387904) : Calls Tryd.prog 68 #[iV d o a b m] w fun e w' => e = .returned (.int .i64 (d + sz o)) ∧ Grew w w' := by
  have hT' : Tab (w.alloc (.cells #[.int .i64 d, .int .i64 o, .int .i64 a, .int .i64 b, .int .i64 m] 89)) := hT.below (below_box _) hT.pos
  have hc := hT' o.toNat (by omega)
  obtain ⟨f1, f2, f3, f4, f5, f6⟩ := op_facts h0 h1
  rw [f6] at hc
  clear f3 f4 f5 f6 hT hT'
  generalize sz o = s at *
  go_enter Tryd.func68, Tryd.ntmps68
  go_wp2
  go_quiet (fail)
  go_wp2
  go_ret
  exact ⟨rfl, grew_drewN (grew_alloc (grew_refl _) _) _⟩
end Go.Proofs.YtldapckooohigaaDoor

/- lean, fits, number. -/
namespace Go.Proofs.YtldapckooohigaaDoor
open Go.RowKit
set_option maxRecDepth 100000

theorem grew_of_drewN {w w' : World} (h : ∃ j, w' = w.drewN j) : Grew w w' := by obtain ⟨j, rfl⟩ := h; exact grew_drewN (grew_refl _) j
theorem lnn_eq (d o a b m : Int) : lnn ⟨d, o, a, b, m⟩ = ((decide (0 < (rg o : Int)) || decide (a = 0)) && ((decide (1 < (rg o : Int)) || decide (b = 0)) && (decide (0 < (wd o : Int)) || decide (m = 0)))) := by
  unfold lnn
  by_cases h1 : 0 < rg o <;> by_cases h2 : 1 < rg o <;> by_cases h3 : 0 < wd o <;> by_cases h4 : a = 0 <;> by_cases h5 : b = 0 <;> by_cases h6 : m = 0 <;> simp [h1, h2, h3, h4, h5, h6] <;> omega

end Go.Proofs.YtldapckooohigaaDoor

/- fits, number. -/
namespace Go.Proofs.YtldapckooohigaaDoor
open Go.RowKit
set_option maxRecDepth 100000

theorem i16_same (m : Int) (h1 : -9223372036854775808 ≤ m) (h2 : m ≤ 9223372036854775807) : (m == wrap64 (IntKind.i16.wrap m)) = decide (-32768 ≤ m ∧ m ≤ 32767) := by
  rw [Bool.eq_iff_iff]
  simp [IntKind.wrap, IntKind.signed, IntKind.bits, wrap64]
  omega
end Go.Proofs.YtldapckooohigaaDoor

/- number. -/
namespace Go.Proofs.YtldapckooohigaaDoor
open Go.RowKit
set_option maxRecDepth 100000
theorem u16_or (x y : Int) (hx : 0 ≤ x ∧ x ≤ 255) (hy : 0 ≤ y ∧ y ≤ 255) : bits .or .u16 x (y * 256) = x + 256 * y := by
  rw [Int.mul_comm y 256]
  obtain ⟨a, rfl⟩ := Int.eq_ofNat_of_zero_le hx.1
  obtain ⟨b, rfl⟩ := Int.eq_ofNat_of_zero_le hy.1
  show IntKind.u16.wrap ((BitVec.ofInt 16 (a : Int) ||| BitVec.ofInt 16 (256 * (b : Int))).toNat : Int) = _
  have e : BitVec.ofInt 16 (256 * (b : Int)) = BitVec.ofNat 16 (2 ^ 8 * b) := by
    rw [show (256 * (b : Int)) = ((2 ^ 8 * b : Nat) : Int) by push_cast; rfl, BitVec.ofInt_natCast]
  rw [BitVec.ofInt_natCast, e, BitVec.toNat_or, BitVec.toNat_ofNat, BitVec.toNat_ofNat, Nat.mod_eq_of_lt (by omega), Nat.mod_eq_of_lt (by omega), Nat.or_comm, ← Nat.two_pow_add_eq_or_of_lt (by omega)]
  simp [IntKind.wrap, IntKind.signed, IntKind.bits]
  omega
theorem u16_or0 (x : Int) (hx : 0 ≤ x ∧ x ≤ 255) : bits .or .u16 0 x = x := by
  obtain ⟨a, rfl⟩ := Int.eq_ofNat_of_zero_le hx.1
  show IntKind.u16.wrap ((BitVec.ofInt 16 0 ||| BitVec.ofInt 16 (a : Int)).toNat : Int) = _
  rw [BitVec.ofInt_natCast]
  simp [IntKind.wrap, IntKind.signed, IntKind.bits]
  omega
theorem sg_of (u : Int) (h0 : 0 ≤ u) (h1 : u < 65536) : wrap64 (IntKind.i16.wrap u) = sg u := by
  unfold sg wrap64
  simp [IntKind.wrap, IntKind.signed, IntKind.bits]
  split <;> omega
theorem sg_of' (u : Int) (h0 : 0 ≤ u) (h1 : u < 65536) : IntKind.i16.wrap u = sg u := by
  unfold sg
  simp [IntKind.wrap, IntKind.signed, IntKind.bits]
  split <;> omega
theorem wrap64_id (u : Int) (h0 : 0 ≤ u) (h1 : u < 65536) : wrap64 u = u := by
  unfold wrap64; omega
set_option maxHeartbeats 1600000 in
theorem number0 (op : Int) (ao : Option Addr) (cap : Nat) (w : World) :
    Calls Tryd.prog 86 #[.int .i64 op, .slice ao 0 cap] w fun e w' => e = .returned (.int .i64 (imm op [])) ∧ w = w' := by
  rw [show imm op [] = 0 by unfold imm; split <;> rfl]
  by_cases he : op = 1
  · subst he
    go_enter Tryd.func86, Tryd.ntmps86
    go_wp2
    refine wp_loop_rounds 1 ?_
    rw [rounds_succ]
    go_wp2
    go_ret
    exact ⟨rfl, rfl⟩
  · have g1 : (op == 1) = false := by simpa using he
    go_enter Tryd.func86, Tryd.ntmps86
    go_wp2
    refine wp_loop_rounds 1 ?_
    rw [rounds_succ]
    go_wp2
    go_ret
    exact ⟨rfl, rfl⟩
set_option maxHeartbeats 1600000 in
theorem number1 (op x : Int) (g o cap : Nat) (w : World) (hx : 0 ≤ x ∧ x ≤ 255) (h0 : w.cell? ⟨g, o, none⟩ = some (.int .u8 x)) :
    Calls Tryd.prog 86 #[.int .i64 op, .slice (some ⟨g, o, none⟩) 1 cap] w fun e w' => e = .returned (.int .i64 (imm op [x])) ∧ w = w' := by
  have ho0 := u16_or0 x hx
  obtain ⟨hx0, hx1⟩ := hx
  by_cases he : op = 1
  · have e : imm op [x] = sg x := if_pos he
    rw [e]
    subst he
    have HE := hide (sg_of x (by omega) (by omega))
    have HE' := hide (sg_of' x (by omega) (by omega))
    clear e
    go_enter Tryd.func86, Tryd.ntmps86
    go_wp2
    refine wp_loop_rounds 2 ?_
    rw [rounds_succ]
    go_wp2
    rw [rounds_succ]
    go_wp2
    go_ret
    first | exact ⟨retInt (unhide HE), rfl⟩ | exact ⟨retInt (unhide HE'), rfl⟩ | (exact ⟨retInt (by unfold sg; rw [if_pos (by omega)]), rfl⟩)
  · have e : imm op [x] = x := if_neg he
    rw [e]
    have g1 : (op == 1) = false := by simpa using he
    have HE := hide (wrap64_id x (by omega) (by omega))
    clear e
    go_enter Tryd.func86, Tryd.ntmps86
    go_wp2
    refine wp_loop_rounds 2 ?_
    rw [rounds_succ]
    go_wp2
    rw [rounds_succ]
    go_wp2
    go_ret
    first | exact ⟨rfl, rfl⟩ | exact ⟨retInt (unhide HE), rfl⟩
set_option maxHeartbeats 1600000 in
theorem number2 (op x y : Int) (g o cap : Nat) (w : World) (hx : 0 ≤ x ∧ x ≤ 255) (hy : 0 ≤ y ∧ y ≤ 255) (h0 : w.cell? ⟨g, o, none⟩ = some (.int .u8 x)) (h1 : w.cell? ⟨g, o + 1, none⟩ = some (.int .u8 y)) :
    Calls Tryd.prog 86 #[.int .i64 op, .slice (some ⟨g, o, none⟩) 2 cap] w fun e w' => e = .returned (.int .i64 (imm op [x, y])) ∧ w = w' := by
  have ho0 := u16_or0 x hx
  have ho := u16_or x y hx hy
  obtain ⟨hy0, hy1⟩ := hy
  obtain ⟨hx0, hx1⟩ := hx
  by_cases he : op = 1
  · have e : imm op [x, y] = sg (x + 256 * y) := if_pos he
    rw [e]
    subst he
    have HE := hide (sg_of (x + 256 * y) (by omega) (by omega))
    have HE' := hide (sg_of' (x + 256 * y) (by omega) (by omega))
    clear e
    go_enter Tryd.func86, Tryd.ntmps86
    go_wp2
    refine wp_loop_rounds 3 ?_
    rw [rounds_succ]
    go_wp2
    rw [rounds_succ]
    go_wp2
    rw [rounds_succ]
    go_wp2
    go_ret
    first | exact ⟨retInt (unhide HE), rfl⟩ | exact ⟨retInt (unhide HE'), rfl⟩ | (exact ⟨retInt (by unfold sg; rw [if_pos (by omega)]), rfl⟩)
  · have e : imm op [x, y] = (x + 256 * y) := if_neg he
    rw [e]
    have g1 : (op == 1) = false := by simpa using he
    have HE := hide (wrap64_id (x + 256 * y) (by omega) (by omega))
    clear e
    go_enter Tryd.func86, Tryd.ntmps86
    go_wp2
    refine wp_loop_rounds 3 ?_
    rw [rounds_succ]
    go_wp2
    rw [rounds_succ]
    go_wp2
    rw [rounds_succ]
    go_wp2
    go_ret
    first | exact ⟨rfl, rfl⟩ | exact ⟨retInt (unhide HE), rfl⟩
end Go.Proofs.YtldapckooohigaaDoor

/- read, where an instruction is whole and lemmas. -/
namespace Go.Proofs.YtldapckooohigaaDoor
open Go.RowKit
set_option maxRecDepth 100000

theorem slice_mid {T E : TypeId} {i : TypeInfo} {k : Nat} (hT : Tryd.prog.underlying T = some (.slice E)) (hi : Tryd.prog.info? E = some i) (hk : i.size = k) (ao : Option Addr) (n cap j h : Nat) (hj : j ≤ h) (hh : h ≤ cap) (w : World) :
    (Instr.slice T (.slice ao n cap) (some (.int .i64 j)) (some (.int .i64 h)) none).run Tryd.prog w = .ok (.slice (if cap = j then ao else ao.map (·.add (j * k))) (h - j) (cap - j)) w := by
  subst hk
  simp [Instr.slice, run_underlying hT, Instr.sliceBounds, Instr.sliceBound, asIntOf, sizeOf, typeInfo, hi, hj, hh]
theorem set5 {w : World} {b : Nat} {v0 v1 v2 v3 v4 : Value} {T : TypeId} (h : w.heap[b]? = some (.cells #[v0, v1, v2, v3, v4] T)) (a0 a1 a2 a3 a4 : Value) :
    (((((w.setCell ⟨b, 0, none⟩ a0).setCell ⟨b, 1, none⟩ a1).setCell ⟨b, 2, none⟩ a2).setCell ⟨b, 3, none⟩ a3).setCell ⟨b, 4, none⟩ a4).heap[b]? = some (.cells #[a0, a1, a2, a3, a4] T) := by
  have h0 : (w.setCell ⟨b, 0, none⟩ a0).heap[b]? = some (.cells #[a0, v1, v2, v3, v4] T) := heap_setCell_same w b 0 _ T a0 h
  have h1 := heap_setCell_same _ b 1 _ T a1 h0
  have h2 := heap_setCell_same _ b 2 _ T a2 h1
  have h3 := heap_setCell_same _ b 3 _ T a3 h2
  exact heap_setCell_same _ b 4 _ T a4 h3
theorem set5b {w0 w : World} {b B : Nat} (h : Below B w0 w) (hb : B ≤ b) (a0 a1 a2 a3 a4 : Value) :
    Below B w0 (((((w.setCell ⟨b, 0, none⟩ a0).setCell ⟨b, 1, none⟩ a1).setCell ⟨b, 2, none⟩ a2).setCell ⟨b, 3, none⟩ a3).setCell ⟨b, 4, none⟩ a4) :=
  ((((h.setCell hb _).setCell hb _).setCell hb _).setCell hb _).setCell hb _
/-- What reading an instruction ends with. -/
def Rds (w : World) (er : Int) (x : Ins) (e : Ending) (w' : World) : Prop := Below w.heap.size w w' ∧ (er = 0 → e = .returned (iV x.ad x.op x.a x.b x.im)) ∧ (er ≠ 0 → e = GiveUp er)
theorem cells5 {w : World} {b : Nat} {v0 v1 v2 v3 v4 : Value} {T : TypeId} (h : w.heap[b]? = some (.cells #[v0, v1, v2, v3, v4] T)) : w.cell? ⟨b, 0, none⟩ = some v0 ∧ w.cell? ⟨b, 1, none⟩ = some v1 ∧ w.cell? ⟨b, 2, none⟩ = some v2 ∧ w.cell? ⟨b, 3, none⟩ = some v3 ∧ w.cell? ⟨b, 4, none⟩ = some v4 := ⟨cell_at h, cell_at h, cell_at h, cell_at h, cell_at h⟩

end Go.Proofs.YtldapckooohigaaDoor
