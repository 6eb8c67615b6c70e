/- level, from. -/
import Derived.Test.YtdcmkapfcmibeaaDoorMC
import Derived.Test.YtdcmkapfcmibeaaDoorB0
namespace Go.Proofs.YtdcmkapfcmibeaaDoor
open Go.RowKit Go.Shelf
attribute [local go_sem] Oper.semAt_some
set_option maxRecDepth 100000

/-- An iterator that goes through what follows q on a level. -/
def ItAt (w : World) (bx q : Nat) (lev : Nat) : Prop := w.cell? ⟨bx, 0, none⟩ = some (PN q) ∧ w.cell? ⟨bx + 1, 0, none⟩ = some (.int .i64 lev)
abbrev ItNo : Value := .func (.func 73) #[] #[]
theorem itAt_new (w : World) (q lev : Nat) : ItAt ((w.alloc (.cells #[PN q] 71)).alloc (.cells #[.int .i64 lev] 3)) w.heap.size q lev :=
  ⟨cell_old (cell_at (heap_new1 _ _)), cell_at (heap_new2 _ _ _)⟩

theorem level_yes {w : World} {b0 sb hd : Nat} {L : List Nd} {luck : Int} (h : Sk w b0 sb hd L luck) (lev : Nat) (hl : lev < 8) :
    Calls Tryd.prog 54 #[PN sb, .int .i64 lev] w fun e w' => ∃ bx, e = .returned (It bx) ∧ ItAt w' bx hd lev ∧ Below w.heap.size w w' ∧ w.heap.size ≤ bx := by
  obtain ⟨N, hm, _⟩ := h.mem
  have c0 : w.cell? ⟨sb, 0, none⟩ = some (PN hd) := cell_at hm.sk
  have HM := hide (made_yes sb hd w c0)
  have HB := hide (behind_any hd lev w)
  have hi := hide (itAt_new w hd lev)
  have hb : Hid (Below w.heap.size w ((w.alloc (.cells #[PN hd] 71)).alloc (.cells #[.int .i64 lev] 3))) := ((Below.refl _ _).alloc (Nat.le_refl _) _).alloc (by simp) _
  have d1 : decide ((lev : Int) < 0) = false := by simp
  have d2 : decide ((lev : Int) ≥ 8) = false := by simp; omega
  have d3 : decide (8 ≤ (lev : Int)) = false := by simp; omega
  clear h hm
  go_enter Tryd.func54, Tryd.ntmps54
  go_wp2_with fail
  refine (unhide HM).mono ?_
  rintro e w9 ⟨rfl, rfl⟩
  go_wp2_with fail
  refine (unhide HB).mono ?_
  rintro e w9 ⟨rfl, rfl⟩
  go_wp2
  go_ret
  exact ⟨_, rfl, unhide hi, unhide hb, Nat.le_refl _⟩
theorem level_out {w : World} {b0 sb hd : Nat} {L : List Nd} {luck : Int} (h : Sk w b0 sb hd L luck) (lev : Int) (hl : lev < 0 ∨ 8 ≤ lev) :
    Calls Tryd.prog 54 #[PN sb, .int .i64 lev] w fun e w' => e = .returned ItNo ∧ w = w' := by
  obtain ⟨N, hm, _⟩ := h.mem
  have c0 : w.cell? ⟨sb, 0, none⟩ = some (PN hd) := cell_at hm.sk
  have HM := hide (made_yes sb hd w c0)
  clear h hm
  rcases hl with hl | hl
  · have d1 : decide (lev < 0) = true := by simpa using hl
    go_enter Tryd.func54, Tryd.ntmps54
    go_wp2_with fail
    refine (unhide HM).mono ?_
    rintro e w9 ⟨rfl, rfl⟩
    go_wp2
    go_ret
    exact ⟨rfl, rfl⟩
  · have d1 : decide (lev < 0) = false := by simp; omega
    have d2 : decide (lev ≥ 8) = true := by simp; omega
    have d3 : decide (8 ≤ lev) = true := by simp; omega
    go_enter Tryd.func54, Tryd.ntmps54
    go_wp2_with fail
    refine (unhide HM).mono ?_
    rintro e w9 ⟨rfl, rfl⟩
    go_wp2
    go_ret
    exact ⟨rfl, rfl⟩

/-- What no call made: nil, or a struct of nothing. -/
def IsNo (w : World) (v : Value) : Prop := v = nilP ∨ ∃ b, v = PN b ∧ w.cell? ⟨b, 0, none⟩ = some nilP
theorem IsNo.below {w w' : World} {v : Value} (h : IsNo w v) (hb : Below w.heap.size w w') : IsNo w' v := h.imp id fun ⟨b, e, hc⟩ => ⟨b, e, (hb.cell (p := ⟨b, 0, none⟩) (World.block_lt_of_cell? w _ hc)).trans hc⟩
theorem made_no {w : World} {v : Value} (h : IsNo w v) : Calls Tryd.prog 53 #[v] w fun e w' => e = .returned (.bool false) ∧ w = w' := by
  rcases h with rfl | ⟨b, rfl, hc⟩
  · exact made_nil w
  · exact made_zero b w hc
theorem level_no {w : World} {v : Value} (h : IsNo w v) (lev : Int) : Calls Tryd.prog 54 #[v, .int .i64 lev] w fun e w' => e = .returned ItNo ∧ w = w' := by
  have HM := hide (made_no h)
  clear h
  go_enter Tryd.func54, Tryd.ntmps54
  go_wp2_with fail
  refine (unhide HM).mono ?_
  rintro e w9 ⟨rfl, rfl⟩
  go_wp2
  go_ret
  exact ⟨rfl, rfl⟩
theorem from_no {w : World} {v : Value} (h : IsNo w v) (k0 k1 : Int) : Calls Tryd.prog 63 #[v, .agg #[.int .i32 k0, .int .i64 k1]] w fun e w' => e = .returned ItNo ∧ Below w.heap.size w w' := by
  have hb : Below w.heap.size w (w.alloc (.cells #[.int .i32 k0, .int .i64 k1] 30)) := (Below.refl _ _).alloc (Nat.le_refl _) _
  have h1 := h.below hb
  have HM := hide (made_no h1)
  have HL := hide (level_no h1 0)
  have HB := hide hb
  clear h h1 hb
  go_enter Tryd.func63, Tryd.ntmps63
  go_wp2_with fail
  refine (unhide HM).mono ?_
  rintro e w9 ⟨rfl, rfl⟩
  go_wp2_with fail
  refine (unhide HL).mono ?_
  rintro e w9 ⟨rfl, rfl⟩
  go_wp2
  go_ret
  exact ⟨rfl, unhide HB⟩

theorem index0 (x0 x1 x2 x3 x4 x5 x6 x7 : Nat) (w : World) : (Instr.index 73 (.agg #[PN x0, PN x1, PN x2, PN x3, PN x4, PN x5, PN x6, PN x7]) (.int .i64 0)).run Tryd.prog w = .ok (PN x0) w := by
  simp [Instr.index, run_underlying Tryd.underlying73, part, go_sem]
theorem from_yes {w : World} {b0 sb hd : Nat} {L T : List Nd} {luck : Int} (h : Sk w b0 sb hd L luck) (k : Int × Int) (hT : lo k L = T) :
    Calls Tryd.prog 63 #[PN sb, .agg #[.int .i32 k.1, .int .i64 k.2]] w fun e w' => ∃ bx, e = .returned (It bx) ∧ ItAt w' bx (lstP hd 0 T) 0 ∧ Below w.heap.size w w' ∧ w.heap.size ≤ bx := by
  obtain ⟨n0, hn0⟩ : ∃ x, w.heap.size = x := ⟨_, rfl⟩
  obtain ⟨W1, hW1⟩ : ∃ W, w.alloc (.cells #[.int .i32 k.1, .int .i64 k.2] 30) = W := ⟨_, rfl⟩
  have hB1 : Below n0 w W1 := by rw [← hW1, ← hn0]; exact (Below.refl _ _).alloc (Nat.le_refl _) _
  have hs1 : W1.heap.size = n0 + 1 := by rw [← hW1, ← hn0]; simp
  have h1 : Sk W1 b0 sb hd L luck := h.below (by rw [hn0]; exact hB1)
  have kc : W1.heap[n0]? = some (.cells #[.int .i32 k.1, .int .i64 k.2] 30) := by rw [← hW1, ← hn0]; exact heap_new1 _ _
  have c0 : W1.cell? ⟨sb, 0, none⟩ = some (PN hd) := by obtain ⟨N, hm, _⟩ := h1.mem; exact cell_at hm.sk
  have k0 : W1.cell? ⟨n0, 0, none⟩ = some (.int .i32 k.1) := cell_at kc
  have k1 : W1.cell? ⟨n0, 1, none⟩ = some (.int .i64 k.2) := cell_at kc
  have HM := hide (made_yes sb hd W1 c0)
  have HA := hide (ahead_any h1 k.1 k.2)
  rw [show lo (k.1, k.2) L = T from hT] at HA
  have HB1 := hide (And.intro hB1 hs1)
  rw [hn0]
  clear h h1 kc c0 hB1 hs1 hT
  go_enter Tryd.func63, Tryd.ntmps63
  go_wp2_with fail
  try rw [hW1]
  refine (unhide HM).mono ?_
  rintro e w9 ⟨rfl, rfl⟩
  clear hW1
  go_wp2_with fail
  refine (unhide HA).mono ?_
  rintro e w2 ⟨rfl, hb2⟩
  have HB2 := hide hb2
  have hi := hide (itAt_new w2 (lstP hd 0 T) 0)
  have hb : Hid (Below w2.heap.size w2 ((w2.alloc (.cells #[PN (lstP hd 0 T)] 71)).alloc (.cells #[.int .i64 (0 : Nat)] 3))) := ((Below.refl _ _).alloc (Nat.le_refl _) _).alloc (by simp) _
  have HBe := hide (behind_any (lstP hd 0 T) 0 w2)
  have hix := index0 (lstP hd 0 T) (lstP hd 1 T) (lstP hd 2 T) (lstP hd 3 T) (lstP hd 4 T) (lstP hd 5 T) (lstP hd 6 T) (lstP hd 7 T) w2
  clear hb2
  simp only [arr8]
  go_wp2_with fail
  refine (unhide HBe).mono ?_
  rintro e w9 ⟨rfl, rfl⟩
  go_wp2
  go_ret
  obtain ⟨hB1, hs1⟩ := unhide HB1
  have hb2 := unhide HB2
  have hsz := hb2.size
  exact ⟨_, rfl, unhide hi, hB1.trans ((hb2.mono (by omega)).trans ((unhide hb).mono (by omega))), by omega⟩
end Go.Proofs.YtdcmkapfcmibeaaDoor
