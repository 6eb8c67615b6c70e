/- SkipNone's walk. -/
import Derived.Test.YtdcmkapfcmibeaaDoorMI
namespace Go.Proofs.YtdcmkapfcmibeaaDoor
open Go.RowKit Go.Shelf
attribute [local go_sem] Oper.semAt_some
set_option maxRecDepth 100000

/-- An operation: Do; the cell; To; Seed, Stop. -/
abbrev Opn := Int × Pr × Ky × Int × Int
def opC (o : Opn) : Array Value := #[.int .i64 o.1, .int .i32 o.2.1.1.1, .int .i64 o.2.1.1.2, .int .i64 o.2.1.2.1, .int .i64 o.2.1.2.2, .int .i32 o.2.2.1.1, .int .i64 o.2.2.1.2, .int .u64 o.2.2.2.1, .int .i64 o.2.2.2.2]
theorem eq_cell (d : Nat) (x0 x1 x2 x3 y0 y1 y2 y3 : Int) (w : World) : (Op.equalIn (d + 3) 32 (.agg #[.int .i32 x0, .int .i64 x1, .int .i64 x2, .int .i64 x3]) (.agg #[.int .i32 y0, .int .i64 y1, .int .i64 y2, .int .i64 y3])).run Tryd.prog w = .ok (decide ((((x0, x1), x2, x3) : Pr) = ((y0, y1), y2, y3))) w := by
  have hS : Tryd.prog.underlying 32 = some (.struct (Tryd.prog.fieldsOf 32)) := by kernel_rfl
  have hp : Tryd.prog.stoodInHeld 32 = false := by kernel_rfl
  have hk := fun (w : World) (a b c e : Int) => eq_key d a b c e w
  have h2 := fun (w : World) (x y : Int) => run_equalIn_int (P := Tryd.prog) w (d + 1) 2 .i64 .i64 x y Tryd.underlying2
  have hp0 : ∀ w a b c e, (part 30 #[.int .i32 a, .int .i64 b, .int .i64 c, .int .i64 e] 0).run Tryd.prog w = .ok (.agg #[.int .i32 a, .int .i64 b]) w := fun w a b c e => by simp [part, go_sem]
  have hp2 : ∀ w a b c e, (part 2 #[.int .i32 a, .int .i64 b, .int .i64 c, .int .i64 e] 2).run Tryd.prog w = .ok (.int .i64 c) w := fun w a b c e => by simp [part, go_sem]
  have hp3 : ∀ w a b c e, (part 2 #[.int .i32 a, .int .i64 b, .int .i64 c, .int .i64 e] 3).run Tryd.prog w = .ok (.int .i64 e) w := fun w a b c e => by simp [part, go_sem]
  rw [show d + 3 = (d + 2) + 1 from rfl, run_equalIn_struct w (d + 2) 32 _ _ hS hp]
  simp only [Program.fieldsOf, Tryd.underlying32]
  by_cases h1 : x0 = y0 <;> by_cases h2' : x1 = y1 <;> by_cases h3 : x2 = y2 <;> by_cases h4 : x3 = y3 <;> simp [Op.eqFields, hp0, hp2, hp3, hk, h2, h1, h2', h3, h4]
theorem neq_cell (x0 x1 x2 x3 y0 y1 y2 y3 : Int) (w : World) : (binOp .neq 32 (.agg #[.int .i32 x0, .int .i64 x1, .int .i64 x2, .int .i64 x3]) (.agg #[.int .i32 y0, .int .i64 y1, .int .i64 y2, .int .i64 y3])).run Tryd.prog w = .ok (.bool (!decide ((((x0, x1), x2, x3) : Pr) = ((y0, y1), y2, y3)))) w := by
  rw [run_neq_struct, show (10000 : Nat) = 9997 + 3 from rfl, eq_cell]
  rfl

set_option maxHeartbeats 2000000 in
theorem none_walk (o : Opn) (w : World) (hT : Tab w) (hw : 0 < w.heap.size) : Calls Tryd.prog 8 #[.agg #[.int .i64 o.1, .int .i32 o.2.1.1.1, .int .i64 o.2.1.1.2, .int .i64 o.2.1.2.1, .int .i64 o.2.1.2.2, .int .i32 o.2.2.1.1, .int .i64 o.2.2.1.2, .int .u64 o.2.2.2.1, .int .i64 o.2.2.2.2]] w fun e w' => e = .returned (.bool true) ∧ Below w.heap.size w w' := by
  obtain ⟨n0, hn0⟩ : ∃ x, w.heap.size = x := ⟨_, rfl⟩
  obtain ⟨Wa, hWa⟩ : ∃ W, w.alloc (.cells #[.int .i64 o.1, .int .i32 o.2.1.1.1, .int .i64 o.2.1.1.2, .int .i64 o.2.1.2.1, .int .i64 o.2.1.2.2, .int .i32 o.2.2.1.1, .int .i64 o.2.2.1.2, .int .u64 o.2.2.2.1, .int .i64 o.2.2.2.2] 34) = W := ⟨_, rfl⟩
  have hba : Below n0 w Wa := by rw [← hWa, ← hn0]; exact (Below.refl _ _).alloc (Nat.le_refl _) _
  have hsa : Wa.heap.size = n0 + 1 := by rw [← hWa, ← hn0]; simp
  have ka : Wa.heap[n0]? = some (.cells #[.int .i64 o.1, .int .i32 o.2.1.1.1, .int .i64 o.2.1.1.2, .int .i64 o.2.1.2.1, .int .i64 o.2.1.2.2, .int .i32 o.2.2.1.1, .int .i64 o.2.2.1.2, .int .u64 o.2.2.2.1, .int .i64 o.2.2.2.2] 34) := by rw [← hWa, ← hn0]; exact heap_new1 _ _
  have HBE := hide (begun_any Wa (hT.keep (hba.block 0 (by omega))) (by omega))
  have HA := hide (And.intro hba (And.intro hsa ka))
  rw [hn0]
  clear hT hw hba hsa ka
  go_enter Tryd.func8, Tryd.ntmps8
  go_wp2_with fail
  try rw [hWa]
  refine (unhide HBE).mono ?_
  rintro e Wb ⟨rfl, hbb⟩
  clear hWa
  obtain ⟨hba, hsa, ka⟩ := unhide HA
  have kb : Wb.heap[n0]? = some (.cells #[.int .i64 o.1, .int .i32 o.2.1.1.1, .int .i64 o.2.1.1.2, .int .i64 o.2.1.2.1, .int .i64 o.2.1.2.2, .int .i32 o.2.2.1.1, .int .i64 o.2.2.1.2, .int .u64 o.2.2.2.1, .int .i64 o.2.2.2.2] 34) := (hbb.block n0 (by omega)).trans ka
  have hB0 : Below n0 w Wb := hba.trans (hbb.mono (by omega))
  obtain ⟨W1, hW1⟩ : ∃ W, (Wb.alloc (.cells #[nilP, nilP, nilP, nilP, nilP, nilP, nilP, nilP, nilP, .int .i64 0, .int .u64 0] 75)).alloc (.cells #[nilP, PN Wb.heap.size] 24) = W := ⟨_, rfl⟩
  obtain ⟨zb, hzb⟩ : ∃ x, Wb.heap.size = x := ⟨_, rfl⟩
  obtain ⟨rb, hrb⟩ : ∃ x, zb + 1 = x := ⟨_, rfl⟩
  have hb1 : Below Wb.heap.size Wb W1 := by rw [← hW1]; exact ((Below.refl _ _).alloc (Nat.le_refl _) _).alloc (by simp) _
  have kz : W1.heap[zb]? = some (.cells #[nilP, nilP, nilP, nilP, nilP, nilP, nilP, nilP, nilP, .int .i64 0, .int .u64 0] 75) := by rw [← hW1, Below.heap_alloc _ _ _ (by simp; omega), ← hzb]; exact heap_new1 _ _
  have kr : W1.heap[rb]? = some (.cells #[nilP, PN zb] 24) := by rw [← hW1, ← hrb, ← hzb]; exact heap_new2 _ _ _
  have hn0b : n0 < Wb.heap.size := (Array.getElem?_eq_some_iff.1 kb).1
  have k1 : W1.heap[n0]? = some (.cells #[.int .i64 o.1, .int .i32 o.2.1.1.1, .int .i64 o.2.1.1.2, .int .i64 o.2.1.2.1, .int .i64 o.2.1.2.2, .int .i32 o.2.2.1.1, .int .i64 o.2.2.1.2, .int .u64 o.2.2.2.1, .int .i64 o.2.2.2.2] 34) := (hb1.block n0 hn0b).trans kb
  have hB1 : Below n0 w W1 := hB0.trans (hb1.mono (by omega))
  have hs1 : W1.heap.size = rb + 1 := by rw [← hW1]; simp; omega
  rw [hzb] at hW1
  have HW := hide (And.intro kz (And.intro kr (And.intro k1 (And.intro hB1 hs1))))
  have HW1 := hide hW1
  clear hba hsa ka kb hB0 hb1 kz kr k1 hB1 hs1 hbb hn0b hW1
  go_wp2
  try rw [unhide HW1]
  clear HW1
  go_loopw [13] (fun t wr => ∃ i : Nat, i ≤ 2 ∧ t = .int .i64 i ∧ Below W1.heap.size W1 wr) (fun t _ => 2 - (intOf t).toNat)
  case atStart => exact ⟨0, by omega, rfl, Below.refl _ _⟩
  case round =>
    obtain ⟨i, hi, rfl, hbr⟩ := hrel
    obtain ⟨kz, kr, k1, hB1, hs1⟩ := unhide HW
    by_cases hlt : i < 2
    · obtain ⟨ov, hrv, hno⟩ : ∃ ov, W1.cell? ⟨rb, i, none⟩ = some (.pointer ov) ∧ IsNo W1 (.pointer ov) := by
        rcases (by omega : i = 0 ∨ i = 1) with rfl | rfl
        · exact ⟨none, cell_at kr, .inl rfl⟩
        · exact ⟨_, cell_at kr, .inr ⟨zb, rfl, cell_at kz⟩⟩
      have HO : Hid (∀ w' : World, Below W1.heap.size W1 w' → (w'.cell? ⟨n0, 1, none⟩ = some (.int .i32 o.2.1.1.1) ∧ w'.cell? ⟨n0, 2, none⟩ = some (.int .i64 o.2.1.1.2) ∧ w'.cell? ⟨n0, 3, none⟩ = some (.int .i64 o.2.1.2.1) ∧ w'.cell? ⟨n0, 4, none⟩ = some (.int .i64 o.2.1.2.2) ∧ w'.cell? ⟨n0, 5, none⟩ = some (.int .i32 o.2.2.1.1) ∧ w'.cell? ⟨n0, 6, none⟩ = some (.int .i64 o.2.2.1.2)) ∧ IsNo w' (.pointer ov)) := fun w' hb => by
        have e := (hb.block n0 (Array.getElem?_eq_some_iff.1 k1).1).trans k1
        exact ⟨⟨cell_at e, cell_at e, cell_at e, cell_at e, cell_at e, cell_at e⟩, hno.below hb⟩
      have hdb : decide ((i : Int) < 2) = true := by simp; omega
      have hi0 : (0 : Int) ≤ (i : Int) := by omega
      have hi2 : (i : Int) < 2 := by omega
      have hrw : wr.cell? ⟨rb, i, none⟩ = some (.pointer ov) := (hbr.cell (p := ⟨rb, i, none⟩) (by show rb < _; omega)).trans hrv
      obtain ⟨i1, hi1⟩ : ∃ i1, i + 1 = i1 := ⟨_, rfl⟩
      have hwi : IntKind.i64.wrap ((i : Int) + 1) = (i1 : Int) := by rw [wrap_i64 _ (by omega) (by omega)]; omega
      have hm1 : 2 - i1 < 2 - i := by omega
      have hle1 : i1 ≤ 2 := by omega
      obtain ⟨⟨o1, o2, o3, o4, o5, o6⟩, hv⟩ := unhide HO wr hbr
      have HG := hide (getm_no hv o.2.1.1.1 o.2.1.1.2)
      have HBr := hide hbr
      clear kz kr k1 hB1 hs1 hrv hno hbr hi hlt hi1 hv HW
      go_wp2_with fail
      refine (unhide HG).mono ?_
      rintro e w2 ⟨rfl, hb2⟩
      have HB2 : Hid (Below W1.heap.size W1 w2) := (unhide HBr).trans (hb2.mono (unhide HBr).size)
      obtain ⟨w3, hw3⟩ : ∃ W, w2.alloc (.cells #[.int .i32 0, .int .i64 0, .int .i64 0, .int .i64 0] 32) = W := ⟨_, rfl⟩
      have HB3 : Hid (Below W1.heap.size W1 w3) := by rw [← hw3]; exact (unhide HB2).alloc (unhide HB2).size _
      obtain ⟨cb, hcb⟩ : ∃ x, w2.heap.size = x := ⟨_, rfl⟩
      have kc : w3.heap[cb]? = some (.cells #[.int .i32 0, .int .i64 0, .int .i64 0, .int .i64 0] 32) := by rw [← hw3, ← hcb]; exact heap_new1 _ _
      have p0 : w3.cell? ⟨cb, 0, none⟩ = some (.int .i32 0) := cell_at kc
      have p1 : w3.cell? ⟨cb, 1, none⟩ = some (.int .i64 0) := cell_at kc
      have p2 : w3.cell? ⟨cb, 2, none⟩ = some (.int .i64 0) := cell_at kc
      have p3 : w3.cell? ⟨cb, 3, none⟩ = some (.int .i64 0) := cell_at kc
      have hne := neq_cell 0 0 0 0 0 0 0 0
      rw [show decide ((((0, 0), 0, 0) : Pr) = ((0, 0), 0, 0)) = true from rfl] at hne
      simp only [Bool.not_true] at hne
      have HW3 := hide hw3
      clear o1 o2 o3 o4 o5 o6 hb2 kc hw3
      obtain ⟨⟨o1, o2, o3, o4, o5, o6⟩, hv⟩ := unhide HO w3 (unhide HB3)
      have HCc := hide (put_no hv o.2.1.1.1 o.2.1.1.2 o.2.1.2.1 o.2.1.2.2)
      clear hv o1 o2 o3 o4 o5 o6
      obtain ⟨⟨o1, o2, o3, o4, o5, o6⟩, _⟩ := unhide HO w2 (unhide HB2)
      have s1 : ∀ ob : Obj, (w2.alloc ob).cell? ⟨n0, 1, none⟩ = some (.int .i32 o.2.1.1.1) := fun _ => cell_old o1
      have s2 : ∀ ob : Obj, (w2.alloc ob).cell? ⟨n0, 2, none⟩ = some (.int .i64 o.2.1.1.2) := fun _ => cell_old o2
      have s3 : ∀ ob : Obj, (w2.alloc ob).cell? ⟨n0, 3, none⟩ = some (.int .i64 o.2.1.2.1) := fun _ => cell_old o3
      have s4 : ∀ ob : Obj, (w2.alloc ob).cell? ⟨n0, 4, none⟩ = some (.int .i64 o.2.1.2.2) := fun _ => cell_old o4
      go_wp2_with fail
      rw [unhide HW3]
      refine (unhide HCc).mono ?_
      rintro e x0 ⟨rfl, hb⟩
      have HBx0 : Hid (Below W1.heap.size W1 x0) := (unhide HB3).trans (hb.mono (unhide HB3).size)
      clear o1 o2 o3 o4 o5 o6 s1 s2 s3 s4 HW3 p0 p1 p2 p3 hne
      obtain ⟨⟨o1, o2, o3, o4, o5, o6⟩, hv⟩ := unhide HO x0 (unhide HBx0)
      clear hb HCc
      have HCc := hide (erase_no hv o.2.1.1.1 o.2.1.1.2)
      clear hv
      go_wp2_with fail
      refine (unhide HCc).mono ?_
      rintro e x1 ⟨rfl, hb⟩
      have HBx1 : Hid (Below W1.heap.size W1 x1) := (unhide HBx0).trans (hb.mono (unhide HBx0).size)
      clear o1 o2 o3 o4 o5 o6
      obtain ⟨⟨o1, o2, o3, o4, o5, o6⟩, hv⟩ := unhide HO x1 (unhide HBx1)
      clear hb HCc
      have HCc := hide (len_no hv)
      clear hv
      go_wp2_with fail
      refine (unhide HCc).mono ?_
      rintro e x2 ⟨rfl, hb⟩
      have HBx2 : Hid (Below W1.heap.size W1 x2) := (unhide HBx1).trans (hb.mono (unhide HBx1).size)
      clear o1 o2 o3 o4 o5 o6
      obtain ⟨⟨o1, o2, o3, o4, o5, o6⟩, hv⟩ := unhide HO x2 (unhide HBx2)
      clear hb HCc
      have HCc := hide (levelm_no hv 0)
      clear hv
      go_wp2_with fail
      refine (unhide HCc).mono ?_
      rintro e x3 ⟨bx, rfl, hcx, hb⟩
      have HBx3 : Hid (Below W1.heap.size W1 x3) := (unhide HBx2).trans (hb.mono (unhide HBx2).size)
      clear o1 o2 o3 o4 o5 o6
      obtain ⟨⟨o1, o2, o3, o4, o5, o6⟩, hv⟩ := unhide HO x3 (unhide HBx3)
      clear hb HCc
      have HCc := hide (keys_none bx hcx)
      clear hv hcx
      go_wp2_with fail
      refine (unhide HCc).mono ?_
      rintro e x4 ⟨rfl, hb⟩
      have HBx4 : Hid (Below W1.heap.size W1 x4) := (unhide HBx3).trans (hb.mono (unhide HBx3).size)
      clear o1 o2 o3 o4 o5 o6
      obtain ⟨⟨o1, o2, o3, o4, o5, o6⟩, hv⟩ := unhide HO x4 (unhide HBx4)
      clear hb HCc
      have HCc := hide (fromm_no hv o.2.2.1.1 o.2.2.1.2)
      clear hv
      go_wp2_with fail
      refine (unhide HCc).mono ?_
      rintro e x5 ⟨bx, rfl, hcx, hb⟩
      have HBx5 : Hid (Below W1.heap.size W1 x5) := (unhide HBx4).trans (hb.mono (unhide HBx4).size)
      clear o1 o2 o3 o4 o5 o6
      obtain ⟨⟨o1, o2, o3, o4, o5, o6⟩, hv⟩ := unhide HO x5 (unhide HBx5)
      clear hb HCc
      have HCc := hide (told_none bx hcx 0)
      clear hv hcx
      go_wp2_with fail
      refine (unhide HCc).mono ?_
      rintro e x6 ⟨rfl, hb⟩
      have HBx6 : Hid (Below W1.heap.size W1 x6) := (unhide HBx5).trans (hb.mono (unhide HBx5).size)
      clear o1 o2 o3 o4 o5 o6
      obtain ⟨⟨o1, o2, o3, o4, o5, o6⟩, hv⟩ := unhide HO x6 (unhide HBx6)
      clear hb HCc
      have HCc := hide (rangem_no hv o.2.1.1.1 o.2.1.1.2 o.2.2.1.1 o.2.2.1.2)
      clear hv
      go_wp2_with fail
      refine (unhide HCc).mono ?_
      rintro e x7 ⟨rfl, hb⟩
      have HBx7 : Hid (Below W1.heap.size W1 x7) := (unhide HBx6).trans (hb.mono (unhide HBx6).size)
      clear o1 o2 o3 o4 o5 o6
      obtain ⟨⟨o1, o2, o3, o4, o5, o6⟩, hv⟩ := unhide HO x7 (unhide HBx7)
      clear hb HCc
      have HCc := hide (steps_no hv o.2.2.1.1 o.2.2.1.2)
      clear hv
      go_wp2_with fail
      refine (unhide HCc).mono ?_
      rintro e x8 ⟨rfl, hb⟩
      have HBx8 : Hid (Below W1.heap.size W1 x8) := (unhide HBx7).trans (hb.mono (unhide HBx7).size)
      clear o1 o2 o3 o4 o5 o6
      obtain ⟨⟨o1, o2, o3, o4, o5, o6⟩, hv⟩ := unhide HO x8 (unhide HBx8)
      clear hb HCc
      have HCc := hide (bytes_no hv)
      clear hv
      go_wp2_with fail
      refine (unhide HCc).mono ?_
      rintro e x9 ⟨rfl, hb⟩
      have HBx9 : Hid (Below W1.heap.size W1 x9) := (unhide HBx8).trans (hb.mono (unhide HBx8).size)
      clear o1 o2 o3 o4 o5 o6
      obtain ⟨⟨o1, o2, o3, o4, o5, o6⟩, hv⟩ := unhide HO x9 (unhide HBx9)
      clear hb HCc
      have HCc := hide (clone_no hv)
      clear hv
      go_wp2_with fail
      refine (unhide HCc).mono ?_
      rintro e x10 ⟨rfl, hb⟩
      have HBx10 : Hid (Below W1.heap.size W1 x10) := (unhide HBx9).trans (hb.mono (unhide HBx9).size)
      clear o1 o2 o3 o4 o5 o6
      obtain ⟨⟨o1, o2, o3, o4, o5, o6⟩, hv⟩ := unhide HO x10 (unhide HBx10)
      clear hb HCc
      have HCc := hide (samem_no hv)
      clear hv
      go_wp2_with fail
      refine (unhide HCc).mono ?_
      rintro e x11 ⟨rfl, hb⟩
      have HBx11 : Hid (Below W1.heap.size W1 x11) := (unhide HBx10).trans (hb.mono (unhide HBx10).size)
      clear o1 o2 o3 o4 o5 o6
      obtain ⟨⟨o1, o2, o3, o4, o5, o6⟩, hv⟩ := unhide HO x11 (unhide HBx11)
      clear hb HCc
      go_wp2
      go_roundw
      case rel => exact ⟨i1, hle1, rfl, unhide HBx11⟩
      case measure => simpa [intOf] using hm1
    · obtain rfl : i = 2 := by omega
      have HB : Hid (Below n0 w wr) := hB1.trans (hbr.mono (by have := hB1.size; omega))
      clear kz kr k1 hB1 hs1 hbr HW
      go_wp2
      go_ret
      exact ⟨rfl, unhide HB⟩
end Go.Proofs.YtdcmkapfcmibeaaDoor
