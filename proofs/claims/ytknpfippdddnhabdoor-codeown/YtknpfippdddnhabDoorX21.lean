/- put, where an instruction names 2 registers and has an Imm of 1 bytes. -/
import Derived.Test.YtknpfippdddnhabDoorX0
namespace Go.Proofs.YtknpfippdddnhabDoor
open Go.RowKit Go.Shelf
set_option maxRecDepth 100000

set_option maxHeartbeats 1600000 in
theorem put21 (w : World) (base n : Nat) (v : Value) (L : List Int) (ad o a b m : Int) (hT : Tab w) (ho0 : 0 ≤ o) (ho1 : o < 28) (hr : (rg o : Int) = 2) (hw : (wd o : Int) = 1) (hln : lnn ⟨ad, o, a, b, m⟩ = true) (hsd : sd ⟨ad, o, a, b, m⟩ = true) (hft : fit ⟨ad, o, a, b, m⟩ = true)
    (hm1 : -9223372036854775808 ≤ m) (hm2 : m ≤ 9223372036854775807) (hown : w.ownsRow base 5 1 v n (L.flatMap yC)) (hn : n + 5 ≤ 140737488355328) (hb : base ≤ w.heap.size) (h0 : 0 < base) :
    Calls Tryd.prog 32 #[v, iV ad o a b m] w fun e w' => ∃ x, e = .returned x ∧ w'.ownsRow base 5 1 x (n + 4) ((L ++ ([o] ++ [a, b] ++ [m % 256])).flatMap yC) ∧ Below base w w' := by
  obtain ⟨va, vc, rfl⟩ := own_shape hown
  have hb0 : Below w.heap.size w (w.alloc (.cells #[.int .i64 ad, .int .i64 o, .int .i64 a, .int .i64 b, .int .i64 m] 35)) := below_box _
  have hX0 : (w.alloc (.cells #[.int .i64 ad, .int .i64 o, .int .i64 a, .int .i64 b, .int .i64 m] 35)).heap[w.heap.size]? = some (.cells #[.int .i64 ad, .int .i64 o, .int .i64 a, .int .i64 b, .int .i64 m] 35) := heap_alloc_new w _
  have hT1 : Tab (w.alloc (.cells #[.int .i64 ad, .int .i64 o, .int .i64 a, .int .i64 b, .int .i64 m] 35)) := hT.below hb0 hT.pos
  have HZ : Hid (∀ w', Tab w' → Calls Tryd.prog 37 #[.int .i64 o] w' fun e w'' => e = .returned (.tuple #[.int .i64 (sz o), .bool true]) ∧ w' = w'') := fun w' h => size_yes o w' h ho0 ho1
  have HL : Hid (∀ w', Tab w' → Calls Tryd.prog 41 #[iV ad o a b m] w' fun e w'' => e = .returned (.bool true) ∧ Grew w' w'') := fun w' h => by rw [← hln]; exact lean_any _ _ _ _ _ w' h ho0 ho1
  have HS : Hid (∀ w', Calls Tryd.prog 40 #[iV ad o a b m] w' fun e w'' => e = .returned (.bool true) ∧ Grew w' w'') := fun w' => by rw [← hsd]; exact sound_any _ _ _ _ _ w'
  have HF : Hid (∀ w', Tab w' → Calls Tryd.prog 42 #[iV ad o a b m] w' fun e w'' => e = .returned (.bool true) ∧ Grew w' w'') := fun w' h => by rw [← hft]; exact fits_any _ _ _ _ _ w' h ho0 ho1 hm1 hm2
  have HR : Hid (∀ w', Calls Tryd.prog 38 #[.int .i64 o] w' fun e w'' => e = .returned (.int .i64 2) ∧ w' = w'') := fun w' => by rw [← hr]; exact reg_any o w' ho0 ho1
  have HW : Hid (∀ w', Tab w' → Calls Tryd.prog 43 #[.int .i64 o] w' fun e w'' => e = .returned (.int .i64 1) ∧ ∃ j, w'' = w'.drewN j) := fun w' h => by rw [← hw]; exact wide_any o w' h ho0 ho1
  have hab : (0 ≤ a ∧ a < 8) ∧ 0 ≤ b ∧ b < 8 := (of_decide_eq_true hsd).2
  obtain ⟨⟨ha0, ha1⟩, hb1, hb2⟩ := hab
  -- facts of a world in which nothing but the row has turned
  have HC : Hid (∀ z, Below base w z → z.heap[w.heap.size]? = some (.cells #[.int .i64 ad, .int .i64 o, .int .i64 a, .int .i64 b, .int .i64 m] 35) → (z.cell? ⟨w.heap.size, 0, none⟩ = some (.int .i64 ad) ∧ z.cell? ⟨w.heap.size, 1, none⟩ = some (.int .i64 o) ∧ z.cell? ⟨w.heap.size, 2, none⟩ = some (.int .i64 a) ∧ z.cell? ⟨w.heap.size, 3, none⟩ = some (.int .i64 b) ∧ z.cell? ⟨w.heap.size, 4, none⟩ = some (.int .i64 m)) ∧ Tab z) := fun z hz hx => ⟨cells5 hx, hT.below hz h0⟩
  have HG : Hid (∀ y z, Below base w y → y.heap[w.heap.size]? = some (.cells #[.int .i64 ad, .int .i64 o, .int .i64 a, .int .i64 b, .int .i64 m] 35) → Grew y z → Below base w z ∧ z.heap[w.heap.size]? = some (.cells #[.int .i64 ad, .int .i64 o, .int .i64 a, .int .i64 b, .int .i64 m] 35)) := fun y z hy hx hg => ⟨hy.trans (hg.below.mono (Nat.le_trans hb hy.size)), (hg.below.block _ (Array.getElem?_eq_some_iff.1 hx).1).trans hx⟩
  have HO := hide (hown.alloc (.cells #[.int .i64 ad, .int .i64 o, .int .i64 a, .int .i64 b, .int .i64 m] 35))
  have HX0 := hide hX0
  have HB0 := hide (hb0.mono hb)
  have HBB := hide hb
  have HT1 := hide hT1
  have HWR : Hid (∀ x : Int, IntKind.u8.wrap x = x % 256) := fun x => by simp [IntKind.wrap, IntKind.signed, IntKind.bits]
  clear hT hr hw hln hsd hft hb0 hX0 hT1 hown hb
  go_enter Tryd.func32, Tryd.ntmps32
  go_wp2_with (first
    | (go_at_call_of 27 (Value.bool true); refine (must_ok _ _).mono ?_; rintro e w2 ⟨rfl, rfl⟩)
    | (go_at_call 37; refine (unhide HZ _ (unhide HT1)).mono ?_; rintro e w2 ⟨rfl, rfl⟩)
    | (go_at_call 41; refine (unhide HL _ (unhide HT1)).mono ?_; rintro e z1 ⟨rfl, g1⟩; obtain ⟨q1, x1⟩ := unhide HG _ _ (unhide HB0) (unhide HX0) g1; obtain ⟨⟨c0, c1, c2, c3, c4⟩, -⟩ := unhide HC z1 q1 x1; have HO1 := hide (own_below (unhide HO) g1.below); have Q1 := hide q1; have X1 := hide x1; clear q1 x1 g1)
    | (go_at_call 40; refine (unhide HS _).mono ?_; rintro e z2 ⟨rfl, g2⟩; obtain ⟨q2, x2⟩ := unhide HG _ _ (unhide Q1) (unhide X1) g2; obtain ⟨⟨d0, d1, d2, d3, d4⟩, t2⟩ := unhide HC z2 q2 x2; have HO2 := hide (own_below (unhide HO1) g2.below); have T2 := hide t2; have Q2 := hide q2; have X2 := hide x2; clear q2 x2 t2 g2 c0 c1 c2 c3 c4)
    | (go_at_call 42; refine (unhide HF _ (unhide T2)).mono ?_; rintro e z3 ⟨rfl, g3⟩; obtain ⟨q3, x3⟩ := unhide HG _ _ (unhide Q2) (unhide X2) g3; obtain ⟨⟨c0, c1, c2, c3, c4⟩, t3⟩ := unhide HC z3 q3 x3; obtain ⟨a1, k1, y1, r1, o1, b1, h1⟩ := app1 o (own_below (unhide HO2) g3.below) (by omega) (Nat.le_trans (unhide HBB) q3.size); have R1 := hide r1; have O1 := hide o1; have B1 := hide (q3.trans b1); have Y1 := hide (h1 _ _ _ (by decide) x3); obtain ⟨⟨e0, e1, e2, e3, e4⟩, t4⟩ := unhide HC y1 (unhide B1) (unhide Y1); have T4 := hide t4; have f1 : (y1.alloc (.cells #[.int .i64 a, .int .i64 b] 74)).cell? ⟨w.heap.size, 1, none⟩ = some (.int .i64 o) := ((below_box _).cell (World.block_lt_of_cell? y1 _ e1)).trans e1; clear q3 x3 g3 d0 d1 d2 d3 d4 r1 o1 b1 h1 t3 t4)
    | (refine wpList_append_wanted (by rfl) _ _ 22 rfl rfl rfl (unhide R1) ?_)
    | (go_at_call 38; refine (unhide HR _).mono ?_; rintro e w2 ⟨rfl, rfl⟩))
  obtain ⟨V0, hV⟩ : ∃ V, y1.alloc (.cells #[.int .i64 a, .int .i64 b] 74) = V := ⟨_, rfl⟩
  rw [hV]
  have VB0 : Below base w V0 := hV ▸ (unhide B1).alloc (Nat.le_trans (unhide HBB) (unhide B1).size) _
  have VX0 : V0.heap[w.heap.size]? = some (.cells #[.int .i64 ad, .int .i64 o, .int .i64 a, .int .i64 b, .int .i64 m] 35) := by rw [← hV, Below.heap_alloc _ _ _ (Array.getElem?_eq_some_iff.1 (unhide Y1)).1]; exact unhide Y1
  have VN0 : V0.heap[y1.heap.size]? = some (.cells #[.int .i64 a, .int .i64 b] 74) := hV ▸ heap_alloc_new y1 _
  have VO0 : V0.ownsRow base 5 1 (.slice a1 (n + 1) k1) (n + 1) ((L ++ [o]).flatMap yC) := hV ▸ (unhide O1).alloc _
  clear hV f1 e0 e1 e2 e3 e4 c0 c1 c2 c3 c4
  obtain ⟨a2, k2, V1, r2, VO1, b2, h2⟩ := app1 a VO0 (by omega) (Nat.le_trans (unhide HBB) VB0.size)
  have VB1 := VB0.trans b2
  have VX1 := h2 _ _ _ (by decide) VX0
  have VN1 := h2 _ _ _ (by decide) VN0
  have n0 : V0.cell? ⟨y1.heap.size, 0, none⟩ = some (.int .i64 a) := cell_at VN0
  have RR2 := hide r2
  clear r2 b2 h2
  obtain ⟨a3, k3, V2, r3, VO2, b3, h3⟩ := app1 b VO1 (by omega) (Nat.le_trans (unhide HBB) VB1.size)
  have VB2 := VB1.trans b3
  have VX2 := h3 _ _ _ (by decide) VX1
  have VN2 := h3 _ _ _ (by decide) VN1
  have n1 : V1.cell? ⟨y1.heap.size, 1, none⟩ = some (.int .i64 b) := cell_at VN1
  have RR3 := hide r3
  clear r3 b3 h3
  have hVB0 := hide VB0
  have hVX0 := hide VX0
  have hVN0 := hide VN0
  have hVO0 := hide VO0
  clear VB0 VX0 VN0 VO0
  have hVB1 := hide VB1
  have hVX1 := hide VX1
  have hVN1 := hide VN1
  have hVO1 := hide VO1
  clear VB1 VX1 VN1 VO1
  obtain ⟨⟨s0, s1, s2, s3, s4⟩, st⟩ := unhide HC V2 VB2 VX2
  have ST := hide st
  have hVB := hide VB2
  have hVX := hide VX2
  have hVO := hide VO2
  clear st VB2 VX2 VO2 VN2
  refine wp_loop_rounds 3 ?_
  rw [rounds_succ]
  go_wp2_with (refine wpList_append_wanted (by rfl) _ _ 22 rfl rfl rfl (unhide RR2) ?_)
  rw [rounds_succ]
  go_wp2_with (refine wpList_append_wanted (by rfl) _ _ 22 rfl rfl rfl (unhide RR3) ?_)
  rw [rounds_succ]
  go_wp2_with (go_at_call 43; refine (unhide HW _ (unhide ST)).mono ?_; rintro e U0 ⟨rfl, j, hU⟩; have HU := hide hU; clear hU)
  have hU := unhide HU
  clear HU
  have UB0 : Below base w U0 := (unhide hVB).trans ((grew_of_drewN ⟨j, hU⟩).below.mono (Nat.le_trans (unhide HBB) (unhide hVB).size))
  have UX0 := heap_drewN hU (unhide hVX)
  have UO0 := own_drewN hU (unhide hVO)
  clear hU s0 s1 s2 s3 s4
  obtain ⟨a4, k4, U1, r4, UO1, b4, h4⟩ := app1 (m % 256) UO0 (by omega) (Nat.le_trans (unhide HBB) UB0.size)
  have UB1 := UB0.trans b4
  have UX1 := h4 _ _ _ (by decide) UX0
  have u0 : U0.cell? ⟨w.heap.size, 4, none⟩ = some (.int .i64 m) := cell_at UX0
  have RR4 := hide r4
  have hUB0 := hide UB0
  have hUX0 := hide UX0
  have hUO0 := hide UO0
  clear r4 b4 h4 UB0 UX0 UO0
  have hUB := hide UB1
  have hUO := hide UO1
  clear UB1 UO1 UX1
  refine wp_loop_rounds 2 ?_
  rw [rounds_succ]
  go_wp2_with (first | (rw [unhide HWR]) | (refine wpList_append_wanted (by rfl) _ _ 22 rfl rfl rfl (unhide RR4) ?_))
  rw [rounds_succ]
  go_wp2
  go_ret
  exact ⟨_, rfl, by simpa [List.append_assoc] using unhide hUO, unhide hUB⟩
end Go.Proofs.YtknpfippdddnhabDoor
