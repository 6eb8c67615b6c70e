/- The document's draw. -/
import Derived.Test.YtdcmkapfcmibeaaDoorF0
import Derived.Test.YtdcmkapfcmibeaaDoorP3
namespace Go.Proofs.YtdcmkapfcmibeaaDoor
open Go.RowKit Go.Shelf
attribute [local go_sem] Oper.semAt_some
set_option maxRecDepth 100000

def RX (w : World) (xb : Nat) (vl vh : Value) (X : Int) : Prop := w.heap[xb]? = some (.cells #[vl, vh, .int .u64 X] 69)
theorem RX.c2 {w : World} {xb : Nat} {vl vh : Value} {X : Int} (h : RX w xb vl vh X) : w.cell? ⟨xb, 2, none⟩ = some (.int .u64 X) ∧ w.frozen? ⟨xb, 2, none⟩ = false := ⟨cell_at h, frozen_of_heap h⟩
theorem RX.to {w : World} {xb : Nat} {vl vh : Value} {X : Int} (h : RX w xb vl vh X) (v : Int) : RX (w.setCell ⟨xb, 2, none⟩ (.int .u64 v)).drew xb vl vh v := by
  show (w.setCell ⟨xb, 2, none⟩ (.int .u64 v)).heap[xb]? = _
  rw [heap_setCell_same w xb 2 _ 69 _ h]; rfl
theorem bit_at (x j : Nat) (hx : x < 18446744073709551616) : bits BinOp.and IntKind.u64 ((x : Int) / 2 ^ j) 1 = ((x / 2 ^ j % 2 : Nat) : Int) := by
  have e : ((x : Int) / 2 ^ j) = ((x / 2 ^ j : Nat) : Int) := by rw [Int.natCast_ediv, Int.natCast_pow]; rfl
  have h := bits_and_u64_nat (x / 2 ^ j) 1 (Nat.lt_of_le_of_lt (Nat.div_le_self _ _) hx) (by decide)
  rw [Nat.and_one_is_mod] at h
  rw [e]
  exact h
set_option maxHeartbeats 2000000 in
theorem rdraw_any {w : World} {xb : Nat} {vl vh : Value} {luck : Int} (h : RX w xb vl vh luck) (_hk : 0 ≤ luck ∧ luck < 18446744073709551616) :
    Calls Tryd.prog 67 #[PN xb] w fun e w' => e = .returned (.int .i64 (hgt (nextX luck))) ∧ RX w' xb vl vh (nextX luck) ∧ Upd (fun k => k = xb) w.heap.size w w' := by
  obtain ⟨a1, ha1⟩ : ∃ a, IntKind.u64.wrap (luck * 8192) = a := ⟨_, rfl⟩
  obtain ⟨x1, hx1⟩ : ∃ a, bits BinOp.xor IntKind.u64 luck a1 = a := ⟨_, rfl⟩
  obtain ⟨x2, hx2⟩ : ∃ a, bits BinOp.xor IntKind.u64 x1 (x1 / 128) = a := ⟨_, rfl⟩
  obtain ⟨a3, ha3⟩ : ∃ a, IntKind.u64.wrap (x2 * 131072) = a := ⟨_, rfl⟩
  obtain ⟨x3, hx3⟩ : ∃ a, bits BinOp.xor IntKind.u64 x2 a3 = a := ⟨_, rfl⟩
  have hnx : nextX luck = x3 := by rw [nextX, mixA, ha1, hx1, mixB, hx2, mixC, ha3, hx3]
  rw [hnx]
  have r3 : 0 ≤ x3 ∧ x3 < 18446744073709551616 := by rw [← hx3]; exact xor64_range _ _
  have s1 := h.to x1
  obtain ⟨Y1, hY1⟩ : ∃ Y, (w.setCell ⟨xb, 2, none⟩ (.int .u64 x1)).drew = Y := ⟨_, rfl⟩
  rw [hY1] at s1
  have s2 := s1.to x2
  obtain ⟨Y2, hY2⟩ : ∃ Y, (Y1.setCell ⟨xb, 2, none⟩ (.int .u64 x2)).drew = Y := ⟨_, rfl⟩
  rw [hY2] at s2
  have s3 := s2.to x3
  obtain ⟨Y3, hY3⟩ : ∃ Y, (Y2.setCell ⟨xb, 2, none⟩ (.int .u64 x3)).drew = Y := ⟨_, rfl⟩
  rw [hY3] at s3
  have hU : Upd (fun k => k = xb) w.heap.size w Y3 := by
    have u1 : Upd (fun k => k = xb) w.heap.size w Y1 := by rw [← hY1]; exact ((Upd.refl (fun k => k = xb) _ w).setCell (p := ⟨xb, 2, none⟩) (.inl rfl) _).drew
    have u2 : Upd (fun k => k = xb) w.heap.size w Y2 := by rw [← hY2]; exact (u1.setCell (p := ⟨xb, 2, none⟩) (.inl rfl) _).drew
    rw [← hY3]; exact (u2.setCell (p := ⟨xb, 2, none⟩) (.inl rfl) _).drew
  obtain ⟨x, rfl⟩ : ∃ x : Nat, x3 = (x : Int) := ⟨x3.toNat, by omega⟩
  have hxr : x < 18446744073709551616 := by omega
  obtain ⟨c0, f0⟩ := h.c2
  obtain ⟨c1, f1⟩ := s1.c2
  obtain ⟨c2, f2⟩ := s2.c2
  obtain ⟨c3, f3⟩ := s3.c2
  have HF := hide (And.intro s3 hU)
  have HY1 := hide hY1
  have HY2 := hide hY2
  have HY3 := hide hY3
  obtain ⟨g, hg⟩ : ∃ g, hgt (x : Int) = g := ⟨_, rfl⟩
  rw [hg]
  have HG := hide hg
  clear h s1 s2 s3 hU hnx hY1 hY2 hY3 r3 hg
  go_enter Tryd.func67, Tryd.ntmps67
  go_wp2
  go_region
  rw [unhide HY1]
  clear c0 f0
  go_wp2
  go_region
  rw [unhide HY2]
  clear c1 f1
  go_wp2
  go_region
  rw [unhide HY3]
  clear c2 f2
  go_wp2
  go_loopw [3] (fun c wr => ∃ j : Nat, 1 ≤ j ∧ j ≤ 8 ∧ c = .int .i64 j ∧ (∀ i, i < j - 1 → x / 2 ^ i % 2 = 1) ∧ wr = Y3) (fun c _ => 8 - (intOf c).toNat)
  case atStart => exact ⟨1, by omega, by omega, rfl, fun i hi => absurd hi (by omega), rfl⟩
  case round =>
    obtain ⟨j, hj1, hj8, rfl, hall, rfl⟩ := hrel
    have HA := hide hall
    clear hall
    by_cases hlt : j < 8
    · have hb2 := bit_at x (j - 1) hxr
      by_cases hbit : x / 2 ^ (j - 1) % 2 = 1
      · have hb3 : (bits BinOp.and IntKind.u64 ((x : Int) / 2 ^ (j - 1)) 1 == 1) = true := by rw [hb2, hbit]; rfl
        clear hb2
        go_wp2
        go_roundw
        case rel =>
          refine ⟨j + 1, by omega, by omega, by go_num, fun i hi => ?_, by first | rfl | trivial⟩
          by_cases hij : i = j - 1
          · rw [hij]; exact hbit
          · exact unhide HA i (by omega)
        case measure => simp [intOf]; omega
      · have hb3 : (bits BinOp.and IntKind.u64 ((x : Int) / 2 ^ (j - 1)) 1 == 1) = false := by rw [hb2, show x / 2 ^ (j - 1) % 2 = 0 by omega]; rfl
        clear hb2
        go_wp2
        go_ret
        exact ⟨retInt ((hgt_stop hxr hj1 hlt (unhide HA) hbit).symm.trans (unhide HG)), (unhide HF).1, (unhide HF).2⟩
    · obtain rfl : j = 8 := by omega
      go_wp2
      go_ret
      exact ⟨retInt ((hgt_most hxr (fun i hi => unhide HA i (by omega))).symm.trans (unhide HG)), (unhide HF).1, (unhide HF).2⟩
end Go.Proofs.YtdcmkapfcmibeaaDoor
