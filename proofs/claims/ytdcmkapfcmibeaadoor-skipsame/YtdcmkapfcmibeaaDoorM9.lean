/- New. -/
import Derived.Test.YtdcmkapfcmibeaaDoorM8
namespace Go.Proofs.YtdcmkapfcmibeaaDoor
open Go.RowKit Go.Shelf
attribute [local go_sem] Oper.semAt_some
set_option maxRecDepth 100000

def skV (hd : Nat) (f : Nat → Value) (many luck : Int) : Array Value := #[PN hd, f 0, f 1, f 2, f 3, f 4, f 5, f 6, f 7, .int .i64 many, .int .u64 luck]
theorem skV_get (hd : Nat) (f : Nat → Value) (many luck : Int) {lev : Nat} (h : lev < 8) : (skV hd f many luck)[1 + lev]? = some (f lev) := by
  refine upto8 (P := fun lev => (skV hd f many luck)[1 + lev]? = some (f lev)) ?_ ?_ ?_ ?_ ?_ ?_ ?_ ?_ h <;> rfl
theorem skV_set (hd : Nat) (f : Nat → Value) (many luck : Int) {lev : Nat} (h : lev < 8) (v : Value) : (skV hd f many luck).setIfInBounds (1 + lev) v = skV hd (fun l => if l = lev then v else f l) many luck := by
  refine upto8 (P := fun lev => (skV hd f many luck).setIfInBounds (1 + lev) v = skV hd (fun l => if l = lev then v else f l) many luck) ?_ ?_ ?_ ?_ ?_ ?_ ?_ ?_ h <;> simp [skV]

set_option maxHeartbeats 1000000 in
theorem new_any (w : World) (seed : Int) (b0 : Nat) (hb : b0 ≤ w.heap.size) (hs : 0 ≤ seed ∧ seed < 18446744073709551616) :
    Calls Tryd.prog 9 #[.int .u64 seed] w fun e w' => e = .returned (PN (w.heap.size + 1)) ∧ Sk w' b0 (w.heap.size + 1) w.heap.size [] seed ∧ Below w.heap.size w w' := by
  obtain ⟨hd, hhd⟩ : ∃ x, w.heap.size = x := ⟨_, rfl⟩
  obtain ⟨sb, hsb⟩ : ∃ x, hd + 1 = x := ⟨_, rfl⟩
  obtain ⟨W1, hW1⟩ : ∃ W, (w.alloc (.cells #[.int .i32 0, .int .i64 0, .int .i64 0, .int .i64 0, .int .i64 0, nilP, nilP, nilP, nilP, nilP, nilP, nilP, nilP] 85)).alloc (.cells #[PN hd, nilP, nilP, nilP, nilP, nilP, nilP, nilP, nilP, .int .i64 0, .int .u64 seed] 75) = W := ⟨_, rfl⟩
  have hB1 : Below hd w W1 := by rw [← hW1, ← hhd]; exact ((Below.refl _ _).alloc (Nat.le_refl _) _).alloc (by simp) _
  have k1 : W1.heap[sb]? = some (.cells (skV hd (fun _ => nilP) 0 seed) 75) := by rw [← hW1, ← hsb, ← hhd]; exact heap_new2 _ _ _
  have k0 : W1.heap[hd]? = some (.cells (nodeC (hdN hd) (fun _ => nilP)) 85) := by rw [← hW1, Below.heap_alloc _ _ _ (by simp; omega), ← hhd]; exact heap_new1 _ _
  rw [hhd, hsb]
  have HK := hide (And.intro hB1 (And.intro k1 k0))
  clear hB1 k1 k0
  go_enter Tryd.func9, Tryd.ntmps9
  go_wp2
  try rw [hW1]
  clear hW1
  go_loopw [10] (fun t wr => ∃ i : Nat, i ≤ 8 ∧ t = .int .i64 i ∧ wr.heap[sb]? = some (.cells (skV hd (fun lev => if lev < i then PN hd else nilP) 0 seed) 75) ∧ wr.heap[hd]? = some (.cells (nodeC (hdN hd) (fun _ => nilP)) 85) ∧ Below hd w wr) (fun t _ => 8 - (intOf t).toNat)
  case atStart => exact ⟨0, by omega, rfl, by simpa using (unhide HK).2.1, (unhide HK).2.2, (unhide HK).1⟩
  case round =>
    clear HK
    obtain ⟨i, hi, rfl, k1, k0, hB⟩ := hrel
    by_cases hlt : i < 8
    · have hdb : decide ((i : Int) < 8) = true := by simp; omega
      have hi0 : (0 : Int) ≤ (i : Int) := by omega
      have hi8 : (i : Int) < 8 := by omega
      have c0 : wr.cell? ⟨sb, 0, none⟩ = some (PN hd) := cell_at k1
      have c1 : wr.cell? ⟨sb, 1 + i, none⟩ = some nilP := by rw [cell_at k1, skV_get _ _ _ _ hlt]; simp
      have f1 : wr.frozen? ⟨sb, 1 + i, none⟩ = false := frozen_of_heap k1
      obtain ⟨i1, hi1⟩ : ∃ i1, i + 1 = i1 := ⟨_, rfl⟩
      have hwi : IntKind.i64.wrap ((i : Int) + 1) = (i1 : Int) := by rw [wrap_i64 _ (by omega) (by omega)]; omega
      have hm1 : 8 - i1 < 8 - i := by omega
      have HK := hide (And.intro k1 (And.intro k0 (And.intro hB (And.intro hi1 hlt))))
      clear k1 k0 hB hi1 hlt
      go_wp2
      go_region
      go_wp2
      go_roundw
      case rel =>
        obtain ⟨k1, k0, hB, hi1, hlt⟩ := unhide HK
        refine ⟨i1, by omega, rfl, ?_, ?_, ?_⟩
        · rw [show ((wr.setCell ⟨sb, 1 + i, none⟩ (PN hd)).drew).heap[sb]? = (wr.setCell ⟨sb, 1 + i, none⟩ (PN hd)).heap[sb]? from rfl, heap_setCell_same wr sb (1 + i) _ 75 _ k1, skV_set _ _ _ _ hlt]
          congr 2
          refine congrArg (fun f => skV hd f 0 seed) ?_
          funext l
          by_cases e : l = i
          · subst e; simp; omega
          · simp only [if_neg e]
            by_cases g : l < i
            · rw [if_pos g, if_pos (by omega)]
            · rw [if_neg g, if_neg (by omega)]
        · exact (Below.heap_setCell _ _ _ _ (show hd ≠ sb by omega)).trans k0
        · exact (hB.setCell (p := ⟨sb, 1 + i, none⟩) (show hd ≤ sb by omega) _).drew
      case measure => simpa [intOf] using hm1
    · obtain rfl : i = 8 := by omega
      have HK := hide (And.intro k1 (And.intro k0 hB))
      clear k1 k0 hB
      go_wp2
      go_ret
      obtain ⟨k1, k0, hB⟩ := unhide HK
      refine ⟨rfl, ⟨⟨fun _ _ => nilP, ⟨?_, k0, fun n hn => (by cases hn)⟩, fun lev hl => rfl⟩, List.Pairwise.nil, by simp [Apart], fun n hn => (by cases hn), by simp, ?_, hs⟩, hB⟩
      · exact k1
      · rintro k (rfl | rfl | ⟨n, hn, _⟩)
        · omega
        · omega
        · cases hn
end Go.Proofs.YtdcmkapfcmibeaaDoor
