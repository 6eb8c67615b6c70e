/- Several texts as one. -/
import Derived.Test.YtldapckooohigaaDoorJO
import Derived.Test.YtldapckooohigaaDoorE23

/- The small transaction's run, reckoned. -/
namespace Go.Proofs.YtldapckooohigaaDoor
open Go.RowKit
set_option maxRecDepth 100000

def bB : List Int := [1, 0, 7, 0, 5, 0, 0, 3, 1, 0, 24, 1]
def bK : List Ky := [(1, 2)]
def bX : Tx := ⟨1, 1, bB, [], bK, bK⟩
def bL : List Ins := [⟨0, 1, 0, 0, 7⟩, ⟨4, 5, 0, 0, 0⟩, ⟨7, 3, 1, 0, 0⟩, ⟨10, 24, 1, 0, 0⟩]
theorem byt_b : Byt bB := by unfold Byt; decide
theorem dec_b : dec bB = (bL, 0) := by
  have e0 : wkR bB 0 = (bL, 0) := by
    rw [wkR_yes (by decide +kernel), show (0 + sA bB 0) = 4 by decide +kernel, wkR_yes (by decide +kernel), show (4 + sA bB 4) = 7 by decide +kernel, wkR_yes (by decide +kernel), show (7 + sA bB 7) = 10 by decide +kernel, wkR_yes (by decide +kernel), show (10 + sA bB 10) = 12 by decide +kernel, wkR_end (by decide)]
    decide +kernel
  unfold dec
  rw [e0]
  decide +kernel
theorem ris_b : risB bK = true := (risB_iff bK).2 fun i a b h1 h2 => by
  have := (List.getElem?_eq_some_iff.1 h2).1
  simp [bK] at this
theorem chk_b : chkP bX = 0 := by
  unfold chkP
  show chk 1 1 0 1 1 (risB bK) (risB bK) (dec bB) = 0
  rw [dec_b, ris_b]
  decide +kernel
theorem run_b : runP bX [] 9 = ⟨0, [7], [((1, 2), (7, false))], 4⟩ := by
  unfold runP
  rw [if_neg (by rw [chk_b]; exact fun h => h rfl)]
  have e : tpP bX [] = ⟨bL, [], bK, bK, []⟩ := by
    unfold tpP
    show (⟨(dec bB).1, [], bK, bK, srtP (nedP bK [])⟩ : Tp) = _
    rw [dec_b]
    rfl
  have f : fuN 9 = 9 := by decide
  rw [e, f]
  have g : goP ⟨bL, [], bK, bK, []⟩ 9 mc0 = (⟨4, 4, [7, 7, 0, 0, 0, 0, 0, 0], [((1, 2), (7, false))], [7]⟩, 0) := by kernel_rfl
  rw [g]
  rfl
end Go.Proofs.YtldapckooohigaaDoor

/- begun. -/
namespace Go.Proofs.YtldapckooohigaaDoor
open Go.RowKit
set_option maxRecDepth 100000

theorem sees_bB (w : World) : SeesL yC 1 (w.alloc (.cells #[.int .u8 1, .int .u8 0, .int .u8 7, .int .u8 0, .int .u8 5, .int .u8 0, .int .u8 0, .int .u8 3, .int .u8 1, .int .u8 0, .int .u8 24, .int .u8 1] 5)) (.slice (some ⟨w.heap.size, 0, none⟩) 12 12) bB := by
  refine ⟨some ⟨w.heap.size, 0, none⟩, 12, w.heap.size, 0, rfl, Nat.le_refl _, by decide, fun h => (by cases h), fun _ => rfl, fun t x hx j hj => ?_⟩
  rw [cell_at (heap_alloc_new w _)]
  have ht : t < 12 := (List.getElem?_eq_some_iff.1 hx).1
  obtain rfl : j = 0 := by omega
  rcases (by omega : t = 0 ∨ t = 1 ∨ t = 2 ∨ t = 3 ∨ t = 4 ∨ t = 5 ∨ t = 6 ∨ t = 7 ∨ t = 8 ∨ t = 9 ∨ t = 10 ∨ t = 11) with rfl | rfl | rfl | rfl | rfl | rfl | rfl | rfl | rfl | rfl | rfl | rfl
  all_goals
    obtain rfl := Option.some.inj hx
    rfl
theorem sees_bK (w : World) : SeesL kC 2 (w.alloc (.cells #[.int .i32 1, .int .i64 2] 38)) (.slice (some ⟨w.heap.size, 0, none⟩) 1 1) bK := sees_oneK w (1, 2)
theorem small_any {w : World} : Calls Tryd.prog 30 #[] w fun e w' => ∃ cv rv, e = .returned (.agg #[.int .i64 1, .int .i64 1, cv, .slice none 0 0, rv, rv]) ∧ SeesX w' bX cv (.slice none 0 0) rv rv ∧ Below w.heap.size w w' := by
  go_enter Tryd.func30, Tryd.ntmps30
  go_wp2
  obtain ⟨W1, hW1⟩ : ∃ W, w.alloc (.cells #[.int .i64 1, .int .i64 1, .slice (some ⟨w.heap.size + 1 + 1, 0, none⟩) 12 12, .slice none 0 0, .slice (some ⟨w.heap.size + 1, 0, none⟩) 1 1, .slice (some ⟨w.heap.size + 1, 0, none⟩) 1 1] 35) = W := ⟨_, rfl⟩
  have hr := hW1 ▸ heap_alloc_new w (.cells #[.int .i64 1, .int .i64 1, .slice (some ⟨w.heap.size + 1 + 1, 0, none⟩) 12 12, .slice none 0 0, .slice (some ⟨w.heap.size + 1, 0, none⟩) 1 1, .slice (some ⟨w.heap.size + 1, 0, none⟩) 1 1] 35)
  have hb1 : Below w.heap.size w W1 := hW1 ▸ below_box _
  have e1 : W1.heap.size = w.heap.size + 1 := by rw [← hW1]; simp
  rw [hW1]
  have sk := sees_bK W1
  obtain ⟨W2, hW2⟩ : ∃ W, W1.alloc (.cells #[.int .i32 1, .int .i64 2] 38) = W := ⟨_, rfl⟩
  rw [hW2] at sk ⊢
  have hb2 : Below W1.heap.size W1 W2 := hW2 ▸ below_box _
  have e2 : W2.heap.size = w.heap.size + 1 + 1 := by rw [← hW2]; simp [e1]
  have sb := sees_bB W2
  obtain ⟨W3, hW3⟩ : ∃ W, W2.alloc (.cells #[.int .u8 1, .int .u8 0, .int .u8 7, .int .u8 0, .int .u8 5, .int .u8 0, .int .u8 0, .int .u8 3, .int .u8 1, .int .u8 0, .int .u8 24, .int .u8 1] 5) = W := ⟨_, rfl⟩
  rw [hW3] at sb ⊢
  have hb3 : Below W2.heap.size W2 W3 := hW3 ▸ below_box _
  have sk3 := sk.below kC_len hb3
  rw [e1] at sk3
  rw [e2] at sb
  have hr3 : W3.heap[w.heap.size]? = _ := ((hb3.block _ (by omega)).trans (hb2.block _ (by omega))).trans hr
  have hbel : Below w.heap.size w W3 := (hb1.trans (hb2.mono hb1.size)).trans (hb3.mono (by omega))
  refine bodyPost_ret (results_cell_row rfl _ _ w.heap.size 35 _ (0, 0) _ rfl hr3 Tryd.underlying35 rfl (by kernel_rfl)) rfl ⟨_, _, rfl, ?_, hbel⟩
  exact
  { code := sb
    byt := byt_b
    ar := SeesL.nil _
    rs := sk3
    ws := sk3
    okr := fun k hk => by obtain rfl := List.mem_singleton.1 hk; unfold OkK; decide
    okw := fun k hk => by obtain rfl := List.mem_singleton.1 hk; unfold OkK; decide
    lr := by decide
    lw := by decide }
theorem eq7_any {z : World} {a1 : Option Addr} {c1 : Nat} {R : Obj} (hs : SeesL nC 1 z (.slice a1 1 c1) [7]) :
    Calls Tryd.prog 31 #[.slice a1 1 c1, .slice (some ⟨z.heap.size + 1, 0, none⟩) 1 1] ((z.alloc R).alloc (.cells #[.int .i64 7] 2)) fun e w' => e = .returned (.bool true) ∧ Below ((z.alloc R).alloc (.cells #[.int .i64 7] 2)).heap.size ((z.alloc R).alloc (.cells #[.int .i64 7] 2)) w' := by
  have h1 : SeesL nC 1 ((z.alloc R).alloc (.cells #[.int .i64 7] 2)) (.slice a1 1 c1) [7] := hs.below nC_len ((below_box R).alloc (by simp) _)
  have h2 := sees_oneN (z.alloc R) 7
  have e : (z.alloc R).heap.size = z.heap.size + 1 := by simp
  rw [e] at h2
  have h := ints_any h1 h2
  rw [decide_eq_true rfl] at h
  exact h
set_option maxHeartbeats 1600000 in
theorem begun_any {w : World} (hT : Tab w) : Calls Tryd.prog 10 #[] w fun e w' => e = .returned (.bool true) ∧ Below w.heap.size w w' := by
  have HSM := hide (small_any (w := w))
  have HRN : Hid (∀ cv rv z, Below w.heap.size w z → SeesX z bX cv (.slice none 0 0) rv rv → Calls Tryd.prog 23 #[.agg #[.int .i64 1, .int .i64 1, cv, .slice none 0 0, rv, rv], .slice none 0 0, .int .i64 9] z fun e w' => ∃ a1 c1 g2 c2, e = .returned (.agg #[.int .i64 0, .slice a1 1 c1, .slice (some ⟨g2, 0, none⟩) 1 c2, .int .i64 4]) ∧ SeesL nC 1 w' (.slice a1 1 c1) [7] ∧ w'.cell? ⟨g2, 2, none⟩ = some (.int .i64 7) ∧ Below z.heap.size z w') := fun cv rv z hz hx => by
    refine (run_any (hT.below hz hT.pos) bX hx (SeesL.nil z) (fun p hp => by cases hp) (by decide) 9).mono fun e w' ⟨vv, hv, q1, q2, q3, q4⟩ => ?_
    rw [run_b] at q1 q2 q3
    obtain ⟨a1, c1, rfl⟩ := own_shape q2
    obtain ⟨_, hs⟩ := own_sees nC_len (by decide) q2
    rcases q3.2 with ⟨_, h0⟩ | ⟨g, cap, cur, rfl, _, hg, _⟩
    · cases h0
    · refine ⟨a1, c1, g, cap, q1, hs, ?_, q4⟩
      have := q3.cells (g := g) rfl 2 (.int .i64 7) rfl
      have e : (⟨g, 0, none⟩ : Addr).add 2 = ⟨g, 2, none⟩ := by unfold Addr.add; split <;> simp_all
      rw [e] at this
      exact this
  clear hT
  go_enter Tryd.func10, Tryd.ntmps10
  go_wp2_with (first | (go_at_call 30; refine (unhide HSM).mono ?_; rintro e z1 ⟨cv, rv, rfl, hx, hb⟩; have HB1 := hide hb; have HX1 := hide hx; clear hb hx) | (go_at_call 23; refine (unhide HRN _ _ _ (unhide HB1) (unhide HX1)).mono ?_; rintro e z2 ⟨a1, c1, g2, c2, rfl, hs, hc, hb⟩; have HS2 := hide hs; have HB2 := hide hb; have hlt2 := World.block_lt_of_cell? z2 _ hc; clear hs hb) | (go_at_call 31; refine (eq7_any (unhide HS2)).mono ?_; rintro e z3 ⟨rfl, hz⟩; have hbb : Below z2.heap.size z2 ((z2.alloc (.cells #[.int .i64 0, .slice a1 1 c1, .slice (some ⟨g2, 0, none⟩) 1 c2, .int .i64 4] 51)).alloc (.cells #[.int .i64 7] 2)) := (below_box _).alloc (by simp) _; have hrr : ((z2.alloc (.cells #[.int .i64 0, .slice a1 1 c1, .slice (some ⟨g2, 0, none⟩) 1 c2, .int .i64 4] 51)).alloc (.cells #[.int .i64 7] 2)).heap[z2.heap.size]? = some (.cells #[.int .i64 0, .slice a1 1 c1, .slice (some ⟨g2, 0, none⟩) 1 c2, .int .i64 4] 51) := (Below.heap_alloc _ _ _ (by simp)).trans (heap_alloc_new z2 _); have hr3 : z3.heap[z2.heap.size]? = some (.cells #[.int .i64 0, .slice a1 1 c1, .slice (some ⟨g2, 0, none⟩) 1 c2, .int .i64 4] 51) := (hz.block _ (by simp; omega)).trans hrr; have k2 : z3.cell? ⟨z2.heap.size, 2, none⟩ = some (.slice (some ⟨g2, 0, none⟩) 1 c2) := cell_at hr3; have k3 : z3.cell? ⟨z2.heap.size, 3, none⟩ = some (.int .i64 4) := cell_at hr3; have hc3 : z3.cell? ⟨g2, 2, none⟩ = some (.int .i64 7) := (hz.cell (by simp; omega)).trans ((hbb.cell hlt2).trans hc); have HB3 := hide (hbb.trans (hz.mono hbb.size)); clear hz hbb hrr hr3))
  go_ret
  exact ⟨rfl, ((unhide HB1).trans ((unhide HB2).mono (unhide HB1).size)).trans ((unhide HB3).mono ((unhide HB1).trans ((unhide HB2).mono (unhide HB1).size)).size)⟩
end Go.Proofs.YtldapckooohigaaDoor
