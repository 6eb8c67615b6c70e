/- Several texts as one. -/
import Derived.Test.YtldapckooohigaaDoorJO
import Derived.Test.YtldapckooohigaaDoorE23

/- The small transaction's run, reckoned. -/
namespace Go.Proofs.YtldapckooohigaaDoor
open Go.RowKit
set_option maxRecDepth 100000

def bB : List Int := [1, 0, 7, 0, 5, 0, 0, 3, 1, 0, 24, 1]
def bK : List Ky := [(1, 2)]
def bX : Tx := ⟨1, 1, bB, [], bK, bK⟩
def bL : List Ins := [⟨0, 1, 0, 0, 7⟩, ⟨4, 5, 0, 0, 0⟩, ⟨7, 3, 1, 0, 0⟩, ⟨10, 24, 1, 0, 0⟩]
theorem byt_b : Byt bB := by unfold Byt; decide
theorem dec_b : dec bB = (bL, 0) := by
  have e0 : wkR bB 0 = (bL, 0) := by
    rw [wkR_yes (by decide +kernel), show (0 + sA bB 0) = 4 by decide +kernel, wkR_yes (by decide +kernel), show (4 + sA bB 4) = 7 by decide +kernel, wkR_yes (by decide +kernel), show (7 + sA bB 7) = 10 by decide +kernel, wkR_yes (by decide +kernel), show (10 + sA bB 10) = 12 by decide +kernel, wkR_end (by decide)]
    decide +kernel
  unfold dec
  rw [e0]
  decide +kernel
theorem ris_b : risB bK = true := (risB_iff bK).2 fun i a b h1 h2 => by
  have := (List.getElem?_eq_some_iff.1 h2).1
  simp [bK] at this
theorem chk_b : chkP bX = 0 := by
  unfold chkP
  show chk 1 1 0 1 1 (risB bK) (risB bK) (dec bB) = 0
  rw [dec_b, ris_b]
  decide +kernel
theorem run_b : runP bX [] 9 = ⟨0, [7], [((1, 2), (7, false))], 4⟩ := by
  unfold runP
  rw [if_neg (by rw [chk_b]; exact fun h => h rfl)]
  have e : tpP bX [] = ⟨bL, [], bK, bK, []⟩ := by
    unfold tpP
    show (⟨(dec bB).1, [], bK, bK, srtP (nedP bK [])⟩ : Tp) = _
    rw [dec_b]
    rfl
  have f : fuN 9 = 9 := by decide
  rw [e, f]
  have g : goP ⟨bL, [], bK, bK, []⟩ 9 mc0 = (⟨4, 4, [7, 7, 0, 0, 0, 0, 0, 0], [((1, 2), (7, false))], [7]⟩, 0) := by kernel_rfl
  rw [g]
  rfl
end Go.Proofs.YtldapckooohigaaDoor

/- begun. -/
namespace Go.Proofs.YtldapckooohigaaDoor
open Go.RowKit
set_option maxRecDepth 100000

theorem sees_bB (w : World) : SeesL yC 1 (w.alloc (.cells #[.int .u8 1, .int .u8 0, .int .u8 7, .int .u8 0, .int .u8 5, .int .u8 0, .int .u8 0, .int .u8 3, .int .u8 1, .int .u8 0, .int .u8 24, .int .u8 1] 5)) (.slice (some ⟨w.heap.size, 0, none⟩) 12 12) bB := by
  refine ⟨some ⟨w.heap.size, 0, none⟩, 12, w.heap.size, 0, rfl, Nat.le_refl _, by decide, fun h => (by cases h), fun _ => rfl, fun t x hx j hj => ?_⟩
  rw [cell_at (heap_alloc_new w _)]
  have ht : t < 12 := (List.getElem?_eq_some_iff.1 hx).1
  obtain rfl : j = 0 := by omega
  rcases (by omega : t = 0 ∨ t = 1 ∨ t = 2 ∨ t = 3 ∨ t = 4 ∨ t = 5 ∨ t = 6 ∨ t = 7 ∨ t = 8 ∨ t = 9 ∨ t = 10 ∨ t = 11) with rfl | rfl | rfl | rfl | rfl | rfl | rfl | rfl | rfl | rfl | rfl | rfl
  all_goals
    obtain rfl := Option.some.inj hx
    rfl
theorem sees_bK (w : World) : SeesL kC 2 (w.alloc (.cells #[.int .i32 1, .int .i64 2] 38)) (.slice (some ⟨w.heap.size, 0, none⟩) 1 1) bK := sees_oneK w (1, 2)
theorem small_any {w : World} : Calls Tryd.prog 30 #[] w fun e w' => ∃ cv rv, e = .returned (.agg #[.int .i64 1, .int .i64 1, cv, .slice none 0 0, rv, rv]) ∧ SeesX w' bX cv (.slice none 0 0) rv rv ∧ Below w.heap.size w w' := by
  go_enter Tryd.func30, Tryd.ntmps30
  go_wp2
  obtain ⟨W1, hW1⟩ : ∃ W, w.alloc (.cells #[.int .i64 1, .int .i64 1, .slice (some ⟨w.heap.size + 1 + 1, 0, none⟩) 12 12, .slice none 0 0, .slice (some ⟨w.heap.size + 1, 0, none⟩) 1 1, .slice (some ⟨w.heap.size + 1, 0, none⟩) 1 1] 35) = W := ⟨_, rfl⟩
  have hr := hW1 ▸ heap_alloc_new w (.cells #[.int .i64 1, .int .i64 1, .slice (some ⟨w.heap.size + 1 + 1, 0, none⟩) 12 12, .slice none 0 0, .slice (some ⟨w.heap.size + 1, 0, none⟩) 1 1, .slice (some ⟨w.heap.size + 1, 0, none⟩) 1 1] 35)
  have hb1 : Below w.heap.size w W1 := hW1 ▸ below_box _
  have e1 : W1.heap.size = w.heap.size + 1 := by rw [← hW1]; simp
  rw [hW1]
  have sk := sees_bK W1
  obtain ⟨W2, hW2⟩ : ∃ W, W1.alloc (.cells #[.int .i32 1, .int .i64 2] 38) = W := ⟨_, rfl⟩
  rw [hW2] at sk ⊢
  have hb2 : Below W1.heap.size W1 W2 := hW2 ▸ below_box _
  have e2 : W2.heap.size = w.heap.size + 1 + 1 := by rw [← hW2]; simp [e1]
  have sb := sees_bB W2
  obtain ⟨W3, hW3⟩ : ∃ W, W2.alloc (.cells #[.int .u8 1, .int .u8 0, .int .u8 7, .int .u8 0, .int .u8 5, .int .u8 0, .int .u8 0, .int .u8 3, .int .u8 1, .int .u8 0, .int .u8 24, .int .u8 1] 5) = W := ⟨_, rfl⟩
  rw [hW3] at sb ⊢
  have hb3 : Below W2.heap.size W2 W3 := hW3 ▸ below_box _
  have sk3 := sk.below kC_len hb3
  rw [e1] at sk3
  rw [e2] at sb
  have hr3 : W3.heap[w.heap.size]? = _ := ((hb3.block _ (by omega)).trans (hb2.block _ (by omega))).trans hr
  have hbel : Below w.heap.size w W3 := (hb1.trans (hb2.mono hb1.size)).trans (hb3.mono (by omega))
  refine bodyPost_ret (results_cell_row rfl _ _ w.heap.size 35 _ (0, 0) _ rfl hr3 Tryd.underlying35 rfl (by kernel_rfl)) rfl ⟨_, _, rfl, ?_, hbel⟩
  exact
  { code := sb
    byt := byt_b
    ar := SeesL.nil _
    rs := sk3
    ws := sk3
    okr := fun k hk => by obtain rfl := List.mem_singleton.1 hk; unfold OkK; decide
    okw := fun k hk => by obtain rfl := List.mem_singleton.1 hk; unfold OkK; decide
    lr := by decide
    lw := by decide }
theorem eq7_any {z : World} {a1 : Option Addr} {c1 : Nat} {R : Obj} (hs : SeesL nC 1 z (.slice a1 1 c1) [7]) :
    Calls Tryd.prog 31 #[.slice a1 1 c1, .slice (some ⟨z.heap.size + 1, 0, none⟩) 1 1] ((z.alloc R).alloc (.cells #[.int .i64 7] 2)) fun e w' => e = .returned (.bool true) ∧ Below ((z.alloc R).alloc (.cells #[.int .i64 7] 2)).heap.size ((z.alloc R).alloc (.cells #[.int .i64 7] 2)) w' := by
  have h1 : SeesL nC 1 ((z.alloc R).alloc (.cells #[.int .i64 7] 2)) (.slice a1 1 c1) [7] := hs.below nC_len ((below_box R).alloc (by simp) _)
  have h2 := sees_oneN (z.alloc R) 7
  have e : (z.alloc R).heap.size = z.heap.size + 1 := by simp
  rw [e] at h2
  have h := ints_any h1 h2
  rw [decide_eq_true rfl] at h
  exact h
set_option maxHeartbeats 1600000 in
theorem begun_any {w : World} (hT : Tab w) : Calls Tryd.prog 10 #[] w fun e w' => e = .returned (.bool true) ∧ Below w.heap.size w w' := by
  have HSM := hide (small_any (w := w))
  have HRN : Hid (∀ cv rv z, Below w.heap.size w z → SeesX z bX cv (.slice none 0 0) rv rv → Calls Tryd.prog 23 #[.agg #[.int .i64 1, .int .i64 1, cv, .slice none 0 0, rv, rv], .slice none 0 0, .int .i64 9] z fun e w' => ∃ a1 c1 g2 c2, e = .returned (.agg #[.int .i64 0, .slice a1 1 c1, .slice (some ⟨g2, 0, none⟩) 1 c2, .int .i64 4]) ∧ SeesL nC 1 w' (.slice a1 1 c1) [7] ∧ w'.cell? ⟨g2, 2, none⟩ = some (.int .i64 7) ∧ Below z.heap.size z w') := fun cv rv z hz hx => by
    refine (run_any (hT.below hz hT.pos) bX hx (SeesL.nil z) (fun p hp => by cases hp) (by decide) 9).mono fun e w' ⟨vv, hv, q1, q2, q3, q4⟩ => ?_
    rw [run_b] at q1 q2 q3
    obtain ⟨a1, c1, rfl⟩ := own_shape q2
    obtain ⟨_, hs⟩ := own_sees nC_len (by decide) q2
    rcases q3.2 with ⟨_, h0⟩ | ⟨g, cap, cur, rfl, _, hg, _⟩
    · cases h0
    · refine ⟨a1, c1, g, cap, q1, hs, ?_, q4⟩
      have := q3.cells (g := g) rfl 2 (.int .i64 7) rfl
      have e : (⟨g, 0, none⟩ : Addr).add 2 = ⟨g, 2, none⟩ := by unfold Addr.add; split <;> simp_all
      rw [e] at this
      exact this
  clear hT
  go_enter Tryd.func10, Tryd.ntmps10
  go_wp2_with (first | (go_at_call 30; refine (unhide HSM).mono ?_; rintro e z1 ⟨cv, rv, rfl, hx, hb⟩; have HB1 := hide hb; have HX1 := hide hx; clear hb hx) | (go_at_call 23; refine (unhide HRN _ _ _ (unhide HB1) (unhide HX1)).mono ?_; rintro e z2 ⟨a1, c1, g2, c2, rfl, hs, hc, hb⟩; have HS2 := hide hs; have HB2 := hide hb; have hlt2 := World.block_lt_of_cell? z2 _ hc; clear hs hb) | (go_at_call 31; refine (eq7_any (unhide HS2)).mono ?_; rintro e z3 ⟨rfl, hz⟩; have hbb : Below z2.heap.size z2 ((z2.alloc (.cells #[.int .i64 0, .slice a1 1 c1, .slice (some ⟨g2, 0, none⟩) 1 c2, .int .i64 4] 51)).alloc (.cells #[.int .i64 7] 2)) := (below_box _).alloc (by simp) _; have hrr : ((z2.alloc (.cells #[.int .i64 0, .slice a1 1 c1, .slice (some ⟨g2, 0, none⟩) 1 c2, .int .i64 4] 51)).alloc (.cells #[.int .i64 7] 2)).heap[z2.heap.size]? = some (.cells #[.int .i64 0, .slice a1 1 c1, .slice (some ⟨g2, 0, none⟩) 1 c2, .int .i64 4] 51) := (Below.heap_alloc _ _ _ (by simp)).trans (heap_alloc_new z2 _); have hr3 : z3.heap[z2.heap.size]? = some (.cells #[.int .i64 0, .slice a1 1 c1, .slice (some ⟨g2, 0, none⟩) 1 c2, .int .i64 4] 51) := (hz.block _ (by simp; omega)).trans hrr; have k2 : z3.cell? ⟨z2.heap.size, 2, none⟩ = some (.slice (some ⟨g2, 0, none⟩) 1 c2) := cell_at hr3; have k3 : z3.cell? ⟨z2.heap.size, 3, none⟩ = some (.int .i64 4) := cell_at hr3; have hc3 : z3.cell? ⟨g2, 2, none⟩ = some (.int .i64 7) := (hz.cell (by simp; omega)).trans ((hbb.cell hlt2).trans hc); have HB3 := hide (hbb.trans (hz.mono hbb.size)); clear hz hbb hrr hr3))
  go_ret
  exact ⟨rfl, ((unhide HB1).trans ((unhide HB2).mono (unhide HB1).size)).trans ((unhide HB3).mono ((unhide HB1).trans ((unhide HB2).mono (unhide HB1).size)).size)⟩
end Go.Proofs.YtldapckooohigaaDoor

/- Same: the program's. -/
namespace Go.Proofs.YtldapckooohigaaDoor
open Go.RowKit
set_option maxRecDepth 100000

def sO (a b : Out) : Bool := (a.en == b.en) && ((a.st == b.st) && (decide (a.vs = b.vs) && decide (a.cs = b.cs)))
set_option maxHeartbeats 1600000 in
theorem same_any {w : World} {a b : Out} {av ah bv bh : Value} (h1 : SeesL nC 1 w av a.vs) (h2 : SeesL chC 4 w ah a.cs) (h3 : SeesL nC 1 w bv b.vs) (h4 : SeesL chC 4 w bh b.cs) :
    Calls Tryd.prog 21 #[.agg #[.int .i64 a.en, av, ah, .int .i64 a.st], .agg #[.int .i64 b.en, bv, bh, .int .i64 b.st]] w fun e w' => e = .returned (.bool (sO a b)) ∧ Below w.heap.size w w' := by
  have HB : Hid (Below w.heap.size w ((w.alloc (.cells #[.int .i64 a.en, av, ah, .int .i64 a.st] 51)).alloc (.cells #[.int .i64 b.en, bv, bh, .int .i64 b.st] 51))) := (below_box _).alloc (by simp) _
  have H31 := hide (fun z (hz : Below w.heap.size w z) => ints_any (h1.below nC_len hz) (h3.below nC_len hz))
  have H13 := hide (fun z (hz : Below w.heap.size w z) => chs_any (h2.below chC_len hz) (h4.below chC_len hz))
  clear h1 h2 h3 h4
  obtain ⟨r, hr⟩ : ∃ r, sO a b = r := ⟨_, rfl⟩
  rw [hr]
  unfold sO at hr
  generalize decide (a.vs = b.vs) = d1 at *
  generalize decide (a.cs = b.cs) = d2 at *
  rcases e1 : (a.en == b.en) with _ | _
  · rw [e1] at hr
    subst hr
    go_enter Tryd.func21, Tryd.ntmps21
    go_wp2
    go_ret
    exact ⟨rfl, unhide HB⟩
  rcases e2 : (a.st == b.st) with _ | _
  · rw [e1, e2] at hr
    subst hr
    go_enter Tryd.func21, Tryd.ntmps21
    go_wp2
    go_ret
    exact ⟨rfl, unhide HB⟩
  rw [e1, e2, Bool.true_and, Bool.true_and] at hr
  cases d1
  · subst hr
    go_enter Tryd.func21, Tryd.ntmps21
    go_wp2_with (go_at_call 31; refine (unhide H31 _ (unhide HB)).mono ?_; rintro e z1 ⟨rfl, hz⟩; have HZ := hide hz; clear hz)
    go_ret
    exact ⟨rfl, (unhide HB).trans ((unhide HZ).mono (unhide HB).size)⟩
  · rw [Bool.true_and] at hr
    subst hr
    have HC : Hid (∀ z1, Below ((w.alloc (.cells #[.int .i64 a.en, av, ah, .int .i64 a.st] 51)).alloc (.cells #[.int .i64 b.en, bv, bh, .int .i64 b.st] 51)).heap.size ((w.alloc (.cells #[.int .i64 a.en, av, ah, .int .i64 a.st] 51)).alloc (.cells #[.int .i64 b.en, bv, bh, .int .i64 b.st] 51)) z1 → z1.cell? ⟨w.heap.size, 2, none⟩ = some ah ∧ z1.cell? ⟨w.heap.size + 1, 2, none⟩ = some bh) := fun z1 hz => by
      have k1 := heap_alloc_new w (.cells #[.int .i64 a.en, av, ah, .int .i64 a.st] 51)
      have k2 := heap_alloc_new (w.alloc (.cells #[.int .i64 a.en, av, ah, .int .i64 a.st] 51)) (.cells #[.int .i64 b.en, bv, bh, .int .i64 b.st] 51)
      have es : (w.alloc (.cells #[.int .i64 a.en, av, ah, .int .i64 a.st] 51)).heap.size = w.heap.size + 1 := by simp
      rw [es] at k2
      have k3 := (Below.heap_alloc (w.alloc (.cells #[.int .i64 a.en, av, ah, .int .i64 a.st] 51)) (.cells #[.int .i64 b.en, bv, bh, .int .i64 b.st] 51) w.heap.size (by simp)).trans k1
      exact ⟨cell_at ((hz.block _ (by simp; omega)).trans k3), cell_at ((hz.block _ (by simp)).trans k2)⟩
    go_enter Tryd.func21, Tryd.ntmps21
    go_wp2_with (first | (go_at_call 31; refine (unhide H31 _ (unhide HB)).mono ?_; rintro e z1 ⟨rfl, hz⟩; obtain ⟨q1, q2⟩ := unhide HC z1 hz; have HZ := hide ((unhide HB).trans (hz.mono (unhide HB).size)); clear hz) | (go_at_call 13; refine (unhide H13 _ (unhide HZ)).mono ?_; rintro e z2 ⟨rfl, hz⟩; have HZ2 := hide hz; clear hz))
    go_ret
    exact ⟨rfl, (unhide HZ).trans ((unhide HZ2).mono (unhide HZ).size)⟩
end Go.Proofs.YtldapckooohigaaDoor

/- Same: the document's. -/
namespace Go.Proofs.YtldapckooohigaaDoor
open Go.RowKit
set_option maxRecDepth 100000

set_option maxHeartbeats 3200000 in
theorem rsame_any {w : World} {a b : Out} {av ah bv bh : Value} (h1 : SeesL nC 1 w av a.vs) (h2 : SeesL chC 4 w ah a.cs) (h3 : SeesL nC 1 w bv b.vs) (h4 : SeesL chC 4 w bh b.cs) :
    Calls Tryd.prog 22 #[.agg #[.int .i64 a.en, av, ah, .int .i64 a.st], .agg #[.int .i64 b.en, bv, bh, .int .i64 b.st]] w fun e w' => e = .returned (.bool (sO a b)) ∧ Below w.heap.size w w' := by
  obtain ⟨w2, hw2⟩ : ∃ W, (w.alloc (.cells #[.int .i64 a.en, av, ah, .int .i64 a.st] 51)).alloc (.cells #[.int .i64 b.en, bv, bh, .int .i64 b.st] 51) = W := ⟨_, rfl⟩
  have hb2 : Below w.heap.size w w2 := hw2 ▸ (below_box _).alloc (by simp) _
  have k1 : w2.heap[w.heap.size]? = some (.cells #[.int .i64 a.en, av, ah, .int .i64 a.st] 51) := by rw [← hw2]; exact (Below.heap_alloc _ _ _ (by simp)).trans (heap_alloc_new w _)
  have k2 : w2.heap[w.heap.size + 1]? = some (.cells #[.int .i64 b.en, bv, bh, .int .i64 b.st] 51) := by rw [← hw2]; have := heap_alloc_new (w.alloc (.cells #[.int .i64 a.en, av, ah, .int .i64 a.st] 51)) (.cells #[.int .i64 b.en, bv, bh, .int .i64 b.st] 51); simpa using this
  have hs2 : w2.heap.size = w.heap.size + 2 := by rw [← hw2]; simp
  have HC : Hid (∀ z, Below w2.heap.size w2 z → z.cell? ⟨w.heap.size, 2, none⟩ = some ah ∧ z.cell? ⟨w.heap.size + 1, 2, none⟩ = some bh) := fun z hz => ⟨cell_at ((hz.block _ (by omega)).trans k1), cell_at ((hz.block _ (by omega)).trans k2)⟩
  have a0 : w2.cell? ⟨w.heap.size, 0, none⟩ = some (.int .i64 a.en) := cell_at k1
  have a1 : w2.cell? ⟨w.heap.size, 1, none⟩ = some av := cell_at k1
  have a3 : w2.cell? ⟨w.heap.size, 3, none⟩ = some (.int .i64 a.st) := cell_at k1
  have b0 : w2.cell? ⟨w.heap.size + 1, 0, none⟩ = some (.int .i64 b.en) := cell_at k2
  have b1 : w2.cell? ⟨w.heap.size + 1, 1, none⟩ = some bv := cell_at k2
  have b3 : w2.cell? ⟨w.heap.size + 1, 3, none⟩ = some (.int .i64 b.st) := cell_at k2
  obtain ⟨a2, b2⟩ := unhide HC w2 (Below.refl _ _)
  have HB := hide hb2
  have HW := hide hw2
  have H37 := hide (sints_any (h1.below nC_len hb2) (h3.below nC_len hb2))
  have HA : Hid (∀ z, Below w2.heap.size w2 z → SeesL chC 4 z ah a.cs) := fun z hz => (h2.below chC_len hb2).below chC_len hz
  have HA2 : Hid (∀ z, Below w2.heap.size w2 z → SeesL chC 4 z bh b.cs) := fun z hz => (h4.below chC_len hb2).below chC_len hz
  have hmax : a.cs.length ≤ 9223372036854775807 := by obtain ⟨_, _, _, _, _, _, h, _⟩ := h2; exact h
  obtain ⟨pa, ca, hva⟩ := h2.shape
  obtain ⟨pb, cb, hvb⟩ := h4.shape
  obtain ⟨n, hn⟩ : ∃ n, a.cs.length = n := ⟨_, rfl⟩
  obtain ⟨n2, hn2⟩ : ∃ n, b.cs.length = n := ⟨_, rfl⟩
  rw [hn] at hva hmax
  rw [hn2] at hvb
  have HV := hide hva
  have HV2 := hide hvb
  have HN := hide hn
  have HN2 := hide hn2
  rw [hva] at a2
  rw [hvb] at b2
  obtain ⟨r, hr⟩ : ∃ r, sO a b = r := ⟨_, rfl⟩
  rw [hr]
  unfold sO at hr
  clear h1 h2 h3 h4 hw2 hb2 k1 k2 hs2
  rcases e1 : (a.en == b.en) with _ | _
  · have f1 : (a.en != b.en) = true := by simp [bne, e1]
    rw [e1] at hr
    subst hr
    clear hva hvb hn hn2
    go_enter Tryd.func22, Tryd.ntmps22
    go_wp2_with (rw [unhide HW])
    go_ret
    exact ⟨rfl, unhide HB⟩
  have f1 : (a.en != b.en) = false := by simp [bne, e1]
  rcases e2 : (a.st == b.st) with _ | _
  · have f2 : (a.st != b.st) = true := by simp [bne, e2]
    rw [e1, e2] at hr
    subst hr
    clear hva hvb hn hn2
    go_enter Tryd.func22, Tryd.ntmps22
    go_wp2_with (rw [unhide HW])
    go_ret
    exact ⟨rfl, unhide HB⟩
  have f2 : (a.st != b.st) = false := by simp [bne, e2]
  rw [e1, e2, Bool.true_and, Bool.true_and] at hr
  by_cases hl : n = n2
  · subst hl
    have f3 : ((n : Int) != (n : Int)) = false := by simp
    rcases hd1 : decide (a.vs = b.vs) with _ | _
    · rw [hd1] at hr H37
      subst hr
      clear hva hvb hn hn2
      go_enter Tryd.func22, Tryd.ntmps22
      go_wp2_with (first | rw [unhide HW] | (go_at_call 37; refine (unhide H37).mono ?_; rintro e z1 ⟨rfl, hz⟩; have HZ := hide hz; clear hz))
      go_ret
      exact ⟨rfl, (unhide HB).trans ((unhide HZ).mono (unhide HB).size)⟩
    · rw [hd1, Bool.true_and] at hr
      rw [hd1] at H37
      have HRr := hide hr
      clear hva hvb hn hn2 hr hd1
      go_enter Tryd.func22, Tryd.ntmps22
      go_wp2_with (first | rw [unhide HW] | (go_at_call 37; refine (unhide H37).mono ?_; rintro e z1 ⟨rfl, hz⟩; have HZ := hide hz; clear hz))
      go_loopw [5] (fun c wr => ∃ t : Nat, t ≤ n ∧ c = .int .i64 t ∧ (∀ u, u < t → a.cs.getD u default = b.cs.getD u default) ∧ Below w2.heap.size w2 wr) (fun c _ => n - (intOf c).toNat)
      case atStart => exact ⟨0, by omega, rfl, fun u hu => absurd hu (by omega), unhide HZ⟩
      case round =>
        obtain ⟨t, ht, rfl, hall, hgr⟩ := hrel
        have HL := hide hall
        have HR := hide hgr
        obtain ⟨s2, t2⟩ := unhide HC wr hgr
        rw [unhide HV] at s2
        rw [unhide HV2] at t2
        by_cases hlt : t < n
        · obtain ⟨ao', ca', ga, oa, hv', hao, hca⟩ := SeesL.at (unhide HA wr hgr)
          obtain ⟨bo', cb', gb, ob, hv2', hbo, hcb⟩ := SeesL.at (unhide HA2 wr hgr)
          rw [unhide HV, unhide HN] at hv'
          rw [unhide HV2, unhide HN2] at hv2'
          simp only [Value.slice.injEq, true_and] at hv' hv2'
          obtain ⟨rfl, rfl⟩ := hv'
          obtain ⟨rfl, rfl⟩ := hv2'
          have hnl := unhide HN
          have hnl2 := unhide HN2
          obtain rfl := hao (by omega)
          obtain rfl := hbo (by omega)
          obtain ⟨x, hx⟩ : ∃ k, a.cs.getD t default = k := ⟨_, rfl⟩
          obtain ⟨y, hy⟩ : ∃ k, b.cs.getD t default = k := ⟨_, rfl⟩
          have p0 : wr.cell? ⟨ga, oa + t * 4, none⟩ = some (.int .i32 x.1.1) := by have h := hca t (by omega) 0 (by decide); rw [hx] at h; simpa [chC] using h
          have p1 : wr.cell? ⟨ga, oa + t * 4 + 1, none⟩ = some (.int .i64 x.1.2) := by have h := hca t (by omega) 1 (by decide); rw [hx] at h; simpa [chC] using h
          have p2 : wr.cell? ⟨ga, oa + t * 4 + 2, none⟩ = some (.int .i64 x.2.1) := by have h := hca t (by omega) 2 (by decide); rw [hx] at h; simpa [chC] using h
          have p3 : wr.cell? ⟨ga, oa + t * 4 + 3, none⟩ = some (.bool x.2.2) := by have h := hca t (by omega) 3 (by decide); rw [hx] at h; simpa [chC] using h
          have q0 : wr.cell? ⟨gb, ob + t * 4, none⟩ = some (.int .i32 y.1.1) := by have h := hcb t (by omega) 0 (by decide); rw [hy] at h; simpa [chC] using h
          have q1 : wr.cell? ⟨gb, ob + t * 4 + 1, none⟩ = some (.int .i64 y.1.2) := by have h := hcb t (by omega) 1 (by decide); rw [hy] at h; simpa [chC] using h
          have q2 : wr.cell? ⟨gb, ob + t * 4 + 2, none⟩ = some (.int .i64 y.2.1) := by have h := hcb t (by omega) 2 (by decide); rw [hy] at h; simpa [chC] using h
          have q3 : wr.cell? ⟨gb, ob + t * 4 + 3, none⟩ = some (.bool y.2.2) := by have h := hcb t (by omega) 3 (by decide); rw [hy] at h; simpa [chC] using h
          have HX := hide hx
          have HY := hide hy
          have hlt0 : (t : Int) < (n : Int) := by omega
          clear hca hcb hao hbo hx hy hgr hall hnl hnl2 a0 a1 a2 a3 b0 b1 b2 b3
          by_cases he : x = y
          · have hE : ∀ z, (binOp .neq 40 (.agg #[.int .i32 x.1.1, .int .i64 x.1.2, .int .i64 x.2.1, .bool x.2.2]) (.agg #[.int .i32 y.1.1, .int .i64 y.1.2, .int .i64 y.2.1, .bool y.2.2])).run Tryd.prog z = .ok (.bool false) z := fun z => by have := neq_ch x y z; rw [decide_eq_true he] at this; exact this
            have HE := hide he
            clear he
            go_wp2
            go_quiet (fail)
            go_wp2
            go_roundw
            case rel =>
              refine ⟨t + 1, by omega, by go_num, fun u hu => ?_, ((unhide HR).trans (Below.drewN (Below.refl _ _) nq))⟩
              by_cases hu' : u = t
              · subst hu'; rw [unhide HX, unhide HY]; exact unhide HE
              · exact unhide HL u (by omega)
            case measure => simp [intOf]; omega
          · have hE : ∀ z, (binOp .neq 40 (.agg #[.int .i32 x.1.1, .int .i64 x.1.2, .int .i64 x.2.1, .bool x.2.2]) (.agg #[.int .i32 y.1.1, .int .i64 y.1.2, .int .i64 y.2.1, .bool y.2.2])).run Tryd.prog z = .ok (.bool true) z := fun z => by have := neq_ch x y z; rw [decide_eq_false he] at this; exact this
            have HE := hide he
            clear he
            go_wp2
            go_quiet (fail)
            go_wp2
            go_ret
            have hz := (unhide HR).trans (Below.drewN (Below.refl _ _) nq)
            refine ⟨retBool ?_, (unhide HB).trans (hz.mono (unhide HB).size)⟩
            rw [← unhide HRr]
            symm
            refine decide_eq_false fun h => unhide HE ?_
            have h1 := unhide HX
            have h2 := unhide HY
            rw [h] at h1
            exact h1.symm.trans h2
        · obtain rfl : t = n := by omega
          clear hgr hall
          go_wp2
          go_ret
          refine ⟨retBool ?_, (unhide HB).trans ((unhide HR).mono (unhide HB).size)⟩
          rw [← unhide HRr]
          symm
          exact decide_eq_true (list_alike ((unhide HN).trans (unhide HN2).symm) fun t ht => unhide HL t (by rw [unhide HN] at ht; exact ht))
  · have f3 : ((n : Int) != (n2 : Int)) = true := by rw [bne_iff_ne]; omega
    have hd2 : decide (a.cs = b.cs) = false := decide_eq_false fun h => hl (by rw [← hn, ← hn2, h])
    rw [hd2, Bool.and_false] at hr
    subst hr
    clear hva hvb hn hn2
    go_enter Tryd.func22, Tryd.ntmps22
    go_wp2_with (rw [unhide HW])
    go_ret
    exact ⟨rfl, unhide HB⟩
end Go.Proofs.YtldapckooohigaaDoor

/- EvalSame's walk. -/
namespace Go.Proofs.YtldapckooohigaaDoor
open Go.RowKit
set_option maxRecDepth 100000

theorem sO_self (a : Out) : sO a a = true := by simp [sO]
set_option maxHeartbeats 1600000 in
theorem evalSame_walk {w : World} (hT : Tab w) {a b : Out} {av ah bv bh : Value} (h1 : SeesL nC 1 w av a.vs) (h2 : SeesL chC 4 w ah a.cs) (h3 : SeesL nC 1 w bv b.vs) (h4 : SeesL chC 4 w bh b.cs) :
    Calls Tryd.prog 5 #[.agg #[.int .i64 a.en, av, ah, .int .i64 a.st], .agg #[.int .i64 b.en, bv, bh, .int .i64 b.st]] w fun e w' => e = .returned (.bool true) ∧ Below w.heap.size w w' := by
  obtain ⟨w2, hw2⟩ : ∃ W, (w.alloc (.cells #[.int .i64 a.en, av, ah, .int .i64 a.st] 51)).alloc (.cells #[.int .i64 b.en, bv, bh, .int .i64 b.st] 51) = W := ⟨_, rfl⟩
  have hb2 : Below w.heap.size w w2 := hw2 ▸ (below_box _).alloc (by simp) _
  have k1 : w2.heap[w.heap.size]? = some (.cells #[.int .i64 a.en, av, ah, .int .i64 a.st] 51) := by rw [← hw2]; exact (Below.heap_alloc _ _ _ (by simp)).trans (heap_alloc_new w _)
  have k2 : w2.heap[w.heap.size + 1]? = some (.cells #[.int .i64 b.en, bv, bh, .int .i64 b.st] 51) := by rw [← hw2]; have := heap_alloc_new (w.alloc (.cells #[.int .i64 a.en, av, ah, .int .i64 a.st] 51)) (.cells #[.int .i64 b.en, bv, bh, .int .i64 b.st] 51); simpa using this
  have hs2 : w2.heap.size = w.heap.size + 2 := by rw [← hw2]; simp
  have HC : Hid (∀ z, Below w2.heap.size w2 z → (z.cell? ⟨w.heap.size, 0, none⟩ = some (.int .i64 a.en) ∧ z.cell? ⟨w.heap.size, 1, none⟩ = some av ∧ z.cell? ⟨w.heap.size, 2, none⟩ = some ah ∧ z.cell? ⟨w.heap.size, 3, none⟩ = some (.int .i64 a.st)) ∧ z.cell? ⟨w.heap.size + 1, 0, none⟩ = some (.int .i64 b.en) ∧ z.cell? ⟨w.heap.size + 1, 1, none⟩ = some bv ∧ z.cell? ⟨w.heap.size + 1, 2, none⟩ = some bh ∧ z.cell? ⟨w.heap.size + 1, 3, none⟩ = some (.int .i64 b.st)) := fun z hz => by
    have x1 := (hz.block _ (by omega)).trans k1
    have x2 := (hz.block _ (by omega)).trans k2
    exact ⟨⟨cell_at x1, cell_at x1, cell_at x1, cell_at x1⟩, cell_at x2, cell_at x2, cell_at x2, cell_at x2⟩
  have HB : Hid (∀ z, Below w2.heap.size w2 z → Calls Tryd.prog 10 #[] z fun e w' => e = .returned (.bool true) ∧ Below z.heap.size z w') := fun z hz => begun_any (hT.below (hb2.trans (hz.mono hb2.size)) hT.pos)
  obtain ⟨r, hr⟩ : ∃ r, sO a b = r := ⟨_, rfl⟩
  have HS : Hid (∀ z, Below w2.heap.size w2 z → Calls Tryd.prog 21 #[.agg #[.int .i64 a.en, av, ah, .int .i64 a.st], .agg #[.int .i64 b.en, bv, bh, .int .i64 b.st]] z fun e w' => e = .returned (.bool r) ∧ Below z.heap.size z w') := fun z hz => by
    have hzw := hb2.trans (hz.mono hb2.size)
    have := same_any (h1.below nC_len hzw) (h2.below chC_len hzw) (h3.below nC_len hzw) (h4.below chC_len hzw)
    rw [hr] at this
    exact this
  have HR : Hid (∀ z, Below w2.heap.size w2 z → Calls Tryd.prog 22 #[.agg #[.int .i64 a.en, av, ah, .int .i64 a.st], .agg #[.int .i64 b.en, bv, bh, .int .i64 b.st]] z fun e w' => e = .returned (.bool r) ∧ Below z.heap.size z w') := fun z hz => by
    have hzw := hb2.trans (hz.mono hb2.size)
    have := rsame_any (h1.below nC_len hzw) (h2.below chC_len hzw) (h3.below nC_len hzw) (h4.below chC_len hzw)
    rw [hr] at this
    exact this
  have HA : Hid (∀ z, Below w2.heap.size w2 z → Calls Tryd.prog 21 #[.agg #[.int .i64 a.en, av, ah, .int .i64 a.st], .agg #[.int .i64 a.en, av, ah, .int .i64 a.st]] z fun e w' => e = .returned (.bool true) ∧ Below z.heap.size z w') := fun z hz => by
    have hzw := hb2.trans (hz.mono hb2.size)
    have := same_any (h1.below nC_len hzw) (h2.below chC_len hzw) (h1.below nC_len hzw) (h2.below chC_len hzw)
    rw [sO_self] at this
    exact this
  have hrr : (r == r) = true := by simp
  have HW := hide hw2
  have HB2 := hide hb2
  clear h1 h2 h3 h4 hw2 hb2 k1 k2 hs2 hT hr
  go_enter Tryd.func5, Tryd.ntmps5
  go_wp2_with (rw [unhide HW])
  refine wp_region_held_drew (S := fun x => Below w2.heap.size w2 x) (by kernel_rfl) (Below.refl _ _).drew (fun hHeld => ?_)
  refine wpAnyH_ready (rs := [0]) (by kernel_rfl) (by simp) ?_
  refine AllReadyH.cons rfl (fun K hK => ?_) AllReadyH.nil
  go_simp
  refine (unhide HB _ hHeld).mono ?_
  rintro e wq ⟨rfl, hb⟩
  refine hK _ _ (hHeld.trans (hb.mono hHeld.size)) ?_
  clear hK hHeld
  intro hHeld
  refine wpAnyH_take (i := 1) (v := (.bool true)) rfl (by kernel_rfl) (by kernel_rfl) (by kernel_rfl) (fun _ _ _ h => h) (Or.inl ⟨by rfl, ?hy1x1⟩) (by assumption) ?rest1x1
  case hy1x1 => intro w hSw; go_simp <;> with_reducible rfl
  simp only [Act.put, List.getElem_toArray, List.getElem_cons_zero, List.getElem_cons_succ, List.setIfInBounds_toArray, List.set_cons_zero, List.set_cons_succ]
  refine wpAnyH_take (i := 2) (v := (.agg #[.int .i64 a.en, av, ah, .int .i64 a.st])) rfl (by kernel_rfl) (by kernel_rfl) (by kernel_rfl) (fun _ _ _ h => h) (Or.inl ⟨by rfl, ?hy2x2⟩) (by assumption) ?rest2x2
  case hy2x2 => intro w hSw; obtain ⟨⟨s0, s1, s2, s3⟩, t0, t1, t2, t3⟩ := unhide HC _ hSw; go_simp <;> with_reducible rfl
  simp only [Act.put, List.getElem_toArray, List.getElem_cons_zero, List.getElem_cons_succ, List.setIfInBounds_toArray, List.set_cons_zero, List.set_cons_succ]
  refine wpAnyH_take (i := 3) (v := (.agg #[.int .i64 b.en, bv, bh, .int .i64 b.st])) rfl (by kernel_rfl) (by kernel_rfl) (by kernel_rfl) (fun _ _ _ h => h) (Or.inl ⟨by rfl, ?hy3x3⟩) (by assumption) ?rest3x3
  case hy3x3 => intro w hSw; obtain ⟨⟨s0, s1, s2, s3⟩, t0, t1, t2, t3⟩ := unhide HC _ hSw; go_simp <;> with_reducible rfl
  simp only [Act.put, List.getElem_toArray, List.getElem_cons_zero, List.getElem_cons_succ, List.setIfInBounds_toArray, List.set_cons_zero, List.set_cons_succ]
  refine wpAnyH_take (i := 5) (v := (.agg #[.int .i64 a.en, av, ah, .int .i64 a.st])) rfl (by kernel_rfl) (by kernel_rfl) (by kernel_rfl) (fun _ _ _ h => h) (Or.inl ⟨by rfl, ?hy4x5⟩) (by assumption) ?rest4x5
  case hy4x5 => intro w hSw; obtain ⟨⟨s0, s1, s2, s3⟩, t0, t1, t2, t3⟩ := unhide HC _ hSw; go_simp <;> with_reducible rfl
  simp only [Act.put, List.getElem_toArray, List.getElem_cons_zero, List.getElem_cons_succ, List.setIfInBounds_toArray, List.set_cons_zero, List.set_cons_succ]
  refine wpAnyH_take (i := 6) (v := (.agg #[.int .i64 b.en, bv, bh, .int .i64 b.st])) rfl (by kernel_rfl) (by kernel_rfl) (by kernel_rfl) (fun _ _ _ h => h) (Or.inl ⟨by rfl, ?hy5x6⟩) (by assumption) ?rest5x6
  case hy5x6 => intro w hSw; obtain ⟨⟨s0, s1, s2, s3⟩, t0, t1, t2, t3⟩ := unhide HC _ hSw; go_simp <;> with_reducible rfl
  simp only [Act.put, List.getElem_toArray, List.getElem_cons_zero, List.getElem_cons_succ, List.setIfInBounds_toArray, List.set_cons_zero, List.set_cons_succ]
  refine wpAnyH_ready (rs := [4]) (by kernel_rfl) (by simp) ?_
  refine AllReadyH.cons rfl (fun K hK => ?_) AllReadyH.nil
  go_simp
  refine (unhide HS _ hHeld).mono ?_
  rintro e wq ⟨rfl, hb⟩
  refine hK _ _ (hHeld.trans (hb.mono hHeld.size)) ?_
  clear hK hHeld
  intro hHeld
  refine wpAnyH_ready (rs := [7]) (by kernel_rfl) (by simp) ?_
  refine AllReadyH.cons rfl (fun K hK => ?_) AllReadyH.nil
  go_simp
  refine (unhide HR _ hHeld).mono ?_
  rintro e wq ⟨rfl, hb⟩
  refine hK _ _ (hHeld.trans (hb.mono hHeld.size)) ?_
  clear hK hHeld
  intro hHeld
  refine wpAnyH_take (i := 8) (v := (.bool true)) rfl (by kernel_rfl) (by kernel_rfl) (by kernel_rfl) (fun _ _ _ h => h) (Or.inl ⟨by rfl, ?hy6x8⟩) (by assumption) ?rest6x8
  case hy6x8 => intro w hSw; go_simp <;> with_reducible rfl
  simp only [Act.put, List.getElem_toArray, List.getElem_cons_zero, List.getElem_cons_succ, List.setIfInBounds_toArray, List.set_cons_zero, List.set_cons_succ]
  refine wpAnyH_take (i := 9) (v := (.bool true)) rfl (by kernel_rfl) (by kernel_rfl) (by kernel_rfl) (fun _ _ _ h => h) (Or.inl ⟨by rfl, ?hy7x9⟩) (by assumption) ?rest7x9
  case hy7x9 => intro w hSw; go_simp <;> with_reducible rfl
  simp only [Act.put, List.getElem_toArray, List.getElem_cons_zero, List.getElem_cons_succ, List.setIfInBounds_toArray, List.set_cons_zero, List.set_cons_succ]
  refine wpAnyH_take (i := 10) (v := (.bool true)) rfl (by kernel_rfl) (by kernel_rfl) (by kernel_rfl) (fun _ _ _ h => h) (Or.inl ⟨by rfl, ?hy8x10⟩) (by assumption) ?rest8x10
  case hy8x10 => intro w hSw; go_simp <;> with_reducible rfl
  simp only [Act.put, List.getElem_toArray, List.getElem_cons_zero, List.getElem_cons_succ, List.setIfInBounds_toArray, List.set_cons_zero, List.set_cons_succ]
  refine wpAnyH_take (i := 11) (v := (.agg #[.int .i64 a.en, av, ah, .int .i64 a.st])) rfl (by kernel_rfl) (by kernel_rfl) (by kernel_rfl) (fun _ _ _ h => h) (Or.inl ⟨by rfl, ?hy9x11⟩) (by assumption) ?rest9x11
  case hy9x11 => intro w hSw; obtain ⟨⟨s0, s1, s2, s3⟩, t0, t1, t2, t3⟩ := unhide HC _ hSw; go_simp <;> with_reducible rfl
  simp only [Act.put, List.getElem_toArray, List.getElem_cons_zero, List.getElem_cons_succ, List.setIfInBounds_toArray, List.set_cons_zero, List.set_cons_succ]
  refine wpAnyH_take (i := 12) (v := (.agg #[.int .i64 a.en, av, ah, .int .i64 a.st])) rfl (by kernel_rfl) (by kernel_rfl) (by kernel_rfl) (fun _ _ _ h => h) (Or.inl ⟨by rfl, ?hy10x12⟩) (by assumption) ?rest10x12
  case hy10x12 => intro w hSw; obtain ⟨⟨s0, s1, s2, s3⟩, t0, t1, t2, t3⟩ := unhide HC _ hSw; go_simp <;> with_reducible rfl
  simp only [Act.put, List.getElem_toArray, List.getElem_cons_zero, List.getElem_cons_succ, List.setIfInBounds_toArray, List.set_cons_zero, List.set_cons_succ]
  refine wpAnyH_ready (rs := [13]) (by kernel_rfl) (by simp) ?_
  refine AllReadyH.cons rfl (fun K hK => ?_) AllReadyH.nil
  go_simp
  refine (unhide HA _ hHeld).mono ?_
  rintro e wq ⟨rfl, hb⟩
  refine hK _ _ (hHeld.trans (hb.mono hHeld.size)) ?_
  clear hK hHeld
  intro hHeld
  have HFIN := hide hHeld
  refine wpAnyH_take (i := 14) (v := (.bool true)) rfl (by kernel_rfl) (by kernel_rfl) (by kernel_rfl) (fun _ _ _ h => h) (Or.inl ⟨by rfl, ?hy11x14⟩) (by assumption) ?rest11x14
  case hy11x14 => intro w hSw; go_simp <;> with_reducible rfl
  simp only [Act.put, List.getElem_toArray, List.getElem_cons_zero, List.getElem_cons_succ, List.setIfInBounds_toArray, List.set_cons_zero, List.set_cons_succ]
  refine wpAnyH_take (i := 15) (v := (.bool true)) rfl (by kernel_rfl) (by kernel_rfl) (by kernel_rfl) (fun _ _ _ h => h) (Or.inl ⟨by rfl, ?hy12x15⟩) (by assumption) ?rest12x15
  case hy12x15 => intro w hSw; go_simp <;> with_reducible rfl
  simp only [Act.put, List.getElem_toArray, List.getElem_cons_zero, List.getElem_cons_succ, List.setIfInBounds_toArray, List.set_cons_zero, List.set_cons_succ]
  refine wpAnyH_done (by kernel_rfl) ?_ _
  go_wp2
  go_ret
  exact ⟨rfl, (unhide HB2).trans ((unhide HFIN).mono (unhide HB2).size)⟩
end Go.Proofs.YtldapckooohigaaDoor

/- A run ends: in pure terms. -/
namespace Go.Proofs.YtldapckooohigaaDoor
open Go.RowKit
set_option maxRecDepth 100000

theorem goP_more (P : Tp) : ∀ (n k : Nat) (s : Mc), (goP P n s).2 ≠ 2 → goP P (n + k) s = goP P n s
  | 0, k, s, h => by
    by_cases hp : s.pc < P.L.length
    · rw [goP_zero hp] at h
      exact absurd rfl h
    · rw [goP_end hp, goP_end hp]
  | n + 1, k, s, h => by
    rcases hx : P.L[s.pc]? with _ | x
    · have hp : ¬ s.pc < P.L.length := by have := List.getElem?_eq_none_iff.1 hx; omega
      rw [goP_end hp, goP_end hp]
    · rw [show n + 1 + k = (n + k) + 1 by omega]
      by_cases h0 : (doP P x (onP s)).2 = 0
      · rw [goP_step hx h0] at h ⊢
        rw [goP_step hx h0]
        exact goP_more P n k _ h
      · rw [goP_stop hx h0, goP_stop hx h0]
theorem outP_st (R : Mc × Int) : (outP R).st = R.1.st := by unfold outP; split <;> rfl
theorem run_ends (x : Tx) (m : List Pr) (f g : Nat) :
    (0 ≤ (runP x m (f : Int)).st ∧ (runP x m (f : Int)).st ≤ min (f : Int) 4096) ∧ ((runP x m (f : Int)).en ≠ 0 → (runP x m (f : Int)).vs = [] ∧ (runP x m (f : Int)).cs = []) ∧ ((runP x m (f : Int)).en ≠ 2 → runP x m ((f : Int) + (g : Int)) = runP x m (f : Int)) := by
  by_cases hc : chkP x ≠ 0
  · have e : ∀ fu, runP x m fu = ⟨1, [], [], 0⟩ := fun fu => by unfold runP; rw [if_pos hc]
    rw [e, e]
    exact ⟨⟨Int.le_refl _, by show (0 : Int) ≤ _; omega⟩, fun _ => ⟨rfl, rfl⟩, fun _ => rfl⟩
  · have e : ∀ fu, runP x m fu = outP (goP (tpP x m) (fuN fu) mc0) := fun fu => by unfold runP; rw [if_neg hc]
    have hs := goP_st (tpP x m) (fuN (f : Int)) mc0
    have h0 : mc0.st = 0 := rfl
    have hf : fuN (f : Int) ≤ f ∧ fuN (f : Int) ≤ 4096 := by unfold fuN; omega
    obtain ⟨k, hk⟩ : ∃ k, fuN ((f : Int) + (g : Int)) = fuN (f : Int) + k := ⟨fuN ((f : Int) + (g : Int)) - fuN (f : Int), by unfold fuN; omega⟩
    rw [e, e, hk]
    refine ⟨?_, fun h => ?_, fun h => ?_⟩
    · rw [outP_st]
      omega
    · by_cases hz : (goP (tpP x m) (fuN (f : Int)) mc0).2 = 0
      · exact absurd (by unfold outP; rw [if_neg (fun h => h hz)]) h
      · unfold outP
        rw [if_pos hz]
        exact ⟨rfl, rfl⟩
    · have h2 : (goP (tpP x m) (fuN (f : Int)) mc0).2 ≠ 2 := fun hz => h (by unfold outP; rw [if_pos (by rw [hz]; decide)]; exact hz)
      rw [goP_more _ _ k _ h2]
end Go.Proofs.YtldapckooohigaaDoor

/- EvalEnds' walk. -/
namespace Go.Proofs.YtldapckooohigaaDoor
open Go.RowKit
set_option maxRecDepth 100000

/-- Run, its answer in words of what is seen. -/
theorem run_sees {w : World} (hT : Tab w) (x : Tx) {cv av rv wv mv : Value} (hx : SeesX w x cv av rv wv) {m : List Pr} (hm : SeesL pC 3 w mv m) (hok : ∀ p ∈ m, OkK p.1) (hll : m.length ≤ 5864062014805) (fu : Int) {o : Out} (ho : runP x m fu = o) :
    Calls Tryd.prog 23 #[.agg #[.int .i64 x.s, .int .i64 x.r, cv, av, rv, wv], mv, .int .i64 fu] w fun e w' => ∃ a1 c1 a2 c2, e = .returned (.agg #[.int .i64 o.en, .slice a1 o.vs.length c1, .slice a2 o.cs.length c2, .int .i64 o.st]) ∧ SeesL nC 1 w' (.slice a1 o.vs.length c1) o.vs ∧ SeesL chC 4 w' (.slice a2 o.cs.length c2) o.cs ∧ Below w.heap.size w w' := by
  subst ho
  refine (run_any hT x hx hm hok hll fu).mono fun e w' ⟨vv, hv, q1, q2, q3, q4⟩ => ?_
  obtain ⟨a1, c1, rfl⟩ := own_shape q2
  obtain ⟨a2, c2, rfl⟩ := own_shape q3
  exact ⟨a1, c1, a2, c2, q1, (own_sees nC_len (by decide) q2).2, (own_sees chC_len (by decide) q3).2, q4⟩
theorem box4 {z z' : World} {v0 v1 v2 v3 : Value} (hb : Below (z.alloc (.cells #[v0, v1, v2, v3] 51)).heap.size (z.alloc (.cells #[v0, v1, v2, v3] 51)) z') : z'.cell? ⟨z.heap.size, 0, none⟩ = some v0 ∧ z'.cell? ⟨z.heap.size, 1, none⟩ = some v1 ∧ z'.cell? ⟨z.heap.size, 2, none⟩ = some v2 ∧ z'.cell? ⟨z.heap.size, 3, none⟩ = some v3 := by
  have h := (hb.block _ (by simp)).trans (heap_alloc_new z (.cells #[v0, v1, v2, v3] 51))
  exact ⟨cell_at h, cell_at h, cell_at h, cell_at h⟩
set_option maxHeartbeats 1600000 in
theorem evalEnds_walk {w : World} (hT : Tab w) (x : Tx) {cv av rv wv mv : Value} (hx : SeesX w x cv av rv wv) {m : List Pr} (hm : SeesL pC 3 w mv m) (hok : ∀ p ∈ m, OkK p.1) (hll : m.length ≤ 5864062014805) (f g : Nat) (hf : f ≤ 65535) (hg : g ≤ 65535) :
    Calls Tryd.prog 6 #[.agg #[.int .i64 x.s, .int .i64 x.r, cv, av, rv, wv], mv, .int .u16 (f : Int), .int .u16 (g : Int)] w fun e w' => e = .returned (.bool true) ∧ Below w.heap.size w w' := by
  obtain ⟨w1, hw1⟩ : ∃ y, w.alloc (.cells #[.int .i64 x.s, .int .i64 x.r, cv, av, rv, wv] 35) = y := ⟨_, rfl⟩
  have hb1 : Below w.heap.size w w1 := hw1 ▸ below_box _
  have hx1 : w1.heap[w.heap.size]? = some (.cells #[.int .i64 x.s, .int .i64 x.r, cv, av, rv, wv] 35) := hw1 ▸ heap_alloc_new w _
  have hz1 : w1.heap.size = w.heap.size + 1 := by rw [← hw1]; simp
  have HC : Hid (∀ z, Below w1.heap.size w1 z → z.cell? ⟨w.heap.size, 0, none⟩ = some (.int .i64 x.s) ∧ z.cell? ⟨w.heap.size, 1, none⟩ = some (.int .i64 x.r) ∧ z.cell? ⟨w.heap.size, 2, none⟩ = some cv ∧ z.cell? ⟨w.heap.size, 3, none⟩ = some av ∧ z.cell? ⟨w.heap.size, 4, none⟩ = some rv ∧ z.cell? ⟨w.heap.size, 5, none⟩ = some wv) := fun z hz => by
    have hxz : z.heap[w.heap.size]? = some (.cells #[.int .i64 x.s, .int .i64 x.r, cv, av, rv, wv] 35) := (hz.block _ (by omega)).trans hx1
    exact ⟨cell_at hxz, cell_at hxz, cell_at hxz, cell_at hxz, cell_at hxz, cell_at hxz⟩
  obtain ⟨c0, c1, c2, c3, c4, c5⟩ := unhide HC w1 (Below.refl _ _)
  obtain ⟨⟨hs0, hs1⟩, hen, hmore⟩ := run_ends x m f g
  obtain ⟨F, hF⟩ : ∃ F : Int, (f : Int) = F := ⟨_, rfl⟩
  obtain ⟨G, hG⟩ : ∃ G : Int, (g : Int) = G := ⟨_, rfl⟩
  have hF0 : 0 ≤ F := by omega
  have hF1 : F ≤ 65535 := by omega
  have hG0 : 0 ≤ G := by omega
  have hG1 : G ≤ 65535 := by omega
  rw [hF] at hs1 hen
  rw [hF, hG] at hmore
  rw [hF] at hs0
  rw [hF, hG]
  clear hF hG hf hg
  obtain ⟨S, hS⟩ : ∃ S : Int, F + G = S := ⟨_, rfl⟩
  rw [hS] at hmore
  obtain ⟨o, ho⟩ : ∃ o, runP x m F = o := ⟨_, rfl⟩
  obtain ⟨o2, ho2⟩ : ∃ o, runP x m S = o := ⟨_, rfl⟩
  rw [ho] at hs0 hs1 hen hmore
  rw [ho2] at hmore
  have HR1 : Hid (∀ z, Below w1.heap.size w1 z → _) := fun z hz => run_sees (hT.below (hb1.trans (hz.mono hb1.size)) hT.pos) x (hx.below (hb1.trans (hz.mono hb1.size))) (hm.below pC_len (hb1.trans (hz.mono hb1.size))) hok hll F ho
  have HR2 : Hid (∀ z, Below w1.heap.size w1 z → _) := fun z hz => run_sees (hT.below (hb1.trans (hz.mono hb1.size)) hT.pos) x (hx.below (hb1.trans (hz.mono hb1.size))) (hm.below pC_len (hb1.trans (hz.mono hb1.size))) hok hll S ho2
  have HBG : Hid (∀ z, Below w1.heap.size w1 z → Calls Tryd.prog 10 #[] z fun e w' => e = .returned (.bool true) ∧ Below z.heap.size z w') := fun z hz => begun_any (hT.below (hb1.trans (hz.mono hb1.size)) hT.pos)
  have k0 : ¬ (o.st < 0) := by omega
  have k1 : ¬ (o.st > min F 4096) := by omega
  have k2 : wrap64 (F + G) = S := by unfold wrap64; omega
  have k3 : wrap64 F = F := by unfold wrap64; omega
  have k4 : wrap64 G = G := by unfold wrap64; omega
  clear hF0 hF1 hG0 hG1 hS
  have HW := hide hw1
  have HB1 := hide hb1
  clear hw1 hb1 hx1 hz1 hs0 hs1 hx hm hok hll hT ho ho2
  by_cases he : o.en = 0
  · have e2 : o2 = o := hmore (by rw [he]; decide)
    subst e2
    have g0 : (o2.en != 0) = false := by simpa using he
    have g2 : (o2.en == 2) = false := by rw [he]; decide
    obtain ⟨oe, ov, oc, os⟩ := o2
    simp only at g0 g2 k0 k1
    obtain ⟨nv, hnv⟩ : ∃ n, ov.length = n := ⟨_, rfl⟩
    obtain ⟨nc, hnc⟩ : ∃ n, oc.length = n := ⟨_, rfl⟩
    simp only [hnv, hnc] at HR1 HR2
    have hgt : decide (os > min F 4096) = false := decide_eq_false k1
    have hlt : decide (os < 0) = false := decide_eq_false k0
    have HSM : Hid (∀ (z1 z2 z3 : World) (p1 : Option Addr) (q1 : Nat) (p2 : Option Addr) (q2 : Nat) (p3 : Option Addr) (q3 : Nat) (p4 : Option Addr) (q4 : Nat), SeesL nC 1 z1 (.slice p1 nv q1) ov → SeesL chC 4 z1 (.slice p2 nc q2) oc → SeesL nC 1 z2 (.slice p3 nv q3) ov → SeesL chC 4 z2 (.slice p4 nc q4) oc → Below w1.heap.size w1 (z1.alloc (.cells #[.int .i64 oe, .slice p1 nv q1, .slice p2 nc q2, .int .i64 os] 51)) → Below (z1.alloc (.cells #[.int .i64 oe, .slice p1 nv q1, .slice p2 nc q2, .int .i64 os] 51)).heap.size (z1.alloc (.cells #[.int .i64 oe, .slice p1 nv q1, .slice p2 nc q2, .int .i64 os] 51)) z2 → Below z2.heap.size z2 z3 → Calls Tryd.prog 22 #[.agg #[.int .i64 oe, .slice p1 nv q1, .slice p2 nc q2, .int .i64 os], .agg #[.int .i64 oe, .slice p3 nv q3, .slice p4 nc q4, .int .i64 os]] z3 fun e w' => e = .returned (.bool true) ∧ Below z3.heap.size z3 w') := fun z1 z2 z3 p1 q1 p2 q2 p3 q3 p4 q4 h1 h2 h3 h4 hb1 hb2 hb3 => by
      have k12 : Below z1.heap.size z1 z2 := (below_box _).trans (hb2.mono (by simp))
      have k13 := k12.trans (hb3.mono k12.size)
      have := rsame_any (a := (⟨oe, ov, oc, os⟩ : Out)) (b := (⟨oe, ov, oc, os⟩ : Out)) (h1.below nC_len k13) (h2.below chC_len k13) (h3.below nC_len hb3) (h4.below chC_len hb3)
      rw [sO_self] at this
      exact this
    clear hen hmore he hnv hnc k0 k1
    go_enter Tryd.func6, Tryd.ntmps6
    go_wp2_with (first | (rw [unhide HW]) | (go_at_call 23; have HQ := unhide HR1 w1 (Below.refl _ _); refine Calls.mono HQ ?_; clear HQ HR1; rintro e z1 ⟨p1, q1, p2, q2, rfl, s1, s2, hz⟩; have HBB1 : Hid (Below w1.heap.size w1 (z1.alloc (.cells #[.int .i64 oe, .slice p1 nv q1, .slice p2 nc q2, .int .i64 os] 51))) := hz.alloc hz.size _; obtain ⟨d0, d1, d2, d3, d4, d5⟩ := unhide HC (z1.alloc (.cells #[.int .i64 oe, .slice p1 nv q1, .slice p2 nc q2, .int .i64 os] 51)) (unhide HBB1); have HS1 := hide s1; have HS2 := hide s2; clear s1 s2 hz) | (go_at_call 23; have HQ := unhide HR2 (z1.alloc (.cells #[.int .i64 oe, .slice p1 nv q1, .slice p2 nc q2, .int .i64 os] 51)) (unhide HBB1); refine Calls.mono HQ ?_; clear HQ HR2; rintro e z2 ⟨p3, q3, p4, q4, rfl, s1, s2, hz⟩; have HB2 := hide hz; have HS3 := hide s1; have HS4 := hide s2; clear s1 s2 hz) | (go_at_call 10; have HQ := unhide HBG (z2.alloc (.cells #[.int .i64 oe, .slice p3 nv q3, .slice p4 nc q4, .int .i64 os] 51)) (((unhide HBB1).trans ((unhide HB2).mono (unhide HBB1).size)).alloc (by have h1 := (unhide HBB1).size; have h2 := (unhide HB2).size; omega) _); refine Calls.mono HQ ?_; clear HQ; rintro e z3 ⟨rfl, hz⟩; have hbA : Below z2.heap.size z2 z3 := (below_box _).trans (hz.mono (by simp)); have HBA := hide hbA; obtain ⟨y0, y1, y2, y3⟩ := box4 hz; obtain ⟨x0, x1, x2, x3⟩ := box4 ((unhide HB2).trans (hbA.mono (unhide HB2).size)); clear hz hbA) | (go_at_call 22; have HQ := unhide HSM z1 z2 z3 p1 q1 p2 q2 p3 q3 p4 q4 (unhide HS1) (unhide HS2) (unhide HS3) (unhide HS4) (unhide HBB1) (unhide HB2) (unhide HBA); refine Calls.mono HQ ?_; clear HQ; rintro e z4 ⟨rfl, hz⟩; have HB4 := hide hz; clear hz))
    go_ret
    have h1 := unhide HB1
    have h2 := h1.trans ((unhide HBB1).mono h1.size)
    have h3 := h2.trans ((unhide HB2).mono h2.size)
    have h4 := h3.trans ((unhide HBA).mono h3.size)
    exact ⟨rfl, h4.trans ((unhide HB4).mono h4.size)⟩
  · by_cases he2 : o.en = 2
    · have g0 : (o.en != 0) = true := by simpa using he
      have g2 : (o.en == 2) = true := by rw [he2]; decide
      have el := hen he
      obtain ⟨oe, ov, oc, os⟩ := o
      obtain ⟨oe2, ov2, oc2, os2⟩ := o2
      simp only at g0 g2 k0 k1 el
      obtain ⟨rfl, rfl⟩ := el
      simp only [List.length_nil] at HR1
      obtain ⟨nv, hnv⟩ : ∃ n, ov2.length = n := ⟨_, rfl⟩
      obtain ⟨nc, hnc⟩ : ∃ n, oc2.length = n := ⟨_, rfl⟩
      simp only [hnv, hnc] at HR2
      have hgt : decide (os > min F 4096) = false := decide_eq_false k1
      have hlt : decide (os < 0) = false := decide_eq_false k0
      clear hen hmore he he2 hnv hnc k0 k1
      go_enter Tryd.func6, Tryd.ntmps6
      go_wp2_with (first | (rw [unhide HW]) | (go_at_call 23; have HQ := unhide HR1 w1 (Below.refl _ _); refine Calls.mono HQ ?_; clear HQ HR1; rintro e z1 ⟨p1, q1, p2, q2, rfl, s1, s2, hz⟩; have HBB1 : Hid (Below w1.heap.size w1 (z1.alloc (.cells #[.int .i64 oe, .slice p1 0 q1, .slice p2 0 q2, .int .i64 os] 51))) := hz.alloc hz.size _; obtain ⟨d0, d1, d2, d3, d4, d5⟩ := unhide HC (z1.alloc (.cells #[.int .i64 oe, .slice p1 0 q1, .slice p2 0 q2, .int .i64 os] 51)) (unhide HBB1); have HS1 := hide s1; have HS2 := hide s2; clear s1 s2 hz) | (go_at_call 23; have HQ := unhide HR2 (z1.alloc (.cells #[.int .i64 oe, .slice p1 0 q1, .slice p2 0 q2, .int .i64 os] 51)) (unhide HBB1); refine Calls.mono HQ ?_; clear HQ HR2; rintro e z2 ⟨p3, q3, p4, q4, rfl, s1, s2, hz⟩; have HB2 := hide hz; have HS3 := hide s1; have HS4 := hide s2; clear s1 s2 hz) | (go_at_call 10; have HQ := unhide HBG (z2.alloc (.cells #[.int .i64 oe2, .slice p3 nv q3, .slice p4 nc q4, .int .i64 os2] 51)) (((unhide HBB1).trans ((unhide HB2).mono (unhide HBB1).size)).alloc (by have h1 := (unhide HBB1).size; have h2 := (unhide HB2).size; omega) _); refine Calls.mono HQ ?_; clear HQ; rintro e z3 ⟨rfl, hz⟩; have hbA : Below z2.heap.size z2 z3 := (below_box _).trans (hz.mono (by simp)); have HBA := hide hbA; obtain ⟨y0, y1, y2, y3⟩ := box4 hz; obtain ⟨x0, x1, x2, x3⟩ := box4 ((unhide HB2).trans (hbA.mono (unhide HB2).size)); clear hz hbA))
      go_ret
      have h1 := unhide HB1
      have h2 := h1.trans ((unhide HBB1).mono h1.size)
      have h3 := h2.trans ((unhide HB2).mono h2.size)
      have h4 := h3.trans ((unhide HBA).mono h3.size)
      exact ⟨rfl, h4⟩
    · have e2 : o2 = o := hmore he2
      subst e2
      have g0 : (o2.en != 0) = true := by simpa using he
      have g2 : (o2.en == 2) = false := by simpa using he2
      have el := hen he
      obtain ⟨oe, ov, oc, os⟩ := o2
      simp only at g0 g2 k0 k1 el
      obtain ⟨rfl, rfl⟩ := el
      simp only [List.length_nil] at HR1 HR2
      have hgt : decide (os > min F 4096) = false := decide_eq_false k1
      have hlt : decide (os < 0) = false := decide_eq_false k0
      have HSM : Hid (∀ (z1 z2 z3 : World) (p1 : Option Addr) (q1 : Nat) (p2 : Option Addr) (q2 : Nat) (p3 : Option Addr) (q3 : Nat) (p4 : Option Addr) (q4 : Nat), SeesL nC 1 z1 (.slice p1 0 q1) [] → SeesL chC 4 z1 (.slice p2 0 q2) [] → SeesL nC 1 z2 (.slice p3 0 q3) [] → SeesL chC 4 z2 (.slice p4 0 q4) [] → Below w1.heap.size w1 (z1.alloc (.cells #[.int .i64 oe, .slice p1 0 q1, .slice p2 0 q2, .int .i64 os] 51)) → Below (z1.alloc (.cells #[.int .i64 oe, .slice p1 0 q1, .slice p2 0 q2, .int .i64 os] 51)).heap.size (z1.alloc (.cells #[.int .i64 oe, .slice p1 0 q1, .slice p2 0 q2, .int .i64 os] 51)) z2 → Below z2.heap.size z2 z3 → Calls Tryd.prog 22 #[.agg #[.int .i64 oe, .slice p1 0 q1, .slice p2 0 q2, .int .i64 os], .agg #[.int .i64 oe, .slice p3 0 q3, .slice p4 0 q4, .int .i64 os]] z3 fun e w' => e = .returned (.bool true) ∧ Below z3.heap.size z3 w') := fun z1 z2 z3 p1 q1 p2 q2 p3 q3 p4 q4 h1 h2 h3 h4 hb1 hb2 hb3 => by
        have k12 : Below z1.heap.size z1 z2 := (below_box _).trans (hb2.mono (by simp))
        have k13 := k12.trans (hb3.mono k12.size)
        have := rsame_any (a := (⟨oe, [], [], os⟩ : Out)) (b := (⟨oe, [], [], os⟩ : Out)) (h1.below nC_len k13) (h2.below chC_len k13) (h3.below nC_len hb3) (h4.below chC_len hb3)
        rw [sO_self] at this
        exact this
      clear hen hmore he he2 k0 k1
      go_enter Tryd.func6, Tryd.ntmps6
      go_wp2_with (first | (rw [unhide HW]) | (go_at_call 23; have HQ := unhide HR1 w1 (Below.refl _ _); refine Calls.mono HQ ?_; clear HQ HR1; rintro e z1 ⟨p1, q1, p2, q2, rfl, s1, s2, hz⟩; have HBB1 : Hid (Below w1.heap.size w1 (z1.alloc (.cells #[.int .i64 oe, .slice p1 0 q1, .slice p2 0 q2, .int .i64 os] 51))) := hz.alloc hz.size _; obtain ⟨d0, d1, d2, d3, d4, d5⟩ := unhide HC (z1.alloc (.cells #[.int .i64 oe, .slice p1 0 q1, .slice p2 0 q2, .int .i64 os] 51)) (unhide HBB1); have HS1 := hide s1; have HS2 := hide s2; clear s1 s2 hz) | (go_at_call 23; have HQ := unhide HR2 (z1.alloc (.cells #[.int .i64 oe, .slice p1 0 q1, .slice p2 0 q2, .int .i64 os] 51)) (unhide HBB1); refine Calls.mono HQ ?_; clear HQ HR2; rintro e z2 ⟨p3, q3, p4, q4, rfl, s1, s2, hz⟩; have HB2 := hide hz; have HS3 := hide s1; have HS4 := hide s2; clear s1 s2 hz) | (go_at_call 10; have HQ := unhide HBG (z2.alloc (.cells #[.int .i64 oe, .slice p3 0 q3, .slice p4 0 q4, .int .i64 os] 51)) (((unhide HBB1).trans ((unhide HB2).mono (unhide HBB1).size)).alloc (by have h1 := (unhide HBB1).size; have h2 := (unhide HB2).size; omega) _); refine Calls.mono HQ ?_; clear HQ; rintro e z3 ⟨rfl, hz⟩; have hbA : Below z2.heap.size z2 z3 := (below_box _).trans (hz.mono (by simp)); have HBA := hide hbA; obtain ⟨y0, y1, y2, y3⟩ := box4 hz; obtain ⟨x0, x1, x2, x3⟩ := box4 ((unhide HB2).trans (hbA.mono (unhide HB2).size)); clear hz hbA) | (go_at_call 22; have HQ := unhide HSM z1 z2 z3 p1 q1 p2 q2 p3 q3 p4 q4 (unhide HS1) (unhide HS2) (unhide HS3) (unhide HS4) (unhide HBB1) (unhide HB2) (unhide HBA); refine Calls.mono HQ ?_; clear HQ; rintro e z4 ⟨rfl, hz⟩; have HB4 := hide hz; clear hz))
      go_ret
      have h1 := unhide HB1
      have h2 := h1.trans ((unhide HBB1).mono h1.size)
      have h3 := h2.trans ((unhide HB2).mono h2.size)
      have h4 := h3.trans ((unhide HBA).mono h3.size)
      exact ⟨rfl, h4.trans ((unhide HB4).mono h4.size)⟩
end Go.Proofs.YtldapckooohigaaDoor
