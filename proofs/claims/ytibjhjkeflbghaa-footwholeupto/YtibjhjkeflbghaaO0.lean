/- The locks of one partition: the program's At. -/
import Derived.Test.YtibjhjkeflbghaaL6
import Derived.Test.YtibjhjkeflbghaaA4
namespace Go.Proofs.Ytibjhjkeflbghaa
open Go.RowKit
set_option maxRecDepth 100000

/-- The locks that are a partition's. -/
def atP (p n : Int) (l : List Lk) : List Lk := l.filter fun x => decide (partF x.1 n = p)
theorem atP_snoc (p n : Int) (l : List Lk) (x : Lk) : atP p n (l ++ [x]) = if partF x.1 n = p then atP p n l ++ [x] else atP p n l := by
  unfold atP
  rw [List.filter_append]
  by_cases h : partF x.1 n = p <;> simp [h]
theorem atP_len (p n : Int) (l : List Lk) : (atP p n l).length ≤ l.length := List.length_filter_le _ _

set_option maxHeartbeats 3200000 in
theorem at_any {x : Tx} {w : World} (p n : Int) (hx : SeesX w x) (hsh : Short x) :
    Calls Try.prog 16 #[xV x, .int .i64 p, .int .i64 n] w fun e w' => ∃ r, e = .returned r ∧ w'.ownsRow w.heap.size 39 3 r (atP p n (lkX x)).length ((atP p n (lkX x)).flatMap lC) ∧ Below w.heap.size w w' := by
  obtain ⟨⟨ac, nc, cc, hc⟩, ⟨aa, na, ca, ha⟩⟩ := And.intro hx.shc hx.sha
  obtain ⟨ar, cr, hr⟩ := hx.rs.shape
  obtain ⟨aw, cw, hw⟩ := hx.ws.shape
  obtain ⟨nr, hnr⟩ : ∃ z, x.rs.length = z := ⟨_, rfl⟩
  obtain ⟨nw, hnw⟩ : ∃ z, x.ws.length = z := ⟨_, rfl⟩
  obtain ⟨s, hs⟩ : ∃ z, x.s = z := ⟨_, rfl⟩
  obtain ⟨r, hrr⟩ : ∃ z, x.r = z := ⟨_, rfl⟩
  rw [hnr] at hr
  rw [hnw] at hw
  have hxV : xV x = .agg #[.int .i64 s, .int .i64 r, .slice ac nc cc, .slice aa na ca, .slice ar nr cr, .slice aw nw cw] := by unfold xV; rw [hc, ha, hr, hw, hs, hrr]
  obtain ⟨Y, hY⟩ : ∃ y, w.alloc (.cells #[.int .i64 s, .int .i64 r, .slice ac nc cc, .slice aa na ca, .slice ar nr cr, .slice aw nw cw] 26) = y := ⟨_, rfl⟩
  have bY : Below w.heap.size w Y := hY ▸ below_box _
  have xY : Y.heap[w.heap.size]? = some (.cells #[.int .i64 s, .int .i64 r, .slice ac nc cc, .slice aa na ca, .slice ar nr cr, .slice aw nw cw] 26) := hY ▸ heap_alloc_new w _
  have q0 : Y.cell? ⟨w.heap.size, 0, none⟩ = _ := cell_at xY
  have q1 : Y.cell? ⟨w.heap.size, 1, none⟩ = _ := cell_at xY
  have q2 : Y.cell? ⟨w.heap.size, 2, none⟩ = _ := cell_at xY
  have q3 : Y.cell? ⟨w.heap.size, 3, none⟩ = _ := cell_at xY
  have q4 : Y.cell? ⟨w.heap.size, 4, none⟩ = _ := cell_at xY
  have q5 : Y.cell? ⟨w.heap.size, 5, none⟩ = _ := cell_at xY
  have h14 := lkX_any (hx.below bY) hsh
  have hok := lkX_ok hx
  have hll := lkX_len hsh
  obtain ⟨L, hL⟩ : ∃ L, lkX x = L := ⟨_, rfl⟩
  obtain ⟨m, hm⟩ : ∃ m, L.length = m := ⟨_, rfl⟩
  rw [hL] at hok hll h14 ⊢
  rw [hm] at hll h14
  rw [hxV] at h14 ⊢
  have H14 := hide h14
  have HOK := hide hok
  have HM := hide hm
  have HBY := hide bY
  have HY := hide hY
  clear hx hsh hc ha hr hw hnr hnw hs hrr hxV bY xY h14 hok hL hm hY
  simp only [List.getElem?_toArray, List.getElem?_cons_zero, List.getElem?_cons_succ] at q0 q1 q2 q3 q4 q5
  go_enter Try.func16, Try.ntmps16
  go_wp2_with (first | rw [unhide HY] | (go_at_call 14; refine (unhide H14).mono ?_; rintro e w1 ⟨v1, rfl, ho1, hb1⟩; have HO1 := hide ho1; have HB1 := hide hb1; obtain ⟨a1, k1, e1⟩ := own_shape ho1; subst e1; clear ho1 hb1 H14))
  have HSL : Hid (∀ z, Below w1.heap.size w1 z → SeesL lC 3 z (.slice a1 m k1) L) := fun z hz => (own_sees lC_len (by decide) (unhide HO1)).2.below lC_len hz
  have HBW : Hid (Below w.heap.size w w1) := (unhide HBY).trans ((unhide HB1).mono (unhide HBY).size)
  clear q0 q1 q2 q3 q4 q5
  go_loopw [7, 13] (fun o c wr => ∃ t k : Nat, t ≤ m ∧ c = .int .i64 t ∧ wr.ownsRow w1.heap.size 39 3 o k ((atP p n (L.take t)).flatMap lC) ∧ Below w1.heap.size w1 wr) (fun _ c _ => m - (intOf c).toNat)
  case atStart => exact ⟨0, 0, by omega, rfl, own_nil _ _ _ _, Below.refl _ _⟩
  case round =>
    obtain ⟨t, k, ht, rfl, hor, hbr⟩ := hrel
    have hk : k = (atP p n (L.take t)).length := (own_sees lC_len (by decide) hor).1
    obtain ⟨av, cv, hov⟩ := own_shape hor
    by_cases hlt : t < m
    · have hml := unhide HM
      have htl : t < L.length := by omega
      obtain ⟨gb, ob, hao, g1, g2, g3⟩ := lock_cells (unhide HSL wr hbr) rfl htl
      subst hao
      obtain ⟨⟨⟨a, b⟩, d⟩, hx⟩ : ∃ k, L.getD t default = k := ⟨_, rfl⟩
      have hx' : L[t] = ((a, b), d) := by rw [← hx]; simp [List.getD, htl]
      rw [hx] at g1 g2 g3
      have htk : atP p n (L.take (t + 1)) = if partF (a, b) n = p then atP p n (L.take t) ++ [((a, b), d)] else atP p n (L.take t) := by rw [List.take_succ_eq_append_getElem htl, hx', atP_snoc]
      have hle : (atP p n (L.take t)).length ≤ t := Nat.le_trans (atP_len _ _ _) (by simp; omega)
      obtain ⟨y1, hy1⟩ : ∃ y, wr.alloc (.cells #[.int .i32 a, .int .i64 b, .bool d] 39) = y := ⟨_, rfl⟩
      have b1 : Below wr.heap.size wr y1 := hy1 ▸ below_box _
      have x1 : y1.heap[wr.heap.size]? = some (.cells #[.int .i32 a, .int .i64 b, .bool d] 39) := by rw [← hy1]; exact heap_alloc_new wr _
      have d1 : y1.cell? ⟨wr.heap.size, 0, none⟩ = some (.int .i32 a) := cell_at x1
      have d2 : y1.cell? ⟨wr.heap.size, 1, none⟩ = some (.int .i64 b) := cell_at x1
      have HP := hide (part_any a b n y1)
      obtain ⟨P, hP⟩ : ∃ P, partF (a, b) n = P := ⟨_, rfl⟩
      rw [hP] at HP htk
      have HF : Hid (∀ z, Below y1.heap.size y1 z → (z.cell? ⟨wr.heap.size, 0, none⟩ = some (.int .i32 a) ∧ z.cell? ⟨wr.heap.size, 1, none⟩ = some (.int .i64 b) ∧ z.cell? ⟨wr.heap.size, 2, none⟩ = some (.bool d)) ∧ z.ownsRow w1.heap.size 39 3 u7 k ((atP p n (L.take t)).flatMap lC) ∧ Below w1.heap.size w1 z) := fun z hz => by
        have h := (hz.block _ (Array.getElem?_eq_some_iff.1 x1).1).trans x1
        have hb := b1.trans (hz.mono b1.size)
        exact ⟨⟨cell_at h, cell_at h, cell_at h⟩, own_below hor hb, hbr.trans (hb.mono hbr.size)⟩
      have HTK := hide htk
      have HY1 := hide hy1
      have HKL : Hid (k ≤ t) := hk ▸ hle
      subst hov
      clear hml htl hx hx' htk hle b1 x1 hP hk hy1 hor hbr
      by_cases hpp : P = p
      · have hE : (P == p) = true := by simpa using hpp
        rw [if_pos hpp] at HTK
        go_wp2_with (first | rw [unhide HY1] | (go_at_call 42; refine (unhide HP).mono ?_; rintro e w2 ⟨rfl, hg2⟩; have hb2 := hg2.below; obtain ⟨⟨c0, c1, c2⟩, ho2, hw2⟩ := (unhide HF) w2 hb2; obtain ⟨v', y5, r5, o5, g5⟩ := append_locks 35 (own_below (own_mono ho2 (Nat.le_refl _)) ((below_box (w := w2) (.cells #[.int .i32 a, .int .i64 b, .bool d] 39)).mono (Nat.le_refl _))) (sees_oneL w2 ((a, b), d)) (by simp only [List.length_cons, List.length_nil]; have := unhide HKL; omega) (Nat.le_trans hw2.size (by simp)); have hb5 : Below w1.heap.size w1 y5 := (hw2.trans ((below_box (w := w2) (.cells #[.int .i32 a, .int .i64 b, .bool d] 39)).mono hw2.size)).trans ((Below.refl _ _).grown g5 (Nat.le_trans hw2.size (by simp)) (own_block_le ho2)); obtain ⟨a5, k5, e5⟩ := own_shape o5; have HG := hide (And.intro o5 hb5); have e5' : v' = .slice a5 (k + 1) k5 := e5; subst e5'; have HR5 := hide r5; clear hg2 hb2 ho2 hw2 o5 g5 hb5 e5 r5) | (at_builtin; refine wpList_append_run rfl _ _ 35 35 rfl rfl rfl (unhide HR5) ?_))
        go_roundw
        case rel => exact ⟨t + 1, k + 1, by omega, by go_num, by rw [unhide HTK]; exact (unhide HG).1, (unhide HG).2⟩
        case measure => simp [intOf]; omega
      · have hE : (P == p) = false := by simpa using hpp
        rw [if_neg hpp] at HTK
        go_wp2_with (first | rw [unhide HY1] | (go_at_call 42; refine (unhide HP).mono ?_; rintro e w2 ⟨rfl, hg2⟩; have hb2 := hg2.below; have HG := hide ((unhide HF) w2 hb2).2; clear hg2 hb2))
        go_roundw
        case rel => exact ⟨t + 1, k, by omega, by go_num, by rw [unhide HTK]; exact (unhide HG).1, (unhide HG).2⟩
        case measure => simp [intOf]; omega
    · obtain rfl : t = m := by omega
      have hml := unhide HM
      rw [List.take_of_length_le (by omega)] at hor hk
      have HF := hide (And.intro (hk ▸ own_mono hor (unhide HBW).size : wr.ownsRow w.heap.size 39 3 u7 (atP p n L).length ((atP p n L).flatMap lC)) ((unhide HBW).trans (hbr.mono (unhide HBW).size)))
      subst hov
      clear hml hor hbr hk
      go_wp2
      go_ret
      exact ⟨_, rfl, (unhide HF).1, (unhide HF).2⟩
end Go.Proofs.Ytibjhjkeflbghaa
