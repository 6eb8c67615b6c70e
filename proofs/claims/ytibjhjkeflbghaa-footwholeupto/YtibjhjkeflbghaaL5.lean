/- What those raise who come with such locks, on a level. -/
import Derived.Test.YtibjhjkeflbghaaL4
namespace Go.Proofs.Ytibjhjkeflbghaa
open Go.RowKit
set_option maxRecDepth 100000

theorem setCell_far {w : World} {g i h : Nat} {v : Value} (hn : h ≠ g) : (w.setCell ⟨g, i, none⟩ v).heap[h]? = w.heap[h]? := by
  unfold World.setCell
  simp only [Array.getElem?_modify]
  rw [if_neg (fun e => hn e.symm)]
theorem raise1_eq (g : Lst) (lv : Int) (k : Ky) (d : Bool) {ps pa : Int} (hp : g k = (ps, pa)) : raise1 g lv (k, d) = fun x => if x = k then (if d then lv else ps, max pa lv) else g x := funext fun x => by
  unfold raise1
  simp only
  by_cases h : x = k
  · rw [if_pos h, if_pos h, h, hp]
  · rw [if_neg h, if_neg h]

set_option maxHeartbeats 1600000 in
theorem raise_any {v : Value} {l : List Lk} {mb : Nat} {g : Lst} {w : World} (lv : Int) (hs : SeesL lC 3 w v l) (hok : ∀ x ∈ l, OkK x.1) (hm : MapL w mb g) (hl : l.length ≤ 4398046511104) :
    Calls Try.prog 49 #[.map (some mb), v, .int .i64 lv] w fun e w' => e = .returned (.tuple #[]) ∧ MapL w' mb (raiseP g lv l) ∧ But mb w w' := by
  have hfs : ∃ f, MapS w mb f := by obtain ⟨f, h1, _⟩ := hm; exact ⟨f, h1⟩
  have HS : Hid (∀ w', But mb w w' → SeesL lC 3 w' v l) := fun w' hb => by
    obtain ⟨f, h1⟩ := hfs
    exact hs.keep lC_len (hb.cell h1)
  have HOK := hide hok
  obtain ⟨ao, cap, hv⟩ := hs.shape
  obtain ⟨n, hn⟩ : ∃ n, l.length = n := ⟨_, rfl⟩
  rw [hn] at hv
  have HN := hide hn
  have HM := hide hm
  rw [hn] at hl
  subst hv
  clear hs hm hok hn hfs
  go_enter Try.func49, Try.ntmps49
  go_wp2
  go_loopw [11] (fun c wr => ∃ t : Nat, t ≤ n ∧ c = .int .i64 t ∧ MapL wr mb (raiseP g lv (l.take t)) ∧ But mb w wr) (fun c _ => n - (intOf c).toNat)
  case atStart => exact ⟨0, by omega, rfl, by simpa [raiseP] using unhide HM, But.refl _ _⟩
  case round =>
    obtain ⟨t, ht, rfl, hml, hbr⟩ := hrel
    have HB := hide hbr
    have HML := hide hml
    by_cases hlt : t < n
    · have hnl := unhide HN
      have htl : t < l.length := by omega
      obtain ⟨gb, ob, hao, g1, g2, g3⟩ := lock_cells (unhide HS wr hbr) rfl htl
      subst hao
      obtain ⟨⟨⟨a, b⟩, d⟩, hx⟩ : ∃ k, l.getD t default = k := ⟨_, rfl⟩
      have hx' : l[t] = ((a, b), d) := by rw [← hx]; simp [List.getD, htl]
      rw [hx] at g1 g2 g3
      have hokx : OkK (a, b) := by have := unhide HOK _ (List.getElem_mem htl); rw [hx'] at this; exact this
      obtain ⟨gg, hgg⟩ : ∃ x, raiseP g lv (l.take t) = x := ⟨_, rfl⟩
      have htk : raiseP g lv (l.take (t + 1)) = raise1 gg lv ((a, b), d) := by rw [List.take_succ_eq_append_getElem htl, hx', raiseP_snoc, hgg]
      rw [hgg] at hml
      obtain ⟨⟨ps, pa⟩, hp⟩ : ∃ x, gg (a, b) = x := ⟨_, rfl⟩
      rw [raise1_eq gg lv (a, b) d hp] at htk
      have HTK := hide htk
      obtain ⟨y1, hy1⟩ : ∃ y, wr.alloc (.cells #[.int .i32 a, .int .i64 b, .bool d] 39) = y := ⟨_, rfl⟩
      obtain ⟨y2, hy2⟩ : ∃ y, y1.alloc (.cells #[.int .i64 ps, .int .i64 pa] 105) = y := ⟨_, rfl⟩
      have b1 : Below wr.heap.size wr y1 := hy1 ▸ below_box _
      have z1 : y1.heap.size = wr.heap.size + 1 := by rw [← hy1]; simp
      have b2 : Below wr.heap.size wr y2 := hy2 ▸ b1.alloc b1.size _
      have x1 : y1.heap[wr.heap.size]? = some (.cells #[.int .i32 a, .int .i64 b, .bool d] 39) := by rw [← hy1]; exact heap_alloc_new wr _
      have x2 : y2.heap[wr.heap.size]? = some (.cells #[.int .i32 a, .int .i64 b, .bool d] 39) := by rw [← hy2]; exact (Below.heap_alloc y1 _ _ (by omega)).trans x1
      have u2 : y2.heap[y1.heap.size]? = some (.cells #[.int .i64 ps, .int .i64 pa] 105) := by rw [← hy2]; exact heap_alloc_new y1 _
      have hL := (hml.below b1).look a b hokx
      rw [hp] at hL
      obtain ⟨M, hM⟩ : ∃ m, max pa lv = m := ⟨_, rfl⟩
      obtain ⟨y3, hy3⟩ : ∃ y, y2.setCell ⟨y1.heap.size, 1, none⟩ (.int .i64 M) = y := ⟨_, rfl⟩
      have b3 : Below wr.heap.size wr y3 := hy3 ▸ b2.setCell b1.size _
      have x3 : y3.heap[wr.heap.size]? = some (.cells #[.int .i32 a, .int .i64 b, .bool d] 39) := by rw [← hy3, setCell_far (by omega)]; exact x2
      have u3 : y3.heap[y1.heap.size]? = some (.cells #[.int .i64 ps, .int .i64 M] 105) := by rw [← hy3, heap_setCell_same y2 _ _ _ _ _ u2]; rfl
      have p1 : y1.cell? ⟨wr.heap.size, 0, none⟩ = some (.int .i32 a) := cell_at x1
      have p2 : y1.cell? ⟨wr.heap.size, 1, none⟩ = some (.int .i64 b) := cell_at x1
      have p3 : y3.cell? ⟨wr.heap.size, 2, none⟩ = some (.bool d) := cell_at x3
      have q1 : y2.cell? ⟨y1.heap.size, 1, none⟩ = some (.int .i64 pa) := cell_at u2
      have q2 : y2.frozen? ⟨y1.heap.size, 1, none⟩ = false := frozen_of_heap u2
      cases d with
      | true =>
        obtain ⟨y4, hy4⟩ : ∃ y, y3.setCell ⟨y1.heap.size, 0, none⟩ (.int .i64 lv) = y := ⟨_, rfl⟩
        have b4 : Below wr.heap.size wr y4 := hy4 ▸ b3.setCell b1.size _
        have x4 : y4.heap[wr.heap.size]? = some (.cells #[.int .i32 a, .int .i64 b, .bool true] 39) := by rw [← hy4, setCell_far (by omega)]; exact x3
        have u4 : y4.heap[y1.heap.size]? = some (.cells #[.int .i64 lv, .int .i64 M] 105) := by rw [← hy4, heap_setCell_same y3 _ _ _ _ _ u3]; rfl
        have q3 : y3.frozen? ⟨y1.heap.size, 0, none⟩ = false := frozen_of_heap u3
        have q4 : y3.cell? ⟨y1.heap.size, 0, none⟩ = some (.int .i64 ps) := cell_at u3
        have r1 : y4.cell? ⟨wr.heap.size, 0, none⟩ = some (.int .i32 a) := cell_at x4
        have r2 : y4.cell? ⟨wr.heap.size, 1, none⟩ = some (.int .i64 b) := cell_at x4
        have r3 : y4.cell? ⟨y1.heap.size, 0, none⟩ = some (.int .i64 lv) := cell_at u4
        have r4 : y4.cell? ⟨y1.heap.size, 1, none⟩ = some (.int .i64 M) := cell_at u4
        obtain ⟨y5, r5, m5, o5, s5, t1, t2, t3⟩ := (hml.below b4).put a b hokx lv M
        have HF : Hid (MapL y5 mb (raiseP g lv (l.take (t + 1))) ∧ But mb w y5) := ⟨by rw [unhide HTK, hM]; exact m5, (hbr.below' b4).put o5 s5 t1 t2 t3⟩
        have HY1 := hide hy1
        clear hy1
        clear hnl hx hx' hokx htk htl hbr hml b1 b2 b3 b4 x1 x2 x3 x4 u2 u3 u4 z1 hp hgg m5 o5 s5 t1 t2 t3
        go_wp2_with (first | rw [unhide HY1] | rw [hy2] | rw [hM] | rw [hy3] | rw [hy4])
        go_roundw
        case rel => exact ⟨t + 1, by omega, by go_num, (unhide HF).1, (unhide HF).2⟩
        case measure => simp [intOf]; omega
      | false =>
        have r1 : y3.cell? ⟨wr.heap.size, 0, none⟩ = some (.int .i32 a) := cell_at x3
        have r2 : y3.cell? ⟨wr.heap.size, 1, none⟩ = some (.int .i64 b) := cell_at x3
        have r3 : y3.cell? ⟨y1.heap.size, 0, none⟩ = some (.int .i64 ps) := cell_at u3
        have r4 : y3.cell? ⟨y1.heap.size, 1, none⟩ = some (.int .i64 M) := cell_at u3
        obtain ⟨y5, r5, m5, o5, s5, t1, t2, t3⟩ := (hml.below b3).put a b hokx ps M
        have HF : Hid (MapL y5 mb (raiseP g lv (l.take (t + 1))) ∧ But mb w y5) := ⟨by rw [unhide HTK, hM]; exact m5, (hbr.below' b3).put o5 s5 t1 t2 t3⟩
        have HY1 := hide hy1
        clear hy1
        clear hnl hx hx' hokx htk htl hbr hml b1 b2 b3 x1 x2 x3 u2 u3 z1 hp hgg m5 o5 s5 t1 t2 t3
        go_wp2_with (first | rw [unhide HY1] | rw [hy2] | rw [hM] | rw [hy3])
        go_roundw
        case rel => exact ⟨t + 1, by omega, by go_num, (unhide HF).1, (unhide HF).2⟩
        case measure => simp [intOf]; omega
    · obtain rfl : t = n := by omega
      have hnl := unhide HN
      rw [List.take_of_length_le (by omega)] at hml
      have HF := hide hml
      clear hnl hml hbr
      go_wp2
      go_end0
      exact ⟨rfl, unhide HF, unhide HB⟩
end Go.Proofs.Ytibjhjkeflbghaa
