/- Record: what a message writes: an entry, a flag, a termed entry, a part. -/
import Derived.Test.YtggllgimlfchhaaGreatGQ
import Derived.Test.YtggllgimlfchhaaGreatMB
import Derived.Test.YtggllgimlfchhaaGreatGU
namespace Go.Proofs.YtggllgimlfchhaaGreat
open Go.RowKit
set_option maxRecDepth 100000

theorem entryW_any {w : World} {B lo N : Nat} {xs : List Int} (h : Wr w B lo xs) (e : EntD) (tv : Value) (hN : N ≤ B) (hn : xs.length ≤ 4294967296) (hK : StTs N w tv e.txns) (hf : FitE e) (hm : mayE e = true) :
    Calls Tryz.prog 37 #[.agg #[.pointer (some ⟨B, 0, none⟩)], .agg #[.int .i64 e.kind, .int .i64 e.frm, .int .i64 e.num, tv]] w fun r w' => r = .returned (.tuple #[]) ∧ Wr w' B lo (xs ++ entB e) ∧ Wrote B lo w w' := by
  have hK' := hK
  obtain ⟨ao, cap, _, _, _, rfl, _⟩ := hK
  rcases mayE_kind hm with hk | hk
  · have e1 : entB e = putL [0] := by unfold entB; rw [if_neg (by rw [hk]; decide), hk, List.append_nil]
    rw [e1, hk]
    exact entry_zero (N := N) h e.frm e.num ao _ cap hN hn
  · have e1 : entB e = putL [1] ++ (putL [e.frm, e.num] ++ (putL [(e.txns.length : Int)] ++ txnsB e.txns)) := by unfold entB; rw [if_pos hk, hk]
    rw [e1, hk]
    obtain ⟨m1, m2⟩ := mayE_one hm hk
    exact entry_one (N := N) h e.frm e.num ao _ cap e.txns hN hn hK' hf.txns m2 m1 hf.frm hf.num

set_option maxHeartbeats 800000 in
theorem flag_any {w : World} {B lo : Nat} {xs : List Int} (h : Wr w B lo xs) (y : Bool) (hn : xs.length ≤ 4294967296) :
    Calls Tryz.prog 124 #[.pointer (some ⟨B, 0, none⟩), .bool y] w fun r w' => r = .returned (.tuple #[]) ∧ Wr w' B lo (xs ++ putL [if y then 1 else 0]) ∧ Wrote B lo w w' := by
  obtain ⟨n, hn1, hn2⟩ : ∃ n : Int, (if y then (1 : Int) else 0) = n ∧ (n = 0 ∨ n = 1) := by cases y <;> simp
  have hal : Below w.heap.size w (w.alloc (.cells #[.int .i64 n] 2)) := (Below.refl _ _).alloc (Nat.le_refl _) _
  have HN := hide (nums_any (h.below hal) _ [n] (sees_lit w [n] (by simp)) (by simp) (i64_of fun x hx => by simp at hx; omega) (by have : sizeL [n] ≤ 9 := sizeL_le [n]; omega))
  simp only [List.length_cons, List.length_nil, Nat.reduceAdd] at HN
  have HW : Hid (Wrote B lo w (w.alloc (.cells #[.int .i64 n] 2))) := Wrote.of hal
  rw [hn1]
  clear h hal hn2
  cases y with
  | false =>
    simp only [Bool.false_eq_true, if_false] at hn1
    subst hn1
    go_enter Tryz.func124, Tryz.ntmps124
    go_wp2_with fail
    refine (unhide HN).mono ?_
    rintro e y1 ⟨rfl, p1, r1⟩
    have HF := hide (And.intro p1 ((unhide HW).trans r1))
    clear p1 r1
    go_wp2_with fail
    go_end0
    exact ⟨rfl, unhide HF⟩
  | true =>
    simp only [if_true] at hn1
    subst hn1
    go_enter Tryz.func124, Tryz.ntmps124
    go_wp2_with fail
    refine (unhide HN).mono ?_
    rintro e y1 ⟨rfl, p1, r1⟩
    have HF := hide (And.intro p1 ((unhide HW).trans r1))
    clear p1 r1
    go_wp2_with fail
    go_end0
    exact ⟨rfl, unhide HF⟩
/-- What a termed entry is as bytes, and that its numbers are numbers. -/
def tmB (t : TmD) : List Int := putL [t.term] ++ entB t.ent
structure FitTm (t : TmD) : Prop where
  term : -9223372036854775808 ≤ t.term ∧ t.term ≤ 9223372036854775807
  ent : FitE t.ent

set_option maxHeartbeats 1600000 in
theorem termed_any {w : World} {B lo N : Nat} {xs : List Int} (h : Wr w B lo xs) (t : TmD) (tv : Value) (hN : N ≤ B) (hn : xs.length ≤ 2147483648) (hK : StTs N w tv t.ent.txns) (hf : FitTm t) (hm : mayE t.ent = true) :
    Calls Tryz.prog 126 #[.agg #[.pointer (some ⟨B, 0, none⟩)], .agg #[.int .i64 t.term, .int .i64 t.ent.kind, .int .i64 t.ent.frm, .int .i64 t.ent.num, tv]] w fun r w' => r = .returned (.tuple #[]) ∧ Wr w' B lo (xs ++ tmB t) ∧ Wrote B lo w w' := by
  have hlt := h.lt; have hle := h.le
  unfold tmB
  obtain ⟨E, hE⟩ : ∃ e, t.ent = e := ⟨_, rfl⟩
  obtain ⟨a, ha⟩ : ∃ e, t.term = e := ⟨_, rfl⟩
  have hft := hf.term
  have hfe := hf.ent
  rw [ha] at hft
  rw [hE] at hK hm hfe
  rw [hE, ha]
  clear hE ha hf
  have HK := hide hK
  have HFE := hide hfe
  have HME := hide hm
  obtain ⟨ta, tc, _, _, _, rfl, _⟩ := hK
  have HEN : Hid (∀ (x : World) (zs : List Int), Wr x B lo zs → Below N w x → zs.length ≤ 4294967296 → Calls Tryz.prog 37 #[.agg #[.pointer (some ⟨B, 0, none⟩)], .agg #[.int .i64 E.kind, .int .i64 E.frm, .int .i64 E.num, .slice ta E.txns.length tc]] x fun r w' => r = .returned (.tuple #[]) ∧ Wr w' B lo (zs ++ entB E) ∧ Wrote B lo x w') := fun x zs hx hb hz => entryW_any (N := N) hx E _ hN hz ((unhide HK).on hb) (unhide HFE) (unhide HME)
  obtain ⟨k, hk⟩ : ∃ e, E.kind = e := ⟨_, rfl⟩
  obtain ⟨f, hf⟩ : ∃ e, E.frm = e := ⟨_, rfl⟩
  obtain ⟨n, hnn⟩ : ∃ e, E.num = e := ⟨_, rfl⟩
  obtain ⟨tl, htl⟩ : ∃ e, E.txns.length = e := ⟨_, rfl⟩
  rw [hk, hf, hnn, htl] at HEN
  rw [hk, hf, hnn, htl]
  clear hk hf hnn htl hfe hm
  have hal : Below w.heap.size w ((w.alloc (.cells #[.pointer (some ⟨B, 0, none⟩)] 65)).alloc (.cells #[.int .i64 a, .int .i64 k, .int .i64 f, .int .i64 n, .slice ta tl tc] 140)) := ((Below.refl _ _).alloc (Nat.le_refl _) _).alloc (by simp) _
  have e0 : (w.alloc (.cells #[.pointer (some ⟨B, 0, none⟩)] 65)).heap.size = w.heap.size + 1 := by simp
  have b0 : ((w.alloc (.cells #[.pointer (some ⟨B, 0, none⟩)] 65)).alloc (.cells #[.int .i64 a, .int .i64 k, .int .i64 f, .int .i64 n, .slice ta tl tc] 140)).heap[w.heap.size]? = some (.cells #[.pointer (some ⟨B, 0, none⟩)] 65) := (Below.heap_alloc _ _ _ (by simp)).trans (heap_alloc_new w _)
  have b1 : ((w.alloc (.cells #[.pointer (some ⟨B, 0, none⟩)] 65)).alloc (.cells #[.int .i64 a, .int .i64 k, .int .i64 f, .int .i64 n, .slice ta tl tc] 140)).heap[w.heap.size + 1]? = some (.cells #[.int .i64 a, .int .i64 k, .int .i64 f, .int .i64 n, .slice ta tl tc] 140) := by have := heap_alloc_new (w.alloc (.cells #[.pointer (some ⟨B, 0, none⟩)] 65)) (.cells #[.int .i64 a, .int .i64 k, .int .i64 f, .int .i64 n, .slice ta tl tc] 140); rw [e0] at this; exact this
  have hsz : ((w.alloc (.cells #[.pointer (some ⟨B, 0, none⟩)] 65)).alloc (.cells #[.int .i64 a, .int .i64 k, .int .i64 f, .int .i64 n, .slice ta tl tc] 140)).heap.size = w.heap.size + 1 + 1 := by simp
  obtain ⟨w2, hw2⟩ : ∃ y, ((w.alloc (.cells #[.pointer (some ⟨B, 0, none⟩)] 65)).alloc (.cells #[.int .i64 a, .int .i64 k, .int .i64 f, .int .i64 n, .slice ta tl tc] 140)) = y := ⟨_, rfl⟩
  rw [hw2] at hal b0 b1 hsz
  have HBX : Hid (∀ x : World, Wrote B lo w2 x → x.heap[w.heap.size]? = some (.cells #[.pointer (some ⟨B, 0, none⟩)] 65) ∧ x.heap[w.heap.size + 1]? = some (.cells #[.int .i64 a, .int .i64 k, .int .i64 f, .int .i64 n, .slice ta tl tc] 140)) := fun x kx => ⟨kx.box b0 (by decide) (by omega), kx.box b1 (by decide) (by omega)⟩
  have c0 : w2.cell? ⟨w.heap.size, 0, none⟩ = some (.pointer (some ⟨B, 0, none⟩)) := cell_of_heap b0
  have c1 : w2.cell? ⟨w.heap.size + 1, 0, none⟩ = some (.int .i64 a) := cell_of_heap b1
  have hz : Below w2.heap.size w2 (w2.alloc (.cells #[.int .i64 a] 2)) := (Below.refl _ _).alloc (Nat.le_refl _) _
  have HN1 := hide (nums_any ((h.below hal).below hz) _ [a] (sees_lit w2 [a] (by simp)) (by simp) (i64_of fun x hx => by simp at hx; subst hx; exact hft) (by have : sizeL [a] ≤ 9 := sizeL_le [a]; omega))
  simp only [List.length_cons, List.length_nil, Nat.reduceAdd] at HN1
  have HW2 : Hid (Wrote B lo w w2) := Wrote.of hal
  have HX0 : Hid (Wrote B lo w2 (w2.alloc (.cells #[.int .i64 a] 2))) := Wrote.of hz
  have HWB : Hid (∀ x, Wrote B lo w x → Below N w x) := fun x k => k.below hN (by omega) (by omega)
  clear h hal hz b0 b1 hsz e0 hft hlt hle
  go_enter Tryz.func126, Tryz.ntmps126
  go_wp2_with (rw [hw2])
  refine (unhide HN1).mono ?_
  rintro e y1 ⟨rfl, p1, r1⟩
  have hX1 := (unhide HX0).trans r1
  obtain ⟨b0, b1⟩ := unhide HBX y1 hX1
  have d0 : y1.cell? ⟨w.heap.size, 0, none⟩ = some (.pointer (some ⟨B, 0, none⟩)) := cell_of_heap b0
  have d1 : y1.cell? ⟨w.heap.size + 1, 1, none⟩ = some (.int .i64 k) := cell_of_heap b1
  have d2 : y1.cell? ⟨w.heap.size + 1, 2, none⟩ = some (.int .i64 f) := cell_of_heap b1
  have d3 : y1.cell? ⟨w.heap.size + 1, 3, none⟩ = some (.int .i64 n) := cell_of_heap b1
  have d4 : y1.cell? ⟨w.heap.size + 1, 4, none⟩ = some (.slice ta tl tc) := cell_of_heap b1
  have HWy : Hid (Wrote B lo w y1) := (unhide HW2).trans hX1
  have HN2 := hide (unhide HEN y1 _ p1 (unhide HWB _ (unhide HWy)) (by
    have l1 := putL_le [a]
    simp only [List.length_append, List.length_cons, List.length_nil] at l1 ⊢
    omega))
  clear p1 r1 hX1 b0 b1 HN1
  go_wp2_with fail
  refine (unhide HN2).mono ?_
  rintro e y2 ⟨rfl, p2, r2⟩
  have HF : Hid (Wr y2 B lo (xs ++ (putL [a] ++ entB E)) ∧ Wrote B lo w y2) := ⟨by simpa only [List.append_assoc] using p2, (unhide HWy).trans r2⟩
  clear p2 r2
  go_wp2_with fail
  go_end0
  exact ⟨rfl, unhide HF⟩
/-- A part as bytes. -/
def ptB (p : PtD) : List Int := putL [p.slot, p.idx, p.many] ++ (putL [(p.data.length : Int)] ++ p.data)
structure FitP (p : PtD) : Prop where
  slot : -9223372036854775808 ≤ p.slot ∧ p.slot ≤ 9223372036854775807
  idx : -9223372036854775808 ≤ p.idx ∧ p.idx ≤ 9223372036854775807
  many : -9223372036854775808 ≤ p.many ∧ p.many ≤ 9223372036854775807

set_option maxHeartbeats 1600000 in
theorem part_any {w : World} {B lo N : Nat} {xs : List Int} (h : Wr w B lo xs) (p : PtD) (dv : Value) (hN : N ≤ B) (hn : xs.length ≤ 4294967296) (hK : ∀ x, Below N w x → Sees x .u8 dv p.data) (hf : FitP p) (hl : p.data.length ≤ 16384) :
    Calls Tryz.prog 127 #[.agg #[.pointer (some ⟨B, 0, none⟩)], .agg #[.int .i64 p.slot, .int .i64 p.idx, .int .i64 p.many, dv]] w fun r w' => r = .returned (.tuple #[]) ∧ Wr w' B lo (xs ++ ptB p) ∧ Wrote B lo w w' := by
  have hlt := h.lt; have hle := h.le
  unfold ptB
  have HK := hide hK
  obtain ⟨da, dc, rfl, _⟩ := hK w (Below.refl _ _)
  obtain ⟨f1, f2, f3⟩ := hf
  obtain ⟨a, ha⟩ : ∃ e, p.slot = e := ⟨_, rfl⟩
  obtain ⟨b, hb⟩ : ∃ e, p.idx = e := ⟨_, rfl⟩
  obtain ⟨c, hc⟩ : ∃ e, p.many = e := ⟨_, rfl⟩
  obtain ⟨D, hD⟩ : ∃ e, p.data = e := ⟨_, rfl⟩
  rw [ha] at f1
  rw [hb] at f2
  rw [hc] at f3
  rw [hD] at HK hl
  rw [ha, hb, hc, hD]
  clear ha hb hc hD hK
  obtain ⟨dl, hdl⟩ : ∃ e, D.length = e := ⟨_, rfl⟩
  rw [hdl] at HK hl
  rw [hdl]
  have HDL := hide hdl
  clear hdl
  have hal : Below w.heap.size w ((w.alloc (.cells #[.pointer (some ⟨B, 0, none⟩)] 68)).alloc (.cells #[.int .i64 a, .int .i64 b, .int .i64 c, .slice da dl dc] 32)) := ((Below.refl _ _).alloc (Nat.le_refl _) _).alloc (by simp) _
  have e0 : (w.alloc (.cells #[.pointer (some ⟨B, 0, none⟩)] 68)).heap.size = w.heap.size + 1 := by simp
  have b0 : ((w.alloc (.cells #[.pointer (some ⟨B, 0, none⟩)] 68)).alloc (.cells #[.int .i64 a, .int .i64 b, .int .i64 c, .slice da dl dc] 32)).heap[w.heap.size]? = some (.cells #[.pointer (some ⟨B, 0, none⟩)] 68) := (Below.heap_alloc _ _ _ (by simp)).trans (heap_alloc_new w _)
  have b1 : ((w.alloc (.cells #[.pointer (some ⟨B, 0, none⟩)] 68)).alloc (.cells #[.int .i64 a, .int .i64 b, .int .i64 c, .slice da dl dc] 32)).heap[w.heap.size + 1]? = some (.cells #[.int .i64 a, .int .i64 b, .int .i64 c, .slice da dl dc] 32) := by have := heap_alloc_new (w.alloc (.cells #[.pointer (some ⟨B, 0, none⟩)] 68)) (.cells #[.int .i64 a, .int .i64 b, .int .i64 c, .slice da dl dc] 32); rw [e0] at this; exact this
  have hsz : ((w.alloc (.cells #[.pointer (some ⟨B, 0, none⟩)] 68)).alloc (.cells #[.int .i64 a, .int .i64 b, .int .i64 c, .slice da dl dc] 32)).heap.size = w.heap.size + 1 + 1 := by simp
  obtain ⟨w2, hw2⟩ : ∃ y, ((w.alloc (.cells #[.pointer (some ⟨B, 0, none⟩)] 68)).alloc (.cells #[.int .i64 a, .int .i64 b, .int .i64 c, .slice da dl dc] 32)) = y := ⟨_, rfl⟩
  rw [hw2] at hal b0 b1 hsz
  have HBX : Hid (∀ x : World, Wrote B lo w2 x → x.heap[w.heap.size]? = some (.cells #[.pointer (some ⟨B, 0, none⟩)] 68) ∧ x.heap[w.heap.size + 1]? = some (.cells #[.int .i64 a, .int .i64 b, .int .i64 c, .slice da dl dc] 32)) := fun x kx => ⟨kx.box b0 (by decide) (by omega), kx.box b1 (by decide) (by omega)⟩
  have c0 : w2.cell? ⟨w.heap.size, 0, none⟩ = some (.pointer (some ⟨B, 0, none⟩)) := cell_of_heap b0
  have c1 : w2.cell? ⟨w.heap.size + 1, 0, none⟩ = some (.int .i64 a) := cell_of_heap b1
  have c2 : w2.cell? ⟨w.heap.size + 1, 1, none⟩ = some (.int .i64 b) := cell_of_heap b1
  have c3 : w2.cell? ⟨w.heap.size + 1, 2, none⟩ = some (.int .i64 c) := cell_of_heap b1
  have hz : Below w2.heap.size w2 (w2.alloc (.cells #[.int .i64 a, .int .i64 b, .int .i64 c] 2)) := (Below.refl _ _).alloc (Nat.le_refl _) _
  have HN1 := hide (nums_any ((h.below hal).below hz) _ [a, b, c] (sees_lit w2 [a, b, c] (by simp)) (by simp) (i64_of fun x hx => by simp at hx; rcases hx with rfl | rfl | rfl <;> assumption) (by have : sizeL [a, b, c] ≤ 27 := sizeL_le [a, b, c]; omega))
  simp only [List.length_cons, List.length_nil, Nat.reduceAdd] at HN1
  have HW2 : Hid (Wrote B lo w w2) := Wrote.of hal
  have HX0 : Hid (Wrote B lo w2 (w2.alloc (.cells #[.int .i64 a, .int .i64 b, .int .i64 c] 2))) := Wrote.of hz
  have HWB : Hid (∀ x, Wrote B lo w x → Below N w x) := fun x k => k.below hN (by omega) (by omega)
  clear h hal hz b0 b1 hsz e0 f1 f2 f3 hlt hle
  go_enter Tryz.func127, Tryz.ntmps127
  go_wp2_with (rw [hw2])
  refine (unhide HN1).mono ?_
  rintro e y1 ⟨rfl, p1, r1⟩
  have hX1 := (unhide HX0).trans r1
  obtain ⟨b0, b1⟩ := unhide HBX y1 hX1
  have d0 : y1.cell? ⟨w.heap.size, 0, none⟩ = some (.pointer (some ⟨B, 0, none⟩)) := cell_of_heap b0
  have d3 : y1.cell? ⟨w.heap.size + 1, 3, none⟩ = some (.slice da dl dc) := cell_of_heap b1
  have HWy : Hid (Wrote B lo w y1) := (unhide HW2).trans hX1
  have HN2 := hide (wblob_any p1 _ D (unhide HK y1 (unhide HWB _ (unhide HWy))) (by
    have l1 := putL_le [a, b, c]
    have := unhide HDL
    simp only [List.length_append, List.length_cons, List.length_nil] at l1 ⊢
    omega))
  rw [unhide HDL] at HN2
  clear p1 r1 hX1 b0 b1 HN1
  go_wp2_with fail
  refine (unhide HN2).mono ?_
  rintro e y2 ⟨rfl, p2, r2⟩
  have HF : Hid (Wr y2 B lo (xs ++ (putL [a, b, c] ++ (putL [(dl : Int)] ++ D))) ∧ Wrote B lo w y2) := ⟨by simpa only [List.append_assoc] using p2, (unhide HWy).trans r2⟩
  clear p2 r2
  go_wp2_with fail
  go_end0
  exact ⟨rfl, unhide HF⟩
end Go.Proofs.YtggllgimlfchhaaGreat
