/- Several texts as one. -/
import Derived.Test.YtggllgimlfchhabGreatKZ29
import Derived.Test.YtggllgimlfchhabGreatKN
import Derived.Test.YtggllgimlfchhabGreatKD
import Derived.Test.YtggllgimlfchhabGreatKB
import Derived.Test.YtggllgimlfchhabGreatKE

/- Record: what a message writes: an entry, a flag, a termed entry, a part. -/
namespace Go.Proofs.YtggllgimlfchhabGreat
open Go.RowKit
set_option maxRecDepth 100000

theorem entryW_any {w : World} {B lo N : Nat} {xs : List Int} (h : Wr w B lo xs) (e : EntD) (tv : Value) (hN : N ≤ B) (hn : xs.length ≤ 4294967296) (hK : StTs N w tv e.txns) (hf : FitE e) (hm : mayE e = true) :
    Calls Tryz.prog 24 #[.agg #[.pointer (some ⟨B, 0, none⟩)], .agg #[.int .i64 e.kind, .int .i64 e.frm, .int .i64 e.num, tv]] w fun r w' => r = .returned (.tuple #[]) ∧ Wr w' B lo (xs ++ entB e) ∧ Wrote B lo w w' := by
  have hK' := hK
  obtain ⟨ao, cap, _, _, _, rfl, _⟩ := hK
  rcases mayE_kind hm with hk | hk
  · have e1 : entB e = putL [0] := by unfold entB; rw [if_neg (by rw [hk]; decide), hk, List.append_nil]
    rw [e1, hk]
    exact entry_zero (N := N) h e.frm e.num ao _ cap hN hn
  · have e1 : entB e = putL [1] ++ (putL [e.frm, e.num] ++ (putL [(e.txns.length : Int)] ++ txnsB e.txns)) := by unfold entB; rw [if_pos hk, hk]
    rw [e1, hk]
    obtain ⟨m1, m2⟩ := mayE_one hm hk
    exact entry_one (N := N) h e.frm e.num ao _ cap e.txns hN hn hK' hf.txns m2 m1 hf.frm hf.num

set_option maxHeartbeats 800000 in
theorem flag_any {w : World} {B lo : Nat} {xs : List Int} (h : Wr w B lo xs) (y : Bool) (hn : xs.length ≤ 4294967296) :
    Calls Tryz.prog 103 #[.pointer (some ⟨B, 0, none⟩), .bool y] w fun r w' => r = .returned (.tuple #[]) ∧ Wr w' B lo (xs ++ putL [if y then 1 else 0]) ∧ Wrote B lo w w' := by
  obtain ⟨n, hn1, hn2⟩ : ∃ n : Int, (if y then (1 : Int) else 0) = n ∧ (n = 0 ∨ n = 1) := by cases y <;> simp
  have hal : Below w.heap.size w (w.alloc (.cells #[.int .i64 n] 2)) := (Below.refl _ _).alloc (Nat.le_refl _) _
  have HN := hide (nums_any (h.below hal) _ [n] (sees_lit w [n] (by simp)) (by simp) (i64_of fun x hx => by simp at hx; omega) (by have : sizeL [n] ≤ 9 := sizeL_le [n]; omega))
  simp only [List.length_cons, List.length_nil, Nat.reduceAdd] at HN
  have HW : Hid (Wrote B lo w (w.alloc (.cells #[.int .i64 n] 2))) := Wrote.of hal
  rw [hn1]
  clear h hal hn2
  cases y with
  | false =>
    simp only [Bool.false_eq_true, if_false] at hn1
    subst hn1
    go_enter Tryz.func103, Tryz.ntmps103
    go_wp2_with fail
    refine (unhide HN).mono ?_
    rintro e y1 ⟨rfl, p1, r1⟩
    have HF := hide (And.intro p1 ((unhide HW).trans r1))
    clear p1 r1
    go_wp2_with fail
    go_end0
    exact ⟨rfl, unhide HF⟩
  | true =>
    simp only [if_true] at hn1
    subst hn1
    go_enter Tryz.func103, Tryz.ntmps103
    go_wp2_with fail
    refine (unhide HN).mono ?_
    rintro e y1 ⟨rfl, p1, r1⟩
    have HF := hide (And.intro p1 ((unhide HW).trans r1))
    clear p1 r1
    go_wp2_with fail
    go_end0
    exact ⟨rfl, unhide HF⟩
/-- What a termed entry is as bytes, and that its numbers are numbers. -/
def tmB (t : TmD) : List Int := putL [t.term] ++ entB t.ent
structure FitTm (t : TmD) : Prop where
  term : -9223372036854775808 ≤ t.term ∧ t.term ≤ 9223372036854775807
  ent : FitE t.ent

set_option maxHeartbeats 1600000 in
theorem termed_any {w : World} {B lo N : Nat} {xs : List Int} (h : Wr w B lo xs) (t : TmD) (tv : Value) (hN : N ≤ B) (hn : xs.length ≤ 2147483648) (hK : StTs N w tv t.ent.txns) (hf : FitTm t) (hm : mayE t.ent = true) :
    Calls Tryz.prog 105 #[.agg #[.pointer (some ⟨B, 0, none⟩)], .agg #[.int .i64 t.term, .int .i64 t.ent.kind, .int .i64 t.ent.frm, .int .i64 t.ent.num, tv]] w fun r w' => r = .returned (.tuple #[]) ∧ Wr w' B lo (xs ++ tmB t) ∧ Wrote B lo w w' := by
  have hlt := h.lt; have hle := h.le
  unfold tmB
  obtain ⟨E, hE⟩ : ∃ e, t.ent = e := ⟨_, rfl⟩
  obtain ⟨a, ha⟩ : ∃ e, t.term = e := ⟨_, rfl⟩
  have hft := hf.term
  have hfe := hf.ent
  rw [ha] at hft
  rw [hE] at hK hm hfe
  rw [hE, ha]
  clear hE ha hf
  have HK := hide hK
  have HFE := hide hfe
  have HME := hide hm
  obtain ⟨ta, tc, _, _, _, rfl, _⟩ := hK
  have HEN : Hid (∀ (x : World) (zs : List Int), Wr x B lo zs → Below N w x → zs.length ≤ 4294967296 → Calls Tryz.prog 24 #[.agg #[.pointer (some ⟨B, 0, none⟩)], .agg #[.int .i64 E.kind, .int .i64 E.frm, .int .i64 E.num, .slice ta E.txns.length tc]] x fun r w' => r = .returned (.tuple #[]) ∧ Wr w' B lo (zs ++ entB E) ∧ Wrote B lo x w') := fun x zs hx hb hz => entryW_any (N := N) hx E _ hN hz ((unhide HK).on hb) (unhide HFE) (unhide HME)
  obtain ⟨k, hk⟩ : ∃ e, E.kind = e := ⟨_, rfl⟩
  obtain ⟨f, hf⟩ : ∃ e, E.frm = e := ⟨_, rfl⟩
  obtain ⟨n, hnn⟩ : ∃ e, E.num = e := ⟨_, rfl⟩
  obtain ⟨tl, htl⟩ : ∃ e, E.txns.length = e := ⟨_, rfl⟩
  rw [hk, hf, hnn, htl] at HEN
  rw [hk, hf, hnn, htl]
  clear hk hf hnn htl hfe hm
  have hal : Below w.heap.size w ((w.alloc (.cells #[.pointer (some ⟨B, 0, none⟩)] 60)).alloc (.cells #[.int .i64 a, .int .i64 k, .int .i64 f, .int .i64 n, .slice ta tl tc] 52)) := ((Below.refl _ _).alloc (Nat.le_refl _) _).alloc (by simp) _
  have e0 : (w.alloc (.cells #[.pointer (some ⟨B, 0, none⟩)] 60)).heap.size = w.heap.size + 1 := by simp
  have b0 : ((w.alloc (.cells #[.pointer (some ⟨B, 0, none⟩)] 60)).alloc (.cells #[.int .i64 a, .int .i64 k, .int .i64 f, .int .i64 n, .slice ta tl tc] 52)).heap[w.heap.size]? = some (.cells #[.pointer (some ⟨B, 0, none⟩)] 60) := (Below.heap_alloc _ _ _ (by simp)).trans (heap_alloc_new w _)
  have b1 : ((w.alloc (.cells #[.pointer (some ⟨B, 0, none⟩)] 60)).alloc (.cells #[.int .i64 a, .int .i64 k, .int .i64 f, .int .i64 n, .slice ta tl tc] 52)).heap[w.heap.size + 1]? = some (.cells #[.int .i64 a, .int .i64 k, .int .i64 f, .int .i64 n, .slice ta tl tc] 52) := by have := heap_alloc_new (w.alloc (.cells #[.pointer (some ⟨B, 0, none⟩)] 60)) (.cells #[.int .i64 a, .int .i64 k, .int .i64 f, .int .i64 n, .slice ta tl tc] 52); rw [e0] at this; exact this
  have hsz : ((w.alloc (.cells #[.pointer (some ⟨B, 0, none⟩)] 60)).alloc (.cells #[.int .i64 a, .int .i64 k, .int .i64 f, .int .i64 n, .slice ta tl tc] 52)).heap.size = w.heap.size + 1 + 1 := by simp
  obtain ⟨w2, hw2⟩ : ∃ y, ((w.alloc (.cells #[.pointer (some ⟨B, 0, none⟩)] 60)).alloc (.cells #[.int .i64 a, .int .i64 k, .int .i64 f, .int .i64 n, .slice ta tl tc] 52)) = y := ⟨_, rfl⟩
  rw [hw2] at hal b0 b1 hsz
  have HBX : Hid (∀ x : World, Wrote B lo w2 x → x.heap[w.heap.size]? = some (.cells #[.pointer (some ⟨B, 0, none⟩)] 60) ∧ x.heap[w.heap.size + 1]? = some (.cells #[.int .i64 a, .int .i64 k, .int .i64 f, .int .i64 n, .slice ta tl tc] 52)) := fun x kx => ⟨kx.box b0 (by decide) (by omega), kx.box b1 (by decide) (by omega)⟩
  have c0 : w2.cell? ⟨w.heap.size, 0, none⟩ = some (.pointer (some ⟨B, 0, none⟩)) := cell_of_heap b0
  have c1 : w2.cell? ⟨w.heap.size + 1, 0, none⟩ = some (.int .i64 a) := cell_of_heap b1
  have hz : Below w2.heap.size w2 (w2.alloc (.cells #[.int .i64 a] 2)) := (Below.refl _ _).alloc (Nat.le_refl _) _
  have HN1 := hide (nums_any ((h.below hal).below hz) _ [a] (sees_lit w2 [a] (by simp)) (by simp) (i64_of fun x hx => by simp at hx; subst hx; exact hft) (by have : sizeL [a] ≤ 9 := sizeL_le [a]; omega))
  simp only [List.length_cons, List.length_nil, Nat.reduceAdd] at HN1
  have HW2 : Hid (Wrote B lo w w2) := Wrote.of hal
  have HX0 : Hid (Wrote B lo w2 (w2.alloc (.cells #[.int .i64 a] 2))) := Wrote.of hz
  have HWB : Hid (∀ x, Wrote B lo w x → Below N w x) := fun x k => k.below hN (by omega) (by omega)
  clear h hal hz b0 b1 hsz e0 hft hlt hle
  go_enter Tryz.func105, Tryz.ntmps105
  go_wp2_with (rw [hw2])
  refine (unhide HN1).mono ?_
  rintro e y1 ⟨rfl, p1, r1⟩
  have hX1 := (unhide HX0).trans r1
  obtain ⟨b0, b1⟩ := unhide HBX y1 hX1
  have d0 : y1.cell? ⟨w.heap.size, 0, none⟩ = some (.pointer (some ⟨B, 0, none⟩)) := cell_of_heap b0
  have d1 : y1.cell? ⟨w.heap.size + 1, 1, none⟩ = some (.int .i64 k) := cell_of_heap b1
  have d2 : y1.cell? ⟨w.heap.size + 1, 2, none⟩ = some (.int .i64 f) := cell_of_heap b1
  have d3 : y1.cell? ⟨w.heap.size + 1, 3, none⟩ = some (.int .i64 n) := cell_of_heap b1
  have d4 : y1.cell? ⟨w.heap.size + 1, 4, none⟩ = some (.slice ta tl tc) := cell_of_heap b1
  have HWy : Hid (Wrote B lo w y1) := (unhide HW2).trans hX1
  have HN2 := hide (unhide HEN y1 _ p1 (unhide HWB _ (unhide HWy)) (by
    have l1 := putL_le [a]
    simp only [List.length_append, List.length_cons, List.length_nil] at l1 ⊢
    omega))
  clear p1 r1 hX1 b0 b1 HN1
  go_wp2_with fail
  refine (unhide HN2).mono ?_
  rintro e y2 ⟨rfl, p2, r2⟩
  have HF : Hid (Wr y2 B lo (xs ++ (putL [a] ++ entB E)) ∧ Wrote B lo w y2) := ⟨by simpa only [List.append_assoc] using p2, (unhide HWy).trans r2⟩
  clear p2 r2
  go_wp2_with fail
  go_end0
  exact ⟨rfl, unhide HF⟩
/-- A part as bytes. -/
def ptB (p : PtD) : List Int := putL [p.slot, p.idx, p.many] ++ (putL [(p.data.length : Int)] ++ p.data)
structure FitP (p : PtD) : Prop where
  slot : -9223372036854775808 ≤ p.slot ∧ p.slot ≤ 9223372036854775807
  idx : -9223372036854775808 ≤ p.idx ∧ p.idx ≤ 9223372036854775807
  many : -9223372036854775808 ≤ p.many ∧ p.many ≤ 9223372036854775807

set_option maxHeartbeats 1600000 in
theorem part_any {w : World} {B lo N : Nat} {xs : List Int} (h : Wr w B lo xs) (p : PtD) (dv : Value) (hN : N ≤ B) (hn : xs.length ≤ 4294967296) (hK : ∀ x, Below N w x → Sees x .u8 dv p.data) (hf : FitP p) (hl : p.data.length ≤ 16384) :
    Calls Tryz.prog 106 #[.agg #[.pointer (some ⟨B, 0, none⟩)], .agg #[.int .i64 p.slot, .int .i64 p.idx, .int .i64 p.many, dv]] w fun r w' => r = .returned (.tuple #[]) ∧ Wr w' B lo (xs ++ ptB p) ∧ Wrote B lo w w' := by
  have hlt := h.lt; have hle := h.le
  unfold ptB
  have HK := hide hK
  obtain ⟨da, dc, rfl, _⟩ := hK w (Below.refl _ _)
  obtain ⟨f1, f2, f3⟩ := hf
  obtain ⟨a, ha⟩ : ∃ e, p.slot = e := ⟨_, rfl⟩
  obtain ⟨b, hb⟩ : ∃ e, p.idx = e := ⟨_, rfl⟩
  obtain ⟨c, hc⟩ : ∃ e, p.many = e := ⟨_, rfl⟩
  obtain ⟨D, hD⟩ : ∃ e, p.data = e := ⟨_, rfl⟩
  rw [ha] at f1
  rw [hb] at f2
  rw [hc] at f3
  rw [hD] at HK hl
  rw [ha, hb, hc, hD]
  clear ha hb hc hD hK
  obtain ⟨dl, hdl⟩ : ∃ e, D.length = e := ⟨_, rfl⟩
  rw [hdl] at HK hl
  rw [hdl]
  have HDL := hide hdl
  clear hdl
  have hal : Below w.heap.size w ((w.alloc (.cells #[.pointer (some ⟨B, 0, none⟩)] 74)).alloc (.cells #[.int .i64 a, .int .i64 b, .int .i64 c, .slice da dl dc] 28)) := ((Below.refl _ _).alloc (Nat.le_refl _) _).alloc (by simp) _
  have e0 : (w.alloc (.cells #[.pointer (some ⟨B, 0, none⟩)] 74)).heap.size = w.heap.size + 1 := by simp
  have b0 : ((w.alloc (.cells #[.pointer (some ⟨B, 0, none⟩)] 74)).alloc (.cells #[.int .i64 a, .int .i64 b, .int .i64 c, .slice da dl dc] 28)).heap[w.heap.size]? = some (.cells #[.pointer (some ⟨B, 0, none⟩)] 74) := (Below.heap_alloc _ _ _ (by simp)).trans (heap_alloc_new w _)
  have b1 : ((w.alloc (.cells #[.pointer (some ⟨B, 0, none⟩)] 74)).alloc (.cells #[.int .i64 a, .int .i64 b, .int .i64 c, .slice da dl dc] 28)).heap[w.heap.size + 1]? = some (.cells #[.int .i64 a, .int .i64 b, .int .i64 c, .slice da dl dc] 28) := by have := heap_alloc_new (w.alloc (.cells #[.pointer (some ⟨B, 0, none⟩)] 74)) (.cells #[.int .i64 a, .int .i64 b, .int .i64 c, .slice da dl dc] 28); rw [e0] at this; exact this
  have hsz : ((w.alloc (.cells #[.pointer (some ⟨B, 0, none⟩)] 74)).alloc (.cells #[.int .i64 a, .int .i64 b, .int .i64 c, .slice da dl dc] 28)).heap.size = w.heap.size + 1 + 1 := by simp
  obtain ⟨w2, hw2⟩ : ∃ y, ((w.alloc (.cells #[.pointer (some ⟨B, 0, none⟩)] 74)).alloc (.cells #[.int .i64 a, .int .i64 b, .int .i64 c, .slice da dl dc] 28)) = y := ⟨_, rfl⟩
  rw [hw2] at hal b0 b1 hsz
  have HBX : Hid (∀ x : World, Wrote B lo w2 x → x.heap[w.heap.size]? = some (.cells #[.pointer (some ⟨B, 0, none⟩)] 74) ∧ x.heap[w.heap.size + 1]? = some (.cells #[.int .i64 a, .int .i64 b, .int .i64 c, .slice da dl dc] 28)) := fun x kx => ⟨kx.box b0 (by decide) (by omega), kx.box b1 (by decide) (by omega)⟩
  have c0 : w2.cell? ⟨w.heap.size, 0, none⟩ = some (.pointer (some ⟨B, 0, none⟩)) := cell_of_heap b0
  have c1 : w2.cell? ⟨w.heap.size + 1, 0, none⟩ = some (.int .i64 a) := cell_of_heap b1
  have c2 : w2.cell? ⟨w.heap.size + 1, 1, none⟩ = some (.int .i64 b) := cell_of_heap b1
  have c3 : w2.cell? ⟨w.heap.size + 1, 2, none⟩ = some (.int .i64 c) := cell_of_heap b1
  have hz : Below w2.heap.size w2 (w2.alloc (.cells #[.int .i64 a, .int .i64 b, .int .i64 c] 2)) := (Below.refl _ _).alloc (Nat.le_refl _) _
  have HN1 := hide (nums_any ((h.below hal).below hz) _ [a, b, c] (sees_lit w2 [a, b, c] (by simp)) (by simp) (i64_of fun x hx => by simp at hx; rcases hx with rfl | rfl | rfl <;> assumption) (by have : sizeL [a, b, c] ≤ 27 := sizeL_le [a, b, c]; omega))
  simp only [List.length_cons, List.length_nil, Nat.reduceAdd] at HN1
  have HW2 : Hid (Wrote B lo w w2) := Wrote.of hal
  have HX0 : Hid (Wrote B lo w2 (w2.alloc (.cells #[.int .i64 a, .int .i64 b, .int .i64 c] 2))) := Wrote.of hz
  have HWB : Hid (∀ x, Wrote B lo w x → Below N w x) := fun x k => k.below hN (by omega) (by omega)
  clear h hal hz b0 b1 hsz e0 f1 f2 f3 hlt hle
  go_enter Tryz.func106, Tryz.ntmps106
  go_wp2_with (rw [hw2])
  refine (unhide HN1).mono ?_
  rintro e y1 ⟨rfl, p1, r1⟩
  have hX1 := (unhide HX0).trans r1
  obtain ⟨b0, b1⟩ := unhide HBX y1 hX1
  have d0 : y1.cell? ⟨w.heap.size, 0, none⟩ = some (.pointer (some ⟨B, 0, none⟩)) := cell_of_heap b0
  have d3 : y1.cell? ⟨w.heap.size + 1, 3, none⟩ = some (.slice da dl dc) := cell_of_heap b1
  have HWy : Hid (Wrote B lo w y1) := (unhide HW2).trans hX1
  have HN2 := hide (wblob_any p1 _ D (unhide HK y1 (unhide HWB _ (unhide HWy))) (by
    have l1 := putL_le [a, b, c]
    have := unhide HDL
    simp only [List.length_append, List.length_cons, List.length_nil] at l1 ⊢
    omega))
  rw [unhide HDL] at HN2
  clear p1 r1 hX1 b0 b1 HN1
  go_wp2_with fail
  refine (unhide HN2).mono ?_
  rintro e y2 ⟨rfl, p2, r2⟩
  have HF : Hid (Wr y2 B lo (xs ++ (putL [a, b, c] ++ (putL [(dl : Int)] ++ D))) ∧ Wrote B lo w y2) := ⟨by simpa only [List.append_assoc] using p2, (unhide HWy).trans r2⟩
  clear p2 r2
  go_wp2_with fail
  go_end0
  exact ⟨rfl, unhide HF⟩
end Go.Proofs.YtggllgimlfchhabGreat

/- Record: a list of termed entries written. -/
namespace Go.Proofs.YtggllgimlfchhabGreat
open Go.RowKit
set_option maxRecDepth 100000

/-- Termed entries' forms, one behind the other. -/
def tmsB (l : List TmD) : List Int := (l.map tmB).flatten
theorem tmB_le {t : TmD} (h : mayE t.ent = true) : (tmB t).length ≤ 40009 := by
  have l1 := putL_le [t.term]
  have l2 := entB_le h
  unfold tmB
  simp only [List.length_append, List.length_cons, List.length_nil] at l1 ⊢
  omega
theorem tmsB_le {l : List TmD} (h : ∀ t ∈ l, mayE t.ent = true) : (tmsB l).length ≤ 40009 * l.length := by
  induction l with
  | nil => simp [tmsB]
  | cons x r ih =>
    have h1 := tmB_le (h x (List.mem_cons_self ..))
    have h2 := ih (fun t ht => h t (List.mem_cons_of_mem _ ht))
    simp only [tmsB, List.map_cons, List.flatten_cons, List.length_append, List.length_cons] at h2 ⊢
    omega
theorem take_tms (l : List TmD) (t : Nat) (ht : t < l.length) : tmsB (l.take (t + 1)) = tmsB (l.take t) ++ tmB (l.getD t dM) := by
  have e : l.getD t dM = l[t] := by simp [List.getD, ht]
  rw [e]
  unfold tmsB
  rw [List.take_succ_eq_append_getElem ht, List.map_append, List.flatten_append]
  simp only [List.map_cons, List.map_nil, List.flatten_cons, List.flatten_nil, List.append_nil]

set_option maxHeartbeats 1600000 in
theorem putTms_any {w0 w : World} {B lo : Nat} {xs : List Int} (h : Wr w B lo xs) (v : Value) (l : List TmD) (hb0 : Below w0.heap.size w0 w) (hN : w0.heap.size ≤ B) (hS : SeesTms w0 v l) (hf : ∀ t ∈ l, FitTm t) (hm : ∀ t ∈ l, mayE t.ent = true) (hl : l.length ≤ 4096) (hn : xs.length ≤ 1048576) :
    Calls Tryz.prog 104 #[.pointer (some ⟨B, 0, none⟩), v, .func (.func 105) #[.agg #[.pointer (some ⟨B, 0, none⟩)]] #[]] w fun e w' => e = .returned (.tuple #[]) ∧ Wr w' B lo (xs ++ (putL [(l.length : Int)] ++ tmsB l)) ∧ Wrote B lo w w' := by
  have hlt := h.lt; have hle := h.le
  obtain ⟨ao, cap, gb, ob, rfl, hcap, _, hao, hcl⟩ := hS
  have hal : Below w.heap.size w (w.alloc (.cells #[.int .i64 (l.length : Int)] 2)) := (Below.refl _ _).alloc (Nat.le_refl _) _
  have hs := sees_lit w [(l.length : Int)] (by simp)
  have hsz : sizeL [(l.length : Int)] ≤ 9 := sizeL_le [(l.length : Int)]
  have HN := hide (nums_any (h.below hal) _ [(l.length : Int)] hs (by simp) (i64_of fun x hx => by simp at hx; subst hx; omega) (by omega))
  have HW : Hid (Wrote B lo w _) := Wrote.of hal
  have HF := hide hf
  have HM := hide hm
  have HAO := hide hao
  have HCL := hide hcl
  have HWB : Hid (∀ w', Wrote B lo w w' → Below w0.heap.size w0 w') := fun w' k => hb0.trans (k.below hN (by omega) (by have := hb0.size; omega))
  clear h hal hs hsz hf hm hlt hle hao hcl hb0
  go_enter Tryz.func104, Tryz.ntmps104
  go_wp2_with fail
  simp only [List.length_cons, List.length_nil, Nat.reduceAdd] at HN
  refine (unhide HN).mono ?_
  rintro e w2 ⟨rfl, h1, h2⟩
  have HR : Hid (Wr w2 B lo (xs ++ (putL [(l.length : Int)] ++ tmsB (l.take 0))) ∧ Wrote B lo w w2) := ⟨by simpa [tmsB] using h1, (unhide HW).trans h2⟩
  clear h1 h2 HN
  go_wp2
  go_loopw [15] (fun c wr => ∃ t : Nat, t ≤ l.length ∧ c = .int .i64 t ∧ Wr wr B lo (xs ++ (putL [(l.length : Int)] ++ tmsB (l.take t))) ∧ Wrote B lo w wr) (fun c _ => l.length - (intOf c).toNat)
  case atStart => exact ⟨0, by omega, rfl, (unhide HR).1, (unhide HR).2⟩
  case round =>
    obtain ⟨t, ht, rfl, hw, hwr⟩ := hrel
    by_cases hlt : t < l.length
    · obtain rfl := unhide HAO (by omega)
      have hb := unhide HWB _ hwr
      obtain ⟨tv, a0, a1, a2, a3, a4, ahs⟩ := unhide HCL t hlt
      have hmem : l.getD t dM ∈ l := by
        have e : l.getD t dM = l[t] := by simp [List.getD, hlt]
        rw [e]; exact List.getElem_mem hlt
      have hft := unhide HF _ hmem
      have hmt := unhide HM _ hmem
      have htk := take_tms l t hlt
      obtain ⟨d, hd⟩ : ∃ d, l.getD t dM = d := ⟨_, rfl⟩
      rw [hd] at a0 a1 a2 a3 ahs hft hmt htk
      have HK : Hid (∀ x, Below w0.heap.size w0 x → StTs w0.heap.size x tv d.ent.txns) := fun x hx => (StTs.of ahs).on hx
      obtain ⟨ta, tc, _, _, rfl, _⟩ := ahs
      have cc : ∀ o u, w0.cell? ⟨gb, o, none⟩ = some u → wr.cell? ⟨gb, o, none⟩ = some u := fun o u h => (hb.cell (p := ⟨gb, o, none⟩) (World.block_lt_of_cell? w0 _ h)).trans h
      have kh0 := cc _ _ a0
      have kh1 := cc _ _ a1
      have kh2 := cc _ _ a2
      have kh3 := cc _ _ a3
      have kh4 := cc _ _ a4
      have hlen : (xs ++ (putL [(l.length : Int)] ++ tmsB (l.take t))).length ≤ 2147483648 := by
        have l1 := putL_le [(l.length : Int)]
        have l2 := tmsB_le (l := l.take t) (fun x hx => unhide HM x (List.mem_of_mem_take hx))
        simp only [List.length_append, List.length_cons, List.length_nil, List.length_take] at l1 l2 ⊢
        omega
      have hal0 : ∀ ob, Below wr.heap.size wr (wr.alloc ob) := fun _ => (Below.refl _ _).alloc (Nat.le_refl _) _
      have HC : Hid (∀ ob, Calls Tryz.prog 105 #[.agg #[.pointer (some ⟨B, 0, none⟩)], .agg #[.int .i64 d.term, .int .i64 d.ent.kind, .int .i64 d.ent.frm, .int .i64 d.ent.num, .slice ta d.ent.txns.length tc]] (wr.alloc ob) fun e w' => e = .returned (.tuple #[]) ∧ Wr w' B lo (xs ++ (putL [(l.length : Int)] ++ tmsB (l.take t)) ++ tmB d) ∧ Wrote B lo (wr.alloc ob) w') := fun ob => termed_any (N := w0.heap.size) (hw.below (hal0 ob)) d _ hN hlen (unhide HK _ (hb.trans ((hal0 ob).mono hb.size))) hft hmt
      have HW2 : Hid (∀ ob, Wrote B lo w (wr.alloc ob)) := fun ob => hwr.trans (Wrote.of (hal0 ob))
      have HTK := hide htk
      obtain ⟨a, e1⟩ : ∃ n, d.term = n := ⟨_, rfl⟩
      obtain ⟨k, e2⟩ : ∃ n, d.ent.kind = n := ⟨_, rfl⟩
      obtain ⟨f, e3⟩ : ∃ n, d.ent.frm = n := ⟨_, rfl⟩
      obtain ⟨n, e4⟩ : ∃ n, d.ent.num = n := ⟨_, rfl⟩
      obtain ⟨tl, e5⟩ : ∃ n, d.ent.txns.length = n := ⟨_, rfl⟩
      rw [e1, e2, e3, e4, e5] at HC
      rw [e1] at kh0
      rw [e2] at kh1
      rw [e3] at kh2
      rw [e4] at kh3
      rw [e5] at kh4
      have HC1 := hide (unhide HC (.cells #[.int .i64 a, .int .i64 k, .int .i64 f, .int .i64 n, .slice ta tl tc] 52))
      clear hw hwr hb hlen hft hmt htk hmem HK a0 a1 a2 a3 a4 cc hal0 e1 e2 e3 e4 e5 hd HC
      go_wp2_with fail
      refine (unhide HC1).mono ?_
      rintro e w3 ⟨rfl, h1, h2⟩
      have HR3 : Hid (Wr w3 B lo (xs ++ (putL [(l.length : Int)] ++ tmsB (l.take (t + 1)))) ∧ Wrote B lo w w3) := ⟨by rw [unhide HTK]; simpa only [List.append_assoc] using h1, (unhide HW2 _).trans h2⟩
      clear h1 h2 HC1
      go_wp2
      go_roundw
      case rel => exact ⟨t + 1, by omega, by go_num, (unhide HR3).1, (unhide HR3).2⟩
      case measure => simp [intOf]; omega
    · have HE : Hid (Wr wr B lo (xs ++ (putL [(l.length : Int)] ++ tmsB l)) ∧ Wrote B lo w wr) := by
        rw [List.take_of_length_le (by omega)] at hw
        exact ⟨hw, hwr⟩
      clear hw hwr
      go_wp2
      go_end0
      exact ⟨rfl, unhide HE⟩
end Go.Proofs.YtggllgimlfchhabGreat

/- Record: the fields of a message written. -/
namespace Go.Proofs.YtggllgimlfchhabGreat
open Go.RowKit
set_option maxRecDepth 100000

/-- A field's form. -/
def fB (f : Int) (m : MsgD) : List Int :=
  if f = 0 then putL [m.term] else if f = 1 then putL [m.slot] else if f = 2 then putL [m.last] else if f = 3 then putL [m.commit] else if f = 4 then putL [if m.yes then 1 else 0] else if f = 5 then putL [(m.list.length : Int)] ++ tmsB m.list else if f = 6 then entB m.ent else ptB m.part
def flsB (F : List Int) (m : MsgD) : List Int := (F.map fun f => fB f m).flatten
theorem take_fls (F : List Int) (m : MsgD) (t : Nat) (ht : t < F.length) : flsB (F.take (t + 1)) m = flsB (F.take t) m ++ fB F[t] m := by
  unfold flsB
  rw [List.take_succ_eq_append_getElem ht, List.map_append, List.flatten_append]
  simp only [List.map_cons, List.map_nil, List.flatten_cons, List.flatten_nil, List.append_nil]
structure FitM (m : MsgD) : Prop where
  term : -9223372036854775808 ≤ m.term ∧ m.term ≤ 9223372036854775807
  slot : -9223372036854775808 ≤ m.slot ∧ m.slot ≤ 9223372036854775807
  last : -9223372036854775808 ≤ m.last ∧ m.last ≤ 9223372036854775807
  commit : -9223372036854775808 ≤ m.commit ∧ m.commit ≤ 9223372036854775807
  list : ∀ t ∈ m.list, FitTm t
  ent : FitE m.ent
  part : FitP m.part

set_option maxHeartbeats 3200000 in
theorem fields_any {w0 w : World} {B lo g : Nat} {xs : List Int} (h : Wr w B lo xs) (cs : Array Value) (m : MsgD) (F : List Int) (hM : SeesM w0 cs m) (hb0 : Below w0.heap.size w0 w) (hN : w0.heap.size ≤ B) (hfit : FitM m)
    (hg : w.heap[g]? = some (.cells (F.map (Value.int .i64)).toArray 109)) (hgB : g ≠ B) (hF : ∀ f ∈ F, (0 ≤ f ∧ f ≤ 7) ∧ fMay f m = true) (hlen : F.length ≤ 5) (hn : xs.length ≤ 1000) (hpre : ∀ t, t < F.length → (flsB (F.take t) m).length ≤ 1000) :
    Calls Tryz.prog 70 #[.agg #[.pointer (some ⟨B, 0, none⟩), .pointer (some ⟨B, 0, none⟩), .pointer (some ⟨B, 0, none⟩)], .agg cs, .slice (some ⟨g, 0, none⟩) F.length F.length] w fun e w' => e = .returned (.tuple #[]) ∧ Wr w' B lo (xs ++ flsB F m) ∧ Wrote B lo w w' := by
  have hlt := h.lt; have hle := h.le
  have hM' := hM
  obtain ⟨lv, tv, dv, rfl, k1, k2, k3⟩ := hM
  have K1 := hide k1
  have K2 := hide (StTs.of k2)
  have K3 := hide k3
  obtain ⟨la, lc, _, _, rfl, _⟩ := k1
  obtain ⟨ta, tc, _, _, rfl, _⟩ := k2
  obtain ⟨da, dc, rfl, _⟩ := k3
  obtain ⟨n, hnF⟩ : ∃ n, F.length = n := ⟨_, rfl⟩
  rw [hnF] at hlen
  rw [hnF]
  have HNF := hide hnF
  have HF := hide hF
  have HPRE := hide hpre
  have HFIT := hide hfit
  obtain ⟨aK, EaK⟩ : ∃ x, m.kind = x := ⟨_, rfl⟩
  obtain ⟨aF, EaF⟩ : ∃ x, m.frm = x := ⟨_, rfl⟩
  obtain ⟨aO, EaO⟩ : ∃ x, m.to = x := ⟨_, rfl⟩
  obtain ⟨aT, EaT⟩ : ∃ x, m.term = x := ⟨_, rfl⟩
  obtain ⟨aS, EaS⟩ : ∃ x, m.slot = x := ⟨_, rfl⟩
  obtain ⟨aL, EaL⟩ : ∃ x, m.last = x := ⟨_, rfl⟩
  obtain ⟨aC, EaC⟩ : ∃ x, m.commit = x := ⟨_, rfl⟩
  obtain ⟨aY, EaY⟩ : ∃ x, m.yes = x := ⟨_, rfl⟩
  obtain ⟨ll, Ell⟩ : ∃ x, m.list.length = x := ⟨_, rfl⟩
  obtain ⟨ek, Eek⟩ : ∃ x, m.ent.kind = x := ⟨_, rfl⟩
  obtain ⟨ef, Eef⟩ : ∃ x, m.ent.frm = x := ⟨_, rfl⟩
  obtain ⟨en, Een⟩ : ∃ x, m.ent.num = x := ⟨_, rfl⟩
  obtain ⟨tl, Etl⟩ : ∃ x, m.ent.txns.length = x := ⟨_, rfl⟩
  obtain ⟨ps, Eps⟩ : ∃ x, m.part.slot = x := ⟨_, rfl⟩
  obtain ⟨pi, Epi⟩ : ∃ x, m.part.idx = x := ⟨_, rfl⟩
  obtain ⟨pm, Epm⟩ : ∃ x, m.part.many = x := ⟨_, rfl⟩
  obtain ⟨dl, Edl⟩ : ∃ x, m.part.data.length = x := ⟨_, rfl⟩
  have HNU : Hid (∀ x zs (q : Int), Wr x B lo zs → (-9223372036854775808 ≤ q ∧ q ≤ 9223372036854775807) → zs.length ≤ 4000 → Calls Tryz.prog 54 #[.pointer (some ⟨B, 0, none⟩), .slice (some ⟨x.heap.size, 0, none⟩) 1 1] (x.alloc (.cells #[.int .i64 q] 2)) fun r w' => r = .returned (.tuple #[]) ∧ Wr w' B lo (zs ++ putL [q]) ∧ Wrote B lo x w') := fun x zs q hx hq hz => by
    have hal : Below x.heap.size x (x.alloc (.cells #[.int .i64 q] 2)) := (Below.refl _ _).alloc (Nat.le_refl _) _
    have HN := nums_any (hx.below hal) _ [q] (sees_lit x [q] (by simp)) (by simp) (i64_of fun y hy => by simp at hy; subst hy; exact hq) (by have : sizeL [q] ≤ 9 := sizeL_le [q]; omega)
    exact HN.mono fun e w' ⟨h1, h2, h3⟩ => ⟨h1, h2, (Wrote.of hal).trans h3⟩
  have HFL : Hid (∀ x zs, Wr x B lo zs → zs.length ≤ 4000 → Calls Tryz.prog 103 #[.pointer (some ⟨B, 0, none⟩), .bool aY] x fun r w' => r = .returned (.tuple #[]) ∧ Wr w' B lo (zs ++ putL [if m.yes then 1 else 0]) ∧ Wrote B lo x w') := fun x zs hx hz => by rw [← EaY]; exact flag_any hx m.yes (by omega)
  have HLI : Hid (∀ x zs, Wr x B lo zs → Below w0.heap.size w0 x → zs.length ≤ 4000 → fMay 5 m = true → Calls Tryz.prog 104 #[.pointer (some ⟨B, 0, none⟩), .slice la ll lc, .func (.func 105) #[.agg #[.pointer (some ⟨B, 0, none⟩)]] #[]] x fun r w' => r = .returned (.tuple #[]) ∧ Wr w' B lo (zs ++ (putL [(m.list.length : Int)] ++ tmsB m.list)) ∧ Wrote B lo x w') := fun x zs hx hb hz hm => by
    rw [← Ell]
    simp only [fMay] at hm
    simp at hm
    exact putTms_any hx _ m.list hb hN (unhide K1) hfit.list (fun t ht => by have := hm.2 t ht; simp only [mayTm, Bool.and_eq_true] at this; exact this.2) hm.1 (by omega)
  have HEN : Hid (∀ x zs, Wr x B lo zs → Below w0.heap.size w0 x → zs.length ≤ 4000 → fMay 6 m = true → Calls Tryz.prog 24 #[.agg #[.pointer (some ⟨B, 0, none⟩)], .agg #[.int .i64 ek, .int .i64 ef, .int .i64 en, .slice ta tl tc]] x fun r w' => r = .returned (.tuple #[]) ∧ Wr w' B lo (zs ++ entB m.ent) ∧ Wrote B lo x w') := fun x zs hx hb hz hm => by
    rw [← Eek, ← Eef, ← Een, ← Etl]
    simp only [fMay] at hm
    simp at hm
    exact entryW_any (N := w0.heap.size) hx m.ent _ hN (by omega) ((unhide K2).on hb) hfit.ent hm
  have HPT : Hid (∀ x zs, Wr x B lo zs → Below w0.heap.size w0 x → zs.length ≤ 4000 → fMay 7 m = true → Calls Tryz.prog 106 #[.agg #[.pointer (some ⟨B, 0, none⟩)], .agg #[.int .i64 ps, .int .i64 pi, .int .i64 pm, .slice da dl dc]] x fun r w' => r = .returned (.tuple #[]) ∧ Wr w' B lo (zs ++ ptB m.part) ∧ Wrote B lo x w') := fun x zs hx hb hz hm => by
    rw [← Eps, ← Epi, ← Epm, ← Edl]
    simp only [fMay] at hm
    simp [mayP] at hm
    exact part_any (N := w0.heap.size) hx m.part _ hN (by omega) (fun y hy => (unhide K3).below (hb.trans hy)) hfit.part hm.2
  rw [EaK, EaF, EaO, EaT, EaS, EaL, EaC, EaY, Ell, Eek, Eef, Een, Etl, Eps, Epi, Epm, Edl]
  have HT := hide hfit.term
  have HSl := hide hfit.slot
  have HLa := hide hfit.last
  have HCo := hide hfit.commit
  rw [EaT] at HT
  rw [EaS] at HSl
  rw [EaL] at HLa
  rw [EaC] at HCo
  have hal : Below w.heap.size w ((w.alloc (.cells #[.pointer (some ⟨B, 0, none⟩), .pointer (some ⟨B, 0, none⟩), .pointer (some ⟨B, 0, none⟩)] 76)).alloc (.cells #[.int .i64 aK, .int .i64 aF, .int .i64 aO, .int .i64 aT, .int .i64 aS, .int .i64 aL, .int .i64 aC, .bool aY, .slice la ll lc, .int .i64 ek, .int .i64 ef, .int .i64 en, .slice ta tl tc, .int .i64 ps, .int .i64 pi, .int .i64 pm, .slice da dl dc] 30)) := ((Below.refl _ _).alloc (Nat.le_refl _) _).alloc (by simp) _
  have e0 : (w.alloc (.cells #[.pointer (some ⟨B, 0, none⟩), .pointer (some ⟨B, 0, none⟩), .pointer (some ⟨B, 0, none⟩)] 76)).heap.size = w.heap.size + 1 := by simp
  have b0 : ((w.alloc (.cells #[.pointer (some ⟨B, 0, none⟩), .pointer (some ⟨B, 0, none⟩), .pointer (some ⟨B, 0, none⟩)] 76)).alloc (.cells #[.int .i64 aK, .int .i64 aF, .int .i64 aO, .int .i64 aT, .int .i64 aS, .int .i64 aL, .int .i64 aC, .bool aY, .slice la ll lc, .int .i64 ek, .int .i64 ef, .int .i64 en, .slice ta tl tc, .int .i64 ps, .int .i64 pi, .int .i64 pm, .slice da dl dc] 30)).heap[w.heap.size]? = some (.cells #[.pointer (some ⟨B, 0, none⟩), .pointer (some ⟨B, 0, none⟩), .pointer (some ⟨B, 0, none⟩)] 76) := (Below.heap_alloc _ _ _ (by simp)).trans (heap_alloc_new w _)
  have b1 : ((w.alloc (.cells #[.pointer (some ⟨B, 0, none⟩), .pointer (some ⟨B, 0, none⟩), .pointer (some ⟨B, 0, none⟩)] 76)).alloc (.cells #[.int .i64 aK, .int .i64 aF, .int .i64 aO, .int .i64 aT, .int .i64 aS, .int .i64 aL, .int .i64 aC, .bool aY, .slice la ll lc, .int .i64 ek, .int .i64 ef, .int .i64 en, .slice ta tl tc, .int .i64 ps, .int .i64 pi, .int .i64 pm, .slice da dl dc] 30)).heap[w.heap.size + 1]? = some (.cells #[.int .i64 aK, .int .i64 aF, .int .i64 aO, .int .i64 aT, .int .i64 aS, .int .i64 aL, .int .i64 aC, .bool aY, .slice la ll lc, .int .i64 ek, .int .i64 ef, .int .i64 en, .slice ta tl tc, .int .i64 ps, .int .i64 pi, .int .i64 pm, .slice da dl dc] 30) := by have := heap_alloc_new (w.alloc (.cells #[.pointer (some ⟨B, 0, none⟩), .pointer (some ⟨B, 0, none⟩), .pointer (some ⟨B, 0, none⟩)] 76)) (.cells #[.int .i64 aK, .int .i64 aF, .int .i64 aO, .int .i64 aT, .int .i64 aS, .int .i64 aL, .int .i64 aC, .bool aY, .slice la ll lc, .int .i64 ek, .int .i64 ef, .int .i64 en, .slice ta tl tc, .int .i64 ps, .int .i64 pi, .int .i64 pm, .slice da dl dc] 30); rw [e0] at this; exact this
  have bg : ((w.alloc (.cells #[.pointer (some ⟨B, 0, none⟩), .pointer (some ⟨B, 0, none⟩), .pointer (some ⟨B, 0, none⟩)] 76)).alloc (.cells #[.int .i64 aK, .int .i64 aF, .int .i64 aO, .int .i64 aT, .int .i64 aS, .int .i64 aL, .int .i64 aC, .bool aY, .slice la ll lc, .int .i64 ek, .int .i64 ef, .int .i64 en, .slice ta tl tc, .int .i64 ps, .int .i64 pi, .int .i64 pm, .slice da dl dc] 30)).heap[g]? = some (.cells (F.map (Value.int .i64)).toArray 109) := (hal.block g (Array.getElem?_eq_some_iff.1 hg).1).trans hg
  obtain ⟨w2, hw2⟩ : ∃ y, ((w.alloc (.cells #[.pointer (some ⟨B, 0, none⟩), .pointer (some ⟨B, 0, none⟩), .pointer (some ⟨B, 0, none⟩)] 76)).alloc (.cells #[.int .i64 aK, .int .i64 aF, .int .i64 aO, .int .i64 aT, .int .i64 aS, .int .i64 aL, .int .i64 aC, .bool aY, .slice la ll lc, .int .i64 ek, .int .i64 ef, .int .i64 en, .slice ta tl tc, .int .i64 ps, .int .i64 pi, .int .i64 pm, .slice da dl dc] 30)) = y := ⟨_, rfl⟩
  rw [hw2] at hal b0 b1 bg
  have HBX : Hid (∀ x : World, Wrote B lo w2 x → x.heap[w.heap.size]? = some (.cells #[.pointer (some ⟨B, 0, none⟩), .pointer (some ⟨B, 0, none⟩), .pointer (some ⟨B, 0, none⟩)] 76) ∧ x.heap[w.heap.size + 1]? = some (.cells #[.int .i64 aK, .int .i64 aF, .int .i64 aO, .int .i64 aT, .int .i64 aS, .int .i64 aL, .int .i64 aC, .bool aY, .slice la ll lc, .int .i64 ek, .int .i64 ef, .int .i64 en, .slice ta tl tc, .int .i64 ps, .int .i64 pi, .int .i64 pm, .slice da dl dc] 30) ∧ x.heap[g]? = some (.cells (F.map (Value.int .i64)).toArray 109)) := fun x kx => ⟨kx.box b0 (by decide) (by omega), kx.box b1 (by decide) (by omega), kx.box bg (by decide) hgB⟩
  have HW2 : Hid (Wrote B lo w w2) := Wrote.of hal
  have HWB : Hid (∀ x, Wrote B lo w2 x → Below w0.heap.size w0 x) := fun x k => hb0.trans (((Wrote.of (B := B) (lo := lo) hal).trans k).below hN (by omega) (by have := hb0.size; omega))
  have hr0 : Wr w2 B lo (xs ++ flsB (F.take 0) m) := by simpa [flsB] using h.below hal
  have HR0 := hide hr0
  have XF0 : Hid (fB 0 m = putL [aT]) := (show fB 0 m = putL [aT] from by simp [fB, EaT])
  have XF1 : Hid (fB 1 m = putL [aS]) := (show fB 1 m = putL [aS] from by simp [fB, EaS])
  have XF2 : Hid (fB 2 m = putL [aL]) := (show fB 2 m = putL [aL] from by simp [fB, EaL])
  have XF3 : Hid (fB 3 m = putL [aC]) := (show fB 3 m = putL [aC] from by simp [fB, EaC])
  have XF4 : Hid (fB 4 m = putL [if m.yes then 1 else 0]) := (show fB 4 m = putL [if m.yes then 1 else 0] from by simp [fB])
  have XF5 : Hid (fB 5 m = putL [(m.list.length : Int)] ++ tmsB m.list) := (show fB 5 m = putL [(m.list.length : Int)] ++ tmsB m.list from by simp [fB])
  have XF6 : Hid (fB 6 m = entB m.ent) := (show fB 6 m = entB m.ent from by simp [fB])
  have XF7 : Hid (fB 7 m = ptB m.part) := (show fB 7 m = ptB m.part from by simp [fB])
  clear hr0 h hal b0 b1 bg e0 hlt hle hg hF hpre hfit hM' hb0 hnF EaK EaF EaO EaT EaS EaL EaC EaY Ell Eek Eef Een Etl Eps Epi Epm Edl
  go_enter Tryz.func70, Tryz.ntmps70
  go_wp2_with (rw [hw2])
  go_loopw [10] (fun c wr => ∃ t : Nat, t ≤ n ∧ c = .int .i64 t ∧ Wr wr B lo (xs ++ flsB (F.take t) m) ∧ Wrote B lo w2 wr) (fun c _ => n - (intOf c).toNat)
  case atStart => exact ⟨0, by omega, rfl, unhide HR0, Wrote.refl _ _ _⟩
  case round =>
    obtain ⟨t, ht, rfl, hw, hwr⟩ := hrel
    by_cases hlt : t < n
    · have hltF : t < F.length := by rw [unhide HNF]; exact hlt
      obtain ⟨x0, x1, x2⟩ := unhide HBX wr hwr
      obtain ⟨f, hf⟩ : ∃ f, F[t] = f := ⟨_, rfl⟩
      have hcf' : wr.cell? ⟨g, t, none⟩ = some (.int .i64 f) := by
        rw [cell_of_row _ _ _ _ _ _ x2]
        simp [hltF, hf]
      have hcf : wr.cell? ⟨g, 0 + t, none⟩ = some (.int .i64 f) := by rw [Nat.zero_add]; exact hcf'
      have hff := unhide HF f (by rw [← hf]; exact List.getElem_mem hltF)
      have htk := take_fls F m t hltF
      rw [hf] at htk
      have hzl : (xs ++ flsB (F.take t) m).length ≤ 4000 := by
        have := unhide HPRE t hltF
        simp only [List.length_append]
        omega
      have p0 : wr.cell? ⟨w.heap.size, 0, none⟩ = some (.pointer (some ⟨B, 0, none⟩)) := cell_of_heap x0
      have p1 : wr.cell? ⟨w.heap.size, 1, none⟩ = some (.pointer (some ⟨B, 0, none⟩)) := cell_of_heap x0
      have p2 : wr.cell? ⟨w.heap.size, 2, none⟩ = some (.pointer (some ⟨B, 0, none⟩)) := cell_of_heap x0
      have m3 : wr.cell? ⟨w.heap.size + 1, 3, none⟩ = some (.int .i64 aT) := cell_of_heap x1
      have m4 : wr.cell? ⟨w.heap.size + 1, 4, none⟩ = some (.int .i64 aS) := cell_of_heap x1
      have m5 : wr.cell? ⟨w.heap.size + 1, 5, none⟩ = some (.int .i64 aL) := cell_of_heap x1
      have m6 : wr.cell? ⟨w.heap.size + 1, 6, none⟩ = some (.int .i64 aC) := cell_of_heap x1
      have m7 : wr.cell? ⟨w.heap.size + 1, 7, none⟩ = some (.bool aY) := cell_of_heap x1
      have m8 : wr.cell? ⟨w.heap.size + 1, 8, none⟩ = some (.slice la ll lc) := cell_of_heap x1
      have m9 : wr.cell? ⟨w.heap.size + 1, 9, none⟩ = some (.int .i64 ek) := cell_of_heap x1
      have m10 : wr.cell? ⟨w.heap.size + 1, 10, none⟩ = some (.int .i64 ef) := cell_of_heap x1
      have m11 : wr.cell? ⟨w.heap.size + 1, 11, none⟩ = some (.int .i64 en) := cell_of_heap x1
      have m12 : wr.cell? ⟨w.heap.size + 1, 12, none⟩ = some (.slice ta tl tc) := cell_of_heap x1
      have m13 : wr.cell? ⟨w.heap.size + 1, 13, none⟩ = some (.int .i64 ps) := cell_of_heap x1
      have m14 : wr.cell? ⟨w.heap.size + 1, 14, none⟩ = some (.int .i64 pi) := cell_of_heap x1
      have m15 : wr.cell? ⟨w.heap.size + 1, 15, none⟩ = some (.int .i64 pm) := cell_of_heap x1
      have m16 : wr.cell? ⟨w.heap.size + 1, 16, none⟩ = some (.slice da dl dc) := cell_of_heap x1
      have HTK := hide htk
      have HWR := hide hwr
      have hbw := unhide HWB wr hwr
      have hmay := hff.2
      have hfr := hff.1
      by_cases h0 : f = 0
      case pos =>
        subst h0
        have HC := hide (unhide HNU wr _ aT hw (unhide HT) hzl)
        clear hw hwr hbw hmay hfr hff htk hzl x0 x1 x2 hf
        go_wp2_with fail
        refine (unhide HC).mono ?_
        rintro e y1 ⟨rfl, q1, q2⟩
        have HR : Hid (Wr y1 B lo (xs ++ flsB (F.take (t + 1)) m) ∧ Wrote B lo w2 y1) := ⟨by rw [unhide HTK, unhide XF0]; simpa only [List.append_assoc] using q1, (unhide HWR).trans q2⟩
        clear q1 q2 HC
        go_wp2
        go_roundw
        case rel => exact ⟨t + 1, by omega, by go_num, (unhide HR).1, (unhide HR).2⟩
        case measure => simp [intOf]; omega
      by_cases h1 : f = 1
      case pos =>
        subst h1
        have HC := hide (unhide HNU wr _ aS hw (unhide HSl) hzl)
        clear hw hwr hbw hmay hfr hff htk hzl x0 x1 x2 hf
        go_wp2_with fail
        refine (unhide HC).mono ?_
        rintro e y1 ⟨rfl, q1, q2⟩
        have HR : Hid (Wr y1 B lo (xs ++ flsB (F.take (t + 1)) m) ∧ Wrote B lo w2 y1) := ⟨by rw [unhide HTK, unhide XF1]; simpa only [List.append_assoc] using q1, (unhide HWR).trans q2⟩
        clear q1 q2 HC
        go_wp2
        go_roundw
        case rel => exact ⟨t + 1, by omega, by go_num, (unhide HR).1, (unhide HR).2⟩
        case measure => simp [intOf]; omega
      by_cases h2 : f = 2
      case pos =>
        subst h2
        have HC := hide (unhide HNU wr _ aL hw (unhide HLa) hzl)
        clear hw hwr hbw hmay hfr hff htk hzl x0 x1 x2 hf
        go_wp2_with fail
        refine (unhide HC).mono ?_
        rintro e y1 ⟨rfl, q1, q2⟩
        have HR : Hid (Wr y1 B lo (xs ++ flsB (F.take (t + 1)) m) ∧ Wrote B lo w2 y1) := ⟨by rw [unhide HTK, unhide XF2]; simpa only [List.append_assoc] using q1, (unhide HWR).trans q2⟩
        clear q1 q2 HC
        go_wp2
        go_roundw
        case rel => exact ⟨t + 1, by omega, by go_num, (unhide HR).1, (unhide HR).2⟩
        case measure => simp [intOf]; omega
      by_cases h3 : f = 3
      case pos =>
        subst h3
        have HC := hide (unhide HNU wr _ aC hw (unhide HCo) hzl)
        clear hw hwr hbw hmay hfr hff htk hzl x0 x1 x2 hf
        go_wp2_with fail
        refine (unhide HC).mono ?_
        rintro e y1 ⟨rfl, q1, q2⟩
        have HR : Hid (Wr y1 B lo (xs ++ flsB (F.take (t + 1)) m) ∧ Wrote B lo w2 y1) := ⟨by rw [unhide HTK, unhide XF3]; simpa only [List.append_assoc] using q1, (unhide HWR).trans q2⟩
        clear q1 q2 HC
        go_wp2
        go_roundw
        case rel => exact ⟨t + 1, by omega, by go_num, (unhide HR).1, (unhide HR).2⟩
        case measure => simp [intOf]; omega
      by_cases h4 : f = 4
      case pos =>
        subst h4
        have HC := hide (unhide HFL wr _ hw hzl)
        clear hw hwr hbw hmay hfr hff htk hzl x0 x1 x2 hf
        go_wp2_with fail
        refine (unhide HC).mono ?_
        rintro e y1 ⟨rfl, q1, q2⟩
        have HR : Hid (Wr y1 B lo (xs ++ flsB (F.take (t + 1)) m) ∧ Wrote B lo w2 y1) := ⟨by rw [unhide HTK, unhide XF4]; simpa only [List.append_assoc] using q1, (unhide HWR).trans q2⟩
        clear q1 q2 HC
        go_wp2
        go_roundw
        case rel => exact ⟨t + 1, by omega, by go_num, (unhide HR).1, (unhide HR).2⟩
        case measure => simp [intOf]; omega
      by_cases h5 : f = 5
      case pos =>
        subst h5
        have HC := hide (unhide HLI wr _ hw hbw hzl hmay)
        clear hw hwr hbw hmay hfr hff htk hzl x0 x1 x2 hf
        go_wp2_with fail
        refine (unhide HC).mono ?_
        rintro e y1 ⟨rfl, q1, q2⟩
        have HR : Hid (Wr y1 B lo (xs ++ flsB (F.take (t + 1)) m) ∧ Wrote B lo w2 y1) := ⟨by rw [unhide HTK, unhide XF5]; simpa only [List.append_assoc] using q1, (unhide HWR).trans q2⟩
        clear q1 q2 HC
        go_wp2
        go_roundw
        case rel => exact ⟨t + 1, by omega, by go_num, (unhide HR).1, (unhide HR).2⟩
        case measure => simp [intOf]; omega
      by_cases h6 : f = 6
      case pos =>
        subst h6
        have HC := hide (unhide HEN wr _ hw hbw hzl hmay)
        clear hw hwr hbw hmay hfr hff htk hzl x0 x1 x2 hf
        go_wp2_with fail
        refine (unhide HC).mono ?_
        rintro e y1 ⟨rfl, q1, q2⟩
        have HR : Hid (Wr y1 B lo (xs ++ flsB (F.take (t + 1)) m) ∧ Wrote B lo w2 y1) := ⟨by rw [unhide HTK, unhide XF6]; simpa only [List.append_assoc] using q1, (unhide HWR).trans q2⟩
        clear q1 q2 HC
        go_wp2
        go_roundw
        case rel => exact ⟨t + 1, by omega, by go_num, (unhide HR).1, (unhide HR).2⟩
        case measure => simp [intOf]; omega
      by_cases h7 : f = 7
      case pos =>
        subst h7
        have HC := hide (unhide HPT wr _ hw hbw hzl hmay)
        clear hw hwr hbw hmay hfr hff htk hzl x0 x1 x2 hf
        go_wp2_with fail
        refine (unhide HC).mono ?_
        rintro e y1 ⟨rfl, q1, q2⟩
        have HR : Hid (Wr y1 B lo (xs ++ flsB (F.take (t + 1)) m) ∧ Wrote B lo w2 y1) := ⟨by rw [unhide HTK, unhide XF7]; simpa only [List.append_assoc] using q1, (unhide HWR).trans q2⟩
        clear q1 q2 HC
        go_wp2
        go_roundw
        case rel => exact ⟨t + 1, by omega, by go_num, (unhide HR).1, (unhide HR).2⟩
        case measure => simp [intOf]; omega
      omega
    · obtain rfl : n = t := by omega
      have HE : Hid (Wr wr B lo (xs ++ flsB F m) ∧ Wrote B lo w wr) := by
        rw [List.take_of_length_le (by rw [unhide HNF]; exact Nat.le_refl _)] at hw
        exact ⟨hw, (unhide HW2).trans hwr⟩
      clear hw hwr
      go_wp2
      go_end0
      exact ⟨rfl, unhide HE⟩
end Go.Proofs.YtggllgimlfchhabGreat
