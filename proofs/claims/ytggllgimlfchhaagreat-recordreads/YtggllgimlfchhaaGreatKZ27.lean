/- Several texts as one. -/
import Derived.Test.YtggllgimlfchhaaGreatKZ26

/- Record: Entry. -/
namespace Go.Proofs.YtggllgimlfchhaaGreat
open Go.RowKit
set_option maxRecDepth 100000

structure FitE (e : EntD) : Prop where
  kind : -9223372036854775808 ≤ e.kind ∧ e.kind ≤ 9223372036854775807
  frm : -9223372036854775808 ≤ e.frm ∧ e.frm ≤ 9223372036854775807
  num : -9223372036854775808 ≤ e.num ∧ e.num ≤ 9223372036854775807
  txns : ∀ t ∈ e.txns, FitT t
  args : ∀ t ∈ e.txns, t.args.length ≤ 9223372036854775807
theorem FitE.ok {e : EntD} (h : FitE e) : OkTs e.txns := fun t ht => ⟨(h.txns t ht).code, h.args t ht⟩
/-- An entry's form. -/
def entB (e : EntD) : List Int := putL [e.kind] ++ (if e.kind = 1 then putL [e.frm, e.num] ++ (putL [(e.txns.length : Int)] ++ txnsB e.txns) else [])
theorem mayE_one {e : EntD} (h : mayE e = true) (hk : e.kind = 1) : e.txns.length ≤ 16 ∧ ∀ t ∈ e.txns, mayT t = true := by
  unfold mayE at h
  rw [if_neg (by rw [hk]; decide), if_pos hk] at h
  simp only [Bool.and_eq_true, decide_eq_true_eq] at h
  exact ⟨h.1.2, fun t ht => List.all_eq_true.1 h.2 t ht⟩
theorem mayE_kind {e : EntD} (h : mayE e = true) : e.kind = 0 ∨ e.kind = 1 := by
  unfold mayE at h
  by_cases h0 : e.kind = 0
  · exact .inl h0
  · rw [if_neg h0] at h
    by_cases h1 : e.kind = 1
    · exact .inr h1
    · rw [if_neg h1] at h; cases h
theorem entB_le {e : EntD} (h : mayE e = true) : (entB e).length ≤ 40000 := by
  have l1 := putL_le [e.kind]; have l2 := putL_le [e.frm, e.num]; have l3 := putL_le [(e.txns.length : Int)]
  unfold entB
  by_cases hk : e.kind = 1
  · obtain ⟨m1, m2⟩ := mayE_one h hk
    have l4 := txnsB_le m2
    rw [if_pos hk]
    simp only [List.length_append, List.length_cons, List.length_nil] at l1 l2 l3 l4 ⊢
    omega
  · rw [if_neg hk]
    simp only [List.length_append, List.length_cons, List.length_nil] at l1 ⊢
    omega

set_option maxHeartbeats 1600000 in
theorem entry_zero {w : World} {B lo N : Nat} {xs : List Int} (h : Wr w B lo xs) (f n : Int) (ta : Option Addr) (tl tc : Nat) (hN : N ≤ B) (hn : xs.length ≤ 4294967296) :
    Calls Tryz.prog 37 #[.agg #[.pointer (some ⟨B, 0, none⟩)], .agg #[.int .i64 0, .int .i64 f, .int .i64 n, .slice ta tl tc]] w fun e w' => e = .returned (.tuple #[]) ∧ Wr w' B lo (xs ++ putL [0]) ∧ Wrote B lo w w' := by
  have hlt := h.lt; have hle := h.le
  have hal : Below w.heap.size w ((w.alloc (.cells #[.pointer (some ⟨B, 0, none⟩)] 65)).alloc (.cells #[.int .i64 0, .int .i64 f, .int .i64 n, .slice ta tl tc] 29)) := ((Below.refl _ _).alloc (Nat.le_refl _) _).alloc (by simp) _
  have HBX : Hid (∀ w' : World, Wrote B lo ((w.alloc (.cells #[.pointer (some ⟨B, 0, none⟩)] 65)).alloc (.cells #[.int .i64 0, .int .i64 f, .int .i64 n, .slice ta tl tc] 29)) w' → w'.cell? ⟨w.heap.size, 0, none⟩ = some (.pointer (some ⟨B, 0, none⟩)) ∧ w'.cell? ⟨w.heap.size + 1, 0, none⟩ = some (.int .i64 0) ∧ w'.cell? ⟨w.heap.size + 1, 1, none⟩ = some (.int .i64 f) ∧ w'.cell? ⟨w.heap.size + 1, 2, none⟩ = some (.int .i64 n) ∧ w'.cell? ⟨w.heap.size + 1, 3, none⟩ = some (.slice ta tl tc)) := fun w' k => by
    have e : (w.alloc (.cells #[.pointer (some ⟨B, 0, none⟩)] 65)).heap.size = w.heap.size + 1 := by simp
    have b0 : ((w.alloc (.cells #[.pointer (some ⟨B, 0, none⟩)] 65)).alloc (.cells #[.int .i64 0, .int .i64 f, .int .i64 n, .slice ta tl tc] 29)).heap[w.heap.size]? = some (.cells #[.pointer (some ⟨B, 0, none⟩)] 65) := (Below.heap_alloc _ _ _ (by simp)).trans (heap_alloc_new w _)
    have b1 : ((w.alloc (.cells #[.pointer (some ⟨B, 0, none⟩)] 65)).alloc (.cells #[.int .i64 0, .int .i64 f, .int .i64 n, .slice ta tl tc] 29)).heap[w.heap.size + 1]? = some (.cells #[.int .i64 0, .int .i64 f, .int .i64 n, .slice ta tl tc] 29) := by have := heap_alloc_new (w.alloc (.cells #[.pointer (some ⟨B, 0, none⟩)] 65)) (.cells #[.int .i64 0, .int .i64 f, .int .i64 n, .slice ta tl tc] 29); rw [e] at this; exact this
    have c0 := k.block w.heap.size (by simp; omega) (by omega) (.inr fun cur e => by rw [b0] at e; cases e)
    have c1 := k.block (w.heap.size + 1) (by simp) (by omega) (.inr fun cur e => by rw [b1] at e; cases e)
    refine ⟨?_, ?_, ?_, ?_, ?_⟩
    · rw [World.cell?_of_block (a := ⟨w.heap.size, 0, none⟩) c0, World.cell?_alloc_lt _ _ _ (by simp), World.cell?_alloc_new]; rfl
    · rw [World.cell?_of_block (a := ⟨w.heap.size + 1, 0, none⟩) c1, ← e, World.cell?_alloc_new]; rfl
    · rw [World.cell?_of_block (a := ⟨w.heap.size + 1, 1, none⟩) c1, ← e, World.cell?_alloc_new]; rfl
    · rw [World.cell?_of_block (a := ⟨w.heap.size + 1, 2, none⟩) c1, ← e, World.cell?_alloc_new]; rfl
    · rw [World.cell?_of_block (a := ⟨w.heap.size + 1, 3, none⟩) c1, ← e, World.cell?_alloc_new]; rfl
  have HW2 : Hid (Wrote B lo w ((w.alloc (.cells #[.pointer (some ⟨B, 0, none⟩)] 65)).alloc (.cells #[.int .i64 0, .int .i64 f, .int .i64 n, .slice ta tl tc] 29))) := Wrote.of hal
  have hal2 : Below ((w.alloc (.cells #[.pointer (some ⟨B, 0, none⟩)] 65)).alloc (.cells #[.int .i64 0, .int .i64 f, .int .i64 n, .slice ta tl tc] 29)).heap.size ((w.alloc (.cells #[.pointer (some ⟨B, 0, none⟩)] 65)).alloc (.cells #[.int .i64 0, .int .i64 f, .int .i64 n, .slice ta tl tc] 29)) (((w.alloc (.cells #[.pointer (some ⟨B, 0, none⟩)] 65)).alloc (.cells #[.int .i64 0, .int .i64 f, .int .i64 n, .slice ta tl tc] 29)).alloc (.cells #[.int .i64 0] 2)) := (Below.refl _ _).alloc (Nat.le_refl _) _
  have HX0 : Hid (Wrote B lo ((w.alloc (.cells #[.pointer (some ⟨B, 0, none⟩)] 65)).alloc (.cells #[.int .i64 0, .int .i64 f, .int .i64 n, .slice ta tl tc] 29)) (((w.alloc (.cells #[.pointer (some ⟨B, 0, none⟩)] 65)).alloc (.cells #[.int .i64 0, .int .i64 f, .int .i64 n, .slice ta tl tc] 29)).alloc (.cells #[.int .i64 0] 2))) := Wrote.of hal2
  have HN1 := hide (nums_any ((h.below hal).below hal2) _ [0] (sees_lit ((w.alloc (.cells #[.pointer (some ⟨B, 0, none⟩)] 65)).alloc (.cells #[.int .i64 0, .int .i64 f, .int .i64 n, .slice ta tl tc] 29)) [0] (by simp)) (by simp) (i64_of fun x hx => by simp at hx; omega) (by have : sizeL [(0 : Int)] ≤ 9 := sizeL_le [0]; omega))
  simp only [List.length_cons, List.length_nil, Nat.reduceAdd, World.size_alloc] at HN1
  have HWB : Hid (∀ w', Wrote B lo ((w.alloc (.cells #[.pointer (some ⟨B, 0, none⟩)] 65)).alloc (.cells #[.int .i64 0, .int .i64 f, .int .i64 n, .slice ta tl tc] 29)) w' → Below N w w') := fun w' k => ((Wrote.of (B := B) (lo := lo) hal).trans k).below hN (by omega) (by omega)
  clear h hal hal2 HWB
  go_enter Tryz.func37, Tryz.ntmps37
  go_wp2_with fail
  refine (unhide HN1).mono ?_
  rintro e y1 ⟨rfl, p1, r1⟩
  have HX1 := hide ((unhide HX0).trans r1)
  obtain ⟨c0, c1, c2, c3, c4⟩ := unhide HBX y1 (unhide HX1)
  have HF : Hid (Wr y1 B lo (xs ++ putL [0]) ∧ Wrote B lo w y1) := ⟨p1, (unhide HW2).trans (unhide HX1)⟩
  clear p1 r1
  go_wp2_with fail
  go_end0
  exact ⟨rfl, unhide HF⟩

set_option maxHeartbeats 1600000 in
theorem entry_one {w : World} {B lo N : Nat} {xs : List Int} (h : Wr w B lo xs) (f n : Int) (ta : Option Addr) (tl tc : Nat) (l : List TxnD) (hN : N ≤ B) (hn : xs.length ≤ 4294967296) (hK : StTs N w (.slice ta tl tc) l) (hf : ∀ t ∈ l, FitT t) (hm : ∀ t ∈ l, mayT t = true) (hl : l.length ≤ 16)
    (hff : -9223372036854775808 ≤ f ∧ f ≤ 9223372036854775807) (hnn : -9223372036854775808 ≤ n ∧ n ≤ 9223372036854775807) :
    Calls Tryz.prog 37 #[.agg #[.pointer (some ⟨B, 0, none⟩)], .agg #[.int .i64 1, .int .i64 f, .int .i64 n, .slice ta tl tc]] w fun e w' => e = .returned (.tuple #[]) ∧ Wr w' B lo (xs ++ (putL [1] ++ (putL [f, n] ++ (putL [(l.length : Int)] ++ txnsB l)))) ∧ Wrote B lo w w' := by
  have hlt := h.lt; have hle := h.le
  have hal : Below w.heap.size w ((w.alloc (.cells #[.pointer (some ⟨B, 0, none⟩)] 65)).alloc (.cells #[.int .i64 1, .int .i64 f, .int .i64 n, .slice ta tl tc] 29)) := ((Below.refl _ _).alloc (Nat.le_refl _) _).alloc (by simp) _
  have HBX : Hid (∀ w' : World, Wrote B lo ((w.alloc (.cells #[.pointer (some ⟨B, 0, none⟩)] 65)).alloc (.cells #[.int .i64 1, .int .i64 f, .int .i64 n, .slice ta tl tc] 29)) w' → w'.cell? ⟨w.heap.size, 0, none⟩ = some (.pointer (some ⟨B, 0, none⟩)) ∧ w'.cell? ⟨w.heap.size + 1, 0, none⟩ = some (.int .i64 1) ∧ w'.cell? ⟨w.heap.size + 1, 1, none⟩ = some (.int .i64 f) ∧ w'.cell? ⟨w.heap.size + 1, 2, none⟩ = some (.int .i64 n) ∧ w'.cell? ⟨w.heap.size + 1, 3, none⟩ = some (.slice ta tl tc)) := fun w' k => by
    have e : (w.alloc (.cells #[.pointer (some ⟨B, 0, none⟩)] 65)).heap.size = w.heap.size + 1 := by simp
    have b0 : ((w.alloc (.cells #[.pointer (some ⟨B, 0, none⟩)] 65)).alloc (.cells #[.int .i64 1, .int .i64 f, .int .i64 n, .slice ta tl tc] 29)).heap[w.heap.size]? = some (.cells #[.pointer (some ⟨B, 0, none⟩)] 65) := (Below.heap_alloc _ _ _ (by simp)).trans (heap_alloc_new w _)
    have b1 : ((w.alloc (.cells #[.pointer (some ⟨B, 0, none⟩)] 65)).alloc (.cells #[.int .i64 1, .int .i64 f, .int .i64 n, .slice ta tl tc] 29)).heap[w.heap.size + 1]? = some (.cells #[.int .i64 1, .int .i64 f, .int .i64 n, .slice ta tl tc] 29) := by have := heap_alloc_new (w.alloc (.cells #[.pointer (some ⟨B, 0, none⟩)] 65)) (.cells #[.int .i64 1, .int .i64 f, .int .i64 n, .slice ta tl tc] 29); rw [e] at this; exact this
    have c0 := k.block w.heap.size (by simp; omega) (by omega) (.inr fun cur e => by rw [b0] at e; cases e)
    have c1 := k.block (w.heap.size + 1) (by simp) (by omega) (.inr fun cur e => by rw [b1] at e; cases e)
    refine ⟨?_, ?_, ?_, ?_, ?_⟩
    · rw [World.cell?_of_block (a := ⟨w.heap.size, 0, none⟩) c0, World.cell?_alloc_lt _ _ _ (by simp), World.cell?_alloc_new]; rfl
    · rw [World.cell?_of_block (a := ⟨w.heap.size + 1, 0, none⟩) c1, ← e, World.cell?_alloc_new]; rfl
    · rw [World.cell?_of_block (a := ⟨w.heap.size + 1, 1, none⟩) c1, ← e, World.cell?_alloc_new]; rfl
    · rw [World.cell?_of_block (a := ⟨w.heap.size + 1, 2, none⟩) c1, ← e, World.cell?_alloc_new]; rfl
    · rw [World.cell?_of_block (a := ⟨w.heap.size + 1, 3, none⟩) c1, ← e, World.cell?_alloc_new]; rfl
  have HW2 : Hid (Wrote B lo w ((w.alloc (.cells #[.pointer (some ⟨B, 0, none⟩)] 65)).alloc (.cells #[.int .i64 1, .int .i64 f, .int .i64 n, .slice ta tl tc] 29))) := Wrote.of hal
  have hal2 : Below ((w.alloc (.cells #[.pointer (some ⟨B, 0, none⟩)] 65)).alloc (.cells #[.int .i64 1, .int .i64 f, .int .i64 n, .slice ta tl tc] 29)).heap.size ((w.alloc (.cells #[.pointer (some ⟨B, 0, none⟩)] 65)).alloc (.cells #[.int .i64 1, .int .i64 f, .int .i64 n, .slice ta tl tc] 29)) (((w.alloc (.cells #[.pointer (some ⟨B, 0, none⟩)] 65)).alloc (.cells #[.int .i64 1, .int .i64 f, .int .i64 n, .slice ta tl tc] 29)).alloc (.cells #[.int .i64 1] 2)) := (Below.refl _ _).alloc (Nat.le_refl _) _
  have HX0 : Hid (Wrote B lo ((w.alloc (.cells #[.pointer (some ⟨B, 0, none⟩)] 65)).alloc (.cells #[.int .i64 1, .int .i64 f, .int .i64 n, .slice ta tl tc] 29)) (((w.alloc (.cells #[.pointer (some ⟨B, 0, none⟩)] 65)).alloc (.cells #[.int .i64 1, .int .i64 f, .int .i64 n, .slice ta tl tc] 29)).alloc (.cells #[.int .i64 1] 2))) := Wrote.of hal2
  have HN1 := hide (nums_any ((h.below hal).below hal2) _ [1] (sees_lit ((w.alloc (.cells #[.pointer (some ⟨B, 0, none⟩)] 65)).alloc (.cells #[.int .i64 1, .int .i64 f, .int .i64 n, .slice ta tl tc] 29)) [1] (by simp)) (by simp) (i64_of fun x hx => by simp at hx; omega) (by have : sizeL [(1 : Int)] ≤ 9 := sizeL_le [1]; omega))
  simp only [List.length_cons, List.length_nil, Nat.reduceAdd, World.size_alloc] at HN1
  have HWB : Hid (∀ w', Wrote B lo ((w.alloc (.cells #[.pointer (some ⟨B, 0, none⟩)] 65)).alloc (.cells #[.int .i64 1, .int .i64 f, .int .i64 n, .slice ta tl tc] 29)) w' → Below N w w') := fun w' k => ((Wrote.of (B := B) (lo := lo) hal).trans k).below hN (by omega) (by omega)
  have HK := hide hK
  have HFT := hide hf
  have HM := hide hm
  clear h hal hal2 hK hf hm
  go_enter Tryz.func37, Tryz.ntmps37
  go_wp2_with fail
  refine (unhide HN1).mono ?_
  rintro e y1 ⟨rfl, p1, r1⟩
  have HX1 := hide ((unhide HX0).trans r1)
  obtain ⟨c0, c1, c2, c3, c4⟩ := unhide HBX y1 (unhide HX1)
  have hz : Below y1.heap.size y1 (y1.alloc (.cells #[.int .i64 f, .int .i64 n] 2)) := (Below.refl _ _).alloc (Nat.le_refl _) _
  have HN2 := hide (nums_any (p1.below hz) _ [f, n] (sees_lit y1 [f, n] (by simp)) (by simp) (i64_of fun x hx => by simp at hx; rcases hx with rfl | rfl <;> omega) (by
    have l1 := putL_le [(1 : Int)]; have l2 := sizeL_le [f, n]
    simp only [List.length_append, List.length_cons, List.length_nil] at l1 l2 ⊢
    omega))
  simp only [List.length_cons, List.length_nil, Nat.reduceAdd] at HN2
  have HX1b := hide ((unhide HX1).trans (Wrote.of hz))
  clear p1 r1 hz HN1
  go_wp2_with fail
  refine (unhide HN2).mono ?_
  rintro e y2 ⟨rfl, p2, r2⟩
  have HX2 := hide ((unhide HX1b).trans r2)
  obtain ⟨g0, g1, g2, g3, g4⟩ := unhide HBX y2 (unhide HX2)
  have HN3 := hide (putTxns_any (N := N) p2 _ l hN ((unhide HK).on (unhide HWB _ (unhide HX2))) (unhide HFT) (unhide HM) hl (by
    have l1 := putL_le [(1 : Int)]; have l2 := putL_le [f, n]
    simp only [List.length_append, List.length_cons, List.length_nil] at l1 l2 ⊢
    omega))
  clear p2 r2 HN2
  go_wp2_with fail
  refine (unhide HN3).mono ?_
  rintro e y3 ⟨rfl, p3, r3⟩
  have HF : Hid (Wr y3 B lo (xs ++ (putL [1] ++ (putL [f, n] ++ (putL [(l.length : Int)] ++ txnsB l)))) ∧ Wrote B lo w y3) := ⟨by simpa only [List.append_assoc] using p3, (unhide HW2).trans ((unhide HX2).trans r3)⟩
  clear p3 r3
  go_wp2_with fail
  go_end0
  exact ⟨rfl, unhide HF⟩

set_option maxHeartbeats 3200000 in
/-- Entry. -/
theorem Entry_any (N : Nat) (cs : Array Value) (e : EntD) (w : World) (hN : N ≤ w.heap.size) (hE : ∃ tv, cs = #[.int .i64 e.kind, .int .i64 e.frm, .int .i64 e.num, tv] ∧ StTs N w tv e.txns) (hf : FitE e) :
    Calls Tryz.prog 15 #[.agg cs] w fun r w' => ∃ x, r = .returned (.tuple #[x, .int .i64 (if mayE e then 0 else 40)]) ∧ w'.ownsRow w.heap.size 5 1 x (if mayE e then entB e else []).length (ints .u8 (if mayE e then entB e else [])) ∧ Below w.heap.size w w' := by
  obtain ⟨k, f, n, txns⟩ := e
  obtain ⟨tv, rfl, hT⟩ := hE
  simp only at hT
  have HT := hide hT
  have HFE := hide hf
  obtain ⟨ta, tc, _, _, _, rfl, _⟩ := hT
  have hal : Below w.heap.size w (w.alloc (.cells #[.int .i64 k, .int .i64 f, .int .i64 n, .slice ta txns.length tc] 29)) := (Below.refl _ _).alloc (Nat.le_refl _) _
  have HM := hide (entryMayBe_any _ ⟨k, f, n, txns⟩ (w.alloc (.cells #[.int .i64 k, .int .i64 f, .int .i64 n, .slice ta txns.length tc] 29)) ⟨_, rfl, ((unhide HT).on (hal.mono hN)).sees⟩ hf.ok)
  simp only at HM
  have HB := hide hal
  have HBX : Hid (∀ w', Below (w.heap.size + 1) (w.alloc (.cells #[.int .i64 k, .int .i64 f, .int .i64 n, .slice ta txns.length tc] 29)) w' → w'.cell? ⟨w.heap.size, 0, none⟩ = some (.int .i64 k) ∧ w'.cell? ⟨w.heap.size, 1, none⟩ = some (.int .i64 f) ∧ w'.cell? ⟨w.heap.size, 2, none⟩ = some (.int .i64 n) ∧ w'.cell? ⟨w.heap.size, 3, none⟩ = some (.slice ta txns.length tc)) := fun w' hb => by
    refine ⟨?_, ?_, ?_, ?_⟩
    · rw [hb.cell (p := ⟨w.heap.size, 0, none⟩) (Nat.lt_succ_self _), World.cell?_alloc_new]; rfl
    · rw [hb.cell (p := ⟨w.heap.size, 1, none⟩) (Nat.lt_succ_self _), World.cell?_alloc_new]; rfl
    · rw [hb.cell (p := ⟨w.heap.size, 2, none⟩) (Nat.lt_succ_self _), World.cell?_alloc_new]; rfl
    · rw [hb.cell (p := ⟨w.heap.size, 3, none⟩) (Nat.lt_succ_self _), World.cell?_alloc_new]; rfl
  clear hal hf
  go_enter Tryz.func15, Tryz.ntmps15
  go_wp2_with fail
  refine (unhide HM).mono ?_
  rintro r w2 ⟨rfl, hb2⟩
  have HB2 : Hid (Below w.heap.size w w2) := (unhide HB).trans (hb2.mono (by simp))
  have HB1 : Hid (Below (w.heap.size + 1) (w.alloc (.cells #[.int .i64 k, .int .i64 f, .int .i64 n, .slice ta txns.length tc] 29)) w2) := hb2.mono (by simp)
  obtain ⟨c0, c1, c2, c3⟩ := unhide HBX w2 (unhide HB1)
  clear hb2 HM
  cases hmy : mayE ⟨k, f, n, txns⟩ with
  | false =>
    go_wp2_with fail
    all_goals (go_ret2; exact ⟨.slice none 0 0, rfl, World.ownsRow_nil _ _ _ _, unhide HB2⟩)
  | true =>
    have hz1 : Below w2.heap.size w2 ((w2.alloc (.cells #[.slice none 0 0] 63)).alloc (.cells #[.pointer (some ⟨w2.heap.size, 0, none⟩)] 65)) := ((Below.refl _ _).alloc (Nat.le_refl _) _).alloc (by simp) _
    have hWr : Wr ((w2.alloc (.cells #[.slice none 0 0] 63)).alloc (.cells #[.pointer (some ⟨w2.heap.size, 0, none⟩)] 65)) w2.heap.size (w2.heap.size + 1) [] := by
      have e : ((w2.alloc (.cells #[.slice none 0 0] 63)).alloc (.cells #[.pointer (some ⟨w2.heap.size, 0, none⟩)] 65)).heap[w2.heap.size]? = some (.cells #[.slice none 0 0] 63) := (Below.heap_alloc _ _ _ (by simp)).trans (heap_alloc_new w2 _)
      refine ⟨⟨.slice none 0 0, ?_, World.ownsRow_nil _ _ _ _⟩, fun o => ?_, by omega, by simp⟩
      · rw [World.cell?_alloc_lt _ _ _ (by simp), World.cell?_alloc_new]; rfl
      · rw [World.frozen?_alloc_past _ _ _ (by simp), World.frozen?_alloc_at _ _ _ _ rfl]
    have hsz2 := (unhide HB2).size
    have HC : Hid (Calls Tryz.prog 37 #[.agg #[.pointer (some ⟨w2.heap.size, 0, none⟩)], .agg #[.int .i64 k, .int .i64 f, .int .i64 n, .slice ta txns.length tc]] ((w2.alloc (.cells #[.slice none 0 0] 63)).alloc (.cells #[.pointer (some ⟨w2.heap.size, 0, none⟩)] 65)) fun e w' => e = .returned (.tuple #[]) ∧ Wr w' w2.heap.size (w2.heap.size + 1) (entB ⟨k, f, n, txns⟩) ∧ Wrote w2.heap.size (w2.heap.size + 1) ((w2.alloc (.cells #[.slice none 0 0] 63)).alloc (.cells #[.pointer (some ⟨w2.heap.size, 0, none⟩)] 65)) w') := by
      have hfe := unhide HFE
      rcases mayE_kind hmy with hk | hk
      · simp only at hk
        subst hk
        exact (entry_zero (N := 0) hWr f n ta txns.length tc (by omega) (by simp)).mono fun e w' h => ⟨h.1, by simpa [entB] using h.2.1, h.2.2⟩
      · simp only at hk
        subst hk
        obtain ⟨m1, m2⟩ := mayE_one hmy rfl
        exact (entry_one (N := N) hWr f n ta txns.length tc txns (by omega) (by simp) ((unhide HT).on (((unhide HB2).mono hN).trans (hz1.mono (by omega)))) hfe.txns m2 m1 hfe.frm hfe.num).mono fun e w' h => ⟨h.1, by simpa [entB] using h.2.1, h.2.2⟩
    have HLe := hide (entB_le hmy)
    have HZ := hide hz1
    have HSZ := hide hsz2
    have HBW : Hid (∀ w', Wrote w2.heap.size (w2.heap.size + 1) ((w2.alloc (.cells #[.slice none 0 0] 63)).alloc (.cells #[.pointer (some ⟨w2.heap.size, 0, none⟩)] 65)) w' → w'.cell? ⟨w2.heap.size + 1, 0, none⟩ = some (.pointer (some ⟨w2.heap.size, 0, none⟩)) ∧ Below w.heap.size w w') := fun w' k => by
      have e : (w2.alloc (.cells #[.slice none 0 0] 63)).heap.size = w2.heap.size + 1 := by simp
      have b1 : ((w2.alloc (.cells #[.slice none 0 0] 63)).alloc (.cells #[.pointer (some ⟨w2.heap.size, 0, none⟩)] 65)).heap[w2.heap.size + 1]? = some (.cells #[.pointer (some ⟨w2.heap.size, 0, none⟩)] 65) := by have := heap_alloc_new (w2.alloc (.cells #[.slice none 0 0] 63)) (.cells #[.pointer (some ⟨w2.heap.size, 0, none⟩)] 65); rw [e] at this; exact this
      have c1 := k.block (w2.heap.size + 1) (by simp) (by omega) (.inr fun cur e => by rw [b1] at e; cases e)
      refine ⟨?_, ?_⟩
      · rw [World.cell?_of_block (a := ⟨w2.heap.size + 1, 0, none⟩) c1, ← e, World.cell?_alloc_new]; rfl
      · exact ((unhide HB2).trans (hz1.mono hsz2)).trans (k.below (by omega) (by omega) (by simp only [World.size_alloc]; omega))
    obtain ⟨b0, b1, b2, b3⟩ := unhide HBX _ ((unhide HB1).trans (hz1.mono (by have := (unhide HB1).size; simp only [World.size_alloc] at this; omega)))
    clear hWr hz1 hsz2
    go_wp2_with fail
    refine (unhide HC).mono ?_
    rintro r w3 ⟨rfl, hw3, hwr3⟩
    obtain ⟨d0, hbl⟩ := unhide HBW w3 hwr3
    obtain ⟨xv, hxc, hxo⟩ := hw3.own
    obtain ⟨ax, cx, rfl⟩ := own_shape hxo
    have hlen := unhide HLe
    have HF : Hid (w3.ownsRow w.heap.size 5 1 (.slice ax (entB ⟨k, f, n, txns⟩).length cx) (entB ⟨k, f, n, txns⟩).length (ints .u8 (entB ⟨k, f, n, txns⟩)) ∧ Below w.heap.size w w3) := ⟨own_mono hxo (by have := unhide HSZ; omega), hbl⟩
    obtain ⟨L, hL⟩ : ∃ L, (entB ⟨k, f, n, txns⟩).length = L := ⟨_, rfl⟩
    have HL := hide hL
    rw [hL] at hxc hlen
    rw [hL] at HF
    clear hw3 hwr3 hbl hxo HC hL
    go_wp2_with fail
    go_ret2
    exact ⟨.slice ax L cx, rfl, by simpa only [if_true, unhide HL] using (unhide HF).1, (unhide HF).2⟩
end Go.Proofs.YtggllgimlfchhaaGreat

/- Record: the reader. -/
namespace Go.Proofs.YtggllgimlfchhaaGreat
open Go.RowKit
set_option maxRecDepth 100000

/-- Only block R is written. -/
structure But (R : Nat) (w w' : World) : Prop where
  os : w'.os = w.os
  tape : w'.tape = w.tape
  output : w'.output = w.output
  size : w.heap.size ≤ w'.heap.size
  block : ∀ k, k < w.heap.size → k ≠ R → w'.heap[k]? = w.heap[k]?
theorem But.refl (R : Nat) (w : World) : But R w w := ⟨rfl, rfl, rfl, Nat.le_refl _, fun _ _ _ => rfl⟩
theorem But.trans {R : Nat} {a b c : World} (h : But R a b) (k : But R b c) : But R a c :=
  ⟨k.os.trans h.os, k.tape.trans h.tape, k.output.trans h.output, Nat.le_trans h.size k.size, fun i hi hR => (k.block i (Nat.lt_of_lt_of_le hi h.size) hR).trans (h.block i hi hR)⟩
theorem But.of {R : Nat} {w w' : World} (h : Below w.heap.size w w') : But R w w' := ⟨h.os, h.tape, h.output, h.size, fun k hk _ => h.block k hk⟩
theorem But.set {R : Nat} {a w : World} (h : But R a w) (o : Nat) (u : Value) : But R a (w.setCell ⟨R, o, none⟩ u) :=
  h.trans ⟨rfl, rfl, rfl, by simp [World.setCell], fun k _ hR => Below.heap_setCell _ _ _ _ (fun e => hR e)⟩
theorem But.below {R N : Nat} {w w' : World} (h : But R w w') (hN : N ≤ R) (hs : N ≤ w.heap.size) : Below N w w' := ⟨h.os, h.tape, h.output, h.size, fun k hk => h.block k (by omega) (by omega)⟩

/-- The reader at block R: what is left, the first error, whether a number did not fit. -/
structure Rd (w : World) (R lo : Nat) (zs : List Int) (er : Int) (un : Bool) : Prop where
  cb : ∃ v, w.cell? ⟨R, 0, none⟩ = some v ∧ SeesB lo w .u8 v zs
  ce : w.cell? ⟨R, 1, none⟩ = some (.int .i64 er)
  cu : w.cell? ⟨R, 2, none⟩ = some (.bool un)
  fr : ∀ o, w.frozen? ⟨R, o, none⟩ = false
  lt : lo ≤ R
  byt : Byt zs
  len : zs.length ≤ 140737488351232
theorem Rd.rlt {w : World} {R lo : Nat} {zs : List Int} {er : Int} {un : Bool} (h : Rd w R lo zs er un) : R < w.heap.size := World.block_lt_of_cell? w _ h.ce
theorem Rd.below {w w' : World} {R lo : Nat} {zs : List Int} {er : Int} {un : Bool} (h : Rd w R lo zs er un) (hb : Below w.heap.size w w') : Rd w' R lo zs er un := by
  obtain ⟨v, h1, h2⟩ := h.cb
  have hr := h.rlt
  have hl := h.lt
  have c : ∀ o u, w.cell? ⟨R, o, none⟩ = some u → w'.cell? ⟨R, o, none⟩ = some u := fun o u e => (hb.cell (p := ⟨R, o, none⟩) hr).trans e
  exact ⟨⟨v, c _ _ h1, h2.below hb (by omega)⟩, c _ _ h.ce, c _ _ h.cu, fun o => (World.frozen?_of_block (w := w) (hb.block R hr)).trans (h.fr o), hl, h.byt, h.len⟩
theorem SeesB.setR {w : World} {R lo : Nat} {v : Value} {zs : List Int} (h : SeesB lo w .u8 v zs) (hl : lo ≤ R) (o : Nat) (u : Value) : SeesB lo (w.setCell ⟨R, o, none⟩ u) .u8 v zs :=
  h.below (B' := lo) ⟨rfl, rfl, rfl, by simp [World.setCell], fun k hk => Below.heap_setCell _ _ _ _ (fun e => by simp only at e; omega)⟩ (Nat.le_refl _)
/-- What is left, and the error, are set. -/
theorem Rd.set {w : World} {R lo : Nat} {zs zs' : List Int} {er er' : Int} {un : Bool} {v : Value} (h : Rd w R lo zs er un) (hv : SeesB lo w .u8 v zs') (hb : Byt zs') (hn : zs'.length ≤ 140737488351232) :
    Rd ((w.setCell ⟨R, 0, none⟩ v).setCell ⟨R, 1, none⟩ (.int .i64 er')) R lo zs' er' un := by
  obtain ⟨v0, h1, _⟩ := h.cb
  have n01 : (⟨R, 0, none⟩ : Addr) ≠ ⟨R, 1, none⟩ := by simp
  have n10 : (⟨R, 1, none⟩ : Addr) ≠ ⟨R, 0, none⟩ := by simp
  have n12 : (⟨R, 1, none⟩ : Addr) ≠ ⟨R, 2, none⟩ := by simp
  have n02 : (⟨R, 0, none⟩ : Addr) ≠ ⟨R, 2, none⟩ := by simp
  have e1 : (w.setCell ⟨R, 0, none⟩ v).cell? ⟨R, 1, none⟩ = some (.int .i64 er) := (World.cell?_setCell_other _ _ _ _ n01).trans h.ce
  refine ⟨⟨v, (World.cell?_setCell_other _ _ _ _ n10).trans (World.cell?_setCell_same _ _ _ h1), (hv.setR h.lt _ _).setR h.lt _ _⟩, World.cell?_setCell_same _ _ _ e1,
    (World.cell?_setCell_other _ _ _ _ n12).trans ((World.cell?_setCell_other _ _ _ _ n02).trans h.cu), fun o => ?_, h.lt, hb, hn⟩
  rw [World.frozen?_setCell, World.frozen?_setCell]
  exact h.fr o
theorem Rd.err {w : World} {R lo : Nat} {zs : List Int} {er er' : Int} {un : Bool} (h : Rd w R lo zs er un) : Rd (w.setCell ⟨R, 1, none⟩ (.int .i64 er')) R lo zs er' un := by
  obtain ⟨v0, h1, h2⟩ := h.cb
  have n10 : (⟨R, 1, none⟩ : Addr) ≠ ⟨R, 0, none⟩ := by simp
  have n12 : (⟨R, 1, none⟩ : Addr) ≠ ⟨R, 2, none⟩ := by simp
  refine ⟨⟨v0, (World.cell?_setCell_other _ _ _ _ n10).trans h1, h2.setR h.lt _ _⟩, World.cell?_setCell_same _ _ _ h.ce, (World.cell?_setCell_other _ _ _ _ n12).trans h.cu, fun o => ?_, h.lt, h.byt, h.len⟩
  rw [World.frozen?_setCell]
  exact h.fr o
theorem Rd.odd {w : World} {R lo : Nat} {zs : List Int} {er : Int} {un un' : Bool} (h : Rd w R lo zs er un) : Rd (w.setCell ⟨R, 2, none⟩ (.bool un')) R lo zs er un' := by
  obtain ⟨v0, h1, h2⟩ := h.cb
  have n20 : (⟨R, 2, none⟩ : Addr) ≠ ⟨R, 0, none⟩ := by simp
  have n21 : (⟨R, 2, none⟩ : Addr) ≠ ⟨R, 1, none⟩ := by simp
  refine ⟨⟨v0, (World.cell?_setCell_other _ _ _ _ n20).trans h1, h2.setR h.lt _ _⟩, (World.cell?_setCell_other _ _ _ _ n21).trans h.ce, World.cell?_setCell_same _ _ _ h.cu, fun o => ?_, h.lt, h.byt, h.len⟩
  rw [World.frozen?_setCell]
  exact h.fr o

/-! ### in pure terms: a reader is (what is left, the first error, unfit) -/
structure RS where
  zs : List Int
  er : Int
  un : Bool
def RS.num (s : RS) : Int × RS := if s.er = 0 then ((tn s.zs).1, ⟨s.zs.drop (tn s.zs).2.1, (tn s.zs).2.2, s.un⟩) else (0, s)
def RS.blob (s : RS) : List Int × RS := if s.er = 0 then ((tb s.zs).1, ⟨s.zs.drop (tb s.zs).2.1, (tb s.zs).2.2, s.un⟩) else ([], s)
def RS.must (s : RS) (b : Bool) : RS := if !b && decide (s.er = 0) then { s with er := 40 } else s
abbrev RdS (w : World) (R lo : Nat) (s : RS) : Prop := Rd w R lo s.zs s.er s.un

theorem tn_size (l : List Int) : (tn l).2.1 ≤ l.length := by
  by_cases h : (tn l).2.2 = 0
  · exact (tn_le l h).2
  · rw [(tn_no l h).2]; omega
theorem tb_size (l : List Int) : (tb l).2.1 ≤ l.length := by
  unfold tb
  split
  · simp
  · split
    · simp
    · rename_i h1 _
      split
      · simp
      · rename_i h2
        have := (tn_le l (by simpa using h1)).2
        simp only
        omega
/-- A row of one's own, behind a store into an elder block. -/
theorem own_setR {w : World} {base R e size : Nat} {v : Value} {n : Nat} {xs : List Value} (h : w.ownsRow base e size v n xs) (hR : R < base) (o : Nat) (u : Value) : (w.setCell ⟨R, o, none⟩ u).ownsRow base e size v n xs := by
  refine ⟨h.1, ?_⟩
  rcases h.2 with hn | ⟨g, cap, cur, hv, hg, hh, r⟩
  · exact .inl hn
  · exact .inr ⟨g, cap, cur, hv, hg, (Below.heap_setCell _ _ _ _ (fun e => by simp only at e; omega)).trans hh, r⟩

set_option maxHeartbeats 1600000 in
theorem takenNum_any {w : World} {R lo : Nat} {s : RS} (h : RdS w R lo s) :
    Calls Tryz.prog 132 #[.pointer (some ⟨R, 0, none⟩), .func (.func 133) #[] #[]] w fun e w' => e = .returned (.int .i64 s.num.1) ∧ RdS w' R lo s.num.2 ∧ But R w w' := by
  unfold RS.num
  obtain ⟨zs, er, un⟩ := s
  simp only [RdS] at h ⊢
  by_cases he : er = 0
  · subst he
    rw [if_pos rfl]
    obtain ⟨v, hv, hsb⟩ := h.cb
    have h1 := h.ce
    have hle := tn_size zs
    have HT := hide (takeNum_any v zs w hsb.sees h.byt (by have := h.len; omega))
    have HH := hide h
    have HSB := hide hsb
    obtain ⟨ao, cap, rfl, hcap, _⟩ := hsb
    have hfr := h.fr
    generalize tn zs = t at *
    obtain ⟨n, k, e⟩ := t
    simp only at hle HT ⊢
    have HD : Hid (∀ w1, Below w.heap.size w w1 → SeesB lo w1 .u8 (.slice (if cap = k then ao else ao.map (·.add k)) (zs.length - k) (cap - k)) (zs.drop k)) := fun w1 hb => by
      have hr := (unhide HH).rlt
      have hl := (unhide HH).lt
      have := ((unhide HSB).below hb (by omega)).cut k (zs.length - k) (by omega)
      rwa [List.take_of_length_le (by rw [List.length_drop]; omega)] at this
    have HB : Hid (Byt (zs.drop k) ∧ (zs.drop k).length ≤ 140737488351232) := ⟨h.byt.drop k, by have := h.len; rw [List.length_drop]; omega⟩
    have HRL := hide h.rlt
    clear h
    go_enter Tryz.func132, Tryz.ntmps132
    go_wp2_with fail
    refine (unhide HT).mono ?_
    rintro er w1 ⟨rfl, hb1⟩
    have hw1 := (unhide HH).below hb1
    have hv1 : w1.cell? ⟨R, 0, none⟩ = some (.slice ao zs.length cap) := (hb1.cell (p := ⟨R, 0, none⟩) (unhide HRL)).trans hv
    have g1 := hw1.ce
    have g2 := hw1.fr
    have hD := unhide HD w1 hb1
    have HBT := hide hb1
    by_cases hck : cap = k
    · subst hck
      rw [if_pos rfl] at hD
      have HR := hide (hw1.set (er' := e) hD (unhide HB).1 (unhide HB).2)
      have hz0 : zs.length - cap = 0 := by omega
      have hz1 : cap - cap = 0 := by omega
      rw [hz0, hz1] at HR
      have hle2 : zs.length = cap := by omega
      clear hw1 hD hv hb1 HD HH HSB HT
      go_wp2_with fail
      go_ret
      exact ⟨rfl, unhide HR, ((But.of (unhide HBT)).set 0 _).set 1 _⟩
    · rw [if_neg hck] at hD
      have HR := hide (hw1.set (er' := e) hD (unhide HB).1 (unhide HB).2)
      clear hw1 hD hv hb1 HD HH HSB HT
      go_wp2_with fail
      go_ret
      exact ⟨rfl, unhide HR, ((But.of (unhide HBT)).set 0 _).set 1 _⟩
  · rw [if_neg he]
    have h1 := h.ce
    have HH := hide h
    clear h
    go_enter Tryz.func132, Tryz.ntmps132
    go_wp2_with fail
    go_ret
    exact ⟨rfl, unhide HH, But.refl _ _⟩

set_option maxHeartbeats 1600000 in
theorem takenBlob_any {w : World} {R lo : Nat} {s : RS} (h : RdS w R lo s) :
    Calls Tryz.prog 157 #[.pointer (some ⟨R, 0, none⟩), .func (.func 158) #[] #[]] w fun e w' => ∃ x, e = .returned x ∧ w'.ownsRow w.heap.size 5 1 x s.blob.1.length (ints .u8 s.blob.1) ∧ RdS w' R lo s.blob.2 ∧ But R w w' := by
  unfold RS.blob
  obtain ⟨zs, er, un⟩ := s
  simp only [RdS] at h ⊢
  by_cases he : er = 0
  · subst he
    rw [if_pos rfl]
    obtain ⟨v, hv, hsb⟩ := h.cb
    have h1 := h.ce
    have hle := tb_size zs
    have HT := hide (takeBlob_any v zs w hsb.sees h.byt (by have := h.len; omega))
    have HH := hide h
    have HSB := hide hsb
    obtain ⟨ao, cap, rfl, hcap, _⟩ := hsb
    have hfr := h.fr
    generalize tb zs = t at *
    obtain ⟨n, k, e⟩ := t
    simp only at hle HT ⊢
    have HD : Hid (∀ w1, Below w.heap.size w w1 → SeesB lo w1 .u8 (.slice (if cap = k then ao else ao.map (·.add k)) (zs.length - k) (cap - k)) (zs.drop k)) := fun w1 hb => by
      have hr := (unhide HH).rlt
      have hl := (unhide HH).lt
      have := ((unhide HSB).below hb (by omega)).cut k (zs.length - k) (by omega)
      rwa [List.take_of_length_le (by rw [List.length_drop]; omega)] at this
    have HB : Hid (Byt (zs.drop k) ∧ (zs.drop k).length ≤ 140737488351232) := ⟨h.byt.drop k, by have := h.len; rw [List.length_drop]; omega⟩
    have HRL := hide h.rlt
    clear h
    go_enter Tryz.func157, Tryz.ntmps157
    go_wp2_with fail
    refine (unhide HT).mono ?_
    rintro er w1 ⟨x, rfl, hox, hb1⟩
    have hw1 := (unhide HH).below hb1
    have hv1 : w1.cell? ⟨R, 0, none⟩ = some (.slice ao zs.length cap) := (hb1.cell (p := ⟨R, 0, none⟩) (unhide HRL)).trans hv
    have g1 := hw1.ce
    have g2 := hw1.fr
    have hD := unhide HD w1 hb1
    have HBT := hide hb1
    have HOX : Hid (∀ u u', ((w1.setCell ⟨R, 0, none⟩ u).setCell ⟨R, 1, none⟩ u').ownsRow w.heap.size 5 1 x n.length (ints .u8 n)) := fun u u' => own_setR (own_setR hox (unhide HRL) 0 u) (unhide HRL) 1 u'
    obtain ⟨ax, cx, rfl⟩ := own_shape hox
    clear hox
    by_cases hck : cap = k
    · subst hck
      rw [if_pos rfl] at hD
      have HR := hide (hw1.set (er' := e) hD (unhide HB).1 (unhide HB).2)
      have hz0 : zs.length - cap = 0 := by omega
      have hz1 : cap - cap = 0 := by omega
      rw [hz0, hz1] at HR
      have hle2 : zs.length = cap := by omega
      clear hw1 hD hv hb1 HD HH HSB HT
      go_wp2_with fail
      go_ret
      exact ⟨.slice ax n.length cx, rfl, unhide HOX _ _, unhide HR, ((But.of (unhide HBT)).set 0 _).set 1 _⟩
    · rw [if_neg hck] at hD
      have HR := hide (hw1.set (er' := e) hD (unhide HB).1 (unhide HB).2)
      clear hw1 hD hv hb1 HD HH HSB HT
      go_wp2_with fail
      go_ret
      exact ⟨.slice ax n.length cx, rfl, unhide HOX _ _, unhide HR, ((But.of (unhide HBT)).set 0 _).set 1 _⟩
  · rw [if_neg he]
    have h1 := h.ce
    have HH := hide h
    clear h
    go_enter Tryz.func157, Tryz.ntmps157
    go_wp2_with fail
    go_ret
    exact ⟨.slice none 0 0, rfl, World.ownsRow_nil _ _ _ _, unhide HH, But.refl _ _⟩
end Go.Proofs.YtggllgimlfchhaaGreat
