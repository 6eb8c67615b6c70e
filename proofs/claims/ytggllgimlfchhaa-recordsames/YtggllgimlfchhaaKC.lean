/- Several texts as one. -/
import Derived.Test.YtggllgimlfchhaaYE
import Derived.Test.YtggllgimlfchhaaRows
import Derived.WalkKit
import Derived.ProofKit
import Derived.OpenShut
import Derived.ShutString
import Derived.ChangeOld
import Derived.Below
import Derived.SizedLaws
import Derived.JoinedCond
import Derived.Deep.Slices
import Derived.Deep.SlicePairs

/- Record: Entry. -/
namespace Go.Proofs.Ytggllgimlfchhaa
open Go.RowKit
set_option maxRecDepth 100000

structure FitE (e : EntD) : Prop where
  kind : -9223372036854775808 ≤ e.kind ∧ e.kind ≤ 9223372036854775807
  frm : -9223372036854775808 ≤ e.frm ∧ e.frm ≤ 9223372036854775807
  num : -9223372036854775808 ≤ e.num ∧ e.num ≤ 9223372036854775807
  txns : ∀ t ∈ e.txns, FitT t
  args : ∀ t ∈ e.txns, t.args.length ≤ 9223372036854775807
theorem FitE.ok {e : EntD} (h : FitE e) : OkTs e.txns := fun t ht => ⟨(h.txns t ht).code, h.args t ht⟩
/-- An entry's form. -/
def entB (e : EntD) : List Int := putL [e.kind] ++ (if e.kind = 1 then putL [e.frm, e.num] ++ (putL [(e.txns.length : Int)] ++ txnsB e.txns) else [])
theorem mayE_one {e : EntD} (h : mayE e = true) (hk : e.kind = 1) : e.txns.length ≤ 16 ∧ ∀ t ∈ e.txns, mayT t = true := by
  unfold mayE at h
  rw [if_neg (by rw [hk]; decide), if_pos hk] at h
  simp only [Bool.and_eq_true, decide_eq_true_eq] at h
  exact ⟨h.1.2, fun t ht => List.all_eq_true.1 h.2 t ht⟩
theorem mayE_kind {e : EntD} (h : mayE e = true) : e.kind = 0 ∨ e.kind = 1 := by
  unfold mayE at h
  by_cases h0 : e.kind = 0
  · exact .inl h0
  · rw [if_neg h0] at h
    by_cases h1 : e.kind = 1
    · exact .inr h1
    · rw [if_neg h1] at h; cases h
theorem entB_le {e : EntD} (h : mayE e = true) : (entB e).length ≤ 40000 := by
  have l1 := putL_le [e.kind]; have l2 := putL_le [e.frm, e.num]; have l3 := putL_le [(e.txns.length : Int)]
  unfold entB
  by_cases hk : e.kind = 1
  · obtain ⟨m1, m2⟩ := mayE_one h hk
    have l4 := txnsB_le m2
    rw [if_pos hk]
    simp only [List.length_append, List.length_cons, List.length_nil] at l1 l2 l3 l4 ⊢
    omega
  · rw [if_neg hk]
    simp only [List.length_append, List.length_cons, List.length_nil] at l1 ⊢
    omega

set_option maxHeartbeats 1600000 in
theorem entry_zero {w : World} {B lo N : Nat} {xs : List Int} (h : Wr w B lo xs) (f n : Int) (ta : Option Addr) (tl tc : Nat) (hN : N ≤ B) (hn : xs.length ≤ 4294967296) :
    Calls Try.prog 62 #[.agg #[.pointer (some ⟨B, 0, none⟩)], .agg #[.int .i64 0, .int .i64 f, .int .i64 n, .slice ta tl tc]] w fun e w' => e = .returned (.tuple #[]) ∧ Wr w' B lo (xs ++ putL [0]) ∧ Wrote B lo w w' := by
  have hlt := h.lt; have hle := h.le
  have hal : Below w.heap.size w ((w.alloc (.cells #[.pointer (some ⟨B, 0, none⟩)] 86)).alloc (.cells #[.int .i64 0, .int .i64 f, .int .i64 n, .slice ta tl tc] 24)) := ((Below.refl _ _).alloc (Nat.le_refl _) _).alloc (by simp) _
  have HBX : Hid (∀ w' : World, Wrote B lo ((w.alloc (.cells #[.pointer (some ⟨B, 0, none⟩)] 86)).alloc (.cells #[.int .i64 0, .int .i64 f, .int .i64 n, .slice ta tl tc] 24)) w' → w'.cell? ⟨w.heap.size, 0, none⟩ = some (.pointer (some ⟨B, 0, none⟩)) ∧ w'.cell? ⟨w.heap.size + 1, 0, none⟩ = some (.int .i64 0) ∧ w'.cell? ⟨w.heap.size + 1, 1, none⟩ = some (.int .i64 f) ∧ w'.cell? ⟨w.heap.size + 1, 2, none⟩ = some (.int .i64 n) ∧ w'.cell? ⟨w.heap.size + 1, 3, none⟩ = some (.slice ta tl tc)) := fun w' k => by
    have e : (w.alloc (.cells #[.pointer (some ⟨B, 0, none⟩)] 86)).heap.size = w.heap.size + 1 := by simp
    have b0 : ((w.alloc (.cells #[.pointer (some ⟨B, 0, none⟩)] 86)).alloc (.cells #[.int .i64 0, .int .i64 f, .int .i64 n, .slice ta tl tc] 24)).heap[w.heap.size]? = some (.cells #[.pointer (some ⟨B, 0, none⟩)] 86) := (Below.heap_alloc _ _ _ (by simp)).trans (heap_alloc_new w _)
    have b1 : ((w.alloc (.cells #[.pointer (some ⟨B, 0, none⟩)] 86)).alloc (.cells #[.int .i64 0, .int .i64 f, .int .i64 n, .slice ta tl tc] 24)).heap[w.heap.size + 1]? = some (.cells #[.int .i64 0, .int .i64 f, .int .i64 n, .slice ta tl tc] 24) := by have := heap_alloc_new (w.alloc (.cells #[.pointer (some ⟨B, 0, none⟩)] 86)) (.cells #[.int .i64 0, .int .i64 f, .int .i64 n, .slice ta tl tc] 24); rw [e] at this; exact this
    have c0 := k.block w.heap.size (by simp; omega) (by omega) (.inr fun cur e => by rw [b0] at e; cases e)
    have c1 := k.block (w.heap.size + 1) (by simp) (by omega) (.inr fun cur e => by rw [b1] at e; cases e)
    refine ⟨?_, ?_, ?_, ?_, ?_⟩
    · rw [World.cell?_of_block (a := ⟨w.heap.size, 0, none⟩) c0, World.cell?_alloc_lt _ _ _ (by simp), World.cell?_alloc_new]; rfl
    · rw [World.cell?_of_block (a := ⟨w.heap.size + 1, 0, none⟩) c1, ← e, World.cell?_alloc_new]; rfl
    · rw [World.cell?_of_block (a := ⟨w.heap.size + 1, 1, none⟩) c1, ← e, World.cell?_alloc_new]; rfl
    · rw [World.cell?_of_block (a := ⟨w.heap.size + 1, 2, none⟩) c1, ← e, World.cell?_alloc_new]; rfl
    · rw [World.cell?_of_block (a := ⟨w.heap.size + 1, 3, none⟩) c1, ← e, World.cell?_alloc_new]; rfl
  have HW2 : Hid (Wrote B lo w ((w.alloc (.cells #[.pointer (some ⟨B, 0, none⟩)] 86)).alloc (.cells #[.int .i64 0, .int .i64 f, .int .i64 n, .slice ta tl tc] 24))) := Wrote.of hal
  have hal2 : Below ((w.alloc (.cells #[.pointer (some ⟨B, 0, none⟩)] 86)).alloc (.cells #[.int .i64 0, .int .i64 f, .int .i64 n, .slice ta tl tc] 24)).heap.size ((w.alloc (.cells #[.pointer (some ⟨B, 0, none⟩)] 86)).alloc (.cells #[.int .i64 0, .int .i64 f, .int .i64 n, .slice ta tl tc] 24)) (((w.alloc (.cells #[.pointer (some ⟨B, 0, none⟩)] 86)).alloc (.cells #[.int .i64 0, .int .i64 f, .int .i64 n, .slice ta tl tc] 24)).alloc (.cells #[.int .i64 0] 2)) := (Below.refl _ _).alloc (Nat.le_refl _) _
  have HX0 : Hid (Wrote B lo ((w.alloc (.cells #[.pointer (some ⟨B, 0, none⟩)] 86)).alloc (.cells #[.int .i64 0, .int .i64 f, .int .i64 n, .slice ta tl tc] 24)) (((w.alloc (.cells #[.pointer (some ⟨B, 0, none⟩)] 86)).alloc (.cells #[.int .i64 0, .int .i64 f, .int .i64 n, .slice ta tl tc] 24)).alloc (.cells #[.int .i64 0] 2))) := Wrote.of hal2
  have HN1 := hide (nums_any ((h.below hal).below hal2) _ [0] (sees_lit ((w.alloc (.cells #[.pointer (some ⟨B, 0, none⟩)] 86)).alloc (.cells #[.int .i64 0, .int .i64 f, .int .i64 n, .slice ta tl tc] 24)) [0] (by simp)) (by simp) (i64_of fun x hx => by simp at hx; omega) (by have : sizeL [(0 : Int)] ≤ 9 := sizeL_le [0]; omega))
  simp only [List.length_cons, List.length_nil, Nat.reduceAdd, World.size_alloc] at HN1
  have HWB : Hid (∀ w', Wrote B lo ((w.alloc (.cells #[.pointer (some ⟨B, 0, none⟩)] 86)).alloc (.cells #[.int .i64 0, .int .i64 f, .int .i64 n, .slice ta tl tc] 24)) w' → Below N w w') := fun w' k => ((Wrote.of (B := B) (lo := lo) hal).trans k).below hN (by omega) (by omega)
  clear h hal hal2 HWB
  go_enter Try.func62, Try.ntmps62
  go_wp2_with fail
  refine (unhide HN1).mono ?_
  rintro e y1 ⟨rfl, p1, r1⟩
  have HX1 := hide ((unhide HX0).trans r1)
  obtain ⟨c0, c1, c2, c3, c4⟩ := unhide HBX y1 (unhide HX1)
  have HF : Hid (Wr y1 B lo (xs ++ putL [0]) ∧ Wrote B lo w y1) := ⟨p1, (unhide HW2).trans (unhide HX1)⟩
  clear p1 r1
  go_wp2_with fail
  go_end0
  exact ⟨rfl, unhide HF⟩

set_option maxHeartbeats 1600000 in
theorem entry_one {w : World} {B lo N : Nat} {xs : List Int} (h : Wr w B lo xs) (f n : Int) (ta : Option Addr) (tl tc : Nat) (l : List TxnD) (hN : N ≤ B) (hn : xs.length ≤ 4294967296) (hK : StTs N w (.slice ta tl tc) l) (hf : ∀ t ∈ l, FitT t) (hm : ∀ t ∈ l, mayT t = true) (hl : l.length ≤ 16)
    (hff : -9223372036854775808 ≤ f ∧ f ≤ 9223372036854775807) (hnn : -9223372036854775808 ≤ n ∧ n ≤ 9223372036854775807) :
    Calls Try.prog 62 #[.agg #[.pointer (some ⟨B, 0, none⟩)], .agg #[.int .i64 1, .int .i64 f, .int .i64 n, .slice ta tl tc]] w fun e w' => e = .returned (.tuple #[]) ∧ Wr w' B lo (xs ++ (putL [1] ++ (putL [f, n] ++ (putL [(l.length : Int)] ++ txnsB l)))) ∧ Wrote B lo w w' := by
  have hlt := h.lt; have hle := h.le
  have hal : Below w.heap.size w ((w.alloc (.cells #[.pointer (some ⟨B, 0, none⟩)] 86)).alloc (.cells #[.int .i64 1, .int .i64 f, .int .i64 n, .slice ta tl tc] 24)) := ((Below.refl _ _).alloc (Nat.le_refl _) _).alloc (by simp) _
  have HBX : Hid (∀ w' : World, Wrote B lo ((w.alloc (.cells #[.pointer (some ⟨B, 0, none⟩)] 86)).alloc (.cells #[.int .i64 1, .int .i64 f, .int .i64 n, .slice ta tl tc] 24)) w' → w'.cell? ⟨w.heap.size, 0, none⟩ = some (.pointer (some ⟨B, 0, none⟩)) ∧ w'.cell? ⟨w.heap.size + 1, 0, none⟩ = some (.int .i64 1) ∧ w'.cell? ⟨w.heap.size + 1, 1, none⟩ = some (.int .i64 f) ∧ w'.cell? ⟨w.heap.size + 1, 2, none⟩ = some (.int .i64 n) ∧ w'.cell? ⟨w.heap.size + 1, 3, none⟩ = some (.slice ta tl tc)) := fun w' k => by
    have e : (w.alloc (.cells #[.pointer (some ⟨B, 0, none⟩)] 86)).heap.size = w.heap.size + 1 := by simp
    have b0 : ((w.alloc (.cells #[.pointer (some ⟨B, 0, none⟩)] 86)).alloc (.cells #[.int .i64 1, .int .i64 f, .int .i64 n, .slice ta tl tc] 24)).heap[w.heap.size]? = some (.cells #[.pointer (some ⟨B, 0, none⟩)] 86) := (Below.heap_alloc _ _ _ (by simp)).trans (heap_alloc_new w _)
    have b1 : ((w.alloc (.cells #[.pointer (some ⟨B, 0, none⟩)] 86)).alloc (.cells #[.int .i64 1, .int .i64 f, .int .i64 n, .slice ta tl tc] 24)).heap[w.heap.size + 1]? = some (.cells #[.int .i64 1, .int .i64 f, .int .i64 n, .slice ta tl tc] 24) := by have := heap_alloc_new (w.alloc (.cells #[.pointer (some ⟨B, 0, none⟩)] 86)) (.cells #[.int .i64 1, .int .i64 f, .int .i64 n, .slice ta tl tc] 24); rw [e] at this; exact this
    have c0 := k.block w.heap.size (by simp; omega) (by omega) (.inr fun cur e => by rw [b0] at e; cases e)
    have c1 := k.block (w.heap.size + 1) (by simp) (by omega) (.inr fun cur e => by rw [b1] at e; cases e)
    refine ⟨?_, ?_, ?_, ?_, ?_⟩
    · rw [World.cell?_of_block (a := ⟨w.heap.size, 0, none⟩) c0, World.cell?_alloc_lt _ _ _ (by simp), World.cell?_alloc_new]; rfl
    · rw [World.cell?_of_block (a := ⟨w.heap.size + 1, 0, none⟩) c1, ← e, World.cell?_alloc_new]; rfl
    · rw [World.cell?_of_block (a := ⟨w.heap.size + 1, 1, none⟩) c1, ← e, World.cell?_alloc_new]; rfl
    · rw [World.cell?_of_block (a := ⟨w.heap.size + 1, 2, none⟩) c1, ← e, World.cell?_alloc_new]; rfl
    · rw [World.cell?_of_block (a := ⟨w.heap.size + 1, 3, none⟩) c1, ← e, World.cell?_alloc_new]; rfl
  have HW2 : Hid (Wrote B lo w ((w.alloc (.cells #[.pointer (some ⟨B, 0, none⟩)] 86)).alloc (.cells #[.int .i64 1, .int .i64 f, .int .i64 n, .slice ta tl tc] 24))) := Wrote.of hal
  have hal2 : Below ((w.alloc (.cells #[.pointer (some ⟨B, 0, none⟩)] 86)).alloc (.cells #[.int .i64 1, .int .i64 f, .int .i64 n, .slice ta tl tc] 24)).heap.size ((w.alloc (.cells #[.pointer (some ⟨B, 0, none⟩)] 86)).alloc (.cells #[.int .i64 1, .int .i64 f, .int .i64 n, .slice ta tl tc] 24)) (((w.alloc (.cells #[.pointer (some ⟨B, 0, none⟩)] 86)).alloc (.cells #[.int .i64 1, .int .i64 f, .int .i64 n, .slice ta tl tc] 24)).alloc (.cells #[.int .i64 1] 2)) := (Below.refl _ _).alloc (Nat.le_refl _) _
  have HX0 : Hid (Wrote B lo ((w.alloc (.cells #[.pointer (some ⟨B, 0, none⟩)] 86)).alloc (.cells #[.int .i64 1, .int .i64 f, .int .i64 n, .slice ta tl tc] 24)) (((w.alloc (.cells #[.pointer (some ⟨B, 0, none⟩)] 86)).alloc (.cells #[.int .i64 1, .int .i64 f, .int .i64 n, .slice ta tl tc] 24)).alloc (.cells #[.int .i64 1] 2))) := Wrote.of hal2
  have HN1 := hide (nums_any ((h.below hal).below hal2) _ [1] (sees_lit ((w.alloc (.cells #[.pointer (some ⟨B, 0, none⟩)] 86)).alloc (.cells #[.int .i64 1, .int .i64 f, .int .i64 n, .slice ta tl tc] 24)) [1] (by simp)) (by simp) (i64_of fun x hx => by simp at hx; omega) (by have : sizeL [(1 : Int)] ≤ 9 := sizeL_le [1]; omega))
  simp only [List.length_cons, List.length_nil, Nat.reduceAdd, World.size_alloc] at HN1
  have HWB : Hid (∀ w', Wrote B lo ((w.alloc (.cells #[.pointer (some ⟨B, 0, none⟩)] 86)).alloc (.cells #[.int .i64 1, .int .i64 f, .int .i64 n, .slice ta tl tc] 24)) w' → Below N w w') := fun w' k => ((Wrote.of (B := B) (lo := lo) hal).trans k).below hN (by omega) (by omega)
  have HK := hide hK
  have HFT := hide hf
  have HM := hide hm
  clear h hal hal2 hK hf hm
  go_enter Try.func62, Try.ntmps62
  go_wp2_with fail
  refine (unhide HN1).mono ?_
  rintro e y1 ⟨rfl, p1, r1⟩
  have HX1 := hide ((unhide HX0).trans r1)
  obtain ⟨c0, c1, c2, c3, c4⟩ := unhide HBX y1 (unhide HX1)
  have hz : Below y1.heap.size y1 (y1.alloc (.cells #[.int .i64 f, .int .i64 n] 2)) := (Below.refl _ _).alloc (Nat.le_refl _) _
  have HN2 := hide (nums_any (p1.below hz) _ [f, n] (sees_lit y1 [f, n] (by simp)) (by simp) (i64_of fun x hx => by simp at hx; rcases hx with rfl | rfl <;> omega) (by
    have l1 := putL_le [(1 : Int)]; have l2 := sizeL_le [f, n]
    simp only [List.length_append, List.length_cons, List.length_nil] at l1 l2 ⊢
    omega))
  simp only [List.length_cons, List.length_nil, Nat.reduceAdd] at HN2
  have HX1b := hide ((unhide HX1).trans (Wrote.of hz))
  clear p1 r1 hz HN1
  go_wp2_with fail
  refine (unhide HN2).mono ?_
  rintro e y2 ⟨rfl, p2, r2⟩
  have HX2 := hide ((unhide HX1b).trans r2)
  obtain ⟨g0, g1, g2, g3, g4⟩ := unhide HBX y2 (unhide HX2)
  have HN3 := hide (putTxns_any (N := N) p2 _ l hN ((unhide HK).on (unhide HWB _ (unhide HX2))) (unhide HFT) (unhide HM) hl (by
    have l1 := putL_le [(1 : Int)]; have l2 := putL_le [f, n]
    simp only [List.length_append, List.length_cons, List.length_nil] at l1 l2 ⊢
    omega))
  clear p2 r2 HN2
  go_wp2_with fail
  refine (unhide HN3).mono ?_
  rintro e y3 ⟨rfl, p3, r3⟩
  have HF : Hid (Wr y3 B lo (xs ++ (putL [1] ++ (putL [f, n] ++ (putL [(l.length : Int)] ++ txnsB l)))) ∧ Wrote B lo w y3) := ⟨by simpa only [List.append_assoc] using p3, (unhide HW2).trans ((unhide HX2).trans r3)⟩
  clear p3 r3
  go_wp2_with fail
  go_end0
  exact ⟨rfl, unhide HF⟩

set_option maxHeartbeats 3200000 in
/-- Entry. -/
theorem Entry_any (N : Nat) (cs : Array Value) (e : EntD) (w : World) (hN : N ≤ w.heap.size) (hE : ∃ tv, cs = #[.int .i64 e.kind, .int .i64 e.frm, .int .i64 e.num, tv] ∧ StTs N w tv e.txns) (hf : FitE e) :
    Calls Try.prog 35 #[.agg cs] w fun r w' => ∃ x, r = .returned (.tuple #[x, .int .i64 (if mayE e then 0 else 40)]) ∧ w'.ownsRow w.heap.size 5 1 x (if mayE e then entB e else []).length (ints .u8 (if mayE e then entB e else [])) ∧ Below w.heap.size w w' := by
  obtain ⟨k, f, n, txns⟩ := e
  obtain ⟨tv, rfl, hT⟩ := hE
  simp only at hT
  have HT := hide hT
  have HFE := hide hf
  obtain ⟨ta, tc, _, _, _, rfl, _⟩ := hT
  have hal : Below w.heap.size w (w.alloc (.cells #[.int .i64 k, .int .i64 f, .int .i64 n, .slice ta txns.length tc] 24)) := (Below.refl _ _).alloc (Nat.le_refl _) _
  have HM := hide (entryMayBe_any _ ⟨k, f, n, txns⟩ (w.alloc (.cells #[.int .i64 k, .int .i64 f, .int .i64 n, .slice ta txns.length tc] 24)) ⟨_, rfl, ((unhide HT).on (hal.mono hN)).sees⟩ hf.ok)
  simp only at HM
  have HB := hide hal
  have HBX : Hid (∀ w', Below (w.heap.size + 1) (w.alloc (.cells #[.int .i64 k, .int .i64 f, .int .i64 n, .slice ta txns.length tc] 24)) w' → w'.cell? ⟨w.heap.size, 0, none⟩ = some (.int .i64 k) ∧ w'.cell? ⟨w.heap.size, 1, none⟩ = some (.int .i64 f) ∧ w'.cell? ⟨w.heap.size, 2, none⟩ = some (.int .i64 n) ∧ w'.cell? ⟨w.heap.size, 3, none⟩ = some (.slice ta txns.length tc)) := fun w' hb => by
    refine ⟨?_, ?_, ?_, ?_⟩
    · rw [hb.cell (p := ⟨w.heap.size, 0, none⟩) (Nat.lt_succ_self _), World.cell?_alloc_new]; rfl
    · rw [hb.cell (p := ⟨w.heap.size, 1, none⟩) (Nat.lt_succ_self _), World.cell?_alloc_new]; rfl
    · rw [hb.cell (p := ⟨w.heap.size, 2, none⟩) (Nat.lt_succ_self _), World.cell?_alloc_new]; rfl
    · rw [hb.cell (p := ⟨w.heap.size, 3, none⟩) (Nat.lt_succ_self _), World.cell?_alloc_new]; rfl
  clear hal hf
  go_enter Try.func35, Try.ntmps35
  go_wp2_with fail
  refine (unhide HM).mono ?_
  rintro r w2 ⟨rfl, hb2⟩
  have HB2 : Hid (Below w.heap.size w w2) := (unhide HB).trans (hb2.mono (by simp))
  have HB1 : Hid (Below (w.heap.size + 1) (w.alloc (.cells #[.int .i64 k, .int .i64 f, .int .i64 n, .slice ta txns.length tc] 24)) w2) := hb2.mono (by simp)
  obtain ⟨c0, c1, c2, c3⟩ := unhide HBX w2 (unhide HB1)
  clear hb2 HM
  cases hmy : mayE ⟨k, f, n, txns⟩ with
  | false =>
    go_wp2_with fail
    all_goals (go_ret2; exact ⟨.slice none 0 0, rfl, World.ownsRow_nil _ _ _ _, unhide HB2⟩)
  | true =>
    have hz1 : Below w2.heap.size w2 ((w2.alloc (.cells #[.slice none 0 0] 84)).alloc (.cells #[.pointer (some ⟨w2.heap.size, 0, none⟩)] 86)) := ((Below.refl _ _).alloc (Nat.le_refl _) _).alloc (by simp) _
    have hWr : Wr ((w2.alloc (.cells #[.slice none 0 0] 84)).alloc (.cells #[.pointer (some ⟨w2.heap.size, 0, none⟩)] 86)) w2.heap.size (w2.heap.size + 1) [] := by
      have e : ((w2.alloc (.cells #[.slice none 0 0] 84)).alloc (.cells #[.pointer (some ⟨w2.heap.size, 0, none⟩)] 86)).heap[w2.heap.size]? = some (.cells #[.slice none 0 0] 84) := (Below.heap_alloc _ _ _ (by simp)).trans (heap_alloc_new w2 _)
      refine ⟨⟨.slice none 0 0, ?_, World.ownsRow_nil _ _ _ _⟩, fun o => ?_, by omega, by simp⟩
      · rw [World.cell?_alloc_lt _ _ _ (by simp), World.cell?_alloc_new]; rfl
      · rw [World.frozen?_alloc_past _ _ _ (by simp), World.frozen?_alloc_at _ _ _ _ rfl]
    have hsz2 := (unhide HB2).size
    have HC : Hid (Calls Try.prog 62 #[.agg #[.pointer (some ⟨w2.heap.size, 0, none⟩)], .agg #[.int .i64 k, .int .i64 f, .int .i64 n, .slice ta txns.length tc]] ((w2.alloc (.cells #[.slice none 0 0] 84)).alloc (.cells #[.pointer (some ⟨w2.heap.size, 0, none⟩)] 86)) fun e w' => e = .returned (.tuple #[]) ∧ Wr w' w2.heap.size (w2.heap.size + 1) (entB ⟨k, f, n, txns⟩) ∧ Wrote w2.heap.size (w2.heap.size + 1) ((w2.alloc (.cells #[.slice none 0 0] 84)).alloc (.cells #[.pointer (some ⟨w2.heap.size, 0, none⟩)] 86)) w') := by
      have hfe := unhide HFE
      rcases mayE_kind hmy with hk | hk
      · simp only at hk
        subst hk
        exact (entry_zero (N := 0) hWr f n ta txns.length tc (by omega) (by simp)).mono fun e w' h => ⟨h.1, by simpa [entB] using h.2.1, h.2.2⟩
      · simp only at hk
        subst hk
        obtain ⟨m1, m2⟩ := mayE_one hmy rfl
        exact (entry_one (N := N) hWr f n ta txns.length tc txns (by omega) (by simp) ((unhide HT).on (((unhide HB2).mono hN).trans (hz1.mono (by omega)))) hfe.txns m2 m1 hfe.frm hfe.num).mono fun e w' h => ⟨h.1, by simpa [entB] using h.2.1, h.2.2⟩
    have HLe := hide (entB_le hmy)
    have HZ := hide hz1
    have HSZ := hide hsz2
    have HBW : Hid (∀ w', Wrote w2.heap.size (w2.heap.size + 1) ((w2.alloc (.cells #[.slice none 0 0] 84)).alloc (.cells #[.pointer (some ⟨w2.heap.size, 0, none⟩)] 86)) w' → w'.cell? ⟨w2.heap.size + 1, 0, none⟩ = some (.pointer (some ⟨w2.heap.size, 0, none⟩)) ∧ Below w.heap.size w w') := fun w' k => by
      have e : (w2.alloc (.cells #[.slice none 0 0] 84)).heap.size = w2.heap.size + 1 := by simp
      have b1 : ((w2.alloc (.cells #[.slice none 0 0] 84)).alloc (.cells #[.pointer (some ⟨w2.heap.size, 0, none⟩)] 86)).heap[w2.heap.size + 1]? = some (.cells #[.pointer (some ⟨w2.heap.size, 0, none⟩)] 86) := by have := heap_alloc_new (w2.alloc (.cells #[.slice none 0 0] 84)) (.cells #[.pointer (some ⟨w2.heap.size, 0, none⟩)] 86); rw [e] at this; exact this
      have c1 := k.block (w2.heap.size + 1) (by simp) (by omega) (.inr fun cur e => by rw [b1] at e; cases e)
      refine ⟨?_, ?_⟩
      · rw [World.cell?_of_block (a := ⟨w2.heap.size + 1, 0, none⟩) c1, ← e, World.cell?_alloc_new]; rfl
      · exact ((unhide HB2).trans (hz1.mono hsz2)).trans (k.below (by omega) (by omega) (by simp only [World.size_alloc]; omega))
    obtain ⟨b0, b1, b2, b3⟩ := unhide HBX _ ((unhide HB1).trans (hz1.mono (by have := (unhide HB1).size; simp only [World.size_alloc] at this; omega)))
    clear hWr hz1 hsz2
    go_wp2_with fail
    refine (unhide HC).mono ?_
    rintro r w3 ⟨rfl, hw3, hwr3⟩
    obtain ⟨d0, hbl⟩ := unhide HBW w3 hwr3
    obtain ⟨xv, hxc, hxo⟩ := hw3.own
    obtain ⟨ax, cx, rfl⟩ := own_shape hxo
    have hlen := unhide HLe
    have HF : Hid (w3.ownsRow w.heap.size 5 1 (.slice ax (entB ⟨k, f, n, txns⟩).length cx) (entB ⟨k, f, n, txns⟩).length (ints .u8 (entB ⟨k, f, n, txns⟩)) ∧ Below w.heap.size w w3) := ⟨own_mono hxo (by have := unhide HSZ; omega), hbl⟩
    obtain ⟨L, hL⟩ : ∃ L, (entB ⟨k, f, n, txns⟩).length = L := ⟨_, rfl⟩
    have HL := hide hL
    rw [hL] at hxc hlen
    rw [hL] at HF
    clear hw3 hwr3 hbl hxo HC hL
    go_wp2_with fail
    go_ret2
    exact ⟨.slice ax L cx, rfl, by simpa only [if_true, unhide HL] using (unhide HF).1, (unhide HF).2⟩
end Go.Proofs.Ytggllgimlfchhaa

/- How entries, as the row hands them over, are seen by the walks. -/
namespace Go.Proofs.Ytggllgimlfchhaa
open Go.ChangeShapes Go.WideShapes Go.ChangeAt Go.RowKit Go.Deep
set_option maxRecDepth 100000

theorem ownK : ownKnob Try.prog.godebug = none := by kernel_rfl
theorem laidOut : laidOutB Try.prog = true := by kernel_rfl
theorem Try.cells2 : Try.prog.cellsOf 2 = 1 := by kernel_rfl
theorem Try.cells3 : Try.prog.cellsOf 3 = 1 := by kernel_rfl
theorem Try.cells21 : Try.prog.cellsOf 21 = 1 := by kernel_rfl
theorem Try.cells22 : Try.prog.cellsOf 22 = 1 := by kernel_rfl
theorem Try.cells24 : Try.prog.cellsOf 24 = 4 := by kernel_rfl
theorem Try.cells26 : Try.prog.cellsOf 26 = 1 := by kernel_rfl
theorem Try.cells32 : Try.prog.cellsOf 32 = 1 := by kernel_rfl
theorem Try.cells33 : Try.prog.cellsOf 33 = 1 := by kernel_rfl
theorem Try.cells35 : Try.prog.cellsOf 35 = 6 := by kernel_rfl
theorem Try.cells64 : Try.prog.cellsOf 64 = 2 := by kernel_rfl

section
variable {H : Type} {enc : TypeId × Value → H} {W : World}

theorem view_bytes {fuel : Nat} {cs : List Value} {x : DataW H × List MemPlace} (hf : DataW.trod enc Try.prog W 0 (fun _ => true) true fuel 26 cs = some x) : ∃ v zs, cs = [v] ∧ Sees W .u8 v zs ∧ Byt zs := by
  rcases open_ints Try.underlying26 Try.underlying5 (by kernel_rfl) hf with ⟨rfl, hx⟩ | ⟨a, len, cap, zs, rfl, _, hl, hm, hz, hx, hcell, hwz⟩
  · exact ⟨_, [], rfl, Sees.nil _ _, fun b hb => by cases hb⟩
  · simp only [if_true] at hz
    have hlen : (zs.take len).length = len := by simp; omega
    refine ⟨_, zs.take len, rfl, ⟨_, cap, by rw [hlen], by rw [hlen]; exact hl, (fun h => by cases h), fun a' h t ht => ?_⟩, fun b hb => bounds_u8 (hwz b (List.mem_of_mem_take hb))⟩
    obtain rfl := Option.some.inj h
    rw [hlen] at ht
    rw [hcell t (by omega)]
    simp [List.getD, ht]
theorem view_ints {fuel : Nat} {cs : List Value} {x : DataW H × List MemPlace} (hf : DataW.trod enc Try.prog W 0 (fun _ => true) true fuel 32 cs = some x) : ∃ v zs, cs = [v] ∧ Sees W .i64 v zs ∧ (∀ b ∈ zs, -9223372036854775808 ≤ b ∧ b ≤ 9223372036854775807) ∧ zs.length ≤ 9223372036854775807 := by
  rcases open_ints Try.underlying32 Try.underlying2 (by kernel_rfl) hf with ⟨rfl, hx⟩ | ⟨a, len, cap, zs, rfl, _, hl, hm, hz, hx, hcell, hwz⟩
  · exact ⟨_, [], rfl, Sees.nil _ _, (fun b hb => by cases hb), by simp⟩
  · simp only [if_true] at hz
    have hlen : (zs.take len).length = len := by simp; omega
    refine ⟨_, zs.take len, rfl, ⟨_, cap, by rw [hlen], by rw [hlen]; exact hl, (fun h => by cases h), fun a' h t ht => ?_⟩, fun b hb => bounds_i64 (hwz b (List.mem_of_mem_take hb)), by rw [hlen]; unfold maxLen at hm; omega⟩
    obtain rfl := Option.some.inj h
    rw [hlen] at ht
    rw [hcell t (by omega)]
    simp [List.getD, ht]

/-- A slice of parts of n cells each. -/
theorem view_list {α : Type} [Inhabited α] {T E n : Nat} (hT : Try.prog.underlying T = some (.slice E)) (hE : Try.prog.cellsOf E = n) (hn : 0 < n) (cell : α → List Value) (ok : α → Prop) (hlen : ∀ a, (cell a).length = n)
    (each : ∀ fuel cs (x : DataW H × List MemPlace), cs.length = n → DataW.trod enc Try.prog W 0 (fun _ => true) true fuel E cs = some x → ∃ a, cs = cell a ∧ ok a)
    {fuel : Nat} {cs : List Value} {x : DataW H × List MemPlace} (hf : DataW.trod enc Try.prog W 0 (fun _ => true) true fuel T cs = some x) :
    ∃ (a0 : Option Addr) (cap gb ob : Nat) (l : List α), cs = [.slice a0 l.length cap] ∧ l.length ≤ cap ∧ l.length ≤ 9223372036854775807 ∧ (0 < l.length → a0 = some ⟨gb, ob, none⟩) ∧ ∀ t, t < l.length → ok (l.getD t default) ∧ ∀ k, k < n → W.cell? ⟨gb, ob + t * n + k, none⟩ = (cell (l.getD t default))[k]? := by
  rcases open_slice hT hf with ⟨rfl, hx⟩ | ⟨a, len, c, m, fl, D, Pl, rfl, _, hl, hm, hmm, _, hx⟩
  · exact ⟨none, 0, 0, 0, [], rfl, by simp, by simp, (fun h => absurd h (by simp)), fun t h => absurd h (by simp)⟩
  · simp only [if_true] at hmm
    subst hmm
    obtain ⟨b, o, s⟩ := a
    have ea : ∀ i, i < len → ∃ q : α, ok q ∧ ∀ k, k < n → W.cell? ((⟨b, o, s⟩ : Addr).add (i * n + k)) = (cell q)[k]? := by
      intro i hi
      obtain ⟨cs', h1, h2⟩ := hx i (by omega)
      rw [hE] at h1
      obtain ⟨_, hlen', hcell⟩ := World.cells?_some h1
      obtain ⟨q, rfl, hq⟩ := each _ _ _ hlen' h2
      refine ⟨q, hq, fun k hk => ?_⟩
      have := hcell k hk
      rw [add_add] at this
      exact this
    obtain ⟨q, hq⟩ := choose_lt ea
    have hll : ((List.range len).map q).length = len := by simp
    have hget : ∀ t, t < len → ((List.range len).map q).getD t default = q t := fun t ht => by simp [List.getD, ht]
    have hspot : 0 < len → s = none := fun h0 => by
      have h1 := (hq 0 h0).2 0 hn
      have h2 : (cell (q 0))[0]? = some ((cell (q 0))[0]'(by rw [hlen]; exact hn)) := List.getElem?_eq_getElem _
      rw [h2] at h1
      simpa [Addr.add] using World.cell?_spot h1
    refine ⟨some ⟨b, o, s⟩, _, b, o, (List.range len).map q, by rw [hll], by rw [hll]; exact hl, by rw [hll]; unfold maxLen at hm; omega, fun h0 => ?_, fun t ht => ?_⟩
    · rw [hll] at h0
      rw [hspot h0]
    · rw [hll] at ht
      rw [hget t ht]
      have hs := hspot (by omega)
      subst hs
      have ad : ∀ j, (⟨b, o, none⟩ : Addr).add j = ⟨b, o + j, none⟩ := fun j => by unfold Addr.add; split <;> simp_all
      exact ⟨(hq t ht).1, fun k hk => by rw [← (hq t ht).2 k hk, ad, Nat.add_assoc]⟩

theorem list2 {α : Type} {l : List α} (h : l.length = 2) : ∃ a b, l = [a, b] := by
  match l, h with
  | [a, b], _ => exact ⟨a, b, rfl⟩
theorem list4 {α : Type} {l : List α} (h : l.length = 4) : ∃ a b c d, l = [a, b, c, d] := by
  match l, h with
  | [a, b, c, d], _ => exact ⟨a, b, c, d, rfl⟩
theorem list6 {α : Type} {l : List α} (h : l.length = 6) : ∃ a b c d e f, l = [a, b, c, d, e, f] := by
  match l, h with
  | [a, b, c, d, e, f], _ => exact ⟨a, b, c, d, e, f, rfl⟩

theorem view_key {fuel : Nat} {cs : List Value} {x : DataW H × List MemPlace} (hl : cs.length = 2) (hf : DataW.trod enc Try.prog W 0 (fun _ => true) true fuel 64 cs = some x) : ∃ k : Int × Int, cs = [.int .i32 k.1, .int .i64 k.2] ∧ ((-2147483648 ≤ k.1 ∧ k.1 ≤ 2147483647) ∧ (-9223372036854775808 ≤ k.2 ∧ k.2 ≤ 9223372036854775807)) := by
  obtain ⟨xs, n, _, rfl, _, hxl, hg⟩ := DataW.trod_struct Try.underlying64 hf
  obtain ⟨y0, y1, rfl⟩ := list2 hxl
  obtain ⟨v0, v1, rfl⟩ := list2 hl
  have g0 := hg 0 _ rfl
  have g1 := hg 1 _ rfl
  simp [Try.cells21, Try.cells2] at g0 g1
  obtain ⟨n0, e0, _, w0⟩ := DataW.trod_int Try.underlying21 g0
  obtain ⟨n1, e1, _, w1⟩ := DataW.trod_int Try.underlying2 g1
  simp only [List.cons.injEq, and_true] at e0 e1
  subst e0 e1
  exact ⟨(n0, n1), rfl, bounds_i32 w0, bounds_i64 w1⟩
theorem view_keys {fuel : Nat} {cs : List Value} {x : DataW H × List MemPlace} (hf : DataW.trod enc Try.prog W 0 (fun _ => true) true fuel 33 cs = some x) : ∃ v l, cs = [v] ∧ SeesK W v l ∧ OkK l := by
  obtain ⟨a0, cap, gb, ob, l, rfl, h1, h2, h3, h4⟩ := view_list (α := Int × Int) Try.underlying33 Try.cells64 (by decide) (fun k => [.int .i32 k.1, .int .i64 k.2]) (fun k => (-2147483648 ≤ k.1 ∧ k.1 ≤ 2147483647) ∧ (-9223372036854775808 ≤ k.2 ∧ k.2 ≤ 9223372036854775807)) (fun _ => rfl) (fun _ _ _ hl hf => view_key hl hf) hf
  refine ⟨_, l, rfl, ⟨a0, cap, gb, ob, rfl, h1, h2, h3, fun t ht => ⟨(h4 t ht).2 0 (by omega), (h4 t ht).2 1 (by omega)⟩⟩, fun k hk => ?_⟩
  obtain ⟨i, hi, rfl⟩ := List.getElem_of_mem hk
  have := (h4 i hi).1
  have e : l.getD i default = l[i] := by simp [List.getD, hi]
  rw [e] at this
  exact this

abbrev TV := TxnD × Value × Value × Value × Value
instance : Inhabited TV := ⟨(dT, .slice none 0 0, .slice none 0 0, .slice none 0 0, .slice none 0 0)⟩
theorem view_txn {fuel : Nat} {cs : List Value} {x : DataW H × List MemPlace} (hl : cs.length = 6) (hf : DataW.trod enc Try.prog W 0 (fun _ => true) true fuel 35 cs = some x) :
    ∃ p : TV, cs = [.int .i64 p.1.ses, .int .i64 p.1.req, p.2.1, p.2.2.1, p.2.2.2.1, p.2.2.2.2] ∧ (SeesT W #[.int .i64 p.1.ses, .int .i64 p.1.req, p.2.1, p.2.2.1, p.2.2.2.1, p.2.2.2.2] p.1 ∧ FitT p.1 ∧ p.1.args.length ≤ 9223372036854775807) := by
  obtain ⟨xs, n, _, rfl, _, hxl, hg⟩ := DataW.trod_struct Try.underlying35 hf
  obtain ⟨y0, y1, y2, y3, y4, y5, rfl⟩ := list6 hxl
  obtain ⟨v0, v1, v2, v3, v4, v5, rfl⟩ := list6 hl
  have g0 := hg 0 _ rfl
  have g1 := hg 1 _ rfl
  have g2 := hg 2 _ rfl
  have g3 := hg 3 _ rfl
  have g4 := hg 4 _ rfl
  have g5 := hg 5 _ rfl
  simp [Try.cells2, Try.cells26, Try.cells32, Try.cells33] at g0 g1 g2 g3 g4 g5
  obtain ⟨n0, e0, _, w0⟩ := DataW.trod_int Try.underlying2 g0
  obtain ⟨n1, e1, _, w1⟩ := DataW.trod_int Try.underlying2 g1
  obtain ⟨u2, zs, e2, hs2, hb2⟩ := view_bytes g2
  obtain ⟨u3, az, e3, hs3, hb3, hl3⟩ := view_ints g3
  obtain ⟨u4, rs, e4, hs4, hb4⟩ := view_keys g4
  obtain ⟨u5, ws, e5, hs5, hb5⟩ := view_keys g5
  simp only [List.cons.injEq, and_true] at e0 e1 e2 e3 e4 e5
  subst e0 e1 e2 e3 e4 e5
  exact ⟨(⟨n0, n1, zs, az, rs, ws⟩, v2, v3, v4, v5), rfl, ⟨_, _, _, _, rfl, hs2, hs3, hs4, hs5⟩, ⟨bounds_i64 w0, bounds_i64 w1, hb2, hb3, hb4, hb5⟩, hl3⟩
theorem view_txns {fuel : Nat} {cs : List Value} {x : DataW H × List MemPlace} (hf : DataW.trod enc Try.prog W 0 (fun _ => true) true fuel 22 cs = some x) : ∃ v l, cs = [v] ∧ SeesTs W v l ∧ (∀ t ∈ l, FitT t) ∧ ∀ t ∈ l, t.args.length ≤ 9223372036854775807 := by
  obtain ⟨a0, cap, gb, ob, l, rfl, h1, h2, h3, h4⟩ := view_list (α := TV) Try.underlying22 Try.cells35 (by decide) (fun p => [.int .i64 p.1.ses, .int .i64 p.1.req, p.2.1, p.2.2.1, p.2.2.2.1, p.2.2.2.2]) (fun p => SeesT W #[.int .i64 p.1.ses, .int .i64 p.1.req, p.2.1, p.2.2.1, p.2.2.2.1, p.2.2.2.2] p.1 ∧ FitT p.1 ∧ p.1.args.length ≤ 9223372036854775807) (fun _ => rfl) (fun _ _ _ hl hf => view_txn hl hf) hf
  have hm : ∀ t ∈ l.map (·.1), FitT t ∧ t.args.length ≤ 9223372036854775807 := fun t ht => by
    obtain ⟨p, hp, rfl⟩ := List.mem_map.1 ht
    obtain ⟨i, hi, rfl⟩ := List.getElem_of_mem hp
    have := (h4 i hi).1
    have e : l.getD i default = l[i] := by simp [List.getD, hi]
    rw [e] at this
    exact this.2
  refine ⟨_, l.map (·.1), rfl, ⟨a0, cap, gb, ob, by simp, by simpa using h1, by simpa using h2, by simpa using h3, fun t ht => ?_⟩, fun t ht => (hm t ht).1, fun t ht => (hm t ht).2⟩
  have htl : t < l.length := by simpa using ht
  obtain ⟨hk, hc⟩ := h4 t htl
  have e : l.getD t default = l[t] := by simp [List.getD, htl]
  have e2 : (l.map (·.1)).getD t dT = l[t].1 := by simp [List.getD, htl]
  rw [e] at hk hc
  rw [e2]
  exact ⟨_, _, _, _, hc 0 (by omega), hc 1 (by omega), hc 2 (by omega), hc 3 (by omega), hc 4 (by omega), hc 5 (by omega), hk.1⟩
/-- An entry as an argument. -/
theorem view_entry {r : Reach} {b0 : Nat} {v : Value} {d : DataW H} {p : List MemPlace} (hval : Value.okWide Try.prog W r b0 24 v) (hf : DataW.Trod enc Try.prog W 0 (fun _ => true) true 24 v d p) : ∃ cs e, v = .agg cs ∧ SeesE W cs e ∧ FitE e := by
  obtain ⟨cs, rfl, hsz⟩ := okWide_struct Try.underlying24 hval
  obtain ⟨fuel, hf⟩ := hf
  rw [Try.cells24] at hsz
  have e : (Value.agg cs).cells.toList = cs.toList := by simp [Value.cells]
  rw [e] at hf
  obtain ⟨xs, n, _, _, _, hxl, hg⟩ := DataW.trod_struct Try.underlying24 hf
  obtain ⟨y0, y1, y2, y3, rfl⟩ := list4 hxl
  obtain ⟨v0, v1, v2, v3, hcs⟩ := list4 (l := cs.toList) (by simpa using hsz)
  rw [hcs] at hg
  have g0 := hg 0 _ rfl
  have g1 := hg 1 _ rfl
  have g2 := hg 2 _ rfl
  have g3 := hg 3 _ rfl
  simp [Try.cells2, Try.cells3, Try.cells22] at g0 g1 g2 g3
  obtain ⟨n0, e0, _, w0⟩ := DataW.trod_int Try.underlying3 g0
  obtain ⟨n1, e1, _, w1⟩ := DataW.trod_int Try.underlying3 g1
  obtain ⟨n2, e2, _, w2⟩ := DataW.trod_int Try.underlying2 g2
  obtain ⟨u3, l, e3, hs, hft, hfa⟩ := view_txns g3
  simp only [List.cons.injEq, and_true] at e0 e1 e2 e3
  subst e0 e1 e2 e3
  refine ⟨cs, ⟨n0, n1, n2, l⟩, rfl, ⟨v3, ?_, hs⟩, ⟨bounds_i64 w0, bounds_i64 w1, bounds_i64 w2, hft, hfa⟩⟩
  have : cs = (cs.toList).toArray := by simp
  rw [this, hcs]
/-- A transaction as an argument. -/
theorem view_txnA {r : Reach} {b0 : Nat} {v : Value} {d : DataW H} {p : List MemPlace} (hval : Value.okWide Try.prog W r b0 35 v) (hf : DataW.Trod enc Try.prog W 0 (fun _ => true) true 35 v d p) : ∃ cs t, v = .agg cs ∧ SeesT W cs t ∧ FitT t ∧ t.args.length ≤ 9223372036854775807 := by
  obtain ⟨cs, rfl, hsz⟩ := okWide_struct Try.underlying35 hval
  obtain ⟨fuel, hf⟩ := hf
  rw [Try.cells35] at hsz
  have e : (Value.agg cs).cells.toList = cs.toList := by simp [Value.cells]
  rw [e] at hf
  obtain ⟨q, hq, hs, hft, hl⟩ := view_txn (by simpa using hsz) hf
  refine ⟨cs, q.1, rfl, ?_, hft, hl⟩
  have : cs = (cs.toList).toArray := by simp
  rw [this, hq]
  exact hs
end
end Go.Proofs.Ytggllgimlfchhaa
