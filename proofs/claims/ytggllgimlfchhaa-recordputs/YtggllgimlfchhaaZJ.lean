/- Record: the simplest batch. -/
import Derived.Test.YtggllgimlfchhaaKG
namespace Go.Proofs.Ytggllgimlfchhaa
open Go.RowKit
set_option maxRecDepth 100000

def t1 : TxnD := ⟨1, 3, [], [], [], []⟩
def x1 : EntD := ⟨1, 2, 5, [t1]⟩
def want : List Int := [2, 1, 2, 2, 2, 5, 2, 1, 2, 1, 2, 3, 0, 0, 0, 0]
theorem x1_may : mayE x1 = true := by decide
theorem x1_form : entB x1 = want := by decide
theorem x1_read : takeE want = (x1, 0) := by decide

theorem seesK_nil (w : World) : SeesK w (.slice none 0 0) [] := ⟨none, 0, 0, 0, rfl, Nat.le_refl _, by simp, fun h => absurd h (by simp), fun t h => absurd h (by simp)⟩
set_option maxHeartbeats 1600000 in
theorem simple_any (w : World) : Calls Try.prog 34 #[] w fun e w' => ∃ ta tc bv, e = .returned (.tuple #[.agg #[.int .i64 1, .int .i64 2, .int .i64 5, .slice ta 1 tc], bv]) ∧ SeesTs w' (.slice ta 1 tc) [t1] ∧ Sees w' .u8 bv want ∧ Below w.heap.size w w' := by
  have hal : Below w.heap.size w (((w.alloc (.cells #[.int .i64 1, .int .i64 2, .int .i64 5, .slice (some ⟨w.heap.size + 1, 0, none⟩) 1 1] 24)).alloc (.cells #[.int .i64 1, .int .i64 3, .slice none 0 0, .slice none 0 0, .slice none 0 0, .slice none 0 0] 35)).alloc (.cells (ints .u8 want).toArray 5)) := (((Below.refl _ _).alloc (Nat.le_refl _) _).alloc (by simp) _).alloc (by simp; omega) _
  have e1 : (w.alloc (.cells #[.int .i64 1, .int .i64 2, .int .i64 5, .slice (some ⟨w.heap.size + 1, 0, none⟩) 1 1] 24)).heap.size = w.heap.size + 1 := by simp
  have e2 : ((w.alloc (.cells #[.int .i64 1, .int .i64 2, .int .i64 5, .slice (some ⟨w.heap.size + 1, 0, none⟩) 1 1] 24)).alloc (.cells #[.int .i64 1, .int .i64 3, .slice none 0 0, .slice none 0 0, .slice none 0 0, .slice none 0 0] 35)).heap.size = w.heap.size + 1 + 1 := by simp
  have h0 : (((w.alloc (.cells #[.int .i64 1, .int .i64 2, .int .i64 5, .slice (some ⟨w.heap.size + 1, 0, none⟩) 1 1] 24)).alloc (.cells #[.int .i64 1, .int .i64 3, .slice none 0 0, .slice none 0 0, .slice none 0 0, .slice none 0 0] 35)).alloc (.cells (ints .u8 want).toArray 5)).heap[w.heap.size]? = some (.cells #[.int .i64 1, .int .i64 2, .int .i64 5, .slice (some ⟨w.heap.size + 1, 0, none⟩) 1 1] 24) := (Below.heap_alloc _ _ _ (by simp; omega)).trans ((Below.heap_alloc _ _ _ (by simp)).trans (heap_alloc_new w _))
  have h1 : (((w.alloc (.cells #[.int .i64 1, .int .i64 2, .int .i64 5, .slice (some ⟨w.heap.size + 1, 0, none⟩) 1 1] 24)).alloc (.cells #[.int .i64 1, .int .i64 3, .slice none 0 0, .slice none 0 0, .slice none 0 0, .slice none 0 0] 35)).alloc (.cells (ints .u8 want).toArray 5)).heap[w.heap.size + 1]? = some (.cells #[.int .i64 1, .int .i64 3, .slice none 0 0, .slice none 0 0, .slice none 0 0, .slice none 0 0] 35) := (Below.heap_alloc _ _ _ (by simp)).trans (by have := heap_alloc_new (w.alloc (.cells #[.int .i64 1, .int .i64 2, .int .i64 5, .slice (some ⟨w.heap.size + 1, 0, none⟩) 1 1] 24)) (.cells #[.int .i64 1, .int .i64 3, .slice none 0 0, .slice none 0 0, .slice none 0 0, .slice none 0 0] 35); rw [e1] at this; exact this)
  have hs : Sees (((w.alloc (.cells #[.int .i64 1, .int .i64 2, .int .i64 5, .slice (some ⟨w.heap.size + 1, 0, none⟩) 1 1] 24)).alloc (.cells #[.int .i64 1, .int .i64 3, .slice none 0 0, .slice none 0 0, .slice none 0 0, .slice none 0 0] 35)).alloc (.cells (ints .u8 want).toArray 5)) .u8 (.slice (some ⟨w.heap.size + 1 + 1, 0, none⟩) 16 16) want := by
    have := (sees_of_own (own_new ((w.alloc (.cells #[.int .i64 1, .int .i64 2, .int .i64 5, .slice (some ⟨w.heap.size + 1, 0, none⟩) 1 1] 24)).alloc (.cells #[.int .i64 1, .int .i64 3, .slice none 0 0, .slice none 0 0, .slice none 0 0, .slice none 0 0] 35)) .u8 want 5 0 16 rfl (by omega) (by unfold maxLen; omega))).2
    rw [e2] at this
    exact this
  have hts : SeesTs (((w.alloc (.cells #[.int .i64 1, .int .i64 2, .int .i64 5, .slice (some ⟨w.heap.size + 1, 0, none⟩) 1 1] 24)).alloc (.cells #[.int .i64 1, .int .i64 3, .slice none 0 0, .slice none 0 0, .slice none 0 0, .slice none 0 0] 35)).alloc (.cells (ints .u8 want).toArray 5)) (.slice (some ⟨w.heap.size + 1, 0, none⟩) 1 1) [t1] := by
    refine ⟨some ⟨w.heap.size + 1, 0, none⟩, 1, w.heap.size + 1, 0, rfl, Nat.le_refl _, by simp, fun _ => rfl, fun t ht => ?_⟩
    obtain rfl : t = 0 := by simpa using ht
    exact ⟨_, _, _, _, cell_of_heap h1, cell_of_heap h1, cell_of_heap h1, cell_of_heap h1, cell_of_heap h1, cell_of_heap h1, _, _, _, _, rfl, Sees.nil _ _, Sees.nil _ _, seesK_nil _, seesK_nil _⟩
  have HH := hide (And.intro h0 (And.intro hs (And.intro hts hal)))
  clear hal h0 h1 hs hts e1 e2
  go_enter Try.func34, Try.ntmps34
  go_wp2_with fail
  refine bodyPost_ret (results_cell_row_tmp rfl _ _ w.heap.size 24 #[.int .i64 1, .int .i64 2, .int .i64 5, .slice (some ⟨w.heap.size + 1, 0, none⟩) 1 1] (0, 0) _ rfl (unhide HH).1 Try.underlying24 rfl (by kernel_rfl)) rfl ?_
  exact ⟨_, _, _, rfl, (unhide HH).2.2.1, (unhide HH).2.1, (unhide HH).2.2.2⟩

theorem x1_fit : FitE x1 := by
  refine ⟨by decide, by decide, by decide, fun t ht => ?_, fun t ht => ?_⟩
  · simp only [x1, List.mem_singleton] at ht
    subst ht
    exact ⟨by decide, by decide, (fun b hb => by cases hb), (fun b hb => by cases hb), (fun b hb => by cases hb), (fun b hb => by cases hb)⟩
  · simp only [x1, List.mem_singleton] at ht
    subst ht
    decide
theorem want_byt : Byt want := by
  intro b hb
  simp only [want, List.mem_cons, List.not_mem_nil, or_false] at hb
  omega

set_option maxHeartbeats 3200000 in
theorem begun_any (w : World) : Calls Try.prog 9 #[] w fun e w' => e = .returned (.bool true) ∧ Below w.heap.size w w' := by
  go_enter Try.func9, Try.ntmps9
  go_wp2_with fail
  refine (simple_any w).mono ?_
  rintro e w1 ⟨ta, tc, bv, rfl, hts, hbs, hb1⟩
  obtain ⟨ab, cb, rfl, _⟩ := id hbs
  have hal : Below w1.heap.size w1 (w1.alloc (.cells #[.int .i64 1, .int .i64 2, .int .i64 5, .slice ta 1 tc] 24)) := (Below.refl _ _).alloc (Nat.le_refl _) _
  have hts1 := hts.below hal
  have HE := hide (Entry_any (w1.alloc (.cells #[.int .i64 1, .int .i64 2, .int .i64 5, .slice ta 1 tc] 24)).heap.size #[.int .i64 1, .int .i64 2, .int .i64 5, .slice ta 1 tc] x1 (w1.alloc (.cells #[.int .i64 1, .int .i64 2, .int .i64 5, .slice ta 1 tc] 24)) (Nat.le_refl _) ⟨_, rfl, StTs.of hts1⟩ x1_fit)
  rw [x1_may] at HE
  simp only [if_true, x1_form] at HE
  have HBx : Hid (∀ w', Below (w1.alloc (.cells #[.int .i64 1, .int .i64 2, .int .i64 5, .slice ta 1 tc] 24)).heap.size (w1.alloc (.cells #[.int .i64 1, .int .i64 2, .int .i64 5, .slice ta 1 tc] 24)) w' → w'.cell? ⟨w1.heap.size, 0, none⟩ = some (.int .i64 1) ∧ w'.cell? ⟨w1.heap.size, 1, none⟩ = some (.int .i64 2) ∧ w'.cell? ⟨w1.heap.size, 2, none⟩ = some (.int .i64 5) ∧ w'.cell? ⟨w1.heap.size, 3, none⟩ = some (.slice ta 1 tc)) := fun w' hb => by
    have hx : w'.heap[w1.heap.size]? = some (.cells #[.int .i64 1, .int .i64 2, .int .i64 5, .slice ta 1 tc] 24) := (hb.block _ (by simp)).trans (heap_alloc_new w1 _)
    exact ⟨cell_of_heap hx, cell_of_heap hx, cell_of_heap hx, cell_of_heap hx⟩
  have HTS : Hid (∀ w', Below (w1.alloc (.cells #[.int .i64 1, .int .i64 2, .int .i64 5, .slice ta 1 tc] 24)).heap.size (w1.alloc (.cells #[.int .i64 1, .int .i64 2, .int .i64 5, .slice ta 1 tc] 24)) w' → SeesTs w' (.slice ta 1 tc) [t1]) := fun w' hb => hts1.below hb
  have HBS : Hid (∀ w', Below (w1.alloc (.cells #[.int .i64 1, .int .i64 2, .int .i64 5, .slice ta 1 tc] 24)).heap.size (w1.alloc (.cells #[.int .i64 1, .int .i64 2, .int .i64 5, .slice ta 1 tc] 24)) w' → Sees w' .u8 (.slice ab want.length cb) want) := fun w' hb => (hbs.below hal).below hb
  have HB1 : Hid (Below w.heap.size w (w1.alloc (.cells #[.int .i64 1, .int .i64 2, .int .i64 5, .slice ta 1 tc] 24))) := hb1.trans (hal.mono hb1.size)
  clear hts hbs hb1 hal hts1
  go_wp2_with fail
  refine (unhide HE).mono ?_
  rintro e w2 ⟨x, rfl, hox, hb2⟩
  obtain ⟨ax, cx, rfl⟩ := own_shape hox
  have HX := hide hox
  have HB2 := hide hb2
  have HT := hide (TakeEntry_any _ want w2 (unhide HBS w2 hb2) want_byt (by decide))
  rw [x1_read] at HT
  simp only at HT
  clear hox hb2 HE
  go_wp2_with fail
  refine (unhide HT).mono ?_
  rintro e w3 ⟨cs, rfl, hoe, hb3⟩
  obtain ⟨tv, rfl, hot⟩ := hoe
  obtain ⟨at3, ct3, rfl⟩ := hot.shape
  have hrt : ∀ t ∈ x1.txns, ReadT t := fun t ht => by
    simp only [x1, List.mem_singleton] at ht
    subst ht
    exact ⟨(fun b hb => by cases hb), by decide, by decide, by decide⟩
  have hst := hot.sees (by decide) hrt
  have hal3 : Below w3.heap.size w3 (w3.alloc (.cells #[.int .i64 1, .int .i64 2, .int .i64 5, .slice at3 1 ct3] 24)) := (Below.refl _ _).alloc (Nat.le_refl _) _
  have hb2' := unhide HB2
  have hb23 : Below (w1.alloc (.cells #[.int .i64 1, .int .i64 2, .int .i64 5, .slice ta 1 tc] 24)).heap.size (w1.alloc (.cells #[.int .i64 1, .int .i64 2, .int .i64 5, .slice ta 1 tc] 24)) (w3.alloc (.cells #[.int .i64 1, .int .i64 2, .int .i64 5, .slice at3 1 ct3] 24)) := hb2'.trans ((hb3.mono hb2'.size).trans (hal3.mono (Nat.le_trans hb2'.size hb3.size)))
  have hQ := equal_any _ _ want want (w3.alloc (.cells #[.int .i64 1, .int .i64 2, .int .i64 5, .slice at3 1 ct3] 24)) (((sees_of_own (unhide HX)).2.below hb3).below hal3) (unhide HBS _ hb23) want_byt want_byt
  have HQ := hide hQ
  have hok : OkTs x1.txns := x1_fit.ok
  have HS := hide (refSameEntry_any #[.int .i64 1, .int .i64 2, .int .i64 5, .slice ta 1 tc] #[.int .i64 1, .int .i64 2, .int .i64 5, .slice at3 1 ct3] x1 x1 _ ⟨_, rfl, unhide HTS _ hb23⟩ ⟨_, rfl, hst.below hal3⟩ hok hok)
  obtain ⟨c0, c1, c2, c3⟩ := unhide HBx _ hb23
  have HF : Hid (Below w.heap.size w (w3.alloc (.cells #[.int .i64 1, .int .i64 2, .int .i64 5, .slice at3 1 ct3] 24))) := (unhide HB1).trans (hb23.mono (unhide HB1).size)
  clear hot hb3 hst hal3 hb2' hb23 hQ hrt hok HT
  simp only [decide_true] at HQ HS
  go_wp2_with fail
  refine (unhide HQ).mono ?_
  rintro e w4 ⟨rfl, rfl⟩
  go_wp2_with fail
  refine (unhide HS).mono ?_
  rintro e w5 ⟨rfl, hb5⟩
  have HG : Hid (Below w.heap.size w w5) := (unhide HF).trans (hb5.mono (unhide HF).size)
  clear hb5
  go_wp2_with fail
  go_ret
  exact ⟨rfl, unhide HG⟩
end Go.Proofs.Ytggllgimlfchhaa
