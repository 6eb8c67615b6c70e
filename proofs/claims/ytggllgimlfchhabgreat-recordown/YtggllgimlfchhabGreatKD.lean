/- Several texts as one. -/
import Derived.Test.YtggllgimlfchhabGreatKZ33
import Derived.Test.YtggllgimlfchhabGreatKC
import Derived.Laws.Tables

/- Record: the simplest batch. -/
namespace Go.Proofs.YtggllgimlfchhabGreat
open Go.RowKit
set_option maxRecDepth 100000

def t1 : TxnD := ⟨1, 3, [], [], [], []⟩
def x1 : EntD := ⟨1, 2, 5, [t1]⟩
def want : List Int := [2, 1, 2, 2, 2, 5, 2, 1, 2, 1, 2, 3, 0, 0, 0, 0]
theorem x1_may : mayE x1 = true := by decide
theorem x1_form : entB x1 = want := by decide
theorem x1_read : takeE want = (x1, 0) := by decide

theorem seesK_nil (w : World) : SeesK w (.slice none 0 0) [] := ⟨none, 0, 0, 0, rfl, Nat.le_refl _, by simp, fun h => absurd h (by simp), fun t h => absurd h (by simp)⟩
set_option maxHeartbeats 1600000 in
theorem simple_any (w : World) : Calls Tryz.prog 22 #[] w fun e w' => ∃ ta tc bv, e = .returned (.tuple #[.agg #[.int .i64 1, .int .i64 2, .int .i64 5, .slice ta 1 tc], bv]) ∧ SeesTs w' (.slice ta 1 tc) [t1] ∧ Sees w' .u8 bv want ∧ Below w.heap.size w w' := by
  have hal : Below w.heap.size w (((w.alloc (.cells #[.int .i64 1, .int .i64 2, .int .i64 5, .slice (some ⟨w.heap.size + 1, 0, none⟩) 1 1] 24)).alloc (.cells #[.int .i64 1, .int .i64 3, .slice none 0 0, .slice none 0 0, .slice none 0 0, .slice none 0 0] 70)).alloc (.cells (ints .u8 want).toArray 5)) := (((Below.refl _ _).alloc (Nat.le_refl _) _).alloc (by simp) _).alloc (by simp; omega) _
  have e1 : (w.alloc (.cells #[.int .i64 1, .int .i64 2, .int .i64 5, .slice (some ⟨w.heap.size + 1, 0, none⟩) 1 1] 24)).heap.size = w.heap.size + 1 := by simp
  have e2 : ((w.alloc (.cells #[.int .i64 1, .int .i64 2, .int .i64 5, .slice (some ⟨w.heap.size + 1, 0, none⟩) 1 1] 24)).alloc (.cells #[.int .i64 1, .int .i64 3, .slice none 0 0, .slice none 0 0, .slice none 0 0, .slice none 0 0] 70)).heap.size = w.heap.size + 1 + 1 := by simp
  have h0 : (((w.alloc (.cells #[.int .i64 1, .int .i64 2, .int .i64 5, .slice (some ⟨w.heap.size + 1, 0, none⟩) 1 1] 24)).alloc (.cells #[.int .i64 1, .int .i64 3, .slice none 0 0, .slice none 0 0, .slice none 0 0, .slice none 0 0] 70)).alloc (.cells (ints .u8 want).toArray 5)).heap[w.heap.size]? = some (.cells #[.int .i64 1, .int .i64 2, .int .i64 5, .slice (some ⟨w.heap.size + 1, 0, none⟩) 1 1] 24) := (Below.heap_alloc _ _ _ (by simp; omega)).trans ((Below.heap_alloc _ _ _ (by simp)).trans (heap_alloc_new w _))
  have h1 : (((w.alloc (.cells #[.int .i64 1, .int .i64 2, .int .i64 5, .slice (some ⟨w.heap.size + 1, 0, none⟩) 1 1] 24)).alloc (.cells #[.int .i64 1, .int .i64 3, .slice none 0 0, .slice none 0 0, .slice none 0 0, .slice none 0 0] 70)).alloc (.cells (ints .u8 want).toArray 5)).heap[w.heap.size + 1]? = some (.cells #[.int .i64 1, .int .i64 3, .slice none 0 0, .slice none 0 0, .slice none 0 0, .slice none 0 0] 70) := (Below.heap_alloc _ _ _ (by simp)).trans (by have := heap_alloc_new (w.alloc (.cells #[.int .i64 1, .int .i64 2, .int .i64 5, .slice (some ⟨w.heap.size + 1, 0, none⟩) 1 1] 24)) (.cells #[.int .i64 1, .int .i64 3, .slice none 0 0, .slice none 0 0, .slice none 0 0, .slice none 0 0] 70); rw [e1] at this; exact this)
  have hs : Sees (((w.alloc (.cells #[.int .i64 1, .int .i64 2, .int .i64 5, .slice (some ⟨w.heap.size + 1, 0, none⟩) 1 1] 24)).alloc (.cells #[.int .i64 1, .int .i64 3, .slice none 0 0, .slice none 0 0, .slice none 0 0, .slice none 0 0] 70)).alloc (.cells (ints .u8 want).toArray 5)) .u8 (.slice (some ⟨w.heap.size + 1 + 1, 0, none⟩) 16 16) want := by
    have := (sees_of_own (own_new ((w.alloc (.cells #[.int .i64 1, .int .i64 2, .int .i64 5, .slice (some ⟨w.heap.size + 1, 0, none⟩) 1 1] 24)).alloc (.cells #[.int .i64 1, .int .i64 3, .slice none 0 0, .slice none 0 0, .slice none 0 0, .slice none 0 0] 70)) .u8 want 5 0 16 rfl (by omega) (by unfold maxLen; omega))).2
    rw [e2] at this
    exact this
  have hts : SeesTs (((w.alloc (.cells #[.int .i64 1, .int .i64 2, .int .i64 5, .slice (some ⟨w.heap.size + 1, 0, none⟩) 1 1] 24)).alloc (.cells #[.int .i64 1, .int .i64 3, .slice none 0 0, .slice none 0 0, .slice none 0 0, .slice none 0 0] 70)).alloc (.cells (ints .u8 want).toArray 5)) (.slice (some ⟨w.heap.size + 1, 0, none⟩) 1 1) [t1] := by
    refine ⟨some ⟨w.heap.size + 1, 0, none⟩, 1, w.heap.size + 1, 0, rfl, Nat.le_refl _, by simp, fun _ => rfl, fun t ht => ?_⟩
    obtain rfl : t = 0 := by simpa using ht
    exact ⟨_, _, _, _, cell_of_heap h1, cell_of_heap h1, cell_of_heap h1, cell_of_heap h1, cell_of_heap h1, cell_of_heap h1, _, _, _, _, rfl, Sees.nil _ _, Sees.nil _ _, seesK_nil _, seesK_nil _⟩
  have HH := hide (And.intro h0 (And.intro hs (And.intro hts hal)))
  clear hal h0 h1 hs hts e1 e2
  go_enter Tryz.func22, Tryz.ntmps22
  go_wp2_with fail
  refine bodyPost_ret (results_cell_row_tmp rfl _ _ w.heap.size 24 #[.int .i64 1, .int .i64 2, .int .i64 5, .slice (some ⟨w.heap.size + 1, 0, none⟩) 1 1] (0, 0) _ rfl (unhide HH).1 Tryz.underlying24 rfl (by kernel_rfl)) rfl ?_
  exact ⟨_, _, _, rfl, (unhide HH).2.2.1, (unhide HH).2.1, (unhide HH).2.2.2⟩

theorem x1_fit : FitE x1 := by
  refine ⟨by decide, by decide, by decide, fun t ht => ?_, fun t ht => ?_⟩
  · simp only [x1, List.mem_singleton] at ht
    subst ht
    exact ⟨by decide, by decide, (fun b hb => by cases hb), (fun b hb => by cases hb), (fun b hb => by cases hb), (fun b hb => by cases hb)⟩
  · simp only [x1, List.mem_singleton] at ht
    subst ht
    decide
theorem want_byt : Byt want := by
  intro b hb
  simp only [want, List.mem_cons, List.not_mem_nil, or_false] at hb
  omega

set_option maxHeartbeats 3200000 in
theorem begun_any (w : World) : Calls Tryz.prog 6 #[] w fun e w' => e = .returned (.bool true) ∧ Below w.heap.size w w' := by
  go_enter Tryz.func6, Tryz.ntmps6
  go_wp2_with fail
  refine (simple_any w).mono ?_
  rintro e w1 ⟨ta, tc, bv, rfl, hts, hbs, hb1⟩
  obtain ⟨ab, cb, rfl, _⟩ := id hbs
  have hal : Below w1.heap.size w1 (w1.alloc (.cells #[.int .i64 1, .int .i64 2, .int .i64 5, .slice ta 1 tc] 24)) := (Below.refl _ _).alloc (Nat.le_refl _) _
  have hts1 := hts.below hal
  have HE := hide (Entry_any (w1.alloc (.cells #[.int .i64 1, .int .i64 2, .int .i64 5, .slice ta 1 tc] 24)).heap.size #[.int .i64 1, .int .i64 2, .int .i64 5, .slice ta 1 tc] x1 (w1.alloc (.cells #[.int .i64 1, .int .i64 2, .int .i64 5, .slice ta 1 tc] 24)) (Nat.le_refl _) ⟨_, rfl, StTs.of hts1⟩ x1_fit)
  rw [x1_may] at HE
  simp only [if_true, x1_form] at HE
  have HBx : Hid (∀ w', Below (w1.alloc (.cells #[.int .i64 1, .int .i64 2, .int .i64 5, .slice ta 1 tc] 24)).heap.size (w1.alloc (.cells #[.int .i64 1, .int .i64 2, .int .i64 5, .slice ta 1 tc] 24)) w' → w'.cell? ⟨w1.heap.size, 0, none⟩ = some (.int .i64 1) ∧ w'.cell? ⟨w1.heap.size, 1, none⟩ = some (.int .i64 2) ∧ w'.cell? ⟨w1.heap.size, 2, none⟩ = some (.int .i64 5) ∧ w'.cell? ⟨w1.heap.size, 3, none⟩ = some (.slice ta 1 tc)) := fun w' hb => by
    have hx : w'.heap[w1.heap.size]? = some (.cells #[.int .i64 1, .int .i64 2, .int .i64 5, .slice ta 1 tc] 24) := (hb.block _ (by simp)).trans (heap_alloc_new w1 _)
    exact ⟨cell_of_heap hx, cell_of_heap hx, cell_of_heap hx, cell_of_heap hx⟩
  have HTS : Hid (∀ w', Below (w1.alloc (.cells #[.int .i64 1, .int .i64 2, .int .i64 5, .slice ta 1 tc] 24)).heap.size (w1.alloc (.cells #[.int .i64 1, .int .i64 2, .int .i64 5, .slice ta 1 tc] 24)) w' → SeesTs w' (.slice ta 1 tc) [t1]) := fun w' hb => hts1.below hb
  have HBS : Hid (∀ w', Below (w1.alloc (.cells #[.int .i64 1, .int .i64 2, .int .i64 5, .slice ta 1 tc] 24)).heap.size (w1.alloc (.cells #[.int .i64 1, .int .i64 2, .int .i64 5, .slice ta 1 tc] 24)) w' → Sees w' .u8 (.slice ab want.length cb) want) := fun w' hb => (hbs.below hal).below hb
  have HB1 : Hid (Below w.heap.size w (w1.alloc (.cells #[.int .i64 1, .int .i64 2, .int .i64 5, .slice ta 1 tc] 24))) := hb1.trans (hal.mono hb1.size)
  clear hts hbs hb1 hal hts1
  go_wp2_with fail
  refine (unhide HE).mono ?_
  rintro e w2 ⟨x, rfl, hox, hb2⟩
  obtain ⟨ax, cx, rfl⟩ := own_shape hox
  have HX := hide hox
  have HB2 := hide hb2
  have HT := hide (TakeEntry_any _ want w2 (unhide HBS w2 hb2) want_byt (by decide))
  rw [x1_read] at HT
  simp only at HT
  clear hox hb2 HE
  go_wp2_with fail
  refine (unhide HT).mono ?_
  rintro e w3 ⟨cs, rfl, hoe, hb3⟩
  obtain ⟨tv, rfl, hot⟩ := hoe
  obtain ⟨at3, ct3, rfl⟩ := hot.shape
  have hrt : ∀ t ∈ x1.txns, ReadT t := fun t ht => by
    simp only [x1, List.mem_singleton] at ht
    subst ht
    exact ⟨(fun b hb => by cases hb), by decide, by decide, by decide⟩
  have hst := hot.sees (by decide) hrt
  have hal3 : Below w3.heap.size w3 (w3.alloc (.cells #[.int .i64 1, .int .i64 2, .int .i64 5, .slice at3 1 ct3] 24)) := (Below.refl _ _).alloc (Nat.le_refl _) _
  have hb2' := unhide HB2
  have hb23 : Below (w1.alloc (.cells #[.int .i64 1, .int .i64 2, .int .i64 5, .slice ta 1 tc] 24)).heap.size (w1.alloc (.cells #[.int .i64 1, .int .i64 2, .int .i64 5, .slice ta 1 tc] 24)) (w3.alloc (.cells #[.int .i64 1, .int .i64 2, .int .i64 5, .slice at3 1 ct3] 24)) := hb2'.trans ((hb3.mono hb2'.size).trans (hal3.mono (Nat.le_trans hb2'.size hb3.size)))
  have hQ := equal_any _ _ want want (w3.alloc (.cells #[.int .i64 1, .int .i64 2, .int .i64 5, .slice at3 1 ct3] 24)) (((sees_of_own (unhide HX)).2.below hb3).below hal3) (unhide HBS _ hb23) want_byt want_byt
  have HQ := hide hQ
  have hok : OkTs x1.txns := x1_fit.ok
  have HS := hide (refSameEntry_any #[.int .i64 1, .int .i64 2, .int .i64 5, .slice ta 1 tc] #[.int .i64 1, .int .i64 2, .int .i64 5, .slice at3 1 ct3] x1 x1 _ ⟨_, rfl, unhide HTS _ hb23⟩ ⟨_, rfl, hst.below hal3⟩ hok hok)
  obtain ⟨c0, c1, c2, c3⟩ := unhide HBx _ hb23
  have HF : Hid (Below w.heap.size w (w3.alloc (.cells #[.int .i64 1, .int .i64 2, .int .i64 5, .slice at3 1 ct3] 24))) := (unhide HB1).trans (hb23.mono (unhide HB1).size)
  clear hot hb3 hst hal3 hb2' hb23 hQ hrt hok HT
  simp only [decide_true] at HQ HS
  go_wp2_with fail
  refine (unhide HQ).mono ?_
  rintro e w4 ⟨rfl, rfl⟩
  go_wp2_with fail
  refine (unhide HS).mono ?_
  rintro e w5 ⟨rfl, hb5⟩
  have HG : Hid (Below w.heap.size w w5) := (unhide HF).trans (hb5.mono (unhide HF).size)
  clear hb5
  go_wp2_with fail
  go_ret
  exact ⟨rfl, unhide HG⟩
end Go.Proofs.YtggllgimlfchhabGreat

/- Record: a message without a field. -/
namespace Go.Proofs.YtggllgimlfchhabGreat
open Go.RowKit
set_option maxRecDepth 100000

/-- A whole variable stored. -/
theorem wpList_store_row {P : Program} {ops : Array Oper} {rest : List Oper} {op : Oper} {a : Act} {w : World} {Q : Exit → Act → World → Prop} (hgd : op.guard = none) (ty : TypeId) (x y : Operand) (ho : op.op = .store ty x y)
    (g : Nat) (old cells : Array Value) (hx : a.eval x = .pointer (some ⟨g, 0, none⟩)) (hy : a.eval y = .agg cells) (t : TypeId) (hg : w.heap[g]? = some (.cells old t (0, 0)))
    (hi : (P.info? ty).map (·.size) = some cells.size) (hs : old.size = cells.size) (h1 : cells.all (·.oneCell') = true)
    (h : wpList P ops Q rest (a.put op.dst undef) (w.setRow g cells)) : wpList P ops Q (op :: rest) a w :=
  wpList_plain hgd fun _ hK => by
    unfold Oper.wp execOp
    simp only [ho, hx, hy, Instr.storeAt, Instr.sureAddr, Sem.run_bind, Sem.run_pure, Result.andThen_ok, run_storeVar_row w g t ty old cells hg hi hs h1]
    exact hK _ _ h
theorem below_setRow {b g : Nat} {w w' : World} {cs : Array Value} (h : Below b w w') (hg : b ≤ g) : Below b w (w'.setRow g cs) :=
  ⟨h.os, h.tape, h.output, by rw [setRow_size]; exact h.size, fun k hk => (setRow_other _ _ _ _ (by omega)).trans (h.block k hk)⟩
/-- A message with a field zero. -/
def wout (f : Int) (m : MsgD) : MsgD :=
  if f = 0 then { m with term := 0 } else if f = 1 then { m with slot := 0 } else if f = 2 then { m with last := 0 } else if f = 3 then { m with commit := 0 } else if f = 4 then { m with yes := false } else if f = 5 then { m with list := [] } else if f = 6 then { m with ent := dE } else if f = 7 then { m with part := dP } else m

set_option maxHeartbeats 800000 in
theorem without0_any (cs : Array Value) (m : MsgD) (w : World) (hM : SeesM w cs m) :
    Calls Tryz.prog 68 #[.agg cs, .int .i64 0] w fun e w' => ∃ cs', e = .returned (.agg cs') ∧ (∀ w0, SeesM w0 cs m → SeesM w0 cs' { m with term := 0 }) ∧ Below w.heap.size w w' := by
  obtain ⟨aK, aF, aO, aT, aS, aL, aC, aY, ml, ⟨ek, ef, en, mt⟩, ⟨ps, pi, pm, md⟩⟩ := m
  obtain ⟨_, _, _, rfl, k1, k2, k3⟩ := hM
  simp only at k1 k2 k3 ⊢
  obtain ⟨la, lc, _, _, rfl, _⟩ := k1
  obtain ⟨ta, tc, _, _, rfl, _⟩ := k2
  obtain ⟨da, dc, rfl, _⟩ := k3
  obtain ⟨ll, hll⟩ : ∃ n, ml.length = n := ⟨_, rfl⟩
  obtain ⟨tl, htl⟩ : ∃ n, mt.length = n := ⟨_, rfl⟩
  obtain ⟨dl, hdl⟩ : ∃ n, md.length = n := ⟨_, rfl⟩
  rw [hll, htl, hdl]
  clear hll htl hdl
  have hal : Below w.heap.size w ((w.alloc (.cells #[.int .i64 aK, .int .i64 aF, .int .i64 aO, .int .i64 aT, .int .i64 aS, .int .i64 aL, .int .i64 aC, .bool aY, .slice la ll lc, .int .i64 ek, .int .i64 ef, .int .i64 en, .slice ta tl tc, .int .i64 ps, .int .i64 pi, .int .i64 pm, .slice da dl dc] 30)).alloc (.cells #[.int .i64 0, .int .i64 0, .int .i64 0, .int .i64 0, .int .i64 0, .int .i64 0, .int .i64 0, .bool false, .slice none 0 0, .int .i64 0, .int .i64 0, .int .i64 0, .slice none 0 0, .int .i64 0, .int .i64 0, .int .i64 0, .slice none 0 0] 30)) := ((Below.refl _ _).alloc (Nat.le_refl _) _).alloc (by simp) _
  have e0 : (w.alloc (.cells #[.int .i64 aK, .int .i64 aF, .int .i64 aO, .int .i64 aT, .int .i64 aS, .int .i64 aL, .int .i64 aC, .bool aY, .slice la ll lc, .int .i64 ek, .int .i64 ef, .int .i64 en, .slice ta tl tc, .int .i64 ps, .int .i64 pi, .int .i64 pm, .slice da dl dc] 30)).heap.size = w.heap.size + 1 := by simp
  have hx0 : ((w.alloc (.cells #[.int .i64 aK, .int .i64 aF, .int .i64 aO, .int .i64 aT, .int .i64 aS, .int .i64 aL, .int .i64 aC, .bool aY, .slice la ll lc, .int .i64 ek, .int .i64 ef, .int .i64 en, .slice ta tl tc, .int .i64 ps, .int .i64 pi, .int .i64 pm, .slice da dl dc] 30)).alloc (.cells #[.int .i64 0, .int .i64 0, .int .i64 0, .int .i64 0, .int .i64 0, .int .i64 0, .int .i64 0, .bool false, .slice none 0 0, .int .i64 0, .int .i64 0, .int .i64 0, .slice none 0 0, .int .i64 0, .int .i64 0, .int .i64 0, .slice none 0 0] 30)).heap[w.heap.size]? = some (.cells #[.int .i64 aK, .int .i64 aF, .int .i64 aO, .int .i64 aT, .int .i64 aS, .int .i64 aL, .int .i64 aC, .bool aY, .slice la ll lc, .int .i64 ek, .int .i64 ef, .int .i64 en, .slice ta tl tc, .int .i64 ps, .int .i64 pi, .int .i64 pm, .slice da dl dc] 30) := (Below.heap_alloc _ _ _ (by simp)).trans (heap_alloc_new w _)
  have hz0 : ((w.alloc (.cells #[.int .i64 aK, .int .i64 aF, .int .i64 aO, .int .i64 aT, .int .i64 aS, .int .i64 aL, .int .i64 aC, .bool aY, .slice la ll lc, .int .i64 ek, .int .i64 ef, .int .i64 en, .slice ta tl tc, .int .i64 ps, .int .i64 pi, .int .i64 pm, .slice da dl dc] 30)).alloc (.cells #[.int .i64 0, .int .i64 0, .int .i64 0, .int .i64 0, .int .i64 0, .int .i64 0, .int .i64 0, .bool false, .slice none 0 0, .int .i64 0, .int .i64 0, .int .i64 0, .slice none 0 0, .int .i64 0, .int .i64 0, .int .i64 0, .slice none 0 0] 30)).heap[w.heap.size + 1]? = some (.cells #[.int .i64 0, .int .i64 0, .int .i64 0, .int .i64 0, .int .i64 0, .int .i64 0, .int .i64 0, .bool false, .slice none 0 0, .int .i64 0, .int .i64 0, .int .i64 0, .slice none 0 0, .int .i64 0, .int .i64 0, .int .i64 0, .slice none 0 0] 30) := by have := heap_alloc_new (w.alloc (.cells #[.int .i64 aK, .int .i64 aF, .int .i64 aO, .int .i64 aT, .int .i64 aS, .int .i64 aL, .int .i64 aC, .bool aY, .slice la ll lc, .int .i64 ek, .int .i64 ef, .int .i64 en, .slice ta tl tc, .int .i64 ps, .int .i64 pi, .int .i64 pm, .slice da dl dc] 30)) (.cells #[.int .i64 0, .int .i64 0, .int .i64 0, .int .i64 0, .int .i64 0, .int .i64 0, .int .i64 0, .bool false, .slice none 0 0, .int .i64 0, .int .i64 0, .int .i64 0, .slice none 0 0, .int .i64 0, .int .i64 0, .int .i64 0, .slice none 0 0] 30); rw [e0] at this; exact this
  obtain ⟨y0, hy0⟩ : ∃ y, ((w.alloc (.cells #[.int .i64 aK, .int .i64 aF, .int .i64 aO, .int .i64 aT, .int .i64 aS, .int .i64 aL, .int .i64 aC, .bool aY, .slice la ll lc, .int .i64 ek, .int .i64 ef, .int .i64 en, .slice ta tl tc, .int .i64 ps, .int .i64 pi, .int .i64 pm, .slice da dl dc] 30)).alloc (.cells #[.int .i64 0, .int .i64 0, .int .i64 0, .int .i64 0, .int .i64 0, .int .i64 0, .int .i64 0, .bool false, .slice none 0 0, .int .i64 0, .int .i64 0, .int .i64 0, .slice none 0 0, .int .i64 0, .int .i64 0, .int .i64 0, .slice none 0 0] 30)) = y := ⟨_, rfl⟩
  rw [hy0] at hal hx0 hz0
  have k0x3 : y0.cell? ⟨w.heap.size, 3, none⟩ = some (.int .i64 aT) := cell_of_heap hx0
  have f0 : ∀ o, y0.frozen? ⟨w.heap.size, o, none⟩ = false := fun o => frozen_of_heap hx0
  have HB1 : Hid (Below w.heap.size w (y0.setCell ⟨w.heap.size, 3, none⟩ (.int .i64 0))) := (hal.setCell (p := ⟨w.heap.size, 3, none⟩) (Nat.le_refl _) _)
  have HX1 : Hid ((y0.setCell ⟨w.heap.size, 3, none⟩ (.int .i64 0)).heap[w.heap.size]? = some (.cells #[.int .i64 aK, .int .i64 aF, .int .i64 aO, .int .i64 0, .int .i64 aS, .int .i64 aL, .int .i64 aC, .bool aY, .slice la ll lc, .int .i64 ek, .int .i64 ef, .int .i64 en, .slice ta tl tc, .int .i64 ps, .int .i64 pi, .int .i64 pm, .slice da dl dc] 30)) := (setCell_heap hx0)
  have HZ1 : Hid ((y0.setCell ⟨w.heap.size, 3, none⟩ (.int .i64 0)).heap[w.heap.size + 1]? = some (.cells #[.int .i64 0, .int .i64 0, .int .i64 0, .int .i64 0, .int .i64 0, .int .i64 0, .int .i64 0, .bool false, .slice none 0 0, .int .i64 0, .int .i64 0, .int .i64 0, .slice none 0 0, .int .i64 0, .int .i64 0, .int .i64 0, .slice none 0 0] 30)) := ((Below.heap_setCell _ _ _ _ (fun e => by simp only at e; omega)).trans hz0)
  clear hal e0 hx0 hz0
  obtain ⟨y1, hy1⟩ : ∃ y, (y0.setCell ⟨w.heap.size, 3, none⟩ (.int .i64 0)) = y := ⟨_, rfl⟩
  rw [hy1] at HX1 HZ1 HB1
  have HB9 : Hid (Below w.heap.size w (y1.setRow (w.heap.size + 1) #[.int .i64 aK, .int .i64 aF, .int .i64 aO, .int .i64 0, .int .i64 aS, .int .i64 aL, .int .i64 aC, .bool aY, .slice la ll lc, .int .i64 ek, .int .i64 ef, .int .i64 en, .slice ta tl tc, .int .i64 ps, .int .i64 pi, .int .i64 pm, .slice da dl dc])) := below_setRow (unhide HB1) (by omega)
  have HZ9 : Hid ((y1.setRow (w.heap.size + 1) #[.int .i64 aK, .int .i64 aF, .int .i64 aO, .int .i64 0, .int .i64 aS, .int .i64 aL, .int .i64 aC, .bool aY, .slice la ll lc, .int .i64 ek, .int .i64 ef, .int .i64 en, .slice ta tl tc, .int .i64 ps, .int .i64 pi, .int .i64 pm, .slice da dl dc]).heap[w.heap.size + 1]? = some (.cells #[.int .i64 aK, .int .i64 aF, .int .i64 aO, .int .i64 0, .int .i64 aS, .int .i64 aL, .int .i64 aC, .bool aY, .slice la ll lc, .int .i64 ek, .int .i64 ef, .int .i64 en, .slice ta tl tc, .int .i64 ps, .int .i64 pi, .int .i64 pm, .slice da dl dc] 30)) := setRow_heap _ _ _ _ _ _ (unhide HZ1)
  obtain ⟨y9, hy9⟩ : ∃ y, (y1.setRow (w.heap.size + 1) #[.int .i64 aK, .int .i64 aF, .int .i64 aO, .int .i64 0, .int .i64 aS, .int .i64 aL, .int .i64 aC, .bool aY, .slice la ll lc, .int .i64 ek, .int .i64 ef, .int .i64 en, .slice ta tl tc, .int .i64 ps, .int .i64 pi, .int .i64 pm, .slice da dl dc]) = y := ⟨_, rfl⟩
  rw [hy9] at HB9 HZ9
  go_enter Tryz.func68, Tryz.ntmps68
  go_wp2_with (first | rw [hy1] | rw [hy9] | rw [hy0] | refine wpList_load_row rfl 30 _ rfl w.heap.size rfl 30 _ (0, 0) _ (unhide HX1) Tryz.underlying30 rfl (by kernel_rfl) ?_ | refine wpList_store_row rfl 30 _ _ rfl (w.heap.size + 1) _ _ rfl rfl 30 (unhide HZ1) (by kernel_rfl) rfl (by first | kernel_rfl | simp [Value.oneCell']) ?_)
  refine bodyPost_ret (results_cell_row rfl _ _ (w.heap.size + 1) 30 #[.int .i64 aK, .int .i64 aF, .int .i64 aO, .int .i64 0, .int .i64 aS, .int .i64 aL, .int .i64 aC, .bool aY, .slice la ll lc, .int .i64 ek, .int .i64 ef, .int .i64 en, .slice ta tl tc, .int .i64 ps, .int .i64 pi, .int .i64 pm, .slice da dl dc] (0, 0) _ rfl (unhide HZ9) Tryz.underlying30 rfl (by kernel_rfl)) rfl ?_
  refine ⟨_, rfl, fun w0 h => ?_, unhide HB9⟩
  obtain ⟨_, _, _, e, a, b, c⟩ := h
  simp only [Array.mk.injEq, List.cons.injEq, true_and, and_true] at e
  obtain ⟨rfl, rfl, rfl⟩ := e
  exact ⟨_, _, _, rfl, a, b, c⟩
set_option maxHeartbeats 800000 in
theorem without1_any (cs : Array Value) (m : MsgD) (w : World) (hM : SeesM w cs m) :
    Calls Tryz.prog 68 #[.agg cs, .int .i64 1] w fun e w' => ∃ cs', e = .returned (.agg cs') ∧ (∀ w0, SeesM w0 cs m → SeesM w0 cs' { m with slot := 0 }) ∧ Below w.heap.size w w' := by
  obtain ⟨aK, aF, aO, aT, aS, aL, aC, aY, ml, ⟨ek, ef, en, mt⟩, ⟨ps, pi, pm, md⟩⟩ := m
  obtain ⟨_, _, _, rfl, k1, k2, k3⟩ := hM
  simp only at k1 k2 k3 ⊢
  obtain ⟨la, lc, _, _, rfl, _⟩ := k1
  obtain ⟨ta, tc, _, _, rfl, _⟩ := k2
  obtain ⟨da, dc, rfl, _⟩ := k3
  obtain ⟨ll, hll⟩ : ∃ n, ml.length = n := ⟨_, rfl⟩
  obtain ⟨tl, htl⟩ : ∃ n, mt.length = n := ⟨_, rfl⟩
  obtain ⟨dl, hdl⟩ : ∃ n, md.length = n := ⟨_, rfl⟩
  rw [hll, htl, hdl]
  clear hll htl hdl
  have hal : Below w.heap.size w ((w.alloc (.cells #[.int .i64 aK, .int .i64 aF, .int .i64 aO, .int .i64 aT, .int .i64 aS, .int .i64 aL, .int .i64 aC, .bool aY, .slice la ll lc, .int .i64 ek, .int .i64 ef, .int .i64 en, .slice ta tl tc, .int .i64 ps, .int .i64 pi, .int .i64 pm, .slice da dl dc] 30)).alloc (.cells #[.int .i64 0, .int .i64 0, .int .i64 0, .int .i64 0, .int .i64 0, .int .i64 0, .int .i64 0, .bool false, .slice none 0 0, .int .i64 0, .int .i64 0, .int .i64 0, .slice none 0 0, .int .i64 0, .int .i64 0, .int .i64 0, .slice none 0 0] 30)) := ((Below.refl _ _).alloc (Nat.le_refl _) _).alloc (by simp) _
  have e0 : (w.alloc (.cells #[.int .i64 aK, .int .i64 aF, .int .i64 aO, .int .i64 aT, .int .i64 aS, .int .i64 aL, .int .i64 aC, .bool aY, .slice la ll lc, .int .i64 ek, .int .i64 ef, .int .i64 en, .slice ta tl tc, .int .i64 ps, .int .i64 pi, .int .i64 pm, .slice da dl dc] 30)).heap.size = w.heap.size + 1 := by simp
  have hx0 : ((w.alloc (.cells #[.int .i64 aK, .int .i64 aF, .int .i64 aO, .int .i64 aT, .int .i64 aS, .int .i64 aL, .int .i64 aC, .bool aY, .slice la ll lc, .int .i64 ek, .int .i64 ef, .int .i64 en, .slice ta tl tc, .int .i64 ps, .int .i64 pi, .int .i64 pm, .slice da dl dc] 30)).alloc (.cells #[.int .i64 0, .int .i64 0, .int .i64 0, .int .i64 0, .int .i64 0, .int .i64 0, .int .i64 0, .bool false, .slice none 0 0, .int .i64 0, .int .i64 0, .int .i64 0, .slice none 0 0, .int .i64 0, .int .i64 0, .int .i64 0, .slice none 0 0] 30)).heap[w.heap.size]? = some (.cells #[.int .i64 aK, .int .i64 aF, .int .i64 aO, .int .i64 aT, .int .i64 aS, .int .i64 aL, .int .i64 aC, .bool aY, .slice la ll lc, .int .i64 ek, .int .i64 ef, .int .i64 en, .slice ta tl tc, .int .i64 ps, .int .i64 pi, .int .i64 pm, .slice da dl dc] 30) := (Below.heap_alloc _ _ _ (by simp)).trans (heap_alloc_new w _)
  have hz0 : ((w.alloc (.cells #[.int .i64 aK, .int .i64 aF, .int .i64 aO, .int .i64 aT, .int .i64 aS, .int .i64 aL, .int .i64 aC, .bool aY, .slice la ll lc, .int .i64 ek, .int .i64 ef, .int .i64 en, .slice ta tl tc, .int .i64 ps, .int .i64 pi, .int .i64 pm, .slice da dl dc] 30)).alloc (.cells #[.int .i64 0, .int .i64 0, .int .i64 0, .int .i64 0, .int .i64 0, .int .i64 0, .int .i64 0, .bool false, .slice none 0 0, .int .i64 0, .int .i64 0, .int .i64 0, .slice none 0 0, .int .i64 0, .int .i64 0, .int .i64 0, .slice none 0 0] 30)).heap[w.heap.size + 1]? = some (.cells #[.int .i64 0, .int .i64 0, .int .i64 0, .int .i64 0, .int .i64 0, .int .i64 0, .int .i64 0, .bool false, .slice none 0 0, .int .i64 0, .int .i64 0, .int .i64 0, .slice none 0 0, .int .i64 0, .int .i64 0, .int .i64 0, .slice none 0 0] 30) := by have := heap_alloc_new (w.alloc (.cells #[.int .i64 aK, .int .i64 aF, .int .i64 aO, .int .i64 aT, .int .i64 aS, .int .i64 aL, .int .i64 aC, .bool aY, .slice la ll lc, .int .i64 ek, .int .i64 ef, .int .i64 en, .slice ta tl tc, .int .i64 ps, .int .i64 pi, .int .i64 pm, .slice da dl dc] 30)) (.cells #[.int .i64 0, .int .i64 0, .int .i64 0, .int .i64 0, .int .i64 0, .int .i64 0, .int .i64 0, .bool false, .slice none 0 0, .int .i64 0, .int .i64 0, .int .i64 0, .slice none 0 0, .int .i64 0, .int .i64 0, .int .i64 0, .slice none 0 0] 30); rw [e0] at this; exact this
  obtain ⟨y0, hy0⟩ : ∃ y, ((w.alloc (.cells #[.int .i64 aK, .int .i64 aF, .int .i64 aO, .int .i64 aT, .int .i64 aS, .int .i64 aL, .int .i64 aC, .bool aY, .slice la ll lc, .int .i64 ek, .int .i64 ef, .int .i64 en, .slice ta tl tc, .int .i64 ps, .int .i64 pi, .int .i64 pm, .slice da dl dc] 30)).alloc (.cells #[.int .i64 0, .int .i64 0, .int .i64 0, .int .i64 0, .int .i64 0, .int .i64 0, .int .i64 0, .bool false, .slice none 0 0, .int .i64 0, .int .i64 0, .int .i64 0, .slice none 0 0, .int .i64 0, .int .i64 0, .int .i64 0, .slice none 0 0] 30)) = y := ⟨_, rfl⟩
  rw [hy0] at hal hx0 hz0
  have k0x4 : y0.cell? ⟨w.heap.size, 4, none⟩ = some (.int .i64 aS) := cell_of_heap hx0
  have f0 : ∀ o, y0.frozen? ⟨w.heap.size, o, none⟩ = false := fun o => frozen_of_heap hx0
  have HB1 : Hid (Below w.heap.size w (y0.setCell ⟨w.heap.size, 4, none⟩ (.int .i64 0))) := (hal.setCell (p := ⟨w.heap.size, 4, none⟩) (Nat.le_refl _) _)
  have HX1 : Hid ((y0.setCell ⟨w.heap.size, 4, none⟩ (.int .i64 0)).heap[w.heap.size]? = some (.cells #[.int .i64 aK, .int .i64 aF, .int .i64 aO, .int .i64 aT, .int .i64 0, .int .i64 aL, .int .i64 aC, .bool aY, .slice la ll lc, .int .i64 ek, .int .i64 ef, .int .i64 en, .slice ta tl tc, .int .i64 ps, .int .i64 pi, .int .i64 pm, .slice da dl dc] 30)) := (setCell_heap hx0)
  have HZ1 : Hid ((y0.setCell ⟨w.heap.size, 4, none⟩ (.int .i64 0)).heap[w.heap.size + 1]? = some (.cells #[.int .i64 0, .int .i64 0, .int .i64 0, .int .i64 0, .int .i64 0, .int .i64 0, .int .i64 0, .bool false, .slice none 0 0, .int .i64 0, .int .i64 0, .int .i64 0, .slice none 0 0, .int .i64 0, .int .i64 0, .int .i64 0, .slice none 0 0] 30)) := ((Below.heap_setCell _ _ _ _ (fun e => by simp only at e; omega)).trans hz0)
  clear hal e0 hx0 hz0
  obtain ⟨y1, hy1⟩ : ∃ y, (y0.setCell ⟨w.heap.size, 4, none⟩ (.int .i64 0)) = y := ⟨_, rfl⟩
  rw [hy1] at HX1 HZ1 HB1
  have HB9 : Hid (Below w.heap.size w (y1.setRow (w.heap.size + 1) #[.int .i64 aK, .int .i64 aF, .int .i64 aO, .int .i64 aT, .int .i64 0, .int .i64 aL, .int .i64 aC, .bool aY, .slice la ll lc, .int .i64 ek, .int .i64 ef, .int .i64 en, .slice ta tl tc, .int .i64 ps, .int .i64 pi, .int .i64 pm, .slice da dl dc])) := below_setRow (unhide HB1) (by omega)
  have HZ9 : Hid ((y1.setRow (w.heap.size + 1) #[.int .i64 aK, .int .i64 aF, .int .i64 aO, .int .i64 aT, .int .i64 0, .int .i64 aL, .int .i64 aC, .bool aY, .slice la ll lc, .int .i64 ek, .int .i64 ef, .int .i64 en, .slice ta tl tc, .int .i64 ps, .int .i64 pi, .int .i64 pm, .slice da dl dc]).heap[w.heap.size + 1]? = some (.cells #[.int .i64 aK, .int .i64 aF, .int .i64 aO, .int .i64 aT, .int .i64 0, .int .i64 aL, .int .i64 aC, .bool aY, .slice la ll lc, .int .i64 ek, .int .i64 ef, .int .i64 en, .slice ta tl tc, .int .i64 ps, .int .i64 pi, .int .i64 pm, .slice da dl dc] 30)) := setRow_heap _ _ _ _ _ _ (unhide HZ1)
  obtain ⟨y9, hy9⟩ : ∃ y, (y1.setRow (w.heap.size + 1) #[.int .i64 aK, .int .i64 aF, .int .i64 aO, .int .i64 aT, .int .i64 0, .int .i64 aL, .int .i64 aC, .bool aY, .slice la ll lc, .int .i64 ek, .int .i64 ef, .int .i64 en, .slice ta tl tc, .int .i64 ps, .int .i64 pi, .int .i64 pm, .slice da dl dc]) = y := ⟨_, rfl⟩
  rw [hy9] at HB9 HZ9
  go_enter Tryz.func68, Tryz.ntmps68
  go_wp2_with (first | rw [hy1] | rw [hy9] | rw [hy0] | refine wpList_load_row rfl 30 _ rfl w.heap.size rfl 30 _ (0, 0) _ (unhide HX1) Tryz.underlying30 rfl (by kernel_rfl) ?_ | refine wpList_store_row rfl 30 _ _ rfl (w.heap.size + 1) _ _ rfl rfl 30 (unhide HZ1) (by kernel_rfl) rfl (by first | kernel_rfl | simp [Value.oneCell']) ?_)
  refine bodyPost_ret (results_cell_row rfl _ _ (w.heap.size + 1) 30 #[.int .i64 aK, .int .i64 aF, .int .i64 aO, .int .i64 aT, .int .i64 0, .int .i64 aL, .int .i64 aC, .bool aY, .slice la ll lc, .int .i64 ek, .int .i64 ef, .int .i64 en, .slice ta tl tc, .int .i64 ps, .int .i64 pi, .int .i64 pm, .slice da dl dc] (0, 0) _ rfl (unhide HZ9) Tryz.underlying30 rfl (by kernel_rfl)) rfl ?_
  refine ⟨_, rfl, fun w0 h => ?_, unhide HB9⟩
  obtain ⟨_, _, _, e, a, b, c⟩ := h
  simp only [Array.mk.injEq, List.cons.injEq, true_and, and_true] at e
  obtain ⟨rfl, rfl, rfl⟩ := e
  exact ⟨_, _, _, rfl, a, b, c⟩
set_option maxHeartbeats 800000 in
theorem without2_any (cs : Array Value) (m : MsgD) (w : World) (hM : SeesM w cs m) :
    Calls Tryz.prog 68 #[.agg cs, .int .i64 2] w fun e w' => ∃ cs', e = .returned (.agg cs') ∧ (∀ w0, SeesM w0 cs m → SeesM w0 cs' { m with last := 0 }) ∧ Below w.heap.size w w' := by
  obtain ⟨aK, aF, aO, aT, aS, aL, aC, aY, ml, ⟨ek, ef, en, mt⟩, ⟨ps, pi, pm, md⟩⟩ := m
  obtain ⟨_, _, _, rfl, k1, k2, k3⟩ := hM
  simp only at k1 k2 k3 ⊢
  obtain ⟨la, lc, _, _, rfl, _⟩ := k1
  obtain ⟨ta, tc, _, _, rfl, _⟩ := k2
  obtain ⟨da, dc, rfl, _⟩ := k3
  obtain ⟨ll, hll⟩ : ∃ n, ml.length = n := ⟨_, rfl⟩
  obtain ⟨tl, htl⟩ : ∃ n, mt.length = n := ⟨_, rfl⟩
  obtain ⟨dl, hdl⟩ : ∃ n, md.length = n := ⟨_, rfl⟩
  rw [hll, htl, hdl]
  clear hll htl hdl
  have hal : Below w.heap.size w ((w.alloc (.cells #[.int .i64 aK, .int .i64 aF, .int .i64 aO, .int .i64 aT, .int .i64 aS, .int .i64 aL, .int .i64 aC, .bool aY, .slice la ll lc, .int .i64 ek, .int .i64 ef, .int .i64 en, .slice ta tl tc, .int .i64 ps, .int .i64 pi, .int .i64 pm, .slice da dl dc] 30)).alloc (.cells #[.int .i64 0, .int .i64 0, .int .i64 0, .int .i64 0, .int .i64 0, .int .i64 0, .int .i64 0, .bool false, .slice none 0 0, .int .i64 0, .int .i64 0, .int .i64 0, .slice none 0 0, .int .i64 0, .int .i64 0, .int .i64 0, .slice none 0 0] 30)) := ((Below.refl _ _).alloc (Nat.le_refl _) _).alloc (by simp) _
  have e0 : (w.alloc (.cells #[.int .i64 aK, .int .i64 aF, .int .i64 aO, .int .i64 aT, .int .i64 aS, .int .i64 aL, .int .i64 aC, .bool aY, .slice la ll lc, .int .i64 ek, .int .i64 ef, .int .i64 en, .slice ta tl tc, .int .i64 ps, .int .i64 pi, .int .i64 pm, .slice da dl dc] 30)).heap.size = w.heap.size + 1 := by simp
  have hx0 : ((w.alloc (.cells #[.int .i64 aK, .int .i64 aF, .int .i64 aO, .int .i64 aT, .int .i64 aS, .int .i64 aL, .int .i64 aC, .bool aY, .slice la ll lc, .int .i64 ek, .int .i64 ef, .int .i64 en, .slice ta tl tc, .int .i64 ps, .int .i64 pi, .int .i64 pm, .slice da dl dc] 30)).alloc (.cells #[.int .i64 0, .int .i64 0, .int .i64 0, .int .i64 0, .int .i64 0, .int .i64 0, .int .i64 0, .bool false, .slice none 0 0, .int .i64 0, .int .i64 0, .int .i64 0, .slice none 0 0, .int .i64 0, .int .i64 0, .int .i64 0, .slice none 0 0] 30)).heap[w.heap.size]? = some (.cells #[.int .i64 aK, .int .i64 aF, .int .i64 aO, .int .i64 aT, .int .i64 aS, .int .i64 aL, .int .i64 aC, .bool aY, .slice la ll lc, .int .i64 ek, .int .i64 ef, .int .i64 en, .slice ta tl tc, .int .i64 ps, .int .i64 pi, .int .i64 pm, .slice da dl dc] 30) := (Below.heap_alloc _ _ _ (by simp)).trans (heap_alloc_new w _)
  have hz0 : ((w.alloc (.cells #[.int .i64 aK, .int .i64 aF, .int .i64 aO, .int .i64 aT, .int .i64 aS, .int .i64 aL, .int .i64 aC, .bool aY, .slice la ll lc, .int .i64 ek, .int .i64 ef, .int .i64 en, .slice ta tl tc, .int .i64 ps, .int .i64 pi, .int .i64 pm, .slice da dl dc] 30)).alloc (.cells #[.int .i64 0, .int .i64 0, .int .i64 0, .int .i64 0, .int .i64 0, .int .i64 0, .int .i64 0, .bool false, .slice none 0 0, .int .i64 0, .int .i64 0, .int .i64 0, .slice none 0 0, .int .i64 0, .int .i64 0, .int .i64 0, .slice none 0 0] 30)).heap[w.heap.size + 1]? = some (.cells #[.int .i64 0, .int .i64 0, .int .i64 0, .int .i64 0, .int .i64 0, .int .i64 0, .int .i64 0, .bool false, .slice none 0 0, .int .i64 0, .int .i64 0, .int .i64 0, .slice none 0 0, .int .i64 0, .int .i64 0, .int .i64 0, .slice none 0 0] 30) := by have := heap_alloc_new (w.alloc (.cells #[.int .i64 aK, .int .i64 aF, .int .i64 aO, .int .i64 aT, .int .i64 aS, .int .i64 aL, .int .i64 aC, .bool aY, .slice la ll lc, .int .i64 ek, .int .i64 ef, .int .i64 en, .slice ta tl tc, .int .i64 ps, .int .i64 pi, .int .i64 pm, .slice da dl dc] 30)) (.cells #[.int .i64 0, .int .i64 0, .int .i64 0, .int .i64 0, .int .i64 0, .int .i64 0, .int .i64 0, .bool false, .slice none 0 0, .int .i64 0, .int .i64 0, .int .i64 0, .slice none 0 0, .int .i64 0, .int .i64 0, .int .i64 0, .slice none 0 0] 30); rw [e0] at this; exact this
  obtain ⟨y0, hy0⟩ : ∃ y, ((w.alloc (.cells #[.int .i64 aK, .int .i64 aF, .int .i64 aO, .int .i64 aT, .int .i64 aS, .int .i64 aL, .int .i64 aC, .bool aY, .slice la ll lc, .int .i64 ek, .int .i64 ef, .int .i64 en, .slice ta tl tc, .int .i64 ps, .int .i64 pi, .int .i64 pm, .slice da dl dc] 30)).alloc (.cells #[.int .i64 0, .int .i64 0, .int .i64 0, .int .i64 0, .int .i64 0, .int .i64 0, .int .i64 0, .bool false, .slice none 0 0, .int .i64 0, .int .i64 0, .int .i64 0, .slice none 0 0, .int .i64 0, .int .i64 0, .int .i64 0, .slice none 0 0] 30)) = y := ⟨_, rfl⟩
  rw [hy0] at hal hx0 hz0
  have k0x5 : y0.cell? ⟨w.heap.size, 5, none⟩ = some (.int .i64 aL) := cell_of_heap hx0
  have f0 : ∀ o, y0.frozen? ⟨w.heap.size, o, none⟩ = false := fun o => frozen_of_heap hx0
  have HB1 : Hid (Below w.heap.size w (y0.setCell ⟨w.heap.size, 5, none⟩ (.int .i64 0))) := (hal.setCell (p := ⟨w.heap.size, 5, none⟩) (Nat.le_refl _) _)
  have HX1 : Hid ((y0.setCell ⟨w.heap.size, 5, none⟩ (.int .i64 0)).heap[w.heap.size]? = some (.cells #[.int .i64 aK, .int .i64 aF, .int .i64 aO, .int .i64 aT, .int .i64 aS, .int .i64 0, .int .i64 aC, .bool aY, .slice la ll lc, .int .i64 ek, .int .i64 ef, .int .i64 en, .slice ta tl tc, .int .i64 ps, .int .i64 pi, .int .i64 pm, .slice da dl dc] 30)) := (setCell_heap hx0)
  have HZ1 : Hid ((y0.setCell ⟨w.heap.size, 5, none⟩ (.int .i64 0)).heap[w.heap.size + 1]? = some (.cells #[.int .i64 0, .int .i64 0, .int .i64 0, .int .i64 0, .int .i64 0, .int .i64 0, .int .i64 0, .bool false, .slice none 0 0, .int .i64 0, .int .i64 0, .int .i64 0, .slice none 0 0, .int .i64 0, .int .i64 0, .int .i64 0, .slice none 0 0] 30)) := ((Below.heap_setCell _ _ _ _ (fun e => by simp only at e; omega)).trans hz0)
  clear hal e0 hx0 hz0
  obtain ⟨y1, hy1⟩ : ∃ y, (y0.setCell ⟨w.heap.size, 5, none⟩ (.int .i64 0)) = y := ⟨_, rfl⟩
  rw [hy1] at HX1 HZ1 HB1
  have HB9 : Hid (Below w.heap.size w (y1.setRow (w.heap.size + 1) #[.int .i64 aK, .int .i64 aF, .int .i64 aO, .int .i64 aT, .int .i64 aS, .int .i64 0, .int .i64 aC, .bool aY, .slice la ll lc, .int .i64 ek, .int .i64 ef, .int .i64 en, .slice ta tl tc, .int .i64 ps, .int .i64 pi, .int .i64 pm, .slice da dl dc])) := below_setRow (unhide HB1) (by omega)
  have HZ9 : Hid ((y1.setRow (w.heap.size + 1) #[.int .i64 aK, .int .i64 aF, .int .i64 aO, .int .i64 aT, .int .i64 aS, .int .i64 0, .int .i64 aC, .bool aY, .slice la ll lc, .int .i64 ek, .int .i64 ef, .int .i64 en, .slice ta tl tc, .int .i64 ps, .int .i64 pi, .int .i64 pm, .slice da dl dc]).heap[w.heap.size + 1]? = some (.cells #[.int .i64 aK, .int .i64 aF, .int .i64 aO, .int .i64 aT, .int .i64 aS, .int .i64 0, .int .i64 aC, .bool aY, .slice la ll lc, .int .i64 ek, .int .i64 ef, .int .i64 en, .slice ta tl tc, .int .i64 ps, .int .i64 pi, .int .i64 pm, .slice da dl dc] 30)) := setRow_heap _ _ _ _ _ _ (unhide HZ1)
  obtain ⟨y9, hy9⟩ : ∃ y, (y1.setRow (w.heap.size + 1) #[.int .i64 aK, .int .i64 aF, .int .i64 aO, .int .i64 aT, .int .i64 aS, .int .i64 0, .int .i64 aC, .bool aY, .slice la ll lc, .int .i64 ek, .int .i64 ef, .int .i64 en, .slice ta tl tc, .int .i64 ps, .int .i64 pi, .int .i64 pm, .slice da dl dc]) = y := ⟨_, rfl⟩
  rw [hy9] at HB9 HZ9
  go_enter Tryz.func68, Tryz.ntmps68
  go_wp2_with (first | rw [hy1] | rw [hy9] | rw [hy0] | refine wpList_load_row rfl 30 _ rfl w.heap.size rfl 30 _ (0, 0) _ (unhide HX1) Tryz.underlying30 rfl (by kernel_rfl) ?_ | refine wpList_store_row rfl 30 _ _ rfl (w.heap.size + 1) _ _ rfl rfl 30 (unhide HZ1) (by kernel_rfl) rfl (by first | kernel_rfl | simp [Value.oneCell']) ?_)
  refine bodyPost_ret (results_cell_row rfl _ _ (w.heap.size + 1) 30 #[.int .i64 aK, .int .i64 aF, .int .i64 aO, .int .i64 aT, .int .i64 aS, .int .i64 0, .int .i64 aC, .bool aY, .slice la ll lc, .int .i64 ek, .int .i64 ef, .int .i64 en, .slice ta tl tc, .int .i64 ps, .int .i64 pi, .int .i64 pm, .slice da dl dc] (0, 0) _ rfl (unhide HZ9) Tryz.underlying30 rfl (by kernel_rfl)) rfl ?_
  refine ⟨_, rfl, fun w0 h => ?_, unhide HB9⟩
  obtain ⟨_, _, _, e, a, b, c⟩ := h
  simp only [Array.mk.injEq, List.cons.injEq, true_and, and_true] at e
  obtain ⟨rfl, rfl, rfl⟩ := e
  exact ⟨_, _, _, rfl, a, b, c⟩
set_option maxHeartbeats 800000 in
theorem without3_any (cs : Array Value) (m : MsgD) (w : World) (hM : SeesM w cs m) :
    Calls Tryz.prog 68 #[.agg cs, .int .i64 3] w fun e w' => ∃ cs', e = .returned (.agg cs') ∧ (∀ w0, SeesM w0 cs m → SeesM w0 cs' { m with commit := 0 }) ∧ Below w.heap.size w w' := by
  obtain ⟨aK, aF, aO, aT, aS, aL, aC, aY, ml, ⟨ek, ef, en, mt⟩, ⟨ps, pi, pm, md⟩⟩ := m
  obtain ⟨_, _, _, rfl, k1, k2, k3⟩ := hM
  simp only at k1 k2 k3 ⊢
  obtain ⟨la, lc, _, _, rfl, _⟩ := k1
  obtain ⟨ta, tc, _, _, rfl, _⟩ := k2
  obtain ⟨da, dc, rfl, _⟩ := k3
  obtain ⟨ll, hll⟩ : ∃ n, ml.length = n := ⟨_, rfl⟩
  obtain ⟨tl, htl⟩ : ∃ n, mt.length = n := ⟨_, rfl⟩
  obtain ⟨dl, hdl⟩ : ∃ n, md.length = n := ⟨_, rfl⟩
  rw [hll, htl, hdl]
  clear hll htl hdl
  have hal : Below w.heap.size w ((w.alloc (.cells #[.int .i64 aK, .int .i64 aF, .int .i64 aO, .int .i64 aT, .int .i64 aS, .int .i64 aL, .int .i64 aC, .bool aY, .slice la ll lc, .int .i64 ek, .int .i64 ef, .int .i64 en, .slice ta tl tc, .int .i64 ps, .int .i64 pi, .int .i64 pm, .slice da dl dc] 30)).alloc (.cells #[.int .i64 0, .int .i64 0, .int .i64 0, .int .i64 0, .int .i64 0, .int .i64 0, .int .i64 0, .bool false, .slice none 0 0, .int .i64 0, .int .i64 0, .int .i64 0, .slice none 0 0, .int .i64 0, .int .i64 0, .int .i64 0, .slice none 0 0] 30)) := ((Below.refl _ _).alloc (Nat.le_refl _) _).alloc (by simp) _
  have e0 : (w.alloc (.cells #[.int .i64 aK, .int .i64 aF, .int .i64 aO, .int .i64 aT, .int .i64 aS, .int .i64 aL, .int .i64 aC, .bool aY, .slice la ll lc, .int .i64 ek, .int .i64 ef, .int .i64 en, .slice ta tl tc, .int .i64 ps, .int .i64 pi, .int .i64 pm, .slice da dl dc] 30)).heap.size = w.heap.size + 1 := by simp
  have hx0 : ((w.alloc (.cells #[.int .i64 aK, .int .i64 aF, .int .i64 aO, .int .i64 aT, .int .i64 aS, .int .i64 aL, .int .i64 aC, .bool aY, .slice la ll lc, .int .i64 ek, .int .i64 ef, .int .i64 en, .slice ta tl tc, .int .i64 ps, .int .i64 pi, .int .i64 pm, .slice da dl dc] 30)).alloc (.cells #[.int .i64 0, .int .i64 0, .int .i64 0, .int .i64 0, .int .i64 0, .int .i64 0, .int .i64 0, .bool false, .slice none 0 0, .int .i64 0, .int .i64 0, .int .i64 0, .slice none 0 0, .int .i64 0, .int .i64 0, .int .i64 0, .slice none 0 0] 30)).heap[w.heap.size]? = some (.cells #[.int .i64 aK, .int .i64 aF, .int .i64 aO, .int .i64 aT, .int .i64 aS, .int .i64 aL, .int .i64 aC, .bool aY, .slice la ll lc, .int .i64 ek, .int .i64 ef, .int .i64 en, .slice ta tl tc, .int .i64 ps, .int .i64 pi, .int .i64 pm, .slice da dl dc] 30) := (Below.heap_alloc _ _ _ (by simp)).trans (heap_alloc_new w _)
  have hz0 : ((w.alloc (.cells #[.int .i64 aK, .int .i64 aF, .int .i64 aO, .int .i64 aT, .int .i64 aS, .int .i64 aL, .int .i64 aC, .bool aY, .slice la ll lc, .int .i64 ek, .int .i64 ef, .int .i64 en, .slice ta tl tc, .int .i64 ps, .int .i64 pi, .int .i64 pm, .slice da dl dc] 30)).alloc (.cells #[.int .i64 0, .int .i64 0, .int .i64 0, .int .i64 0, .int .i64 0, .int .i64 0, .int .i64 0, .bool false, .slice none 0 0, .int .i64 0, .int .i64 0, .int .i64 0, .slice none 0 0, .int .i64 0, .int .i64 0, .int .i64 0, .slice none 0 0] 30)).heap[w.heap.size + 1]? = some (.cells #[.int .i64 0, .int .i64 0, .int .i64 0, .int .i64 0, .int .i64 0, .int .i64 0, .int .i64 0, .bool false, .slice none 0 0, .int .i64 0, .int .i64 0, .int .i64 0, .slice none 0 0, .int .i64 0, .int .i64 0, .int .i64 0, .slice none 0 0] 30) := by have := heap_alloc_new (w.alloc (.cells #[.int .i64 aK, .int .i64 aF, .int .i64 aO, .int .i64 aT, .int .i64 aS, .int .i64 aL, .int .i64 aC, .bool aY, .slice la ll lc, .int .i64 ek, .int .i64 ef, .int .i64 en, .slice ta tl tc, .int .i64 ps, .int .i64 pi, .int .i64 pm, .slice da dl dc] 30)) (.cells #[.int .i64 0, .int .i64 0, .int .i64 0, .int .i64 0, .int .i64 0, .int .i64 0, .int .i64 0, .bool false, .slice none 0 0, .int .i64 0, .int .i64 0, .int .i64 0, .slice none 0 0, .int .i64 0, .int .i64 0, .int .i64 0, .slice none 0 0] 30); rw [e0] at this; exact this
  obtain ⟨y0, hy0⟩ : ∃ y, ((w.alloc (.cells #[.int .i64 aK, .int .i64 aF, .int .i64 aO, .int .i64 aT, .int .i64 aS, .int .i64 aL, .int .i64 aC, .bool aY, .slice la ll lc, .int .i64 ek, .int .i64 ef, .int .i64 en, .slice ta tl tc, .int .i64 ps, .int .i64 pi, .int .i64 pm, .slice da dl dc] 30)).alloc (.cells #[.int .i64 0, .int .i64 0, .int .i64 0, .int .i64 0, .int .i64 0, .int .i64 0, .int .i64 0, .bool false, .slice none 0 0, .int .i64 0, .int .i64 0, .int .i64 0, .slice none 0 0, .int .i64 0, .int .i64 0, .int .i64 0, .slice none 0 0] 30)) = y := ⟨_, rfl⟩
  rw [hy0] at hal hx0 hz0
  have k0x6 : y0.cell? ⟨w.heap.size, 6, none⟩ = some (.int .i64 aC) := cell_of_heap hx0
  have f0 : ∀ o, y0.frozen? ⟨w.heap.size, o, none⟩ = false := fun o => frozen_of_heap hx0
  have HB1 : Hid (Below w.heap.size w (y0.setCell ⟨w.heap.size, 6, none⟩ (.int .i64 0))) := (hal.setCell (p := ⟨w.heap.size, 6, none⟩) (Nat.le_refl _) _)
  have HX1 : Hid ((y0.setCell ⟨w.heap.size, 6, none⟩ (.int .i64 0)).heap[w.heap.size]? = some (.cells #[.int .i64 aK, .int .i64 aF, .int .i64 aO, .int .i64 aT, .int .i64 aS, .int .i64 aL, .int .i64 0, .bool aY, .slice la ll lc, .int .i64 ek, .int .i64 ef, .int .i64 en, .slice ta tl tc, .int .i64 ps, .int .i64 pi, .int .i64 pm, .slice da dl dc] 30)) := (setCell_heap hx0)
  have HZ1 : Hid ((y0.setCell ⟨w.heap.size, 6, none⟩ (.int .i64 0)).heap[w.heap.size + 1]? = some (.cells #[.int .i64 0, .int .i64 0, .int .i64 0, .int .i64 0, .int .i64 0, .int .i64 0, .int .i64 0, .bool false, .slice none 0 0, .int .i64 0, .int .i64 0, .int .i64 0, .slice none 0 0, .int .i64 0, .int .i64 0, .int .i64 0, .slice none 0 0] 30)) := ((Below.heap_setCell _ _ _ _ (fun e => by simp only at e; omega)).trans hz0)
  clear hal e0 hx0 hz0
  obtain ⟨y1, hy1⟩ : ∃ y, (y0.setCell ⟨w.heap.size, 6, none⟩ (.int .i64 0)) = y := ⟨_, rfl⟩
  rw [hy1] at HX1 HZ1 HB1
  have HB9 : Hid (Below w.heap.size w (y1.setRow (w.heap.size + 1) #[.int .i64 aK, .int .i64 aF, .int .i64 aO, .int .i64 aT, .int .i64 aS, .int .i64 aL, .int .i64 0, .bool aY, .slice la ll lc, .int .i64 ek, .int .i64 ef, .int .i64 en, .slice ta tl tc, .int .i64 ps, .int .i64 pi, .int .i64 pm, .slice da dl dc])) := below_setRow (unhide HB1) (by omega)
  have HZ9 : Hid ((y1.setRow (w.heap.size + 1) #[.int .i64 aK, .int .i64 aF, .int .i64 aO, .int .i64 aT, .int .i64 aS, .int .i64 aL, .int .i64 0, .bool aY, .slice la ll lc, .int .i64 ek, .int .i64 ef, .int .i64 en, .slice ta tl tc, .int .i64 ps, .int .i64 pi, .int .i64 pm, .slice da dl dc]).heap[w.heap.size + 1]? = some (.cells #[.int .i64 aK, .int .i64 aF, .int .i64 aO, .int .i64 aT, .int .i64 aS, .int .i64 aL, .int .i64 0, .bool aY, .slice la ll lc, .int .i64 ek, .int .i64 ef, .int .i64 en, .slice ta tl tc, .int .i64 ps, .int .i64 pi, .int .i64 pm, .slice da dl dc] 30)) := setRow_heap _ _ _ _ _ _ (unhide HZ1)
  obtain ⟨y9, hy9⟩ : ∃ y, (y1.setRow (w.heap.size + 1) #[.int .i64 aK, .int .i64 aF, .int .i64 aO, .int .i64 aT, .int .i64 aS, .int .i64 aL, .int .i64 0, .bool aY, .slice la ll lc, .int .i64 ek, .int .i64 ef, .int .i64 en, .slice ta tl tc, .int .i64 ps, .int .i64 pi, .int .i64 pm, .slice da dl dc]) = y := ⟨_, rfl⟩
  rw [hy9] at HB9 HZ9
  go_enter Tryz.func68, Tryz.ntmps68
  go_wp2_with (first | rw [hy1] | rw [hy9] | rw [hy0] | refine wpList_load_row rfl 30 _ rfl w.heap.size rfl 30 _ (0, 0) _ (unhide HX1) Tryz.underlying30 rfl (by kernel_rfl) ?_ | refine wpList_store_row rfl 30 _ _ rfl (w.heap.size + 1) _ _ rfl rfl 30 (unhide HZ1) (by kernel_rfl) rfl (by first | kernel_rfl | simp [Value.oneCell']) ?_)
  refine bodyPost_ret (results_cell_row rfl _ _ (w.heap.size + 1) 30 #[.int .i64 aK, .int .i64 aF, .int .i64 aO, .int .i64 aT, .int .i64 aS, .int .i64 aL, .int .i64 0, .bool aY, .slice la ll lc, .int .i64 ek, .int .i64 ef, .int .i64 en, .slice ta tl tc, .int .i64 ps, .int .i64 pi, .int .i64 pm, .slice da dl dc] (0, 0) _ rfl (unhide HZ9) Tryz.underlying30 rfl (by kernel_rfl)) rfl ?_
  refine ⟨_, rfl, fun w0 h => ?_, unhide HB9⟩
  obtain ⟨_, _, _, e, a, b, c⟩ := h
  simp only [Array.mk.injEq, List.cons.injEq, true_and, and_true] at e
  obtain ⟨rfl, rfl, rfl⟩ := e
  exact ⟨_, _, _, rfl, a, b, c⟩
set_option maxHeartbeats 800000 in
theorem without4_any (cs : Array Value) (m : MsgD) (w : World) (hM : SeesM w cs m) :
    Calls Tryz.prog 68 #[.agg cs, .int .i64 4] w fun e w' => ∃ cs', e = .returned (.agg cs') ∧ (∀ w0, SeesM w0 cs m → SeesM w0 cs' { m with yes := false }) ∧ Below w.heap.size w w' := by
  obtain ⟨aK, aF, aO, aT, aS, aL, aC, aY, ml, ⟨ek, ef, en, mt⟩, ⟨ps, pi, pm, md⟩⟩ := m
  obtain ⟨_, _, _, rfl, k1, k2, k3⟩ := hM
  simp only at k1 k2 k3 ⊢
  obtain ⟨la, lc, _, _, rfl, _⟩ := k1
  obtain ⟨ta, tc, _, _, rfl, _⟩ := k2
  obtain ⟨da, dc, rfl, _⟩ := k3
  obtain ⟨ll, hll⟩ : ∃ n, ml.length = n := ⟨_, rfl⟩
  obtain ⟨tl, htl⟩ : ∃ n, mt.length = n := ⟨_, rfl⟩
  obtain ⟨dl, hdl⟩ : ∃ n, md.length = n := ⟨_, rfl⟩
  rw [hll, htl, hdl]
  clear hll htl hdl
  have hal : Below w.heap.size w ((w.alloc (.cells #[.int .i64 aK, .int .i64 aF, .int .i64 aO, .int .i64 aT, .int .i64 aS, .int .i64 aL, .int .i64 aC, .bool aY, .slice la ll lc, .int .i64 ek, .int .i64 ef, .int .i64 en, .slice ta tl tc, .int .i64 ps, .int .i64 pi, .int .i64 pm, .slice da dl dc] 30)).alloc (.cells #[.int .i64 0, .int .i64 0, .int .i64 0, .int .i64 0, .int .i64 0, .int .i64 0, .int .i64 0, .bool false, .slice none 0 0, .int .i64 0, .int .i64 0, .int .i64 0, .slice none 0 0, .int .i64 0, .int .i64 0, .int .i64 0, .slice none 0 0] 30)) := ((Below.refl _ _).alloc (Nat.le_refl _) _).alloc (by simp) _
  have e0 : (w.alloc (.cells #[.int .i64 aK, .int .i64 aF, .int .i64 aO, .int .i64 aT, .int .i64 aS, .int .i64 aL, .int .i64 aC, .bool aY, .slice la ll lc, .int .i64 ek, .int .i64 ef, .int .i64 en, .slice ta tl tc, .int .i64 ps, .int .i64 pi, .int .i64 pm, .slice da dl dc] 30)).heap.size = w.heap.size + 1 := by simp
  have hx0 : ((w.alloc (.cells #[.int .i64 aK, .int .i64 aF, .int .i64 aO, .int .i64 aT, .int .i64 aS, .int .i64 aL, .int .i64 aC, .bool aY, .slice la ll lc, .int .i64 ek, .int .i64 ef, .int .i64 en, .slice ta tl tc, .int .i64 ps, .int .i64 pi, .int .i64 pm, .slice da dl dc] 30)).alloc (.cells #[.int .i64 0, .int .i64 0, .int .i64 0, .int .i64 0, .int .i64 0, .int .i64 0, .int .i64 0, .bool false, .slice none 0 0, .int .i64 0, .int .i64 0, .int .i64 0, .slice none 0 0, .int .i64 0, .int .i64 0, .int .i64 0, .slice none 0 0] 30)).heap[w.heap.size]? = some (.cells #[.int .i64 aK, .int .i64 aF, .int .i64 aO, .int .i64 aT, .int .i64 aS, .int .i64 aL, .int .i64 aC, .bool aY, .slice la ll lc, .int .i64 ek, .int .i64 ef, .int .i64 en, .slice ta tl tc, .int .i64 ps, .int .i64 pi, .int .i64 pm, .slice da dl dc] 30) := (Below.heap_alloc _ _ _ (by simp)).trans (heap_alloc_new w _)
  have hz0 : ((w.alloc (.cells #[.int .i64 aK, .int .i64 aF, .int .i64 aO, .int .i64 aT, .int .i64 aS, .int .i64 aL, .int .i64 aC, .bool aY, .slice la ll lc, .int .i64 ek, .int .i64 ef, .int .i64 en, .slice ta tl tc, .int .i64 ps, .int .i64 pi, .int .i64 pm, .slice da dl dc] 30)).alloc (.cells #[.int .i64 0, .int .i64 0, .int .i64 0, .int .i64 0, .int .i64 0, .int .i64 0, .int .i64 0, .bool false, .slice none 0 0, .int .i64 0, .int .i64 0, .int .i64 0, .slice none 0 0, .int .i64 0, .int .i64 0, .int .i64 0, .slice none 0 0] 30)).heap[w.heap.size + 1]? = some (.cells #[.int .i64 0, .int .i64 0, .int .i64 0, .int .i64 0, .int .i64 0, .int .i64 0, .int .i64 0, .bool false, .slice none 0 0, .int .i64 0, .int .i64 0, .int .i64 0, .slice none 0 0, .int .i64 0, .int .i64 0, .int .i64 0, .slice none 0 0] 30) := by have := heap_alloc_new (w.alloc (.cells #[.int .i64 aK, .int .i64 aF, .int .i64 aO, .int .i64 aT, .int .i64 aS, .int .i64 aL, .int .i64 aC, .bool aY, .slice la ll lc, .int .i64 ek, .int .i64 ef, .int .i64 en, .slice ta tl tc, .int .i64 ps, .int .i64 pi, .int .i64 pm, .slice da dl dc] 30)) (.cells #[.int .i64 0, .int .i64 0, .int .i64 0, .int .i64 0, .int .i64 0, .int .i64 0, .int .i64 0, .bool false, .slice none 0 0, .int .i64 0, .int .i64 0, .int .i64 0, .slice none 0 0, .int .i64 0, .int .i64 0, .int .i64 0, .slice none 0 0] 30); rw [e0] at this; exact this
  obtain ⟨y0, hy0⟩ : ∃ y, ((w.alloc (.cells #[.int .i64 aK, .int .i64 aF, .int .i64 aO, .int .i64 aT, .int .i64 aS, .int .i64 aL, .int .i64 aC, .bool aY, .slice la ll lc, .int .i64 ek, .int .i64 ef, .int .i64 en, .slice ta tl tc, .int .i64 ps, .int .i64 pi, .int .i64 pm, .slice da dl dc] 30)).alloc (.cells #[.int .i64 0, .int .i64 0, .int .i64 0, .int .i64 0, .int .i64 0, .int .i64 0, .int .i64 0, .bool false, .slice none 0 0, .int .i64 0, .int .i64 0, .int .i64 0, .slice none 0 0, .int .i64 0, .int .i64 0, .int .i64 0, .slice none 0 0] 30)) = y := ⟨_, rfl⟩
  rw [hy0] at hal hx0 hz0
  have k0x7 : y0.cell? ⟨w.heap.size, 7, none⟩ = some (.bool aY) := cell_of_heap hx0
  have f0 : ∀ o, y0.frozen? ⟨w.heap.size, o, none⟩ = false := fun o => frozen_of_heap hx0
  have HB1 : Hid (Below w.heap.size w (y0.setCell ⟨w.heap.size, 7, none⟩ (.bool false))) := (hal.setCell (p := ⟨w.heap.size, 7, none⟩) (Nat.le_refl _) _)
  have HX1 : Hid ((y0.setCell ⟨w.heap.size, 7, none⟩ (.bool false)).heap[w.heap.size]? = some (.cells #[.int .i64 aK, .int .i64 aF, .int .i64 aO, .int .i64 aT, .int .i64 aS, .int .i64 aL, .int .i64 aC, .bool false, .slice la ll lc, .int .i64 ek, .int .i64 ef, .int .i64 en, .slice ta tl tc, .int .i64 ps, .int .i64 pi, .int .i64 pm, .slice da dl dc] 30)) := (setCell_heap hx0)
  have HZ1 : Hid ((y0.setCell ⟨w.heap.size, 7, none⟩ (.bool false)).heap[w.heap.size + 1]? = some (.cells #[.int .i64 0, .int .i64 0, .int .i64 0, .int .i64 0, .int .i64 0, .int .i64 0, .int .i64 0, .bool false, .slice none 0 0, .int .i64 0, .int .i64 0, .int .i64 0, .slice none 0 0, .int .i64 0, .int .i64 0, .int .i64 0, .slice none 0 0] 30)) := ((Below.heap_setCell _ _ _ _ (fun e => by simp only at e; omega)).trans hz0)
  clear hal e0 hx0 hz0
  obtain ⟨y1, hy1⟩ : ∃ y, (y0.setCell ⟨w.heap.size, 7, none⟩ (.bool false)) = y := ⟨_, rfl⟩
  rw [hy1] at HX1 HZ1 HB1
  have HB9 : Hid (Below w.heap.size w (y1.setRow (w.heap.size + 1) #[.int .i64 aK, .int .i64 aF, .int .i64 aO, .int .i64 aT, .int .i64 aS, .int .i64 aL, .int .i64 aC, .bool false, .slice la ll lc, .int .i64 ek, .int .i64 ef, .int .i64 en, .slice ta tl tc, .int .i64 ps, .int .i64 pi, .int .i64 pm, .slice da dl dc])) := below_setRow (unhide HB1) (by omega)
  have HZ9 : Hid ((y1.setRow (w.heap.size + 1) #[.int .i64 aK, .int .i64 aF, .int .i64 aO, .int .i64 aT, .int .i64 aS, .int .i64 aL, .int .i64 aC, .bool false, .slice la ll lc, .int .i64 ek, .int .i64 ef, .int .i64 en, .slice ta tl tc, .int .i64 ps, .int .i64 pi, .int .i64 pm, .slice da dl dc]).heap[w.heap.size + 1]? = some (.cells #[.int .i64 aK, .int .i64 aF, .int .i64 aO, .int .i64 aT, .int .i64 aS, .int .i64 aL, .int .i64 aC, .bool false, .slice la ll lc, .int .i64 ek, .int .i64 ef, .int .i64 en, .slice ta tl tc, .int .i64 ps, .int .i64 pi, .int .i64 pm, .slice da dl dc] 30)) := setRow_heap _ _ _ _ _ _ (unhide HZ1)
  obtain ⟨y9, hy9⟩ : ∃ y, (y1.setRow (w.heap.size + 1) #[.int .i64 aK, .int .i64 aF, .int .i64 aO, .int .i64 aT, .int .i64 aS, .int .i64 aL, .int .i64 aC, .bool false, .slice la ll lc, .int .i64 ek, .int .i64 ef, .int .i64 en, .slice ta tl tc, .int .i64 ps, .int .i64 pi, .int .i64 pm, .slice da dl dc]) = y := ⟨_, rfl⟩
  rw [hy9] at HB9 HZ9
  go_enter Tryz.func68, Tryz.ntmps68
  go_wp2_with (first | rw [hy1] | rw [hy9] | rw [hy0] | refine wpList_load_row rfl 30 _ rfl w.heap.size rfl 30 _ (0, 0) _ (unhide HX1) Tryz.underlying30 rfl (by kernel_rfl) ?_ | refine wpList_store_row rfl 30 _ _ rfl (w.heap.size + 1) _ _ rfl rfl 30 (unhide HZ1) (by kernel_rfl) rfl (by first | kernel_rfl | simp [Value.oneCell']) ?_)
  refine bodyPost_ret (results_cell_row rfl _ _ (w.heap.size + 1) 30 #[.int .i64 aK, .int .i64 aF, .int .i64 aO, .int .i64 aT, .int .i64 aS, .int .i64 aL, .int .i64 aC, .bool false, .slice la ll lc, .int .i64 ek, .int .i64 ef, .int .i64 en, .slice ta tl tc, .int .i64 ps, .int .i64 pi, .int .i64 pm, .slice da dl dc] (0, 0) _ rfl (unhide HZ9) Tryz.underlying30 rfl (by kernel_rfl)) rfl ?_
  refine ⟨_, rfl, fun w0 h => ?_, unhide HB9⟩
  obtain ⟨_, _, _, e, a, b, c⟩ := h
  simp only [Array.mk.injEq, List.cons.injEq, true_and, and_true] at e
  obtain ⟨rfl, rfl, rfl⟩ := e
  exact ⟨_, _, _, rfl, a, b, c⟩
set_option maxHeartbeats 800000 in
theorem without5_any (cs : Array Value) (m : MsgD) (w : World) (hM : SeesM w cs m) :
    Calls Tryz.prog 68 #[.agg cs, .int .i64 5] w fun e w' => ∃ cs', e = .returned (.agg cs') ∧ (∀ w0, SeesM w0 cs m → SeesM w0 cs' { m with list := [] }) ∧ Below w.heap.size w w' := by
  obtain ⟨aK, aF, aO, aT, aS, aL, aC, aY, ml, ⟨ek, ef, en, mt⟩, ⟨ps, pi, pm, md⟩⟩ := m
  obtain ⟨_, _, _, rfl, k1, k2, k3⟩ := hM
  simp only at k1 k2 k3 ⊢
  obtain ⟨la, lc, _, _, rfl, _⟩ := k1
  obtain ⟨ta, tc, _, _, rfl, _⟩ := k2
  obtain ⟨da, dc, rfl, _⟩ := k3
  obtain ⟨ll, hll⟩ : ∃ n, ml.length = n := ⟨_, rfl⟩
  obtain ⟨tl, htl⟩ : ∃ n, mt.length = n := ⟨_, rfl⟩
  obtain ⟨dl, hdl⟩ : ∃ n, md.length = n := ⟨_, rfl⟩
  rw [hll, htl, hdl]
  clear hll htl hdl
  have hal : Below w.heap.size w ((w.alloc (.cells #[.int .i64 aK, .int .i64 aF, .int .i64 aO, .int .i64 aT, .int .i64 aS, .int .i64 aL, .int .i64 aC, .bool aY, .slice la ll lc, .int .i64 ek, .int .i64 ef, .int .i64 en, .slice ta tl tc, .int .i64 ps, .int .i64 pi, .int .i64 pm, .slice da dl dc] 30)).alloc (.cells #[.int .i64 0, .int .i64 0, .int .i64 0, .int .i64 0, .int .i64 0, .int .i64 0, .int .i64 0, .bool false, .slice none 0 0, .int .i64 0, .int .i64 0, .int .i64 0, .slice none 0 0, .int .i64 0, .int .i64 0, .int .i64 0, .slice none 0 0] 30)) := ((Below.refl _ _).alloc (Nat.le_refl _) _).alloc (by simp) _
  have e0 : (w.alloc (.cells #[.int .i64 aK, .int .i64 aF, .int .i64 aO, .int .i64 aT, .int .i64 aS, .int .i64 aL, .int .i64 aC, .bool aY, .slice la ll lc, .int .i64 ek, .int .i64 ef, .int .i64 en, .slice ta tl tc, .int .i64 ps, .int .i64 pi, .int .i64 pm, .slice da dl dc] 30)).heap.size = w.heap.size + 1 := by simp
  have hx0 : ((w.alloc (.cells #[.int .i64 aK, .int .i64 aF, .int .i64 aO, .int .i64 aT, .int .i64 aS, .int .i64 aL, .int .i64 aC, .bool aY, .slice la ll lc, .int .i64 ek, .int .i64 ef, .int .i64 en, .slice ta tl tc, .int .i64 ps, .int .i64 pi, .int .i64 pm, .slice da dl dc] 30)).alloc (.cells #[.int .i64 0, .int .i64 0, .int .i64 0, .int .i64 0, .int .i64 0, .int .i64 0, .int .i64 0, .bool false, .slice none 0 0, .int .i64 0, .int .i64 0, .int .i64 0, .slice none 0 0, .int .i64 0, .int .i64 0, .int .i64 0, .slice none 0 0] 30)).heap[w.heap.size]? = some (.cells #[.int .i64 aK, .int .i64 aF, .int .i64 aO, .int .i64 aT, .int .i64 aS, .int .i64 aL, .int .i64 aC, .bool aY, .slice la ll lc, .int .i64 ek, .int .i64 ef, .int .i64 en, .slice ta tl tc, .int .i64 ps, .int .i64 pi, .int .i64 pm, .slice da dl dc] 30) := (Below.heap_alloc _ _ _ (by simp)).trans (heap_alloc_new w _)
  have hz0 : ((w.alloc (.cells #[.int .i64 aK, .int .i64 aF, .int .i64 aO, .int .i64 aT, .int .i64 aS, .int .i64 aL, .int .i64 aC, .bool aY, .slice la ll lc, .int .i64 ek, .int .i64 ef, .int .i64 en, .slice ta tl tc, .int .i64 ps, .int .i64 pi, .int .i64 pm, .slice da dl dc] 30)).alloc (.cells #[.int .i64 0, .int .i64 0, .int .i64 0, .int .i64 0, .int .i64 0, .int .i64 0, .int .i64 0, .bool false, .slice none 0 0, .int .i64 0, .int .i64 0, .int .i64 0, .slice none 0 0, .int .i64 0, .int .i64 0, .int .i64 0, .slice none 0 0] 30)).heap[w.heap.size + 1]? = some (.cells #[.int .i64 0, .int .i64 0, .int .i64 0, .int .i64 0, .int .i64 0, .int .i64 0, .int .i64 0, .bool false, .slice none 0 0, .int .i64 0, .int .i64 0, .int .i64 0, .slice none 0 0, .int .i64 0, .int .i64 0, .int .i64 0, .slice none 0 0] 30) := by have := heap_alloc_new (w.alloc (.cells #[.int .i64 aK, .int .i64 aF, .int .i64 aO, .int .i64 aT, .int .i64 aS, .int .i64 aL, .int .i64 aC, .bool aY, .slice la ll lc, .int .i64 ek, .int .i64 ef, .int .i64 en, .slice ta tl tc, .int .i64 ps, .int .i64 pi, .int .i64 pm, .slice da dl dc] 30)) (.cells #[.int .i64 0, .int .i64 0, .int .i64 0, .int .i64 0, .int .i64 0, .int .i64 0, .int .i64 0, .bool false, .slice none 0 0, .int .i64 0, .int .i64 0, .int .i64 0, .slice none 0 0, .int .i64 0, .int .i64 0, .int .i64 0, .slice none 0 0] 30); rw [e0] at this; exact this
  obtain ⟨y0, hy0⟩ : ∃ y, ((w.alloc (.cells #[.int .i64 aK, .int .i64 aF, .int .i64 aO, .int .i64 aT, .int .i64 aS, .int .i64 aL, .int .i64 aC, .bool aY, .slice la ll lc, .int .i64 ek, .int .i64 ef, .int .i64 en, .slice ta tl tc, .int .i64 ps, .int .i64 pi, .int .i64 pm, .slice da dl dc] 30)).alloc (.cells #[.int .i64 0, .int .i64 0, .int .i64 0, .int .i64 0, .int .i64 0, .int .i64 0, .int .i64 0, .bool false, .slice none 0 0, .int .i64 0, .int .i64 0, .int .i64 0, .slice none 0 0, .int .i64 0, .int .i64 0, .int .i64 0, .slice none 0 0] 30)) = y := ⟨_, rfl⟩
  rw [hy0] at hal hx0 hz0
  have k0x8 : y0.cell? ⟨w.heap.size, 8, none⟩ = some (.slice la ll lc) := cell_of_heap hx0
  have f0 : ∀ o, y0.frozen? ⟨w.heap.size, o, none⟩ = false := fun o => frozen_of_heap hx0
  have HB1 : Hid (Below w.heap.size w (y0.setCell ⟨w.heap.size, 8, none⟩ (.slice none 0 0))) := (hal.setCell (p := ⟨w.heap.size, 8, none⟩) (Nat.le_refl _) _)
  have HX1 : Hid ((y0.setCell ⟨w.heap.size, 8, none⟩ (.slice none 0 0)).heap[w.heap.size]? = some (.cells #[.int .i64 aK, .int .i64 aF, .int .i64 aO, .int .i64 aT, .int .i64 aS, .int .i64 aL, .int .i64 aC, .bool aY, .slice none 0 0, .int .i64 ek, .int .i64 ef, .int .i64 en, .slice ta tl tc, .int .i64 ps, .int .i64 pi, .int .i64 pm, .slice da dl dc] 30)) := (setCell_heap hx0)
  have HZ1 : Hid ((y0.setCell ⟨w.heap.size, 8, none⟩ (.slice none 0 0)).heap[w.heap.size + 1]? = some (.cells #[.int .i64 0, .int .i64 0, .int .i64 0, .int .i64 0, .int .i64 0, .int .i64 0, .int .i64 0, .bool false, .slice none 0 0, .int .i64 0, .int .i64 0, .int .i64 0, .slice none 0 0, .int .i64 0, .int .i64 0, .int .i64 0, .slice none 0 0] 30)) := ((Below.heap_setCell _ _ _ _ (fun e => by simp only at e; omega)).trans hz0)
  clear hal e0 hx0 hz0
  obtain ⟨y1, hy1⟩ : ∃ y, (y0.setCell ⟨w.heap.size, 8, none⟩ (.slice none 0 0)) = y := ⟨_, rfl⟩
  rw [hy1] at HX1 HZ1 HB1
  have HB9 : Hid (Below w.heap.size w (y1.setRow (w.heap.size + 1) #[.int .i64 aK, .int .i64 aF, .int .i64 aO, .int .i64 aT, .int .i64 aS, .int .i64 aL, .int .i64 aC, .bool aY, .slice none 0 0, .int .i64 ek, .int .i64 ef, .int .i64 en, .slice ta tl tc, .int .i64 ps, .int .i64 pi, .int .i64 pm, .slice da dl dc])) := below_setRow (unhide HB1) (by omega)
  have HZ9 : Hid ((y1.setRow (w.heap.size + 1) #[.int .i64 aK, .int .i64 aF, .int .i64 aO, .int .i64 aT, .int .i64 aS, .int .i64 aL, .int .i64 aC, .bool aY, .slice none 0 0, .int .i64 ek, .int .i64 ef, .int .i64 en, .slice ta tl tc, .int .i64 ps, .int .i64 pi, .int .i64 pm, .slice da dl dc]).heap[w.heap.size + 1]? = some (.cells #[.int .i64 aK, .int .i64 aF, .int .i64 aO, .int .i64 aT, .int .i64 aS, .int .i64 aL, .int .i64 aC, .bool aY, .slice none 0 0, .int .i64 ek, .int .i64 ef, .int .i64 en, .slice ta tl tc, .int .i64 ps, .int .i64 pi, .int .i64 pm, .slice da dl dc] 30)) := setRow_heap _ _ _ _ _ _ (unhide HZ1)
  obtain ⟨y9, hy9⟩ : ∃ y, (y1.setRow (w.heap.size + 1) #[.int .i64 aK, .int .i64 aF, .int .i64 aO, .int .i64 aT, .int .i64 aS, .int .i64 aL, .int .i64 aC, .bool aY, .slice none 0 0, .int .i64 ek, .int .i64 ef, .int .i64 en, .slice ta tl tc, .int .i64 ps, .int .i64 pi, .int .i64 pm, .slice da dl dc]) = y := ⟨_, rfl⟩
  rw [hy9] at HB9 HZ9
  go_enter Tryz.func68, Tryz.ntmps68
  go_wp2_with (first | rw [hy1] | rw [hy9] | rw [hy0] | refine wpList_load_row rfl 30 _ rfl w.heap.size rfl 30 _ (0, 0) _ (unhide HX1) Tryz.underlying30 rfl (by kernel_rfl) ?_ | refine wpList_store_row rfl 30 _ _ rfl (w.heap.size + 1) _ _ rfl rfl 30 (unhide HZ1) (by kernel_rfl) rfl (by first | kernel_rfl | simp [Value.oneCell']) ?_)
  refine bodyPost_ret (results_cell_row rfl _ _ (w.heap.size + 1) 30 #[.int .i64 aK, .int .i64 aF, .int .i64 aO, .int .i64 aT, .int .i64 aS, .int .i64 aL, .int .i64 aC, .bool aY, .slice none 0 0, .int .i64 ek, .int .i64 ef, .int .i64 en, .slice ta tl tc, .int .i64 ps, .int .i64 pi, .int .i64 pm, .slice da dl dc] (0, 0) _ rfl (unhide HZ9) Tryz.underlying30 rfl (by kernel_rfl)) rfl ?_
  refine ⟨_, rfl, fun w0 h => ?_, unhide HB9⟩
  obtain ⟨_, _, _, e, a, b, c⟩ := h
  simp only [Array.mk.injEq, List.cons.injEq, true_and, and_true] at e
  obtain ⟨rfl, rfl, rfl⟩ := e
  exact ⟨_, _, _, rfl, SeesTms.nil _, b, c⟩
set_option maxHeartbeats 800000 in
theorem without6_any (cs : Array Value) (m : MsgD) (w : World) (hM : SeesM w cs m) :
    Calls Tryz.prog 68 #[.agg cs, .int .i64 6] w fun e w' => ∃ cs', e = .returned (.agg cs') ∧ (∀ w0, SeesM w0 cs m → SeesM w0 cs' { m with ent := dE }) ∧ Below w.heap.size w w' := by
  obtain ⟨aK, aF, aO, aT, aS, aL, aC, aY, ml, ⟨ek, ef, en, mt⟩, ⟨ps, pi, pm, md⟩⟩ := m
  obtain ⟨_, _, _, rfl, k1, k2, k3⟩ := hM
  simp only at k1 k2 k3 ⊢
  obtain ⟨la, lc, _, _, rfl, _⟩ := k1
  obtain ⟨ta, tc, _, _, rfl, _⟩ := k2
  obtain ⟨da, dc, rfl, _⟩ := k3
  obtain ⟨ll, hll⟩ : ∃ n, ml.length = n := ⟨_, rfl⟩
  obtain ⟨tl, htl⟩ : ∃ n, mt.length = n := ⟨_, rfl⟩
  obtain ⟨dl, hdl⟩ : ∃ n, md.length = n := ⟨_, rfl⟩
  rw [hll, htl, hdl]
  clear hll htl hdl
  have hal : Below w.heap.size w ((w.alloc (.cells #[.int .i64 aK, .int .i64 aF, .int .i64 aO, .int .i64 aT, .int .i64 aS, .int .i64 aL, .int .i64 aC, .bool aY, .slice la ll lc, .int .i64 ek, .int .i64 ef, .int .i64 en, .slice ta tl tc, .int .i64 ps, .int .i64 pi, .int .i64 pm, .slice da dl dc] 30)).alloc (.cells #[.int .i64 0, .int .i64 0, .int .i64 0, .int .i64 0, .int .i64 0, .int .i64 0, .int .i64 0, .bool false, .slice none 0 0, .int .i64 0, .int .i64 0, .int .i64 0, .slice none 0 0, .int .i64 0, .int .i64 0, .int .i64 0, .slice none 0 0] 30)) := ((Below.refl _ _).alloc (Nat.le_refl _) _).alloc (by simp) _
  have e0 : (w.alloc (.cells #[.int .i64 aK, .int .i64 aF, .int .i64 aO, .int .i64 aT, .int .i64 aS, .int .i64 aL, .int .i64 aC, .bool aY, .slice la ll lc, .int .i64 ek, .int .i64 ef, .int .i64 en, .slice ta tl tc, .int .i64 ps, .int .i64 pi, .int .i64 pm, .slice da dl dc] 30)).heap.size = w.heap.size + 1 := by simp
  have hx0 : ((w.alloc (.cells #[.int .i64 aK, .int .i64 aF, .int .i64 aO, .int .i64 aT, .int .i64 aS, .int .i64 aL, .int .i64 aC, .bool aY, .slice la ll lc, .int .i64 ek, .int .i64 ef, .int .i64 en, .slice ta tl tc, .int .i64 ps, .int .i64 pi, .int .i64 pm, .slice da dl dc] 30)).alloc (.cells #[.int .i64 0, .int .i64 0, .int .i64 0, .int .i64 0, .int .i64 0, .int .i64 0, .int .i64 0, .bool false, .slice none 0 0, .int .i64 0, .int .i64 0, .int .i64 0, .slice none 0 0, .int .i64 0, .int .i64 0, .int .i64 0, .slice none 0 0] 30)).heap[w.heap.size]? = some (.cells #[.int .i64 aK, .int .i64 aF, .int .i64 aO, .int .i64 aT, .int .i64 aS, .int .i64 aL, .int .i64 aC, .bool aY, .slice la ll lc, .int .i64 ek, .int .i64 ef, .int .i64 en, .slice ta tl tc, .int .i64 ps, .int .i64 pi, .int .i64 pm, .slice da dl dc] 30) := (Below.heap_alloc _ _ _ (by simp)).trans (heap_alloc_new w _)
  have hz0 : ((w.alloc (.cells #[.int .i64 aK, .int .i64 aF, .int .i64 aO, .int .i64 aT, .int .i64 aS, .int .i64 aL, .int .i64 aC, .bool aY, .slice la ll lc, .int .i64 ek, .int .i64 ef, .int .i64 en, .slice ta tl tc, .int .i64 ps, .int .i64 pi, .int .i64 pm, .slice da dl dc] 30)).alloc (.cells #[.int .i64 0, .int .i64 0, .int .i64 0, .int .i64 0, .int .i64 0, .int .i64 0, .int .i64 0, .bool false, .slice none 0 0, .int .i64 0, .int .i64 0, .int .i64 0, .slice none 0 0, .int .i64 0, .int .i64 0, .int .i64 0, .slice none 0 0] 30)).heap[w.heap.size + 1]? = some (.cells #[.int .i64 0, .int .i64 0, .int .i64 0, .int .i64 0, .int .i64 0, .int .i64 0, .int .i64 0, .bool false, .slice none 0 0, .int .i64 0, .int .i64 0, .int .i64 0, .slice none 0 0, .int .i64 0, .int .i64 0, .int .i64 0, .slice none 0 0] 30) := by have := heap_alloc_new (w.alloc (.cells #[.int .i64 aK, .int .i64 aF, .int .i64 aO, .int .i64 aT, .int .i64 aS, .int .i64 aL, .int .i64 aC, .bool aY, .slice la ll lc, .int .i64 ek, .int .i64 ef, .int .i64 en, .slice ta tl tc, .int .i64 ps, .int .i64 pi, .int .i64 pm, .slice da dl dc] 30)) (.cells #[.int .i64 0, .int .i64 0, .int .i64 0, .int .i64 0, .int .i64 0, .int .i64 0, .int .i64 0, .bool false, .slice none 0 0, .int .i64 0, .int .i64 0, .int .i64 0, .slice none 0 0, .int .i64 0, .int .i64 0, .int .i64 0, .slice none 0 0] 30); rw [e0] at this; exact this
  obtain ⟨y0, hy0⟩ : ∃ y, ((w.alloc (.cells #[.int .i64 aK, .int .i64 aF, .int .i64 aO, .int .i64 aT, .int .i64 aS, .int .i64 aL, .int .i64 aC, .bool aY, .slice la ll lc, .int .i64 ek, .int .i64 ef, .int .i64 en, .slice ta tl tc, .int .i64 ps, .int .i64 pi, .int .i64 pm, .slice da dl dc] 30)).alloc (.cells #[.int .i64 0, .int .i64 0, .int .i64 0, .int .i64 0, .int .i64 0, .int .i64 0, .int .i64 0, .bool false, .slice none 0 0, .int .i64 0, .int .i64 0, .int .i64 0, .slice none 0 0, .int .i64 0, .int .i64 0, .int .i64 0, .slice none 0 0] 30)) = y := ⟨_, rfl⟩
  rw [hy0] at hal hx0 hz0
  have k0x9 : y0.cell? ⟨w.heap.size, 9, none⟩ = some (.int .i64 ek) := cell_of_heap hx0
  have k0x10 : y0.cell? ⟨w.heap.size, 10, none⟩ = some (.int .i64 ef) := cell_of_heap hx0
  have k0x11 : y0.cell? ⟨w.heap.size, 11, none⟩ = some (.int .i64 en) := cell_of_heap hx0
  have k0x12 : y0.cell? ⟨w.heap.size, 12, none⟩ = some (.slice ta tl tc) := cell_of_heap hx0
  have f0 : ∀ o, y0.frozen? ⟨w.heap.size, o, none⟩ = false := fun o => frozen_of_heap hx0
  have HB1 : Hid (Below w.heap.size w ((((y0.setCell ⟨w.heap.size, 9, none⟩ (.int .i64 0)).setCell ⟨w.heap.size, 10, none⟩ (.int .i64 0)).setCell ⟨w.heap.size, 11, none⟩ (.int .i64 0)).setCell ⟨w.heap.size, 12, none⟩ (.slice none 0 0))) := ((((hal.setCell (p := ⟨w.heap.size, 9, none⟩) (Nat.le_refl _) _).setCell (p := ⟨w.heap.size, 10, none⟩) (Nat.le_refl _) _).setCell (p := ⟨w.heap.size, 11, none⟩) (Nat.le_refl _) _).setCell (p := ⟨w.heap.size, 12, none⟩) (Nat.le_refl _) _)
  have HX1 : Hid (((((y0.setCell ⟨w.heap.size, 9, none⟩ (.int .i64 0)).setCell ⟨w.heap.size, 10, none⟩ (.int .i64 0)).setCell ⟨w.heap.size, 11, none⟩ (.int .i64 0)).setCell ⟨w.heap.size, 12, none⟩ (.slice none 0 0)).heap[w.heap.size]? = some (.cells #[.int .i64 aK, .int .i64 aF, .int .i64 aO, .int .i64 aT, .int .i64 aS, .int .i64 aL, .int .i64 aC, .bool aY, .slice la ll lc, .int .i64 0, .int .i64 0, .int .i64 0, .slice none 0 0, .int .i64 ps, .int .i64 pi, .int .i64 pm, .slice da dl dc] 30)) := (setCell_heap (setCell_heap (setCell_heap (setCell_heap hx0))))
  have HZ1 : Hid (((((y0.setCell ⟨w.heap.size, 9, none⟩ (.int .i64 0)).setCell ⟨w.heap.size, 10, none⟩ (.int .i64 0)).setCell ⟨w.heap.size, 11, none⟩ (.int .i64 0)).setCell ⟨w.heap.size, 12, none⟩ (.slice none 0 0)).heap[w.heap.size + 1]? = some (.cells #[.int .i64 0, .int .i64 0, .int .i64 0, .int .i64 0, .int .i64 0, .int .i64 0, .int .i64 0, .bool false, .slice none 0 0, .int .i64 0, .int .i64 0, .int .i64 0, .slice none 0 0, .int .i64 0, .int .i64 0, .int .i64 0, .slice none 0 0] 30)) := ((Below.heap_setCell _ _ _ _ (fun e => by simp only at e; omega)).trans ((Below.heap_setCell _ _ _ _ (fun e => by simp only at e; omega)).trans ((Below.heap_setCell _ _ _ _ (fun e => by simp only at e; omega)).trans ((Below.heap_setCell _ _ _ _ (fun e => by simp only at e; omega)).trans hz0))))
  clear hal e0 hx0 hz0
  obtain ⟨y1, hy1⟩ : ∃ y, ((((y0.setCell ⟨w.heap.size, 9, none⟩ (.int .i64 0)).setCell ⟨w.heap.size, 10, none⟩ (.int .i64 0)).setCell ⟨w.heap.size, 11, none⟩ (.int .i64 0)).setCell ⟨w.heap.size, 12, none⟩ (.slice none 0 0)) = y := ⟨_, rfl⟩
  rw [hy1] at HX1 HZ1 HB1
  have HB9 : Hid (Below w.heap.size w (y1.setRow (w.heap.size + 1) #[.int .i64 aK, .int .i64 aF, .int .i64 aO, .int .i64 aT, .int .i64 aS, .int .i64 aL, .int .i64 aC, .bool aY, .slice la ll lc, .int .i64 0, .int .i64 0, .int .i64 0, .slice none 0 0, .int .i64 ps, .int .i64 pi, .int .i64 pm, .slice da dl dc])) := below_setRow (unhide HB1) (by omega)
  have HZ9 : Hid ((y1.setRow (w.heap.size + 1) #[.int .i64 aK, .int .i64 aF, .int .i64 aO, .int .i64 aT, .int .i64 aS, .int .i64 aL, .int .i64 aC, .bool aY, .slice la ll lc, .int .i64 0, .int .i64 0, .int .i64 0, .slice none 0 0, .int .i64 ps, .int .i64 pi, .int .i64 pm, .slice da dl dc]).heap[w.heap.size + 1]? = some (.cells #[.int .i64 aK, .int .i64 aF, .int .i64 aO, .int .i64 aT, .int .i64 aS, .int .i64 aL, .int .i64 aC, .bool aY, .slice la ll lc, .int .i64 0, .int .i64 0, .int .i64 0, .slice none 0 0, .int .i64 ps, .int .i64 pi, .int .i64 pm, .slice da dl dc] 30)) := setRow_heap _ _ _ _ _ _ (unhide HZ1)
  obtain ⟨y9, hy9⟩ : ∃ y, (y1.setRow (w.heap.size + 1) #[.int .i64 aK, .int .i64 aF, .int .i64 aO, .int .i64 aT, .int .i64 aS, .int .i64 aL, .int .i64 aC, .bool aY, .slice la ll lc, .int .i64 0, .int .i64 0, .int .i64 0, .slice none 0 0, .int .i64 ps, .int .i64 pi, .int .i64 pm, .slice da dl dc]) = y := ⟨_, rfl⟩
  rw [hy9] at HB9 HZ9
  go_enter Tryz.func68, Tryz.ntmps68
  go_wp2_with (first | rw [hy1] | rw [hy9] | rw [hy0] | refine wpList_load_row rfl 30 _ rfl w.heap.size rfl 30 _ (0, 0) _ (unhide HX1) Tryz.underlying30 rfl (by kernel_rfl) ?_ | refine wpList_store_row rfl 30 _ _ rfl (w.heap.size + 1) _ _ rfl rfl 30 (unhide HZ1) (by kernel_rfl) rfl (by first | kernel_rfl | simp [Value.oneCell']) ?_)
  refine bodyPost_ret (results_cell_row rfl _ _ (w.heap.size + 1) 30 #[.int .i64 aK, .int .i64 aF, .int .i64 aO, .int .i64 aT, .int .i64 aS, .int .i64 aL, .int .i64 aC, .bool aY, .slice la ll lc, .int .i64 0, .int .i64 0, .int .i64 0, .slice none 0 0, .int .i64 ps, .int .i64 pi, .int .i64 pm, .slice da dl dc] (0, 0) _ rfl (unhide HZ9) Tryz.underlying30 rfl (by kernel_rfl)) rfl ?_
  refine ⟨_, rfl, fun w0 h => ?_, unhide HB9⟩
  obtain ⟨_, _, _, e, a, b, c⟩ := h
  simp only [Array.mk.injEq, List.cons.injEq, true_and, and_true] at e
  obtain ⟨rfl, rfl, rfl⟩ := e
  exact ⟨_, _, _, rfl, a, SeesTs.nil _, c⟩
set_option maxHeartbeats 800000 in
theorem without7_any (cs : Array Value) (m : MsgD) (w : World) (hM : SeesM w cs m) :
    Calls Tryz.prog 68 #[.agg cs, .int .i64 7] w fun e w' => ∃ cs', e = .returned (.agg cs') ∧ (∀ w0, SeesM w0 cs m → SeesM w0 cs' { m with part := dP }) ∧ Below w.heap.size w w' := by
  obtain ⟨aK, aF, aO, aT, aS, aL, aC, aY, ml, ⟨ek, ef, en, mt⟩, ⟨ps, pi, pm, md⟩⟩ := m
  obtain ⟨_, _, _, rfl, k1, k2, k3⟩ := hM
  simp only at k1 k2 k3 ⊢
  obtain ⟨la, lc, _, _, rfl, _⟩ := k1
  obtain ⟨ta, tc, _, _, rfl, _⟩ := k2
  obtain ⟨da, dc, rfl, _⟩ := k3
  obtain ⟨ll, hll⟩ : ∃ n, ml.length = n := ⟨_, rfl⟩
  obtain ⟨tl, htl⟩ : ∃ n, mt.length = n := ⟨_, rfl⟩
  obtain ⟨dl, hdl⟩ : ∃ n, md.length = n := ⟨_, rfl⟩
  rw [hll, htl, hdl]
  clear hll htl hdl
  have hal : Below w.heap.size w ((w.alloc (.cells #[.int .i64 aK, .int .i64 aF, .int .i64 aO, .int .i64 aT, .int .i64 aS, .int .i64 aL, .int .i64 aC, .bool aY, .slice la ll lc, .int .i64 ek, .int .i64 ef, .int .i64 en, .slice ta tl tc, .int .i64 ps, .int .i64 pi, .int .i64 pm, .slice da dl dc] 30)).alloc (.cells #[.int .i64 0, .int .i64 0, .int .i64 0, .int .i64 0, .int .i64 0, .int .i64 0, .int .i64 0, .bool false, .slice none 0 0, .int .i64 0, .int .i64 0, .int .i64 0, .slice none 0 0, .int .i64 0, .int .i64 0, .int .i64 0, .slice none 0 0] 30)) := ((Below.refl _ _).alloc (Nat.le_refl _) _).alloc (by simp) _
  have e0 : (w.alloc (.cells #[.int .i64 aK, .int .i64 aF, .int .i64 aO, .int .i64 aT, .int .i64 aS, .int .i64 aL, .int .i64 aC, .bool aY, .slice la ll lc, .int .i64 ek, .int .i64 ef, .int .i64 en, .slice ta tl tc, .int .i64 ps, .int .i64 pi, .int .i64 pm, .slice da dl dc] 30)).heap.size = w.heap.size + 1 := by simp
  have hx0 : ((w.alloc (.cells #[.int .i64 aK, .int .i64 aF, .int .i64 aO, .int .i64 aT, .int .i64 aS, .int .i64 aL, .int .i64 aC, .bool aY, .slice la ll lc, .int .i64 ek, .int .i64 ef, .int .i64 en, .slice ta tl tc, .int .i64 ps, .int .i64 pi, .int .i64 pm, .slice da dl dc] 30)).alloc (.cells #[.int .i64 0, .int .i64 0, .int .i64 0, .int .i64 0, .int .i64 0, .int .i64 0, .int .i64 0, .bool false, .slice none 0 0, .int .i64 0, .int .i64 0, .int .i64 0, .slice none 0 0, .int .i64 0, .int .i64 0, .int .i64 0, .slice none 0 0] 30)).heap[w.heap.size]? = some (.cells #[.int .i64 aK, .int .i64 aF, .int .i64 aO, .int .i64 aT, .int .i64 aS, .int .i64 aL, .int .i64 aC, .bool aY, .slice la ll lc, .int .i64 ek, .int .i64 ef, .int .i64 en, .slice ta tl tc, .int .i64 ps, .int .i64 pi, .int .i64 pm, .slice da dl dc] 30) := (Below.heap_alloc _ _ _ (by simp)).trans (heap_alloc_new w _)
  have hz0 : ((w.alloc (.cells #[.int .i64 aK, .int .i64 aF, .int .i64 aO, .int .i64 aT, .int .i64 aS, .int .i64 aL, .int .i64 aC, .bool aY, .slice la ll lc, .int .i64 ek, .int .i64 ef, .int .i64 en, .slice ta tl tc, .int .i64 ps, .int .i64 pi, .int .i64 pm, .slice da dl dc] 30)).alloc (.cells #[.int .i64 0, .int .i64 0, .int .i64 0, .int .i64 0, .int .i64 0, .int .i64 0, .int .i64 0, .bool false, .slice none 0 0, .int .i64 0, .int .i64 0, .int .i64 0, .slice none 0 0, .int .i64 0, .int .i64 0, .int .i64 0, .slice none 0 0] 30)).heap[w.heap.size + 1]? = some (.cells #[.int .i64 0, .int .i64 0, .int .i64 0, .int .i64 0, .int .i64 0, .int .i64 0, .int .i64 0, .bool false, .slice none 0 0, .int .i64 0, .int .i64 0, .int .i64 0, .slice none 0 0, .int .i64 0, .int .i64 0, .int .i64 0, .slice none 0 0] 30) := by have := heap_alloc_new (w.alloc (.cells #[.int .i64 aK, .int .i64 aF, .int .i64 aO, .int .i64 aT, .int .i64 aS, .int .i64 aL, .int .i64 aC, .bool aY, .slice la ll lc, .int .i64 ek, .int .i64 ef, .int .i64 en, .slice ta tl tc, .int .i64 ps, .int .i64 pi, .int .i64 pm, .slice da dl dc] 30)) (.cells #[.int .i64 0, .int .i64 0, .int .i64 0, .int .i64 0, .int .i64 0, .int .i64 0, .int .i64 0, .bool false, .slice none 0 0, .int .i64 0, .int .i64 0, .int .i64 0, .slice none 0 0, .int .i64 0, .int .i64 0, .int .i64 0, .slice none 0 0] 30); rw [e0] at this; exact this
  obtain ⟨y0, hy0⟩ : ∃ y, ((w.alloc (.cells #[.int .i64 aK, .int .i64 aF, .int .i64 aO, .int .i64 aT, .int .i64 aS, .int .i64 aL, .int .i64 aC, .bool aY, .slice la ll lc, .int .i64 ek, .int .i64 ef, .int .i64 en, .slice ta tl tc, .int .i64 ps, .int .i64 pi, .int .i64 pm, .slice da dl dc] 30)).alloc (.cells #[.int .i64 0, .int .i64 0, .int .i64 0, .int .i64 0, .int .i64 0, .int .i64 0, .int .i64 0, .bool false, .slice none 0 0, .int .i64 0, .int .i64 0, .int .i64 0, .slice none 0 0, .int .i64 0, .int .i64 0, .int .i64 0, .slice none 0 0] 30)) = y := ⟨_, rfl⟩
  rw [hy0] at hal hx0 hz0
  have k0x13 : y0.cell? ⟨w.heap.size, 13, none⟩ = some (.int .i64 ps) := cell_of_heap hx0
  have k0x14 : y0.cell? ⟨w.heap.size, 14, none⟩ = some (.int .i64 pi) := cell_of_heap hx0
  have k0x15 : y0.cell? ⟨w.heap.size, 15, none⟩ = some (.int .i64 pm) := cell_of_heap hx0
  have k0x16 : y0.cell? ⟨w.heap.size, 16, none⟩ = some (.slice da dl dc) := cell_of_heap hx0
  have f0 : ∀ o, y0.frozen? ⟨w.heap.size, o, none⟩ = false := fun o => frozen_of_heap hx0
  have HB1 : Hid (Below w.heap.size w ((((y0.setCell ⟨w.heap.size, 13, none⟩ (.int .i64 0)).setCell ⟨w.heap.size, 14, none⟩ (.int .i64 0)).setCell ⟨w.heap.size, 15, none⟩ (.int .i64 0)).setCell ⟨w.heap.size, 16, none⟩ (.slice none 0 0))) := ((((hal.setCell (p := ⟨w.heap.size, 13, none⟩) (Nat.le_refl _) _).setCell (p := ⟨w.heap.size, 14, none⟩) (Nat.le_refl _) _).setCell (p := ⟨w.heap.size, 15, none⟩) (Nat.le_refl _) _).setCell (p := ⟨w.heap.size, 16, none⟩) (Nat.le_refl _) _)
  have HX1 : Hid (((((y0.setCell ⟨w.heap.size, 13, none⟩ (.int .i64 0)).setCell ⟨w.heap.size, 14, none⟩ (.int .i64 0)).setCell ⟨w.heap.size, 15, none⟩ (.int .i64 0)).setCell ⟨w.heap.size, 16, none⟩ (.slice none 0 0)).heap[w.heap.size]? = some (.cells #[.int .i64 aK, .int .i64 aF, .int .i64 aO, .int .i64 aT, .int .i64 aS, .int .i64 aL, .int .i64 aC, .bool aY, .slice la ll lc, .int .i64 ek, .int .i64 ef, .int .i64 en, .slice ta tl tc, .int .i64 0, .int .i64 0, .int .i64 0, .slice none 0 0] 30)) := (setCell_heap (setCell_heap (setCell_heap (setCell_heap hx0))))
  have HZ1 : Hid (((((y0.setCell ⟨w.heap.size, 13, none⟩ (.int .i64 0)).setCell ⟨w.heap.size, 14, none⟩ (.int .i64 0)).setCell ⟨w.heap.size, 15, none⟩ (.int .i64 0)).setCell ⟨w.heap.size, 16, none⟩ (.slice none 0 0)).heap[w.heap.size + 1]? = some (.cells #[.int .i64 0, .int .i64 0, .int .i64 0, .int .i64 0, .int .i64 0, .int .i64 0, .int .i64 0, .bool false, .slice none 0 0, .int .i64 0, .int .i64 0, .int .i64 0, .slice none 0 0, .int .i64 0, .int .i64 0, .int .i64 0, .slice none 0 0] 30)) := ((Below.heap_setCell _ _ _ _ (fun e => by simp only at e; omega)).trans ((Below.heap_setCell _ _ _ _ (fun e => by simp only at e; omega)).trans ((Below.heap_setCell _ _ _ _ (fun e => by simp only at e; omega)).trans ((Below.heap_setCell _ _ _ _ (fun e => by simp only at e; omega)).trans hz0))))
  clear hal e0 hx0 hz0
  obtain ⟨y1, hy1⟩ : ∃ y, ((((y0.setCell ⟨w.heap.size, 13, none⟩ (.int .i64 0)).setCell ⟨w.heap.size, 14, none⟩ (.int .i64 0)).setCell ⟨w.heap.size, 15, none⟩ (.int .i64 0)).setCell ⟨w.heap.size, 16, none⟩ (.slice none 0 0)) = y := ⟨_, rfl⟩
  rw [hy1] at HX1 HZ1 HB1
  have HB9 : Hid (Below w.heap.size w (y1.setRow (w.heap.size + 1) #[.int .i64 aK, .int .i64 aF, .int .i64 aO, .int .i64 aT, .int .i64 aS, .int .i64 aL, .int .i64 aC, .bool aY, .slice la ll lc, .int .i64 ek, .int .i64 ef, .int .i64 en, .slice ta tl tc, .int .i64 0, .int .i64 0, .int .i64 0, .slice none 0 0])) := below_setRow (unhide HB1) (by omega)
  have HZ9 : Hid ((y1.setRow (w.heap.size + 1) #[.int .i64 aK, .int .i64 aF, .int .i64 aO, .int .i64 aT, .int .i64 aS, .int .i64 aL, .int .i64 aC, .bool aY, .slice la ll lc, .int .i64 ek, .int .i64 ef, .int .i64 en, .slice ta tl tc, .int .i64 0, .int .i64 0, .int .i64 0, .slice none 0 0]).heap[w.heap.size + 1]? = some (.cells #[.int .i64 aK, .int .i64 aF, .int .i64 aO, .int .i64 aT, .int .i64 aS, .int .i64 aL, .int .i64 aC, .bool aY, .slice la ll lc, .int .i64 ek, .int .i64 ef, .int .i64 en, .slice ta tl tc, .int .i64 0, .int .i64 0, .int .i64 0, .slice none 0 0] 30)) := setRow_heap _ _ _ _ _ _ (unhide HZ1)
  obtain ⟨y9, hy9⟩ : ∃ y, (y1.setRow (w.heap.size + 1) #[.int .i64 aK, .int .i64 aF, .int .i64 aO, .int .i64 aT, .int .i64 aS, .int .i64 aL, .int .i64 aC, .bool aY, .slice la ll lc, .int .i64 ek, .int .i64 ef, .int .i64 en, .slice ta tl tc, .int .i64 0, .int .i64 0, .int .i64 0, .slice none 0 0]) = y := ⟨_, rfl⟩
  rw [hy9] at HB9 HZ9
  go_enter Tryz.func68, Tryz.ntmps68
  go_wp2_with (first | rw [hy1] | rw [hy9] | rw [hy0] | refine wpList_load_row rfl 30 _ rfl w.heap.size rfl 30 _ (0, 0) _ (unhide HX1) Tryz.underlying30 rfl (by kernel_rfl) ?_ | refine wpList_store_row rfl 30 _ _ rfl (w.heap.size + 1) _ _ rfl rfl 30 (unhide HZ1) (by kernel_rfl) rfl (by first | kernel_rfl | simp [Value.oneCell']) ?_)
  refine bodyPost_ret (results_cell_row rfl _ _ (w.heap.size + 1) 30 #[.int .i64 aK, .int .i64 aF, .int .i64 aO, .int .i64 aT, .int .i64 aS, .int .i64 aL, .int .i64 aC, .bool aY, .slice la ll lc, .int .i64 ek, .int .i64 ef, .int .i64 en, .slice ta tl tc, .int .i64 0, .int .i64 0, .int .i64 0, .slice none 0 0] (0, 0) _ rfl (unhide HZ9) Tryz.underlying30 rfl (by kernel_rfl)) rfl ?_
  refine ⟨_, rfl, fun w0 h => ?_, unhide HB9⟩
  obtain ⟨_, _, _, e, a, b, c⟩ := h
  simp only [Array.mk.injEq, List.cons.injEq, true_and, and_true] at e
  obtain ⟨rfl, rfl, rfl⟩ := e
  exact ⟨_, _, _, rfl, a, b, Sees.nil _ _⟩
theorem without_any (cs : Array Value) (m : MsgD) (f : Int) (w : World) (hM : SeesM w cs m) (hf0 : 0 ≤ f) (hf7 : f ≤ 7) :
    Calls Tryz.prog 68 #[.agg cs, .int .i64 f] w fun e w' => ∃ cs', e = .returned (.agg cs') ∧ (∀ w0, SeesM w0 cs m → SeesM w0 cs' (wout f m)) ∧ Below w.heap.size w w' := by
  by_cases h0 : f = 0
  case pos =>
    subst h0
    exact without0_any cs m w hM
  by_cases h1 : f = 1
  case pos =>
    subst h1
    exact without1_any cs m w hM
  by_cases h2 : f = 2
  case pos =>
    subst h2
    exact without2_any cs m w hM
  by_cases h3 : f = 3
  case pos =>
    subst h3
    exact without3_any cs m w hM
  by_cases h4 : f = 4
  case pos =>
    subst h4
    exact without4_any cs m w hM
  by_cases h5 : f = 5
  case pos =>
    subst h5
    exact without5_any cs m w hM
  by_cases h6 : f = 6
  case pos =>
    subst h6
    exact without6_any cs m w hM
  by_cases h7 : f = 7
  case pos =>
    subst h7
    exact without7_any cs m w hM
  omega
end Go.Proofs.YtggllgimlfchhabGreat
