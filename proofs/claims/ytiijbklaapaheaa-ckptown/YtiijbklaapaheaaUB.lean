/- Used. -/
import Derived.Test.YtiijbklaapaheaaUA
import Derived.Test.YtiijbklaapaheaaM9
import Derived.Deep.MidRow
namespace Go.Proofs.Ytiijbklaapaheaa
open Go.RowKit Go.Shelf
set_option maxRecDepth 100000
attribute [local go_sem] Oper.semAt_some

/-- The cells of one block of a flash. -/
def Fl.blk (F : Fl) (i : Nat) : List Value := (List.range 33).map fun t => F.cellAt (i * 33 + t)
theorem blk_length (F : Fl) (i : Nat) : (F.blk i).length = 33 := by simp [Fl.blk]
theorem blk_at (F : Fl) (i t : Nat) (h : t < 33) : (F.blk i)[t]? = some (F.cellAt (i * 33 + t)) := by
  unfold Fl.blk
  rw [List.getElem?_map, List.getElem?_range h]
  rfl
theorem IsFl.range {w : World} {g h cap : Nat} {F : Fl} (H : IsFl w g h cap F) (i : Nat) (hi : i < F.n) : w.rangeAt g (i * 33) (F.blk i) := by
  intro j v hv
  have hj : j < 33 := by have := (List.getElem?_eq_some_iff.1 hv).1; rwa [blk_length] at this
  rw [blk_at F i j hj] at hv
  rw [H.cellAt (i * 33 + j) (by omega)]
  exact hv

theorem rowU_len (st : Nat → Int) (a b k : Nat) : (rowU st a k).length = (rowU st b k).length := by
  induction k with
  | zero => rfl
  | succ k ih => rw [rowU, rowU, List.length_append, List.length_append, ih]; split <;> rfl

theorem fold_at (l : List Value) : ∀ (k : Nat) (z : Array Value), k + l.length ≤ z.size → ∀ j, ((l.zipIdx k).foldl (fun cs x => cs.setIfInBounds x.2 x.1) z)[j]? = if k ≤ j ∧ j < k + l.length then l[j - k]? else z[j]? := by
  induction l with
  | nil => intro k z _ j; rw [if_neg (by simp only [List.length_nil]; omega)]; rfl
  | cons x l ih =>
    intro k z hz j
    rw [List.zipIdx_cons, List.foldl_cons, ih (k + 1) _ (by simp at hz ⊢; omega)]
    simp only [List.length_cons] at hz ⊢
    by_cases h1 : k + 1 ≤ j ∧ j < k + 1 + l.length
    · rw [if_pos h1, if_pos (by omega), show j - k = (j - (k + 1)) + 1 by omega, List.getElem?_cons_succ]
    · rw [if_neg h1]
      by_cases h2 : j = k
      · subst h2
        rw [if_pos (by omega), Nat.sub_self, List.getElem?_cons_zero, Array.getElem?_setIfInBounds_self, if_pos (by omega)]
      · rw [if_neg (by omega), Array.getElem?_setIfInBounds_ne (by omega)]
theorem fold_list (l : List Value) (z : Array Value) (h : l.length = z.size) : (l.zipIdx).foldl (fun cs x => cs.setIfInBounds x.2 x.1) z = l.toArray := by
  apply Array.ext_getElem?
  intro j
  rw [fold_at l 0 z (by omega)]
  by_cases hj : j < l.length
  · rw [if_pos (by omega)]; simp
  · rw [if_neg (by omega), Array.getElem?_eq_none (by omega), Array.getElem?_eq_none (by simpa using hj)]

theorem Try.size81 : (Try.prog.info? 109).map (·.size) = some 33 := by kernel_rfl

theorem wpListIn_load_mid {F : Fence} {n : Nat} {P : Program} {ops : Array Oper} {rest : List Oper} {op : Oper} {a : Act} {w : World} {Q : Exit → Act → World → Prop} (hgd : op.guard = none) (ty : TypeId) (x : Operand) (ho : op.op = .load ty x)
    (b o : Nat) (hx : a.eval x = .pointer (some ⟨b, o, none⟩)) (cs : List Value) (d : TypeDesc) (hc : w.rangeAt b o cs)
    (hu : P.underlying ty = some d) (hd : d.isRow = true) (hi : (P.info? ty).map (·.size) = some cs.length)
    (h : wpListIn F n P ops Q rest (a.put op.dst (.agg cs.toArray)) w) : wpListIn F n P ops Q (op :: rest) a w := by
  refine wpListIn_plain hgd fun K hK' => ?_
  unfold Oper.wpIn
  refine ⟨?_, ?_⟩
  · simp [Oper.about, ho]
  · rw [Oper.semAt_plain F _ _ (by rw [ho]; intro c hc'; cases hc')]
    simp [execOp, ho, hx, run_loadAt_mid w b o ty cs d hc hu hd hi, Result.andThen]
    exact hK' _ _ h

set_option maxRecDepth 100000 in
set_option maxHeartbeats 2000000 in
theorem fused_any {w : World} {g h cap : Nat} {F : Fl} (H : IsFl w g h cap F) (i : Int) :
    Calls Try.prog 24 #[P0 h, .int .i64 i] w fun e w' => e = .returned (.int .i64 (F.usedE i)) ∧ Below w.heap.size w w' := by
  have HH := hide (has_yes H i)
  have h1 := H.ptr
  have hle := H.le; have hfit := H.fit
  refine (callsIn_wide (n := 3)).1 ?_
  refine callsIn_of_wp_marks Try.func24 rfl trivial ?_ rfl
  simp only [Try.ntmps24, List.size_toArray, List.length_cons, List.length_nil, Nat.reduceAdd, Nat.reduceSub, Array.replicate_succ, Array.replicate_zero, List.push_toArray, List.append_toArray, List.nil_append, List.cons_append]
  unfold Fl.usedE
  by_cases hi : 0 ≤ i ∧ i < F.n
  · have hb : (decide (0 ≤ i) && decide (i < F.n)) = true := by simp [hi]
    rw [hb] at HH
    rw [if_pos hi]
    obtain ⟨i, rfl⟩ := nat_of hi.1
    obtain ⟨a1, a2⟩ := hi
    have hi : i < F.n := by omega
    have HI := hide H
    have hr := hide (H.range i hi)
    have hu := Try.underlying109
    clear H hb
    gi_wp2_with fail
    refine ⟨trivial, ((callsIn_wide (n := 2)).2 (unhide HH)).mono ?_⟩
    rintro e w' ⟨rfl, rfl⟩
    have HR := hide ((unhide HI).alloc (.cells #[.int .i64 0] 3) |>.range i hi)
    have HS : Hid ((Try.prog.info? 109).map (·.size) = some (F.blk i).length) := by rw [blk_length]; exact Try.size81
    have HU := hide hu
    have h1' := ((unhide HI).alloc (.cells #[.int .i64 0] 3)).ptr
    have HN := blk_length F i
    clear hu hr
    gi_wp2_with (with_reducible refine wpListIn_load_mid rfl 109 (.tmp 15) rfl g (i * 33) ?hx (F.blk i) _ (unhide HR) (unhide HU) rfl (unhide HS) ?_)
    case hx => rfl
    refine ⟨trivial, ((callsIn_wide (n := 2)).2 (used_fn _ _ _)).mono ?_⟩
    rintro e w' ⟨rfl, rfl⟩
    rw [fold_list _ _ (by rw [HN]; rfl)]
    gi_wp2
    obtain ⟨W0, hW0⟩ : ∃ W0, ((w.alloc (.cells #[.int .i64 0] 3)).alloc (.cells (F.blk i).toArray 109)).alloc (.cells #[.slice (some ⟨w.heap.size + 1, 0, none⟩) 1 1] 80) = W0 := ⟨_, rfl⟩
    have hsz : W0.heap.size = w.heap.size + 3 := by rw [← hW0]; simp
    have hB0 : Below w.heap.size w W0 := by rw [← hW0]; exact ((((Below.refl _ _).alloc (Nat.le_refl _) _).alloc (by simp) _).alloc (by simp; omega) _)
    have hc0 : W0.cell? ⟨w.heap.size, 0, none⟩ = some (.int .i64 0) ∧ W0.frozen? ⟨w.heap.size, 0, none⟩ = false := by rw [← hW0]; constructor <;> simp [go_sem, World.cell?_alloc_old]
    have hc2 : W0.cell? ⟨w.heap.size + 1 + 1, 0, none⟩ = some (.slice (some ⟨w.heap.size + 1, 0, none⟩) 1 1) := by rw [← hW0]; simp [go_sem]
    have hc1 : ∀ i' j, i' < 1 → j < 16 → W0.cell? ⟨w.heap.size + 1, i' * 33 + j * 2, none⟩ = some (.int .i64 (F.st i j)) := by
      intro i' j h1 h2
      obtain rfl : i' = 0 := by omega
      rw [← hW0]
      have e1 : ((w.alloc (.cells #[.int .i64 0] 3)).alloc (.cells (F.blk i).toArray 109)).cell? ⟨w.heap.size + 1, 0 * 33 + j * 2, none⟩ = some (.int .i64 (F.st i j)) := by
        have := World.cell?_alloc_new (w.alloc (.cells #[.int .i64 0] 3)) (F.blk i).toArray 109 (0 * 33 + j * 2)
        rw [World.size_alloc] at this
        rw [this]
        have e2 := blk_at F i (0 * 33 + j * 2) (by omega)
        rw [Nat.zero_mul, Nat.zero_add] at e2 ⊢
        rw [cellAt_st F i j h2] at e2
        simpa using e2
      exact (Below.cell ((Below.refl _ _).alloc (Nat.le_refl _) _) (p := ⟨w.heap.size + 1, 0 * 33 + j * 2, none⟩) (by simp)).trans e1
    rw [hW0]
    clear hW0
    refine wpIn_rangeFunc_ownF rfl (by decide) (gf := 82) (lb := #[.pointer (some ⟨w.heap.size + 1 + 1, 0, none⟩)]) rfl trivial (enters_of Try.func82 (by kernel_rfl) rfl)
      (used_stops Fence.wide 2 trivial rfl (by decide) (w.heap.size + 1 + 1) (w.heap.size + 1) 1 1 (fun _ => F.st i) (Nat.le_refl _) (by decide) W0 (by omega) (by omega) hc2 hc1) KT.trans (KT.putObj (by omega) (by omega)) (Below.refl _ _) (fun _ => rfl)
      (fun pre W => (W.cell? ⟨w.heap.size, 0, none⟩ = some (.int .i64 pre.length) ∧ W.frozen? ⟨w.heap.size, 0, none⟩ = false) ∧ Below w.heap.size w W)
      (fun _ _ _ => False)
      (OwnFrom.and (Own.from (fun s A B row hs hg hr => ⟨cell_kept hs.1 hg hr, (frozen_kept hs.1 hg hr).trans hs.2⟩) _) (ownFrom_below (Nat.le_refl _) (by omega)))
      (fun _ => ownFrom_pure _ _)
      ⟨hc0, hB0⟩
      (fun x => { tmps := #[P0 h, Value.int IntKind.i64 ↑i, undef, undef, Value.int IntKind.i64 0,
          Value.pointer (some { block := w.heap.size, off := 0 }), P0 h, Value.int IntKind.i64 ↑i, Value.bool true,
          Value.bool false, P0 h, Value.pointer (some { block := h, off := 0 }),
          Value.pointer (some { block := h, off := 0 }), Value.slice (some { block := g, off := 0 }) F.n cap,
          Value.int IntKind.i64 ↑i, Value.pointer (some { block := g, off := i * 33 }), Value.agg (F.blk i).toArray,
          Value.slice (some { block := w.heap.size + 1, off := 0 }) 1 1,
          Value.func (Fn.func 82) #[] #[Value.pointer (some { block := w.heap.size + 1 + 1, off := 0 })], .agg #[.int .i64 x.1, .int .i64 x.2], undef,
          undef, undef], defers := [] }) ?assign ?body ?done ?stop
    case assign =>
      intro l x W K hK
      gi_wp2
      simpa using hK
    case body =>
      rintro l pre x W ⟨⟨d0, d0f⟩, hB⟩ hlen
      have HB := hide hB
      obtain ⟨m, hm⟩ : ∃ m, pre.length = m := ⟨_, rfl⟩
      have HM := hide hm
      rw [hm] at d0 hlen
      clear hm hB hc0 hc1 hc2 hB0 h1 h1'
      gi_wp2
      have hb2 : w.heap.size ≤ w.heap.size := by omega
      refine ⟨KeepsOthers.setCell _ _ _, ⟨Below.heap_setCell _ _ _ _ (by simp), Below.heap_setCell _ _ _ _ (by simp; omega)⟩, ⟨?_, ?_⟩, (unhide HB).setCell (p := ⟨w.heap.size, 0, none⟩) hb2 _⟩
      · rw [cs_same d0, List.length_append, List.length_singleton, unhide HM]; rfl
      · rw [World.frozen?_setCell]; exact d0f
    case done =>
      rintro D ys W hD rfl ⟨⟨d0, d0f⟩, hB⟩ hK
      gi_wp2
      refine ⟨by simp, .inl ⟨_, _, rfl, run_takeDeferred hK, ?_⟩⟩
      refine ⟨.int .i64 (allU (fun _ => F.st i) 1).length, ?_, ?_, hB.trans (belowK_b (w := w) (Nat.le_refl _) _ D _ _ (by omega) hK rfl rfl)⟩
      · simp [results, Try.results24, go_sem]
      · have : (allU (fun _ => F.st i) 1).length = (rowU (F.st (i : Int).toNat) (i : Int).toNat 16).length := by
          rw [Int.toNat_natCast]
          show ([] ++ rowU (F.st i) 0 16).length = _
          rw [List.nil_append]
          exact rowU_len _ _ _ _
        rw [this]
    case stop =>
      rintro D c pre W _ _ h _
      exact h.elim
  · have hb : (decide (0 ≤ i) && decide (i < F.n)) = false := by
      by_cases c : 0 ≤ i
      · have : ¬ i < F.n := fun d => hi ⟨c, d⟩
        simp [this]
      · simp [c]
    rw [hb] at HH
    rw [if_neg hi]
    clear H hb hi
    gi_wp2_with fail
    refine ⟨trivial, ((callsIn_wide (n := 2)).2 (unhide HH)).mono ?_⟩
    rintro e w' ⟨rfl, rfl⟩
    gi_wp2
    refine ⟨.int .i64 0, ?_, rfl, Below.refl _ _⟩
    simp [results, Try.results24, go_sem]
end Go.Proofs.Ytiijbklaapaheaa
