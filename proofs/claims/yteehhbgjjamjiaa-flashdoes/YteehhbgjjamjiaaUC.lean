/- slices.AppendSeq, slices.Collect, All. -/
import Derived.Test.YteehhbgjjamjiaaUB
import Derived.RangeFuncBox
namespace Go.Proofs.Yteehhbgjjamjiaa
open Go.RowKit Go.Shelf
attribute [local go_sem] Oper.semAt_some

theorem Try.info91 : (Try.prog.info? 91).map (fun i => (i.zero, i.size, i.bytes)) = some (some (.agg #[.int .i64 0, .int .i64 0]), 2, 16) := by kernel_rfl

set_option maxRecDepth 100000 in
set_option maxHeartbeats 2000000 in
theorem appseq_any {w : World} (Bs b len cap : Nat) (st : Nat → Nat → Int) (hlc : len ≤ cap) (hreach : len ≤ 1024) (hb : b < w.heap.size)
    (hBs : w.cell? ⟨Bs, 0, none⟩ = some (.slice (some ⟨b, 0, none⟩) len cap)) (hc : ∀ i j, i < len → j < 16 → w.cell? ⟨b, i * 33 + j * 2, none⟩ = some (.int .i64 (st i j))) :
    Calls Try.prog 61 #[.slice none 0 0, .func (.func 60) #[] #[.pointer (some ⟨Bs, 0, none⟩)]] w fun e w' => ∃ x, e = .returned x ∧ w'.ownsRow w.heap.size 91 2 x (allU st len).length (pairCells (allU st len)) ∧ Below w.heap.size w w' := by
  obtain ⟨i0, hi0, hz0, hz1, hz2⟩ := info_parts Try.info91
  have hBl : Bs < w.heap.size := World.block_lt_of_cell? w _ hBs
  refine (callsIn_wide (n := 3)).1 ?_
  refine callsIn_of_wp_marks Try.func61 rfl trivial ?_ rfl
  simp only [Try.ntmps61, List.size_toArray, List.length_cons, List.length_nil, Nat.reduceAdd, Nat.reduceSub, Array.replicate_succ, Array.replicate_zero, List.push_toArray, List.append_toArray, List.nil_append, List.cons_append]
  gi_wp2
  obtain ⟨W0, hW0⟩ : ∃ W0, w.alloc (.cells #[.slice none 0 0] 88) = W0 := ⟨_, rfl⟩
  have hsz : W0.heap.size = w.heap.size + 1 := by rw [← hW0]; simp
  have hB0 : Below w.heap.size w W0 := by rw [← hW0]; exact (Below.refl _ _).alloc (Nat.le_refl _) _
  have hx0 : Boxed W0 w.heap.size 88 (.slice none 0 0) := by rw [← hW0]; exact Boxed.new w 88 _
  rw [hW0]
  clear hW0
  refine wpIn_rangeFunc_ownH rfl (by decide) (gf := 60) (lb := #[.pointer (some ⟨Bs, 0, none⟩)]) rfl trivial (enters_of Try.func60 (by kernel_rfl) rfl)
    (used_stops Fence.wide 2 trivial rfl (by decide) Bs b len cap st hlc hreach W0 (by omega) (by omega) ((hB0.cell (p := ⟨Bs, 0, none⟩) hBl).trans hBs) (fun i j hi hj => (hB0.cell (p := ⟨b, i * 33 + j * 2, none⟩) hb).trans (hc i j hi hj))) KT.trans (KT.putObj (by omega) (by omega)) (Below.refl _ _) (fun _ => rfl)
    (fun pre W => (∃ v, Boxed W w.heap.size 88 v ∧ W.ownsRow w.heap.size 91 2 v pre.length (pairCells pre) ∧ True) ∧ Below w.heap.size w W)
    (fun _ _ _ => False)
    (OwnFrom.and (Own.from (holdsRow_own w.heap.size w.heap.size 88 91 2 (fun pre : List (Int × Int) => pre.length) pairCells (fun _ _ => True)) _) (ownFrom_below (Nat.le_refl _) (by omega)))
    (fun _ => ownFrom_pure _ _)
    ⟨⟨_, hx0, World.ownsRow_nil _ _ _ _, trivial⟩, hB0⟩
    (fun x a' W => ∃ q, w.heap.size < q ∧ (W.cell? ⟨q, 0, none⟩ = some (.int .i64 x.1) ∧ W.cell? ⟨q, 1, none⟩ = some (.int .i64 x.2)) ∧ a' = { tmps := #[.slice none 0 0, .func (.func 60) #[] #[.pointer (some ⟨Bs, 0, none⟩)], .pointer (some ⟨w.heap.size, 0, none⟩), undef, .slice none 0 0, .pointer (some ⟨q, 0, none⟩), .func (.func 60) #[] #[.pointer (some ⟨Bs, 0, none⟩)], .agg #[.int .i64 x.1, .int .i64 x.2], undef, undef, undef, undef, undef], defers := [] })
    ?ax ?assign ?body ?done ?stop
  case ax =>
    rintro x a' s A B row ⟨q, h0, ⟨h1, h2⟩, h3⟩ hg hr
    exact ⟨q, h0, ⟨cell_kept h1 hg (fun r e => (hr r e).2), cell_kept h2 hg (fun r e => (hr r e).2)⟩, h3⟩
  case assign =>
    rintro l pre x W K ⟨⟨v, hv, hrow, _⟩, hB⟩ hK
    gi_wp2
    have hs := hB.size
    refine hK _ _ ((KeepsOthers.alloc _ _).from _) (KT.of ((Below.refl _ W).alloc (Nat.le_refl _) _) (by omega) (by omega)) ⟨⟨v, hv.alloc _, hrow.alloc _, trivial⟩, hB.alloc hs _⟩ ⟨W.heap.size, hv.lt, ⟨?_, ?_⟩, rfl⟩
    · rw [World.cell?_alloc_new]; rfl
    · rw [World.cell?_alloc_new]; rfl
  case body =>
    rintro l pre x a' W _ _ ⟨⟨v, hv, hrow, _⟩, hB⟩ ⟨q, h0, ⟨h1, h2⟩, rfl⟩ hlen
    obtain ⟨ao, ca, rfl⟩ := own_shape2 hrow
    have hs := hB.size
    have HV := hide hv
    have HRow := hide hrow
    have HB := hide hB
    have c0 := hv.cell
    obtain ⟨x1, x2⟩ := x
    clear hv hrow hB hc hBs hB0 hx0
    gi_wp2_with (gi_at_builtin; refine wpListIn_append_own _ rfl _ _ 88 rfl w.heap.size 91 i0 (.agg #[.int .i64 0, .int .i64 0]) 2 16 Try.underlying88 hi0 hz0 hz1 hz2 rfl (by decide) _ _ _ rfl ((unhide HRow).alloc _) ⟨W.heap.size, 0, none⟩ 1 1 [.int .i64 x1, .int .i64 x2] rfl rfl ?d0 ?d1 ?d2 ?d3 ?d4 ?_)
    case d1 => exact ⟨rfl, rfl⟩
    case d2 => unfold maxLen; omega
    case d3 => omega
    case d4 => omega
    intro v' w1 hown' hgrow _
    obtain ⟨hv1, hv2, ho2, hk2, hb2⟩ := Boxed.appended (unhide HV) (by decide) (unhide HRow) hs (Nat.le_refl _) hown' hgrow
    obtain ⟨g', cap', rfl⟩ := ownsRow_succ hown'
    have e0 := hv1.cell
    have e1 := hv1.frozen
    have HE := hide (And.intro hv2 (And.intro ho2 (And.intro hk2 hb2)))
    clear hv1 hv2 ho2 hk2 hb2 hgrow hown'
    gi_wp2
    obtain ⟨hv2, ho2, hk2, hb2⟩ := unhide HE
    refine ⟨hk2.from _, KT.of hb2 hb hBl, ⟨_, hv2, ?_, trivial⟩, (unhide HB).trans hb2⟩
    rw [List.length_append, pairCells_append]
    exact ho2
  case done =>
    rintro D ys W hD rfl ⟨⟨v, hv, hrow, _⟩, hB⟩ hK
    obtain ⟨ao, ca, rfl⟩ := own_shape2 hrow
    have c0 := hv.cell
    gi_wp2
    refine ⟨by simp, .inl ⟨_, _, rfl, run_takeDeferred hK, ?_⟩⟩
    refine ⟨.slice ao (allU st len).length ca, ?_, _, rfl, ownsRow_putObj hrow _ hK rfl, hB.trans (belowK_b (w := w) (Nat.le_refl _) _ D _ _ (by omega) hK rfl rfl)⟩
    simp [results, Try.results61, go_sem]
  case stop =>
    rintro D c pre W _ _ h _
    exact h.elim

set_option maxRecDepth 100000 in
theorem collect_any {w : World} (Bs b len cap : Nat) (st : Nat → Nat → Int) (hlc : len ≤ cap) (hreach : len ≤ 1024) (hb : b < w.heap.size)
    (hBs : w.cell? ⟨Bs, 0, none⟩ = some (.slice (some ⟨b, 0, none⟩) len cap)) (hc : ∀ i j, i < len → j < 16 → w.cell? ⟨b, i * 33 + j * 2, none⟩ = some (.int .i64 (st i j))) :
    Calls Try.prog 44 #[.func (.func 60) #[] #[.pointer (some ⟨Bs, 0, none⟩)]] w fun e w' => ∃ x, e = .returned x ∧ w'.ownsRow w.heap.size 91 2 x (allU st len).length (pairCells (allU st len)) ∧ Below w.heap.size w w' := by
  have HC := hide (appseq_any Bs b len cap st hlc hreach hb hBs hc)
  clear hBs hc
  go_enter Try.func44, Try.ntmps44
  go_wp2_with fail
  refine (unhide HC).mono ?_
  rintro e w' ⟨x, rfl, ho, hbl⟩
  obtain ⟨ao, ca, rfl⟩ := own_shape2 ho
  have HO := hide ho
  have HB := hide hbl
  clear ho hbl HC
  go_wp2
  go_ret
  exact ⟨_, rfl, unhide HO, unhide HB⟩

/-- What a slice of pairs of the call's own is to the walk of a range over a function. -/
theorem pairs_of_own {w : World} {base e : Nat} {v : Value} {l : List (Int × Int)} (h : w.ownsRow base e 2 v l.length (pairCells l)) : Pairs w.heap.size w v l.length (fun j => (l.getD j (0, 0)).1) (fun j => (l.getD j (0, 0)).2) := by
  have hcell : ∀ (l : List (Int × Int)) j, j < l.length → (pairCells l)[j * 2]? = some (.int .i64 (l.getD j (0, 0)).1) ∧ (pairCells l)[j * 2 + 1]? = some (.int .i64 (l.getD j (0, 0)).2) := by
    intro l
    induction l with
    | nil => intro j hj; exact absurd hj (Nat.not_lt_zero _)
    | cons x l ih =>
      intro j hj
      cases j with
      | zero => exact ⟨rfl, rfl⟩
      | succ j =>
        have := ih j (by simpa using hj)
        rw [show (j + 1) * 2 = j * 2 + 1 + 1 by omega]
        show (Value.int .i64 x.1 :: .int .i64 x.2 :: pairCells l)[j * 2 + 1 + 1]? = _ ∧ (Value.int .i64 x.1 :: .int .i64 x.2 :: pairCells l)[j * 2 + 1 + 1 + 1]? = _
        simp only [List.getElem?_cons_succ, List.getD_cons_succ]
        exact this
  rcases h.2 with ⟨rfl, h0⟩ | ⟨g, cap, cur, rfl, hg, hh, hcap, hm, hsize, hcur⟩
  · exact .inl ⟨rfl, h0⟩
  · have hat : ∀ t u, (pairCells l)[t]? = some u → w.cell? ⟨g, 0 + t, none⟩ = some u := by
      intro t u hu
      have := h.cells (g := g) rfl t u hu
      rwa [Addr.add_mid] at this
    exact .inr ⟨g, 0, cap, rfl, hcap, (Array.getElem?_eq_some_iff.1 hh).1, fun j hj => by have := hat (j * 2) _ (hcell l j hj).1; simpa using this, fun j hj => by have := hat (j * 2 + 1) _ (hcell l j hj).2; simpa [Nat.add_assoc] using this⟩

set_option maxRecDepth 100000 in
set_option maxHeartbeats 800000 in
theorem flist_any {w : World} {g h cap : Nat} {F : Fl} (H : IsFl w g h cap F) :
    Calls Try.prog 18 #[P0 h] w fun e w' => ∃ Bs sv, e = .returned (.func (.func 45) #[] #[.pointer (some ⟨Bs, 0, none⟩)]) ∧ w'.cell? ⟨Bs, 0, none⟩ = some sv ∧ w'.ownsRow w.heap.size 91 2 sv (allU F.st F.n).length (pairCells (allU F.st F.n)) ∧ Below w.heap.size w w' := by
  have HH := hide H
  have HM := hide (made_yes (H.alloc (.cells #[.slice none 0 0] 88)))
  have h1 := (H.alloc (.cells #[.slice none 0 0] 88)).ptr
  clear H
  go_enter Try.func18, Try.ntmps18
  go_wp2_with fail
  refine (unhide HM).mono ?_
  rintro e w' ⟨rfl, rfl⟩
  go_wp2_with fail
  refine (used_fn _ _ _).mono ?_
  rintro e w' ⟨rfl, rfl⟩
  have hI2 := ((unhide HH).alloc (.cells #[.slice none 0 0] 88)).alloc (.cells #[.slice (some ⟨g, 0, none⟩) F.n cap] 65)
  have HC := hide (collect_any (w := (w.alloc (.cells #[.slice none 0 0] 88)).alloc (.cells #[.slice (some ⟨g, 0, none⟩) F.n cap] 65)) (w.heap.size + 1) g F.n cap F.st hI2.fit hI2.le hI2.glt
    (by have := World.cell?_alloc_new (w.alloc (.cells #[.slice none 0 0] 88)) #[.slice (some ⟨g, 0, none⟩) F.n cap] 65 0; rw [World.size_alloc] at this; rw [this]; rfl) (fun i j hi hj => hI2.st i j hi hj))
  clear hI2
  go_wp2_with fail
  refine (unhide HC).mono ?_
  rintro e w3 ⟨x, rfl, ho, hbl⟩
  obtain ⟨ao, ca, rfl⟩ := own_shape2 ho
  have hbx : Boxed w3 w.heap.size 88 (.slice none 0 0) := (hbl.block w.heap.size (by simp; omega)).trans ((Boxed.new w 88 _).alloc _)
  have c0 := hbx.cell; have c1 := hbx.frozen
  have HX := hide hbx
  have HO := hide ho
  have HB := hide hbl
  clear ho hbl HC hbx
  go_wp2
  go_ret
  have hB1 : Below w.heap.size w ((w.alloc (.cells #[.slice none 0 0] 88)).alloc (.cells #[.slice (some ⟨g, 0, none⟩) F.n cap] 65)) := (((Below.refl _ _).alloc (Nat.le_refl _) _).alloc (by simp) _)
  refine ⟨_, _, rfl, ((unhide HX).set _).cell, ?_, (hB1.trans ((unhide HB).mono (by simp; omega))).setCell (p := ⟨w.heap.size, 0, none⟩) (Nat.le_refl _) _⟩
  have ho2 := unhide HO
  have hk := ho2.kept (grownBy_setCell' w3 w.heap.size (.slice ao (allU F.st F.n).length ca)) (by
    rcases ho2.2 with ⟨e, _⟩ | ⟨g', cap', cur, e, hg', _⟩
    · exact .inl (by rw [e]; rfl)
    · refine .inr fun e' => ?_
      rw [e] at e'
      simp [Value.ownBlock] at e' hg'
      omega)
  refine ⟨hk.1, ?_⟩
  rcases hk.2 with h0 | ⟨g', cap', cur, e, hg', r⟩
  · exact .inl h0
  · exact .inr ⟨g', cap', cur, e, by simp at hg'; omega, r⟩
end Go.Proofs.Yteehhbgjjamjiaa
