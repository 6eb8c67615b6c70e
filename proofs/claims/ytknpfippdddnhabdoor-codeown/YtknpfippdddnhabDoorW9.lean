/- One, whole. -/
import Derived.Test.YtknpfippdddnhabDoorW8
import Derived.Shelf.Abstract
namespace Go.Proofs.YtknpfippdddnhabDoor
open Go.RowKit Go.Shelf
set_option maxRecDepth 100000

abbrev zz : Array Value := #[.int .i64 0, .int .i64 0, .int .i64 0, .int .i64 0, .int .i64 0]
def zeroI : Ins := ⟨0, 0, 0, 0, 0⟩
def oneX (l : List Int) (p : Int) : Ins := if oneE l p = 0 then rd l p.toNat else zeroI
def oneN (l : List Int) (p : Int) : Int := if oneE l p = 0 then p + sz (l.getD p.toNat 0) else 0
abbrev iW (x : Ins) : Value := iV x.ad x.op x.a x.b x.im
/-- The world in which One calls caught. -/
def w3 (w : World) (v : Value) (p : Int) : World := ((w.alloc (.cells #[v] 22)).alloc (.cells #[.int .i64 p] 3)).alloc (.cells #[.int .i64 0, .int .i64 0, .int .i64 0, .int .i64 0, .int .i64 0] 35)
theorem w3_facts (w : World) (v : Value) (p : Int) : Below w.heap.size w (w3 w v p) ∧ (w3 w v p).heap.size = w.heap.size + 3 ∧ (w3 w v p).heap[w.heap.size]? = some (.cells #[v] 22) ∧ (w3 w v p).heap[w.heap.size + 1]? = some (.cells #[.int .i64 p] 3) ∧ (w3 w v p).heap[w.heap.size + 2]? = some (.cells #[.int .i64 0, .int .i64 0, .int .i64 0, .int .i64 0, .int .i64 0] 35) := by
  refine ⟨((below_box _).alloc (by simp) _).alloc (by simp; omega) _, by simp [w3], ?_, ?_, ?_⟩
  · unfold w3
    rw [Below.heap_alloc _ _ _ (by simp; omega), Below.heap_alloc _ _ _ (by simp)]
    exact heap_alloc_new w _
  · unfold w3
    rw [Below.heap_alloc _ _ _ (by simp)]
    have := heap_alloc_new (w.alloc (.cells #[v] 22)) (.cells #[.int .i64 p] 3)
    simpa using this
  · have := heap_alloc_new ((w.alloc (.cells #[v] 22)).alloc (.cells #[.int .i64 p] 3)) (.cells #[.int .i64 0, .int .i64 0, .int .i64 0, .int .i64 0, .int .i64 0] 35)
    simpa [w3] using this
theorem enters40 : ∀ args w, (callFunc 50 args).run Tryd.prog w = .ok (.enter 50 args) w := enters_of Tryd.func50 (by kernel_rfl) rfl
theorem c39_any {w : World} {v : Value} {l : List Int} (p : Int) (hT : Tab w) (hs : SeesL yC 1 w v l) (hby : Byt l) (hm : l.length ≤ 4611686018427387904) :
    Calls Tryd.prog 49 #[.func (Fn.func 50) #[] #[.pointer (some ⟨w.heap.size, 0, none⟩), .pointer (some ⟨w.heap.size + 1, 0, none⟩)]] (w3 w v p) fun e w' => e = .returned (.tuple #[iW (oneX l p), .int .i64 (oneE l p)]) ∧ Below (w.heap.size + 3) (w3 w v p) w' := by
  obtain ⟨b1, b2, b3, b4, b5⟩ := w3_facts w v p
  generalize hY : w3 w v p = Y at *
  have hbY : Below Y.heap.size Y ((Y.alloc (.cells #[.int .i64 0, .int .i64 0, .int .i64 0, .int .i64 0, .int .i64 0] 35)).alloc (.cells #[.int .i64 0] 29)) := (below_box _).alloc (by simp) _
  have hbw : Below w.heap.size w ((Y.alloc (.cells #[.int .i64 0, .int .i64 0, .int .i64 0, .int .i64 0, .int .i64 0] 35)).alloc (.cells #[.int .i64 0] 29)) := b1.trans (hbY.mono (by omega))
  have h40 := f40_any (w := (Y.alloc (.cells #[.int .i64 0, .int .i64 0, .int .i64 0, .int .i64 0, .int .i64 0] 35)).alloc (.cells #[.int .i64 0] 29)) w.heap.size (w.heap.size + 1) p (hT.below hbw hT.pos) (hs.below yC_len hbw) hby hm (cell_at ((hbY.block _ (by omega)).trans b3)) (cell_at ((hbY.block _ (by omega)).trans b4))
  by_cases he : oneE l p = 0
  · have ex : oneX l p = rd l p.toNat := if_pos he
    rw [he, ex]
    rw [← b2]
    exact caught39_ok 50 _ _ _ _ _ _ _ Y (h40.mono fun e w' h => ⟨h.2.1 he, by have := h.1; simpa using this⟩) enters40
  · have ex : oneX l p = zeroI := if_neg he
    rw [ex, ← b2]
    exact caught39_no 50 _ _ _ Y (h40.mono fun e w' h => ⟨h.2.2 he, by have := h.1; simpa using this⟩) enters40

set_option maxHeartbeats 1600000 in
theorem one_any {w : World} {v : Value} {l : List Int} (p : Int) (hT : Tab w) (hs : SeesL yC 1 w v l) (hby : Byt l) (hm : l.length ≤ 4611686018427387900) :
    Calls Tryd.prog 35 #[v, .int .i64 p] w fun e w' => e = .returned (.tuple #[iW (oneX l p), .int .i64 (oneN l p), .int .i64 (oneE l p)]) ∧ Below w.heap.size w w' := by
  have HC := hide (c39_any p hT hs hby (by omega))
  obtain ⟨b1, b2, b3, b4, b5⟩ := w3_facts w v p
  obtain ⟨ao, cap, rfl⟩ := hs.shape
  have hmf : ∀ (fn : Fn) (first cap : Array Value) (w : World), (Instr.makeFunc fn first cap).run Tryd.prog w = .ok (.func fn first cap) w := fun _ _ _ _ => rfl
  have hT3 := hT.below b1 hT.pos
  have hT0 : 0 < w.heap.size := hT.pos
  clear hT
  by_cases he : oneE l p = 0
  · have ex : oneX l p = rd l p.toNat := if_pos he
    have en : oneN l p = p + sz (l.getD p.toNat 0) := if_pos he
    have hpp : 0 ≤ p ∧ p < l.length := by
      unfold oneE at he
      split at he
      · assumption
      · cases he
    obtain ⟨q, rfl⟩ := Int.eq_ofNat_of_zero_le hpp.1
    have hok := oneE_ok he
    rw [ex, he, en]
    rw [ex, he] at HC
    simp only [Int.toNat_natCast] at *
    have hxo : (rd l q).op = l.getD q 0 := rfl
    have hxd : (rd l q).ad = q := rfl
    have HBH : Hid (∀ x, Tab x → Calls Tryd.prog 28 #[iW (rd l q)] x fun e w' => e = .returned (.int .i64 ((q : Int) + sz (l.getD q 0))) ∧ Grew x w') := fun x hx => behind_any _ _ _ _ _ x hx hok.2.1 hok.2.2.1 (by rw [hxd]; omega) (by rw [hxd]; omega)
    clear hxo hxd hok hpp ex en he
    generalize (q : Int) + sz (l.getD q 0) = N at *
    generalize rd l q = X at *
    obtain ⟨xd, xo, xa, xb, xm⟩ := X
    obtain ⟨n, hn⟩ : ∃ n, l.length = n := ⟨_, rfl⟩
    rw [hn] at HC b1 b2 b5 hT3 hm ⊢
    have HW := hide b5
    have HB1 := hide b1
    have HB2 := hide b2
    have HT3 := hide hT3
    clear hn b1 b2 b3 b4 b5 hs hby hT3
    unfold w3 at HC HW HB1 HB2 HT3
    go_enter Tryd.func35, Tryd.ntmps35
    go_wp2_with (go_at_call 49; refine (unhide HC).mono ?_; rintro e w1 ⟨rfl, hb⟩)
    obtain ⟨Y, hY⟩ : ∃ Y, w1.alloc (.cells #[.int .i64 xd, .int .i64 xo, .int .i64 xa, .int .i64 xb, .int .i64 xm] 35) = Y := ⟨_, rfl⟩
    have hbY : Below w1.heap.size w1 Y := hY ▸ below_box _
    have hz := hb.size
    rw [unhide HB2] at hz
    have y1 : Y.heap[w1.heap.size]? = some (.cells #[.int .i64 xd, .int .i64 xo, .int .i64 xa, .int .i64 xb, .int .i64 xm] 35) := hY ▸ heap_alloc_new w1 _
    have y2 : Y.heap[w.heap.size + 1 + 1]? = some (.cells #[.int .i64 0, .int .i64 0, .int .i64 0, .int .i64 0, .int .i64 0] 35) := (hbY.block _ (by omega)).trans ((hb.block _ (by omega)).trans (unhide HW))
    have y3 : Tab Y := ((unhide HT3).below hb (by omega)).below hbY (by omega)
    have y4 : Below w.heap.size w Y := (unhide HB1).trans ((hb.mono (by omega)).trans (hbY.mono (by omega)))
    have hlt := (Array.getElem?_eq_some_iff.1 y1).1
    have HY1 := hide y1
    have HY2 := hide y2
    have HY3 := hide y3
    have HY4 := hide y4
    rw [hY]
    clear y1 y2 y3 y4 hY hbY hb HC HW HB1 HT3
    refine wp_region_held_drew (S := fun x => x.heap[w1.heap.size]? = some (.cells #[.int .i64 xd, .int .i64 xo, .int .i64 xa, .int .i64 xb, .int .i64 xm] 35)) (by kernel_rfl) (unhide HY1) (fun hHeld => ?_)
    refine wpAnyH_take (i := 0) (v := (iV xd xo xa xb xm)) rfl (by kernel_rfl) (by kernel_rfl) (by kernel_rfl) (fun _ _ _ h => h) (Or.inl ⟨by rfl, ?hy1x0⟩) (by assumption) ?rest1x0
    case hy1x0 => intro w hSw; obtain ⟨c0, c1, c2, c3, c4⟩ := cells5 hSw; go_simp <;> with_reducible rfl
    simp only [Act.put, List.getElem_toArray, List.getElem_cons_zero, List.setIfInBounds_toArray, List.set_cons_zero, List.set_cons_succ]
    refine wpAnyH_take (i := 1) (v := (iV xd xo xa xb xm)) rfl (by kernel_rfl) (by kernel_rfl) (by kernel_rfl) (fun _ _ _ h => h) (Or.inl ⟨by rfl, ?hy2x1⟩) (by assumption) ?rest2x1
    case hy2x1 => intro w hSw; obtain ⟨c0, c1, c2, c3, c4⟩ := cells5 hSw; go_simp <;> with_reducible rfl
    simp only [Act.put, List.getElem_toArray, List.getElem_cons_zero, List.getElem_cons_succ, List.setIfInBounds_toArray, List.set_cons_zero, List.set_cons_succ]
    refine wpAnyH_ready (rs := [2]) (by kernel_rfl) (by simp) ?_
    refine AllReadyH.cons rfl (fun K hK => ?_) AllReadyH.nil
    go_simp
    refine (unhide HBH Y.drew (fun i hi => unhide HY3 i hi)).mono ?_
    rintro e z ⟨rfl, hg⟩
    refine hK _ _ ((hg.below.block _ hlt).trans (unhide HY1)) ?_
    clear hK hHeld
    intro hHeld
    have z2 := (hg.below.block _ (Array.getElem?_eq_some_iff.1 (unhide HY2)).1).trans (unhide HY2)
    obtain ⟨z0, z1, z3, z4, z5⟩ := cells5 z2
    have fz : ∀ o, z.frozen? ⟨w.heap.size + 1 + 1, o, none⟩ = false := fun o => frozen_of_heap z2
    have HZ2 := hide z2
    have HZ4 : Hid (Below w.heap.size w z) := ((unhide HY4).drew).trans (hg.below.mono (unhide HY4).size)
    have hne : w1.heap.size ≠ w.heap.size + 1 + 1 := by omega
    clear z2 hg
    refine wpAnyH_ready (rs := [3]) (by kernel_rfl) (by simp) ?_
    refine AllReadyH.cons rfl (fun K hK => ?_) AllReadyH.nil
    go_simp
    refine hK _ _ (by (repeat rw [Below.heap_setCell _ _ _ _ hne]); exact hHeld) ?_
    clear hK hHeld
    intro hHeld
    refine wpAnyH_take (i := 4) (v := ?v3x4) rfl (by kernel_rfl) (by kernel_rfl) (by kernel_rfl) (fun _ _ _ h => h) (Or.inl ⟨by rfl, ?hy3x4⟩) (by assumption) ?rest3x4
    case hy3x4 => intro w hSw; go_simp <;> with_reducible rfl
    simp only [Act.put, List.getElem_toArray, List.getElem_cons_zero, List.getElem_cons_succ, List.setIfInBounds_toArray, List.set_cons_zero, List.set_cons_succ]
    refine wpAnyH_take (i := 5) (v := ?v4x5) rfl (by kernel_rfl) (by kernel_rfl) (by kernel_rfl) (fun _ _ _ h => h) (Or.inl ⟨by rfl, ?hy4x5⟩) (by assumption) ?rest4x5
    case hy4x5 => intro w hSw; go_simp <;> with_reducible rfl
    simp only [Act.put, List.getElem_toArray, List.getElem_cons_zero, List.getElem_cons_succ, List.setIfInBounds_toArray, List.set_cons_zero, List.set_cons_succ]
    refine wpAnyH_done (by kernel_rfl) ?_ _
    go_wp2
    have hrow := set5 (unhide HZ2) (.int .i64 xd) (.int .i64 xo) (.int .i64 xa) (.int .i64 xb) (.int .i64 xm)
    have hbf := set5b (unhide HZ4) (show w.heap.size ≤ w.heap.size + 1 + 1 by omega) (.int .i64 xd) (.int .i64 xo) (.int .i64 xa) (.int .i64 xb) (.int .i64 xm)
    clear z0 z1 z3 z4 z5 fz hHeld
    generalize (((((z.setCell ⟨w.heap.size + 1 + 1, 0, none⟩ (.int .i64 xd)).setCell ⟨w.heap.size + 1 + 1, 1, none⟩ (.int .i64 xo)).setCell ⟨w.heap.size + 1 + 1, 2, none⟩ (.int .i64 xa)).setCell ⟨w.heap.size + 1 + 1, 3, none⟩ (.int .i64 xb)).setCell ⟨w.heap.size + 1 + 1, 4, none⟩ (.int .i64 xm)) = wf at *
    obtain ⟨r0, r1, r2, r3, r4⟩ := cells5 hrow
    exact bodyPost_ret (v := .tuple #[iV xd xo xa xb xm, .int .i64 N, .int .i64 0]) (by simp [results, Tryd.results35, go_sem, r0, r1, r2, r3, r4]) rfl ⟨rfl, hbf⟩
  · have ex : oneX l p = zeroI := if_neg he
    have en : oneN l p = 0 := if_neg he
    have hg : (oneE l p != 0) = true := by simpa using he
    rw [ex, en]
    rw [ex] at HC
    generalize oneE l p = er at *
    obtain ⟨n, hn⟩ : ∃ n, l.length = n := ⟨_, rfl⟩
    rw [hn] at HC b1 b2 b5 hm ⊢
    have HW := hide b5
    have HB1 := hide b1
    have HB2 := hide b2
    clear hn b1 b2 b3 b4 b5 hs hby hT3 ex en he
    unfold w3 at HC HW HB1 HB2
    unfold zeroI at HC
    go_enter Tryd.func35, Tryd.ntmps35
    go_wp2_with (go_at_call 49; refine (unhide HC).mono ?_; rintro e w1 ⟨rfl, hb⟩; have hz := hb.size; rw [unhide HB2] at hz; have y2 := (hb.block _ (by omega)).trans (unhide HW); obtain ⟨z0, z1, z3, z4, z5⟩ := cells5 y2; have fz : ∀ o, w1.frozen? ⟨w.heap.size + 1 + 1, o, none⟩ = false := (fun o => frozen_of_heap y2); have HY2 := hide y2; clear y2; have hne : ¬ w.heap.size + 1 + 1 = w1.heap.size := (by omega); have hlt : w.heap.size + 1 + 1 < w1.heap.size := (by omega))
    have hrow := set5 (unhide HY2) (.int .i64 0) (.int .i64 0) (.int .i64 0) (.int .i64 0) (.int .i64 0)
    have hbf := set5b ((unhide HB1).trans (hb.mono (by omega))) (show w.heap.size ≤ w.heap.size + 1 + 1 by omega) (.int .i64 0) (.int .i64 0) (.int .i64 0) (.int .i64 0) (.int .i64 0)
    clear z0 z1 z3 z4 z5 fz
    generalize (((((w1.setCell ⟨w.heap.size + 1 + 1, 0, none⟩ (.int .i64 0)).setCell ⟨w.heap.size + 1 + 1, 1, none⟩ (.int .i64 0)).setCell ⟨w.heap.size + 1 + 1, 2, none⟩ (.int .i64 0)).setCell ⟨w.heap.size + 1 + 1, 3, none⟩ (.int .i64 0)).setCell ⟨w.heap.size + 1 + 1, 4, none⟩ (.int .i64 0)) = wf at *
    have hlt2 := (Array.getElem?_eq_some_iff.1 hrow).1
    have hrow2 : (wf.alloc (.cells #[.int .i64 0, .int .i64 0, .int .i64 0, .int .i64 0, .int .i64 0] 35)).heap[w.heap.size + 1 + 1]? = some (.cells #[.int .i64 0, .int .i64 0, .int .i64 0, .int .i64 0, .int .i64 0] 35) := by rw [Below.heap_alloc _ _ _ hlt2]; exact hrow
    have hbf2 := hbf.alloc (by omega) (.cells #[.int .i64 0, .int .i64 0, .int .i64 0, .int .i64 0, .int .i64 0] 35)
    clear hrow hbf
    generalize wf.alloc (.cells #[.int .i64 0, .int .i64 0, .int .i64 0, .int .i64 0, .int .i64 0] 35) = wg at *
    obtain ⟨r0, r1, r2, r3, r4⟩ := cells5 hrow2
    exact bodyPost_ret (v := .tuple #[iV 0 0 0 0 0, .int .i64 0, .int .i64 er]) (by simp [results, Tryd.results35, go_sem, r0, r1, r2, r3, r4]) rfl ⟨rfl, hbf2⟩
end Go.Proofs.YtknpfippdddnhabDoor
