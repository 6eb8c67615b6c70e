/- Bytes of a made store. -/
import Derived.Test.YtdcmkapfcmibeaaDoorF1
import Derived.Test.YtdcmkapfcmibeaaDoorMN
namespace Go.Proofs.YtdcmkapfcmibeaaDoor
open Go.RowKit Go.Shelf
attribute [local go_sem] Oper.semAt_some
set_option maxRecDepth 100000

theorem level_yes2 {w : World} {b0 sb hd : Nat} {L : List Nd} {luck : Int} (h : Sk w b0 sb hd L luck) (lev : Nat) (hl : lev < 8) :
    Calls Tryd.prog 54 #[PN sb, .int .i64 lev] w fun e w' => ∃ bx, e = .returned (It bx) ∧ ItAt w' bx hd lev ∧ Below w.heap.size w w' ∧ w.heap.size ≤ bx ∧ w'.heap[bx + 1]? = some (.cells #[.int .i64 lev] 3) := by
  obtain ⟨N, hm, _⟩ := h.mem
  have c0 : w.cell? ⟨sb, 0, none⟩ = some (PN hd) := cell_at hm.sk
  have HM := hide (made_yes sb hd w c0)
  have HB := hide (behind_any hd lev w)
  have hi := hide (itAt_new w hd lev)
  have hb : Hid (Below w.heap.size w ((w.alloc (.cells #[PN hd] 71)).alloc (.cells #[.int .i64 lev] 3))) := ((Below.refl _ _).alloc (Nat.le_refl _) _).alloc (by simp) _
  have hk : Hid (((w.alloc (.cells #[PN hd] 71)).alloc (.cells #[.int .i64 lev] 3)).heap[w.heap.size + 1]? = some (.cells #[.int .i64 lev] 3)) := heap_new2 _ _ _
  have d1 : decide ((lev : Int) < 0) = false := by simp
  have d2 : decide ((lev : Int) ≥ 8) = false := by simp; omega
  have d3 : decide (8 ≤ (lev : Int)) = false := by simp; omega
  clear h hm
  go_enter Tryd.func54, Tryd.ntmps54
  go_wp2_with fail
  refine (unhide HM).mono ?_
  rintro e w9 ⟨rfl, rfl⟩
  go_wp2_with fail
  refine (unhide HB).mono ?_
  rintro e w9 ⟨rfl, rfl⟩
  go_wp2
  go_ret
  exact ⟨_, rfl, unhide hi, unhide hb, Nat.le_refl _, unhide hk⟩
def OwnBoxN (lb base : Nat) (l : List Int) (W : World) : Prop := ∃ v, W.heap[lb]? = some (.cells #[v] 100) ∧ W.ownsRow base 2 1 v l.length (l.flatMap iC)
theorem own_fromN {β : Type} (N lb base : Nat) (f : β → List Int) (hlb : lb < N) : OwnFrom N (fun (s : β) (W : World) => OwnBoxN lb base (f s) W) := fun s A B row ⟨v, hv, ho⟩ hg hr => by
  refine ⟨v, (hg.block lb (Array.getElem?_eq_some_iff.1 hv).1 (fun e => by have := (hr lb e.symm).1; omega)).trans hv, ho.1, ?_⟩
  rcases ho.2 with hn | ⟨g, cap, cur, e1, e2, hh, r⟩
  · exact .inl hn
  · refine .inr ⟨g, cap, cur, e1, e2, (hg.block g (Array.getElem?_eq_some_iff.1 hh).1 fun e => ?_).trans hh, r⟩
    obtain ⟨_, o, ho, hc⟩ := hr g e.symm
    rw [hh] at ho
    injection ho with ho
    subst ho
    simp [Obj.isCells] at hc
theorem sees_four (w : World) (a b c d : Int) : SeesL iC 1 (w.alloc (.cells #[.int .i64 a, .int .i64 b, .int .i64 c, .int .i64 d] 2)) (.slice (some ⟨w.heap.size, 0, none⟩) 4 4) [a, b, c, d] := by
  refine ⟨_, 4, w.heap.size, 0, rfl, by simp, by simp, (fun h => by cases h), fun _ => rfl, fun t x hx j hj => ?_⟩
  obtain ⟨ht, rfl⟩ := List.getElem?_eq_some_iff.1 hx
  obtain rfl : j = 0 := by omega
  rw [cell_at (heap_new1 w _)]
  simp only [List.length_cons, List.length_nil] at ht
  rcases (by omega : t = 0 ∨ t = 1 ∨ t = 2 ∨ t = 3) with rfl | rfl | rfl | rfl <;> rfl
theorem box_slice {w : World} {lb : Nat} {v u : Value} {t : TypeId} (h : w.heap[lb]? = some (.cells #[v] t)) : (w.setCell ⟨lb, 0, none⟩ u).heap[lb]? = some (.cells #[u] t) := box_set _ h
def BtS (lb n0 : Nat) (W2 : World) (k : Nat) : Prop := k = lb ∨ RowsOf n0 2 W2 k
def BtI (lb n0 B : Nat) (W2 : World) (m : Int) (pre : List Nd) (W : World) : Prop := OwnBoxN lb n0 (m :: (pre.map cl).flatMap num4) W ∧ Upd (BtS lb n0 W2) B W2 W
/-- Rows that turned in a round. -/
theorem bt_rows {lb n0 B : Nat} {W2 W W' : World} (hU : Upd (BtS lb n0 W2) B W2 W) (hB : B ≤ W.heap.size) (hW : Upd (BtS lb n0 W) W.heap.size W W') : Upd (BtS lb n0 W2) B W2 W' := by
  refine ⟨hW.os.trans hU.os, hW.tape.trans hU.tape, hW.output.trans hU.output, Nat.le_trans hU.size hW.size, fun k hk hn => ?_⟩
  have e := hU.block k hk hn
  refine (hW.block k (by omega) fun c => ?_).trans e
  rcases c with c | ⟨c1, cs, c2⟩
  · exact hn (.inl c)
  · rw [e] at c2; exact hn (.inr ⟨c1, cs, c2⟩)

set_option maxHeartbeats 600000 in
theorem bytes_any {w : World} {b0 sb hd : Nat} {L : List Nd} {luck : Int} (h : Sk w b0 sb hd L luck) :
    Calls Tryd.prog 17 #[PN sb] w fun e w' => ∃ v, e = .returned v ∧ w'.ownsRow w.heap.size 5 1 v (bytesC (L.map cl)).length (Sh.ints .u8 (bytesC (L.map cl))) ∧ Below w.heap.size w w' := by
  obtain ⟨n0, hn0⟩ : ∃ x, w.heap.size = x := ⟨_, rfl⟩
  obtain ⟨lb, hlb⟩ : ∃ x, n0 + 1 = x := ⟨_, rfl⟩
  obtain ⟨m, hm⟩ : ∃ m : Int, ((L.length : Nat) : Int) = m := ⟨_, rfl⟩
  obtain ⟨W1, hW1⟩ : ∃ W, (w.alloc (.cells #[.int .i64 m] 2)).alloc (.cells #[.slice (some ⟨n0, 0, none⟩) 1 1] 100) = W := ⟨_, rfl⟩
  have hs1 : W1.heap.size = lb + 1 := by rw [← hW1, ← hlb, ← hn0]; simp
  have hB1 : Below n0 w W1 := by rw [← hW1, ← hn0]; exact ((Below.refl _ _).alloc (Nat.le_refl _) _).alloc (by simp) _
  have kl : W1.heap[lb]? = some (.cells #[.slice (some ⟨n0, 0, none⟩) 1 1] 100) := by rw [← hW1, ← hlb, ← hn0]; exact heap_new2 _ _ _
  have kn : W1.heap[n0]? = some (.cells #[.int .i64 m] 2) := by rw [← hW1, Below.heap_alloc _ _ _ (by simp; omega), ← hn0]; exact heap_new1 _ _
  have h1 : Sk W1 b0 sb hd L luck := h.below (by rw [hn0]; exact hB1)
  have c0 : w.cell? ⟨sb, 0, none⟩ = some (PN hd) := by obtain ⟨N, hm', _⟩ := h.mem; exact cell_at hm'.sk
  have c9 : w.cell? ⟨sb, 9, none⟩ = some (.int .i64 m) := by obtain ⟨N, hm', _⟩ := h.mem; rw [← hm]; exact cell_at hm'.sk
  have HMd := hide (made_yes sb hd w c0)
  have HF := hide (level_yes2 h1 0 (by decide))
  have H1 := hide (And.intro h1 (And.intro hB1 (And.intro kl (And.intro kn hs1))))
  rw [hn0]
  have H0 := hide h
  have HM := hide hm
  clear h h1 hB1 kl kn hs1 c0 hm
  refine (callsIn_wide (n := 3)).1 ?_
  refine callsIn_of_wp_marks Tryd.func17 rfl trivial ?_ rfl
  simp only [Tryd.ntmps17, List.size_toArray, List.length_cons, List.length_nil, Nat.reduceAdd, Nat.reduceSub, Array.replicate_succ, Array.replicate_zero, List.push_toArray, List.append_toArray, List.nil_append, List.cons_append]
  gi_wp2_with fail
  refine ⟨trivial, ((callsIn_wide).2 (unhide HMd)).mono ?_⟩
  rintro e w9 ⟨rfl, rfl⟩
  gi_wp2_with fail
  try rw [hn0]
  try rw [hW1]
  try rw [hlb]
  refine ⟨trivial, ((callsIn_wide).2 (unhide HF)).mono ?_⟩
  rintro e W2 ⟨bx, rfl, hit, hb2, hbx, kbx⟩
  clear hW1
  obtain ⟨h1, hB1, kl, kn, hs1⟩ := unhide H1
  have h2 : Sk W2 b0 sb hd L luck := h1.below hb2
  have kl2 : W2.heap[lb]? = some (.cells #[.slice (some ⟨n0, 0, none⟩) 1 1] 100) := (hb2.block lb (by omega)).trans kl
  have kn2 : W2.heap[n0]? = some (.cells #[.int .i64 m] 2) := (hb2.block n0 (by omega)).trans kn
  have hW2 : Below n0 w W2 := hB1.trans (hb2.mono (by omega))
  obtain ⟨B, hB⟩ : ∃ B, W2.heap.size = B := ⟨_, rfl⟩
  have hlB : lb < B := by rw [← hB]; exact (Array.getElem?_eq_some_iff.1 kl2).1
  have hbxB : bx + 1 < B := by rw [← hB]; exact World.block_lt_of_cell? W2 _ hit.2
  obtain ⟨N, hm, hlk⟩ := h2.mem
  have hlk0 := hlk 0 (by decide)
  have hAp := h2.apart
  have hqon : On hd L hd := .inl rfl
  have hblt : ∀ k, Bl sb hd L k → k < n0 := fun k hk => by rw [← hn0]; exact (unhide H0).lt hk
  have honL : onL 0 L = L := List.filter_eq_self.2 fun m hm => by have := (h2.ok m hm).h; simp; omega
  have hmost := h2.most
  have ow0 : W2.ownsRow n0 2 1 (.slice (some ⟨n0, 0, none⟩) 1 1) 1 [.int .i64 m] := ⟨rfl, .inr ⟨n0, 1, #[.int .i64 m], rfl, Nat.le_refl _, kn2, Nat.le_refl _, by decide, rfl, rfl⟩⟩
  have i0 : BtI lb n0 B W2 m [] W2 := ⟨⟨_, kl2, ow0⟩, Upd.refl _ _ _⟩
  gi_wp2
  refine wpIn_range_ok rfl (by decide) (gf := 84) (lb := #[PN bx, PN (bx + 1)]) rfl trivial (enters_of Tryd.func84 (by kernel_rfl) rfl)
    (behind_seq (3 - 1) bx 0 hd (by decide) L N (fun k => k < B ∧ ¬ BtS lb n0 W2 k) W2 (List.nodup_cons.1 hAp).2 hlk0 hit.1 hit.2 (hm.next hqon (by decide)) (fun m hm' => hm.next (.inr ⟨m, hm', rfl⟩) (by decide)) ⟨by omega, by
      rintro (e | ⟨_, cs, e⟩)
      · omega
      · rw [kbx] at e; simp at e⟩ (fun y hm' => ⟨by have := hblt y.p (.inr (.inr ⟨y, hm', rfl⟩)); omega, by
      have := hblt y.p (.inr (.inr ⟨y, hm', rfl⟩))
      rintro (e | ⟨e, _⟩) <;> omega⟩))
    keepb_t (fun W o o' => keepb_put (fun c => by have := c.1; omega) W o o') (Below.refl _ _) (fun _ => rfl)
    (BtI lb n0 B W2 m) (fun _ _ _ => False)
    (by rw [hB]; exact OwnFrom.and (own_fromN B lb n0 _ hlB) (ownFrom_upd (by omega)))
    (fun cd => ownFrom_pure _ _) i0
    (fun x => { tmps := #[PN sb, undef, .slice none 0 0, PN lb, PN x.p, undef, PN sb, .bool true, .bool false, PN sb, PN sb, .pointer (some ⟨sb, 9, none⟩), .int .i64 m, .slice (some ⟨n0, 0, none⟩) 1 1, PN sb, It bx, PN x.p, undef, undef, undef, undef, undef, undef, undef, undef, undef, undef, undef, undef, undef, undef, undef, undef, undef, undef, undef, undef], defers := [] }) ?assign ?body ?done ?stop
  case assign =>
    intro l x W K hK
    clear hlk0 hAp hm hlk h2 h1 i0 kl2 hit ow0 kn2 kbx hblt honL hW2 hb2 hB1 kl kn
    gi_wp2
    exact hK
  case body =>
    intro l pre x W hI hOk
    obtain ⟨⟨v, hv, ho⟩, hU⟩ := hI
    obtain ⟨r, hr⟩ := hOk
    rw [honL] at hr
    have hxL : x ∈ L := by rw [← hr]; simp
    have hpl : pre.length < 1048576 := by have := congrArg List.length hr; rw [List.length_append, List.length_cons] at this; omega
    have hxb : x.p < n0 := hblt x.p (.inr (.inr ⟨x, hxL, rfl⟩))
    have hxn : W.heap[x.p]? = some (.cells (nodeC x (N x.p)) 85) := (hU.block x.p (by omega) (by rintro (e | ⟨e, _⟩) <;> omega)).trans (hm.node x hxL)
    have hsW : B ≤ W.heap.size := by have := hU.size; omega
    have hokx := h2.ok x hxL
    have ht1 := hokx.t.1
    have ht2 := hokx.t.2
    obtain ⟨Y1, hY1⟩ : ∃ Y, W.alloc (.cells #[.int .i32 x.k.1, .int .i64 x.k.2, .int .i64 x.v, .int .i64 x.s] 32) = Y := ⟨_, rfl⟩
    obtain ⟨q, hq⟩ : ∃ q, W.heap.size = q := ⟨_, rfl⟩
    have hbY1 : Below W.heap.size W Y1 := by rw [← hY1]; exact (Below.refl _ _).alloc (Nat.le_refl _) _
    have sY1 : Y1.heap.size = q + 1 := by rw [← hY1, ← hq]; simp
    have kq : Y1.heap[q]? = some (.cells #[.int .i32 x.k.1, .int .i64 x.k.2, .int .i64 x.v, .int .i64 x.s] 32) := by rw [← hY1, ← hq]; exact heap_new1 _ _
    obtain ⟨Y2, hY2⟩ : ∃ Y, Y1.alloc (.cells #[.int .i64 x.k.1, .int .i64 x.k.2, .int .i64 x.v, .int .i64 x.s] 2) = Y := ⟨_, rfl⟩
    have hbY2 : Below Y1.heap.size Y1 Y2 := by rw [← hY2]; exact (Below.refl _ _).alloc (Nat.le_refl _) _
    have hbW2 : Below W.heap.size W Y2 := hbY1.trans (hbY2.mono hbY1.size)
    have sees : SeesL iC 1 Y2 (.slice (some ⟨Y1.heap.size, 0, none⟩) 4 4) (num4 (cl x)) := by rw [← hY2]; exact sees_four Y1 _ _ _ _
    have hnl : (m :: (pre.map cl).flatMap num4).length = 1 + pre.length * 4 := by rw [List.length_cons, num4_len, List.length_map]; omega
    obtain ⟨ao9, cap9, W9, hrun, how, hU9⟩ := rtN.appU 100 (own_below ho hbW2) sees (by rw [hnl]; simp [num4]; omega) (by have := hbW2.size; omega)
    have hlbW : lb < W.heap.size := (Array.getElem?_eq_some_iff.1 hv).1
    have hv1 : Y1.heap[lb]? = some (.cells #[v] 100) := (hbY1.block lb hlbW).trans hv
    have hv2 : Y2.heap[lb]? = some (.cells #[v] 100) := (hbW2.block lb hlbW).trans hv
    have hv9 : W9.heap[lb]? = some (.cells #[v] 100) := (hU9.block lb (Array.getElem?_eq_some_iff.1 hv2).1 (fun c => by obtain ⟨_, cs, e⟩ := c; rw [hv2] at e; simp at e)).trans hv2
    obtain ⟨n9, hn9⟩ : ∃ n, (m :: (pre.map cl).flatMap num4).length + (num4 (cl x)).length = n := ⟨_, rfl⟩
    rw [hn9] at hrun how
    rw [sY1] at hrun
    have hUf : Upd (BtS lb n0 W) W.heap.size W (W9.setCell ⟨lb, 0, none⟩ (.slice ao9 n9 cap9)) := by
      have u1 : Upd (BtS lb n0 W) W.heap.size W W9 := by
        refine ⟨hU9.os.trans hbW2.os, hU9.tape.trans hbW2.tape, hU9.output.trans hbW2.output, Nat.le_trans hbW2.size hU9.size, fun k hk hn => ?_⟩
        have e := hbW2.block k hk
        refine (hU9.block k (Nat.lt_of_lt_of_le hk hbW2.size) fun c => ?_).trans e
        obtain ⟨c1, cs, c2⟩ := c
        rw [e] at c2
        exact hn (.inr ⟨c1, cs, c2⟩)
      exact u1.setCell (p := ⟨lb, 0, none⟩) (.inl (.inl rfl)) _
    have HFIN : Hid (KeepsFrom W2.heap.size W (W9.setCell ⟨lb, 0, none⟩ (.slice ao9 n9 cap9)) ∧ Keepb (fun k => k < B ∧ ¬ BtS lb n0 W2 k) W (W9.setCell ⟨lb, 0, none⟩ (.slice ao9 n9 cap9)) ∧ BtI lb n0 B W2 m (pre ++ [x]) (W9.setCell ⟨lb, 0, none⟩ (.slice ao9 n9 cap9))) := by
      rw [hB]
      refine ⟨⟨hUf.size, fun k o hk ho hc => (hUf.block k (Array.getElem?_eq_some_iff.1 ho).1 fun c => ?_).trans ho⟩, ⟨hUf.size, fun k hk => hUf.block k (by have := hk.1; omega) fun c => ?_⟩, ⟨.slice ao9 n9 cap9, box_set _ hv9, ?_⟩, bt_rows hU hsW hUf⟩
      · rcases c with c | ⟨_, cs, c⟩
        · omega
        · rw [ho] at c; cases c; simp [Obj.isCells] at hc
      · rcases c with c | ⟨c1, cs, c2⟩
        · exact hk.2 (.inl c)
        · rw [hU.block k hk.1 hk.2] at c2; exact hk.2 (.inr ⟨c1, cs, c2⟩)
      · have e1 : (m :: ((pre ++ [x]).map cl).flatMap num4) = (m :: (pre.map cl).flatMap num4) ++ num4 (cl x) := by simp
        rw [e1, List.length_append, hn9]
        have e2 := own_keep0 how (w' := W9.setCell ⟨lb, 0, none⟩ (.slice ao9 n9 cap9)) fun g hg => by
          refine Below.heap_setCell _ _ _ _ ?_
          intro e
          subst e
          rcases how.2 with ⟨e', _⟩ | ⟨g', c', cur, e', _, hh, _⟩
          · rw [e'] at hg; cases hg
          · rw [e'] at hg
            cases hg
            rw [hv9] at hh
            simp at hh
        exact e2
    obtain ⟨av, nv, cv, hav⟩ : ∃ a n c, v = .slice a n c := by obtain ⟨a, c, e⟩ := own_shape ho; exact ⟨a, _, c, e⟩
    subst hav
    have m0 : W.cell? ⟨x.p, 0, none⟩ = some (.int .i32 x.k.1) := cell_at hxn
    have m1 : W.cell? ⟨x.p, 1, none⟩ = some (.int .i64 x.k.2) := cell_at hxn
    have m2 : W.cell? ⟨x.p, 2, none⟩ = some (.int .i64 x.v) := cell_at hxn
    have m3 : W.cell? ⟨x.p, 3, none⟩ = some (.int .i64 x.s) := cell_at hxn
    have q0 : Y1.cell? ⟨q, 0, none⟩ = some (.int .i32 x.k.1) := cell_at kq
    have q1 : Y1.cell? ⟨q, 1, none⟩ = some (.int .i64 x.k.2) := cell_at kq
    have q2 : Y1.cell? ⟨q, 2, none⟩ = some (.int .i64 x.v) := cell_at kq
    have q3 : Y1.cell? ⟨q, 3, none⟩ = some (.int .i64 x.s) := cell_at kq
    have l1 : Y1.cell? ⟨lb, 0, none⟩ = some (.slice av nv cv) := cell_at hv1
    have l9 : W9.cell? ⟨lb, 0, none⟩ = some (.slice av nv cv) := cell_at hv9
    have f9 : W9.frozen? ⟨lb, 0, none⟩ = false := frozen_of_heap hv9
    have hcv : IntKind.i64.wrap x.k.1 = x.k.1 := wrap_i64 _ (by omega) (by omega)
    have HRUN := hide hrun
    have HY1 := hide hY1
    have HY2 := hide hY2
    clear hlk0 hAp hm hlk h2 h1 i0 kl2 hit ow0 kn2 kbx hblt honL hW2 hb2 hB1 kl kn hv ho hU hr hxL hxn hokx hbY1 kq hbY2 hbW2 sees hnl how hU9 hv1 hv2 hv9 hUf hrun hY1 hY2 hn9 ht1 ht2
    gi_wp2_with (first | (gi_at_builtin; refine wpListIn_append_run rfl rfl rfl rfl (unhide HRUN) ?_) | (rw [unhide HY1]; try rw [hq]) | (rw [unhide HY2]))
    exact unhide HFIN
  case stop =>
    intro D cd pre W hD hX hK
    exact hX.elim
  case done =>
    intro D xs W hD hxs hI hK
    subst hxs
    obtain ⟨⟨v, hv, ho⟩, hU⟩ := hI
    rw [honL] at ho
    have hnum : m :: (L.map cl).flatMap num4 = numsC (L.map cl) := by unfold numsC; rw [List.length_map, unhide HM]
    rw [hnum] at ho
    have hnl : (numsC (L.map cl)).length = 1 + L.length * 4 := by unfold numsC; rw [List.length_cons, num4_len, List.length_map]; omega
    have hsz := sizeC_le (l := L.map cl) (by rw [List.length_map]; exact hmost)
    unfold bytesC at hsz
    rw [Sh.putL_length] at hsz
    have hsee : Sh.Sees W .i64 v (numsC (L.map cl)) := by rw [flat_ints] at ho; exact (Sh.sees_of_own ho).2
    have hv0 : Hid (Calls Tryd.prog 55 #[.slice none 0 0, v] W fun e w' => ∃ v', e = .returned v' ∧ w'.ownsRow W.heap.size 5 1 v' (bytesC (L.map cl)).length (Sh.ints .u8 (bytesC (L.map cl))) ∧ Below W.heap.size W w') := by
      have := Sh.num_any (.slice none 0 0) v [] (numsC (L.map cl)) W (Sh.Sees.nil _ _) hsee (by omega) (numsC_ok (fun c hc => by obtain ⟨n, hn, rfl⟩ := List.mem_map.1 hc; exact okC_of (h2.ok n hn)) (by rw [List.length_map]; exact hmost)) (by simp; omega)
      refine this.mono ?_
      rintro e w' ⟨v', he, ho', hb'⟩
      refine ⟨v', he, ?_, hb'⟩
      unfold bytesC
      rw [Sh.putL_length]
      simpa using ho'
    obtain ⟨av, nv, cv, hav⟩ : ∃ a n c, v = .slice a n c := by obtain ⟨a, c, e⟩ := own_shape ho; exact ⟨a, _, c, e⟩
    subst hav
    have c0' : W.cell? ⟨lb, 0, none⟩ = some (.slice av nv cv) := cell_at hv
    have HM : Hid (Marks [{ target := .collected D, args := #[] }] W) := (Marks.nil W).cons hK (fun c => by cases c)
    have HU := hide hU
    have HW2 := hide hW2
    have hDB : B ≤ D := by rw [← hB]; exact hD
    obtain ⟨bs, hbs⟩ : ∃ b, bytesC (L.map cl) = b := ⟨_, rfl⟩
    rw [hbs] at hv0
    have HBS := hide hbs
    clear hlk0 hAp hm hlk h2 h1 i0 kl2 hit ow0 kn2 kbx hblt honL hW2 hb2 hB1 kl kn hv ho hU hnum hnl hsz hsee hmost hK hbs
    gi_wp2_with fail
    refine ⟨trivial, ((callsIn_wide).2 (unhide hv0)).mono ?_⟩
    rintro e W5 ⟨v', rfl, ho', hb5⟩
    have HM5 : Hid (Marks [{ target := .collected D, args := #[] }] W5) := (unhide HM).keep fun k hk => hb5.block k ((unhide HM).lt hk)
    have HO5 := hide ho'
    have HB5 := hide hb5
    obtain ⟨a5, c5, hv5⟩ := own_shape ho'
    subst hv5
    clear hb5 ho'
    gi_wp2
    refine leave_marks (w := W5) (unhide HM5) fun w' hw => ?_
    have hsU := (unhide HU).size
    have hs5 := (unhide HB5).size
    have ho' := own_mark (unhide HO5) (unhide HM5) hw
    have hbw : Below n0 w w' := (unhide HW2).trans ⟨hw.os.trans ((unhide HB5).os.trans (unhide HU).os), hw.tape.trans ((unhide HB5).tape.trans (unhide HU).tape), hw.output.trans ((unhide HB5).output.trans (unhide HU).output), Nat.le_trans (unhide HU).size (Nat.le_trans hs5 hw.size), fun k hk => (hw.block k (by omega) fun c => by
      rcases List.mem_cons.1 c with e | e
      · simp only [Deferred.mk.injEq, Target.collected.injEq, and_true] at e; omega
      · cases e).trans (((unhide HB5).block k (by omega)).trans ((unhide HU).block k (by omega) (by rintro (e | ⟨e, _⟩) <;> omega)))⟩
    refine ⟨.slice a5 bs.length c5, by simp [results, Tryd.results17, go_sem], _, rfl, ?_, hbw⟩
    rw [unhide HBS]
    exact own_mono ho' (by omega)
end Go.Proofs.YtdcmkapfcmibeaaDoor
