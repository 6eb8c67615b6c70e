/- SkipSame's walk. -/
import Derived.Test.YtdcmkapfcmibeaaDoorS0
import Derived.Test.YtdcmkapfcmibeaaDoorS1
import Derived.Test.YtdcmkapfcmibeaaDoorS2
import Derived.Test.YtdcmkapfcmibeaaDoorS3
namespace Go.Proofs.YtdcmkapfcmibeaaDoor
open Go.RowKit Go.Shelf
attribute [local go_sem] Oper.semAt_some
set_option maxRecDepth 100000

theorem rnew_raw (w : World) (seed : Int) : Calls Tryd.prog 10 #[.int .u64 seed] w fun e w' => e = .returned (PN w.heap.size) ∧ RX w' w.heap.size (.slice none 0 0) (.slice none 0 0) seed ∧ Below w.heap.size w w' := by
  have HR : Hid (RX (w.alloc (.cells #[.slice none 0 0, .slice none 0 0, .int .u64 seed] 69)) w.heap.size (.slice none 0 0) (.slice none 0 0) seed ∧ Below w.heap.size w (w.alloc (.cells #[.slice none 0 0, .slice none 0 0, .int .u64 seed] 69))) :=
    ⟨heap_new1 _ _, (Below.refl _ _).alloc (Nat.le_refl _) _⟩
  go_enter Tryd.func10, Tryd.ntmps10
  go_wp2
  go_ret
  exact ⟨rfl, unhide HR⟩
/-- Where a loop over a script stands: both stores have turned, and nothing else that stood ahead of it. -/
def JT (V : World) (b0 sb hd xb : Nat) (wr : World) : Prop := ∃ L luck, Tw wr b0 sb hd V.heap.size xb L luck ∧ (∀ n ∈ L, V.heap.size ≤ n.p) ∧ Upd (fun k => k = sb ∨ k = hd ∨ k = xb) V.heap.size V wr
theorem JT.start {V : World} {b0 sb hd xb : Nat} {luck : Int} (hs : Sk V b0 sb hd [] luck) (hr : RX V xb (.slice none 0 0) (.slice none 0 0) luck) : JT V b0 sb hd xb V :=
  ⟨[], luck, ⟨hs, ⟨⟨_, _, hr, own_nil _ _ _ _, own_nil _ _ _ _⟩⟩, Nat.le_refl _⟩, fun n hn => (by cases hn), Upd.refl _ _ _⟩
theorem JT.size {V : World} {b0 sb hd xb : Nat} {wr : World} (h : JT V b0 sb hd xb wr) : V.heap.size ≤ wr.heap.size := by
  obtain ⟨_, _, _, _, hU⟩ := h
  exact hU.size
theorem JT.keep {V : World} {b0 sb hd xb : Nat} {wr : World} (h : JT V b0 sb hd xb wr) {B : Nat} (hB : B ≤ V.heap.size) (h1 : B ≤ sb) (h2 : B ≤ hd) (h3 : B ≤ xb) : Below B V wr := by
  obtain ⟨_, _, _, _, hU⟩ := h
  exact hU.below hB fun k hk c => by omega
theorem JT.below {V : World} {b0 sb hd xb : Nat} {wr Y : World} (h : JT V b0 sb hd xb wr) (hb : Below wr.heap.size wr Y) : JT V b0 sb hd xb Y := by
  obtain ⟨L, luck, ht, hn, hU⟩ := h
  exact ⟨L, luck, ht.below hb, hn, hU.trans ((Upd.of hb).less hU.size)⟩
theorem JT.step {V : World} {b0 sb hd xb : Nat} {wr : World} (h : JT V b0 sb hd xb wr) (hT : Tab wr) (hb0 : 0 < b0) (hw : 0 < wr.heap.size) (o : Opn) (hok : OkO o) (hdo : o.1 ≠ 3 ∧ o.1 ≠ 4) :
    Calls Tryd.prog 12 #[PN sb, PN xb, .agg (oC o).toArray] wr fun e w' => e = .returned (.tuple #[PN sb, PN xb, .bool true]) ∧ JT V b0 sb hd xb w' := by
  obtain ⟨L, luck, ht, hn, hU⟩ := h
  refine (step_small ht hT hb0 hw o hok hdo).mono ?_
  rintro e w' ⟨rfl, L', luck', ht', hn', hU'⟩
  refine ⟨rfl, L', luck', ht', fun n hm => ?_, hU'.os.trans hU.os, hU'.tape.trans hU.tape, hU'.output.trans hU.output, Nat.le_trans hU.size hU'.size, fun k hk hno => ?_⟩
  · rcases hn' n hm with ⟨y, hy, e⟩ | c
    · rw [← e]; exact hn y hy
    · exact Nat.le_trans hU.size c
  · refine (hU'.block k (Nat.lt_of_lt_of_le hk hU.size) fun c => ?_).trans (hU.block k hk hno)
    rcases c with (c | c | ⟨y, hy, c⟩) | c | ⟨_, _, c⟩
    · exact hno (.inl c)
    · exact hno (.inr (.inl c))
    · have := hn y hy; omega
    · exact hno (.inr (.inr c))
    · omega
/-- A pair of stores, where other stores' blocks turn. -/
theorem Tw.other {w w' : World} {b0 sb hd base xb tb te yb : Nat} {L : List Nd} {luck : Int} {N : Nat} (h : Tw w b0 sb hd base xb L luck) (hn : ∀ n ∈ L, N ≤ n.p) (hU : Upd (fun k => k = tb ∨ k = te ∨ k = yb) w.heap.size w w')
    (ht : ∃ cs, w.heap[tb]? = some (.cells cs 75)) (he : ∃ cs, w.heap[te]? = some (.cells cs 85)) (hy : ∃ cs, w.heap[yb]? = some (.cells cs 69)) (h1 : tb < N) (h2 : te < N) (h3 : yb < N) (h4 : sb ≠ tb) (h5 : hd ≠ te) (h6 : xb ≠ yb) : Tw w' b0 sb hd base xb L luck := by
  obtain ⟨ct, ht⟩ := ht
  obtain ⟨ce, he⟩ := he
  obtain ⟨cy, hy⟩ := hy
  have no : ∀ k cs T, w.heap[k]? = some (.cells cs T) → T ≠ 75 → T ≠ 85 → T ≠ 69 → ¬ (k = tb ∨ k = te ∨ k = yb) := fun k cs T hk a b c d => by
    rcases d with rfl | rfl | rfl
    · rw [ht] at hk; simp only [Option.some.injEq, Obj.cells.injEq] at hk; exact a hk.2.1.symm
    · rw [he] at hk; simp only [Option.some.injEq, Obj.cells.injEq] at hk; exact b hk.2.1.symm
    · rw [hy] at hk; simp only [Option.some.injEq, Obj.cells.injEq] at hk; exact c hk.2.1.symm
  obtain ⟨N0, hm, _⟩ := h.sk.mem
  have c1 : sb ≠ te := fun c => by have := hm.sk; rw [c, he] at this; simp at this
  have c2 : sb ≠ yb := fun c => by have := hm.sk; rw [c, hy] at this; simp at this
  have c3 : hd ≠ tb := fun c => by have := hm.head; rw [c, ht] at this; simp at this
  have c4 : hd ≠ yb := fun c => by have := hm.head; rw [c, hy] at this; simp at this
  refine ⟨h.sk.upd hU fun k hk => ?_, ?_, Nat.le_trans h.bs hU.size⟩
  · rcases hk with rfl | rfl | ⟨n, hm', rfl⟩
    · rintro (c | c | c) <;> contradiction
    · rintro (c | c | c) <;> contradiction
    · have := hn n hm'
      rintro (c | c | c) <;> omega
  · obtain ⟨⟨vl, vh, hx, hvl, hvh⟩⟩ := h.rf
    have d1 : xb ≠ tb := fun c => by rw [c, ht] at hx; simp at hx
    have d2 : xb ≠ te := fun c => by rw [c, he] at hx; simp at hx
    refine ⟨⟨vl, vh, (hU.block xb (Array.getElem?_eq_some_iff.1 hx).1 (by rintro (c | c | c) <;> contradiction)).trans hx, own_keep hvl fun g hg => ?_, own_keep hvh fun g hg => ?_⟩⟩
    · rcases hvl.2 with ⟨e, _⟩ | ⟨g', c', cur, e, _, hh, _⟩
      · rw [e] at hg; cases hg
      · rw [e] at hg; cases hg
        exact hU.block g' (Array.getElem?_eq_some_iff.1 hh).1 (no _ _ _ hh (by decide) (by decide) (by decide))
    · rcases hvh.2 with ⟨e, _⟩ | ⟨g', c', cur, e, _, hh, _⟩
      · rw [e] at hg; cases hg
      · rw [e] at hg; cases hg
        exact hU.block g' (Array.getElem?_eq_some_iff.1 hh).1 (no _ _ _ hh (by decide) (by decide) (by decide))
/-- A byte of a row of one's own turned. -/
theorem own_byte {w : World} {base n cap g : Nat} {bs : List Int} (h : w.ownsRow base 5 1 (.slice (some ⟨g, 0, none⟩) n cap) n (bs.flatMap bC)) {i : Nat} (hi : i < bs.length) (b : Int) :
    w.cell? ⟨g, i, none⟩ = some (.int .u8 (bs.getD i 0)) ∧ w.frozen? ⟨g, i, none⟩ = false ∧ (w.setCell ⟨g, i, none⟩ (.int .u8 b)).ownsRow base 5 1 (.slice (some ⟨g, 0, none⟩) n cap) n ((bs.set i b).flatMap bC) := by
  have hs := own_sees bC_len (by decide) h
  obtain ⟨hn, ao, cp, gb, ob, hv, _, _, _, hao, hc⟩ := hs
  rcases h.2 with ⟨e, _⟩ | ⟨g', cap', cur, hv', hb, hh, hnc, hcm, hsz, ht⟩
  · cases e
  cases hv'
  have hcs : n ≤ cur.size := by rw [hsz]; omega
  have hcell : w.cell? ⟨g, i, none⟩ = some (.int .u8 (bs.getD i 0)) := by
    have e0 := flat_at bC_len bs i _ (List.getElem?_eq_getElem hi) 0 (by decide)
    rw [Nat.mul_one, Nat.add_zero, ← ht, List.getElem?_take_of_lt (by omega)] at e0
    rw [cell_at hh, ← Array.getElem?_toList, e0]
    simp [bC, List.getD, hi]
  refine ⟨hcell, frozen_of_heap hh, ?_, .inr ⟨g, cap, _, rfl, hb, heap_setCell_same w g i cur 5 _ hh, hnc, hcm, by simpa using hsz, ?_⟩⟩
  · rw [flat_len bC_len, List.length_set, ← hn]
  · rw [flat_bytes] at ht ⊢
    have : Sh.ints .u8 (bs.set i b) = (Sh.ints .u8 bs).set i (.int .u8 b) := by unfold Sh.ints; rw [List.map_set]
    rw [this, ← ht, Array.toList_setIfInBounds, List.take_set]

set_option maxHeartbeats 8000000 in
theorem same_walk (sa sb0 : Int) (hsa : 0 ≤ sa ∧ sa < 18446744073709551616) (hsb : 0 ≤ sb0 ∧ sb0 < 18446744073709551616) (ao : Option Addr) (n cap gb ob : Nat) (ops : List Opn) (bo : Option Addr) (n' cap' gb' ob' : Nat) (ops' : List Opn) (w : World) (hT : Tab w) (hw : 0 < w.heap.size)
    (hn : n ≤ cap) (hcap : n ≤ 140737488351232) (haoS : 0 < n → ao = some ⟨gb, ob, none⟩)
    (hops : ∀ t, t < n → (∀ j, j < 9 → w.cell? ⟨gb, ob + t * 9 + j, none⟩ = (oC (ops.getD t default))[j]?) ∧ OkO (ops.getD t default))
    (hn' : n' ≤ cap') (hcap' : n' ≤ 140737488351232) (haoS' : 0 < n' → bo = some ⟨gb', ob', none⟩)
    (hops' : ∀ t, t < n' → (∀ j, j < 9 → w.cell? ⟨gb', ob' + t * 9 + j, none⟩ = (oC (ops'.getD t default))[j]?) ∧ OkO (ops'.getD t default)) :
    Calls Tryd.prog 7 #[.slice ao n cap, .slice bo n' cap', .int .u64 sa, .int .u64 sb0] w fun e w' => e = .returned (.bool true) ∧ Below w.heap.size w w' := by
  obtain ⟨n0, hn0⟩ : ∃ x, w.heap.size = x := ⟨_, rfl⟩
  have hn00 : 0 < n0 := by omega
  have HN := hide (new_any w sa n0 (by omega) hsa)
  obtain ⟨sb, hsbe⟩ : ∃ x, n0 + 1 = x := ⟨_, rfl⟩
  rw [hn0, hsbe] at HN
  have HT := hide hT
  have HOPS := hide hops
  have HOPS' := hide hops'
  have HSB := hide hsb
  rw [hn0]
  clear hT hsa hw hops hops' hsb
  go_enter Tryd.func7, Tryd.ntmps7
  go_wp2_with fail
  refine (unhide HN).mono ?_
  rintro e w1 ⟨rfl, h1, hb1⟩
  obtain ⟨te, hte⟩ : ∃ x, w1.heap.size = x := ⟨_, rfl⟩
  obtain ⟨tb, htb⟩ : ∃ x, te + 1 = x := ⟨_, rfl⟩
  have HN2 := hide (new_any w1 sb0 te (by omega) (unhide HSB))
  rw [hte, htb] at HN2
  have H1 := hide (And.intro h1 hb1)
  clear h1 hb1
  go_wp2_with fail
  refine (unhide HN2).mono ?_
  rintro e w2 ⟨rfl, h2, hb2⟩
  obtain ⟨xb, hxb⟩ : ∃ x, w2.heap.size = x := ⟨_, rfl⟩
  have HN3 := hide (rnew_raw w2 sa)
  rw [hxb] at HN3
  have H2 := hide (And.intro h2 hb2)
  clear h2 hb2
  go_wp2_with fail
  refine (unhide HN3).mono ?_
  rintro e w3 ⟨rfl, h3, hb3⟩
  obtain ⟨yb, hyb⟩ : ∃ x, w3.heap.size = x := ⟨_, rfl⟩
  have HN4 := hide (rnew_raw w3 sb0)
  rw [hyb] at HN4
  have H3 := hide (And.intro h3 hb3)
  clear h3 hb3
  go_wp2_with fail
  refine (unhide HN4).mono ?_
  rintro e w4 ⟨rfl, h4, hb4⟩
  obtain ⟨h3, hb3⟩ := unhide H3
  obtain ⟨h2, hb2⟩ := unhide H2
  obtain ⟨h1, hb1⟩ := unhide H1
  have z1 : sb < te := by rw [← hte]; exact h1.lt (.inl rfl)
  have z2 : tb < xb := by rw [← hxb]; exact h2.lt (.inl rfl)
  have z3 : xb < yb := by rw [← hyb]; exact (Array.getElem?_eq_some_iff.1 h3).1
  have z4 : yb < w4.heap.size := (Array.getElem?_eq_some_iff.1 h4).1
  have b04 : Below n0 w w4 := hb1.trans ((hb2.trans ((hb3.trans (hb4.mono (by omega))).mono (by omega))).mono (by omega))
  have s4 : Sk w4 n0 sb n0 [] sa := h1.below ((hb2.trans ((hb3.trans (hb4.mono (by omega))).mono (by omega))).mono (by omega))
  have t4 : Sk w4 te tb te [] sb0 := h2.below ((hb3.trans (hb4.mono (by omega))).mono (by omega))
  have x4 : RX w4 xb (.slice none 0 0) (.slice none 0 0) sa := (hb4.block xb (by omega)).trans h3
  have hT4 : Tab w4 := (unhide HT).keep (b04.block 0 (by omega))
  have HBE := hide (begun_any w4 hT4 (by omega))
  have H4 := hide (And.intro s4 (And.intro t4 (And.intro x4 (And.intro h4 (And.intro b04 z4)))))
  clear h1 h2 h3 h4 hb1 hb2 hb3 hb4 b04 s4 t4 x4 hT4 z4
  go_wp2_with fail
  refine (unhide HBE).mono ?_
  rintro e V ⟨rfl, hbV⟩
  obtain ⟨s4, t4, x4, h4, b04, z4⟩ := unhide H4
  have bV : Below n0 w V := b04.trans (hbV.mono (by omega))
  have sV := s4.below hbV
  have tV := t4.below hbV
  have xV : RX V xb (.slice none 0 0) (.slice none 0 0) sa := (hbV.block xb (by omega)).trans x4
  have yV : RX V yb (.slice none 0 0) (.slice none 0 0) sb0 := (hbV.block yb (by omega)).trans h4
  have zV : yb < V.heap.size := by have := hbV.size; omega
  have HJ0 := hide (JT.start sV xV)
  have HV := hide (And.intro bV (And.intro tV (And.intro yV zV)))
  clear s4 t4 x4 h4 b04 z4 hbV bV sV tV xV yV zV
  go_wp2

  go_loopw [41] (fun c wr => ∃ t : Nat, t ≤ n ∧ c = .int .i64 t ∧ JT V n0 sb n0 xb wr) (fun c _ => n - (intOf c).toNat)
  case atStart => exact ⟨0, by omega, rfl, unhide HJ0⟩
  case round =>
    obtain ⟨t, ht, rfl, hJ⟩ := hrel
    by_cases hlt : t < n
    · obtain ⟨hcl, hok⟩ := unhide HOPS t hlt
      obtain rfl := haoS (by omega)
      obtain ⟨o, ho⟩ : ∃ o, ops.getD t default = o := ⟨_, rfl⟩
      rw [ho] at hok
      have hJs := hJ.size
      have hwr : n0 < wr.heap.size := by have := (unhide HV).2.2.2; omega
      have hbR : Below n0 w wr := (unhide HV).1.trans (hJ.keep (by have := (unhide HV).2.2.2; omega) (by omega) (Nat.le_refl _) (by omega))
      replace hcl : ∀ j, j < 9 → wr.cell? ⟨gb, ob + t * 9 + j, none⟩ = (oC o)[j]? := fun j hj => by
        have h0 := hcl j hj
        rw [ho] at h0
        have hlt' : gb < n0 := by
          have := List.getElem?_eq_getElem (l := oC o) (i := j) hj
          rw [this] at h0
          rw [← hn0]; exact World.block_lt_of_cell? w _ h0
        rw [← h0]
        exact hbR.cell (p := ⟨gb, ob + t * 9 + j, none⟩) hlt'
      obtain ⟨d, ⟨⟨kt, kr⟩, v, s⟩, ⟨tt, tr⟩, sd, st⟩ := o
      have q0 : wr.cell? ⟨gb, ob + t * 9, none⟩ = some (.int .i64 d) := hcl 0 (by decide)
      have q1 : wr.cell? ⟨gb, ob + t * 9 + 1, none⟩ = some (.int .i32 kt) := hcl 1 (by decide)
      have q2 : wr.cell? ⟨gb, ob + t * 9 + 2, none⟩ = some (.int .i64 kr) := hcl 2 (by decide)
      have q3 : wr.cell? ⟨gb, ob + t * 9 + 3, none⟩ = some (.int .i64 v) := hcl 3 (by decide)
      have q4 : wr.cell? ⟨gb, ob + t * 9 + 4, none⟩ = some (.int .i64 s) := hcl 4 (by decide)
      have q5 : wr.cell? ⟨gb, ob + t * 9 + 5, none⟩ = some (.int .i32 tt) := hcl 5 (by decide)
      have q6 : wr.cell? ⟨gb, ob + t * 9 + 6, none⟩ = some (.int .i64 tr) := hcl 6 (by decide)
      have q7 : wr.cell? ⟨gb, ob + t * 9 + 7, none⟩ = some (.int .u64 sd) := hcl 7 (by decide)
      have q8 : wr.cell? ⟨gb, ob + t * 9 + 8, none⟩ = some (.int .i64 st) := hcl 8 (by decide)
      obtain ⟨bx, hbx⟩ : ∃ x, wr.heap.size = x := ⟨_, rfl⟩
      obtain ⟨Y, hY⟩ : ∃ Y, wr.alloc (.cells #[.int .i64 d, .int .i32 kt, .int .i64 kr, .int .i64 v, .int .i64 s, .int .i32 tt, .int .i64 tr, .int .u64 sd, .int .i64 st] 34) = Y := ⟨_, rfl⟩
      have hbY : Below wr.heap.size wr Y := by rw [← hY]; exact (Below.refl _ _).alloc (Nat.le_refl _) _
      have koY : Y.heap[bx]? = some (.cells #[.int .i64 d, .int .i32 kt, .int .i64 kr, .int .i64 v, .int .i64 s, .int .i32 tt, .int .i64 tr, .int .u64 sd, .int .i64 st] 34) := by rw [← hY, ← hbx]; exact heap_new1 _ _
      have c0 : Y.cell? ⟨bx, 0, none⟩ = some (.int .i64 d) := cell_at koY
      have c1 : Y.cell? ⟨bx, 1, none⟩ = some (.int .i32 kt) := cell_at koY
      have c2 : Y.cell? ⟨bx, 2, none⟩ = some (.int .i64 kr) := cell_at koY
      have c3 : Y.cell? ⟨bx, 3, none⟩ = some (.int .i64 v) := cell_at koY
      have c4 : Y.cell? ⟨bx, 4, none⟩ = some (.int .i64 s) := cell_at koY
      have c5 : Y.cell? ⟨bx, 5, none⟩ = some (.int .i32 tt) := cell_at koY
      have c6 : Y.cell? ⟨bx, 6, none⟩ = some (.int .i64 tr) := cell_at koY
      have c7 : Y.cell? ⟨bx, 7, none⟩ = some (.int .u64 sd) := cell_at koY
      have c8 : Y.cell? ⟨bx, 8, none⟩ = some (.int .i64 st) := cell_at koY
      have hJY := hJ.below hbY
      have hdb : decide ((t : Int) < (n : Int)) = true := by simp; omega
      have hi0 : (0 : Int) ≤ (t : Int) := by omega
      have hi1 : (t : Int) < (n : Int) := by omega
      have HJY := hide hJY
      have HY := hide hY
      by_cases hd : d < 3
      · have hdd : decide (d < 3) = true := decide_eq_true hd
        have hTY : Tab Y := (unhide HT).keep ((hbY.block 0 (by omega)).trans (hbR.block 0 (by omega)))
        have HST := hide (hJY.step hTY (by omega) (by have := hbY.size; omega) (d, ((kt, kr), v, s), (tt, tr), sd, st) hok ⟨by simp only; omega, by simp only; omega⟩)
        simp only [oC] at HST
        clear hcl ho hJ hbR hbY koY hJY hY hok hTY hd
        go_wp2_with (rw [unhide HY])
        refine (unhide HST).mono ?_
        rintro e w' ⟨rfl, hJ'⟩
        have HJ' := hide hJ'
        clear hJ' q0 q1 q2 q3 q4 q5 q6 q7 q8 c0 c1 c2 c3 c4 c5 c6 c7 c8
        go_wp2
        go_roundw
        case rel => exact ⟨t + 1, by omega, by go_num, unhide HJ'⟩
        case measure => simp [intOf]; omega
      · have hdd : decide (d < 3) = false := decide_eq_false hd
        clear hcl ho hJ hbR hbY koY hJY hY hok hd
        go_wp2_with (rw [unhide HY])
        go_roundw
        case rel => exact ⟨t + 1, by omega, by go_num, unhide HJY⟩
        case measure => simp [intOf]; omega
    · obtain rfl : t = n := by omega

      obtain ⟨V2, rfl⟩ : ∃ x, x = wr := ⟨_, rfl⟩
      have hbV2 : Below n0 w V2 := (unhide HV).1.trans (hJ.keep (by have := (unhide HV).2.2.2; omega) (by omega) (Nat.le_refl _) (by omega))
      obtain ⟨-, tV, yV, zV⟩ := unhide HV
      obtain ⟨L, luck, htw, hnL, hU1⟩ := hJ
      have t2 : Sk V2 te tb te [] sb0 := tV.upd hU1 (fun k hk => by
        rcases hk with rfl | rfl | ⟨y, hy, _⟩
        · omega
        · omega
        · cases hy)
      have y2 : RX V2 yb (.slice none 0 0) (.slice none 0 0) sb0 := (hU1.block yb zV (by omega)).trans yV
      have HJ1 := hide (JT.start t2 y2)
      have hVs := hU1.size
      have HV2 := hide (And.intro hbV2 (And.intro htw (And.intro hnL (And.intro t2 (And.intro y2 (And.intro zV hVs))))))
      clear hbV2 tV yV zV htw hnL hU1 t2 y2 hVs
      go_wp2
      go_loopw [55] (fun c wr => ∃ t : Nat, t ≤ n' ∧ c = .int .i64 t ∧ JT V2 te tb te yb wr) (fun c _ => n' - (intOf c).toNat)
      case atStart => exact ⟨0, by omega, rfl, unhide HJ1⟩
      case round =>
        obtain ⟨t, ht, rfl, hJ⟩ := hrel
        by_cases hlt : t < n'
        · obtain ⟨hcl, hok⟩ := unhide HOPS' t hlt
          obtain rfl := haoS' (by omega)
          obtain ⟨o, ho⟩ : ∃ o, ops'.getD t default = o := ⟨_, rfl⟩
          rw [ho] at hok
          have hJs := hJ.size
          have hwr : n0 < wr.heap.size := by have := (unhide HV2).2.2.2.2.2; omega
          have hbR : Below n0 w wr := (unhide HV2).1.trans (hJ.keep (by have := (unhide HV2).2.2.2.2.2; omega) (by omega) (by omega) (by omega))
          replace hcl : ∀ j, j < 9 → wr.cell? ⟨gb', ob' + t * 9 + j, none⟩ = (oC o)[j]? := fun j hj => by
            have h0 := hcl j hj
            rw [ho] at h0
            have hlt' : gb' < n0 := by
              have := List.getElem?_eq_getElem (l := oC o) (i := j) hj
              rw [this] at h0
              rw [← hn0]; exact World.block_lt_of_cell? w _ h0
            rw [← h0]
            exact hbR.cell (p := ⟨gb', ob' + t * 9 + j, none⟩) hlt'
          obtain ⟨d, ⟨⟨kt, kr⟩, v, s⟩, ⟨tt, tr⟩, sd, st⟩ := o
          have q0 : wr.cell? ⟨gb', ob' + t * 9, none⟩ = some (.int .i64 d) := hcl 0 (by decide)
          have q1 : wr.cell? ⟨gb', ob' + t * 9 + 1, none⟩ = some (.int .i32 kt) := hcl 1 (by decide)
          have q2 : wr.cell? ⟨gb', ob' + t * 9 + 2, none⟩ = some (.int .i64 kr) := hcl 2 (by decide)
          have q3 : wr.cell? ⟨gb', ob' + t * 9 + 3, none⟩ = some (.int .i64 v) := hcl 3 (by decide)
          have q4 : wr.cell? ⟨gb', ob' + t * 9 + 4, none⟩ = some (.int .i64 s) := hcl 4 (by decide)
          have q5 : wr.cell? ⟨gb', ob' + t * 9 + 5, none⟩ = some (.int .i32 tt) := hcl 5 (by decide)
          have q6 : wr.cell? ⟨gb', ob' + t * 9 + 6, none⟩ = some (.int .i64 tr) := hcl 6 (by decide)
          have q7 : wr.cell? ⟨gb', ob' + t * 9 + 7, none⟩ = some (.int .u64 sd) := hcl 7 (by decide)
          have q8 : wr.cell? ⟨gb', ob' + t * 9 + 8, none⟩ = some (.int .i64 st) := hcl 8 (by decide)
          obtain ⟨bx, hbx⟩ : ∃ x, wr.heap.size = x := ⟨_, rfl⟩
          obtain ⟨Y, hY⟩ : ∃ Y, wr.alloc (.cells #[.int .i64 d, .int .i32 kt, .int .i64 kr, .int .i64 v, .int .i64 s, .int .i32 tt, .int .i64 tr, .int .u64 sd, .int .i64 st] 34) = Y := ⟨_, rfl⟩
          have hbY : Below wr.heap.size wr Y := by rw [← hY]; exact (Below.refl _ _).alloc (Nat.le_refl _) _
          have koY : Y.heap[bx]? = some (.cells #[.int .i64 d, .int .i32 kt, .int .i64 kr, .int .i64 v, .int .i64 s, .int .i32 tt, .int .i64 tr, .int .u64 sd, .int .i64 st] 34) := by rw [← hY, ← hbx]; exact heap_new1 _ _
          have c0 : Y.cell? ⟨bx, 0, none⟩ = some (.int .i64 d) := cell_at koY
          have c1 : Y.cell? ⟨bx, 1, none⟩ = some (.int .i32 kt) := cell_at koY
          have c2 : Y.cell? ⟨bx, 2, none⟩ = some (.int .i64 kr) := cell_at koY
          have c3 : Y.cell? ⟨bx, 3, none⟩ = some (.int .i64 v) := cell_at koY
          have c4 : Y.cell? ⟨bx, 4, none⟩ = some (.int .i64 s) := cell_at koY
          have c5 : Y.cell? ⟨bx, 5, none⟩ = some (.int .i32 tt) := cell_at koY
          have c6 : Y.cell? ⟨bx, 6, none⟩ = some (.int .i64 tr) := cell_at koY
          have c7 : Y.cell? ⟨bx, 7, none⟩ = some (.int .u64 sd) := cell_at koY
          have c8 : Y.cell? ⟨bx, 8, none⟩ = some (.int .i64 st) := cell_at koY
          have hJY := hJ.below hbY
          have hdb : decide ((t : Int) < (n' : Int)) = true := by simp; omega
          have hi0 : (0 : Int) ≤ (t : Int) := by omega
          have hi1 : (t : Int) < (n' : Int) := by omega
          have HJY := hide hJY
          have HY := hide hY
          by_cases hd : d < 3
          · have hdd : decide (d < 3) = true := decide_eq_true hd
            have hTY : Tab Y := (unhide HT).keep ((hbY.block 0 (by omega)).trans (hbR.block 0 (by omega)))
            have HST := hide (hJY.step hTY (by omega) (by have := hbY.size; omega) (d, ((kt, kr), v, s), (tt, tr), sd, st) hok ⟨by simp only; omega, by simp only; omega⟩)
            simp only [oC] at HST
            clear hcl ho hJ hbR hbY koY hJY hY hok hTY hd
            go_wp2_with (rw [unhide HY])
            refine (unhide HST).mono ?_
            rintro e w' ⟨rfl, hJ'⟩
            have HJ' := hide hJ'
            clear hJ' q0 q1 q2 q3 q4 q5 q6 q7 q8 c0 c1 c2 c3 c4 c5 c6 c7 c8
            go_wp2
            go_roundw
            case rel => exact ⟨t + 1, by omega, by go_num, unhide HJ'⟩
            case measure => simp [intOf]; omega
          · have hdd : decide (d < 3) = false := decide_eq_false hd
            clear hcl ho hJ hbR hbY koY hJY hY hok hd
            go_wp2_with (rw [unhide HY])
            go_roundw
            case rel => exact ⟨t + 1, by omega, by go_num, unhide HJY⟩
            case measure => simp [intOf]; omega
        · obtain rfl : t = n' := by omega

          obtain ⟨V3, rfl⟩ : ∃ x, x = wr := ⟨_, rfl⟩
          obtain ⟨hb2, htw2, hnL, t2, y2, zV, hVs⟩ := unhide HV2
          have hb3 : Below n0 w V3 := hb2.trans (hJ.keep (by omega) (by omega) (by omega) (by omega))
          obtain ⟨M, luck2, htm, hnM, hU2⟩ := hJ
          obtain ⟨N2, hm2, _⟩ := t2.mem
          have htw : Tw V3 n0 sb n0 V.heap.size xb L luck := htw2.other hnL hU2 ⟨_, hm2.sk⟩ ⟨_, hm2.head⟩ ⟨_, y2⟩ (by omega) (by omega) zV (by omega) (by omega) (by omega)
          have HR := hide (range_any htw.sk (-2147483648, -9223372036854775808) (2147483647, 0))
          have HV3 := hide (And.intro hb3 (And.intro htw (And.intro htm zV)))
          have hV3s := hU2.size
          have HSZ3 : Hid (n0 < V3.heap.size) := by show n0 < V3.heap.size; omega
          clear hb2 htw2 hnL t2 y2 zV hVs hb3 htm hnM hU2 hm2 htw hV3s
          go_wp2_with fail
          refine (unhide HR).mono ?_
          rintro e W4 ⟨rv, rfl, hrow, hb4⟩
          obtain ⟨ra, rc, hrv⟩ := own_shape hrow
          have hsee := (own_sees (l := (lo (2147483647, 0) (hi (-2147483648, -9223372036854775808) L)).map cl) pC_len (by decide) hrow).2
          obtain ⟨rl, hrl⟩ : ∃ l, (lo (2147483647, 0) (hi (-2147483648, -9223372036854775808) L)).map cl = l := ⟨_, rfl⟩
          rw [hrl] at hsee
          obtain ⟨ra', rc', rg, ro, hrv', hrcap, hrmax, hrao, hrc⟩ := hsee.pair
          subst hrv'
          obtain ⟨rn, hrn⟩ : ∃ n, rl.length = n := ⟨_, rfl⟩
          rw [hrn] at hrc hrcap hrmax hrao
          rw [hrn]
          have HRC := hide hrc
          have HB4 := hide hb4
          clear hrow hsee hrl hrv hb4 hrc
          go_wp2
          go_loopw [72] (fun c wr => ∃ t : Nat, t ≤ rn ∧ c = .int .i64 t ∧ Below W4.heap.size W4 wr) (fun c _ => rn - (intOf c).toNat)
          case atStart => exact ⟨0, by omega, rfl, Below.refl _ _⟩
          case round =>
            obtain ⟨t, ht, rfl, hbr⟩ := hrel
            by_cases hlt : t < rn
            · obtain rfl := hrao (by omega)
              obtain ⟨d0, d1, d2, d3⟩ := unhide HRC t hlt
              have up : ∀ {p : Addr} {v : Value}, W4.cell? p = some v → wr.cell? p = some v := fun {p v} h => (hbr.cell (p := p) (World.block_lt_of_cell? _ _ h)).trans h
              have f0 := up d0
              have f1 := up d1
              have f2 := up d2
              have f3 := up d3
              obtain ⟨⟨⟨y0, y1⟩, y2, y3⟩, hy⟩ : ∃ c, rl.getD t default = c := ⟨_, rfl⟩
              rw [hy] at f0 f1 f2 f3
              obtain ⟨bx, hbx⟩ : ∃ x, wr.heap.size = x := ⟨_, rfl⟩
              obtain ⟨Y, hY⟩ : ∃ Y, wr.alloc (.cells #[.int .i32 y0, .int .i64 y1, .int .i64 y2, .int .i64 y3] 32) = Y := ⟨_, rfl⟩
              have hbY : Below wr.heap.size wr Y := by rw [← hY]; exact (Below.refl _ _).alloc (Nat.le_refl _) _
              have kY : Y.heap[bx]? = some (.cells #[.int .i32 y0, .int .i64 y1, .int .i64 y2, .int .i64 y3] 32) := by rw [← hY, ← hbx]; exact heap_new1 _ _
              have c2 : Y.cell? ⟨bx, 2, none⟩ = some (.int .i64 y2) := cell_at kY
              have fz : Y.frozen? ⟨bx, 2, none⟩ = false := frozen_of_heap kY
              have hdb : decide ((t : Int) < (rn : Int)) = true := by simp; omega
              have hi0 : (0 : Int) ≤ (t : Int) := by omega
              have hi1 : (t : Int) < (rn : Int) := by omega
              have hbw : W4.heap.size ≤ wr.heap.size := hbr.size
              have HFIN : Hid (∀ u, Below W4.heap.size W4 (Y.setCell ⟨bx, 2, none⟩ u)) := fun u => (hbr.trans (hbY.mono hbw)).setCell (by show W4.heap.size ≤ bx; omega) u
              have HY := hide hY
              clear d0 d1 d2 d3 up hy hbY kY hY hbr hbw
              go_wp2_with (rw [unhide HY])
              go_roundw
              case rel => exact ⟨t + 1, by omega, by go_num, unhide HFIN _⟩
              case measure => simp [intOf]; omega
            · obtain rfl : t = rn := by omega
              obtain ⟨V5, rfl⟩ : ∃ x, x = wr := ⟨_, rfl⟩
              obtain ⟨hb3, htw, htm, zV⟩ := unhide HV3
              have hb35 : Below V3.heap.size V3 V5 := (unhide HB4).trans (hbr.mono (unhide HB4).size)
              have htw5 := htw.below hb35
              have htm5 := htm.below hb35
              have hb5 : Below n0 w V5 := hb3.trans (hb35.mono (Nat.le_of_lt (unhide HSZ3)))
              have HBY := hide (bytes_any htw5.sk)
              have HV5 := hide (And.intro hb5 (And.intro htw5 htm5))
              have h35s := hb35.size
              have HSZ5 : Hid (n0 < V5.heap.size) := by have := unhide HSZ3; show n0 < V5.heap.size; omega
              clear hb3 htw htm zV hb35 htw5 htm5 hb5 hbr h35s
              go_wp2_with fail
              refine (unhide HBY).mono ?_
              rintro e W6 ⟨bv, rfl, hrow, hb6⟩
              rw [← flat_bytes] at hrow
              obtain ⟨bl, hbl⟩ : ∃ l, bytesC (L.map cl) = l := ⟨_, rfl⟩
              rw [hbl] at hrow
              obtain ⟨ba, bc, rfl⟩ := own_shape hrow
              obtain ⟨bn, hbn⟩ : ∃ n, bl.length = n := ⟨_, rfl⟩
              have hbnl : bn ≤ 37748745 := by rw [← hbn, ← hbl]; exact sizeC_le (unhide HV5).2.1.most
              rw [hbn] at hrow
              obtain ⟨_, _, _, _, e1, hbcap, -⟩ := (own_sees (l := bl) bC_len (by decide) hrow).2
              simp only [Value.slice.injEq] at e1
              obtain ⟨-, -, rfl⟩ := e1
              rw [hbn] at hbcap
              have hba : 0 < bn → ∃ g, ba = some ⟨g, 0, none⟩ := fun hp => by
                rcases hrow.2 with ⟨e, _⟩ | ⟨g, _, _, e, _⟩
                · simp only [Value.slice.injEq] at e; omega
                · simp only [Value.slice.injEq] at e; exact ⟨g, e.1⟩
              have HROW := hide (And.intro hrow (And.intro hb6 hbn))
              rw [hbn]
              clear hrow hb6 hbl hbn
              go_wp2
              go_loopw [85, 20, 86, 87] (fun c _ _ _ wr => ∃ t : Nat, t ≤ bn ∧ c = .int .i64 t ∧ ∃ bs : List Int, bs.length = bn ∧ wr.ownsRow V5.heap.size 5 1 (.slice ba bn bc) bn (bs.flatMap bC) ∧ Below V5.heap.size V5 wr) (fun c _ _ _ _ => bn - (intOf c).toNat)
              case atStart => exact ⟨0, by omega, rfl, bl, (unhide HROW).2.2, (unhide HROW).1, (unhide HROW).2.1⟩
              case round =>
                obtain ⟨t, ht, rfl, bs, hbs, hrow, hbr⟩ := hrel
                by_cases hlt : t < bn
                · obtain ⟨g, rfl⟩ := hba (by omega)
                  obtain ⟨x, hx⟩ : ∃ x, bits BinOp.xor IntKind.u8 (bs.getD t 0) 85 = x := ⟨_, rfl⟩
                  obtain ⟨p0, p1, p2⟩ := own_byte hrow (i := t) (by omega) x
                  obtain ⟨y, hy⟩ : ∃ y, bs.getD t 0 = y := ⟨_, rfl⟩
                  rw [hy] at p0 hx
                  have hgl : V5.heap.size ≤ g := own_block_le hrow g rfl
                  have HFIN : Hid (∃ bs : List Int, bs.length = bn ∧ (wr.setCell ⟨g, t, none⟩ (.int .u8 x)).ownsRow V5.heap.size 5 1 (.slice (some ⟨g, 0, none⟩) bn bc) bn (bs.flatMap bC) ∧ Below V5.heap.size V5 (wr.setCell ⟨g, t, none⟩ (.int .u8 x))) := ⟨bs.set t x, by rw [List.length_set]; exact hbs, p2, hbr.setCell (p := ⟨g, t, none⟩) hgl _⟩
                  have hdb : decide ((t : Int) < (bn : Int)) = true := by simp; omega
                  have hi0 : (0 : Int) ≤ (t : Int) := by omega
                  have hi1 : (t : Int) < (bn : Int) := by omega
                  clear hbs hrow hbr hy p2 hgl
                  go_wp2
                  go_roundw
                  case rel => exact ⟨t + 1, by omega, by go_num, unhide HFIN⟩
                  case measure => simp [intOf]; omega
                · obtain rfl : t = bn := by omega
                  obtain ⟨V7, rfl⟩ : ∃ x, x = wr := ⟨_, rfl⟩
                  obtain ⟨hb5, htw5, htm5⟩ := unhide HV5
                  have htw7 := htw5.below hbr
                  have htm7 := htm5.below hbr
                  have hb7 : Below n0 w V7 := hb5.trans (hbr.mono (Nat.le_of_lt (unhide HSZ5)))
                  have h57 := hbr.size
                  have HSZ7 : Hid (n0 < V7.heap.size) := by have := unhide HSZ5; show n0 < V7.heap.size; omega
                  obtain ⟨vl, vh, hx, hvl, -⟩ := htw7.rf.at_
                  obtain ⟨ul, uh, hyx, hul, -⟩ := htm7.rf.at_
                  have sl := (own_sees pC_len (by decide) hvl).2
                  have su := (own_sees pC_len (by decide) hul).2
                  have HLD : Hid (∀ x, Below V7.heap.size V7 x → x.cell? ⟨xb, 0, none⟩ = some vl ∧ x.cell? ⟨yb, 0, none⟩ = some ul) := fun x hb => ⟨(hb.cell (p := ⟨xb, 0, none⟩) htw7.xlt).trans (cell_at hx), (hb.cell (p := ⟨yb, 0, none⟩) htm7.xlt).trans (cell_at hyx)⟩
                  obtain ⟨r, hr⟩ : ∃ r, decide (L.map cl = M.map cl) = r := ⟨_, rfl⟩
                  have HC1 : Hid (∀ x, Below V7.heap.size V7 x → Calls Tryd.prog 28 #[PN sb, PN tb] x fun e w' => e = .returned (.bool r) ∧ Below V7.heap.size V7 w') := fun x hb => by
                    have := same_any (htw7.below hb).sk (htm7.below hb).sk
                    rw [hr] at this
                    exact this.mono fun e w' ⟨h1, h2⟩ => ⟨h1, hb.trans (h2.mono hb.size)⟩
                  have HC2 : Hid (∀ x, Below V7.heap.size V7 x → Calls Tryd.prog 29 #[vl, ul] x fun e w' => e = .returned (.bool r) ∧ Below V7.heap.size V7 w') := fun x hb => by
                    have := samecells_any (sl.below pC_len hb) (su.below pC_len hb)
                    rw [hr] at this
                    exact this.mono fun e w' ⟨h1, h2⟩ => ⟨h1, hb.trans (h2.below.mono hb.size)⟩
                  have HC3 : Hid (∀ x, Below V7.heap.size V7 x → Calls Tryd.prog 28 #[PN sb, PN sb] x fun e w' => e = .returned (.bool true) ∧ Below V7.heap.size V7 w') := fun x hb => by
                    have := same_any (htw7.below hb).sk (htw7.below hb).sk
                    rw [decide_eq_true rfl] at this
                    exact this.mono fun e w' ⟨h1, h2⟩ => ⟨h1, hb.trans (h2.mono hb.size)⟩
                  have HC4 : Hid (∀ x, Below V7.heap.size V7 x → Calls Tryd.prog 28 #[PN sb, nilP] x fun e w' => e = .returned (.bool false) ∧ Below V7.heap.size V7 w') := fun x hb => (same_none2 (htw7.below hb).sk).mono fun e w' ⟨h1, h2⟩ => ⟨h1, hb.trans (h2.mono hb.size)⟩
                  have HC5 : Hid (∀ x, Below V7.heap.size V7 x → Calls Tryd.prog 28 #[nilP, PN sb] x fun e w' => e = .returned (.bool false) ∧ Below V7.heap.size V7 w') := fun x hb => (same_none1 sb).mono fun e w' ⟨h1, h2⟩ => ⟨h1, hb.trans (h2.mono hb.size)⟩
                  obtain ⟨bb, hbb⟩ : ∃ b, bytesC (L.map cl) = b := ⟨_, rfl⟩
                  have hbyt : Sh.Byt bb := by rw [← hbb]; exact bytesC_byt _
                  have HC6 : Hid (∀ x, Below V7.heap.size V7 x → Calls Tryd.prog 17 #[PN sb] x fun e w' => ∃ v, e = .returned v ∧ Sh.Sees w' .u8 v bb ∧ Below V7.heap.size V7 w') := fun x hb => by
                    have := bytes_any (htw7.below hb).sk
                    rw [hbb] at this
                    exact this.mono fun e w' ⟨v, h1, h2, h3⟩ => ⟨v, h1, (Sh.sees_of_own h2).2, hb.trans (h3.mono hb.size)⟩
                  have HC7 : Hid (∀ x v, Below V7.heap.size V7 x → Sh.Sees x .u8 v bb → Calls Tryd.prog 30 #[PN xb] x fun e w' => ∃ u, e = .returned u ∧ Sh.Sees w' .u8 v bb ∧ Sh.Sees w' .u8 u bb ∧ Below V7.heap.size V7 w') := fun x v hb hv => by
                    have := rbytes_any (htw7.below hb).rf htw7.most (fun c hc => by obtain ⟨n, hn, rfl⟩ := List.mem_map.1 hc; exact okC_of (htw7.sk.ok n hn))
                    rw [hbb] at this
                    exact this.mono fun e w' ⟨u, h1, h2, h3⟩ => ⟨u, h1, hv.below h3, (Sh.sees_of_own h2).2, hb.trans (h3.mono hb.size)⟩
                  have HC8 : Hid (∀ x v u, Below V7.heap.size V7 x → Sh.Sees x .u8 v bb → Sh.Sees x .u8 u bb → Calls Tryd.prog 16 #[v, u] x fun e w' => e = .returned (.bool true) ∧ Below V7.heap.size V7 w') := fun x v u hb hv hu => by
                    have := Sh.equal_any v u bb bb x hv hu hbyt hbyt
                    rw [decide_eq_true rfl] at this
                    exact this.mono fun e w' ⟨h1, h2⟩ => ⟨h1, h2 ▸ hb⟩
                  have hrr : (r == r) = true := by simp
                  obtain ⟨vla, vln, vlc, hvle⟩ : ∃ a n c, vl = .slice a n c := by obtain ⟨a, c, e⟩ := own_shape hvl; exact ⟨a, _, c, e⟩
                  obtain ⟨ula, uln, ulc, hule⟩ : ∃ a n c, ul = .slice a n c := by obtain ⟨a, c, e⟩ := own_shape hul; exact ⟨a, _, c, e⟩
                  subst hvle
                  subst hule
                  have HB7 := hide hb7
                  clear hb5 htw5 htm5 hbr htw7 htm7 hb7 h57 hx hvl hyx hul sl su hr hbb hbyt hbs hrow
                  go_wp2
                  refine wp_region_held_drew (S := fun x => Below V7.heap.size V7 x) (by kernel_rfl) ((Below.refl _ _).drew) (fun hHeld => ?_)
                  refine wpAnyH_take (i := 0) (v := ?v1x0) rfl (by kernel_rfl) (by kernel_rfl) (by kernel_rfl) (fun _ _ _ h => h) (Or.inl ⟨by rfl, ?hy1x0⟩) (by assumption) ?rest1x0
                  case hy1x0 => intro w hSw; go_simp <;> with_reducible rfl
                  simp only [Act.put, List.getElem_toArray, List.getElem_cons_zero, List.setIfInBounds_toArray, List.set_cons_zero, List.set_cons_succ]
                  refine wpAnyH_take (i := 1) (v := ?v2x1) rfl (by kernel_rfl) (by kernel_rfl) (by kernel_rfl) (fun _ _ _ h => h) (Or.inl ⟨by rfl, ?hy2x1⟩) (by assumption) ?rest2x1
                  case hy2x1 => intro w hSw; go_simp <;> with_reducible rfl
                  simp only [Act.put, List.getElem_toArray, List.getElem_cons_zero, List.getElem_cons_succ, List.setIfInBounds_toArray, List.set_cons_zero, List.set_cons_succ]
                  refine wpAnyH_take (i := 3) (v := ?v3x3) rfl (by kernel_rfl) (by kernel_rfl) (by kernel_rfl) (fun _ _ _ h => h) (Or.inl ⟨by rfl, ?hy3x3⟩) (by assumption) ?rest3x3
                  case hy3x3 => intro w hSw; go_simp <;> with_reducible rfl
                  simp only [Act.put, List.getElem_toArray, List.getElem_cons_zero, List.getElem_cons_succ, List.setIfInBounds_toArray, List.set_cons_zero, List.set_cons_succ]
                  refine wpAnyH_take (i := 4) (v := ?v4x4) rfl (by kernel_rfl) (by kernel_rfl) (by kernel_rfl) (fun _ _ _ h => h) (Or.inl ⟨by rfl, ?hy4x4⟩) (by assumption) ?rest4x4
                  case hy4x4 => intro w hSw; go_simp <;> with_reducible rfl
                  simp only [Act.put, List.getElem_toArray, List.getElem_cons_zero, List.getElem_cons_succ, List.setIfInBounds_toArray, List.set_cons_zero, List.set_cons_succ]
                  refine wpAnyH_take (i := 5) (v := ?v5x5) rfl (by kernel_rfl) (by kernel_rfl) (by kernel_rfl) (fun _ _ _ h => h) (Or.inl ⟨by rfl, ?hy5x5⟩) (by assumption) ?rest5x5
                  case hy5x5 => intro w hSw; go_simp <;> with_reducible rfl
                  simp only [Act.put, List.getElem_toArray, List.getElem_cons_zero, List.getElem_cons_succ, List.setIfInBounds_toArray, List.set_cons_zero, List.set_cons_succ]
                  refine wpAnyH_take (i := 6) (v := (.slice vla vln vlc)) rfl (by kernel_rfl) (by kernel_rfl) (by kernel_rfl) (fun _ _ _ h => h) (Or.inl ⟨by rfl, ?hy6x6⟩) (by assumption) ?rest6x6
                  case hy6x6 => intro w hSw; have q := (unhide HLD _ hSw).1; go_simp <;> with_reducible rfl
                  simp only [Act.put, List.getElem_toArray, List.getElem_cons_zero, List.getElem_cons_succ, List.setIfInBounds_toArray, List.set_cons_zero, List.set_cons_succ]
                  refine wpAnyH_take (i := 7) (v := ?v7x7) rfl (by kernel_rfl) (by kernel_rfl) (by kernel_rfl) (fun _ _ _ h => h) (Or.inl ⟨by rfl, ?hy7x7⟩) (by assumption) ?rest7x7
                  case hy7x7 => intro w hSw; go_simp <;> with_reducible rfl
                  simp only [Act.put, List.getElem_toArray, List.getElem_cons_zero, List.getElem_cons_succ, List.setIfInBounds_toArray, List.set_cons_zero, List.set_cons_succ]
                  refine wpAnyH_take (i := 8) (v := ?v8x8) rfl (by kernel_rfl) (by kernel_rfl) (by kernel_rfl) (fun _ _ _ h => h) (Or.inl ⟨by rfl, ?hy8x8⟩) (by assumption) ?rest8x8
                  case hy8x8 => intro w hSw; go_simp <;> with_reducible rfl
                  simp only [Act.put, List.getElem_toArray, List.getElem_cons_zero, List.getElem_cons_succ, List.setIfInBounds_toArray, List.set_cons_zero, List.set_cons_succ]
                  refine wpAnyH_take (i := 9) (v := ?v9x9) rfl (by kernel_rfl) (by kernel_rfl) (by kernel_rfl) (fun _ _ _ h => h) (Or.inl ⟨by rfl, ?hy9x9⟩) (by assumption) ?rest9x9
                  case hy9x9 => intro w hSw; go_simp <;> with_reducible rfl
                  simp only [Act.put, List.getElem_toArray, List.getElem_cons_zero, List.getElem_cons_succ, List.setIfInBounds_toArray, List.set_cons_zero, List.set_cons_succ]
                  refine wpAnyH_take (i := 10) (v := (.slice ula uln ulc)) rfl (by kernel_rfl) (by kernel_rfl) (by kernel_rfl) (fun _ _ _ h => h) (Or.inl ⟨by rfl, ?hy10x10⟩) (by assumption) ?rest10x10
                  case hy10x10 => intro w hSw; have q := (unhide HLD _ hSw).2; go_simp <;> with_reducible rfl
                  simp only [Act.put, List.getElem_toArray, List.getElem_cons_zero, List.getElem_cons_succ, List.setIfInBounds_toArray, List.set_cons_zero, List.set_cons_succ]
                  refine wpAnyH_ready (rs := [2]) (by kernel_rfl) (by simp) ?_
                  refine AllReadyH.cons rfl (fun K hK => ?_) AllReadyH.nil
                  go_simp
                  refine (unhide HC1 _ (by assumption)).mono ?_
                  rintro e x1 ⟨rfl, hb⟩
                  refine hK _ _ hb ?_
                  clear hK hHeld
                  intro hHeld
                  refine wpAnyH_ready (rs := [11]) (by kernel_rfl) (by simp) ?_
                  refine AllReadyH.cons rfl (fun K hK => ?_) AllReadyH.nil
                  go_simp
                  refine (unhide HC2 _ (by assumption)).mono ?_
                  rintro e x2 ⟨rfl, hb⟩
                  refine hK _ _ hb ?_
                  clear hK hHeld
                  intro hHeld
                  refine wpAnyH_take (i := 12) (v := (.bool true)) rfl (by kernel_rfl) (by kernel_rfl) (by kernel_rfl) (fun _ _ _ h => h) (Or.inl ⟨by rfl, ?hy11x12⟩) (by assumption) ?rest11x12
                  case hy11x12 => intro w hSw; go_simp <;> with_reducible rfl
                  simp only [Act.put, List.getElem_toArray, List.getElem_cons_zero, List.getElem_cons_succ, List.setIfInBounds_toArray, List.set_cons_zero, List.set_cons_succ]
                  refine wpAnyH_take (i := 13) (v := (.bool true)) rfl (by kernel_rfl) (by kernel_rfl) (by kernel_rfl) (fun _ _ _ h => h) (Or.inl ⟨by rfl, ?hy12x13⟩) (by assumption) ?rest12x13
                  case hy12x13 => intro w hSw; go_simp <;> with_reducible rfl
                  simp only [Act.put, List.getElem_toArray, List.getElem_cons_zero, List.getElem_cons_succ, List.setIfInBounds_toArray, List.set_cons_zero, List.set_cons_succ]
                  refine wpAnyH_take (i := 14) (v := ?v13x14) rfl (by kernel_rfl) (by kernel_rfl) (by kernel_rfl) (fun _ _ _ h => h) (Or.inl ⟨by rfl, ?hy13x14⟩) (by assumption) ?rest13x14
                  case hy13x14 => intro w hSw; go_simp <;> with_reducible rfl
                  simp only [Act.put, List.getElem_toArray, List.getElem_cons_zero, List.getElem_cons_succ, List.setIfInBounds_toArray, List.set_cons_zero, List.set_cons_succ]
                  refine wpAnyH_take (i := 15) (v := ?v14x15) rfl (by kernel_rfl) (by kernel_rfl) (by kernel_rfl) (fun _ _ _ h => h) (Or.inl ⟨by rfl, ?hy14x15⟩) (by assumption) ?rest14x15
                  case hy14x15 => intro w hSw; go_simp <;> with_reducible rfl
                  simp only [Act.put, List.getElem_toArray, List.getElem_cons_zero, List.getElem_cons_succ, List.setIfInBounds_toArray, List.set_cons_zero, List.set_cons_succ]
                  refine wpAnyH_ready (rs := [16]) (by kernel_rfl) (by simp) ?_
                  refine AllReadyH.cons rfl (fun K hK => ?_) AllReadyH.nil
                  go_simp
                  refine (unhide HC3 _ (by assumption)).mono ?_
                  rintro e x3 ⟨rfl, hb⟩
                  refine hK _ _ hb ?_
                  clear hK hHeld
                  intro hHeld
                  refine wpAnyH_take (i := 17) (v := (.bool true)) rfl (by kernel_rfl) (by kernel_rfl) (by kernel_rfl) (fun _ _ _ h => h) (Or.inl ⟨by rfl, ?hy15x17⟩) (by assumption) ?rest15x17
                  case hy15x17 => intro w hSw; go_simp <;> with_reducible rfl
                  simp only [Act.put, List.getElem_toArray, List.getElem_cons_zero, List.getElem_cons_succ, List.setIfInBounds_toArray, List.set_cons_zero, List.set_cons_succ]
                  refine wpAnyH_take (i := 18) (v := (.bool true)) rfl (by kernel_rfl) (by kernel_rfl) (by kernel_rfl) (fun _ _ _ h => h) (Or.inl ⟨by rfl, ?hy16x18⟩) (by assumption) ?rest16x18
                  case hy16x18 => intro w hSw; go_simp <;> with_reducible rfl
                  simp only [Act.put, List.getElem_toArray, List.getElem_cons_zero, List.getElem_cons_succ, List.setIfInBounds_toArray, List.set_cons_zero, List.set_cons_succ]
                  refine wpAnyH_take (i := 19) (v := ?v17x19) rfl (by kernel_rfl) (by kernel_rfl) (by kernel_rfl) (fun _ _ _ h => h) (Or.inl ⟨by rfl, ?hy17x19⟩) (by assumption) ?rest17x19
                  case hy17x19 => intro w hSw; go_simp <;> with_reducible rfl
                  simp only [Act.put, List.getElem_toArray, List.getElem_cons_zero, List.getElem_cons_succ, List.setIfInBounds_toArray, List.set_cons_zero, List.set_cons_succ]
                  refine wpAnyH_ready (rs := [20]) (by kernel_rfl) (by simp) ?_
                  refine AllReadyH.cons rfl (fun K hK => ?_) AllReadyH.nil
                  go_simp
                  refine (unhide HC4 _ (by assumption)).mono ?_
                  rintro e x4 ⟨rfl, hb⟩
                  refine hK _ _ hb ?_
                  clear hK hHeld
                  intro hHeld
                  refine wpAnyH_take (i := 21) (v := (.bool true)) rfl (by kernel_rfl) (by kernel_rfl) (by kernel_rfl) (fun _ _ _ h => h) (Or.inl ⟨by rfl, ?hy18x21⟩) (by assumption) ?rest18x21
                  case hy18x21 => intro w hSw; go_simp <;> with_reducible rfl
                  simp only [Act.put, List.getElem_toArray, List.getElem_cons_zero, List.getElem_cons_succ, List.setIfInBounds_toArray, List.set_cons_zero, List.set_cons_succ]
                  refine wpAnyH_take (i := 22) (v := (.bool true)) rfl (by kernel_rfl) (by kernel_rfl) (by kernel_rfl) (fun _ _ _ h => h) (Or.inl ⟨by rfl, ?hy19x22⟩) (by assumption) ?rest19x22
                  case hy19x22 => intro w hSw; go_simp <;> with_reducible rfl
                  simp only [Act.put, List.getElem_toArray, List.getElem_cons_zero, List.getElem_cons_succ, List.setIfInBounds_toArray, List.set_cons_zero, List.set_cons_succ]
                  refine wpAnyH_take (i := 23) (v := (.bool true)) rfl (by kernel_rfl) (by kernel_rfl) (by kernel_rfl) (fun _ _ _ h => h) (Or.inl ⟨by rfl, ?hy20x23⟩) (by assumption) ?rest20x23
                  case hy20x23 => intro w hSw; go_simp <;> with_reducible rfl
                  simp only [Act.put, List.getElem_toArray, List.getElem_cons_zero, List.getElem_cons_succ, List.setIfInBounds_toArray, List.set_cons_zero, List.set_cons_succ]
                  refine wpAnyH_take (i := 24) (v := ?v21x24) rfl (by kernel_rfl) (by kernel_rfl) (by kernel_rfl) (fun _ _ _ h => h) (Or.inl ⟨by rfl, ?hy21x24⟩) (by assumption) ?rest21x24
                  case hy21x24 => intro w hSw; go_simp <;> with_reducible rfl
                  simp only [Act.put, List.getElem_toArray, List.getElem_cons_zero, List.getElem_cons_succ, List.setIfInBounds_toArray, List.set_cons_zero, List.set_cons_succ]
                  refine wpAnyH_ready (rs := [25]) (by kernel_rfl) (by simp) ?_
                  refine AllReadyH.cons rfl (fun K hK => ?_) AllReadyH.nil
                  go_simp
                  refine (unhide HC5 _ (by assumption)).mono ?_
                  rintro e x5 ⟨rfl, hb⟩
                  refine hK _ _ hb ?_
                  clear hK hHeld
                  intro hHeld
                  refine wpAnyH_take (i := 26) (v := (.bool true)) rfl (by kernel_rfl) (by kernel_rfl) (by kernel_rfl) (fun _ _ _ h => h) (Or.inl ⟨by rfl, ?hy22x26⟩) (by assumption) ?rest22x26
                  case hy22x26 => intro w hSw; go_simp <;> with_reducible rfl
                  simp only [Act.put, List.getElem_toArray, List.getElem_cons_zero, List.getElem_cons_succ, List.setIfInBounds_toArray, List.set_cons_zero, List.set_cons_succ]
                  refine wpAnyH_take (i := 27) (v := (.bool true)) rfl (by kernel_rfl) (by kernel_rfl) (by kernel_rfl) (fun _ _ _ h => h) (Or.inl ⟨by rfl, ?hy23x27⟩) (by assumption) ?rest23x27
                  case hy23x27 => intro w hSw; go_simp <;> with_reducible rfl
                  simp only [Act.put, List.getElem_toArray, List.getElem_cons_zero, List.getElem_cons_succ, List.setIfInBounds_toArray, List.set_cons_zero, List.set_cons_succ]
                  refine wpAnyH_take (i := 28) (v := (.bool true)) rfl (by kernel_rfl) (by kernel_rfl) (by kernel_rfl) (fun _ _ _ h => h) (Or.inl ⟨by rfl, ?hy24x28⟩) (by assumption) ?rest24x28
                  case hy24x28 => intro w hSw; go_simp <;> with_reducible rfl
                  simp only [Act.put, List.getElem_toArray, List.getElem_cons_zero, List.getElem_cons_succ, List.setIfInBounds_toArray, List.set_cons_zero, List.set_cons_succ]
                  refine wpAnyH_take (i := 29) (v := ?v25x29) rfl (by kernel_rfl) (by kernel_rfl) (by kernel_rfl) (fun _ _ _ h => h) (Or.inl ⟨by rfl, ?hy25x29⟩) (by assumption) ?rest25x29
                  case hy25x29 => intro w hSw; go_simp <;> with_reducible rfl
                  simp only [Act.put, List.getElem_toArray, List.getElem_cons_zero, List.getElem_cons_succ, List.setIfInBounds_toArray, List.set_cons_zero, List.set_cons_succ]
                  refine wpAnyH_take (i := 31) (v := ?v26x31) rfl (by kernel_rfl) (by kernel_rfl) (by kernel_rfl) (fun _ _ _ h => h) (Or.inl ⟨by rfl, ?hy26x31⟩) (by assumption) ?rest26x31
                  case hy26x31 => intro w hSw; go_simp <;> with_reducible rfl
                  simp only [Act.put, List.getElem_toArray, List.getElem_cons_zero, List.getElem_cons_succ, List.setIfInBounds_toArray, List.set_cons_zero, List.set_cons_succ]
                  refine wpAnyH_ready (rs := [30]) (by kernel_rfl) (by simp) ?_
                  refine AllReadyH.cons rfl (fun K hK => ?_) AllReadyH.nil
                  go_simp
                  refine (unhide HC6 _ (by assumption)).mono ?_
                  rintro e x6 ⟨bv6, rfl, hsv, hb⟩
                  refine hK _ _ hb ?_
                  clear hK hHeld
                  have HSV := hide hsv
                  clear hsv
                  intro hHeld
                  refine wpAnyH_ready (rs := [32]) (by kernel_rfl) (by simp) ?_
                  refine AllReadyH.cons rfl (fun K hK => ?_) AllReadyH.nil
                  go_simp
                  refine (unhide HC7 _ _ (by assumption) (unhide HSV)).mono ?_
                  rintro e x7 ⟨bu, rfl, hsv, hsu, hb⟩
                  refine hK _ _ hb ?_
                  clear hK hHeld
                  have HSV2 := hide hsv
                  have HSU := hide hsu
                  clear hsv hsu HSV
                  intro hHeld
                  refine wpAnyH_ready (rs := [33]) (by kernel_rfl) (by simp) ?_
                  refine AllReadyH.cons rfl (fun K hK => ?_) AllReadyH.nil
                  go_simp
                  refine (unhide HC8 _ _ _ (by assumption) (unhide HSV2) (unhide HSU)).mono ?_
                  rintro e x8 ⟨rfl, hb⟩
                  refine hK _ _ hb ?_
                  clear hK hHeld
                  have HB8 := hide hb
                  clear HSV2 HSU
                  intro hHeld
                  refine wpAnyH_take (i := 34) (v := (.bool true)) rfl (by kernel_rfl) (by kernel_rfl) (by kernel_rfl) (fun _ _ _ h => h) (Or.inl ⟨by rfl, ?hy27x34⟩) (by assumption) ?rest27x34
                  case hy27x34 => intro w hSw; go_simp <;> with_reducible rfl
                  simp only [Act.put, List.getElem_toArray, List.getElem_cons_zero, List.getElem_cons_succ, List.setIfInBounds_toArray, List.set_cons_zero, List.set_cons_succ]
                  refine wpAnyH_take (i := 35) (v := ?v28x35) rfl (by kernel_rfl) (by kernel_rfl) (by kernel_rfl) (fun _ _ _ h => h) (Or.inl ⟨by rfl, ?hy28x35⟩) (by assumption) ?rest28x35
                  case hy28x35 => intro w hSw; go_simp <;> with_reducible rfl
                  simp only [Act.put, List.getElem_toArray, List.getElem_cons_zero, List.getElem_cons_succ, List.setIfInBounds_toArray, List.set_cons_zero, List.set_cons_succ]
                  refine wpAnyH_done (by kernel_rfl) ?_ _
                  go_wp2
                  go_ret
                  exact ⟨rfl, (unhide HB7).trans ((unhide HB8).mono (Nat.le_of_lt (unhide HSZ7)))⟩
end Go.Proofs.YtdcmkapfcmibeaaDoor
