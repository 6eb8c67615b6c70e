/- Range: what the keys from one on have that are below another. -/
import Derived.Test.YtdcmkapfcmibeaaDoorLU
namespace Go.Proofs.YtdcmkapfcmibeaaDoor
open Go.RowKit Go.Shelf
attribute [local go_sem] Oper.semAt_some
set_option maxRecDepth 100000

/-- What a node has. -/
def cl (n : Nd) : Pr := (n.k, n.v, n.s)
/-- A box with a slice of one's own. -/
def OwnBox (lb base : Nat) (l : List Pr) (W : World) : Prop := ∃ v, W.heap[lb]? = some (.cells #[v] 63) ∧ W.ownsRow base 32 4 v l.length (l.flatMap pC)
theorem own_from {β : Type} (N lb base : Nat) (f : β → List Pr) (hlb : lb < N) : OwnFrom N (fun (s : β) (W : World) => OwnBox lb base (f s) W) := fun s A B row ⟨v, hv, ho⟩ hg hr => by
  refine ⟨v, (hg.block lb (Array.getElem?_eq_some_iff.1 hv).1 (fun e => by have := (hr lb e.symm).1; omega)).trans hv, ho.1, ?_⟩
  rcases ho.2 with hn | ⟨g, cap, cur, e1, e2, hh, r⟩
  · exact .inl hn
  · refine .inr ⟨g, cap, cur, e1, e2, (hg.block g (Array.getElem?_eq_some_iff.1 hh).1 fun e => ?_).trans hh, r⟩
    obtain ⟨_, o, ho, hc⟩ := hr g e.symm
    rw [hh] at ho
    injection ho with ho
    subst ho
    simp [Obj.isCells] at hc
/-- A cell more in the box: what an append leaves. -/
theorem own_app {W : World} {lb base : Nat} {l : List Pr} (h : OwnBox lb base l W) (hbase : base ≤ W.heap.size) (hlb : lb < base) (c : Pr) (hl : l.length < 1048576) :
    ∃ v v' W', W.heap[lb]? = some (.cells #[v] 63) ∧ (∃ ao n cap, v = .slice ao n cap) ∧ (∃ ao n cap, v' = .slice ao n cap) ∧ (Builtin.append_ #[63, 63] 63 #[v, .slice (some ⟨W.heap.size, 0, none⟩) 1 1]).run Tryd.prog (W.alloc (.cells #[.int .i32 c.1.1, .int .i64 c.1.2, .int .i64 c.2.1, .int .i64 c.2.2] 32)) = .ok v' W' ∧ W'.ownsRow base 32 4 v' (l.length + 1) ((l ++ [c]).flatMap pC) ∧ W'.heap[lb]? = some (.cells #[v] 63) ∧ Upd (fun k => base ≤ k ∧ ∃ cs T m, W.heap[k]? = some (.cells cs T m)) W.heap.size W W' := by
  obtain ⟨v, hv, ho⟩ := h
  have hb : Below W.heap.size W (W.alloc (.cells #[.int .i32 c.1.1, .int .i64 c.1.2, .int .i64 c.2.1, .int .i64 c.2.2] 32)) := (Below.refl _ _).alloc (Nat.le_refl _) _
  obtain ⟨v', W', hr, ho', hg⟩ := append_pairs (l2 := [c]) 63 (own_below ho hb) (sees_oneP W c) (by simp; omega) (by simp; omega)
  have hU : Upd (fun k => base ≤ k ∧ ∃ cs T m, W.heap[k]? = some (.cells cs T m)) W.heap.size W W' := by
    refine ⟨hg.os, hg.tape, hg.output, Nat.le_trans hb.size hg.size, fun k hk hn => ?_⟩
    refine (hg.block k (Nat.lt_of_lt_of_le hk hb.size) fun e => hn ?_).trans (hb.block k hk)
    rcases ho.2 with ⟨rfl, _⟩ | ⟨g, cap, cur, rfl, hgb, hh, _⟩
    · simp [Value.ownBlock] at e
    · simp only [Value.ownBlock, Option.some.injEq] at e
      subst e
      exact ⟨hgb, _, _, _, hh⟩
  exact ⟨v, v', W', hv, (by obtain ⟨ao, cap, e⟩ := own_shape ho; exact ⟨ao, _, cap, e⟩), (by obtain ⟨ao, cap, e⟩ := own_shape ho'; exact ⟨ao, _, cap, e⟩), hr, ho', (hU.block lb (Array.getElem?_eq_some_iff.1 hv).1 (by omega)).trans hv, hU⟩

theorem rg_step {W w1 W9 : World} {lb B : Nat} (hb1 : Below W.heap.size W w1) (hU9 : Upd (fun k => B ≤ k ∧ ∃ cs T m, w1.drew.heap[k]? = some (.cells cs T m)) w1.drew.heap.size w1.drew W9) (hlB : lb < B) (hB : B ≤ W.heap.size) (v : Value) :
    KeepsFrom B W (W9.setCell ⟨lb, 0, none⟩ v) ∧ Upd (fun k => k = lb) B W (W9.setCell ⟨lb, 0, none⟩ v) := by
  have hs1 := hb1.size
  have hs9 : w1.heap.size ≤ W9.heap.size := hU9.size
  have sz : (W9.setCell ⟨lb, 0, none⟩ v).heap.size = W9.heap.size := by simp [World.setCell]
  refine ⟨⟨by rw [sz]; omega, fun k o hk ho hc => ?_⟩, ⟨hU9.os.trans hb1.os, hU9.tape.trans hb1.tape, hU9.output.trans hb1.output, by rw [sz]; omega, fun k hk hn => ?_⟩⟩
  · have hlt := (Array.getElem?_eq_some_iff.1 ho).1
    have e1 : w1.heap[k]? = some o := (hb1.block k hlt).trans ho
    rw [Below.heap_setCell _ _ _ _ (show k ≠ lb by omega), hU9.block k (by show k < w1.heap.size; omega) ?_]
    · exact e1
    · rintro ⟨_, cs, T, m, e⟩
      have e2 : w1.heap[k]? = some (.cells cs T m) := e
      rw [e1] at e2
      injection e2 with e2
      subst e2
      simp [Obj.isCells] at hc
  · rw [Below.heap_setCell _ _ _ _ (show k ≠ lb from hn), hU9.block k (by show k < w1.heap.size; omega) (by omega)]
    exact hb1.block k (by omega)
theorem own_mark {W w' : World} {ds : List Deferred} {base e size n : Nat} {v : Value} {xs : List Value} (h : W.ownsRow base e size v n xs) (hM : Marks ds W) (hw : Upd (isMark ds) W.heap.size W w') : w'.ownsRow base e size v n xs := by
  refine ⟨h.1, ?_⟩
  rcases h.2 with hn | ⟨g, cap, cur, hv, hg, hh, r⟩
  · exact .inl hn
  · refine .inr ⟨g, cap, cur, hv, hg, (hw.block g (Array.getElem?_eq_some_iff.1 hh).1 fun c => ?_).trans hh, r⟩
    have := hM.at c
    rw [hh] at this
    cases this
/-- Where Range stands, and where it was left. -/
def RgI (lb : Nat) (B : Nat) (t : Int × Int) (W2 : World) (pre : List Nd) (W : World) : Prop := ((∀ m ∈ pre, ltK m.k t) ∧ OwnBox lb B (pre.map cl) W) ∧ Upd (fun k => k = lb) B W2 W
def RgX (lb : Nat) (B : Nat) (t : Int × Int) (F : List Nd) (W2 : World) (cd : Code) (pre : List Nd) (W : World) : Prop := ∃ p x, (((cd = .exit 0 ∧ pre = p ++ [x]) ∧ (∀ m ∈ p, ltK m.k t) ∧ ¬ ltK x.k t ∧ OkF F p x) ∧ OwnBox lb B (p.map cl) W) ∧ Upd (fun k => k = lb) B W2 W

set_option maxHeartbeats 2000000 in
theorem range_any {w : World} {b0 sb hd : Nat} {L : List Nd} {luck : Int} (h : Sk w b0 sb hd L luck) (k t : Int × Int) :
    Calls Tryd.prog 27 #[PN sb, .agg #[.int .i32 k.1, .int .i64 k.2], .agg #[.int .i32 t.1, .int .i64 t.2]] w fun e w' => ∃ v, e = .returned v ∧ w'.ownsRow w.heap.size 32 4 v (lo t (hi k L)).length (((lo t (hi k L)).map cl).flatMap pC) ∧ Below w.heap.size w w' := by
  obtain ⟨T, hT⟩ : ∃ T, lo k L = T := ⟨_, rfl⟩
  obtain ⟨R, hR⟩ : ∃ R, hi k L = R := ⟨_, rfl⟩
  have hAB : L = T ++ R := by rw [← hT, ← hR]; exact h.rise.split _
  rw [hR]
  obtain ⟨n0, hn0⟩ : ∃ x, w.heap.size = x := ⟨_, rfl⟩
  obtain ⟨W1, hW1⟩ : ∃ W, ((w.alloc (.cells #[.int .i32 k.1, .int .i64 k.2] 30)).alloc (.cells #[.int .i32 t.1, .int .i64 t.2] 30)).alloc (.cells #[.slice none 0 0] 63) = W := ⟨_, rfl⟩
  obtain ⟨fb, hfb⟩ : ∃ x, n0 = x := ⟨_, rfl⟩
  obtain ⟨tb, htb⟩ : ∃ x, fb + 1 = x := ⟨_, rfl⟩
  obtain ⟨lb, hlb⟩ : ∃ x, tb + 1 = x := ⟨_, rfl⟩
  have hs1 : W1.heap.size = lb + 1 := by rw [← hW1]; simp; omega
  have hB1 : Below n0 w W1 := by rw [← hW1, ← hn0]; exact (((Below.refl _ _).alloc (Nat.le_refl _) _).alloc (by simp) _).alloc (by simp; omega) _
  have kf : W1.heap[fb]? = some (.cells #[.int .i32 k.1, .int .i64 k.2] 30) := by
    rw [← hW1, Below.heap_alloc _ _ _ (by simp; omega), Below.heap_alloc _ _ _ (by simp; omega), ← hfb, ← hn0]; exact heap_new1 _ _
  have kt : W1.heap[tb]? = some (.cells #[.int .i32 t.1, .int .i64 t.2] 30) := by
    rw [← hW1, Below.heap_alloc _ _ _ (by simp; omega), ← htb, ← hfb, ← hn0]; exact heap_new2 _ _ _
  have kl : W1.heap[lb]? = some (.cells #[.slice none 0 0] 63) := by
    rw [← hW1, ← hlb, ← htb, ← hfb, ← hn0]
    have := World.alloc_heap_new ((w.alloc (.cells #[.int .i32 k.1, .int .i64 k.2] 30)).alloc (.cells #[.int .i32 t.1, .int .i64 t.2] 30)) (.cells #[.slice none 0 0] 63)
    rw [World.size_alloc, World.size_alloc] at this; exact this
  have h1 : Sk W1 b0 sb hd L luck := h.below (by rw [hn0]; exact hB1)
  have g0 : W1.cell? ⟨fb, 0, none⟩ = some (.int .i32 k.1) := cell_at kf
  have g1 : W1.cell? ⟨fb, 1, none⟩ = some (.int .i64 k.2) := cell_at kf
  have HF := hide (from_yes h1 k hT)
  have H1 := hide (And.intro h1 (And.intro hB1 (And.intro kf (And.intro kt (And.intro kl hs1)))))
  have HAB := hide hAB
  rw [hn0]
  have HR := hide hR
  have H0 := hide h
  clear h h1 hB1 kf kt kl hs1 hAB hT hR
  refine (callsIn_wide (n := 3)).1 ?_
  refine callsIn_of_wp_marks Tryd.func27 rfl trivial ?_ rfl
  simp only [Tryd.ntmps27, List.size_toArray, List.length_cons, List.length_nil, Nat.reduceAdd, Nat.reduceSub, Array.replicate_succ, Array.replicate_zero, List.push_toArray, List.append_toArray, List.nil_append, List.cons_append]
  gi_wp2_with fail
  refine ⟨trivial, ((callsIn_wide).2 (unhide HF)).mono ?_⟩
  rintro e W2 ⟨bx, rfl, hit, hb2, hbx⟩
  clear hW1 g0 g1
  obtain ⟨h1, hB1, kf, kt, kl, hs1⟩ := unhide H1
  have h2 : Sk W2 b0 sb hd L luck := h1.below hb2
  have kt2 : W2.heap[tb]? = some (.cells #[.int .i32 t.1, .int .i64 t.2] 30) := (hb2.block tb (by omega)).trans kt
  have kl2 : W2.heap[lb]? = some (.cells #[.slice none 0 0] 63) := (hb2.block lb (by omega)).trans kl
  have hW2 : Below n0 w W2 := hB1.trans (hb2.mono (by omega))
  obtain ⟨B, hB⟩ : ∃ B, W2.heap.size = B := ⟨_, rfl⟩
  have hlB : lb < B := by rw [← hB]; exact (Array.getElem?_eq_some_iff.1 kl2).1
  have hbxB : bx + 1 < B := by rw [← hB]; exact World.block_lt_of_cell? W2 _ hit.2
  obtain ⟨N, hm, hlk⟩ := h2.mem
  have hAB := unhide HAB
  have hlk0 := hlk 0 (by decide)
  have hAp := h2.apart
  rw [hAB] at hlk0 hAp
  have hqon : On hd L (lstP hd 0 T) := by rw [hAB]; exact lstP_on _ _
  have hRL : ∀ m ∈ R, m ∈ L := fun m hm => by rw [hAB]; exact List.mem_append_right _ hm
  have honR : onL 0 R = R := List.filter_eq_self.2 fun m hm => by have := (h2.ok m (hRL m hm)).h; simp; omega
  have hblt : ∀ k, Bl sb hd L k → k < n0 := fun k hk => by rw [← hn0]; exact (unhide H0).lt hk
  have hRlen : R.length ≤ 1048576 := by have := h2.most; rw [hAB, List.length_append] at this; omega
  have i0 : RgI lb B t W2 [] W2 := ⟨⟨fun m hm => (by cases hm), _, kl2, own_nil _ _ _ _⟩, Upd.refl _ _ _⟩
  gi_wp2
  refine wpIn_range_ok rfl (by decide) (gf := 84) (lb := #[PN bx, PN (bx + 1)]) rfl trivial (enters_of Tryd.func84 (by kernel_rfl) rfl)
    (behind_seq (3 - 1) bx 0 (lstP hd 0 T) (by decide) R N (fun k => k < B ∧ k ≠ lb) W2 (List.nodup_cons.1 (hAp.rest (lev := 0))).2 hlk0.rest hit.1 hit.2 (hm.next hqon (by decide)) (fun m hm' => hm.next (.inr ⟨m, hRL m hm', rfl⟩) (by decide)) ⟨by omega, by omega⟩ (fun m hm' => by have := hblt m.p (.inr (.inr ⟨m, hRL m hm', rfl⟩)); exact ⟨by omega, by omega⟩))
    keepb_t (fun W o o' => keepb_put (fun c => by have := c.1; omega) W o o') (Below.refl _ _) (fun _ => rfl)
    (RgI lb B t W2) (RgX lb B t R W2)
    (by rw [hB]; exact OwnFrom.and (OwnFrom.and (ownFrom_pure B _) (own_from B lb B _ hlB)) (ownFrom_upd (by omega)))
    (fun cd => by
      rw [hB]
      rintro s A B' row ⟨p, x, hs⟩ hg hr
      exact ⟨p, x, ⟨hs.1.1, own_from (β := Unit) B lb B (fun _ => p.map cl) hlB () A B' row hs.1.2 hg hr⟩, ownFrom_upd (β := Unit) (by omega) () A B' row hs.2 hg hr⟩)
    i0
    (fun x => { tmps := #[PN sb, .agg #[.int .i32 k.1, .int .i64 k.2], .agg #[.int .i32 t.1, .int .i64 t.2], undef, PN fb, PN tb, .slice none 0 0, PN lb, PN x.p, PN sb, .agg #[.int .i32 k.1, .int .i64 k.2], It bx, PN x.p, undef, undef, undef, undef, undef, undef, undef, undef, undef, undef, undef, undef, undef, undef, undef, undef], defers := [] }) ?assign ?body ?done ?stop
  case assign =>
    intro l x W K hK
    clear honR hlk0 hAp hm hlk h2 h1 i0 kl2 kt2 hit
    gi_wp2
    exact hK
  case body =>
    rw [honR]
    intro l pre x W hI hOk
    obtain ⟨⟨hpre, hown⟩, hU⟩ := hI
    have hxR : x ∈ R := by obtain ⟨r, e⟩ := hOk; rw [← e]; simp
    have hpl : pre.length < 1048576 := by obtain ⟨r, e⟩ := hOk; have := congrArg List.length e; rw [List.length_append, List.length_cons] at this; omega
    have hxb : x.p < n0 := hblt x.p (.inr (.inr ⟨x, hRL x hxR, rfl⟩))
    have hxn : W.heap[x.p]? = some (.cells (nodeC x (N x.p)) 85) := (hU.block x.p (by omega) (by omega)).trans (hm.node x (hRL x hxR))
    have hkW : W.heap[tb]? = some (.cells #[.int .i32 t.1, .int .i64 t.2] 30) := (hU.block tb (by omega) (by omega)).trans kt2
    have hsW : B ≤ W.heap.size := by have := hU.size; omega
    have n0' : W.cell? ⟨x.p, 0, none⟩ = some (.int .i32 x.k.1) := cell_at hxn
    have n1 : W.cell? ⟨x.p, 1, none⟩ = some (.int .i64 x.k.2) := cell_at hxn
    have n2 : W.cell? ⟨tb, 0, none⟩ = some (.int .i32 t.1) := cell_at hkW
    have n3 : W.cell? ⟨tb, 1, none⟩ = some (.int .i64 t.2) := cell_at hkW
    have HX := hide (And.intro hpre (And.intro hown (And.intro hU (And.intro hOk (And.intro hxn (And.intro hsW (And.intro hxb hpl)))))))
    have HBL := hide (below_any x.k.1 x.k.2 t.1 t.2)
    clear honR hlk0 hAp hm hlk h2 h1 i0 kl2 kt2 hit hpre hown hU hxR hxn hkW hOk hblt hRL hb2 hW2
    by_cases hlt : ltK x.k t
    · rw [show decide (ltK (x.k.1, x.k.2) (t.1, t.2)) = true from decide_eq_true hlt] at HBL
      gi_wp2
      refine wpIn_mono (Q := fun e a' w' => e = .normal ∧ a' = { tmps := #[PN sb, .agg #[.int .i32 k.1, .int .i64 k.2], .agg #[.int .i32 t.1, .int .i64 t.2], undef, PN fb, PN tb, .slice none 0 0, PN lb, PN x.p, PN sb, .agg #[.int .i32 k.1, .int .i64 k.2], It bx, PN x.p, PN x.p, PN x.p, PN x.p, PN x.p, .agg #[.int .i32 x.k.1, .int .i64 x.k.2], .agg #[.int .i32 t.1, .int .i64 t.2], .bool true, .bool false, undef, undef, undef, undef, undef, undef, undef, undef], defers := [] } ∧ Below W.heap.size W w') ?_ ?_
      · gi_region_with (first
          | (refine ⟨trivial, ?_⟩; refine (((callsIn_wide).2 (unhide HBL _)).inRound l).mono ?_; rintro e w1 ⟨rfl, hg⟩; have HG := hide hg; clear hg)
          | (refine ⟨fun _ h => (by cases h), ?_⟩))
        all_goals exact ⟨rfl, rfl, (Below.refl W.heap.size W).drew.trans (unhide HG).below⟩
      · rintro e a' w1 ⟨rfl, rfl, hb1⟩
        obtain ⟨hpre, hown, hU, hOk, hxn, hsW, hxb, hpl⟩ := unhide HX
        clear n0' n1 n2 n3 HBL
        have hxn1 : w1.heap[x.p]? = some (.cells (nodeC x (N x.p)) 85) := (hb1.block x.p (by omega)).trans hxn
        have hsz1 := hb1.size
        have hown1 : OwnBox lb B (pre.map cl) w1.drew := by obtain ⟨v, hv, ho⟩ := hown; exact ⟨v, (hb1.block lb (by omega)).trans hv, own_below ho hb1.drew⟩
        obtain ⟨v, v', W9, hv, ⟨a1, b1, c1, rfl⟩, ⟨a2, b2, c2, rfl⟩, hrun, how, hlb9, hU9⟩ := own_app hown1 (by show B ≤ w1.heap.size; omega) hlB (cl x) (by simpa using hpl)
        have m0 : w1.cell? ⟨x.p, 0, none⟩ = some (.int .i32 x.k.1) := cell_at hxn1
        have m1 : w1.cell? ⟨x.p, 1, none⟩ = some (.int .i64 x.k.2) := cell_at hxn1
        have m2 : w1.cell? ⟨x.p, 2, none⟩ = some (.int .i64 x.v) := cell_at hxn1
        have m3 : w1.cell? ⟨x.p, 3, none⟩ = some (.int .i64 x.s) := cell_at hxn1
        have l0 : w1.cell? ⟨lb, 0, none⟩ = some (.slice a1 b1 c1) := cell_at hv
        have l0' : ∀ o : Obj, (w1.alloc o).cell? ⟨lb, 0, none⟩ = some (.slice a1 b1 c1) := fun _ => cell_old l0
        have HW := hide (And.intro hb1 (And.intro how (And.intro hlb9 hU9)))
        have HRUN := hide hrun
        have l9 : W9.cell? ⟨lb, 0, none⟩ = some (.slice a1 b1 c1) := cell_at hlb9
        have f9 : W9.frozen? ⟨lb, 0, none⟩ = false := frozen_of_heap hlb9
        have HFIN : Hid (KeepsFrom W2.heap.size W (W9.setCell ⟨lb, 0, none⟩ (.slice a2 b2 c2)) ∧ Keepb (fun k => k < B ∧ k ≠ lb) W (W9.setCell ⟨lb, 0, none⟩ (.slice a2 b2 c2)) ∧ RgI lb B t W2 (pre ++ [x]) (W9.setCell ⟨lb, 0, none⟩ (.slice a2 b2 c2))) := by
          obtain ⟨s1, s2⟩ := rg_step hb1 hU9 hlB hsW (.slice a2 b2 c2)
          rw [hB]
          refine ⟨s1, ⟨s2.size, fun k hk => s2.block k hk.1 hk.2⟩, ⟨?_, .slice a2 b2 c2, box_set _ hlb9, ?_⟩, hU.trans s2⟩
          · intro m hm
            rcases List.mem_append.1 hm with hm | hm
            · exact hpre m hm
            · rw [List.mem_singleton.1 hm]; exact hlt
          · have := ownsRow_setCell_below how (a := ⟨lb, 0, none⟩) hlB (.slice a2 b2 c2)
            rw [List.map_append, List.length_append]
            exact this
        clear hpre hown hU hOk hxn hown1 hb1 how hlb9 hU9 hv hrun
        gi_wp2
        refine wpIn_region_any (by kernel_rfl) ?_
        try (change wpAnyIn _ _ _ _ _ _ _ _ _ (World.drew _))
        refine wpAnyIn_ready (rs := [0, 1]) (by kernel_rfl) (by simp) ?_
        refine AllReadyIn.cons rfl (fun K hK => ?_) (AllReadyIn.cons rfl (fun K hK => ?_) AllReadyIn.nil)
        · go_simp
          refine hK _ _ ?_
          clear hK
          refine wpAnyIn_ready (rs := [1]) (by kernel_rfl) (by simp) ?_
          refine AllReadyIn.cons rfl (fun K hK => ?_) AllReadyIn.nil
          go_simp
          refine hK _ _ ?_
          clear hK
          refine wpAnyIn_ready (rs := [2]) (by kernel_rfl) (by simp) ?_
          refine AllReadyIn.cons rfl (fun K hK => ?_) AllReadyIn.nil
          go_simp
          refine hK _ _ ?_
          clear hK
          refine wpAnyIn_ready (rs := [3]) (by kernel_rfl) (by simp) ?_
          refine AllReadyIn.cons rfl (fun K hK => ?_) AllReadyIn.nil
          go_simp
          refine hK _ _ ?_
          clear hK
          refine wpAnyIn_ready (rs := [4]) (by kernel_rfl) (by simp) ?_
          refine AllReadyIn.cons rfl (fun K hK => ?_) AllReadyIn.nil
          go_simp
          refine hK _ _ ?_
          clear hK
          refine wpAnyIn_ready (rs := [5]) (by kernel_rfl) (by simp) ?_
          refine AllReadyIn.cons rfl (fun K hK => ?_) AllReadyIn.nil
          go_simp
          refine hK _ _ ?_
          clear hK
          refine wpAnyIn_ready (rs := [6]) (by kernel_rfl) (by simp) ?_
          refine AllReadyIn.cons rfl (fun K hK => ?_) AllReadyIn.nil
          rw [if_pos (by rfl)]
          refine appendIn_upon rfl rfl rfl (unhide HRUN) ?_
          refine hK _ _ ?_
          clear hK
          refine wpAnyIn_ready (rs := [7]) (by kernel_rfl) (by simp) ?_
          refine AllReadyIn.cons rfl (fun K hK => ?_) AllReadyIn.nil
          go_simp
          refine hK _ _ ?_
          clear hK
          refine wpAnyIn_done (by kernel_rfl) ?_ _
          gi_wp2
          exact unhide HFIN
        · go_simp
          refine hK _ _ ?_
          clear hK
          refine wpAnyIn_ready (rs := [0, 2]) (by kernel_rfl) (by simp) ?_
          refine AllReadyIn.cons rfl (fun K hK => ?_) (AllReadyIn.cons rfl (fun K hK => ?_) AllReadyIn.nil)
          · go_simp
            refine hK _ _ ?_
            clear hK
            refine wpAnyIn_ready (rs := [2]) (by kernel_rfl) (by simp) ?_
            refine AllReadyIn.cons rfl (fun K hK => ?_) AllReadyIn.nil
            go_simp
            refine hK _ _ ?_
            clear hK
            refine wpAnyIn_ready (rs := [3]) (by kernel_rfl) (by simp) ?_
            refine AllReadyIn.cons rfl (fun K hK => ?_) AllReadyIn.nil
            go_simp
            refine hK _ _ ?_
            clear hK
            refine wpAnyIn_ready (rs := [4]) (by kernel_rfl) (by simp) ?_
            refine AllReadyIn.cons rfl (fun K hK => ?_) AllReadyIn.nil
            go_simp
            refine hK _ _ ?_
            clear hK
            refine wpAnyIn_ready (rs := [5]) (by kernel_rfl) (by simp) ?_
            refine AllReadyIn.cons rfl (fun K hK => ?_) AllReadyIn.nil
            go_simp
            refine hK _ _ ?_
            clear hK
            refine wpAnyIn_ready (rs := [6]) (by kernel_rfl) (by simp) ?_
            refine AllReadyIn.cons rfl (fun K hK => ?_) AllReadyIn.nil
            rw [if_pos (by rfl)]
            refine appendIn_upon rfl rfl rfl (unhide HRUN) ?_
            refine hK _ _ ?_
            clear hK
            refine wpAnyIn_ready (rs := [7]) (by kernel_rfl) (by simp) ?_
            refine AllReadyIn.cons rfl (fun K hK => ?_) AllReadyIn.nil
            go_simp
            refine hK _ _ ?_
            clear hK
            refine wpAnyIn_done (by kernel_rfl) ?_ _
            gi_wp2
            exact unhide HFIN
          · go_simp
            refine hK _ _ ?_
            clear hK
            refine wpAnyIn_ready (rs := [0, 3]) (by kernel_rfl) (by simp) ?_
            refine AllReadyIn.cons rfl (fun K hK => ?_) (AllReadyIn.cons rfl (fun K hK => ?_) AllReadyIn.nil)
            · go_simp
              refine hK _ _ ?_
              clear hK
              refine wpAnyIn_ready (rs := [3]) (by kernel_rfl) (by simp) ?_
              refine AllReadyIn.cons rfl (fun K hK => ?_) AllReadyIn.nil
              go_simp
              refine hK _ _ ?_
              clear hK
              refine wpAnyIn_ready (rs := [4]) (by kernel_rfl) (by simp) ?_
              refine AllReadyIn.cons rfl (fun K hK => ?_) AllReadyIn.nil
              go_simp
              refine hK _ _ ?_
              clear hK
              refine wpAnyIn_ready (rs := [5]) (by kernel_rfl) (by simp) ?_
              refine AllReadyIn.cons rfl (fun K hK => ?_) AllReadyIn.nil
              go_simp
              refine hK _ _ ?_
              clear hK
              refine wpAnyIn_ready (rs := [6]) (by kernel_rfl) (by simp) ?_
              refine AllReadyIn.cons rfl (fun K hK => ?_) AllReadyIn.nil
              rw [if_pos (by rfl)]
              refine appendIn_upon rfl rfl rfl (unhide HRUN) ?_
              refine hK _ _ ?_
              clear hK
              refine wpAnyIn_ready (rs := [7]) (by kernel_rfl) (by simp) ?_
              refine AllReadyIn.cons rfl (fun K hK => ?_) AllReadyIn.nil
              go_simp
              refine hK _ _ ?_
              clear hK
              refine wpAnyIn_done (by kernel_rfl) ?_ _
              gi_wp2
              exact unhide HFIN
            · go_simp
              refine hK _ _ ?_
              clear hK
              refine wpAnyIn_ready (rs := [0, 4]) (by kernel_rfl) (by simp) ?_
              refine AllReadyIn.cons rfl (fun K hK => ?_) (AllReadyIn.cons rfl (fun K hK => ?_) AllReadyIn.nil)
              · go_simp
                refine hK _ _ ?_
                clear hK
                refine wpAnyIn_ready (rs := [4]) (by kernel_rfl) (by simp) ?_
                refine AllReadyIn.cons rfl (fun K hK => ?_) AllReadyIn.nil
                go_simp
                refine hK _ _ ?_
                clear hK
                refine wpAnyIn_ready (rs := [5]) (by kernel_rfl) (by simp) ?_
                refine AllReadyIn.cons rfl (fun K hK => ?_) AllReadyIn.nil
                go_simp
                refine hK _ _ ?_
                clear hK
                refine wpAnyIn_ready (rs := [6]) (by kernel_rfl) (by simp) ?_
                refine AllReadyIn.cons rfl (fun K hK => ?_) AllReadyIn.nil
                rw [if_pos (by rfl)]
                refine appendIn_upon rfl rfl rfl (unhide HRUN) ?_
                refine hK _ _ ?_
                clear hK
                refine wpAnyIn_ready (rs := [7]) (by kernel_rfl) (by simp) ?_
                refine AllReadyIn.cons rfl (fun K hK => ?_) AllReadyIn.nil
                go_simp
                refine hK _ _ ?_
                clear hK
                refine wpAnyIn_done (by kernel_rfl) ?_ _
                gi_wp2
                exact unhide HFIN
              · go_simp
                refine hK _ _ ?_
                clear hK
                refine wpAnyIn_ready (rs := [0, 5]) (by kernel_rfl) (by simp) ?_
                refine AllReadyIn.cons rfl (fun K hK => ?_) (AllReadyIn.cons rfl (fun K hK => ?_) AllReadyIn.nil)
                · go_simp
                  refine hK _ _ ?_
                  clear hK
                  refine wpAnyIn_ready (rs := [5]) (by kernel_rfl) (by simp) ?_
                  refine AllReadyIn.cons rfl (fun K hK => ?_) AllReadyIn.nil
                  go_simp
                  refine hK _ _ ?_
                  clear hK
                  refine wpAnyIn_ready (rs := [6]) (by kernel_rfl) (by simp) ?_
                  refine AllReadyIn.cons rfl (fun K hK => ?_) AllReadyIn.nil
                  rw [if_pos (by rfl)]
                  refine appendIn_upon rfl rfl rfl (unhide HRUN) ?_
                  refine hK _ _ ?_
                  clear hK
                  refine wpAnyIn_ready (rs := [7]) (by kernel_rfl) (by simp) ?_
                  refine AllReadyIn.cons rfl (fun K hK => ?_) AllReadyIn.nil
                  go_simp
                  refine hK _ _ ?_
                  clear hK
                  refine wpAnyIn_done (by kernel_rfl) ?_ _
                  gi_wp2
                  exact unhide HFIN
                · go_simp
                  refine hK _ _ ?_
                  clear hK
                  refine wpAnyIn_ready (rs := [0]) (by kernel_rfl) (by simp) ?_
                  refine AllReadyIn.cons rfl (fun K hK => ?_) AllReadyIn.nil
                  go_simp
                  refine hK _ _ ?_
                  clear hK
                  refine wpAnyIn_ready (rs := [6]) (by kernel_rfl) (by simp) ?_
                  refine AllReadyIn.cons rfl (fun K hK => ?_) AllReadyIn.nil
                  rw [if_pos (by rfl)]
                  refine appendIn_upon rfl rfl rfl (unhide HRUN) ?_
                  refine hK _ _ ?_
                  clear hK
                  refine wpAnyIn_ready (rs := [7]) (by kernel_rfl) (by simp) ?_
                  refine AllReadyIn.cons rfl (fun K hK => ?_) AllReadyIn.nil
                  go_simp
                  refine hK _ _ ?_
                  clear hK
                  refine wpAnyIn_done (by kernel_rfl) ?_ _
                  gi_wp2
                  exact unhide HFIN
    · rw [show decide (ltK (x.k.1, x.k.2) (t.1, t.2)) = false from decide_eq_false hlt] at HBL
      gi_wp2
      gi_region_with (first
        | (refine ⟨trivial, ?_⟩; refine (((callsIn_wide).2 (unhide HBL _)).inRound l).mono ?_; rintro e w1 ⟨rfl, hg⟩; have HG := hide hg; clear hg)
        | (refine ⟨fun _ h => (by cases h), ?_⟩))
      all_goals
        have hb1 : Hid (Below W.heap.size W w1) := (Below.refl W.heap.size W).drew.trans (unhide HG).below
        clear n0' n1 n2 n3 HG
        gi_wp2
        obtain ⟨hpre, hown, hU, hOk, hxn, hsW, hxb, hpl⟩ := unhide HX
        have hU' : Upd (fun k => k = lb) W.heap.size W w1 := Upd.of (unhide hb1)
        obtain ⟨v, hv, ho⟩ := hown
        exact ⟨keepsFrom_upd hU' (by omega), pre, x, ⟨⟨⟨rfl, rfl⟩, hpre, hlt, hOk⟩, v, ((unhide hb1).block lb (by omega)).trans hv, own_below ho (unhide hb1)⟩, hU.trans (hU'.less hsW)⟩
  case done =>
    intro D xs W hD hxs hI hK
    rw [honR] at hxs
    subst hxs
    obtain ⟨⟨hpre, v, hv, ho⟩, hU⟩ := hI
    have hlo : lo t xs = xs := List.filter_eq_self.2 fun m hm' => by simpa using hpre m hm'
    rw [List.length_map] at ho
    replace ho : W.ownsRow B 32 4 v (lo t xs).length (((lo t xs).map cl).flatMap pC) := by rw [hlo]; exact ho
    clear hlo
    have c0 : W.cell? ⟨lb, 0, none⟩ = some v := cell_at hv
    obtain ⟨ao, cap, rfl⟩ := own_shape ho
    have HM : Hid (Marks [{ target := .collected D, args := #[] }] W) := (Marks.nil W).cons hK (fun c => by cases c)
    have HO := hide ho
    have HU := hide hU
    have HW2 := hide hW2
    have hDB : B ≤ D := by rw [← hB]; exact hD
    clear honR hlk0 hAp hm hlk h2 h1 i0 kl2 kt2 hit hv ho hU hK hblt hRL hW2 hb2
    gi_wp2
    refine leave_marks (w := W) (unhide HM) fun w' hw => ?_
    have hsU := (unhide HU).size
    refine ⟨_, by simp [results, Tryd.results27, go_sem], _, rfl, own_mono (own_mark (unhide HO) (unhide HM) hw) (by omega), (unhide HW2).trans ?_⟩
    refine ⟨hw.os.trans (unhide HU).os, hw.tape.trans (unhide HU).tape, hw.output.trans (unhide HU).output, Nat.le_trans (unhide HU).size hw.size, fun k hk => (hw.block k (by omega) fun c => ?_).trans ((unhide HU).block k (by omega) (by omega))⟩
    rcases List.mem_cons.1 c with e | e
    · simp only [Deferred.mk.injEq, Target.collected.injEq, and_true] at e; omega
    · cases e
  case stop =>
    intro D cd pre W hD hX hK
    obtain ⟨p, x, ⟨⟨⟨rfl, rfl⟩, hpre, hx, hOk⟩, v, hv, ho⟩, hU⟩ := hX
    have hrise : Rising R := by have := h2.rise; rw [hAB] at this; exact (List.pairwise_append.1 this).2.1
    have hlo : lo t R = p := by
      obtain ⟨r, e⟩ := hOk
      have e2 := hrise.split t
      rw [e2] at e
      exact (same_cut (p := fun n : Nd => ltK n.k t) e (fun n hn => (lo_below hn).2) (fun n hn => (hi_above hn).2) hpre hx).symm
    rw [List.length_map] at ho
    subst hlo
    have c0 : W.cell? ⟨lb, 0, none⟩ = some v := cell_at hv
    obtain ⟨ao, cap, rfl⟩ := own_shape ho
    have HM : Hid (Marks [{ target := .collected D, args := #[] }] W) := (Marks.nil W).cons hK (fun c => by cases c)
    have HO := hide ho
    have HU := hide hU
    have HW2 := hide hW2
    have hDB : B ≤ D := by rw [← hB]; exact hD
    clear hrise hx hpre hOk honR hlk0 hAp hm hlk h2 h1 i0 kl2 kt2 hit hv ho hU hK hblt hRL hW2 hb2
    gi_wp2
    refine leave_marks (w := W) (unhide HM) fun w' hw => ?_
    have hsU := (unhide HU).size
    refine ⟨_, by simp [results, Tryd.results27, go_sem], _, rfl, own_mono (own_mark (unhide HO) (unhide HM) hw) (by omega), (unhide HW2).trans ?_⟩
    refine ⟨hw.os.trans (unhide HU).os, hw.tape.trans (unhide HU).tape, hw.output.trans (unhide HU).output, Nat.le_trans (unhide HU).size hw.size, fun k hk => (hw.block k (by omega) fun c => ?_).trans ((unhide HU).block k (by omega) (by omega))⟩
    rcases List.mem_cons.1 c with e | e
    · simp only [Deferred.mk.injEq, Target.collected.injEq, and_true] at e; omega
    · cases e
end Go.Proofs.YtdcmkapfcmibeaaDoor
