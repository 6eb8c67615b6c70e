/- Pairs told: a range over Order. -/
import Derived.Test.YtibjhjkeflbghaaKJ
namespace Go.Proofs.Ytibjhjkeflbghaa
open Go.RowKit Go.Shelf
attribute [local go_sem] Oper.semAt_some
set_option maxRecDepth 100000

/-- Nothing has turned but what S says. -/
structure UpdM (S : Nat → Prop) (w w' : World) : Prop where
  os : w'.os = w.os
  tape : w'.tape = w.tape
  output : w'.output = w.output
  size : w.heap.size ≤ w'.heap.size
  block : ∀ k, k < w.heap.size → ¬ S k → w'.heap[k]? = w.heap[k]?
/-- The marks that ranges have left behind. -/
structure Marks (ds : List Deferred) (w : World) : Prop where
  all : ∀ d ∈ ds, ∃ D, d = { target := .collected D, args := #[] } ∧ w.heap[D]? = some (.deferred (some []))
  nodup : ds.Nodup
def isMark (ds : List Deferred) (k : Nat) : Prop := { target := .collected k, args := #[] } ∈ ds
theorem leave_marks {F : Fence} {n : Nat} {P : Program} {fn : Func} {tmps : Array Value} {R : Ending → World → Prop} {ds : List Deferred} {w : World} (h : Marks ds w)
    (hf : ∀ w', UpdM (isMark ds) w w' → LeavesInM F n P fn tmps R [] .returning w') : LeavesInM F n P fn tmps R ds .returning w := by
  induction ds generalizing w with
  | nil => exact hf w ⟨rfl, rfl, rfl, Nat.le_refl _, fun _ _ _ => rfl⟩
  | cons d ds ih =>
    obtain ⟨D, rfl, hD⟩ := h.all d List.mem_cons_self
    have hl := (Array.getElem?_eq_some_iff.1 hD).1
    refine ⟨by simp, .inl ⟨D, _, rfl, run_takeDeferred hD, ih ⟨fun e he => ?_, (List.nodup_cons.1 h.nodup).2⟩ fun w' hw => hf w' ?_⟩⟩
    · obtain ⟨D', rfl, hD'⟩ := h.all e (List.mem_cons_of_mem _ he)
      refine ⟨D', rfl, (World.putObj_heap_other ?_).trans hD'⟩
      rintro rfl
      exact (List.nodup_cons.1 h.nodup).1 he
    · refine ⟨hw.os, hw.tape, hw.output, ?_, fun k hk hn => ?_⟩
      · have := hw.size
        simpa [World.putObj] using this
      · refine (hw.block k (by simpa [World.putObj] using hk) fun c => hn (List.mem_cons_of_mem _ c)).trans (World.putObj_heap_other ?_)
        rintro rfl
        exact hn List.mem_cons_self
theorem Try.u75 : Try.prog.underlying 75 = some (.array 2 3) := by kernel_rfl
theorem eq_pp (d : Nat) (x0 x1 y0 y1 : Int) (w : World) : (Op.equalIn (d + 2) 75 (.agg #[.int .i64 x0, .int .i64 x1]) (.agg #[.int .i64 y0, .int .i64 y1])).run Try.prog w = .ok ((x0 == y0) && (x1 == y1)) w := by
  obtain ⟨i, hi, _⟩ := info_parts Try.info3
  have hc : Try.prog.cellsOf 3 = 1 := by kernel_rfl
  rw [show d + 2 = (d + 1) + 1 from rfl, run_equalIn_array w (d + 1) _ _ Try.u75 hi, hc]
  have hr : List.range 2 = [0, 1] := rfl
  rw [hr]
  by_cases h1 : x0 = y0 <;> by_cases h2 : x1 = y1 <;> simp [Op.eqItems, part, go_sem, h1, h2]
theorem neq_pp (x0 x1 : Int) (w : World) : (binOp .neq 75 (.agg #[.int .i64 x0, .int .i64 x1]) (.agg #[.int .i64 x0, .int .i64 x1])).run Try.prog w = .ok (.bool false) w := by
  rw [run_neq_struct, show (10000 : Nat) = 9998 + 2 from rfl, eq_pp]
  simp [Result.andThen]
abbrev PN (p : Nat) : Value := .pointer (some ⟨p, 0, none⟩)
/-- Where the telling stands. -/
structure TeI (n0 : Nat) (w : World) (wv : Value) (stop : Int) (pre : List Pp) (W : World) : Prop where
  k0 : W.heap[n0]? = some (.cells #[wv] 47)
  k1 : W.heap[n0 + 1]? = some (.cells #[.int .i64 stop] 3)
  k2 : W.heap[n0 + 1 + 1]? = some (.cells #[.bool false] 4)
  k3 : W.heap[n0 + 1 + 1 + 1]? = some (.cells #[.int .i64 (pre.length : Nat)] 3)
  b : Below n0 w W

theorem p_facts {p wn : Nat} (h : p < wn) (h2 : wn ≤ 1600) : wrap64 ((p : Int) + 1) = (p : Int) + 1 ∧ IntKind.i64.wrap ((p : Int) + 1) = (p : Int) + 1 ∧ decide ((p : Int) ≥ (wn : Int)) = false ∧ decide ((wn : Int) ≤ (p : Int)) = false ∧ (p : Int) < (wn : Int) :=
  ⟨by unfold wrap64; omega, by rw [IntKind.wrap_i64]; omega, decide_eq_false (by omega), decide_eq_false (by omega), by omega⟩

set_option maxHeartbeats 3200000 in
theorem tells_any {w : World} {B0 g m : Nat} {L : List Tx} {rows : List Value} {wa : Option Addr} {wn wc : Nat} (stop : Int) (hW : Wants B0 w g m L rows) (hsee : SeesL qC 2 w (.slice wa wn wc) (ordP L m)) (hm : L.length = m) (hm40 : m ≤ 40)
    (hok : ∀ i, i < m → ∀ y ∈ lkX (L.getD i default), OkK y.1) (hlen : ∀ i, i < m → (lkX (L.getD i default)).length ≤ 4398046511104) :
    Calls Try.prog 23 #[.func (.func 45) #[] #[PN (g + 1)], .slice wa wn wc, .int .i64 stop] w fun e w' => e = .returned (.bool true) ∧ Below w.heap.size w w' := by
  obtain ⟨n0, hn0⟩ : ∃ x, w.heap.size = x := ⟨_, rfl⟩
  obtain ⟨W1, hW1⟩ : ∃ W, ((((w.alloc (.cells #[.slice wa wn wc] 47)).alloc (.cells #[.int .i64 stop] 3)).alloc (.cells #[.bool false] 4)).alloc (.cells #[.int .i64 0] 3)) = W := ⟨_, rfl⟩
  have hb : Below n0 w W1 := by rw [← hW1, ← hn0]; exact (((((Below.refl _ _).alloc (Nat.le_refl _) _).alloc (by simp) _).alloc (by simp; omega) _).alloc (by simp; omega) _)
  have hs1 : W1.heap.size = n0 + 4 := by rw [← hW1, ← hn0]; simp
  have k0 : W1.heap[n0]? = some (.cells #[.slice wa wn wc] 47) := by rw [← hW1]; rw [Below.heap_alloc _ _ _ (by simp; omega)]; rw [Below.heap_alloc _ _ _ (by simp; omega)]; rw [Below.heap_alloc _ _ _ (by simp; omega)]; have := World.alloc_heap_new (w) (.cells #[.slice wa wn wc] 47); rw [hn0] at this; exact this
  have k1 : W1.heap[n0 + 1]? = some (.cells #[.int .i64 stop] 3) := by rw [← hW1]; rw [Below.heap_alloc _ _ _ (by simp; omega)]; rw [Below.heap_alloc _ _ _ (by simp; omega)]; have := World.alloc_heap_new ((w.alloc (.cells #[.slice wa wn wc] 47))) (.cells #[.int .i64 stop] 3); rw [World.size_alloc] at this; rw [hn0] at this; exact this
  have k2 : W1.heap[n0 + 1 + 1]? = some (.cells #[.bool false] 4) := by rw [← hW1]; rw [Below.heap_alloc _ _ _ (by simp; omega)]; have := World.alloc_heap_new (((w.alloc (.cells #[.slice wa wn wc] 47)).alloc (.cells #[.int .i64 stop] 3))) (.cells #[.bool false] 4); rw [World.size_alloc, World.size_alloc] at this; rw [hn0] at this; exact this
  have k3 : W1.heap[n0 + 1 + 1 + 1]? = some (.cells #[.int .i64 0] 3) := by rw [← hW1]; have := World.alloc_heap_new ((((w.alloc (.cells #[.slice wa wn wc] 47)).alloc (.cells #[.int .i64 stop] 3)).alloc (.cells #[.bool false] 4))) (.cells #[.int .i64 0] 3); rw [World.size_alloc, World.size_alloc, World.size_alloc] at this; rw [hn0] at this; exact this
  have hgb : g + 1 < n0 := by rw [← hn0]; exact (Array.getElem?_eq_some_iff.1 hW.box).1
  have hseq := order_seq (b := fun k => k = n0 + 1 + 1 ∨ k = n0 + 1 + 1 + 1 ∨ k = n0 + 5) (b3 := g + 1) (m := m) (L := L) (w := W1) (some ⟨g, 0, none⟩) m (fun i => rows.getD i undef) hm hm40 (fun k hk => by omega)
    (fun z hz => cell_at ((hz.block _ (by omega) (by omega)).trans ((hb.block _ hgb).trans hW.box)))
    (fun z hz i hi => ⟨g, 0, rfl, by
      have hr := (hz.block g (by omega) (by omega)).trans ((hb.block g (by omega)).trans hW.row)
      rw [Nat.zero_add, cell_at hr]
      have := hW.len
      simp [List.getD, show i < rows.length by omega], by
      have h1 := (own_sees lC_len (by decide) (hW.own i hi)).2
      refine h1.keep lC_len fun p x hp => ?_
      have hlt := World.block_lt_of_cell? w p hp
      have e : z.heap[p.block]? = w.heap[p.block]? := (hz.block _ (by omega) (by omega)).trans (hb.block _ (by omega))
      have : z.cell? p = w.cell? p := by unfold World.cell?; rw [e]
      rw [this]; exact hp⟩) hok hlen (3 - 1)
  have HSEE : Hid (∀ z, Below n0 w z → SeesL qC 2 z (.slice wa wn wc) (ordP L m)) := fun z hz => hsee.below qC_len (hn0.symm ▸ hz)
  obtain ⟨_, hcl⟩ : True ∧ (ordP L m).length = wn := ⟨trivial, by obtain ⟨_, _, _, _, e, _⟩ := hsee; simp only [Value.slice.injEq] at e; exact e.2.1.symm⟩
  have HWN : Hid (wn ≤ 1600) := by have := ordP_len L m hm40; show wn ≤ 1600; omega
  have i0 : TeI n0 w (.slice wa wn wc) stop [] W1 := ⟨k0, k1, k2, k3, hb⟩
  rw [hn0]
  clear hW hsee hok hlen k0 k1 k2 k3
  refine (callsIn_wide (n := 3)).1 ?_
  refine callsIn_of_wp_marks Try.func23 rfl trivial ?_ rfl
  simp only [Try.ntmps23, List.size_toArray, List.length_cons, List.length_nil, Nat.reduceAdd, Nat.reduceSub, Array.replicate_succ, Array.replicate_zero, List.push_toArray, List.append_toArray, List.nil_append, List.cons_append]
  have HSQ := hide hseq
  have H1 := hide (And.intro i0 (And.intro hb hs1))
  have HCL := hide hcl
  have HW1 := hide hW1
  have HN0 := hide hn0
  clear hseq i0 hb hs1 hW1 hcl hn0
  gi_wp2
  try rw [unhide HN0]
  rw [unhide HW1]
  obtain ⟨i0, hb, hs1⟩ := unhide H1
  refine wpIn_range_b rfl (by decide) (gf := 45) (lb := #[PN (g + 1)]) rfl trivial (enters_of Try.func45 (by kernel_rfl) rfl) (unhide HSQ)
    (fun h k => h.trans k) (fun W o o' hl ho => ⟨by simp [World.putObj], fun k hk hnb => World.putObj_heap_other (by omega)⟩) (fun _ => by rfl)
    (TeI n0 w (.slice wa wn wc) stop) (fun c _ W => c = .ret ∧ W.heap[n0 + 1 + 1]? = some (.cells #[.bool true] 4) ∧ Below n0 w W)
    (fun s A C hi hbe => ⟨(hbe.block _ (by omega)).trans hi.k0, (hbe.block _ (by omega)).trans hi.k1, (hbe.block _ (by omega)).trans hi.k2, (hbe.block _ (by omega)).trans hi.k3, hi.b.trans (hbe.mono (by omega))⟩)
    (fun c s A C hi hbe => ⟨hi.1, (hbe.block _ (by omega)).trans hi.2.1, hi.2.2.trans (hbe.mono (by omega))⟩) i0
    (fun x => { tmps := #[.func (.func 45) #[] #[PN (g + 1)], .slice wa wn wc, .int .i64 stop, undef, PN n0, PN (n0 + 1), PN (n0 + 1 + 1), PN (n0 + 1 + 1 + 1), .int .i64 x.1, .int .i64 x.2, .func (.func 45) #[] #[PN (g + 1)], .int .i64 x.1, .int .i64 x.2, undef, undef, undef, undef, undef, undef, undef, undef, undef, undef, undef, undef, undef, undef, undef, undef, undef, undef, undef, undef, undef, undef, undef], defers := [] }) ?assign ?body ?done ?stop
  case assign =>
    intro l x W K hK
    unfold encP
    clear i0 hb hs1
    gi_wp2
    exact hK
  case body =>
    intro l pre x W hI hOk
    obtain ⟨k0, k1, k2, k3, hBW⟩ := hI
    obtain ⟨r, hr⟩ := hOk
    obtain ⟨p, hp⟩ : ∃ p, pre.length = p := ⟨_, rfl⟩
    have hlen := congrArg List.length hr
    rw [List.length_append, List.length_cons, unhide HCL, hp] at hlen
    have hx : (ordP L m).getD p default = x := by rw [← hr, ← hp]; simp [List.getD]
    obtain ⟨ao, cap, gq, oq, hv, hao, hcl⟩ := SeesL.at ((unhide HSEE) W hBW)
    simp only [Value.slice.injEq] at hv
    obtain ⟨rfl, hwl, rfl⟩ := hv
    have hpw2 : p < wn := by omega
    have hpl : p < (ordP L m).length := by rw [unhide HCL]; omega
    obtain rfl := hao (by omega)
    obtain ⟨x1, x2⟩ := x
    have q0 : W.cell? ⟨gq, oq + p * 2, none⟩ = some (.int .i64 x1) := by have h := hcl p hpl 0 (by decide); rw [hx] at h; simpa [qC] using h
    have q1 : W.cell? ⟨gq, oq + p * 2 + 1, none⟩ = some (.int .i64 x2) := by have h := hcl p hpl 1 (by decide); rw [hx] at h; simpa [qC] using h
    have hwn0 := unhide HWN
    clear hwl hlen hpl hao hcl hx hr
    rw [hp] at k3
    have c0 : W.cell? ⟨n0, 0, none⟩ = some (.slice (some ⟨gq, oq, none⟩) wn wc) := cell_at k0
    have c1 : W.cell? ⟨n0 + 1 + 1 + 1, 0, none⟩ = some (.int .i64 (p : Int)) := cell_at k3
    have f1 : W.frozen? ⟨n0 + 1 + 1 + 1, 0, none⟩ = false := frozen_of_heap k3
    obtain ⟨W5, hW5⟩ : ∃ z, W.setCell ⟨n0 + 1 + 1 + 1, 0, none⟩ (.int .i64 ((p : Int) + 1)) = z := ⟨_, rfl⟩
    have far : ∀ j, j ≠ n0 + 1 + 1 + 1 → W5.heap[j]? = W.heap[j]? := fun j hj => hW5 ▸ setCell_far hj
    have sz5 : W5.heap.size = W.heap.size := by rw [← hW5]; simp [World.setCell]
    have e0 := (far n0 (by omega)).trans k0
    have e1 := (far (n0 + 1) (by omega)).trans k1
    have e2 := (far (n0 + 1 + 1) (by omega)).trans k2
    have e3 : W5.heap[n0 + 1 + 1 + 1]? = some (.cells #[.int .i64 (((pre ++ [(x1, x2)]).length : Nat) : Int)] 3) := by
      rw [← hW5, heap_setCell_same W _ _ _ _ _ k3, List.length_append, hp]
      simp
    have b5 : Below n0 W W5 := hW5 ▸ (Below.refl _ _).setCell (by show n0 ≤ n0 + 1 + 1 + 1; omega) _
    have hBW5 : Below n0 w W5 := hBW.trans b5
    have g1 : W5.cell? ⟨n0 + 1 + 1 + 1, 0, none⟩ = some (.int .i64 ((p : Int) + 1)) := by rw [← hW5]; exact cell_at (heap_setCell_same W _ _ _ _ _ k3)
    have g2 : W5.cell? ⟨n0 + 1, 0, none⟩ = some (.int .i64 stop) := cell_at e1
    have g3 : W5.cell? ⟨n0 + 1 + 1, 0, none⟩ = some (.bool false) := cell_at e2
    have g4 : W5.frozen? ⟨n0 + 1 + 1, 0, none⟩ = false := frozen_of_heap e2
    obtain ⟨hwr, hwr2, hd1, hd2, hpw⟩ := p_facts hpw2 hwn0
    have hne := neq_pp x1 x2
    have HFIN : Hid (KeepsFrom W1.heap.size W W5 ∧ KeepN (fun k => k = n0 + 1 + 1 ∨ k = n0 + 1 + 1 + 1 ∨ k = n0 + 5) W W5 ∧ TeI n0 w (.slice (some ⟨gq, oq, none⟩) wn wc) stop (pre ++ [(x1, x2)]) W5) :=
      ⟨⟨by omega, fun k o hk ho _ => (far k (by omega)).trans ho⟩, ⟨by omega, fun k hk hnb => far k (by omega)⟩, ⟨e0, e1, e2, e3, hBW5⟩⟩
    have HRET : Hid (KeepsFrom W1.heap.size W (W5.setCell ⟨n0 + 1 + 1, 0, none⟩ (.bool true)) ∧ (W5.setCell ⟨n0 + 1 + 1, 0, none⟩ (.bool true)).heap[n0 + 1 + 1]? = some (.cells #[.bool true] 4) ∧ Below n0 w (W5.setCell ⟨n0 + 1 + 1, 0, none⟩ (.bool true))) :=
      ⟨⟨by simp [World.setCell]; omega, fun k o hk ho _ => (setCell_far (by omega)).trans ((far k (by omega)).trans ho)⟩, by rw [heap_setCell_same W5 _ _ _ _ _ e2]; rfl, hBW5.setCell (by show n0 ≤ n0 + 1 + 1; omega) _⟩
    have HW5 := hide hW5
    by_cases hst : (p : Int) + 1 = stop
    · have hq : ((p : Int) + 1 == stop) = true := by simpa using hst
      clear hst k0 k1 k2 k3 hBW far sz5 e0 e1 e2 e3 b5 hBW5 hW5 i0 hb hs1 hp
      gi_wp2_with (rw [unhide HW5])
      exact ⟨(unhide HRET).1, rfl, (unhide HRET).2.1, (unhide HRET).2.2⟩
    · have hq : ((p : Int) + 1 == stop) = false := by simpa using hst
      clear hst k0 k1 k2 k3 hBW far sz5 e0 e1 e2 e3 b5 hBW5 hW5 i0 hb hs1 hp
      gi_wp2_with (rw [unhide HW5])
      exact unhide HFIN
  case stop =>
    intro D c pre W hD hX hK
    obtain ⟨rfl, k2, hBW⟩ := hX
    have hD' : n0 + 4 ≤ D := by omega
    have hMk : Marks [{ target := .collected D, args := #[] }] W := ⟨fun d hd => by rw [List.mem_singleton] at hd; exact ⟨D, hd, hK⟩, by simp⟩
    have HB := hide (And.intro hBW (And.intro k2 hMk))
    clear hK hD hBW k2 hMk i0 hb hs1
    gi_wp2
    obtain ⟨hBW, k2, hMk⟩ := unhide HB
    refine leave_marks (w := W) hMk fun w' hw => ?_
    have hdm : ∀ k, isMark [{ target := .collected D, args := #[] }] k → n0 + 4 ≤ k := fun k c => by
      rcases List.mem_cons.1 c with e | e
      · simp only [Deferred.mk.injEq, Target.collected.injEq, and_true] at e; omega
      · cases e
    have hl2 := (Array.getElem?_eq_some_iff.1 k2).1
    have hc9 : w'.cell? ⟨n0 + 1 + 1, 0, none⟩ = some (.bool true) := cell_at ((hw.block (n0 + 1 + 1) hl2 fun c => by have := hdm _ c; omega).trans k2)
    exact ⟨.bool true, by simp [PN, results, Try.results23, go_sem, hc9], rfl, hBW.trans ⟨hw.os, hw.tape, hw.output, hw.size, fun k hk => hw.block k (by omega) fun c => by have := hdm k c; omega⟩⟩
  case done =>
    intro D xs W hD hxs hI hK
    obtain ⟨k0, k1, k2, k3, hBW⟩ := hI
    rw [hxs, unhide HCL] at k3
    have c0 : W.cell? ⟨n0, 0, none⟩ = some (.slice wa wn wc) := cell_at k0
    have c1 : W.cell? ⟨n0 + 1 + 1 + 1, 0, none⟩ = some (.int .i64 (wn : Int)) := cell_at k3
    have c2 : W.cell? ⟨n0 + 1 + 1, 0, none⟩ = some (.bool false) := cell_at k2
    have f2 : W.frozen? ⟨n0 + 1 + 1, 0, none⟩ = false := frozen_of_heap k2
    have hD' : n0 + 4 ≤ D := by omega
    have hMk : Marks [{ target := .collected D, args := #[] }] (W.setCell ⟨n0 + 1 + 1, 0, none⟩ (.bool true)) := ⟨fun d hd => by rw [List.mem_singleton] at hd; exact ⟨D, hd, (setCell_far (by omega)).trans hK⟩, by simp⟩
    have heq : ((wn : Int) == (wn : Int)) = true := beq_self_eq_true _
    have HB := hide (And.intro hBW (And.intro k2 hMk))
    clear hK hxs hD hBW k0 k1 k2 k3 hMk i0 hb hs1
    gi_wp2
    obtain ⟨hBW, k2, hMk⟩ := unhide HB
    have hr9 : (W.setCell ⟨n0 + 1 + 1, 0, none⟩ (.bool true)).heap[n0 + 1 + 1]? = some (.cells #[.bool true] 4) := by rw [heap_setCell_same W _ _ _ _ _ k2]; rfl
    refine leave_marks (w := W.setCell ⟨n0 + 1 + 1, 0, none⟩ (.bool true)) hMk fun w' hw => ?_
    have hdm : ∀ k, isMark [{ target := .collected D, args := #[] }] k → n0 + 4 ≤ k := fun k c => by
      rcases List.mem_cons.1 c with e | e
      · simp only [Deferred.mk.injEq, Target.collected.injEq, and_true] at e; omega
      · cases e
    have hl2 := (Array.getElem?_eq_some_iff.1 hr9).1
    have hc9 : w'.cell? ⟨n0 + 1 + 1, 0, none⟩ = some (.bool true) := cell_at ((hw.block (n0 + 1 + 1) hl2 fun c => by have := hdm _ c; omega).trans hr9)
    have sz : (W.setCell ⟨n0 + 1 + 1, 0, none⟩ (.bool true)).heap.size = W.heap.size := by simp [World.setCell]
    exact ⟨.bool true, by simp [PN, results, Try.results23, go_sem, hc9], rfl, (hBW.setCell (p := ⟨n0 + 1 + 1, 0, none⟩) (by show n0 ≤ n0 + 1 + 1; omega) _).trans ⟨hw.os, hw.tape, hw.output, hw.size, fun k hk => hw.block k (by omega) fun c => by have := hdm k c; omega⟩⟩
end Go.Proofs.Ytibjhjkeflbghaa
