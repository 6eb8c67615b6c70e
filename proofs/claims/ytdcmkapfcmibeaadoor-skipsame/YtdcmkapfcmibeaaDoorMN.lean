/- slices.Collect, slices.Contains of keys; Steps. -/
import Derived.Test.YtdcmkapfcmibeaaDoorMM
namespace Go.Proofs.YtdcmkapfcmibeaaDoor
open Go.RowKit Go.Shelf
attribute [local go_sem] Oper.semAt_some
set_option maxRecDepth 100000

theorem wpListIn_append_run {F : Fence} {m : Nat} {P : Program} {w w' : World} {ops : Array Oper} {rest : List Oper} {o : Oper} {a : Act} {Q : Exit → Act → World → Prop} {s x : Operand} {t : TypeId} {v sv v' : Value} (hgd : o.guard = none)
    (ho : o.op = .call { callee := .builtin .append, args := #[s, x], argTypes := #[t, t] }) (hs : a.eval s = v) (hx : a.eval x = sv) (hr : (Builtin.append_ #[t, t] o.type #[v, sv]).run P w = .ok v' w') (h : wpListIn F m P ops Q rest (a.put o.dst v') w') : wpListIn F m P ops Q (o :: rest) a w :=
  wpListIn_plain hgd fun _ hK' => appendIn_upon ho hs hx hr (hK' _ _ h)
theorem rg_step2 {W W9 : World} {lb B : Nat} (hU9 : Upd (fun k => B ≤ k ∧ ∃ cs T m, W.heap[k]? = some (.cells cs T m)) W.heap.size W W9) (hlB : lb < B) (hB : B ≤ W.heap.size) (v : Value) :
    KeepsFrom B W (W9.setCell ⟨lb, 0, none⟩ v) ∧ Upd (fun k => k = lb) B W (W9.setCell ⟨lb, 0, none⟩ v) := by
  have hU : Upd (fun k => B ≤ k ∧ ∃ cs T m, W.drew.heap[k]? = some (.cells cs T m)) W.drew.heap.size W.drew W9 := ⟨hU9.os, hU9.tape, hU9.output, hU9.size, hU9.block⟩
  exact rg_step (Below.refl _ _) hU hlB hB v

set_option maxHeartbeats 2000000 in
theorem appendSeq_any {w : World} {v : Value} {l : List Ky} (h : VkAt w v l) (hl : l.length ≤ 1048576) :
    Calls Tryd.prog 59 #[.slice none 0 0, v] w fun e w' => ∃ u, e = .returned u ∧ SeesL kC 2 w' u l ∧ Below w.heap.size w w' := by
  obtain ⟨bx, u0, rfl, hc, hs⟩ := h
  obtain ⟨gb, hgb, hseq⟩ := vk_seq (3 - 1) bx l w u0 hc hs (by omega)
  obtain ⟨n0, hn0⟩ : ∃ x, w.heap.size = x := ⟨_, rfl⟩
  obtain ⟨W1, hW1⟩ : ∃ W, w.alloc (.cells #[.slice none 0 0] 55) = W := ⟨_, rfl⟩
  have hb : Below n0 w W1 := by rw [← hW1, ← hn0]; exact (Below.refl _ _).alloc (Nat.le_refl _) _
  have hs1 : W1.heap.size = n0 + 1 := by rw [← hW1, ← hn0]; simp
  have kl : W1.heap[n0]? = some (.cells #[.slice none 0 0] 55) := by rw [← hW1, ← hn0]; exact heap_new1 _ _
  rw [hn0] at hgb ⊢
  refine (callsIn_wide (n := 3)).1 ?_
  refine callsIn_of_wp_marks Tryd.func59 rfl trivial ?_ rfl
  simp only [Tryd.ntmps59, List.size_toArray, List.length_cons, List.length_nil, Nat.reduceAdd, Nat.reduceSub, Array.replicate_succ, Array.replicate_zero, List.push_toArray, List.append_toArray, List.nil_append, List.cons_append]
  have HW1 := hide hW1
  clear hW1 hc hs
  gi_wp2
  try rw [hn0]
  rw [unhide HW1]
  clear HW1
  obtain ⟨B, hB⟩ : ∃ B, n0 + 1 = B := ⟨_, rfl⟩
  refine wpIn_range_as rfl (by decide) (gf := 78) (lb := #[PN bx]) rfl trivial (enters_of Tryd.func78 (by kernel_rfl) rfl) hseq
    keepb_t (fun W o o' => keepb_put (fun c => by have : W1.heap.size + 1 = gb := c; omega) W o o') (by rw [hn0]; exact hb) (fun _ => by rfl)
    (fun pre W => OwnBoxK n0 B pre W ∧ Upd (fun k => k = n0) B W1 W) (fun _ _ _ => False)
    (by rw [hs1, hB]; exact OwnFrom.and (own_fromK B n0 B _ (by omega)) (ownFrom_upd (by omega)))
    (fun _ => ownFrom_pure _ _) ⟨⟨_, kl, own_nil _ _ _ _⟩, Upd.refl _ _ _⟩
    (fun x W => W.alloc (.cells #[.int .i32 x.1, .int .i64 x.2] 30)) (fun x q => { tmps := #[.slice none 0 0, .func (.func 78) #[] #[PN bx], PN n0, undef, .slice none 0 0, PN q, .func (.func 78) #[] #[PN bx], .agg #[.int .i32 x.1, .int .i64 x.2], undef, undef, undef, undef, undef], defers := [] })
    (fun x q pre W => (OwnBoxK n0 B pre W ∧ Upd (fun k => k = n0) B W1 W) ∧ W.cell? ⟨q, 0, none⟩ = some (.int .i32 x.1) ∧ W.cell? ⟨q, 1, none⟩ = some (.int .i64 x.2))
    (fun x q => by rw [hs1, hB]; exact OwnFrom.and (OwnFrom.and (own_fromK B n0 B _ (by omega)) (ownFrom_upd (by omega))) (OwnFrom.and (ownFrom_cell B _ (fun _ => .int .i32 x.1)) (ownFrom_cell B _ (fun _ => .int .i64 x.2))))
    (fun x W => (Below.refl _ _).alloc (Nat.le_refl _) _) (fun x W hs => ⟨by simp, fun k hk => Below.heap_alloc _ _ _ (by have : k = gb := hk; omega)⟩)
    (fun pre x W hI hOk hsz => by
      have hbW : Below W.heap.size W (W.alloc (.cells #[.int .i32 x.1, .int .i64 x.2] 30)) := (Below.refl _ _).alloc (Nat.le_refl _) _
      obtain ⟨⟨u, hu, ho⟩, hU⟩ := hI
      exact ⟨⟨⟨u, (hbW.block n0 (by omega)).trans hu, own_below ho hbW⟩, hU.trans ((Upd.of hbW).less (by omega))⟩, cell_at (heap_new1 _ _), cell_at (heap_new1 _ _)⟩) ?assign ?body ?done ?stop
  case assign =>
    intro lp x W K hK
    unfold encvk
    clear kl hb hseq hB
    gi_wp2
    exact hK
  case body =>
    intro lp pre x q W hI hOk
    obtain ⟨⟨hown, hU⟩, q0, q1⟩ := hI
    have hpl : pre.length < 1048576 := by obtain ⟨r, e⟩ := hOk; have := congrArg List.length e; rw [List.length_append, List.length_cons] at this; omega
    have hsW : B ≤ W.heap.size := by have := hU.size; omega
    obtain ⟨v, v', W9, hv, ⟨a1, b1, c1, rfl⟩, ⟨a2, b2, c2, rfl⟩, hrun, how, hlb9, hU9⟩ := own_appK hown hsW (by omega) x hpl
    have l0 : W.cell? ⟨n0, 0, none⟩ = some (.slice a1 b1 c1) := cell_at hv
    have HRUN := hide hrun
    have l9 : W9.cell? ⟨n0, 0, none⟩ = some (.slice a1 b1 c1) := cell_at hlb9
    have f9 : W9.frozen? ⟨n0, 0, none⟩ = false := frozen_of_heap hlb9
    have HFIN : Hid (KeepsFrom W1.heap.size W (W9.setCell ⟨n0, 0, none⟩ (.slice a2 b2 c2)) ∧ Keepb (fun k => k = gb) W (W9.setCell ⟨n0, 0, none⟩ (.slice a2 b2 c2)) ∧ OwnBoxK n0 B (pre ++ [x]) (W9.setCell ⟨n0, 0, none⟩ (.slice a2 b2 c2)) ∧ Upd (fun k => k = n0) B W1 (W9.setCell ⟨n0, 0, none⟩ (.slice a2 b2 c2))) := by
      obtain ⟨s1, s2⟩ := rg_step2 hU9 (show n0 < B by omega) hsW (.slice a2 b2 c2)
      rw [hs1, hB]
      refine ⟨s1, ⟨s2.size, fun k hk => s2.block k (by have : k = gb := hk; omega) (by have : k = gb := hk; omega)⟩, ⟨.slice a2 b2 c2, box_set _ hlb9, ?_⟩, hU.trans s2⟩
      have := ownsRow_setCell_below how (a := ⟨n0, 0, none⟩) (show n0 < B by omega) (.slice a2 b2 c2)
      rw [List.length_append]
      exact this
    clear hown hU hOk how hlb9 hU9 hv hrun hseq kl hb hB
    gi_wp2_with (gi_at_builtin; refine wpListIn_append_run rfl rfl rfl rfl (unhide HRUN) ?_)
    exact unhide HFIN
  case stop =>
    intro D cd pre W hD hX hK
    exact hX.elim
  case done =>
    intro D xs W hD hxs hI hK
    subst hxs
    obtain ⟨⟨v, hv, ho⟩, hU⟩ := hI
    have c0 : W.cell? ⟨n0, 0, none⟩ = some v := cell_at hv
    obtain ⟨ao, cap, rfl⟩ := own_shape ho
    have HM : Hid (Marks [{ target := .collected D, args := #[] }] W) := (Marks.nil W).cons hK (fun c => by cases c)
    have HO := hide ho
    have HU := hide hU
    have HW := hide hb
    have hDB : B ≤ D := by omega
    have HB := hide hB
    clear hv ho hU hK hseq kl hb hB
    obtain ⟨len, hlen⟩ : ∃ n, xs.length = n := ⟨_, rfl⟩
    rw [hlen] at c0 HO
    clear hlen hl
    gi_wp2
    refine leave_marks (w := W) (unhide HM) fun w' hw => ?_
    have hsU := (unhide HU).size
    have hB' := unhide HB
    refine ⟨_, by simp [results, Tryd.results59, go_sem], _, rfl, (own_sees (l := xs) kC_len (by decide) (own_mark (unhide HO) (unhide HM) hw)).2, (unhide HW).trans ?_⟩
    refine ⟨hw.os.trans (unhide HU).os, hw.tape.trans (unhide HU).tape, hw.output.trans (unhide HU).output, Nat.le_trans (unhide HU).size hw.size, fun k hk => (hw.block k (by omega) fun c => ?_).trans ((unhide HU).block k (by omega) (by omega))⟩
    rcases List.mem_cons.1 c with e | e
    · simp only [Deferred.mk.injEq, Target.collected.injEq, and_true] at e; omega
    · cases e
theorem collect_any {w : World} {v : Value} {l : List Ky} (h : VkAt w v l) (hl : l.length ≤ 1048576) :
    Calls Tryd.prog 23 #[v] w fun e w' => ∃ u, e = .returned u ∧ SeesL kC 2 w' u l ∧ Below w.heap.size w w' := by
  have HA := hide (appendSeq_any h hl)
  clear h
  go_enter Tryd.func23, Tryd.ntmps23
  go_wp2_with fail
  refine (unhide HA).mono ?_
  rintro e w1 ⟨u, rfl, hs, hb⟩
  have HS := hide (And.intro hs hb)
  clear hs hb
  go_wp2
  go_ret
  exact ⟨_, rfl, unhide HS⟩

set_option maxHeartbeats 1000000 in
theorem index_any {w : World} {u : Value} {l : List Ky} (h : SeesL kC 2 w u l) (hl : l.length ≤ 1048576) (k : Ky) (hk : k ∈ l) :
    Calls Tryd.prog 61 #[u, .agg #[.int .i32 k.1, .int .i64 k.2]] w fun e w' => (∃ i : Nat, e = .returned (.int .i64 i)) ∧ Below w.heap.size w w' := by
  obtain ⟨ao, cap, gb, ob, rfl, hcap, _, hao, hcells⟩ := h.key
  obtain rfl := hao (List.length_pos_of_mem hk)
  obtain ⟨n0, hn0⟩ : ∃ x, w.heap.size = x := ⟨_, rfl⟩
  obtain ⟨W1, hW1⟩ : ∃ W, w.alloc (.cells #[.int .i32 k.1, .int .i64 k.2] 30) = W := ⟨_, rfl⟩
  have hb : Below n0 w W1 := by rw [← hW1, ← hn0]; exact (Below.refl _ _).alloc (Nat.le_refl _) _
  have kk : W1.heap[n0]? = some (.cells #[.int .i32 k.1, .int .i64 k.2] 30) := by rw [← hW1, ← hn0]; exact heap_new1 _ _
  have HC : Hid (∀ w' : World, Below W1.heap.size W1 w' → ∀ t, t < l.length → (w'.cell? ⟨gb, ob + t * 2, none⟩ = some (.int .i32 (l.getD t default).1) ∧ w'.cell? ⟨gb, ob + t * 2 + 1, none⟩ = some (.int .i64 (l.getD t default).2)) ∧ w'.cell? ⟨n0, 0, none⟩ = some (.int .i32 k.1) ∧ w'.cell? ⟨n0, 1, none⟩ = some (.int .i64 k.2)) := fun w' hb' t ht => by
    have hb2 : Below n0 w w' := hb.trans (hb'.mono (by have := hb.size; omega))
    have e := (hb'.block n0 (Array.getElem?_eq_some_iff.1 kk).1).trans kk
    refine ⟨⟨?_, ?_⟩, cell_at e, cell_at e⟩
    · exact (hb2.cell (p := ⟨gb, ob + t * 2, none⟩) (by rw [← hn0]; exact World.block_lt_of_cell? w _ (hcells t ht).1)).trans (hcells t ht).1
    · exact (hb2.cell (p := ⟨gb, ob + t * 2 + 1, none⟩) (by rw [← hn0]; exact World.block_lt_of_cell? w _ (hcells t ht).2)).trans (hcells t ht).2
  have HK := hide hk
  have HB := hide hb
  rw [hn0]
  clear h hcells hk hb kk hao
  have HE := hide eql_key
  go_enter Tryd.func61, Tryd.ntmps61
  go_wp2
  try rw [hW1]
  clear hW1
  obtain ⟨m, hm⟩ : ∃ m, l.length = m := ⟨_, rfl⟩
  rw [hm] at hcap hl ⊢
  have HM := hide hm
  clear hm
  go_loopw [8] (fun t wr => ∃ i : Nat, i ≤ m ∧ t = .int .i64 i ∧ Below W1.heap.size W1 wr ∧ k ∉ l.take i) (fun t _ => m - (intOf t).toNat)
  case atStart => exact ⟨0, by omega, rfl, Below.refl _ _, by simp⟩
  case round =>
    obtain ⟨i, hi, rfl, hbr, hno⟩ := hrel
    by_cases hlt : i < m
    · obtain ⟨⟨s1, s2⟩, s3, s4⟩ := unhide HC wr hbr i (by rw [unhide HM]; exact hlt)
      obtain ⟨y, hy⟩ : ∃ y, l.getD i default = y := ⟨_, rfl⟩
      rw [hy] at s1 s2
      have hdb : decide ((i : Int) < (m : Int)) = true := by simp; omega
      have hi0 : (0 : Int) ≤ (i : Int) := by omega
      have hi1 : (i : Int) < (m : Int) := by omega
      have HS := hide (And.intro s1 (And.intro s2 (And.intro s3 s4)))
      have HBR := hide (And.intro hbr (And.intro hno hy))
      clear s1 s2 s3 s4 hbr hno hy
      by_cases hky : k = y
      · subst hky
        have hee := unhide HE k.1 k.2 k.1 k.2
        rw [show decide ((k.1, k.2) = (k.1, k.2)) = true from decide_eq_true rfl] at hee
        have HEE := hide hee
        clear hee
        go_wp2
        refine wp_region_held_drew (S := fun w' => w'.cell? ⟨gb, ob + i * 2, none⟩ = some (.int .i32 k.1) ∧ w'.cell? ⟨gb, ob + i * 2 + 1, none⟩ = some (.int .i64 k.2) ∧ w'.cell? ⟨n0, 0, none⟩ = some (.int .i32 k.1) ∧ w'.cell? ⟨n0, 1, none⟩ = some (.int .i64 k.2)) (by kernel_rfl) (unhide HS) (fun hHeld => ?_)
        refine wpAnyH_take (i := 0) (v := ?v1x0) rfl (by kernel_rfl) (by kernel_rfl) (by kernel_rfl) (fun _ _ _ h => h) (Or.inl ⟨by rfl, ?hy1x0⟩) (by assumption) ?rest1x0
        case hy1x0 => intro w hSw; obtain ⟨s1, s2, s3, s4⟩ := hSw; go_simp <;> with_reducible rfl
        simp only [Act.put, List.getElem_toArray, List.getElem_cons_zero, List.setIfInBounds_toArray, List.set_cons_zero, List.set_cons_succ]
        refine wpAnyH_take (i := 1) (v := ?v2x1) rfl (by kernel_rfl) (by kernel_rfl) (by kernel_rfl) (fun _ _ _ h => h) (Or.inl ⟨by rfl, ?hy2x1⟩) (by assumption) ?rest2x1
        case hy2x1 => intro w hSw; obtain ⟨s1, s2, s3, s4⟩ := hSw; go_simp <;> with_reducible rfl
        simp only [Act.put, List.getElem_toArray, List.getElem_cons_zero, List.getElem_cons_succ, List.setIfInBounds_toArray, List.set_cons_zero, List.set_cons_succ]
        refine wpAnyH_take (i := 2) (v := ?v3x2) rfl (by kernel_rfl) (by kernel_rfl) (by kernel_rfl) (fun _ _ _ h => h) (Or.inl ⟨by rfl, ?hy3x2⟩) (by assumption) ?rest3x2
        case hy3x2 => intro w hSw; obtain ⟨s1, s2, s3, s4⟩ := hSw; go_simp <;> with_reducible rfl
        simp only [Act.put, List.getElem_toArray, List.getElem_cons_zero, List.getElem_cons_succ, List.setIfInBounds_toArray, List.set_cons_zero, List.set_cons_succ]
        refine wpAnyH_take (i := 3) (v := ?v4x3) rfl (by kernel_rfl) (by kernel_rfl) (by kernel_rfl) (fun _ _ _ h => h) (Or.inl ⟨by rfl, ?hy4x3⟩) (by assumption) ?rest4x3
        case hy4x3 => intro w hSw; obtain ⟨s1, s2, s3, s4⟩ := hSw; go_simp <;> with_reducible rfl
        simp only [Act.put, List.getElem_toArray, List.getElem_cons_zero, List.getElem_cons_succ, List.setIfInBounds_toArray, List.set_cons_zero, List.set_cons_succ]
        refine wpAnyH_take (i := 4) (v := ?v5x4) rfl (by kernel_rfl) (by kernel_rfl) (by kernel_rfl) (fun _ _ _ h => h) (Or.inl ⟨by rfl, ?hy5x4⟩) (by assumption) ?rest5x4
        case hy5x4 => intro w hSw; obtain ⟨s1, s2, s3, s4⟩ := hSw; go_simp <;> with_reducible rfl
        simp only [Act.put, List.getElem_toArray, List.getElem_cons_zero, List.getElem_cons_succ, List.setIfInBounds_toArray, List.set_cons_zero, List.set_cons_succ]
        refine wpAnyH_take (i := 5) (v := (.bool true)) rfl (by kernel_rfl) (by kernel_rfl) (by kernel_rfl) (fun _ _ _ h => h) (Or.inl ⟨by rfl, ?hy6x5⟩) (by assumption) ?rest6x5
        case hy6x5 => intro w hSw; have hee := unhide HEE; go_simp <;> with_reducible rfl
        simp only [Act.put, List.getElem_toArray, List.getElem_cons_zero, List.getElem_cons_succ, List.setIfInBounds_toArray, List.set_cons_zero, List.set_cons_succ]
        refine wpAnyH_done (by kernel_rfl) ?_ _
        go_wp2
        go_ret
        exact ⟨⟨i, rfl⟩, (unhide HB).trans ((unhide HBR).1.mono (by have := (unhide HB).size; omega)).drew⟩
      · have hee := unhide HE k.1 k.2 y.1 y.2
        rw [show decide ((k.1, k.2) = (y.1, y.2)) = false from decide_eq_false fun e => hky (by rw [Prod.ext_iff]; simpa using e)] at hee
        have HEE := hide hee
        clear hee
        obtain ⟨i1, hi1e⟩ : ∃ i1, i + 1 = i1 := ⟨_, rfl⟩
        have hwi : IntKind.i64.wrap ((i : Int) + 1) = (i1 : Int) := by rw [wrap_i64 _ (by omega) (by omega)]; omega
        have hm1 : m - i1 < m - i := by omega
        have HI1 := hide hi1e
        clear hi1e
        go_wp2
        refine wp_region_held_drew (S := fun w' => w'.cell? ⟨gb, ob + i * 2, none⟩ = some (.int .i32 y.1) ∧ w'.cell? ⟨gb, ob + i * 2 + 1, none⟩ = some (.int .i64 y.2) ∧ w'.cell? ⟨n0, 0, none⟩ = some (.int .i32 k.1) ∧ w'.cell? ⟨n0, 1, none⟩ = some (.int .i64 k.2)) (by kernel_rfl) (unhide HS) (fun hHeld => ?_)
        refine wpAnyH_take (i := 0) (v := ?v7x0) rfl (by kernel_rfl) (by kernel_rfl) (by kernel_rfl) (fun _ _ _ h => h) (Or.inl ⟨by rfl, ?hy7x0⟩) (by assumption) ?rest7x0
        case hy7x0 => intro w hSw; obtain ⟨s1, s2, s3, s4⟩ := hSw; go_simp <;> with_reducible rfl
        simp only [Act.put, List.getElem_toArray, List.getElem_cons_zero, List.setIfInBounds_toArray, List.set_cons_zero, List.set_cons_succ]
        refine wpAnyH_take (i := 1) (v := ?v8x1) rfl (by kernel_rfl) (by kernel_rfl) (by kernel_rfl) (fun _ _ _ h => h) (Or.inl ⟨by rfl, ?hy8x1⟩) (by assumption) ?rest8x1
        case hy8x1 => intro w hSw; obtain ⟨s1, s2, s3, s4⟩ := hSw; go_simp <;> with_reducible rfl
        simp only [Act.put, List.getElem_toArray, List.getElem_cons_zero, List.getElem_cons_succ, List.setIfInBounds_toArray, List.set_cons_zero, List.set_cons_succ]
        refine wpAnyH_take (i := 2) (v := ?v9x2) rfl (by kernel_rfl) (by kernel_rfl) (by kernel_rfl) (fun _ _ _ h => h) (Or.inl ⟨by rfl, ?hy9x2⟩) (by assumption) ?rest9x2
        case hy9x2 => intro w hSw; obtain ⟨s1, s2, s3, s4⟩ := hSw; go_simp <;> with_reducible rfl
        simp only [Act.put, List.getElem_toArray, List.getElem_cons_zero, List.getElem_cons_succ, List.setIfInBounds_toArray, List.set_cons_zero, List.set_cons_succ]
        refine wpAnyH_take (i := 3) (v := ?v10x3) rfl (by kernel_rfl) (by kernel_rfl) (by kernel_rfl) (fun _ _ _ h => h) (Or.inl ⟨by rfl, ?hy10x3⟩) (by assumption) ?rest10x3
        case hy10x3 => intro w hSw; obtain ⟨s1, s2, s3, s4⟩ := hSw; go_simp <;> with_reducible rfl
        simp only [Act.put, List.getElem_toArray, List.getElem_cons_zero, List.getElem_cons_succ, List.setIfInBounds_toArray, List.set_cons_zero, List.set_cons_succ]
        refine wpAnyH_take (i := 4) (v := ?v11x4) rfl (by kernel_rfl) (by kernel_rfl) (by kernel_rfl) (fun _ _ _ h => h) (Or.inl ⟨by rfl, ?hy11x4⟩) (by assumption) ?rest11x4
        case hy11x4 => intro w hSw; obtain ⟨s1, s2, s3, s4⟩ := hSw; go_simp <;> with_reducible rfl
        simp only [Act.put, List.getElem_toArray, List.getElem_cons_zero, List.getElem_cons_succ, List.setIfInBounds_toArray, List.set_cons_zero, List.set_cons_succ]
        refine wpAnyH_take (i := 5) (v := (.bool false)) rfl (by kernel_rfl) (by kernel_rfl) (by kernel_rfl) (fun _ _ _ h => h) (Or.inl ⟨by rfl, ?hy12x5⟩) (by assumption) ?rest12x5
        case hy12x5 => intro w hSw; have hee := unhide HEE; go_simp <;> with_reducible rfl
        simp only [Act.put, List.getElem_toArray, List.getElem_cons_zero, List.getElem_cons_succ, List.setIfInBounds_toArray, List.set_cons_zero, List.set_cons_succ]
        refine wpAnyH_done (by kernel_rfl) ?_ _
        go_wp2
        go_roundw
        case rel =>
          obtain ⟨hbr, hno, hy⟩ := unhide HBR
          have hil : i < l.length := by rw [unhide HM]; exact hlt
          refine ⟨i1, by have := unhide HI1; omega, rfl, hbr.drew, ?_⟩
          rw [← unhide HI1, List.take_succ_eq_append_getElem hil]
          intro c
          rcases List.mem_append.1 c with c | c
          · exact hno c
          · rw [List.mem_singleton.1 c] at hky
            exact hky (by rw [← hy]; simp [List.getD, hil])
        case measure => simpa [intOf] using hm1
    · exfalso
      obtain rfl : i = m := by omega
      rw [← unhide HM, List.take_length] at hno
      exact hno (unhide HK)
theorem contains_any {w : World} {u : Value} {l : List Ky} (h : SeesL kC 2 w u l) (hl : l.length ≤ 1048576) (k : Ky) (hk : k ∈ l) :
    Calls Tryd.prog 25 #[u, .agg #[.int .i32 k.1, .int .i64 k.2]] w fun e w' => e = .returned (.bool true) ∧ Below w.heap.size w w' := by
  obtain ⟨W1, hW1⟩ : ∃ W, w.alloc (.cells #[.int .i32 k.1, .int .i64 k.2] 30) = W := ⟨_, rfl⟩
  have hb : Below w.heap.size w W1 := by rw [← hW1]; exact (Below.refl _ _).alloc (Nat.le_refl _) _
  have kk : W1.heap[w.heap.size]? = some (.cells #[.int .i32 k.1, .int .i64 k.2] 30) := by rw [← hW1]; exact heap_new1 _ _
  have HX := hide (index_any (h.below kC_len hb) hl k hk)
  have g0 : W1.cell? ⟨w.heap.size, 0, none⟩ = some (.int .i32 k.1) := cell_at kk
  have g1 : W1.cell? ⟨w.heap.size, 1, none⟩ = some (.int .i64 k.2) := cell_at kk
  have HB := hide hb
  clear h hb kk
  go_enter Tryd.func25, Tryd.ntmps25
  go_wp2_with fail
  refine (unhide HX).mono ?_
  rintro e w2 ⟨⟨i, rfl⟩, hb2⟩
  have hii : decide ((i : Int) ≥ 0) = true := by simp
  have hi2 : decide (0 ≤ (i : Int)) = true := by simp
  have HB2 := hide hb2
  clear hb2 hW1
  go_wp2
  go_ret
  exact ⟨rfl, (unhide HB).trans ((unhide HB2).mono (unhide HB).size)⟩

theorem steps_any {w : World} {b0 sb hd : Nat} {L : List Nd} {luck : Int} (h : Sk w b0 sb hd L luck) (k : Ky) :
    Calls Tryd.prog 26 #[PN sb, .agg #[.int .i32 k.1, .int .i64 k.2]] w fun e w' => e = .returned (.int .i64 (stpU (lo k L) (hi k L) 8 : Nat)) ∧ Below w.heap.size w w' := by
  obtain ⟨W1, hW1⟩ : ∃ W, w.alloc (.cells #[.int .i32 k.1, .int .i64 k.2] 30) = W := ⟨_, rfl⟩
  have hb : Below w.heap.size w W1 := by rw [← hW1]; exact (Below.refl _ _).alloc (Nat.le_refl _) _
  have kk : W1.heap[w.heap.size]? = some (.cells #[.int .i32 k.1, .int .i64 k.2] 30) := by rw [← hW1]; exact heap_new1 _ _
  have h1 := h.below hb
  have c0 : W1.cell? ⟨sb, 0, none⟩ = some (PN hd) := by obtain ⟨N, hm, _⟩ := h1.mem; exact cell_at hm.sk
  have HMd := hide (made_yes sb hd W1 c0)
  have HS := hide (search_any h1 k.1 k.2)
  obtain ⟨c, hc⟩ : ∃ c : Int, ((stpU (lo k L) (hi k L) 8 : Nat) : Int) = c := ⟨_, rfl⟩
  rw [show ((stpU (lo (k.1, k.2) L) (hi (k.1, k.2) L) 8 : Nat) : Int) = c from hc] at HS
  rw [hc]
  have g0 : W1.cell? ⟨w.heap.size, 0, none⟩ = some (.int .i32 k.1) := cell_at kk
  have g1 : W1.cell? ⟨w.heap.size, 1, none⟩ = some (.int .i64 k.2) := cell_at kk
  have HB := hide hb
  clear h h1 hb kk c0 hc
  go_enter Tryd.func26, Tryd.ntmps26
  go_wp2_with fail
  try rw [hW1]
  refine (unhide HMd).mono ?_
  rintro e w9 ⟨rfl, rfl⟩
  clear hW1
  go_wp2_with fail
  refine (unhide HS).mono ?_
  rintro e w2 ⟨rfl, hb2⟩
  have HB2 := hide hb2
  clear hb2
  simp only [arr8]
  go_wp2
  go_ret
  have hb2 := unhide HB2
  exact ⟨rfl, ((unhide HB).trans (hb2.mono (unhide HB).size)).alloc (by have := (unhide HB).size; have := hb2.size; omega) _⟩
end Go.Proofs.YtdcmkapfcmibeaaDoor
