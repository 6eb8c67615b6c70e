/- Several texts as one. -/
import Derived.Test.YtoddemcmmijoaaaKE

/- Links: put. -/
namespace Go.Proofs.Ytoddemcmmijoaaa
open Go.RowKit Go.Deep
set_option maxRecDepth 100000

abbrev z17 : Array Value := #[.int .i64 0, .int .i64 0, .int .i64 0, .int .i64 0, .int .i64 0, .int .i64 0, .int .i64 0, .bool false, .slice none 0 0, .int .i64 0, .int .i64 0, .int .i64 0, .slice none 0 0, .int .i64 0, .int .i64 0, .int .i64 0, .slice none 0 0]
theorem Try.infoM : (Try.prog.info? 38).map (fun i => (i.zero, i.size, i.bytes)) = some (some (.agg z17), 17, 184) := by kernel_rfl
theorem Try.underM : Try.prog.underlying 22 = some (.slice 38) := by kernel_rfl
theorem list17L {α : Type} {l : List α} (h : l.length = 17) : ∃ a0 a1 a2 a3 a4 a5 a6 a7 a8 a9 a10 a11 a12 a13 a14 a15 a16, l = [a0, a1, a2, a3, a4, a5, a6, a7, a8, a9, a10, a11, a12, a13, a14, a15, a16] := by
  match l, h with
  | [a0, a1, a2, a3, a4, a5, a6, a7, a8, a9, a10, a11, a12, a13, a14, a15, a16], _ => exact ⟨a0, a1, a2, a3, a4, a5, a6, a7, a8, a9, a10, a11, a12, a13, a14, a15, a16, rfl⟩
theorem fold17 (cs : Array Value) (h : cs.size = 17) : Array.foldl (fun (cs : Array Value) (x : Value × Nat) => cs.setIfInBounds x.snd x.fst) z17 cs.zipIdx 0 17 = cs := by
  obtain ⟨l⟩ := cs
  obtain ⟨a0, a1, a2, a3, a4, a5, a6, a7, a8, a9, a10, a11, a12, a13, a14, a15, a16, rfl⟩ := list17L (l := l) (by simpa using h)
  simp [List.zipIdx]
/-- An append of messages to a row of one's own: the new row is the old one's block or a new one. -/
theorem run_append_msgs {w : World} {base : Nat} {v : Value} {n : Nat} {xs : List Value} (hown : w.ownsRow base 38 17 v n xs) (a : Addr) (m c : Nat) (news : List Value) (hl : news.length = m * 17) (hnews : ∀ j u, news[j]? = some u → w.cell? (a.add j) = some u) (h1 : ∀ u ∈ news, u.oneCell' = true)
    (hn : n + m ≤ 700000000000) (hbase : base ≤ w.heap.size) (ty : TypeId) :
    ∃ v' w', (Builtin.append_ #[22, 22] ty #[v, .slice (some a) m c]).run Try.prog w = .ok v' w' ∧ w'.ownsRow base 38 17 v' (n + m) (xs ++ news) ∧ w.grownBy w' v.ownBlock ∧ ∀ k, v'.ownBlock = some k → v.ownBlock = some k ∨ w.heap.size ≤ k := by
  obtain ⟨i0, hi, hz0, hz1, hz2⟩ := info_parts Try.infoM
  obtain ⟨v', w', hr, h2, h3, _⟩ := run_append_own (P := Try.prog) w base 22 ty 38 i0 (.agg z17) 17 184 Try.underM hi hz0 hz1 hz2 rfl (by decide) v n xs hown a m c news hl hnews h1 (by unfold maxLen; omega) (by omega) hbase
  refine ⟨v', w', hr, h2, h3, fun k hk => ?_⟩
  rcases hown.2 with ⟨rfl, rfl⟩ | ⟨g, cap, cur, rfl, hbg, hg, hnc, hcm, hcs, htake⟩
  · by_cases hm : m = 0
    · subst hm
      rcases h2.2 with ⟨rfl, _⟩ | ⟨g, cap, cur, rfl, _, hg, _⟩
      · simp [Value.ownBlock] at hk
      · have hn0 : news = [] := List.eq_nil_of_length_eq_zero (by simpa using hl)
        subst hn0
        have : (Builtin.append_ #[22, 22] ty #[.slice none 0 0, .slice (some a) 0 c]).run Try.prog w = .ok (.slice none 0 0) w := by
          simp [Builtin.append_, run_underlying Try.underM, sizeOf, typeInfo, hi, Builtin.lenOf, Builtin.firstCells, loadCells, loadCellsFrom]
        rw [this] at hr
        simp at hr
    · have hr2 := run_append_nil (P := Try.prog) w 22 ty 38 i0 (.agg z17) Try.underM hi hz0 a m c news (by rw [hz1]; exact hl) hnews (by omega) (by omega) (by rw [hz2]; omega)
      rw [hr2] at hr
      simp only [Result.ok.injEq] at hr
      rw [← hr.1] at hk
      simp only [Value.ownBlock, Option.some.injEq] at hk
      exact .inr (by omega)
  · by_cases hroom : n + m ≤ cap
    · have hr2 := run_append_room (P := Try.prog) w 22 ty 38 i0 Try.underM hi g n cap cur hg a m c news (by rw [hz1]; exact hl) hnews h1 hroom (by rw [hz1, hl, hcs, ← Nat.add_mul]; exact Nat.mul_le_mul_right _ hroom)
      rw [hr2] at hr
      simp only [Result.ok.injEq] at hr
      rw [← hr.1] at hk
      exact .inl hk
    · have hr2 := run_append_grow (P := Try.prog) w 22 ty 38 i0 (.agg z17) Try.underM hi hz0 ⟨g, 0, none⟩ n cap xs (by rw [hz1]; exact hown.1) (hown.cells (g := g) rfl) a m c news (by rw [hz1]; exact hl) hnews (by omega) (by omega) (growslice_fits (by omega) (by rw [hz2]; omega))
      rw [hr2] at hr
      simp only [Result.ok.injEq] at hr
      rw [← hr.1] at hk
      simp only [Value.ownBlock, Option.some.injEq] at hk
      exact .inr (by omega)

theorem run_loadE {ρ : Operand → Value} {o : Oper} {s : Operand} {w : World} {g T : Nat} {cs : Array Value} {fs : Array Field} {v : Value} (ho : o.op = .load T s) (hs : ρ s = .pointer (some ⟨g, 0, none⟩)) (hg : w.heap[g]? = some (.cells cs T))
    (hu : Try.prog.underlying T = some (.struct fs)) (hi : (Try.prog.info? T).map (·.size) = some cs.size) (hv : Value.agg cs = v) :
    Sem.run Try.prog (execOp ρ o) w = .ok (.value v) w := by
  subst hv
  have h := run_loadVar_row (P := Try.prog) w g T T cs (0, 0) _ hg hu rfl hi
  unfold execOp
  rw [ho]
  simp only [hs, Instr.loadAt]
  simp [Instr.sureAddr, h]
/-- What put leaves behind. -/
theorem put_state {base : Nat} {w y : World} {P mb : Nat} {st : List PD} (H : LInv base w P mb st) {i : Nat} {q : PD} (hi : st[i]? = some q) (hbw : base ≤ w.heap.size) {p : MV} (hp : OwnV base w p) (hlt : q.l.length < 256) (hy : Below w.heap.size w y) {b2 : Nat} (hb2 : y.heap[b2]? = some (.cells (msgCells p).toArray 38)) (ty : TypeId) :
    ∃ v' y6, (Builtin.append_ #[22, 22] ty #[q.v, .slice (some ⟨b2, 0, none⟩) 1 1]).run Try.prog y = .ok v' y6 ∧ (∃ ao cap, v' = .slice ao (q.l.length + 1) cap) ∧ y6.heap[q.g]? = some (.cells #[.bool q.cut, q.v] 52) ∧
      LInv base (y6.setCell ⟨q.g, 1, none⟩ v') P mb (st.set i { q with v := v', l := q.l ++ [p.1] }) ∧ Upd q.own y (y6.setCell ⟨q.g, 1, none⟩ v') ∧ ∀ k, v'.ownBlock = some k → q.v.ownBlock = some k ∨ w.heap.size ≤ k := by
  have hq : q ∈ st := List.mem_of_getElem? hi
  have Hy := H.below hy
  have hpq := Hy.pipe q hq
  obtain ⟨vs, hvs, hr, ha⟩ := hpq.row
  have hpy := hp.below hy
  obtain ⟨v', y6, he, ho, hg, hf⟩ := run_append_msgs hr ⟨b2, 0, none⟩ 1 1 (msgCells p) rfl (fun j u hu => by
    have ha' : (⟨b2, 0, none⟩ : Addr).add j = ⟨b2, j, none⟩ := by unfold Addr.add; split <;> simp_all
    rw [ha', cell_heapM hb2]
    simpa using hu) hpy.one (by omega) (Nat.le_trans hbw hy.size) ty
  have hu1 : Upd (fun k => q.v.ownBlock = some k) y y6 := .grown hg (fun _ h => h)
  have hu1' : Upd q.own y y6 := hu1.mono (fun _ h => .inr h)
  have hty := hpq.typed
  have ng : ¬ q.v.ownBlock = some q.g := fun c => by
    rcases hr.2 with ⟨e, _⟩ | ⟨g, cap, cur, e, _, hh, _⟩
    · rw [e] at c; simp [Value.ownBlock] at c
    · rw [e] at c
      simp only [Value.ownBlock, Option.some.injEq] at c
      rw [c, hpq.box] at hh
      simp at hh
  have hbox : y6.heap[q.g]? = some (.cells #[.bool q.cut, q.v] 52) := (hu1.block _ (Array.getElem?_eq_some_iff.1 hpq.box).1 ng).trans hpq.box
  have hu2 : Upd q.own y (y6.setCell ⟨q.g, 1, none⟩ v') := hu1'.trans (Upd.set (S := q.own) (p := ⟨q.g, 1, none⟩) (.inl rfl) v') (fun _ h => .inl h)
  have hset : (y6.setCell ⟨q.g, 1, none⟩ v').heap[q.g]? = some (.cells #[.bool q.cut, v'] 52) := heap_setCell_same y6 q.g 1 _ 52 v' hbox
  have hvl : (vs ++ [p]).map (·.1) = q.l ++ [p.1] := by rw [List.map_append, hvs]; rfl
  have hsh : ∃ ao cap, v' = .slice ao (q.l.length + 1) cap := own_shapeN ho
  refine ⟨v', y6, he, hsh, hbox, ?_, hu2, fun k hk => (hf k hk).imp id (fun h => Nat.le_trans hy.size h)⟩
  refine Hy.turn hi hu2 rfl rfl rfl ⟨hpq.low, hset, ⟨vs ++ [p], hvl, ?_, fun r hr' => ?_⟩, by simp; omega⟩ (fun k hk => ?_)
  · rw [List.flatMap_append, List.length_append]
    simp only [List.flatMap_cons, List.flatMap_nil, List.append_nil, List.length_cons, List.length_nil]
    exact own_setO ho hbox (by decide) 1 v'
  · rcases List.mem_append.1 hr' with c | c
    · exact (ha r c).upd hu2 hty
    · rw [List.mem_singleton] at c
      subst c
      exact hpy.upd hu2 hty
  · rcases hk with hk | hk
    · exact .inl (.inl hk)
    · exact (hf k hk).imp .inr id

set_option maxHeartbeats 1600000 in
theorem put_any {base : Nat} {w : World} {P mb : Nat} {st : List PD} (H : LInv base w P mb st) {i : Nat} {q : PD} (hi : st[i]? = some q) (hbw : base ≤ w.heap.size) {p : MV} (hp : OwnV base w p) (hlt : q.l.length < 256) :
    Calls Try.prog 17 #[P0 q.g, .agg (msgCells p).toArray] w fun e w' => e = .returned (.tuple #[]) ∧ ∃ v', LInv base w' P mb (st.set i { q with v := v', l := q.l ++ [p.1] }) ∧ Upd q.own w w' ∧ ∀ k, v'.ownBlock = some k → q.v.ownBlock = some k ∨ w.heap.size ≤ k := by
  have hq : q ∈ st := List.mem_of_getElem? hi
  have HS : Hid (∀ (y : World) (b2 : Nat), Below w.heap.size w y → y.heap[b2]? = some (.cells (msgCells p).toArray 38) → _) := fun y b2 hy hb2 => put_state H hi hbw hp hlt hy hb2 22
  have HC : Hid (∀ x, Below w.heap.size w x → x.cell? ⟨q.g, 1, none⟩ = some q.v) := fun x hx => ((H.below hx).pipe q hq).cell1
  obtain ⟨ao, cap, hv⟩ := (H.pipe q hq).row.shape
  have hlen : (msgCells p).toArray.size = 17 := by simp [msgCells]
  have hone : (msgCells p).toArray.all (·.oneCell') = true := by simpa using hp.one
  obtain ⟨cs, hcs⟩ : ∃ c, (msgCells p).toArray = c := ⟨_, rfl⟩
  rw [hcs] at HS hlen hone
  rw [hcs]
  rw [hv] at HS HC
  obtain ⟨n, hn⟩ : ∃ n, q.l.length = n := ⟨_, rfl⟩
  rw [hn] at HS HC
  have hal := below_box (w := w) cs 38
  have hx0 : (w.alloc (.cells cs 38)).heap[w.heap.size]? = some (.cells cs 38) := heap_alloc_new w _
  have hsz : (w.alloc (.cells cs 38)).heap.size = w.heap.size + 1 := by simp
  obtain ⟨y0, hy0⟩ : ∃ y, w.alloc (.cells cs 38) = y := ⟨_, rfl⟩
  rw [hy0] at hal hx0 hsz
  have HA := hide hal
  have HX := hide hx0
  have HZ := hide hsz
  have hv2 : q.v = .slice ao n cap := by rw [hv, hn]
  have HV := hide hv2
  have g4 : y0.drew.cell? ⟨q.g, 1, none⟩ = some (.slice ao n cap) := unhide HC y0.drew hal.drew
  have hfold : Array.foldl (fun (cs : Array Value) (x : Value × Nat) => cs.setIfInBounds x.snd x.fst) z17 cs.zipIdx 0 17 = cs := fold17 cs hlen
  obtain ⟨v', y6, hr, ⟨a6, c6, rfl⟩, hbox, hL, hU, hF⟩ := unhide HS (y0.alloc (.cells cs 38)).drew y0.heap.size (hal.alloc hal.size _).drew (heap_alloc_new y0 _)
  have HL := hide hL
  have HU : Hid (Upd q.own w (y6.setCell ⟨q.g, 1, none⟩ (.slice a6 (n + 1) c6))) := (Upd.of (hal.alloc hal.size _).drew).trans hU (fun _ h => .inl h)
  have HF := hide hF
  have hX1 : (y0.alloc (.cells cs 38)).drew.heap[w.heap.size]? = some (.cells cs 38) := by
    have hlt' : w.heap.size < y0.heap.size := by omega
    exact (heap_alloc_old y0 _ hlt').trans hx0
  have HX1 := hide hX1
  have g4b : (y0.alloc (.cells cs 38)).cell? ⟨q.g, 1, none⟩ = some (.slice ao n cap) := unhide HC _ (hal.alloc hal.size _)
  have nb : ∀ k, q.own k → k < w.heap.size := fun k hk => ((H.pipe q hq).lt hk).2
  have hg6 : y6.heap[w.heap.size]? = some (.cells cs 38) := by
    have h1 := hU.block w.heap.size (by show _ < (y0.alloc (.cells cs 38)).heap.size; simp; omega) (fun c => by have := nb _ c; omega)
    rw [hX1] at h1
    exact (heap_setCell_other _ _ _ _ (by have := nb q.g (.inl rfl); show w.heap.size ≠ q.g; omega)).symm.trans h1
  have HX6 := hide hg6
  have c6' : y6.cell? ⟨q.g, 1, none⟩ = some (.slice ao n cap) := by rw [cell_heapM hbox]; rfl
  have f6 : y6.frozen? ⟨q.g, 1, none⟩ = false := frozen_of_heap hbox
  have HX8 : Hid ((y6.setCell ⟨q.g, 1, none⟩ (.slice a6 (n + 1) c6)).heap[w.heap.size]? = some (.cells cs 38)) := (heap_setCell_other _ _ _ _ (by have := nb q.g (.inl rfl); show w.heap.size ≠ q.g; omega)).trans hg6
  clear hn hcs hal hx0 hsz hp hlt hq hi H hbw hv hv2 hL hU hF hX1 hg6 hbox nb
  go_enter Try.func17, Try.ntmps17
  go_wp2_with (rw [hy0])
  refine wp_region_held_drew (S := fun x => x.heap[w.heap.size]? = some (.cells cs 38)) (by kernel_rfl) (unhide HX) (fun hHeld => ?_)
  refine wpAnyH_take (i := 0) (v := ?v1x0) rfl (by kernel_rfl) (by kernel_rfl) (by kernel_rfl) (fun _ _ _ h => h) (Or.inl ⟨by rfl, ?hy1x0⟩) (by assumption) ?rest1x0
  case hy1x0 => intro w hSw; go_simp <;> with_reducible rfl
  simp only [Act.put, List.getElem_toArray, List.getElem_cons_zero, List.setIfInBounds_toArray, List.set_cons_zero, List.set_cons_succ]
  refine wpAnyH_take (i := 1) (v := ?v2x1) rfl (by kernel_rfl) (by kernel_rfl) (by kernel_rfl) (fun _ _ _ h => h) (Or.inl ⟨by rfl, ?hy2x1⟩) (by assumption) ?rest2x1
  case hy2x1 => intro w hSw; go_simp <;> with_reducible rfl
  simp only [Act.put, List.getElem_toArray, List.getElem_cons_zero, List.getElem_cons_succ, List.setIfInBounds_toArray, List.set_cons_zero, List.set_cons_succ]
  refine wpAnyH_take (i := 2) (v := ?v3x2) rfl (by kernel_rfl) (by kernel_rfl) (by kernel_rfl) (fun _ _ _ h => h) (Or.inl ⟨by rfl, ?hy3x2⟩) (by assumption) ?rest3x2
  case hy3x2 => intro w hSw; go_simp <;> with_reducible rfl
  simp only [Act.put, List.getElem_toArray, List.getElem_cons_zero, List.getElem_cons_succ, List.setIfInBounds_toArray, List.set_cons_zero, List.set_cons_succ]
  refine wpAnyH_take (i := 3) (v := ?v4x3) rfl (by kernel_rfl) (by kernel_rfl) (by kernel_rfl) (fun _ _ _ h => h) (Or.inl ⟨by rfl, ?hy4x3⟩) (by assumption) ?rest4x3
  case hy4x3 => intro w hSw; go_simp <;> with_reducible rfl
  simp only [Act.put, List.getElem_toArray, List.getElem_cons_zero, List.getElem_cons_succ, List.setIfInBounds_toArray, List.set_cons_zero, List.set_cons_succ]
  refine wpAnyH_take (i := 5) (v := (.agg cs)) rfl (by kernel_rfl) (by kernel_rfl) (by kernel_rfl) (fun _ _ _ h => h) (Or.inl ⟨by rfl, ?hy5x5⟩) (by assumption) ?rest5x5
  case hy5x5 => intro w hSw; exact run_loadE rfl rfl hSw Try.underlying38 (by rw [hlen]; exact info38s) rfl
  simp only [Act.put, List.getElem_toArray, List.getElem_cons_zero, List.getElem_cons_succ, List.setIfInBounds_toArray, List.set_cons_zero, List.set_cons_succ]
  refine wpAnyH_ready (rs := [4, 6]) (by kernel_rfl) (by simp) ?_
  refine AllReadyH.cons rfl (fun K hK => ?_) (AllReadyH.cons rfl (fun K hK => ?_) AllReadyH.nil)
  · go_simp
    refine hK _ _ (unhide HX) ?_
    clear hK hHeld
    intro hHeld
    refine wpAnyH_ready (rs := [6]) (by kernel_rfl) (by simp) ?_
    refine AllReadyH.cons rfl (fun K hK => ?_) AllReadyH.nil
    go_simp
    refine hK _ _ (unhide HX1) ?_
    clear hK hHeld
    intro hHeld
    refine wpAnyH_ready (rs := [7]) (by kernel_rfl) (by simp) ?_
    refine AllReadyH.cons rfl (fun K hK => ?_) AllReadyH.nil
    rw [if_pos (by rfl)]
    refine append_upon rfl rfl rfl hr ?_
    simp only [Act.put, List.getElem_toArray, List.getElem_cons_zero, List.getElem_cons_succ, List.setIfInBounds_toArray, List.set_cons_zero, List.set_cons_succ]
    refine hK _ _ (unhide HX6) ?_
    clear hK hHeld
    intro hHeld
    refine wpAnyH_take (i := 8) (v := ?v6x8) rfl (by kernel_rfl) (by kernel_rfl) (by kernel_rfl) (fun _ _ _ h => h) (Or.inl ⟨by rfl, ?hy6x8⟩) (by assumption) ?rest6x8
    case hy6x8 => intro w hSw; go_simp <;> with_reducible rfl
    simp only [Act.put, List.getElem_toArray, List.getElem_cons_zero, List.getElem_cons_succ, List.setIfInBounds_toArray, List.set_cons_zero, List.set_cons_succ]
    refine wpAnyH_take (i := 9) (v := ?v7x9) rfl (by kernel_rfl) (by kernel_rfl) (by kernel_rfl) (fun _ _ _ h => h) (Or.inl ⟨by rfl, ?hy7x9⟩) (by assumption) ?rest7x9
    case hy7x9 => intro w hSw; go_simp <;> with_reducible rfl
    simp only [Act.put, List.getElem_toArray, List.getElem_cons_zero, List.getElem_cons_succ, List.setIfInBounds_toArray, List.set_cons_zero, List.set_cons_succ]
    refine wpAnyH_ready (rs := [10]) (by kernel_rfl) (by simp) ?_
    refine AllReadyH.cons rfl (fun K hK => ?_) AllReadyH.nil
    go_simp
    refine hK _ _ (unhide HX8) ?_
    clear hK hHeld
    intro hHeld
    refine wpAnyH_done (by kernel_rfl) ?_ _
    go_wp2
    go_end0
    refine ⟨rfl, _, unhide HL, unhide HU, fun k hk => ?_⟩
    rw [unhide HV]
    exact unhide HF k hk
  · go_simp
    refine hK _ _ (unhide HX1) ?_
    clear hK hHeld
    intro hHeld
    refine wpAnyH_ready (rs := [4]) (by kernel_rfl) (by simp) ?_
    refine AllReadyH.cons rfl (fun K hK => ?_) AllReadyH.nil
    go_simp
    refine hK _ _ (unhide HX1) ?_
    clear hK hHeld
    intro hHeld
    refine wpAnyH_ready (rs := [7]) (by kernel_rfl) (by simp) ?_
    refine AllReadyH.cons rfl (fun K hK => ?_) AllReadyH.nil
    rw [if_pos (by rfl)]
    refine append_upon rfl rfl rfl hr ?_
    simp only [Act.put, List.getElem_toArray, List.getElem_cons_zero, List.getElem_cons_succ, List.setIfInBounds_toArray, List.set_cons_zero, List.set_cons_succ]
    refine hK _ _ (unhide HX6) ?_
    clear hK hHeld
    intro hHeld
    refine wpAnyH_take (i := 8) (v := ?v8x8) rfl (by kernel_rfl) (by kernel_rfl) (by kernel_rfl) (fun _ _ _ h => h) (Or.inl ⟨by rfl, ?hy8x8⟩) (by assumption) ?rest8x8
    case hy8x8 => intro w hSw; go_simp <;> with_reducible rfl
    simp only [Act.put, List.getElem_toArray, List.getElem_cons_zero, List.getElem_cons_succ, List.setIfInBounds_toArray, List.set_cons_zero, List.set_cons_succ]
    refine wpAnyH_take (i := 9) (v := ?v9x9) rfl (by kernel_rfl) (by kernel_rfl) (by kernel_rfl) (fun _ _ _ h => h) (Or.inl ⟨by rfl, ?hy9x9⟩) (by assumption) ?rest9x9
    case hy9x9 => intro w hSw; go_simp <;> with_reducible rfl
    simp only [Act.put, List.getElem_toArray, List.getElem_cons_zero, List.getElem_cons_succ, List.setIfInBounds_toArray, List.set_cons_zero, List.set_cons_succ]
    refine wpAnyH_ready (rs := [10]) (by kernel_rfl) (by simp) ?_
    refine AllReadyH.cons rfl (fun K hK => ?_) AllReadyH.nil
    go_simp
    refine hK _ _ (unhide HX8) ?_
    clear hK hHeld
    intro hHeld
    refine wpAnyH_done (by kernel_rfl) ?_ _
    go_wp2
    go_end0
    refine ⟨rfl, _, unhide HL, unhide HU, fun k hk => ?_⟩
    rw [unhide HV]
    exact unhide HF k hk
end Go.Proofs.Ytoddemcmmijoaaa

/- Links: slices.Delete of the first ones of a row of messages; drop. -/
namespace Go.Proofs.Ytoddemcmmijoaaa
open Go.RowKit Go.Deep
set_option maxRecDepth 100000

theorem zeros_one (j : Nat) : ∀ u ∈ (Builtin.zeroCells z17 j).toList, u.oneCell' = true := by
  intro u hu
  have h17 : ∀ k : Fin 17, (@getElem! (Array Value) Nat Value (fun xs i => i < xs.size) Array.instGetElem?NatLtSize instInhabitedValue z17 k.val).oneCell' = true := by decide
  have hu' : u ∈ Builtin.zeroCells z17 j := Array.mem_toList_iff.1 hu
  unfold Builtin.zeroCells at hu'
  obtain ⟨k, _, rfl⟩ := Array.mem_map.1 hu'
  exact h17 ⟨k % 17, Nat.mod_lt _ (by decide)⟩
/-- The first j of n are taken away: the others move down .. -/
theorem run_del_append {w : World} {g n cap j : Nat} {cur : Array Value} (hg : w.heap[g]? = some (.cells cur 38)) (hcs : cur.size = cap * 17) (hnc : n ≤ cap) (hj : 0 < j) (hjn : j ≤ n) (hone : ∀ u ∈ cur.toList.take (n * 17), u.oneCell' = true) (ty : TypeId) :
    (Builtin.append_ #[22, 22] ty #[.slice (some ⟨g, 0, none⟩) 0 cap, .slice (if cap = j then some ⟨g, 0, none⟩ else some ⟨g, j * 17, none⟩) (n - j) (cap - j)]).run Try.prog w =
      .ok (.slice (some ⟨g, 0, none⟩) (n - j) cap) (w.setRow g (((cur.toList.take (n * 17)).drop (j * 17)) ++ cur.toList.drop ((n - j) * 17)).toArray) := by
  obtain ⟨i0, hi, hz0, hz1, hz2⟩ := info_parts Try.infoM
  have hlen : ((cur.toList.take (n * 17)).drop (j * 17)).length = (n - j) * 17 := by
    rw [List.length_drop, List.length_take, Array.length_toList, hcs]
    omega
  obtain ⟨a, ha, hcell⟩ : ∃ a : Addr, (if cap = j then some (⟨g, 0, none⟩ : Addr) else some ⟨g, j * 17, none⟩) = some a ∧ ∀ k u, ((cur.toList.take (n * 17)).drop (j * 17))[k]? = some u → w.cell? (a.add k) = some u := by
    by_cases e : cap = j
    · refine ⟨⟨g, 0, none⟩, by rw [if_pos e], fun k u hu => ?_⟩
      have := (List.getElem?_eq_some_iff.1 hu).1
      omega
    · refine ⟨⟨g, j * 17, none⟩, by rw [if_neg e], fun k u hu => ?_⟩
      have ad : (⟨g, j * 17, none⟩ : Addr).add k = ⟨g, j * 17 + k, none⟩ := by unfold Addr.add; split <;> simp_all
      rw [ad, cell_heapM hg]
      rw [List.getElem?_drop, List.getElem?_take] at hu
      split at hu
      · simpa using hu
      · cases hu
  rw [ha]
  have hr := run_append_room (P := Try.prog) w 22 ty 38 i0 Try.underM hi g 0 cap cur hg a (n - j) (cap - j) ((cur.toList.take (n * 17)).drop (j * 17)) (by rw [hz1]; exact hlen) hcell (fun u hu => hone u (List.mem_of_mem_drop hu)) (by omega) (by rw [hz1, hlen, hcs]; omega)
  rw [hr]
  simp [hlen]
/-- .. and their old places are cleared. -/
theorem run_del_clear {w : World} {g n cap j : Nat} {cur : Array Value} (hg : w.heap[g]? = some (.cells cur 38)) (hcs : cur.size = cap * 17) (hnc : n ≤ cap) (hj : 0 < j) (hjn : j ≤ n) (ty : TypeId) (c : Nat) :
    (Builtin.clear_ #[22] ty #[.slice (some ⟨g, (n - j) * 17, none⟩) j c]).run Try.prog w =
      .ok (.tuple #[]) (w.setRow g (cur.toList.take ((n - j) * 17) ++ (Builtin.zeroCells z17 j).toList ++ cur.toList.drop (n * 17)).toArray) := by
  have hzl : (Builtin.zeroCells z17 j).toList.length = j * 17 := by rw [Array.length_toList, size_zeroCells]; rfl
  have hst := run_storeCells_at Try.prog g ((n - j) * 17) 38 (Builtin.zeroCells z17 j).toList 0 cur w hg (by rw [hzl, hcs]; omega) (zeros_one j)
  simp only [Nat.add_zero] at hst
  obtain ⟨m, rfl⟩ : ∃ m, j = m + 1 := ⟨j - 1, by omega⟩
  have e : (n - (m + 1)) * 17 + (m + 1) * 17 = n * 17 := by omega
  rw [hzl, e] at hst
  simp [Builtin.clear_, run_underlying Try.underM, Value.cells, hst]

set_option maxHeartbeats 1600000 in
theorem delete_any {w : World} {g n cap j : Nat} {cur : Array Value} (hg : w.heap[g]? = some (.cells cur 38)) (hcs : cur.size = cap * 17) (hnc : n ≤ cap) (hcap : cap ≤ 9223372036854775807) (hj : 0 < j) (hjn : j ≤ n) (hone : ∀ u ∈ cur.toList.take (n * 17), u.oneCell' = true) :
    Calls Try.prog 33 #[.slice (some ⟨g, 0, none⟩) n cap, .int .i64 0, .int .i64 j] w fun e w' => e = .returned (.slice (some ⟨g, 0, none⟩) (n - j) cap) ∧
      (∃ cur', w'.heap[g]? = some (.cells cur' 38) ∧ cur'.size = cap * 17 ∧ cur'.toList.take ((n - j) * 17) = (cur.toList.take (n * 17)).drop (j * 17)) ∧ w.grownBy w' (some g) := by
  have HA := hide (run_del_append (w := w.drew) (j := j) hg hcs hnc hj hjn hone 22)
  obtain ⟨c1, hc1⟩ : ∃ c, (((cur.toList.take (n * 17)).drop (j * 17)) ++ cur.toList.drop ((n - j) * 17)).toArray = c := ⟨_, rfl⟩
  have hlen : ((cur.toList.take (n * 17)).drop (j * 17)).length = (n - j) * 17 := by
    rw [List.length_drop, List.length_take, Array.length_toList, hcs]
    omega
  have hs1 : c1.size = cap * 17 := by
    rw [← hc1, List.size_toArray, List.length_append, hlen, List.length_drop, Array.length_toList, hcs]
    omega
  have ht1 : c1.toList.take ((n - j) * 17) = (cur.toList.take (n * 17)).drop (j * 17) := by
    rw [← hc1, List.toList_toArray, ← hlen]
    exact List.take_left
  rw [hc1] at HA
  have hg1 : (w.drew.setRow g c1).heap[g]? = some (.cells c1 38) := setRow_heap _ _ _ _ _ _ hg
  have HC := hide (fun c => run_del_clear (w := w.drew.setRow g c1) (j := j) hg1 hs1 hnc hj hjn 0 c)
  obtain ⟨c2, hc2⟩ : ∃ c, (c1.toList.take ((n - j) * 17) ++ (Builtin.zeroCells z17 j).toList ++ c1.toList.drop (n * 17)).toArray = c := ⟨_, rfl⟩
  rw [hc2] at HC
  have hzl : (Builtin.zeroCells z17 j).toList.length = j * 17 := by rw [Array.length_toList, size_zeroCells]; rfl
  have hl2 : (c1.toList.take ((n - j) * 17)).length = (n - j) * 17 := by rw [ht1]; exact hlen
  have hs2 : c2.size = cap * 17 := by
    rw [← hc2, List.size_toArray, List.length_append, List.length_append, hl2, hzl, List.length_drop, Array.length_toList, hs1]
    omega
  have ht2 : c2.toList.take ((n - j) * 17) = (cur.toList.take (n * 17)).drop (j * 17) := by
    rw [← hc2, List.toList_toArray, List.append_assoc, ← ht1]
    have := List.take_left (l₁ := c1.toList.take ((n - j) * 17)) (l₂ := (Builtin.zeroCells z17 j).toList ++ c1.toList.drop (n * 17))
    rwa [hl2] at this
  have HR : Hid ((∃ cur', ((w.drew.setRow g c1).setRow g c2).heap[g]? = some (.cells cur' 38) ∧ cur'.size = cap * 17 ∧ cur'.toList.take ((n - j) * 17) = (cur.toList.take (n * 17)).drop (j * 17)) ∧ w.grownBy ((w.drew.setRow g c1).setRow g c2) (some g)) :=
    ⟨⟨c2, setRow_heap _ _ _ _ _ _ hg1, hs2, ht2⟩, ⟨rfl, rfl, rfl, by simp, fun k _ hk => by
      have hne : k ≠ g := fun e => hk (by rw [e])
      rw [setRow_other _ _ _ _ hne, setRow_other _ _ _ _ hne]
      rfl⟩⟩
  clear hg hcs hone hc1 hlen hs1 ht1 hg1 hc2 hzl hl2 hs2 ht2
  have hne : decide ((0 : Int) = (j : Int)) = false := decide_eq_false (by omega)
  go_enter Try.func33, Try.ntmps33
  go_wp2_with fail
  refine wp_region_held_drew (S := fun _ => True) (by kernel_rfl) trivial (fun hHeld => ?_)
  refine wpAnyH_take (i := 0) (v := ?v1x0) rfl (by kernel_rfl) (by kernel_rfl) (by kernel_rfl) (fun _ _ _ h => h) (Or.inl ⟨by rfl, ?hy1x0⟩) (by assumption) ?rest1x0
  case hy1x0 => intro w hSw; go_simp <;> with_reducible rfl
  simp only [Act.put, List.getElem_toArray, List.getElem_cons_zero, List.setIfInBounds_toArray, List.set_cons_zero, List.set_cons_succ]
  refine wpAnyH_take (i := 1) (v := ?v2x1) rfl (by kernel_rfl) (by kernel_rfl) (by kernel_rfl) (fun _ _ _ h => h) (Or.inl ⟨by rfl, ?hy2x1⟩) (by assumption) ?rest2x1
  case hy2x1 => intro w hSw; go_simp <;> with_reducible rfl
  simp only [Act.put, List.getElem_toArray, List.getElem_cons_zero, List.getElem_cons_succ, List.setIfInBounds_toArray, List.set_cons_zero, List.set_cons_succ]
  refine wpAnyH_take (i := 2) (v := ?v3x2) rfl (by kernel_rfl) (by kernel_rfl) (by kernel_rfl) (fun _ _ _ h => h) (Or.inl ⟨by rfl, ?hy3x2⟩) (by assumption) ?rest3x2
  case hy3x2 => intro w hSw; go_simp <;> with_reducible rfl
  simp only [Act.put, List.getElem_toArray, List.getElem_cons_zero, List.getElem_cons_succ, List.setIfInBounds_toArray, List.set_cons_zero, List.set_cons_succ]
  refine wpAnyH_take (i := 3) (v := ?v4x3) rfl (by kernel_rfl) (by kernel_rfl) (by kernel_rfl) (fun _ _ _ h => h) (Or.inl ⟨by rfl, ?hy4x3⟩) (by assumption) ?rest4x3
  case hy4x3 => intro w hSw; go_simp <;> with_reducible rfl
  simp only [Act.put, List.getElem_toArray, List.getElem_cons_zero, List.getElem_cons_succ, List.setIfInBounds_toArray, List.set_cons_zero, List.set_cons_succ]
  refine wpAnyH_take (i := 4) (v := ?v5x4) rfl (by kernel_rfl) (by kernel_rfl) (by kernel_rfl) (fun _ _ _ h => h) (Or.inl ⟨by rfl, ?hy5x4⟩) (by assumption) ?rest5x4
  case hy5x4 => intro w hSw; go_simp <;> with_reducible rfl
  simp only [Act.put, List.getElem_toArray, List.getElem_cons_zero, List.getElem_cons_succ, List.setIfInBounds_toArray, List.set_cons_zero, List.set_cons_succ]
  refine wpAnyH_take (i := 5) (v := ?v6x5) rfl (by kernel_rfl) (by kernel_rfl) (by kernel_rfl) (fun _ _ _ h => h) (Or.inl ⟨by rfl, ?hy6x5⟩) (by assumption) ?rest6x5
  case hy6x5 => intro w hSw; go_simp <;> with_reducible rfl
  simp only [Act.put, List.getElem_toArray, List.getElem_cons_zero, List.getElem_cons_succ, List.setIfInBounds_toArray, List.set_cons_zero, List.set_cons_succ]
  have hr := unhide HA
  refine wpAnyH_ready (rs := [6]) (by kernel_rfl) (by simp) ?_
  refine AllReadyH.cons rfl (fun K hK => ?_) AllReadyH.nil
  rw [if_pos (by rfl)]
  refine append_upon rfl rfl rfl hr ?_
  simp only [Act.put, List.getElem_toArray, List.getElem_cons_zero, List.getElem_cons_succ, List.setIfInBounds_toArray, List.set_cons_zero, List.set_cons_succ]
  refine hK _ _ trivial ?_
  clear hK hHeld
  intro hHeld
  refine wpAnyH_take (i := 7) (v := ?v7x7) rfl (by kernel_rfl) (by kernel_rfl) (by kernel_rfl) (fun _ _ _ h => h) (Or.inl ⟨by rfl, ?hy7x7⟩) (by assumption) ?rest7x7
  case hy7x7 => intro w hSw; go_simp <;> with_reducible rfl
  simp only [Act.put, List.getElem_toArray, List.getElem_cons_zero, List.getElem_cons_succ, List.setIfInBounds_toArray, List.set_cons_zero]
  refine wpAnyH_done (by kernel_rfl) ?_ _
  clear hr HA
  generalize (if cap = j then (some ⟨g, 0, none⟩ : Option Addr) else some ⟨g, j * 17, none⟩) = A5
  have hC := unhide HC
  have hn2 : ¬ cap = n - j := by omega
  have hn3 : n - (n - j) = j := by omega
  go_wp2
  go_ret
  exact ⟨rfl, unhide HR⟩

/-- drop takes the first one away. -/
theorem drop_state {base : Nat} {w y : World} {P mb : Nat} {st : List PD} (H : LInv base w P mb st) {i : Nat} {q : PD} (hi : st[i]? = some q) {g n cap j : Nat} {cur cur' : Array Value} (hv : q.v = .slice (some ⟨g, 0, none⟩) n cap) (hn : q.l.length = n) (hjn : j ≤ n)
    (hg : w.heap[g]? = some (.cells cur 38)) (_hcs : cur.size = cap * 17) (hg' : y.heap[g]? = some (.cells cur' 38)) (hcs' : cur'.size = cap * 17) (htk : cur'.toList.take ((n - j) * 17) = (cur.toList.take (n * 17)).drop (j * 17)) (hgr : w.grownBy y (some g)) :
    y.heap[q.g]? = some (.cells #[.bool q.cut, q.v] 52) ∧ LInv base (y.setCell ⟨q.g, 1, none⟩ (.slice (some ⟨g, 0, none⟩) (n - j) cap)) P mb (st.set i { q with v := .slice (some ⟨g, 0, none⟩) (n - j) cap, l := q.l.drop j }) ∧ Upd q.own w (y.setCell ⟨q.g, 1, none⟩ (.slice (some ⟨g, 0, none⟩) (n - j) cap)) := by
  have hq : q ∈ st := List.mem_of_getElem? hi
  have hpq := H.pipe q hq
  obtain ⟨vs, hvs, hr, ha⟩ := hpq.row
  have hty := hpq.typed
  have hgo : q.own g := .inr (by rw [hv]; rfl)
  have hu1 : Upd q.own w y := .grown hgr (fun k h => by simp only [Option.some.injEq] at h; rw [← h]; exact hgo)
  have ng : q.g ≠ g := fun c => by
    have := hpq.box
    rw [c, hg] at this
    simp at this
  have hbox : y.heap[q.g]? = some (.cells #[.bool q.cut, q.v] 52) := (hgr.block _ (Array.getElem?_eq_some_iff.1 hpq.box).1 (by simpa using ng)).trans hpq.box
  have hu2 : Upd q.own w (y.setCell ⟨q.g, 1, none⟩ (.slice (some ⟨g, 0, none⟩) (n - j) cap)) := hu1.trans (Upd.set (S := q.own) (p := ⟨q.g, 1, none⟩) (.inl rfl) _) (fun _ h => .inl h)
  have hset := heap_setCell_same y q.g 1 _ 52 (.slice (some ⟨g, 0, none⟩) (n - j) cap) hbox
  have hgy : (y.setCell ⟨q.g, 1, none⟩ (.slice (some ⟨g, 0, none⟩) (n - j) cap)).heap[g]? = some (.cells cur' 38) := (heap_setCell_other _ _ _ _ (Ne.symm ng)).trans hg'
  have hbg : base ≤ g ∧ cap ≤ maxLen ∧ cur.toList.take (n * 17) = vs.flatMap msgCells ∧ n ≤ cap := by
    rcases hr.2 with ⟨e, _⟩ | ⟨g', cap', c', e, h1, h2, h3, h4, h5, h6⟩
    · rw [hv] at e; cases e
    · rw [hv] at e
      simp only [Value.slice.injEq, Option.some.injEq, Addr.mk.injEq, and_true] at e
      obtain ⟨rfl, e2, rfl⟩ := e
      rw [hg] at h2
      cases h2
      rw [hn] at h6 h3
      exact ⟨h1, h4, h6, h3⟩
  have hvl : vs.length = n := by rw [← hn, ← hvs]; simp
  refine ⟨hbox, ?_, hu2⟩
  refine H.turn hi hu2 rfl rfl rfl ⟨hpq.low, hset, ⟨vs.drop j, by rw [List.map_drop, hvs], ?_, fun p hp => (ha p (List.mem_of_mem_drop hp)).upd hu2 hty⟩, by simp only [List.length_drop]; have := hpq.short; omega⟩ (fun k hk => ?_)
  · have hfl : (vs.drop j).flatMap msgCells = (cur.toList.take (n * 17)).drop (j * 17) := by
      rw [hbg.2.2.1]
      have : ∀ (j : Nat) (vs : List MV), (vs.drop j).flatMap msgCells = (vs.flatMap msgCells).drop (j * 17) := by
        intro j
        induction j with
        | zero => intro vs; simp
        | succ j ih =>
          intro vs
          cases vs with
          | nil => simp
          | cons p r =>
            rw [List.drop_succ_cons, ih, List.flatMap_cons, show (j + 1) * 17 = (msgCells p).length + j * 17 by rw [msgCells_len]; omega, ← List.drop_drop, List.drop_left]
      exact this j vs
    have hln : (q.l.drop j).length = n - j := by rw [List.length_drop, hn]
    refine ⟨by rw [flatG_len, List.length_drop, hvl, hln], .inr ⟨g, cap, cur', by rw [hln], hbg.1, hgy, by rw [hln]; omega, hbg.2.1, hcs', by rw [hln, htk, hfl]⟩⟩
  · refine .inl ?_
    rcases hk with hk | hk
    · exact .inl hk
    · refine .inr ?_
      rw [hv]
      exact hk
set_option maxHeartbeats 1600000 in
theorem drop_any {base : Nat} {w : World} {P mb : Nat} {st : List PD} (H : LInv base w P mb st) {i : Nat} {q : PD} (hi : st[i]? = some q) (hl : 0 < q.l.length) :
    Calls Try.prog 21 #[P0 q.g, .int .i64 1] w fun e w' => e = .returned (.int .i64 1) ∧ ∃ v', LInv base w' P mb (st.set i { q with v := v', l := q.l.drop 1 }) ∧ Upd q.own w w' ∧ v'.ownBlock = q.v.ownBlock := by
  have hq : q ∈ st := List.mem_of_getElem? hi
  have hpq := H.pipe q hq
  obtain ⟨vs, hvs, hr, ha⟩ := hpq.row
  rcases hr.2 with ⟨e, h0⟩ | ⟨g, cap, cur, hv, hg0, hg, hnc, hcm, hcs, htk⟩
  · omega
  have hone : ∀ u ∈ cur.toList.take (q.l.length * 17), u.oneCell' = true := by rw [htk]; exact flatG_one vs ha
  have c1 := hpq.cell1
  rw [hv] at c1
  obtain ⟨n, hn⟩ : ∃ n, q.l.length = n := ⟨_, rfl⟩
  rw [hn] at hone c1 hnc hl
  have hv' : q.v = .slice (some ⟨g, 0, none⟩) n cap := by rw [hv, hn]
  have hcm' : cap ≤ 9223372036854775807 := by unfold maxLen at hcm; omega
  have HD := hide (delete_any (j := 1) hg hcs hnc hcm' (by omega) (by omega) hone)
  have HS := hide (fun (y : World) (cur' : Array Value) h1 h2 h3 h4 => drop_state H hi (j := 1) (y := y) (cur' := cur') hv' hn (by omega) hg hcs h1 h2 h3 h4)
  have hmin : min (1 : Int) (n : Int) = 1 := by omega
  have hmax : max (0 : Int) (1 : Int) = 1 := by decide
  have HV := hide hv'
  clear H hi hpq hvs hr ha hv hg0 hg hcm hcs htk hone hn hv' hq
  go_enter Try.func21, Try.ntmps21
  go_wp2_with (go_at_call 33; refine (unhide HD).mono ?_; rintro e w1 ⟨rfl, ⟨cur', k1, k2, k3⟩, k4⟩; obtain ⟨kb, kL, kU⟩ := unhide HS w1 cur' k1 k2 k3 k4; have kc : w1.cell? ⟨q.g, 1, none⟩ = some q.v := (by rw [cell_heapM kb]; rfl); have kf : w1.frozen? ⟨q.g, 1, none⟩ = false := frozen_of_heap kb; have KL := hide kL; have KU := hide kU; clear kL kU k1 k2 k3 k4 kb)
  go_ret
  refine ⟨rfl, _, unhide KL, unhide KU, ?_⟩
  rw [unhide HV]
  rfl
end Go.Proofs.Ytoddemcmmijoaaa
