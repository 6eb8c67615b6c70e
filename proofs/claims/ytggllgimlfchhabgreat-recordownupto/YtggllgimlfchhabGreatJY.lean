/- Several texts as one. -/
import Derived.Test.YtggllgimlfchhabGreatJH
import Derived.Laws.OwnMore
import Derived.RangeFuncBox
import Derived.Test.YtggllgimlfchhabGreatJM

/- Record: the writer. -/
namespace Go.Proofs.YtggllgimlfchhabGreat
open Go.RowKit
set_option maxRecDepth 100000

/-- append(s, x...), as a run. -/
theorem run_append_sees {w : World} (base : Nat) (v : Value) (xs : List Int) (hown : w.ownsRow base 5 1 v xs.length (ints .u8 xs)) (sv : Value) (zs : List Int) (hsee : Sees w .u8 sv zs) (hn : xs.length + zs.length ≤ 1099511627776) (hbase : base ≤ w.heap.size) (ty : TypeId) :
    ∃ v' w', (Builtin.append_ #[26, 26] ty #[v, sv]).run Tryz.prog w = .ok v' w' ∧ w'.ownsRow base 5 1 v' (xs ++ zs).length (ints .u8 (xs ++ zs)) ∧ w.grownBy w' v.ownBlock := by
  obtain ⟨i0, hi, hz0, hz1, hz2⟩ := info_parts Tryz.info5
  obtain ⟨ao, cap, rfl, hl, hnil, hc⟩ := hsee
  cases ao with
  | none =>
    obtain rfl := hnil rfl
    obtain rfl : zs = [] := List.length_eq_zero_iff.1 (by omega)
    exact ⟨v, w, run_append_owned_none (P := Tryz.prog) (w := w) base 26 ty 5 i0 1 Tryz.underlying26 hi v _ _ hown, by simpa using hown, grownBy_refl _ _⟩
  | some ad =>
    obtain ⟨v', w', h1, h2, h3, _⟩ := run_append_own (P := Tryz.prog) w base 26 ty 5 i0 (.int .u8 0) 1 1 Tryz.underlying26 hi hz0 hz1 hz2 rfl (by decide) v _ _ hown ad zs.length cap (ints .u8 zs) (by rw [ints_length]; omega)
      (fun j u hu => by obtain ⟨hj, rfl⟩ := ints_get hu; exact hc ad rfl j hj) (ints_cell _ _) (by unfold maxLen; omega) (by omega) hbase
    exact ⟨v', w', h1, by rw [ints_append, List.length_append]; exact h2, h3⟩

/-- Only the writer and its own rows of bytes are written. -/
structure Wrote (B lo : Nat) (w w' : World) : Prop where
  os : w'.os = w.os
  tape : w'.tape = w.tape
  output : w'.output = w.output
  size : w.heap.size ≤ w'.heap.size
  block : ∀ k, k < w.heap.size → k ≠ B → (k < lo ∨ ∀ cur, w.heap[k]? ≠ some (.cells cur 5 (0, 0))) → w'.heap[k]? = w.heap[k]?
theorem Wrote.refl (B lo : Nat) (w : World) : Wrote B lo w w := ⟨rfl, rfl, rfl, Nat.le_refl _, fun _ _ _ _ => rfl⟩
theorem Wrote.trans {B lo : Nat} {a b c : World} (h : Wrote B lo a b) (k : Wrote B lo b c) : Wrote B lo a c :=
  ⟨k.os.trans h.os, k.tape.trans h.tape, k.output.trans h.output, Nat.le_trans h.size k.size, fun i hi hB hc => by
    have e := h.block i hi hB hc
    exact (k.block i (Nat.lt_of_lt_of_le hi h.size) hB (hc.imp id (fun hc cur => by rw [e]; exact hc cur))).trans e⟩
theorem Wrote.of {B lo : Nat} {w w' : World} (h : Below w.heap.size w w') : Wrote B lo w w' := ⟨h.os, h.tape, h.output, h.size, fun k hk _ _ => h.block k hk⟩
theorem Wrote.grown {B lo : Nat} {w w' : World} {v : Value} {n : Nat} {xs : List Value} (ho : w.ownsRow lo 5 1 v n xs) (h : w.grownBy w' v.ownBlock) : Wrote B lo w w' :=
  ⟨h.os, h.tape, h.output, h.size, fun k hk _ hc => h.block k hk (by
    rcases ho.2 with ⟨rfl, _⟩ | ⟨g, cap, cur, rfl, hg, hh, _⟩
    · simp [Value.ownBlock]
    · simp only [Value.ownBlock, ne_eq, Option.some.injEq]
      rintro rfl
      rcases hc with hc | hc
      · omega
      · exact hc _ hh)⟩
theorem Wrote.set {B lo : Nat} {a w : World} (h : Wrote B lo a w) (o : Nat) (u : Value) : Wrote B lo a (w.setCell ⟨B, o, none⟩ u) :=
  h.trans ⟨rfl, rfl, rfl, by simp [World.setCell], fun k _ hB _ => Below.heap_setCell _ _ _ _ (fun e => hB e)⟩
theorem Wrote.drew {B lo : Nat} {a w : World} (h : Wrote B lo a w) : Wrote B lo a w.drew := ⟨h.os, h.tape, h.output, h.size, h.block⟩
/-- What lies below the writer is as it was. -/
theorem Wrote.below {B lo N : Nat} {w w' : World} (h : Wrote B lo w w') (hN : N ≤ B) (hl : N ≤ lo) (hs : N ≤ w.heap.size) : Below N w w' :=
  ⟨h.os, h.tape, h.output, h.size, fun k hk => h.block k (by omega) (by omega) (.inl (by omega))⟩
/-- A block of another type is as it was. -/
theorem Wrote.box {B lo b : Nat} {w w' : World} (h : Wrote B lo w w') {cs : Array Value} {T : TypeId} (hb : w.heap[b]? = some (.cells cs T (0, 0))) (hT : T ≠ 5) (hB : b ≠ B) : w'.heap[b]? = some (.cells cs T (0, 0)) :=
  (h.block b (Array.getElem?_eq_some_iff.1 hb).1 hB (.inr fun cur e => by rw [hb] at e; cases e; exact hT rfl)).trans hb

/-- The writer at block B has the bytes xs, in rows of its own from lo on. -/
structure Wr (w : World) (B lo : Nat) (xs : List Int) : Prop where
  own : ∃ v, w.cell? ⟨B, 0, none⟩ = some v ∧ w.ownsRow lo 5 1 v xs.length (ints .u8 xs)
  fr : ∀ o, w.frozen? ⟨B, o, none⟩ = false
  lt : B < lo
  le : lo ≤ w.heap.size

theorem Wr.below {w w' : World} {B lo : Nat} {xs : List Int} (h : Wr w B lo xs) (hb : Below w.heap.size w w') : Wr w' B lo xs := by
  obtain ⟨v, h1, h2⟩ := h.own
  have hl := h.lt; have hle := h.le
  exact ⟨⟨v, (hb.cell (p := ⟨B, 0, none⟩) (by show B < _; omega)).trans h1, own_below h2 hb⟩, fun o => (World.frozen?_of_block (w := w) (hb.block B (by omega))).trans (h.fr o), hl, Nat.le_trans hle hb.size⟩

/-- The writer's own append of what was made anew. -/
theorem Wr.step {w w1 : World} {B lo : Nat} {xs zs : List Int} {v x : Value} {n : Nat} (h : Wr w B lo xs) (hv : w.cell? ⟨B, 0, none⟩ = some v) (hb : Below w.heap.size w w1) (hx : w1.ownsRow w.heap.size 5 1 x n (ints .u8 zs)) (hn : xs.length + zs.length ≤ 1099511627776) (ty : TypeId) :
    ∃ av nv cv w2, (Builtin.append_ #[26, 26] ty #[v, x]).run Tryz.prog w1 = .ok (.slice av nv cv) w2 ∧ w2.frozen? ⟨B, 0, none⟩ = false ∧ (∃ u, w2.cell? ⟨B, 0, none⟩ = some u) ∧ Wr (w2.setCell ⟨B, 0, none⟩ (.slice av nv cv)) B lo (xs ++ zs) ∧ Wrote B lo w (w2.setCell ⟨B, 0, none⟩ (.slice av nv cv)) := by
  obtain ⟨v0, h1, h2⟩ := h.own
  rw [hv] at h1
  cases h1
  have hl := h.lt; have hle := h.le; have hs := hb.size
  have hw1 := h.below hb
  obtain ⟨_, hsee⟩ := sees_of_own hx
  have ho1 := own_below h2 hb
  obtain ⟨v', w2, hr, ho, hg⟩ := run_append_sees lo v xs ho1 x zs hsee hn (by omega) ty
  have hbk : w2.heap[B]? = w1.heap[B]? := hg.block B (by omega) (by
    intro e
    have := (ho1.lt B e.symm).1
    omega)
  have hc : w2.cell? ⟨B, 0, none⟩ = some v := (World.cell?_of_block (w := w1) hbk).trans ((hb.cell (p := ⟨B, 0, none⟩) (by show B < _; omega)).trans hv)
  have hf : ∀ o, w2.frozen? ⟨B, o, none⟩ = false := fun o => (World.frozen?_of_block (w := w1) hbk).trans (hw1.fr o)
  obtain ⟨av, cv, rfl⟩ := own_shape ho
  refine ⟨av, _, cv, w2, hr, hf 0, ⟨v, hc⟩, ⟨⟨_, World.cell?_setCell_same w2 _ _ hc, ?_⟩, fun o => by rw [World.frozen?_setCell]; exact hf o, hl, ?_⟩, (((Wrote.of hb).trans (Wrote.grown ho1 hg)).set 0 _)⟩
  · refine ho.kept (grownBy_setCell' w2 B _) ?_
    rcases ho.2 with ⟨e0, _⟩ | ⟨g, cap, cur, e0, hg', _⟩
    · exact .inl (by rw [e0]; rfl)
    · refine .inr fun e => ?_
      rw [e0] at e
      simp only [Value.ownBlock, Option.some.injEq] at e
      omega
  · have := hg.size
    simp [World.setCell]
    omega
end Go.Proofs.YtggllgimlfchhabGreat

/- Record: the writer's numbers and bytes. -/
namespace Go.Proofs.YtggllgimlfchhabGreat
open Go.RowKit
set_option maxRecDepth 100000

theorem append_upon {P : Program} {o : Oper} {a : Act} {w w' : World} {K : Act → World → Prop} {Q : Exit → Act → World → Prop} {s x : Operand} {t : TypeId} {v sv v' : Value}
    (ho : o.op = .call { callee := .builtin .append, args := #[s, x], argTypes := #[t, t] }) (hs : a.eval s = v) (hx : a.eval x = sv) (hr : (Builtin.append_ #[t, t] o.type #[v, sv]).run P w = .ok v' w') (h : K (a.put o.dst v') w') : Oper.wp P o a w K Q := by
  unfold Oper.wp
  simp [execOp, ho, resolve, invoke, builtin, hs, hx, hr, Result.andThen]
  exact h

set_option maxHeartbeats 400000 in
theorem nums_any {w : World} {B lo : Nat} {xs : List Int} (h : Wr w B lo xs) (lv : Value) (l : List Int) (hs : Sees w .i64 lv l) (hl : l.length ≤ 1099511627776) (hi : I64 l) (hn : xs.length + sizeL l ≤ 549755813888) :
    Calls Tryz.prog 54 #[.pointer (some ⟨B, 0, none⟩), lv] w fun e w' => e = .returned (.tuple #[]) ∧ Wr w' B lo (xs ++ putL l) ∧ Wrote B lo w w' := by
  obtain ⟨v, hv, _⟩ := h.own
  have hd : Below w.heap.size w w.drew := (Below.refl _ _).drew
  have HN := hide (num_any (.slice none 0 0) lv [] l w.drew (Sees.nil _ _) (hs.below hd) (by omega) hi (by simp; omega))
  simp only [List.length_nil, Nat.zero_add, List.nil_append] at HN
  have HW := hide (h.below hd)
  have HD : Hid (∀ w', Wr (w.drew) B lo xs → Wrote B lo w.drew w' → Wrote B lo w w') := fun w' _ k => (Wrote.of hd).trans k
  have HB : Hid (xs.length + (putL l).length ≤ 1099511627776) := by rw [putL_length]; show _ ≤ _; omega
  obtain ⟨ao, ca, rfl, _⟩ := id hs
  clear h hd hs
  go_enter Tryz.func54, Tryz.ntmps54
  go_wp2_with fail
  refine wp_region_held_drew (S := fun _ => True) (by kernel_rfl) trivial (fun hHeld => ?_)
  refine wpAnyH_take (i := 0) (v := ?v1x0) rfl (by kernel_rfl) (by kernel_rfl) (by kernel_rfl) (fun _ _ _ h => h) (Or.inl ⟨by rfl, ?hy1x0⟩) (by assumption) ?rest1x0
  case hy1x0 => intro w hSw; go_simp <;> with_reducible rfl
  simp only [Act.put, List.getElem_toArray, List.getElem_cons_zero, List.setIfInBounds_toArray, List.set_cons_zero, List.set_cons_succ]
  refine wpAnyH_take (i := 1) (v := ?v2x1) rfl (by kernel_rfl) (by kernel_rfl) (by kernel_rfl) (fun _ _ _ h => h) (Or.inl ⟨by rfl, ?hy2x1⟩) (by assumption) ?rest2x1
  case hy2x1 => intro w hSw; go_simp <;> with_reducible rfl
  simp only [Act.put, List.getElem_toArray, List.getElem_cons_zero, List.getElem_cons_succ, List.setIfInBounds_toArray, List.set_cons_zero, List.set_cons_succ]
  refine wpAnyH_take (i := 2) (v := ?v3x2) rfl (by kernel_rfl) (by kernel_rfl) (by kernel_rfl) (fun _ _ _ h => h) (Or.inl ⟨by rfl, ?hy3x2⟩) (by assumption) ?rest3x2
  case hy3x2 => intro w hSw; go_simp <;> with_reducible rfl
  simp only [Act.put, List.getElem_toArray, List.getElem_cons_zero, List.getElem_cons_succ, List.setIfInBounds_toArray, List.set_cons_zero, List.set_cons_succ]
  refine wpAnyH_take (i := 3) (v := ?v4x3) rfl (by kernel_rfl) (by kernel_rfl) (by kernel_rfl) (fun _ _ _ h => h) (Or.inl ⟨by rfl, ?hy4x3⟩) (by assumption) ?rest4x3
  case hy4x3 => intro w hSw; go_simp <;> with_reducible rfl
  simp only [Act.put, List.getElem_toArray, List.getElem_cons_zero, List.getElem_cons_succ, List.setIfInBounds_toArray, List.set_cons_zero, List.set_cons_succ]
  refine wpAnyH_take (i := 5) (v := ?v5x5) rfl (by kernel_rfl) (by kernel_rfl) (by kernel_rfl) (fun _ _ _ h => h) (Or.inl ⟨by rfl, ?hy5x5⟩) (by assumption) ?rest5x5
  case hy5x5 => intro w hSw; go_simp <;> with_reducible rfl
  simp only [Act.put, List.getElem_toArray, List.getElem_cons_zero, List.getElem_cons_succ, List.setIfInBounds_toArray, List.set_cons_zero, List.set_cons_succ]
  refine wpAnyH_ready (rs := [4, 6]) (by kernel_rfl) (by simp) ?_
  refine AllReadyH.cons rfl (fun K hK => ?_) (AllReadyH.cons rfl (fun K hK => ?_) AllReadyH.nil)
  · go_simp
    refine hK _ _ trivial ?_
    clear hK hHeld
    intro hHeld
    refine wpAnyH_ready (rs := [6]) (by kernel_rfl) (by simp) ?_
    refine AllReadyH.cons rfl (fun K hK => ?_) AllReadyH.nil
    go_simp
    refine (unhide HN).mono ?_
    rintro e wq ⟨x, rfl, ho, hb⟩
    refine hK _ _ trivial ?_
    clear hK hHeld
    intro hHeld
    obtain ⟨av, nv, cv, w2, hr, hf, ⟨u, hu⟩, hw, hwr⟩ := (unhide HW).step hv hb ho (unhide HB) 26
    obtain ⟨ax, cx, rfl⟩ := own_shape ho
    have HW2 : Hid (Wr (w2.setCell ⟨B, 0, none⟩ (.slice av nv cv)) B lo (xs ++ putL l) ∧ Wrote B lo w (w2.setCell ⟨B, 0, none⟩ (.slice av nv cv))) := ⟨hw, unhide HD _ (unhide HW) hwr⟩
    clear hw hwr ho hb
    refine wpAnyH_ready (rs := [7]) (by kernel_rfl) (by simp) ?_
    refine AllReadyH.cons rfl (fun K hK => ?_) AllReadyH.nil
    rw [if_pos (by rfl)]
    refine append_upon rfl rfl rfl hr ?_
    simp only [Act.put, List.getElem_toArray, List.getElem_cons_zero, List.getElem_cons_succ, List.setIfInBounds_toArray, List.set_cons_zero, List.set_cons_succ]
    refine hK _ _ trivial ?_
    clear hK hHeld
    intro hHeld
    clear hr
    refine wpAnyH_take (i := 8) (v := ?v6x8) rfl (by kernel_rfl) (by kernel_rfl) (by kernel_rfl) (fun _ _ _ h => h) (Or.inl ⟨by rfl, ?hy6x8⟩) (by assumption) ?rest6x8
    case hy6x8 => intro w hSw; go_simp <;> with_reducible rfl
    simp only [Act.put, List.getElem_toArray, List.getElem_cons_zero, List.getElem_cons_succ, List.setIfInBounds_toArray, List.set_cons_zero, List.set_cons_succ]
    refine wpAnyH_take (i := 9) (v := ?v7x9) rfl (by kernel_rfl) (by kernel_rfl) (by kernel_rfl) (fun _ _ _ h => h) (Or.inl ⟨by rfl, ?hy7x9⟩) (by assumption) ?rest7x9
    case hy7x9 => intro w hSw; go_simp <;> with_reducible rfl
    simp only [Act.put, List.getElem_toArray, List.getElem_cons_zero, List.getElem_cons_succ, List.setIfInBounds_toArray, List.set_cons_zero, List.set_cons_succ]
    refine wpAnyH_ready (rs := [10]) (by kernel_rfl) (by simp) ?_
    refine AllReadyH.cons rfl (fun K hK => ?_) AllReadyH.nil
    go_simp
    refine hK _ _ trivial ?_
    clear hK hHeld
    intro hHeld
    refine wpAnyH_done (by kernel_rfl) ?_ _
    go_wp2
    go_end0
    exact ⟨rfl, unhide HW2⟩
  · go_simp
    refine (unhide HN).mono ?_
    rintro e wq ⟨x, rfl, ho, hb⟩
    refine hK _ _ trivial ?_
    clear hK hHeld
    intro hHeld
    obtain ⟨av, nv, cv, w2, hr, hf, ⟨u, hu⟩, hw, hwr⟩ := (unhide HW).step hv hb ho (unhide HB) 26
    have hv2 : wq.cell? ⟨B, 0, none⟩ = some v := (hb.cell (p := ⟨B, 0, none⟩) (World.block_lt_of_cell? w _ hv)).trans hv
    obtain ⟨ax, cx, rfl⟩ := own_shape ho
    have HW2 : Hid (Wr (w2.setCell ⟨B, 0, none⟩ (.slice av nv cv)) B lo (xs ++ putL l) ∧ Wrote B lo w (w2.setCell ⟨B, 0, none⟩ (.slice av nv cv))) := ⟨hw, unhide HD _ (unhide HW) hwr⟩
    clear hw hwr ho hb
    refine wpAnyH_ready (rs := [4]) (by kernel_rfl) (by simp) ?_
    refine AllReadyH.cons rfl (fun K hK => ?_) AllReadyH.nil
    go_simp
    refine hK _ _ trivial ?_
    clear hK hHeld
    intro hHeld
    refine wpAnyH_ready (rs := [7]) (by kernel_rfl) (by simp) ?_
    refine AllReadyH.cons rfl (fun K hK => ?_) AllReadyH.nil
    rw [if_pos (by rfl)]
    refine append_upon rfl rfl rfl hr ?_
    simp only [Act.put, List.getElem_toArray, List.getElem_cons_zero, List.getElem_cons_succ, List.setIfInBounds_toArray, List.set_cons_zero, List.set_cons_succ]
    refine hK _ _ trivial ?_
    clear hK hHeld
    intro hHeld
    clear hr
    refine wpAnyH_take (i := 8) (v := ?v8x8) rfl (by kernel_rfl) (by kernel_rfl) (by kernel_rfl) (fun _ _ _ h => h) (Or.inl ⟨by rfl, ?hy8x8⟩) (by assumption) ?rest8x8
    case hy8x8 => intro w hSw; go_simp <;> with_reducible rfl
    simp only [Act.put, List.getElem_toArray, List.getElem_cons_zero, List.getElem_cons_succ, List.setIfInBounds_toArray, List.set_cons_zero, List.set_cons_succ]
    refine wpAnyH_take (i := 9) (v := ?v9x9) rfl (by kernel_rfl) (by kernel_rfl) (by kernel_rfl) (fun _ _ _ h => h) (Or.inl ⟨by rfl, ?hy9x9⟩) (by assumption) ?rest9x9
    case hy9x9 => intro w hSw; go_simp <;> with_reducible rfl
    simp only [Act.put, List.getElem_toArray, List.getElem_cons_zero, List.getElem_cons_succ, List.setIfInBounds_toArray, List.set_cons_zero, List.set_cons_succ]
    refine wpAnyH_ready (rs := [10]) (by kernel_rfl) (by simp) ?_
    refine AllReadyH.cons rfl (fun K hK => ?_) AllReadyH.nil
    go_simp
    refine hK _ _ trivial ?_
    clear hK hHeld
    intro hHeld
    refine wpAnyH_done (by kernel_rfl) ?_ _
    go_wp2
    go_end0
    exact ⟨rfl, unhide HW2⟩

set_option maxHeartbeats 400000 in
theorem wblob_any {w : World} {B lo : Nat} {xs : List Int} (h : Wr w B lo xs) (lv : Value) (l : List Int) (hs : Sees w .u8 lv l) (hn : xs.length + l.length ≤ 549755813888) :
    Calls Tryz.prog 86 #[.pointer (some ⟨B, 0, none⟩), lv] w fun e w' => e = .returned (.tuple #[]) ∧ Wr w' B lo (xs ++ (putL [(l.length : Int)] ++ l)) ∧ Wrote B lo w w' := by
  obtain ⟨v, hv, _⟩ := h.own
  have hd : Below w.heap.size w w.drew := (Below.refl _ _).drew
  have HN := hide (blob_any (.slice none 0 0) lv [] l w.drew (Sees.nil _ _) (hs.below hd) (by simp; omega))
  simp only [List.length_nil, Nat.zero_add, List.nil_append] at HN
  have HW := hide (h.below hd)
  have HD : Hid (∀ w', Wr (w.drew) B lo xs → Wrote B lo w.drew w' → Wrote B lo w w') := fun w' _ k => (Wrote.of hd).trans k
  have HB : Hid (xs.length + (putL [(l.length : Int)] ++ l).length ≤ 1099511627776) := by rw [List.length_append, putL_length]; have := sizeL_le [(l.length : Int)]; simp at this; show _ ≤ _; omega
  obtain ⟨ao, ca, rfl, _⟩ := id hs
  clear h hd hs
  go_enter Tryz.func86, Tryz.ntmps86
  go_wp2_with fail
  refine wp_region_held_drew (S := fun _ => True) (by kernel_rfl) trivial (fun hHeld => ?_)
  refine wpAnyH_take (i := 0) (v := ?v10x0) rfl (by kernel_rfl) (by kernel_rfl) (by kernel_rfl) (fun _ _ _ h => h) (Or.inl ⟨by rfl, ?hy10x0⟩) (by assumption) ?rest10x0
  case hy10x0 => intro w hSw; go_simp <;> with_reducible rfl
  simp only [Act.put, List.getElem_toArray, List.getElem_cons_zero, List.setIfInBounds_toArray, List.set_cons_zero, List.set_cons_succ]
  refine wpAnyH_take (i := 1) (v := ?v11x1) rfl (by kernel_rfl) (by kernel_rfl) (by kernel_rfl) (fun _ _ _ h => h) (Or.inl ⟨by rfl, ?hy11x1⟩) (by assumption) ?rest11x1
  case hy11x1 => intro w hSw; go_simp <;> with_reducible rfl
  simp only [Act.put, List.getElem_toArray, List.getElem_cons_zero, List.getElem_cons_succ, List.setIfInBounds_toArray, List.set_cons_zero, List.set_cons_succ]
  refine wpAnyH_take (i := 2) (v := ?v12x2) rfl (by kernel_rfl) (by kernel_rfl) (by kernel_rfl) (fun _ _ _ h => h) (Or.inl ⟨by rfl, ?hy12x2⟩) (by assumption) ?rest12x2
  case hy12x2 => intro w hSw; go_simp <;> with_reducible rfl
  simp only [Act.put, List.getElem_toArray, List.getElem_cons_zero, List.getElem_cons_succ, List.setIfInBounds_toArray, List.set_cons_zero, List.set_cons_succ]
  refine wpAnyH_take (i := 3) (v := ?v13x3) rfl (by kernel_rfl) (by kernel_rfl) (by kernel_rfl) (fun _ _ _ h => h) (Or.inl ⟨by rfl, ?hy13x3⟩) (by assumption) ?rest13x3
  case hy13x3 => intro w hSw; go_simp <;> with_reducible rfl
  simp only [Act.put, List.getElem_toArray, List.getElem_cons_zero, List.getElem_cons_succ, List.setIfInBounds_toArray, List.set_cons_zero, List.set_cons_succ]
  refine wpAnyH_take (i := 5) (v := ?v14x5) rfl (by kernel_rfl) (by kernel_rfl) (by kernel_rfl) (fun _ _ _ h => h) (Or.inl ⟨by rfl, ?hy14x5⟩) (by assumption) ?rest14x5
  case hy14x5 => intro w hSw; go_simp <;> with_reducible rfl
  simp only [Act.put, List.getElem_toArray, List.getElem_cons_zero, List.getElem_cons_succ, List.setIfInBounds_toArray, List.set_cons_zero, List.set_cons_succ]
  refine wpAnyH_ready (rs := [4, 6]) (by kernel_rfl) (by simp) ?_
  refine AllReadyH.cons rfl (fun K hK => ?_) (AllReadyH.cons rfl (fun K hK => ?_) AllReadyH.nil)
  · go_simp
    refine hK _ _ trivial ?_
    clear hK hHeld
    intro hHeld
    refine wpAnyH_ready (rs := [6]) (by kernel_rfl) (by simp) ?_
    refine AllReadyH.cons rfl (fun K hK => ?_) AllReadyH.nil
    go_simp
    refine (unhide HN).mono ?_
    rintro e wq ⟨x, rfl, ho, hb⟩
    refine hK _ _ trivial ?_
    clear hK hHeld
    intro hHeld
    obtain ⟨av, nv, cv, w2, hr, hf, ⟨u, hu⟩, hw, hwr⟩ := (unhide HW).step hv hb ho (unhide HB) 26
    obtain ⟨ax, cx, rfl⟩ := own_shape ho
    have HW2 : Hid (Wr (w2.setCell ⟨B, 0, none⟩ (.slice av nv cv)) B lo (xs ++ (putL [(l.length : Int)] ++ l)) ∧ Wrote B lo w (w2.setCell ⟨B, 0, none⟩ (.slice av nv cv))) := ⟨hw, unhide HD _ (unhide HW) hwr⟩
    clear hw hwr ho hb
    refine wpAnyH_ready (rs := [7]) (by kernel_rfl) (by simp) ?_
    refine AllReadyH.cons rfl (fun K hK => ?_) AllReadyH.nil
    rw [if_pos (by rfl)]
    refine append_upon rfl rfl rfl hr ?_
    simp only [Act.put, List.getElem_toArray, List.getElem_cons_zero, List.getElem_cons_succ, List.setIfInBounds_toArray, List.set_cons_zero, List.set_cons_succ]
    refine hK _ _ trivial ?_
    clear hK hHeld
    intro hHeld
    clear hr
    refine wpAnyH_take (i := 8) (v := ?v15x8) rfl (by kernel_rfl) (by kernel_rfl) (by kernel_rfl) (fun _ _ _ h => h) (Or.inl ⟨by rfl, ?hy15x8⟩) (by assumption) ?rest15x8
    case hy15x8 => intro w hSw; go_simp <;> with_reducible rfl
    simp only [Act.put, List.getElem_toArray, List.getElem_cons_zero, List.getElem_cons_succ, List.setIfInBounds_toArray, List.set_cons_zero, List.set_cons_succ]
    refine wpAnyH_take (i := 9) (v := ?v16x9) rfl (by kernel_rfl) (by kernel_rfl) (by kernel_rfl) (fun _ _ _ h => h) (Or.inl ⟨by rfl, ?hy16x9⟩) (by assumption) ?rest16x9
    case hy16x9 => intro w hSw; go_simp <;> with_reducible rfl
    simp only [Act.put, List.getElem_toArray, List.getElem_cons_zero, List.getElem_cons_succ, List.setIfInBounds_toArray, List.set_cons_zero, List.set_cons_succ]
    refine wpAnyH_ready (rs := [10]) (by kernel_rfl) (by simp) ?_
    refine AllReadyH.cons rfl (fun K hK => ?_) AllReadyH.nil
    go_simp
    refine hK _ _ trivial ?_
    clear hK hHeld
    intro hHeld
    refine wpAnyH_done (by kernel_rfl) ?_ _
    go_wp2
    go_end0
    exact ⟨rfl, unhide HW2⟩
  · go_simp
    refine (unhide HN).mono ?_
    rintro e wq ⟨x, rfl, ho, hb⟩
    refine hK _ _ trivial ?_
    clear hK hHeld
    intro hHeld
    obtain ⟨av, nv, cv, w2, hr, hf, ⟨u, hu⟩, hw, hwr⟩ := (unhide HW).step hv hb ho (unhide HB) 26
    have hv2 : wq.cell? ⟨B, 0, none⟩ = some v := (hb.cell (p := ⟨B, 0, none⟩) (World.block_lt_of_cell? w _ hv)).trans hv
    obtain ⟨ax, cx, rfl⟩ := own_shape ho
    have HW2 : Hid (Wr (w2.setCell ⟨B, 0, none⟩ (.slice av nv cv)) B lo (xs ++ (putL [(l.length : Int)] ++ l)) ∧ Wrote B lo w (w2.setCell ⟨B, 0, none⟩ (.slice av nv cv))) := ⟨hw, unhide HD _ (unhide HW) hwr⟩
    clear hw hwr ho hb
    refine wpAnyH_ready (rs := [4]) (by kernel_rfl) (by simp) ?_
    refine AllReadyH.cons rfl (fun K hK => ?_) AllReadyH.nil
    go_simp
    refine hK _ _ trivial ?_
    clear hK hHeld
    intro hHeld
    refine wpAnyH_ready (rs := [7]) (by kernel_rfl) (by simp) ?_
    refine AllReadyH.cons rfl (fun K hK => ?_) AllReadyH.nil
    rw [if_pos (by rfl)]
    refine append_upon rfl rfl rfl hr ?_
    simp only [Act.put, List.getElem_toArray, List.getElem_cons_zero, List.getElem_cons_succ, List.setIfInBounds_toArray, List.set_cons_zero, List.set_cons_succ]
    refine hK _ _ trivial ?_
    clear hK hHeld
    intro hHeld
    clear hr
    refine wpAnyH_take (i := 8) (v := ?v17x8) rfl (by kernel_rfl) (by kernel_rfl) (by kernel_rfl) (fun _ _ _ h => h) (Or.inl ⟨by rfl, ?hy17x8⟩) (by assumption) ?rest17x8
    case hy17x8 => intro w hSw; go_simp <;> with_reducible rfl
    simp only [Act.put, List.getElem_toArray, List.getElem_cons_zero, List.getElem_cons_succ, List.setIfInBounds_toArray, List.set_cons_zero, List.set_cons_succ]
    refine wpAnyH_take (i := 9) (v := ?v18x9) rfl (by kernel_rfl) (by kernel_rfl) (by kernel_rfl) (fun _ _ _ h => h) (Or.inl ⟨by rfl, ?hy18x9⟩) (by assumption) ?rest18x9
    case hy18x9 => intro w hSw; go_simp <;> with_reducible rfl
    simp only [Act.put, List.getElem_toArray, List.getElem_cons_zero, List.getElem_cons_succ, List.setIfInBounds_toArray, List.set_cons_zero, List.set_cons_succ]
    refine wpAnyH_ready (rs := [10]) (by kernel_rfl) (by simp) ?_
    refine AllReadyH.cons rfl (fun K hK => ?_) AllReadyH.nil
    go_simp
    refine hK _ _ trivial ?_
    clear hK hHeld
    intro hHeld
    refine wpAnyH_done (by kernel_rfl) ?_ _
    go_wp2
    go_end0
    exact ⟨rfl, unhide HW2⟩
end Go.Proofs.YtggllgimlfchhabGreat

/- Record: keys, written. -/
namespace Go.Proofs.YtggllgimlfchhabGreat
open Go.RowKit
set_option maxRecDepth 100000

theorem sees_lit (w : World) (zs : List Int) (h : zs.length ≤ 9223372036854775807) : Sees (w.alloc (.cells (ints .i64 zs).toArray 2)) .i64 (.slice (some ⟨w.heap.size, 0, none⟩) zs.length zs.length) zs :=
  (sees_of_own (own_new w .i64 zs 2 w.heap.size zs.length rfl (Nat.le_refl _) (by unfold maxLen; omega))).2
theorem i64_of {l : List Int} (h : ∀ x ∈ l, -9223372036854775808 ≤ x ∧ x ≤ 9223372036854775807) : I64 l := fun t ht => by
  have e : l.getD t 0 = l[t] := by simp [List.getD, ht]
  rw [e]
  exact h _ (List.getElem_mem ht)
/-- The numbers of keys. -/
def keyN : List (Int × Int) → List Int
  | [] => []
  | k :: l => k.1 :: k.2 :: keyN l
theorem keyN_append (a b : List (Int × Int)) : keyN (a ++ b) = keyN a ++ keyN b := by
  induction a with
  | nil => rfl
  | cons x r ih => simp [keyN, ih]
theorem keyN_length (l : List (Int × Int)) : (keyN l).length = 2 * l.length := by
  induction l with
  | nil => rfl
  | cons x r ih => simp [keyN, ih]; omega
/-- Keys that lie in memory. -/
def OkK (l : List (Int × Int)) : Prop := ∀ k ∈ l, (-2147483648 ≤ k.1 ∧ k.1 ≤ 2147483647) ∧ (-9223372036854775808 ≤ k.2 ∧ k.2 ≤ 9223372036854775807)
theorem OkK.at {l : List (Int × Int)} (h : OkK l) {t : Nat} (ht : t < l.length) : (-2147483648 ≤ (l.getD t (0, 0)).1 ∧ (l.getD t (0, 0)).1 ≤ 2147483647) ∧ (-9223372036854775808 ≤ (l.getD t (0, 0)).2 ∧ (l.getD t (0, 0)).2 ≤ 9223372036854775807) := by
  have e : l.getD t (0, 0) = l[t] := by simp [List.getD, ht]
  rw [e]
  exact h _ (List.getElem_mem ht)

set_option maxHeartbeats 800000 in
theorem key_any {w : World} {B lo : Nat} {xs : List Int} (h : Wr w B lo xs) (a b : Int) (ha : -2147483648 ≤ a ∧ a ≤ 2147483647) (hb : -9223372036854775808 ≤ b ∧ b ≤ 9223372036854775807) (hn : xs.length ≤ 274877906944) :
    Calls Tryz.prog 88 #[.agg #[.pointer (some ⟨B, 0, none⟩)], .agg #[.int .i32 a, .int .i64 b]] w fun e w' => e = .returned (.tuple #[]) ∧ Wr w' B lo (xs ++ putL [a, b]) ∧ Wrote B lo w w' := by
  have hwa : IntKind.i64.wrap a = a := wrap_i64 _ (by omega) (by omega)
  have hal : Below w.heap.size w (((w.alloc (.cells #[.pointer (some ⟨B, 0, none⟩)] 60)).alloc (.cells #[.int .i32 a, .int .i64 b] 91)).alloc (.cells #[.int .i64 a, .int .i64 b] 2)) := ((((Below.refl _ _).alloc (Nat.le_refl _) _).alloc (by simp) _).alloc (by simp; omega) _)
  have hs := sees_lit ((w.alloc (.cells #[.pointer (some ⟨B, 0, none⟩)] 60)).alloc (.cells #[.int .i32 a, .int .i64 b] 91)) [a, b] (by simp)
  have hsz : sizeL [a, b] ≤ 18 := sizeL_le [a, b]
  have HN := hide (nums_any (h.below hal) _ [a, b] hs (by simp) (i64_of fun x hx => by simp at hx; rcases hx with rfl | rfl <;> omega) (by omega))
  have HW : Hid (Wrote B lo w _) := Wrote.of hal
  clear h hal hs hsz ha hb
  go_enter Tryz.func88, Tryz.ntmps88
  go_wp2_with fail
  simp only [List.length_cons, List.length_nil, Nat.reduceAdd, World.size_alloc] at HN
  refine (unhide HN).mono ?_
  rintro e w2 ⟨rfl, h1, h2⟩
  have HR : Hid (Wr w2 B lo (xs ++ putL [a, b]) ∧ Wrote B lo w w2) := ⟨h1, (unhide HW).trans h2⟩
  clear h1 h2
  go_wp2_with fail
  go_end0
  exact ⟨rfl, unhide HR⟩

theorem take_keys (l : List (Int × Int)) (t : Nat) (ht : t < l.length) : keyN (l.take (t + 1)) = keyN (l.take t) ++ [(l.getD t (0, 0)).1, (l.getD t (0, 0)).2] := by
  have e : l.take (t + 1) = l.take t ++ [l.getD t (0, 0)] := by
    rw [List.take_add_one]
    simp [List.getD, ht]
  rw [e, keyN_append]
  rfl

set_option maxHeartbeats 1600000 in
theorem putKeys_any {w : World} {B lo N : Nat} {xs : List Int} (h : Wr w B lo xs) (v : Value) (l : List (Int × Int)) (hN : N ≤ B) (hK : ∀ w', Below N w w' → SeesK w' v l) (hk : OkK l) (hl : l.length ≤ 4096) (hn : xs.length ≤ 137438953472) :
    Calls Tryz.prog 87 #[.pointer (some ⟨B, 0, none⟩), v, .func (.func 88) #[.agg #[.pointer (some ⟨B, 0, none⟩)]] #[]] w fun e w' => e = .returned (.tuple #[]) ∧ Wr w' B lo (xs ++ putL ((l.length : Int) :: keyN l)) ∧ Wrote B lo w w' := by
  have hlt := h.lt; have hle := h.le
  have HK := hide hK
  obtain ⟨ao, cap, _, _, rfl, hcap, _⟩ := hK w (Below.refl _ _)
  have hal : Below w.heap.size w (w.alloc (.cells #[.int .i64 (l.length : Int)] 2)) := (Below.refl _ _).alloc (Nat.le_refl _) _
  have hs := sees_lit w [(l.length : Int)] (by simp)
  have hsz : sizeL [(l.length : Int)] ≤ 9 := sizeL_le [(l.length : Int)]
  have HN := hide (nums_any (h.below hal) _ [(l.length : Int)] hs (by simp) (i64_of fun x hx => by simp at hx; subst hx; omega) (by omega))
  have HW : Hid (Wrote B lo w _) := Wrote.of hal
  have HOK := hide hk
  have HWB : Hid (∀ w', Wrote B lo w w' → Below N w w') := fun w' k => k.below hN (by omega) (by omega)
  clear h hal hs hsz hK hk hlt hle
  go_enter Tryz.func87, Tryz.ntmps87
  go_wp2_with fail
  simp only [List.length_cons, List.length_nil, Nat.reduceAdd] at HN
  refine (unhide HN).mono ?_
  rintro e w2 ⟨rfl, h1, h2⟩
  have HR : Hid (Wr w2 B lo (xs ++ putL [(l.length : Int)]) ∧ Wrote B lo w w2) := ⟨h1, (unhide HW).trans h2⟩
  clear h1 h2 HN
  go_wp2
  go_loopw [15] (fun c wr => ∃ t : Nat, t ≤ l.length ∧ c = .int .i64 t ∧ Wr wr B lo (xs ++ putL ((l.length : Int) :: keyN (l.take t))) ∧ Wrote B lo w wr) (fun c _ => l.length - (intOf c).toNat)
  case atStart => exact ⟨0, by omega, rfl, (unhide HR).1, (unhide HR).2⟩
  case round =>
    obtain ⟨t, ht, rfl, hw, hwr⟩ := hrel
    by_cases hlt : t < l.length
    · obtain ⟨ao', cap', gb, ob, hv, _, _, hao, hcl⟩ := unhide HK wr (unhide HWB _ hwr)
      simp only [Value.slice.injEq, true_and] at hv
      obtain ⟨rfl, rfl⟩ := hv
      obtain rfl := hao (by omega)
      obtain ⟨c0, c1⟩ := hcl t hlt
      have hok := (unhide HOK).at hlt
      have htk := take_keys l t hlt
      obtain ⟨k, hk⟩ : ∃ k, l.getD t (0, 0) = k := ⟨_, rfl⟩
      rw [hk] at c0 c1 hok htk
      obtain ⟨a, b⟩ := k
      simp only at c0 c1 hok htk
      have hal : Below wr.heap.size wr (wr.alloc (.cells #[.int .i32 a, .int .i64 b] 91)) := (Below.refl _ _).alloc (Nat.le_refl _) _
      have hlen : (xs ++ putL ((l.length : Int) :: keyN (l.take t))).length ≤ 274877906944 := by
        rw [List.length_append, putL_length]
        have := sizeL_le ((l.length : Int) :: keyN (l.take t))
        rw [List.length_cons, keyN_length, List.length_take] at this
        omega
      have HC := hide (key_any (hw.below hal) a b hok.1 hok.2 hlen)
      have HW2 : Hid (Wrote B lo w _) := hwr.trans (Wrote.of hal)
      have HTK := hide htk
      clear hcl hao hk hok htk hw hwr hal hlen
      go_wp2_with fail
      refine (unhide HC).mono ?_
      rintro e w3 ⟨rfl, h1, h2⟩
      have HR3 : Hid (Wr w3 B lo (xs ++ putL ((l.length : Int) :: keyN (l.take (t + 1)))) ∧ Wrote B lo w w3) := ⟨by rw [unhide HTK]; rw [List.append_assoc, ← putL_append] at h1; exact h1, (unhide HW2).trans h2⟩
      clear h1 h2 HC
      go_wp2
      go_roundw
      case rel => exact ⟨t + 1, by omega, by go_num, (unhide HR3).1, (unhide HR3).2⟩
      case measure => simp [intOf]; omega
    · have HE : Hid (Wr wr B lo (xs ++ putL ((l.length : Int) :: keyN l)) ∧ Wrote B lo w wr) := by
        rw [List.take_of_length_le (by omega)] at hw
        exact ⟨hw, hwr⟩
      clear hw hwr
      go_wp2
      go_end0
      exact ⟨rfl, unhide HE⟩
end Go.Proofs.YtggllgimlfchhabGreat
