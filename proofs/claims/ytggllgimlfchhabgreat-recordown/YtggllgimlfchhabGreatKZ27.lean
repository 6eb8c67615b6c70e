/- Several texts as one. -/
import Derived.Test.YtggllgimlfchhabGreatKB
import Derived.Laws.OwnMore
import Derived.RangeFuncBox
import Derived.Test.YtggllgimlfchhabGreatKP

/- Record: the writer. -/
namespace Go.Proofs.YtggllgimlfchhabGreat
open Go.RowKit
set_option maxRecDepth 100000

/-- append(s, x...), as a run. -/
theorem run_append_sees {w : World} (base : Nat) (v : Value) (xs : List Int) (hown : w.ownsRow base 5 1 v xs.length (ints .u8 xs)) (sv : Value) (zs : List Int) (hsee : Sees w .u8 sv zs) (hn : xs.length + zs.length ≤ 1099511627776) (hbase : base ≤ w.heap.size) (ty : TypeId) :
    ∃ v' w', (Builtin.append_ #[26, 26] ty #[v, sv]).run Tryz.prog w = .ok v' w' ∧ w'.ownsRow base 5 1 v' (xs ++ zs).length (ints .u8 (xs ++ zs)) ∧ w.grownBy w' v.ownBlock := by
  obtain ⟨i0, hi, hz0, hz1, hz2⟩ := info_parts Tryz.info5
  obtain ⟨ao, cap, rfl, hl, hnil, hc⟩ := hsee
  cases ao with
  | none =>
    obtain rfl := hnil rfl
    obtain rfl : zs = [] := List.length_eq_zero_iff.1 (by omega)
    exact ⟨v, w, run_append_owned_none (P := Tryz.prog) (w := w) base 26 ty 5 i0 1 Tryz.underlying26 hi v _ _ hown, by simpa using hown, grownBy_refl _ _⟩
  | some ad =>
    obtain ⟨v', w', h1, h2, h3, _⟩ := run_append_own (P := Tryz.prog) w base 26 ty 5 i0 (.int .u8 0) 1 1 Tryz.underlying26 hi hz0 hz1 hz2 rfl (by decide) v _ _ hown ad zs.length cap (ints .u8 zs) (by rw [ints_length]; omega)
      (fun j u hu => by obtain ⟨hj, rfl⟩ := ints_get hu; exact hc ad rfl j hj) (ints_cell _ _) (by unfold maxLen; omega) (by omega) hbase
    exact ⟨v', w', h1, by rw [ints_append, List.length_append]; exact h2, h3⟩

/-- Only the writer and its own rows of bytes are written. -/
structure Wrote (B lo : Nat) (w w' : World) : Prop where
  os : w'.os = w.os
  tape : w'.tape = w.tape
  output : w'.output = w.output
  size : w.heap.size ≤ w'.heap.size
  block : ∀ k, k < w.heap.size → k ≠ B → (k < lo ∨ ∀ cur, w.heap[k]? ≠ some (.cells cur 5 (0, 0))) → w'.heap[k]? = w.heap[k]?
theorem Wrote.refl (B lo : Nat) (w : World) : Wrote B lo w w := ⟨rfl, rfl, rfl, Nat.le_refl _, fun _ _ _ _ => rfl⟩
theorem Wrote.trans {B lo : Nat} {a b c : World} (h : Wrote B lo a b) (k : Wrote B lo b c) : Wrote B lo a c :=
  ⟨k.os.trans h.os, k.tape.trans h.tape, k.output.trans h.output, Nat.le_trans h.size k.size, fun i hi hB hc => by
    have e := h.block i hi hB hc
    exact (k.block i (Nat.lt_of_lt_of_le hi h.size) hB (hc.imp id (fun hc cur => by rw [e]; exact hc cur))).trans e⟩
theorem Wrote.of {B lo : Nat} {w w' : World} (h : Below w.heap.size w w') : Wrote B lo w w' := ⟨h.os, h.tape, h.output, h.size, fun k hk _ _ => h.block k hk⟩
theorem Wrote.grown {B lo : Nat} {w w' : World} {v : Value} {n : Nat} {xs : List Value} (ho : w.ownsRow lo 5 1 v n xs) (h : w.grownBy w' v.ownBlock) : Wrote B lo w w' :=
  ⟨h.os, h.tape, h.output, h.size, fun k hk _ hc => h.block k hk (by
    rcases ho.2 with ⟨rfl, _⟩ | ⟨g, cap, cur, rfl, hg, hh, _⟩
    · simp [Value.ownBlock]
    · simp only [Value.ownBlock, ne_eq, Option.some.injEq]
      rintro rfl
      rcases hc with hc | hc
      · omega
      · exact hc _ hh)⟩
theorem Wrote.set {B lo : Nat} {a w : World} (h : Wrote B lo a w) (o : Nat) (u : Value) : Wrote B lo a (w.setCell ⟨B, o, none⟩ u) :=
  h.trans ⟨rfl, rfl, rfl, by simp [World.setCell], fun k _ hB _ => Below.heap_setCell _ _ _ _ (fun e => hB e)⟩
theorem Wrote.drew {B lo : Nat} {a w : World} (h : Wrote B lo a w) : Wrote B lo a w.drew := ⟨h.os, h.tape, h.output, h.size, h.block⟩
/-- What lies below the writer is as it was. -/
theorem Wrote.below {B lo N : Nat} {w w' : World} (h : Wrote B lo w w') (hN : N ≤ B) (hl : N ≤ lo) (hs : N ≤ w.heap.size) : Below N w w' :=
  ⟨h.os, h.tape, h.output, h.size, fun k hk => h.block k (by omega) (by omega) (.inl (by omega))⟩
/-- A block of another type is as it was. -/
theorem Wrote.box {B lo b : Nat} {w w' : World} (h : Wrote B lo w w') {cs : Array Value} {T : TypeId} (hb : w.heap[b]? = some (.cells cs T (0, 0))) (hT : T ≠ 5) (hB : b ≠ B) : w'.heap[b]? = some (.cells cs T (0, 0)) :=
  (h.block b (Array.getElem?_eq_some_iff.1 hb).1 hB (.inr fun cur e => by rw [hb] at e; cases e; exact hT rfl)).trans hb

/-- The writer at block B has the bytes xs, in rows of its own from lo on. -/
structure Wr (w : World) (B lo : Nat) (xs : List Int) : Prop where
  own : ∃ v, w.cell? ⟨B, 0, none⟩ = some v ∧ w.ownsRow lo 5 1 v xs.length (ints .u8 xs)
  fr : ∀ o, w.frozen? ⟨B, o, none⟩ = false
  lt : B < lo
  le : lo ≤ w.heap.size

theorem Wr.below {w w' : World} {B lo : Nat} {xs : List Int} (h : Wr w B lo xs) (hb : Below w.heap.size w w') : Wr w' B lo xs := by
  obtain ⟨v, h1, h2⟩ := h.own
  have hl := h.lt; have hle := h.le
  exact ⟨⟨v, (hb.cell (p := ⟨B, 0, none⟩) (by show B < _; omega)).trans h1, own_below h2 hb⟩, fun o => (World.frozen?_of_block (w := w) (hb.block B (by omega))).trans (h.fr o), hl, Nat.le_trans hle hb.size⟩

/-- The writer's own append of what was made anew. -/
theorem Wr.step {w w1 : World} {B lo : Nat} {xs zs : List Int} {v x : Value} {n : Nat} (h : Wr w B lo xs) (hv : w.cell? ⟨B, 0, none⟩ = some v) (hb : Below w.heap.size w w1) (hx : w1.ownsRow w.heap.size 5 1 x n (ints .u8 zs)) (hn : xs.length + zs.length ≤ 1099511627776) (ty : TypeId) :
    ∃ av nv cv w2, (Builtin.append_ #[26, 26] ty #[v, x]).run Tryz.prog w1 = .ok (.slice av nv cv) w2 ∧ w2.frozen? ⟨B, 0, none⟩ = false ∧ (∃ u, w2.cell? ⟨B, 0, none⟩ = some u) ∧ Wr (w2.setCell ⟨B, 0, none⟩ (.slice av nv cv)) B lo (xs ++ zs) ∧ Wrote B lo w (w2.setCell ⟨B, 0, none⟩ (.slice av nv cv)) := by
  obtain ⟨v0, h1, h2⟩ := h.own
  rw [hv] at h1
  cases h1
  have hl := h.lt; have hle := h.le; have hs := hb.size
  have hw1 := h.below hb
  obtain ⟨_, hsee⟩ := sees_of_own hx
  have ho1 := own_below h2 hb
  obtain ⟨v', w2, hr, ho, hg⟩ := run_append_sees lo v xs ho1 x zs hsee hn (by omega) ty
  have hbk : w2.heap[B]? = w1.heap[B]? := hg.block B (by omega) (by
    intro e
    have := (ho1.lt B e.symm).1
    omega)
  have hc : w2.cell? ⟨B, 0, none⟩ = some v := (World.cell?_of_block (w := w1) hbk).trans ((hb.cell (p := ⟨B, 0, none⟩) (by show B < _; omega)).trans hv)
  have hf : ∀ o, w2.frozen? ⟨B, o, none⟩ = false := fun o => (World.frozen?_of_block (w := w1) hbk).trans (hw1.fr o)
  obtain ⟨av, cv, rfl⟩ := own_shape ho
  refine ⟨av, _, cv, w2, hr, hf 0, ⟨v, hc⟩, ⟨⟨_, World.cell?_setCell_same w2 _ _ hc, ?_⟩, fun o => by rw [World.frozen?_setCell]; exact hf o, hl, ?_⟩, (((Wrote.of hb).trans (Wrote.grown ho1 hg)).set 0 _)⟩
  · refine ho.kept (grownBy_setCell' w2 B _) ?_
    rcases ho.2 with ⟨e0, _⟩ | ⟨g, cap, cur, e0, hg', _⟩
    · exact .inl (by rw [e0]; rfl)
    · refine .inr fun e => ?_
      rw [e0] at e
      simp only [Value.ownBlock, Option.some.injEq] at e
      omega
  · have := hg.size
    simp [World.setCell]
    omega
end Go.Proofs.YtggllgimlfchhabGreat

/- Record: the writer's numbers and bytes. -/
namespace Go.Proofs.YtggllgimlfchhabGreat
open Go.RowKit
set_option maxRecDepth 100000

theorem append_upon {P : Program} {o : Oper} {a : Act} {w w' : World} {K : Act → World → Prop} {Q : Exit → Act → World → Prop} {s x : Operand} {t : TypeId} {v sv v' : Value}
    (ho : o.op = .call { callee := .builtin .append, args := #[s, x], argTypes := #[t, t] }) (hs : a.eval s = v) (hx : a.eval x = sv) (hr : (Builtin.append_ #[t, t] o.type #[v, sv]).run P w = .ok v' w') (h : K (a.put o.dst v') w') : Oper.wp P o a w K Q := by
  unfold Oper.wp
  simp [execOp, ho, resolve, invoke, builtin, hs, hx, hr, Result.andThen]
  exact h

set_option maxHeartbeats 400000 in
theorem nums_any {w : World} {B lo : Nat} {xs : List Int} (h : Wr w B lo xs) (lv : Value) (l : List Int) (hs : Sees w .i64 lv l) (hl : l.length ≤ 1099511627776) (hi : I64 l) (hn : xs.length + sizeL l ≤ 549755813888) :
    Calls Tryz.prog 54 #[.pointer (some ⟨B, 0, none⟩), lv] w fun e w' => e = .returned (.tuple #[]) ∧ Wr w' B lo (xs ++ putL l) ∧ Wrote B lo w w' := by
  obtain ⟨v, hv, _⟩ := h.own
  have hd : Below w.heap.size w w.drew := (Below.refl _ _).drew
  have HN := hide (num_any (.slice none 0 0) lv [] l w.drew (Sees.nil _ _) (hs.below hd) (by omega) hi (by simp; omega))
  simp only [List.length_nil, Nat.zero_add, List.nil_append] at HN
  have HW := hide (h.below hd)
  have HD : Hid (∀ w', Wr (w.drew) B lo xs → Wrote B lo w.drew w' → Wrote B lo w w') := fun w' _ k => (Wrote.of hd).trans k
  have HB : Hid (xs.length + (putL l).length ≤ 1099511627776) := by rw [putL_length]; show _ ≤ _; omega
  obtain ⟨ao, ca, rfl, _⟩ := id hs
  clear h hd hs
  go_enter Tryz.func54, Tryz.ntmps54
  go_wp2_with fail
  refine wp_region_held_drew (S := fun _ => True) (by kernel_rfl) trivial (fun hHeld => ?_)
  refine wpAnyH_take (i := 0) (v := ?v1x0) rfl (by kernel_rfl) (by kernel_rfl) (by kernel_rfl) (fun _ _ _ h => h) (Or.inl ⟨by rfl, ?hy1x0⟩) (by assumption) ?rest1x0
  case hy1x0 => intro w hSw; go_simp <;> with_reducible rfl
  simp only [Act.put, List.getElem_toArray, List.getElem_cons_zero, List.setIfInBounds_toArray, List.set_cons_zero, List.set_cons_succ]
  refine wpAnyH_take (i := 1) (v := ?v2x1) rfl (by kernel_rfl) (by kernel_rfl) (by kernel_rfl) (fun _ _ _ h => h) (Or.inl ⟨by rfl, ?hy2x1⟩) (by assumption) ?rest2x1
  case hy2x1 => intro w hSw; go_simp <;> with_reducible rfl
  simp only [Act.put, List.getElem_toArray, List.getElem_cons_zero, List.getElem_cons_succ, List.setIfInBounds_toArray, List.set_cons_zero, List.set_cons_succ]
  refine wpAnyH_take (i := 2) (v := ?v3x2) rfl (by kernel_rfl) (by kernel_rfl) (by kernel_rfl) (fun _ _ _ h => h) (Or.inl ⟨by rfl, ?hy3x2⟩) (by assumption) ?rest3x2
  case hy3x2 => intro w hSw; go_simp <;> with_reducible rfl
  simp only [Act.put, List.getElem_toArray, List.getElem_cons_zero, List.getElem_cons_succ, List.setIfInBounds_toArray, List.set_cons_zero, List.set_cons_succ]
  refine wpAnyH_take (i := 3) (v := ?v4x3) rfl (by kernel_rfl) (by kernel_rfl) (by kernel_rfl) (fun _ _ _ h => h) (Or.inl ⟨by rfl, ?hy4x3⟩) (by assumption) ?rest4x3
  case hy4x3 => intro w hSw; go_simp <;> with_reducible rfl
  simp only [Act.put, List.getElem_toArray, List.getElem_cons_zero, List.getElem_cons_succ, List.setIfInBounds_toArray, List.set_cons_zero, List.set_cons_succ]
  refine wpAnyH_take (i := 5) (v := ?v5x5) rfl (by kernel_rfl) (by kernel_rfl) (by kernel_rfl) (fun _ _ _ h => h) (Or.inl ⟨by rfl, ?hy5x5⟩) (by assumption) ?rest5x5
  case hy5x5 => intro w hSw; go_simp <;> with_reducible rfl
  simp only [Act.put, List.getElem_toArray, List.getElem_cons_zero, List.getElem_cons_succ, List.setIfInBounds_toArray, List.set_cons_zero, List.set_cons_succ]
  refine wpAnyH_ready (rs := [4, 6]) (by kernel_rfl) (by simp) ?_
  refine AllReadyH.cons rfl (fun K hK => ?_) (AllReadyH.cons rfl (fun K hK => ?_) AllReadyH.nil)
  · go_simp
    refine hK _ _ trivial ?_
    clear hK hHeld
    intro hHeld
    refine wpAnyH_ready (rs := [6]) (by kernel_rfl) (by simp) ?_
    refine AllReadyH.cons rfl (fun K hK => ?_) AllReadyH.nil
    go_simp
    refine (unhide HN).mono ?_
    rintro e wq ⟨x, rfl, ho, hb⟩
    refine hK _ _ trivial ?_
    clear hK hHeld
    intro hHeld
    obtain ⟨av, nv, cv, w2, hr, hf, ⟨u, hu⟩, hw, hwr⟩ := (unhide HW).step hv hb ho (unhide HB) 26
    obtain ⟨ax, cx, rfl⟩ := own_shape ho
    have HW2 : Hid (Wr (w2.setCell ⟨B, 0, none⟩ (.slice av nv cv)) B lo (xs ++ putL l) ∧ Wrote B lo w (w2.setCell ⟨B, 0, none⟩ (.slice av nv cv))) := ⟨hw, unhide HD _ (unhide HW) hwr⟩
    clear hw hwr ho hb
    refine wpAnyH_ready (rs := [7]) (by kernel_rfl) (by simp) ?_
    refine AllReadyH.cons rfl (fun K hK => ?_) AllReadyH.nil
    rw [if_pos (by rfl)]
    refine append_upon rfl rfl rfl hr ?_
    simp only [Act.put, List.getElem_toArray, List.getElem_cons_zero, List.getElem_cons_succ, List.setIfInBounds_toArray, List.set_cons_zero, List.set_cons_succ]
    refine hK _ _ trivial ?_
    clear hK hHeld
    intro hHeld
    clear hr
    refine wpAnyH_take (i := 8) (v := ?v6x8) rfl (by kernel_rfl) (by kernel_rfl) (by kernel_rfl) (fun _ _ _ h => h) (Or.inl ⟨by rfl, ?hy6x8⟩) (by assumption) ?rest6x8
    case hy6x8 => intro w hSw; go_simp <;> with_reducible rfl
    simp only [Act.put, List.getElem_toArray, List.getElem_cons_zero, List.getElem_cons_succ, List.setIfInBounds_toArray, List.set_cons_zero, List.set_cons_succ]
    refine wpAnyH_take (i := 9) (v := ?v7x9) rfl (by kernel_rfl) (by kernel_rfl) (by kernel_rfl) (fun _ _ _ h => h) (Or.inl ⟨by rfl, ?hy7x9⟩) (by assumption) ?rest7x9
    case hy7x9 => intro w hSw; go_simp <;> with_reducible rfl
    simp only [Act.put, List.getElem_toArray, List.getElem_cons_zero, List.getElem_cons_succ, List.setIfInBounds_toArray, List.set_cons_zero, List.set_cons_succ]
    refine wpAnyH_ready (rs := [10]) (by kernel_rfl) (by simp) ?_
    refine AllReadyH.cons rfl (fun K hK => ?_) AllReadyH.nil
    go_simp
    refine hK _ _ trivial ?_
    clear hK hHeld
    intro hHeld
    refine wpAnyH_done (by kernel_rfl) ?_ _
    go_wp2
    go_end0
    exact ⟨rfl, unhide HW2⟩
  · go_simp
    refine (unhide HN).mono ?_
    rintro e wq ⟨x, rfl, ho, hb⟩
    refine hK _ _ trivial ?_
    clear hK hHeld
    intro hHeld
    obtain ⟨av, nv, cv, w2, hr, hf, ⟨u, hu⟩, hw, hwr⟩ := (unhide HW).step hv hb ho (unhide HB) 26
    have hv2 : wq.cell? ⟨B, 0, none⟩ = some v := (hb.cell (p := ⟨B, 0, none⟩) (World.block_lt_of_cell? w _ hv)).trans hv
    obtain ⟨ax, cx, rfl⟩ := own_shape ho
    have HW2 : Hid (Wr (w2.setCell ⟨B, 0, none⟩ (.slice av nv cv)) B lo (xs ++ putL l) ∧ Wrote B lo w (w2.setCell ⟨B, 0, none⟩ (.slice av nv cv))) := ⟨hw, unhide HD _ (unhide HW) hwr⟩
    clear hw hwr ho hb
    refine wpAnyH_ready (rs := [4]) (by kernel_rfl) (by simp) ?_
    refine AllReadyH.cons rfl (fun K hK => ?_) AllReadyH.nil
    go_simp
    refine hK _ _ trivial ?_
    clear hK hHeld
    intro hHeld
    refine wpAnyH_ready (rs := [7]) (by kernel_rfl) (by simp) ?_
    refine AllReadyH.cons rfl (fun K hK => ?_) AllReadyH.nil
    rw [if_pos (by rfl)]
    refine append_upon rfl rfl rfl hr ?_
    simp only [Act.put, List.getElem_toArray, List.getElem_cons_zero, List.getElem_cons_succ, List.setIfInBounds_toArray, List.set_cons_zero, List.set_cons_succ]
    refine hK _ _ trivial ?_
    clear hK hHeld
    intro hHeld
    clear hr
    refine wpAnyH_take (i := 8) (v := ?v8x8) rfl (by kernel_rfl) (by kernel_rfl) (by kernel_rfl) (fun _ _ _ h => h) (Or.inl ⟨by rfl, ?hy8x8⟩) (by assumption) ?rest8x8
    case hy8x8 => intro w hSw; go_simp <;> with_reducible rfl
    simp only [Act.put, List.getElem_toArray, List.getElem_cons_zero, List.getElem_cons_succ, List.setIfInBounds_toArray, List.set_cons_zero, List.set_cons_succ]
    refine wpAnyH_take (i := 9) (v := ?v9x9) rfl (by kernel_rfl) (by kernel_rfl) (by kernel_rfl) (fun _ _ _ h => h) (Or.inl ⟨by rfl, ?hy9x9⟩) (by assumption) ?rest9x9
    case hy9x9 => intro w hSw; go_simp <;> with_reducible rfl
    simp only [Act.put, List.getElem_toArray, List.getElem_cons_zero, List.getElem_cons_succ, List.setIfInBounds_toArray, List.set_cons_zero, List.set_cons_succ]
    refine wpAnyH_ready (rs := [10]) (by kernel_rfl) (by simp) ?_
    refine AllReadyH.cons rfl (fun K hK => ?_) AllReadyH.nil
    go_simp
    refine hK _ _ trivial ?_
    clear hK hHeld
    intro hHeld
    refine wpAnyH_done (by kernel_rfl) ?_ _
    go_wp2
    go_end0
    exact ⟨rfl, unhide HW2⟩

set_option maxHeartbeats 400000 in
theorem wblob_any {w : World} {B lo : Nat} {xs : List Int} (h : Wr w B lo xs) (lv : Value) (l : List Int) (hs : Sees w .u8 lv l) (hn : xs.length + l.length ≤ 549755813888) :
    Calls Tryz.prog 86 #[.pointer (some ⟨B, 0, none⟩), lv] w fun e w' => e = .returned (.tuple #[]) ∧ Wr w' B lo (xs ++ (putL [(l.length : Int)] ++ l)) ∧ Wrote B lo w w' := by
  obtain ⟨v, hv, _⟩ := h.own
  have hd : Below w.heap.size w w.drew := (Below.refl _ _).drew
  have HN := hide (blob_any (.slice none 0 0) lv [] l w.drew (Sees.nil _ _) (hs.below hd) (by simp; omega))
  simp only [List.length_nil, Nat.zero_add, List.nil_append] at HN
  have HW := hide (h.below hd)
  have HD : Hid (∀ w', Wr (w.drew) B lo xs → Wrote B lo w.drew w' → Wrote B lo w w') := fun w' _ k => (Wrote.of hd).trans k
  have HB : Hid (xs.length + (putL [(l.length : Int)] ++ l).length ≤ 1099511627776) := by rw [List.length_append, putL_length]; have := sizeL_le [(l.length : Int)]; simp at this; show _ ≤ _; omega
  obtain ⟨ao, ca, rfl, _⟩ := id hs
  clear h hd hs
  go_enter Tryz.func86, Tryz.ntmps86
  go_wp2_with fail
  refine wp_region_held_drew (S := fun _ => True) (by kernel_rfl) trivial (fun hHeld => ?_)
  refine wpAnyH_take (i := 0) (v := ?v10x0) rfl (by kernel_rfl) (by kernel_rfl) (by kernel_rfl) (fun _ _ _ h => h) (Or.inl ⟨by rfl, ?hy10x0⟩) (by assumption) ?rest10x0
  case hy10x0 => intro w hSw; go_simp <;> with_reducible rfl
  simp only [Act.put, List.getElem_toArray, List.getElem_cons_zero, List.setIfInBounds_toArray, List.set_cons_zero, List.set_cons_succ]
  refine wpAnyH_take (i := 1) (v := ?v11x1) rfl (by kernel_rfl) (by kernel_rfl) (by kernel_rfl) (fun _ _ _ h => h) (Or.inl ⟨by rfl, ?hy11x1⟩) (by assumption) ?rest11x1
  case hy11x1 => intro w hSw; go_simp <;> with_reducible rfl
  simp only [Act.put, List.getElem_toArray, List.getElem_cons_zero, List.getElem_cons_succ, List.setIfInBounds_toArray, List.set_cons_zero, List.set_cons_succ]
  refine wpAnyH_take (i := 2) (v := ?v12x2) rfl (by kernel_rfl) (by kernel_rfl) (by kernel_rfl) (fun _ _ _ h => h) (Or.inl ⟨by rfl, ?hy12x2⟩) (by assumption) ?rest12x2
  case hy12x2 => intro w hSw; go_simp <;> with_reducible rfl
  simp only [Act.put, List.getElem_toArray, List.getElem_cons_zero, List.getElem_cons_succ, List.setIfInBounds_toArray, List.set_cons_zero, List.set_cons_succ]
  refine wpAnyH_take (i := 3) (v := ?v13x3) rfl (by kernel_rfl) (by kernel_rfl) (by kernel_rfl) (fun _ _ _ h => h) (Or.inl ⟨by rfl, ?hy13x3⟩) (by assumption) ?rest13x3
  case hy13x3 => intro w hSw; go_simp <;> with_reducible rfl
  simp only [Act.put, List.getElem_toArray, List.getElem_cons_zero, List.getElem_cons_succ, List.setIfInBounds_toArray, List.set_cons_zero, List.set_cons_succ]
  refine wpAnyH_take (i := 5) (v := ?v14x5) rfl (by kernel_rfl) (by kernel_rfl) (by kernel_rfl) (fun _ _ _ h => h) (Or.inl ⟨by rfl, ?hy14x5⟩) (by assumption) ?rest14x5
  case hy14x5 => intro w hSw; go_simp <;> with_reducible rfl
  simp only [Act.put, List.getElem_toArray, List.getElem_cons_zero, List.getElem_cons_succ, List.setIfInBounds_toArray, List.set_cons_zero, List.set_cons_succ]
  refine wpAnyH_ready (rs := [4, 6]) (by kernel_rfl) (by simp) ?_
  refine AllReadyH.cons rfl (fun K hK => ?_) (AllReadyH.cons rfl (fun K hK => ?_) AllReadyH.nil)
  · go_simp
    refine hK _ _ trivial ?_
    clear hK hHeld
    intro hHeld
    refine wpAnyH_ready (rs := [6]) (by kernel_rfl) (by simp) ?_
    refine AllReadyH.cons rfl (fun K hK => ?_) AllReadyH.nil
    go_simp
    refine (unhide HN).mono ?_
    rintro e wq ⟨x, rfl, ho, hb⟩
    refine hK _ _ trivial ?_
    clear hK hHeld
    intro hHeld
    obtain ⟨av, nv, cv, w2, hr, hf, ⟨u, hu⟩, hw, hwr⟩ := (unhide HW).step hv hb ho (unhide HB) 26
    obtain ⟨ax, cx, rfl⟩ := own_shape ho
    have HW2 : Hid (Wr (w2.setCell ⟨B, 0, none⟩ (.slice av nv cv)) B lo (xs ++ (putL [(l.length : Int)] ++ l)) ∧ Wrote B lo w (w2.setCell ⟨B, 0, none⟩ (.slice av nv cv))) := ⟨hw, unhide HD _ (unhide HW) hwr⟩
    clear hw hwr ho hb
    refine wpAnyH_ready (rs := [7]) (by kernel_rfl) (by simp) ?_
    refine AllReadyH.cons rfl (fun K hK => ?_) AllReadyH.nil
    rw [if_pos (by rfl)]
    refine append_upon rfl rfl rfl hr ?_
    simp only [Act.put, List.getElem_toArray, List.getElem_cons_zero, List.getElem_cons_succ, List.setIfInBounds_toArray, List.set_cons_zero, List.set_cons_succ]
    refine hK _ _ trivial ?_
    clear hK hHeld
    intro hHeld
    clear hr
    refine wpAnyH_take (i := 8) (v := ?v15x8) rfl (by kernel_rfl) (by kernel_rfl) (by kernel_rfl) (fun _ _ _ h => h) (Or.inl ⟨by rfl, ?hy15x8⟩) (by assumption) ?rest15x8
    case hy15x8 => intro w hSw; go_simp <;> with_reducible rfl
    simp only [Act.put, List.getElem_toArray, List.getElem_cons_zero, List.getElem_cons_succ, List.setIfInBounds_toArray, List.set_cons_zero, List.set_cons_succ]
    refine wpAnyH_take (i := 9) (v := ?v16x9) rfl (by kernel_rfl) (by kernel_rfl) (by kernel_rfl) (fun _ _ _ h => h) (Or.inl ⟨by rfl, ?hy16x9⟩) (by assumption) ?rest16x9
    case hy16x9 => intro w hSw; go_simp <;> with_reducible rfl
    simp only [Act.put, List.getElem_toArray, List.getElem_cons_zero, List.getElem_cons_succ, List.setIfInBounds_toArray, List.set_cons_zero, List.set_cons_succ]
    refine wpAnyH_ready (rs := [10]) (by kernel_rfl) (by simp) ?_
    refine AllReadyH.cons rfl (fun K hK => ?_) AllReadyH.nil
    go_simp
    refine hK _ _ trivial ?_
    clear hK hHeld
    intro hHeld
    refine wpAnyH_done (by kernel_rfl) ?_ _
    go_wp2
    go_end0
    exact ⟨rfl, unhide HW2⟩
  · go_simp
    refine (unhide HN).mono ?_
    rintro e wq ⟨x, rfl, ho, hb⟩
    refine hK _ _ trivial ?_
    clear hK hHeld
    intro hHeld
    obtain ⟨av, nv, cv, w2, hr, hf, ⟨u, hu⟩, hw, hwr⟩ := (unhide HW).step hv hb ho (unhide HB) 26
    have hv2 : wq.cell? ⟨B, 0, none⟩ = some v := (hb.cell (p := ⟨B, 0, none⟩) (World.block_lt_of_cell? w _ hv)).trans hv
    obtain ⟨ax, cx, rfl⟩ := own_shape ho
    have HW2 : Hid (Wr (w2.setCell ⟨B, 0, none⟩ (.slice av nv cv)) B lo (xs ++ (putL [(l.length : Int)] ++ l)) ∧ Wrote B lo w (w2.setCell ⟨B, 0, none⟩ (.slice av nv cv))) := ⟨hw, unhide HD _ (unhide HW) hwr⟩
    clear hw hwr ho hb
    refine wpAnyH_ready (rs := [4]) (by kernel_rfl) (by simp) ?_
    refine AllReadyH.cons rfl (fun K hK => ?_) AllReadyH.nil
    go_simp
    refine hK _ _ trivial ?_
    clear hK hHeld
    intro hHeld
    refine wpAnyH_ready (rs := [7]) (by kernel_rfl) (by simp) ?_
    refine AllReadyH.cons rfl (fun K hK => ?_) AllReadyH.nil
    rw [if_pos (by rfl)]
    refine append_upon rfl rfl rfl hr ?_
    simp only [Act.put, List.getElem_toArray, List.getElem_cons_zero, List.getElem_cons_succ, List.setIfInBounds_toArray, List.set_cons_zero, List.set_cons_succ]
    refine hK _ _ trivial ?_
    clear hK hHeld
    intro hHeld
    clear hr
    refine wpAnyH_take (i := 8) (v := ?v17x8) rfl (by kernel_rfl) (by kernel_rfl) (by kernel_rfl) (fun _ _ _ h => h) (Or.inl ⟨by rfl, ?hy17x8⟩) (by assumption) ?rest17x8
    case hy17x8 => intro w hSw; go_simp <;> with_reducible rfl
    simp only [Act.put, List.getElem_toArray, List.getElem_cons_zero, List.getElem_cons_succ, List.setIfInBounds_toArray, List.set_cons_zero, List.set_cons_succ]
    refine wpAnyH_take (i := 9) (v := ?v18x9) rfl (by kernel_rfl) (by kernel_rfl) (by kernel_rfl) (fun _ _ _ h => h) (Or.inl ⟨by rfl, ?hy18x9⟩) (by assumption) ?rest18x9
    case hy18x9 => intro w hSw; go_simp <;> with_reducible rfl
    simp only [Act.put, List.getElem_toArray, List.getElem_cons_zero, List.getElem_cons_succ, List.setIfInBounds_toArray, List.set_cons_zero, List.set_cons_succ]
    refine wpAnyH_ready (rs := [10]) (by kernel_rfl) (by simp) ?_
    refine AllReadyH.cons rfl (fun K hK => ?_) AllReadyH.nil
    go_simp
    refine hK _ _ trivial ?_
    clear hK hHeld
    intro hHeld
    refine wpAnyH_done (by kernel_rfl) ?_ _
    go_wp2
    go_end0
    exact ⟨rfl, unhide HW2⟩
end Go.Proofs.YtggllgimlfchhabGreat
