/- Record: the writer's numbers and bytes. -/
import Derived.Test.YtggllgimlfchhaaGreatKL
namespace Go.Proofs.YtggllgimlfchhaaGreat
open Go.RowKit
set_option maxRecDepth 100000

theorem append_upon {P : Program} {o : Oper} {a : Act} {w w' : World} {K : Act → World → Prop} {Q : Exit → Act → World → Prop} {s x : Operand} {t : TypeId} {v sv v' : Value}
    (ho : o.op = .call { callee := .builtin .append, args := #[s, x], argTypes := #[t, t] }) (hs : a.eval s = v) (hx : a.eval x = sv) (hr : (Builtin.append_ #[t, t] o.type #[v, sv]).run P w = .ok v' w') (h : K (a.put o.dst v') w') : Oper.wp P o a w K Q := by
  unfold Oper.wp
  simp [execOp, ho, resolve, invoke, builtin, hs, hx, hr, Result.andThen]
  exact h

set_option maxHeartbeats 400000 in
theorem nums_any {w : World} {B lo : Nat} {xs : List Int} (h : Wr w B lo xs) (lv : Value) (l : List Int) (hs : Sees w .i64 lv l) (hl : l.length ≤ 1099511627776) (hi : I64 l) (hn : xs.length + sizeL l ≤ 549755813888) :
    Calls Tryz.prog 72 #[.pointer (some ⟨B, 0, none⟩), lv] w fun e w' => e = .returned (.tuple #[]) ∧ Wr w' B lo (xs ++ putL l) ∧ Wrote B lo w w' := by
  obtain ⟨v, hv, _⟩ := h.own
  have hd : Below w.heap.size w w.drew := (Below.refl _ _).drew
  have HN := hide (num_any (.slice none 0 0) lv [] l w.drew (Sees.nil _ _) (hs.below hd) (by omega) hi (by simp; omega))
  simp only [List.length_nil, Nat.zero_add, List.nil_append] at HN
  have HW := hide (h.below hd)
  have HD : Hid (∀ w', Wr (w.drew) B lo xs → Wrote B lo w.drew w' → Wrote B lo w w') := fun w' _ k => (Wrote.of hd).trans k
  have HB : Hid (xs.length + (putL l).length ≤ 1099511627776) := by rw [putL_length]; show _ ≤ _; omega
  obtain ⟨ao, ca, rfl, _⟩ := id hs
  clear h hd hs
  go_enter Tryz.func72, Tryz.ntmps72
  go_wp2_with fail
  refine wp_region_held_drew (S := fun _ => True) (by kernel_rfl) trivial (fun hHeld => ?_)
  refine wpAnyH_take (i := 0) (v := ?v1x0) rfl (by kernel_rfl) (by kernel_rfl) (by kernel_rfl) (fun _ _ _ h => h) (Or.inl ⟨by rfl, ?hy1x0⟩) (by assumption) ?rest1x0
  case hy1x0 => intro w hSw; go_simp <;> with_reducible rfl
  simp only [Act.put, List.getElem_toArray, List.getElem_cons_zero, List.setIfInBounds_toArray, List.set_cons_zero, List.set_cons_succ]
  refine wpAnyH_take (i := 1) (v := ?v2x1) rfl (by kernel_rfl) (by kernel_rfl) (by kernel_rfl) (fun _ _ _ h => h) (Or.inl ⟨by rfl, ?hy2x1⟩) (by assumption) ?rest2x1
  case hy2x1 => intro w hSw; go_simp <;> with_reducible rfl
  simp only [Act.put, List.getElem_toArray, List.getElem_cons_zero, List.getElem_cons_succ, List.setIfInBounds_toArray, List.set_cons_zero, List.set_cons_succ]
  refine wpAnyH_take (i := 2) (v := ?v3x2) rfl (by kernel_rfl) (by kernel_rfl) (by kernel_rfl) (fun _ _ _ h => h) (Or.inl ⟨by rfl, ?hy3x2⟩) (by assumption) ?rest3x2
  case hy3x2 => intro w hSw; go_simp <;> with_reducible rfl
  simp only [Act.put, List.getElem_toArray, List.getElem_cons_zero, List.getElem_cons_succ, List.setIfInBounds_toArray, List.set_cons_zero, List.set_cons_succ]
  refine wpAnyH_take (i := 3) (v := ?v4x3) rfl (by kernel_rfl) (by kernel_rfl) (by kernel_rfl) (fun _ _ _ h => h) (Or.inl ⟨by rfl, ?hy4x3⟩) (by assumption) ?rest4x3
  case hy4x3 => intro w hSw; go_simp <;> with_reducible rfl
  simp only [Act.put, List.getElem_toArray, List.getElem_cons_zero, List.getElem_cons_succ, List.setIfInBounds_toArray, List.set_cons_zero, List.set_cons_succ]
  refine wpAnyH_take (i := 5) (v := ?v5x5) rfl (by kernel_rfl) (by kernel_rfl) (by kernel_rfl) (fun _ _ _ h => h) (Or.inl ⟨by rfl, ?hy5x5⟩) (by assumption) ?rest5x5
  case hy5x5 => intro w hSw; go_simp <;> with_reducible rfl
  simp only [Act.put, List.getElem_toArray, List.getElem_cons_zero, List.getElem_cons_succ, List.setIfInBounds_toArray, List.set_cons_zero, List.set_cons_succ]
  refine wpAnyH_ready (rs := [4, 6]) (by kernel_rfl) (by simp) ?_
  refine AllReadyH.cons rfl (fun K hK => ?_) (AllReadyH.cons rfl (fun K hK => ?_) AllReadyH.nil)
  · go_simp
    refine hK _ _ trivial ?_
    clear hK hHeld
    intro hHeld
    refine wpAnyH_ready (rs := [6]) (by kernel_rfl) (by simp) ?_
    refine AllReadyH.cons rfl (fun K hK => ?_) AllReadyH.nil
    go_simp
    refine (unhide HN).mono ?_
    rintro e wq ⟨x, rfl, ho, hb⟩
    refine hK _ _ trivial ?_
    clear hK hHeld
    intro hHeld
    obtain ⟨av, nv, cv, w2, hr, hf, ⟨u, hu⟩, hw, hwr⟩ := (unhide HW).step hv hb ho (unhide HB) 23
    obtain ⟨ax, cx, rfl⟩ := own_shape ho
    have HW2 : Hid (Wr (w2.setCell ⟨B, 0, none⟩ (.slice av nv cv)) B lo (xs ++ putL l) ∧ Wrote B lo w (w2.setCell ⟨B, 0, none⟩ (.slice av nv cv))) := ⟨hw, unhide HD _ (unhide HW) hwr⟩
    clear hw hwr ho hb
    refine wpAnyH_ready (rs := [7]) (by kernel_rfl) (by simp) ?_
    refine AllReadyH.cons rfl (fun K hK => ?_) AllReadyH.nil
    rw [if_pos (by rfl)]
    refine append_upon rfl rfl rfl hr ?_
    simp only [Act.put, List.getElem_toArray, List.getElem_cons_zero, List.getElem_cons_succ, List.setIfInBounds_toArray, List.set_cons_zero, List.set_cons_succ]
    refine hK _ _ trivial ?_
    clear hK hHeld
    intro hHeld
    clear hr
    refine wpAnyH_take (i := 8) (v := ?v6x8) rfl (by kernel_rfl) (by kernel_rfl) (by kernel_rfl) (fun _ _ _ h => h) (Or.inl ⟨by rfl, ?hy6x8⟩) (by assumption) ?rest6x8
    case hy6x8 => intro w hSw; go_simp <;> with_reducible rfl
    simp only [Act.put, List.getElem_toArray, List.getElem_cons_zero, List.getElem_cons_succ, List.setIfInBounds_toArray, List.set_cons_zero, List.set_cons_succ]
    refine wpAnyH_take (i := 9) (v := ?v7x9) rfl (by kernel_rfl) (by kernel_rfl) (by kernel_rfl) (fun _ _ _ h => h) (Or.inl ⟨by rfl, ?hy7x9⟩) (by assumption) ?rest7x9
    case hy7x9 => intro w hSw; go_simp <;> with_reducible rfl
    simp only [Act.put, List.getElem_toArray, List.getElem_cons_zero, List.getElem_cons_succ, List.setIfInBounds_toArray, List.set_cons_zero, List.set_cons_succ]
    refine wpAnyH_ready (rs := [10]) (by kernel_rfl) (by simp) ?_
    refine AllReadyH.cons rfl (fun K hK => ?_) AllReadyH.nil
    go_simp
    refine hK _ _ trivial ?_
    clear hK hHeld
    intro hHeld
    refine wpAnyH_done (by kernel_rfl) ?_ _
    go_wp2
    go_end0
    exact ⟨rfl, unhide HW2⟩
  · go_simp
    refine (unhide HN).mono ?_
    rintro e wq ⟨x, rfl, ho, hb⟩
    refine hK _ _ trivial ?_
    clear hK hHeld
    intro hHeld
    obtain ⟨av, nv, cv, w2, hr, hf, ⟨u, hu⟩, hw, hwr⟩ := (unhide HW).step hv hb ho (unhide HB) 23
    have hv2 : wq.cell? ⟨B, 0, none⟩ = some v := (hb.cell (p := ⟨B, 0, none⟩) (World.block_lt_of_cell? w _ hv)).trans hv
    obtain ⟨ax, cx, rfl⟩ := own_shape ho
    have HW2 : Hid (Wr (w2.setCell ⟨B, 0, none⟩ (.slice av nv cv)) B lo (xs ++ putL l) ∧ Wrote B lo w (w2.setCell ⟨B, 0, none⟩ (.slice av nv cv))) := ⟨hw, unhide HD _ (unhide HW) hwr⟩
    clear hw hwr ho hb
    refine wpAnyH_ready (rs := [4]) (by kernel_rfl) (by simp) ?_
    refine AllReadyH.cons rfl (fun K hK => ?_) AllReadyH.nil
    go_simp
    refine hK _ _ trivial ?_
    clear hK hHeld
    intro hHeld
    refine wpAnyH_ready (rs := [7]) (by kernel_rfl) (by simp) ?_
    refine AllReadyH.cons rfl (fun K hK => ?_) AllReadyH.nil
    rw [if_pos (by rfl)]
    refine append_upon rfl rfl rfl hr ?_
    simp only [Act.put, List.getElem_toArray, List.getElem_cons_zero, List.getElem_cons_succ, List.setIfInBounds_toArray, List.set_cons_zero, List.set_cons_succ]
    refine hK _ _ trivial ?_
    clear hK hHeld
    intro hHeld
    clear hr
    refine wpAnyH_take (i := 8) (v := ?v8x8) rfl (by kernel_rfl) (by kernel_rfl) (by kernel_rfl) (fun _ _ _ h => h) (Or.inl ⟨by rfl, ?hy8x8⟩) (by assumption) ?rest8x8
    case hy8x8 => intro w hSw; go_simp <;> with_reducible rfl
    simp only [Act.put, List.getElem_toArray, List.getElem_cons_zero, List.getElem_cons_succ, List.setIfInBounds_toArray, List.set_cons_zero, List.set_cons_succ]
    refine wpAnyH_take (i := 9) (v := ?v9x9) rfl (by kernel_rfl) (by kernel_rfl) (by kernel_rfl) (fun _ _ _ h => h) (Or.inl ⟨by rfl, ?hy9x9⟩) (by assumption) ?rest9x9
    case hy9x9 => intro w hSw; go_simp <;> with_reducible rfl
    simp only [Act.put, List.getElem_toArray, List.getElem_cons_zero, List.getElem_cons_succ, List.setIfInBounds_toArray, List.set_cons_zero, List.set_cons_succ]
    refine wpAnyH_ready (rs := [10]) (by kernel_rfl) (by simp) ?_
    refine AllReadyH.cons rfl (fun K hK => ?_) AllReadyH.nil
    go_simp
    refine hK _ _ trivial ?_
    clear hK hHeld
    intro hHeld
    refine wpAnyH_done (by kernel_rfl) ?_ _
    go_wp2
    go_end0
    exact ⟨rfl, unhide HW2⟩

set_option maxHeartbeats 400000 in
theorem wblob_any {w : World} {B lo : Nat} {xs : List Int} (h : Wr w B lo xs) (lv : Value) (l : List Int) (hs : Sees w .u8 lv l) (hn : xs.length + l.length ≤ 549755813888) :
    Calls Tryz.prog 119 #[.pointer (some ⟨B, 0, none⟩), lv] w fun e w' => e = .returned (.tuple #[]) ∧ Wr w' B lo (xs ++ (putL [(l.length : Int)] ++ l)) ∧ Wrote B lo w w' := by
  obtain ⟨v, hv, _⟩ := h.own
  have hd : Below w.heap.size w w.drew := (Below.refl _ _).drew
  have HN := hide (blob_any (.slice none 0 0) lv [] l w.drew (Sees.nil _ _) (hs.below hd) (by simp; omega))
  simp only [List.length_nil, Nat.zero_add, List.nil_append] at HN
  have HW := hide (h.below hd)
  have HD : Hid (∀ w', Wr (w.drew) B lo xs → Wrote B lo w.drew w' → Wrote B lo w w') := fun w' _ k => (Wrote.of hd).trans k
  have HB : Hid (xs.length + (putL [(l.length : Int)] ++ l).length ≤ 1099511627776) := by rw [List.length_append, putL_length]; have := sizeL_le [(l.length : Int)]; simp at this; show _ ≤ _; omega
  obtain ⟨ao, ca, rfl, _⟩ := id hs
  clear h hd hs
  go_enter Tryz.func119, Tryz.ntmps119
  go_wp2_with fail
  refine wp_region_held_drew (S := fun _ => True) (by kernel_rfl) trivial (fun hHeld => ?_)
  refine wpAnyH_take (i := 0) (v := ?v10x0) rfl (by kernel_rfl) (by kernel_rfl) (by kernel_rfl) (fun _ _ _ h => h) (Or.inl ⟨by rfl, ?hy10x0⟩) (by assumption) ?rest10x0
  case hy10x0 => intro w hSw; go_simp <;> with_reducible rfl
  simp only [Act.put, List.getElem_toArray, List.getElem_cons_zero, List.setIfInBounds_toArray, List.set_cons_zero, List.set_cons_succ]
  refine wpAnyH_take (i := 1) (v := ?v11x1) rfl (by kernel_rfl) (by kernel_rfl) (by kernel_rfl) (fun _ _ _ h => h) (Or.inl ⟨by rfl, ?hy11x1⟩) (by assumption) ?rest11x1
  case hy11x1 => intro w hSw; go_simp <;> with_reducible rfl
  simp only [Act.put, List.getElem_toArray, List.getElem_cons_zero, List.getElem_cons_succ, List.setIfInBounds_toArray, List.set_cons_zero, List.set_cons_succ]
  refine wpAnyH_take (i := 2) (v := ?v12x2) rfl (by kernel_rfl) (by kernel_rfl) (by kernel_rfl) (fun _ _ _ h => h) (Or.inl ⟨by rfl, ?hy12x2⟩) (by assumption) ?rest12x2
  case hy12x2 => intro w hSw; go_simp <;> with_reducible rfl
  simp only [Act.put, List.getElem_toArray, List.getElem_cons_zero, List.getElem_cons_succ, List.setIfInBounds_toArray, List.set_cons_zero, List.set_cons_succ]
  refine wpAnyH_take (i := 3) (v := ?v13x3) rfl (by kernel_rfl) (by kernel_rfl) (by kernel_rfl) (fun _ _ _ h => h) (Or.inl ⟨by rfl, ?hy13x3⟩) (by assumption) ?rest13x3
  case hy13x3 => intro w hSw; go_simp <;> with_reducible rfl
  simp only [Act.put, List.getElem_toArray, List.getElem_cons_zero, List.getElem_cons_succ, List.setIfInBounds_toArray, List.set_cons_zero, List.set_cons_succ]
  refine wpAnyH_take (i := 5) (v := ?v14x5) rfl (by kernel_rfl) (by kernel_rfl) (by kernel_rfl) (fun _ _ _ h => h) (Or.inl ⟨by rfl, ?hy14x5⟩) (by assumption) ?rest14x5
  case hy14x5 => intro w hSw; go_simp <;> with_reducible rfl
  simp only [Act.put, List.getElem_toArray, List.getElem_cons_zero, List.getElem_cons_succ, List.setIfInBounds_toArray, List.set_cons_zero, List.set_cons_succ]
  refine wpAnyH_ready (rs := [4, 6]) (by kernel_rfl) (by simp) ?_
  refine AllReadyH.cons rfl (fun K hK => ?_) (AllReadyH.cons rfl (fun K hK => ?_) AllReadyH.nil)
  · go_simp
    refine hK _ _ trivial ?_
    clear hK hHeld
    intro hHeld
    refine wpAnyH_ready (rs := [6]) (by kernel_rfl) (by simp) ?_
    refine AllReadyH.cons rfl (fun K hK => ?_) AllReadyH.nil
    go_simp
    refine (unhide HN).mono ?_
    rintro e wq ⟨x, rfl, ho, hb⟩
    refine hK _ _ trivial ?_
    clear hK hHeld
    intro hHeld
    obtain ⟨av, nv, cv, w2, hr, hf, ⟨u, hu⟩, hw, hwr⟩ := (unhide HW).step hv hb ho (unhide HB) 23
    obtain ⟨ax, cx, rfl⟩ := own_shape ho
    have HW2 : Hid (Wr (w2.setCell ⟨B, 0, none⟩ (.slice av nv cv)) B lo (xs ++ (putL [(l.length : Int)] ++ l)) ∧ Wrote B lo w (w2.setCell ⟨B, 0, none⟩ (.slice av nv cv))) := ⟨hw, unhide HD _ (unhide HW) hwr⟩
    clear hw hwr ho hb
    refine wpAnyH_ready (rs := [7]) (by kernel_rfl) (by simp) ?_
    refine AllReadyH.cons rfl (fun K hK => ?_) AllReadyH.nil
    rw [if_pos (by rfl)]
    refine append_upon rfl rfl rfl hr ?_
    simp only [Act.put, List.getElem_toArray, List.getElem_cons_zero, List.getElem_cons_succ, List.setIfInBounds_toArray, List.set_cons_zero, List.set_cons_succ]
    refine hK _ _ trivial ?_
    clear hK hHeld
    intro hHeld
    clear hr
    refine wpAnyH_take (i := 8) (v := ?v15x8) rfl (by kernel_rfl) (by kernel_rfl) (by kernel_rfl) (fun _ _ _ h => h) (Or.inl ⟨by rfl, ?hy15x8⟩) (by assumption) ?rest15x8
    case hy15x8 => intro w hSw; go_simp <;> with_reducible rfl
    simp only [Act.put, List.getElem_toArray, List.getElem_cons_zero, List.getElem_cons_succ, List.setIfInBounds_toArray, List.set_cons_zero, List.set_cons_succ]
    refine wpAnyH_take (i := 9) (v := ?v16x9) rfl (by kernel_rfl) (by kernel_rfl) (by kernel_rfl) (fun _ _ _ h => h) (Or.inl ⟨by rfl, ?hy16x9⟩) (by assumption) ?rest16x9
    case hy16x9 => intro w hSw; go_simp <;> with_reducible rfl
    simp only [Act.put, List.getElem_toArray, List.getElem_cons_zero, List.getElem_cons_succ, List.setIfInBounds_toArray, List.set_cons_zero, List.set_cons_succ]
    refine wpAnyH_ready (rs := [10]) (by kernel_rfl) (by simp) ?_
    refine AllReadyH.cons rfl (fun K hK => ?_) AllReadyH.nil
    go_simp
    refine hK _ _ trivial ?_
    clear hK hHeld
    intro hHeld
    refine wpAnyH_done (by kernel_rfl) ?_ _
    go_wp2
    go_end0
    exact ⟨rfl, unhide HW2⟩
  · go_simp
    refine (unhide HN).mono ?_
    rintro e wq ⟨x, rfl, ho, hb⟩
    refine hK _ _ trivial ?_
    clear hK hHeld
    intro hHeld
    obtain ⟨av, nv, cv, w2, hr, hf, ⟨u, hu⟩, hw, hwr⟩ := (unhide HW).step hv hb ho (unhide HB) 23
    have hv2 : wq.cell? ⟨B, 0, none⟩ = some v := (hb.cell (p := ⟨B, 0, none⟩) (World.block_lt_of_cell? w _ hv)).trans hv
    obtain ⟨ax, cx, rfl⟩ := own_shape ho
    have HW2 : Hid (Wr (w2.setCell ⟨B, 0, none⟩ (.slice av nv cv)) B lo (xs ++ (putL [(l.length : Int)] ++ l)) ∧ Wrote B lo w (w2.setCell ⟨B, 0, none⟩ (.slice av nv cv))) := ⟨hw, unhide HD _ (unhide HW) hwr⟩
    clear hw hwr ho hb
    refine wpAnyH_ready (rs := [4]) (by kernel_rfl) (by simp) ?_
    refine AllReadyH.cons rfl (fun K hK => ?_) AllReadyH.nil
    go_simp
    refine hK _ _ trivial ?_
    clear hK hHeld
    intro hHeld
    refine wpAnyH_ready (rs := [7]) (by kernel_rfl) (by simp) ?_
    refine AllReadyH.cons rfl (fun K hK => ?_) AllReadyH.nil
    rw [if_pos (by rfl)]
    refine append_upon rfl rfl rfl hr ?_
    simp only [Act.put, List.getElem_toArray, List.getElem_cons_zero, List.getElem_cons_succ, List.setIfInBounds_toArray, List.set_cons_zero, List.set_cons_succ]
    refine hK _ _ trivial ?_
    clear hK hHeld
    intro hHeld
    clear hr
    refine wpAnyH_take (i := 8) (v := ?v17x8) rfl (by kernel_rfl) (by kernel_rfl) (by kernel_rfl) (fun _ _ _ h => h) (Or.inl ⟨by rfl, ?hy17x8⟩) (by assumption) ?rest17x8
    case hy17x8 => intro w hSw; go_simp <;> with_reducible rfl
    simp only [Act.put, List.getElem_toArray, List.getElem_cons_zero, List.getElem_cons_succ, List.setIfInBounds_toArray, List.set_cons_zero, List.set_cons_succ]
    refine wpAnyH_take (i := 9) (v := ?v18x9) rfl (by kernel_rfl) (by kernel_rfl) (by kernel_rfl) (fun _ _ _ h => h) (Or.inl ⟨by rfl, ?hy18x9⟩) (by assumption) ?rest18x9
    case hy18x9 => intro w hSw; go_simp <;> with_reducible rfl
    simp only [Act.put, List.getElem_toArray, List.getElem_cons_zero, List.getElem_cons_succ, List.setIfInBounds_toArray, List.set_cons_zero, List.set_cons_succ]
    refine wpAnyH_ready (rs := [10]) (by kernel_rfl) (by simp) ?_
    refine AllReadyH.cons rfl (fun K hK => ?_) AllReadyH.nil
    go_simp
    refine hK _ _ trivial ?_
    clear hK hHeld
    intro hHeld
    refine wpAnyH_done (by kernel_rfl) ?_ _
    go_wp2
    go_end0
    exact ⟨rfl, unhide HW2⟩
end Go.Proofs.YtggllgimlfchhaaGreat
