/- Record: message, as it is written. -/
import Derived.Test.YtggllgimlfchhaaGreatDD
import Derived.Deep.RegionHeld3
namespace Go.Proofs.YtggllgimlfchhaaGreat
open Go.RowKit
set_option maxRecDepth 100000

set_option maxHeartbeats 1600000 in
theorem message_any {w0 w : World} {B lo : Nat} (h : Wr w B lo []) (cs : Array Value) (m : MsgD) (hM : SeesM w0 cs m) (hb0 : Below w0.heap.size w0 w) (hN : w0.heap.size ≤ B) (hfit : FitM m)
    (hk : -9223372036854775808 ≤ m.kind ∧ m.kind ≤ 9223372036854775807) (hf : -9223372036854775808 ≤ m.frm ∧ m.frm ≤ 9223372036854775807) (ht : -9223372036854775808 ≤ m.to ∧ m.to ≤ 9223372036854775807) (hm : mayMsg m = true) :
    Calls Tryz.prog 40 #[.agg #[.pointer (some ⟨B, 0, none⟩), .pointer (some ⟨B, 0, none⟩), .pointer (some ⟨B, 0, none⟩)], .agg cs] w fun e w' => e = .returned (.tuple #[]) ∧ Wr w' B lo (msgB m) ∧ Wrote B lo w w' := by
  have hlt := h.lt; have hle := h.le
  have HFA : Hid (∀ (x : World) (g : Nat) (zs : List Int), Wr x B lo zs → zs.length ≤ 1000 → Below w0.heap.size w0 x → x.heap[g]? = some (.cells ((fieldsL m.kind).map (Value.int .i64)).toArray 97) → g ≠ B → Calls Tryz.prog 77 #[.agg #[.pointer (some ⟨B, 0, none⟩), .pointer (some ⟨B, 0, none⟩), .pointer (some ⟨B, 0, none⟩)], .agg cs, .slice (some ⟨g, 0, none⟩) (fieldsL m.kind).length (fieldsL m.kind).length] x fun e w' => e = .returned (.tuple #[]) ∧ Wr w' B lo (zs ++ flsB (fieldsL m.kind) m) ∧ Wrote B lo x w') :=
    fun x g zs hx hz hb hg hgB => fields_any hx cs m (fieldsL m.kind) hM hb hN hfit hg hgB (fun f hf => ⟨fieldsL_le _ f hf, mayMsg_fields hm f hf⟩) (fieldsL_len _) hz (fun t ht => fields_pre _ m t ht)
  have HNE := hide (mayMsg_some hm)
  unfold msgB
  obtain ⟨aK, aF, aO, aT, aS, aL, aC, aY, la, ll, lc, ek, ef, en, ta, tl, tc, ps, pi, pm, da, dl, dc, rfl, eK, eF, eO⟩ := hM.shape
  rw [eK] at hk HFA HNE
  rw [eF] at hf
  rw [eO] at ht
  rw [eK, eF, eO]
  clear eK eF eO hM hfit hm
  have hal : Below w.heap.size w ((w.alloc (.cells #[.pointer (some ⟨B, 0, none⟩), .pointer (some ⟨B, 0, none⟩), .pointer (some ⟨B, 0, none⟩)] 70)).alloc (.cells #[.int .i64 aK, .int .i64 aF, .int .i64 aO, .int .i64 aT, .int .i64 aS, .int .i64 aL, .int .i64 aC, .bool aY, .slice la ll lc, .int .i64 ek, .int .i64 ef, .int .i64 en, .slice ta tl tc, .int .i64 ps, .int .i64 pi, .int .i64 pm, .slice da dl dc] 34)) := ((Below.refl _ _).alloc (Nat.le_refl _) _).alloc (by simp) _
  have e0 : (w.alloc (.cells #[.pointer (some ⟨B, 0, none⟩), .pointer (some ⟨B, 0, none⟩), .pointer (some ⟨B, 0, none⟩)] 70)).heap.size = w.heap.size + 1 := by simp
  have b0 : ((w.alloc (.cells #[.pointer (some ⟨B, 0, none⟩), .pointer (some ⟨B, 0, none⟩), .pointer (some ⟨B, 0, none⟩)] 70)).alloc (.cells #[.int .i64 aK, .int .i64 aF, .int .i64 aO, .int .i64 aT, .int .i64 aS, .int .i64 aL, .int .i64 aC, .bool aY, .slice la ll lc, .int .i64 ek, .int .i64 ef, .int .i64 en, .slice ta tl tc, .int .i64 ps, .int .i64 pi, .int .i64 pm, .slice da dl dc] 34)).heap[w.heap.size]? = some (.cells #[.pointer (some ⟨B, 0, none⟩), .pointer (some ⟨B, 0, none⟩), .pointer (some ⟨B, 0, none⟩)] 70) := (Below.heap_alloc _ _ _ (by simp)).trans (heap_alloc_new w _)
  have b1 : ((w.alloc (.cells #[.pointer (some ⟨B, 0, none⟩), .pointer (some ⟨B, 0, none⟩), .pointer (some ⟨B, 0, none⟩)] 70)).alloc (.cells #[.int .i64 aK, .int .i64 aF, .int .i64 aO, .int .i64 aT, .int .i64 aS, .int .i64 aL, .int .i64 aC, .bool aY, .slice la ll lc, .int .i64 ek, .int .i64 ef, .int .i64 en, .slice ta tl tc, .int .i64 ps, .int .i64 pi, .int .i64 pm, .slice da dl dc] 34)).heap[w.heap.size + 1]? = some (.cells #[.int .i64 aK, .int .i64 aF, .int .i64 aO, .int .i64 aT, .int .i64 aS, .int .i64 aL, .int .i64 aC, .bool aY, .slice la ll lc, .int .i64 ek, .int .i64 ef, .int .i64 en, .slice ta tl tc, .int .i64 ps, .int .i64 pi, .int .i64 pm, .slice da dl dc] 34) := by have := heap_alloc_new (w.alloc (.cells #[.pointer (some ⟨B, 0, none⟩), .pointer (some ⟨B, 0, none⟩), .pointer (some ⟨B, 0, none⟩)] 70)) (.cells #[.int .i64 aK, .int .i64 aF, .int .i64 aO, .int .i64 aT, .int .i64 aS, .int .i64 aL, .int .i64 aC, .bool aY, .slice la ll lc, .int .i64 ek, .int .i64 ef, .int .i64 en, .slice ta tl tc, .int .i64 ps, .int .i64 pi, .int .i64 pm, .slice da dl dc] 34); rw [e0] at this; exact this
  obtain ⟨w2, hw2⟩ : ∃ y, ((w.alloc (.cells #[.pointer (some ⟨B, 0, none⟩), .pointer (some ⟨B, 0, none⟩), .pointer (some ⟨B, 0, none⟩)] 70)).alloc (.cells #[.int .i64 aK, .int .i64 aF, .int .i64 aO, .int .i64 aT, .int .i64 aS, .int .i64 aL, .int .i64 aC, .bool aY, .slice la ll lc, .int .i64 ek, .int .i64 ef, .int .i64 en, .slice ta tl tc, .int .i64 ps, .int .i64 pi, .int .i64 pm, .slice da dl dc] 34)) = y := ⟨_, rfl⟩
  rw [hw2] at hal b0 b1
  have HBX : Hid (∀ x : World, Wrote B lo w2 x → x.heap[w.heap.size]? = some (.cells #[.pointer (some ⟨B, 0, none⟩), .pointer (some ⟨B, 0, none⟩), .pointer (some ⟨B, 0, none⟩)] 70) ∧ x.heap[w.heap.size + 1]? = some (.cells #[.int .i64 aK, .int .i64 aF, .int .i64 aO, .int .i64 aT, .int .i64 aS, .int .i64 aL, .int .i64 aC, .bool aY, .slice la ll lc, .int .i64 ek, .int .i64 ef, .int .i64 en, .slice ta tl tc, .int .i64 ps, .int .i64 pi, .int .i64 pm, .slice da dl dc] 34)) := fun x kx => ⟨kx.box b0 (by decide) (by omega), kx.box b1 (by decide) (by omega)⟩
  have HC0 : Hid (∀ x : World, Wrote B lo w2 x → x.cell? ⟨w.heap.size + 1, 0, none⟩ = some (.int .i64 aK)) := fun x kx => cell_of_heap (unhide HBX x kx).2
  have c0 : w2.cell? ⟨w.heap.size, 0, none⟩ = some (.pointer (some ⟨B, 0, none⟩)) := cell_of_heap b0
  have c1 : w2.cell? ⟨w.heap.size + 1, 0, none⟩ = some (.int .i64 aK) := cell_of_heap b1
  have c2 : w2.cell? ⟨w.heap.size + 1, 1, none⟩ = some (.int .i64 aF) := cell_of_heap b1
  have c3 : w2.cell? ⟨w.heap.size + 1, 2, none⟩ = some (.int .i64 aO) := cell_of_heap b1
  have hz : Below w2.heap.size w2 (w2.alloc (.cells #[.int .i64 aK, .int .i64 aF, .int .i64 aO] 2)) := (Below.refl _ _).alloc (Nat.le_refl _) _
  have HN1 := hide (nums_any ((h.below hal).below hz) _ [aK, aF, aO] (sees_lit w2 [aK, aF, aO] (by simp)) (by simp) (i64_of fun x hx => by simp at hx; rcases hx with rfl | rfl | rfl <;> assumption) (by have : sizeL [aK, aF, aO] ≤ 27 := sizeL_le [aK, aF, aO]; simp; omega))
  simp only [List.length_cons, List.length_nil, Nat.reduceAdd, List.nil_append] at HN1
  have HW2 : Hid (Wrote B lo w w2) := Wrote.of hal
  have HX0 : Hid (Wrote B lo w2 (w2.alloc (.cells #[.int .i64 aK, .int .i64 aF, .int .i64 aO] 2))) := Wrote.of hz
  have HWB : Hid (∀ x, Wrote B lo w2 x → Below w0.heap.size w0 x) := fun x k => hb0.trans (((Wrote.of (B := B) (lo := lo) hal).trans k).below hN (by omega) (by have := hb0.size; omega))
  clear h hal hz b0 b1 e0 hk hf ht hb0
  go_enter Tryz.func40, Tryz.ntmps40
  go_wp2_with (rw [hw2])
  refine (unhide HN1).mono ?_
  rintro e y1 ⟨rfl, p1, r1⟩
  have hX1 := (unhide HX0).trans r1
  have HX1 := hide hX1
  have HP1 := hide p1
  clear p1 r1 hX1 HN1 c0 c1 c2 c3
  go_wp2_with fail
  obtain ⟨vw, hvw⟩ : ∃ v, Value.agg #[.pointer (some ⟨B, 0, none⟩), .pointer (some ⟨B, 0, none⟩), .pointer (some ⟨B, 0, none⟩)] = v := ⟨_, rfl⟩
  obtain ⟨vm, hvm⟩ : ∃ v, Value.agg #[.int .i64 aK, .int .i64 aF, .int .i64 aO, .int .i64 aT, .int .i64 aS, .int .i64 aL, .int .i64 aC, .bool aY, .slice la ll lc, .int .i64 ek, .int .i64 ef, .int .i64 en, .slice ta tl tc, .int .i64 ps, .int .i64 pi, .int .i64 pm, .slice da dl dc] = v := ⟨_, rfl⟩
  rw [hvw, hvm]
  rw [hvw, hvm] at HFA
  have HVw := hide hvw
  have HVm := hide hvm
  clear hvw hvm
  refine wp_region_held_drew (S := fun x => Wrote B lo w2 x) (by kernel_rfl) (unhide HX1).drew (fun hHeld => ?_)
  refine wpAnyH_take (i := 0) (v := vw) rfl (by kernel_rfl) (by kernel_rfl) (by kernel_rfl) (fun _ _ _ h => h) (Or.inl ⟨by rfl, ?hy1x0⟩) (by assumption) ?rest1x0
  case hy1x0 => intro w hSw; exact run_loadE rfl rfl (unhide HBX _ hSw).1 Tryz.underlying70 (by kernel_rfl) (unhide HVw)
  simp only [Act.put, List.getElem_toArray, List.getElem_cons_zero, List.setIfInBounds_toArray, List.set_cons_zero, List.set_cons_succ]
  refine wpAnyH_take (i := 1) (v := vm) rfl (by kernel_rfl) (by kernel_rfl) (by kernel_rfl) (fun _ _ _ h => h) (Or.inl ⟨by rfl, ?hy2x1⟩) (by assumption) ?rest2x1
  case hy2x1 => intro w hSw; exact run_loadE rfl rfl (unhide HBX _ hSw).2 Tryz.underlying34 (by kernel_rfl) (unhide HVm)
  simp only [Act.put, List.getElem_toArray, List.getElem_cons_zero, List.getElem_cons_succ, List.setIfInBounds_toArray, List.set_cons_zero, List.set_cons_succ]
  refine wpAnyH_take (i := 2) (v := ?v3x2) rfl (by kernel_rfl) (by kernel_rfl) (by kernel_rfl) (fun _ _ _ h => h) (Or.inl ⟨by rfl, ?hy3x2⟩) (by assumption) ?rest3x2
  case hy3x2 => intro w hSw; go_simp <;> with_reducible rfl
  simp only [Act.put, List.getElem_toArray, List.getElem_cons_zero, List.getElem_cons_succ, List.setIfInBounds_toArray, List.set_cons_zero, List.set_cons_succ]
  refine wpAnyH_take (i := 3) (v := (.int .i64 aK)) rfl (by kernel_rfl) (by kernel_rfl) (by kernel_rfl) (fun _ _ _ h => h) (Or.inl ⟨by rfl, ?hy4x3⟩) (by assumption) ?rest4x3
  case hy4x3 => intro w hSw; have g0 := unhide HC0 _ hSw; go_simp <;> with_reducible rfl
  simp only [Act.put, List.getElem_toArray, List.getElem_cons_zero, List.getElem_cons_succ, List.setIfInBounds_toArray, List.set_cons_zero, List.set_cons_succ]
  refine wpAnyH_ready (rs := [4]) (by kernel_rfl) (by simp) ?_
  refine AllReadyH.cons rfl (fun K hK => ?_) AllReadyH.nil
  go_simp
  refine (fieldsOf_at aK _).mono ?_
  rintro e y2 ⟨v, rfl, hv, hb2⟩
  refine hK _ _ ((unhide HX1).drew.trans (Wrote.of hb2)) ?_
  clear hK hHeld
  refine hv.elim (fun hv1 => absurd hv1.1 (unhide HNE)) (fun hv2 => ?_)
  clear hv
  obtain ⟨g, rfl, hg, hgh⟩ := hv2
  have HX2 : Hid (Wrote B lo w2 y2) := (unhide HX1).drew.trans (Wrote.of hb2)
  have HP2 : Hid (Wr y2 B lo (putL [aK, aF, aO])) := ((unhide HP1).below (Below.refl _ _).drew).below hb2
  have hgB : g ≠ B := by have a1 := (unhide HP1).lt; have a2 := (unhide HP1).le; have a3 : y1.heap.size ≤ g := hg; omega
  have HF5 := hide (unhide HFA y2 g _ (unhide HP2) (by have l1 := putL_le [aK, aF, aO]; simp only [List.length_cons, List.length_nil] at l1; omega) (unhide HWB _ (unhide HX2)) hgh hgB)
  clear hb2 hg hgh hgB
  intro hHeld
  refine wpAnyH_ready (rs := [5]) (by kernel_rfl) (by simp) ?_
  refine AllReadyH.cons rfl (fun K hK => ?_) AllReadyH.nil
  go_simp
  refine (unhide HF5).mono ?_
  rintro e y3 ⟨rfl, q1, q2⟩
  refine hK _ _ ((unhide HX2).trans q2) ?_
  clear hK hHeld
  have HF : Hid (Wr y3 B lo (putL [aK, aF, aO] ++ flsB (fieldsL aK) m) ∧ Wrote B lo w y3) := ⟨q1, (unhide HW2).trans ((unhide HX2).trans q2)⟩
  clear q1 q2
  intro hHeld
  refine wpAnyH_done (by kernel_rfl) ?_ _
  go_wp2
  go_end0
  exact ⟨rfl, unhide HF⟩
end Go.Proofs.YtggllgimlfchhaaGreat
