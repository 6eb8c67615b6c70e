/- FootMay's walk. -/
import Derived.Test.YtibjhjkeflbghaaKG
import Derived.Test.YtibjhjkeflbghaaN4
namespace Go.Proofs.Ytibjhjkeflbghaa
open Go.RowKit
set_option maxRecDepth 100000

/-- A footprint of one's own, from B on. -/
structure FtO (B : Nat) (V : Array Value) (A : Fp) (z : World) : Prop where
  ex : ∃ a c a' c' pv tv, V = ftC a (fun p => (A.rd p).length) c a' (fun p => (A.wt p).length) c' pv tv ∧ FtV B A.rd A.wt a (fun p => (A.rd p).length) c a' (fun p => (A.wt p).length) c' pv tv A.ps A.ts z
theorem FtO.below {B : Nat} {V : Array Value} {A : Fp} {z y : World} (h : FtO B V A z) (hb : Below z.heap.size z y) : FtO B V A y := by
  obtain ⟨a, c, a', c', pv, tv, e, h1, h2, h3, h4⟩ := h.ex
  exact ⟨a, c, a', c', pv, tv, e, h1.below hb, h2.below hb, own_below h3 hb, own_below h4 hb⟩
theorem FtO.box {B b : Nat} {V : Array Value} {A : Fp} {z y : World} {cs : Array Value} (h : FtO B V A z) (hz : z.heap[b]? = some (.cells cs 32)) (hj : ∀ j, j ≠ b → y.heap[j]? = z.heap[j]?) : FtO B V A y := by
  obtain ⟨a, c, a', c', pv, tv, e, h1, h2, h3, h4⟩ := h.ex
  exact ⟨a, c, a', c', pv, tv, e, h1.box hz hj, h2.box hz hj, own_box hz (by decide) hj h3, own_box hz (by decide) hj h4⟩
theorem FtO.sees {B : Nat} {V : Array Value} {A : Fp} {z : World} (h : FtO B V A z) : SeesF z V A := by
  obtain ⟨a, c, a', c', pv, tv, e, h1⟩ := h.ex
  rw [e]
  exact h1.sees
theorem FtO.ft {B : Nat} {V : Array Value} {A : Fp} {z : World} (h : FtO B V A z) : Ft18 V := by
  obtain ⟨a, c, a', c', pv, tv, e, h1⟩ := h.ex
  rw [e]
  refine ⟨rfl, ?_⟩
  obtain ⟨pa, pc, e1⟩ := own_shape h1.ps
  obtain ⟨ta, tc, e2⟩ := own_shape h1.ts
  rw [e1, e2]
  exact ft_one _ _ _ _ _ _
theorem of_o {x : Tx} {w : World} (n : Int) (hx : SeesX w x) : Calls Try.prog 11 #[xV x, .int .i64 n] w fun e w' => ∃ V, e = .returned (.agg V) ∧ FtO w.heap.size V (ofP x n) w' ∧ Below w.heap.size w w' :=
  (of_any n hx).mono fun _ _ ⟨a, c, a', c', pv, tv, he, hv, hb⟩ => ⟨_, he, ⟨a, c, a', c', pv, tv, rfl, hv⟩, hb⟩
theorem run_loadF {ρ : Operand → Value} {o : Oper} {s : Operand} {w : World} {g : Nat} {V : Array Value} (ho : o.op = .load 32 s) (hs : ρ s = .pointer (some ⟨g, 0, none⟩)) (hg : w.heap[g]? = some (.cells V 32)) (hV : V.size = 18) :
    Sem.run Try.prog (execOp ρ o) w = .ok (.value (.agg V)) w := by
  have h := run_loadVar_row (P := Try.prog) w g 32 32 V (0, 0) _ hg Try.underlying32 rfl (by rw [hV]; exact Try.info32)
  unfold execOp
  simp only [ho, hs, Instr.loadAt, Instr.sureAddr, Sem.run_bind, Sem.run_pure, Result.andThen_ok, h]
/-- Where FootMay stands once both footprints are there. -/
def MayS (Y : World) (A B : Fp) (p q : Value) (z : World) : Prop := ∃ b d U V, p = .pointer (some ⟨b, 0, none⟩) ∧ q = .pointer (some ⟨d, 0, none⟩) ∧ z.heap[b]? = some (.cells U 32) ∧ z.heap[d]? = some (.cells V 32) ∧ FtO 0 U A z ∧ FtO 0 V B z ∧ Below Y.heap.size Y z
theorem FtO.zero {B : Nat} {V : Array Value} {A : Fp} {z : World} (h : FtO B V A z) : FtO 0 V A z := by
  obtain ⟨a, c, a', c', pv, tv, e, h1, h2, h3, h4⟩ := h.ex
  exact ⟨a, c, a', c', pv, tv, e, h1.mono (Nat.zero_le _), h2.mono (Nat.zero_le _), own_mono h3 (Nat.zero_le _), own_mono h4 (Nat.zero_le _)⟩
theorem MayS.fin {Y z : World} {A B : Fp} {b d : Nat} {U V : Array Value} (hb : Y.heap.size ≤ b) (hd : Y.heap.size ≤ d) (hne : b ≠ d) (h1 : z.heap[b]? = some (.cells nil18 32)) (h2 : z.heap[d]? = some (.cells nil18 32)) (hU : FtO 0 U A z) (hV : FtO 0 V B z) (hbe : Below Y.heap.size Y z) :
    MayS Y A B (.pointer (some ⟨b, 0, none⟩)) (.pointer (some ⟨d, 0, none⟩)) ((z.setRow b U).setRow d V) := by
  have hj1 : ∀ j, j ≠ b → (z.setRow b U).heap[j]? = z.heap[j]? := fun j hj => setRow_other _ _ _ _ hj
  have hj2 : ∀ j, j ≠ d → ((z.setRow b U).setRow d V).heap[j]? = (z.setRow b U).heap[j]? := fun j hj => setRow_other _ _ _ _ hj
  have h2' : (z.setRow b U).heap[d]? = some (.cells nil18 32) := (hj1 d (Ne.symm hne)).trans h2
  exact ⟨b, d, U, V, rfl, rfl, (hj2 b hne).trans (by rw [setRow_heap z b _ _ 32 (0, 0) h1]), by rw [setRow_heap (z.setRow b U) d _ _ 32 (0, 0) h2'], (hU.box h1 hj1).box h2' hj2, (hV.box h1 hj1).box h2' hj2, below_setRow (below_setRow hbe hb) hd⟩

set_option maxHeartbeats 16000000 in
theorem footMay_walk {x o : Tx} {w : World} (k0 k1 : Int) (hx : SeesX w x) (ho : SeesX w o) : Calls Try.prog 4 #[xV x, .agg #[.int .i32 k0, .int .i64 k1], xV o] w fun e w' => e = .returned (.bool true) ∧ Below w.heap.size w w' := by
  obtain ⟨⟨ac0, nc0, cc0, hc0⟩, ⟨aa0, na0, ca0, ha0⟩⟩ := And.intro hx.shc hx.sha
  obtain ⟨ar0, cr0, hr0⟩ := hx.rs.shape
  obtain ⟨aw0, cw0, hw0⟩ := hx.ws.shape
  obtain ⟨nr0, hnr0⟩ : ∃ z, x.rs.length = z := ⟨_, rfl⟩
  obtain ⟨nw0, hnw0⟩ : ∃ z, x.ws.length = z := ⟨_, rfl⟩
  obtain ⟨s0, hs0⟩ : ∃ z, x.s = z := ⟨_, rfl⟩
  obtain ⟨r0, hrr0⟩ : ∃ z, x.r = z := ⟨_, rfl⟩
  rw [hnr0] at hr0
  rw [hnw0] at hw0
  have hxV0 : xV x = .agg #[.int .i64 s0, .int .i64 r0, .slice ac0 nc0 cc0, .slice aa0 na0 ca0, .slice ar0 nr0 cr0, .slice aw0 nw0 cw0] := by unfold xV; rw [hc0, ha0, hr0, hw0, hs0, hrr0]
  obtain ⟨⟨ac1, nc1, cc1, hc1⟩, ⟨aa1, na1, ca1, ha1⟩⟩ := And.intro ho.shc ho.sha
  obtain ⟨ar1, cr1, hr1⟩ := ho.rs.shape
  obtain ⟨aw1, cw1, hw1⟩ := ho.ws.shape
  obtain ⟨nr1, hnr1⟩ : ∃ z, o.rs.length = z := ⟨_, rfl⟩
  obtain ⟨nw1, hnw1⟩ : ∃ z, o.ws.length = z := ⟨_, rfl⟩
  obtain ⟨s1, hs1⟩ : ∃ z, o.s = z := ⟨_, rfl⟩
  obtain ⟨r1, hrr1⟩ : ∃ z, o.r = z := ⟨_, rfl⟩
  rw [hnr1] at hr1
  rw [hnw1] at hw1
  have hxV1 : xV o = .agg #[.int .i64 s1, .int .i64 r1, .slice ac1 nc1 cc1, .slice aa1 na1 ca1, .slice ar1 nr1 cr1, .slice aw1 nw1 cw1] := by unfold xV; rw [hc1, ha1, hr1, hw1, hs1, hrr1]
  obtain ⟨Y0, hY0⟩ : ∃ y, w.alloc (.cells #[.int .i64 s0, .int .i64 r0, .slice ac0 nc0 cc0, .slice aa0 na0 ca0, .slice ar0 nr0 cr0, .slice aw0 nw0 cw0] 26) = y := ⟨_, rfl⟩
  obtain ⟨Y1, hY1⟩ : ∃ y, Y0.alloc (.cells #[.int .i32 k0, .int .i64 k1] 37) = y := ⟨_, rfl⟩
  obtain ⟨Y, hY⟩ : ∃ y, Y1.alloc (.cells #[.int .i64 s1, .int .i64 r1, .slice ac1 nc1 cc1, .slice aa1 na1 ca1, .slice ar1 nr1 cr1, .slice aw1 nw1 cw1] 26) = y := ⟨_, rfl⟩
  have b0 : Below w.heap.size w Y0 := hY0 ▸ below_box _
  have z0 : Y0.heap.size = w.heap.size + 1 := by rw [← hY0]; simp
  have z1 : Y1.heap.size = Y0.heap.size + 1 := by rw [← hY1]; simp
  have b1 : Below w.heap.size w Y1 := hY1 ▸ b0.alloc b0.size _
  have bY : Below w.heap.size w Y := hY ▸ b1.alloc b1.size _
  have x3 : Y.heap[w.heap.size]? = some (.cells #[.int .i64 s0, .int .i64 r0, .slice ac0 nc0 cc0, .slice aa0 na0 ca0, .slice ar0 nr0 cr0, .slice aw0 nw0 cw0] 26) := by rw [← hY]; exact (Below.heap_alloc Y1 _ _ (by omega)).trans (hY1 ▸ (Below.heap_alloc Y0 _ _ (by omega)).trans (hY0 ▸ heap_alloc_new w _))
  have x4 : Y.heap[Y0.heap.size]? = some (.cells #[.int .i32 k0, .int .i64 k1] 37) := by rw [← hY]; exact (Below.heap_alloc Y1 _ _ (by omega)).trans (hY1 ▸ heap_alloc_new Y0 _)
  have x5 : Y.heap[Y1.heap.size]? = some (.cells #[.int .i64 s1, .int .i64 r1, .slice ac1 nc1 cc1, .slice aa1 na1 ca1, .slice ar1 nr1 cr1, .slice aw1 nw1 cw1] 26) := by rw [← hY]; exact heap_alloc_new Y1 _
  have HB : Hid (∀ z, Below Y.heap.size Y z → z.heap[w.heap.size]? = some (.cells #[.int .i64 s0, .int .i64 r0, .slice ac0 nc0 cc0, .slice aa0 na0 ca0, .slice ar0 nr0 cr0, .slice aw0 nw0 cw0] 26) ∧ z.heap[Y0.heap.size]? = some (.cells #[.int .i32 k0, .int .i64 k1] 37) ∧ z.heap[Y1.heap.size]? = some (.cells #[.int .i64 s1, .int .i64 r1, .slice ac1 nc1 cc1, .slice aa1 na1 ca1, .slice ar1 nr1 cr1, .slice aw1 nw1 cw1] 26)) := fun z hz => ⟨(hz.block _ (Array.getElem?_eq_some_iff.1 x3).1).trans x3, (hz.block _ (Array.getElem?_eq_some_iff.1 x4).1).trans x4, (hz.block _ (Array.getElem?_eq_some_iff.1 x5).1).trans x5⟩
  have HX : Hid (∀ z, Below Y.heap.size Y z → SeesX z x ∧ SeesX z o) := fun z hz => ⟨(hx.below bY).below hz, (ho.below bY).below hz⟩
  have HA : Hid (∀ z, Below Y.heap.size Y z → Calls Try.prog 11 #[.agg #[.int .i64 s0, .int .i64 r0, .slice ac0 nc0 cc0, .slice aa0 na0 ca0, .slice ar0 nr0 cr0, .slice aw0 nw0 cw0], .int .i64 3] z fun e w' => ∃ V, e = .returned (.agg V) ∧ FtO z.heap.size V (ofP x 3) w' ∧ Below z.heap.size z w') := fun z hz => hxV0 ▸ of_o 3 ((unhide HX) z hz).1
  have HO : Hid (∀ z, Below Y.heap.size Y z → Calls Try.prog 11 #[.agg #[.int .i64 s1, .int .i64 r1, .slice ac1 nc1 cc1, .slice aa1 na1 ca1, .slice ar1 nr1 cr1, .slice aw1 nw1 cw1], .int .i64 3] z fun e w' => ∃ V, e = .returned (.agg V) ∧ FtO z.heap.size V (ofP o 3) w' ∧ Below z.heap.size z w') := fun z hz => hxV1 ▸ of_o 3 ((unhide HX) z hz).2
  obtain ⟨dr, hdr⟩ : ∃ d, decide ((k0, k1) ∈ x.rs) = d := ⟨_, rfl⟩
  obtain ⟨dw, hdw⟩ : ∃ d, decide ((k0, k1) ∈ x.ws) = d := ⟨_, rfl⟩
  have H18 : Hid (∀ z, Below Y.heap.size Y z → Calls Try.prog 18 #[.agg #[.int .i64 s0, .int .i64 r0, .slice ac0 nc0 cc0, .slice aa0 na0 ca0, .slice ar0 nr0 cr0, .slice aw0 nw0 cw0], .agg #[.int .i32 k0, .int .i64 k1]] z fun e w' => e = .returned (.bool dr) ∧ Below z.heap.size z w') := fun z hz => hxV0 ▸ hdr ▸ mayRead_any ((unhide HX) z hz).1 k0 k1
  have H20 : Hid (∀ z, Below Y.heap.size Y z → Calls Try.prog 20 #[.agg #[.int .i64 s0, .int .i64 r0, .slice ac0 nc0 cc0, .slice aa0 na0 ca0, .slice ar0 nr0 cr0, .slice aw0 nw0 cw0], .agg #[.int .i32 k0, .int .i64 k1]] z fun e w' => e = .returned (.bool dw) ∧ Below z.heap.size z w') := fun z hz => hxV0 ▸ hdw ▸ mayWrite_any ((unhide HX) z hz).1 k0 k1
  have H19r : Hid (∀ z, Below Y.heap.size Y z → Calls Try.prog 19 #[.slice ar0 nr0 cr0, .agg #[.int .i32 k0, .int .i64 k1]] z fun e w' => e = .returned (.bool dr) ∧ Below z.heap.size z w') := fun z hz => hdr ▸ hr0 ▸ rhas_c ((unhide HX) z hz).1.rs k0 k1
  have H19w : Hid (∀ z, Below Y.heap.size Y z → Calls Try.prog 19 #[.slice aw0 nw0 cw0, .agg #[.int .i32 k0, .int .i64 k1]] z fun e w' => e = .returned (.bool dw) ∧ Below z.heap.size z w') := fun z hz => hdw ▸ hw0 ▸ rhas_c ((unhide HX) z hz).1.ws k0 k1
  obtain ⟨A, hA⟩ : ∃ A, ofP x 3 = A := ⟨_, rfl⟩
  obtain ⟨B, hB⟩ : ∃ A, ofP o 3 = A := ⟨_, rfl⟩
  rw [hA] at HA
  rw [hB] at HO
  rw [hxV0, hxV1]
  have HBY := hide bY
  have HY0 := hide hY0
  have HY1 := hide hY1
  have HY := hide hY
  clear hx ho b0 z0 z1 b1 bY x3 x4 x5 hdr hdw hA hB hxV0 hxV1 hY0 hY1 hY HX
  clear hc0 ha0 hr0 hw0 hnr0 hnw0 hs0 hrr0 hc1 ha1 hr1 hw1 hnr1 hnw1 hs1 hrr1
  go_enter Try.func4, Try.ntmps4
  go_wp2_with (first | rw [unhide HY0] | rw [unhide HY1] | rw [unhide HY])
  go_cut [7, 8] (fun p q wc => MayS Y A B p q wc)
  case first =>
    refine wp_region_held_drew (S := fun x => Below Y.heap.size Y x) (by kernel_rfl) ((Below.refl _ _).drew) (fun hHeld => ?_)
    refine wpAnyH_take (i := 0) (v := (.agg #[.int .i64 s0, .int .i64 r0, .slice ac0 nc0 cc0, .slice aa0 na0 ca0, .slice ar0 nr0 cr0, .slice aw0 nw0 cw0])) rfl (by as_aux_lemma => kernel_rfl) (by as_aux_lemma => kernel_rfl) (by as_aux_lemma => kernel_rfl) (fun _ _ _ h => h) (Or.inl ⟨by rfl, ?hy1x0⟩) (by assumption) ?rest1x0
    case hy1x0 => intro w hSw; have ht := ((unhide HB) _ hSw).1; have q0 := cell_at (o := 0) ht; have q1 := cell_at (o := 1) ht; have q2 := cell_at (o := 2) ht; have q3 := cell_at (o := 3) ht; have q4 := cell_at (o := 4) ht; have q5 := cell_at (o := 5) ht; go_simp <;> with_reducible rfl
    simp only [Act.put, List.getElem_toArray, List.getElem_cons_zero, List.setIfInBounds_toArray, List.set_cons_zero, List.set_cons_succ]
    refine wpAnyH_take (i := 2) (v := (.agg #[.int .i64 s1, .int .i64 r1, .slice ac1 nc1 cc1, .slice aa1 na1 ca1, .slice ar1 nr1 cr1, .slice aw1 nw1 cw1])) rfl (by as_aux_lemma => kernel_rfl) (by as_aux_lemma => kernel_rfl) (by as_aux_lemma => kernel_rfl) (fun _ _ _ h => h) (Or.inl ⟨by rfl, ?hy2x2⟩) (by assumption) ?rest2x2
    case hy2x2 => intro w hSw; have ht := ((unhide HB) _ hSw).2.2; have q0 := cell_at (o := 0) ht; have q1 := cell_at (o := 1) ht; have q2 := cell_at (o := 2) ht; have q3 := cell_at (o := 3) ht; have q4 := cell_at (o := 4) ht; have q5 := cell_at (o := 5) ht; go_simp <;> with_reducible rfl
    simp only [Act.put, List.getElem_toArray, List.getElem_cons_zero, List.getElem_cons_succ, List.setIfInBounds_toArray, List.set_cons_zero, List.set_cons_succ]
    have d0 : Below Y.heap.size Y Y.drew := (Below.refl _ _).drew
    refine wpAnyH_ready (rs := [1, 4, 5]) (by as_aux_lemma => kernel_rfl) (by simp) ?_
    refine AllReadyH.cons rfl (fun K hK => ?_) (AllReadyH.cons rfl (fun K hK => ?_) (AllReadyH.cons rfl (fun K hK => ?_) AllReadyH.nil))
    · skip
      go_simp
      refine ((unhide HA) _ d0).mono ?_
      rintro e u1 ⟨V1, rfl, hf1, hb1⟩
      have n1 : Below Y.heap.size Y u1 := (d0).trans (hb1.mono (d0).size)
      refine hK _ _ n1 ?_
      clear hK hHeld
      intro hHeld
      refine wpAnyH_ready (rs := [3, 4, 5]) (by as_aux_lemma => kernel_rfl) (by simp) ?_
      refine AllReadyH.cons rfl (fun K hK => ?_) (AllReadyH.cons rfl (fun K hK => ?_) (AllReadyH.cons rfl (fun K hK => ?_) AllReadyH.nil))
      · skip
        go_simp
        refine ((unhide HO) _ n1).mono ?_
        rintro e u2 ⟨V2, rfl, hf2, hb2⟩
        have n2 : Below Y.heap.size Y u2 := (n1).trans (hb2.mono (n1).size)
        refine hK _ _ n2 ?_
        clear hK hHeld
        intro hHeld
        refine wpAnyH_ready (rs := [4, 5]) (by as_aux_lemma => kernel_rfl) (by simp) ?_
        refine AllReadyH.cons rfl (fun K hK => ?_) (AllReadyH.cons rfl (fun K hK => ?_) AllReadyH.nil)
        · skip
          go_simp
          have n3 : Below Y.heap.size Y (u2.alloc (.cells nil18 32)) := (n2).alloc (n2).size _
          have hb3 : Below (u2).heap.size (u2) (u2.alloc (.cells nil18 32)) := below_box _
          have hl3 : (u2).heap.size < ((u2.alloc (.cells nil18 32))).heap.size := (Array.getElem?_eq_some_iff.1 (heap_alloc_new (u2) (.cells nil18 32))).1
          refine hK _ _ n3 ?_
          clear hK hHeld
          intro hHeld
          refine wpAnyH_ready (rs := [5]) (by as_aux_lemma => kernel_rfl) (by simp) ?_
          refine AllReadyH.cons rfl (fun K hK => ?_) AllReadyH.nil
          go_simp
          have n4 : Below Y.heap.size Y ((u2.alloc (.cells nil18 32)).alloc (.cells nil18 32)) := (n3).alloc (n3).size _
          have hb4 : Below ((u2.alloc (.cells nil18 32))).heap.size ((u2.alloc (.cells nil18 32))) ((u2.alloc (.cells nil18 32)).alloc (.cells nil18 32)) := below_box _
          have hl4 : ((u2.alloc (.cells nil18 32))).heap.size < (((u2.alloc (.cells nil18 32)).alloc (.cells nil18 32))).heap.size := (Array.getElem?_eq_some_iff.1 (heap_alloc_new ((u2.alloc (.cells nil18 32))) (.cells nil18 32))).1
          refine hK _ _ n4 ?_
          clear hK hHeld
          intro hHeld
          have hh4 : (((u2.alloc (.cells nil18 32)).alloc (.cells nil18 32))).heap[(u2).heap.size + 1]? = some (.cells nil18 32) := by have h := heap_alloc_new ((u2.alloc (.cells nil18 32))) (.cells nil18 32); rwa [show ((u2.alloc (.cells nil18 32))).heap.size = (u2).heap.size + 1 by simp] at h
          have hF := MayS.fin (Y := Y) (z := ((u2.alloc (.cells nil18 32)).alloc (.cells nil18 32))) (n2).size (Nat.le_succ_of_le (n2).size) (Nat.ne_of_lt (Nat.lt_of_lt_of_le (Array.getElem?_eq_some_iff.1 (heap_alloc_new (u2) (.cells nil18 32))).1 (show ((u2.alloc (.cells nil18 32))).heap.size ≤ ((u2).heap.size + 1) by simp))) (((hb4).block _ (Array.getElem?_eq_some_iff.1 (heap_alloc_new (u2) (.cells nil18 32))).1).trans (heap_alloc_new (u2) (.cells nil18 32))) hh4 (((((((hf1).below hb2)).below hb3)).below hb4)).zero (((((hf2).below hb3)).below hb4)).zero n4
          have HFIN := hide hF
          have hs1 : (((u2.alloc (.cells nil18 32)).alloc (.cells nil18 32))).heap[(u2).heap.size]? = some (.cells nil18 32) := (((hb4).block _ (Array.getElem?_eq_some_iff.1 (heap_alloc_new (u2) (.cells nil18 32))).1).trans (heap_alloc_new (u2) (.cells nil18 32)))
          have hs2 : ((((u2.alloc (.cells nil18 32)).alloc (.cells nil18 32))).setRow (u2).heap.size V1).heap[((u2).heap.size + 1)]? = some (.cells nil18 32) := (setRow_other _ _ _ _ (Ne.symm (Nat.ne_of_lt (Nat.lt_of_lt_of_le (Array.getElem?_eq_some_iff.1 (heap_alloc_new (u2) (.cells nil18 32))).1 (show ((u2.alloc (.cells nil18 32))).heap.size ≤ ((u2).heap.size + 1) by simp))))).trans hh4
          have hU := (((((((hf1).below hb2)).below hb3)).below hb4)).ft
          have hV := (((((hf2).below hb3)).below hb4)).ft
          have hbs : Below Y.heap.size Y ((((u2.alloc (.cells nil18 32)).alloc (.cells nil18 32))).setRow (u2).heap.size V1) := below_setRow n4 (n2).size
          have hbt : Below Y.heap.size Y (((((u2.alloc (.cells nil18 32)).alloc (.cells nil18 32))).setRow (u2).heap.size V1).setRow ((u2).heap.size + 1) V2) := below_setRow hbs (Nat.le_succ_of_le (n2).size)
          clear hF
          refine wpAnyH_ready (rs := [6]) (by as_aux_lemma => kernel_rfl) (by simp) ?_
          refine AllReadyH.cons rfl (fun K hK => ?_) AllReadyH.nil
          rw [if_pos (by rfl)]
          refine store_upon (g := (u2).heap.size) rfl rfl rfl hs1 (by rw [hU.1]; exact Try.info32) (by rw [hU.1]; rfl) hU.2 ?_
          simp only [Act.put, List.getElem_toArray, List.getElem_cons_zero, List.getElem_cons_succ]
          refine hK _ _ hbs ?_
          clear hK hHeld
          intro hHeld
          refine wpAnyH_ready (rs := [7]) (by as_aux_lemma => kernel_rfl) (by simp) ?_
          refine AllReadyH.cons rfl (fun K hK => ?_) AllReadyH.nil
          rw [if_pos (by rfl)]
          refine store_upon (g := ((u2).heap.size + 1)) rfl rfl rfl hs2 (by rw [hV.1]; exact Try.info32) (by rw [hV.1]; rfl) hV.2 ?_
          simp only [Act.put, List.getElem_toArray, List.getElem_cons_zero, List.getElem_cons_succ]
          refine hK _ _ hbt ?_
          clear hK hHeld
          intro hHeld
          refine wpAnyH_done (by as_aux_lemma => kernel_rfl) ?_ _
          go_wp2_with fail
          go_meet
          case rel => exact unhide HFIN
        · skip
          go_simp
          have n5 : Below Y.heap.size Y (u2.alloc (.cells nil18 32)) := (n2).alloc (n2).size _
          have hb5 : Below (u2).heap.size (u2) (u2.alloc (.cells nil18 32)) := below_box _
          have hl5 : (u2).heap.size < ((u2.alloc (.cells nil18 32))).heap.size := (Array.getElem?_eq_some_iff.1 (heap_alloc_new (u2) (.cells nil18 32))).1
          refine hK _ _ n5 ?_
          clear hK hHeld
          intro hHeld
          refine wpAnyH_ready (rs := [4]) (by as_aux_lemma => kernel_rfl) (by simp) ?_
          refine AllReadyH.cons rfl (fun K hK => ?_) AllReadyH.nil
          go_simp
          have n6 : Below Y.heap.size Y ((u2.alloc (.cells nil18 32)).alloc (.cells nil18 32)) := (n5).alloc (n5).size _
          have hb6 : Below ((u2.alloc (.cells nil18 32))).heap.size ((u2.alloc (.cells nil18 32))) ((u2.alloc (.cells nil18 32)).alloc (.cells nil18 32)) := below_box _
          have hl6 : ((u2.alloc (.cells nil18 32))).heap.size < (((u2.alloc (.cells nil18 32)).alloc (.cells nil18 32))).heap.size := (Array.getElem?_eq_some_iff.1 (heap_alloc_new ((u2.alloc (.cells nil18 32))) (.cells nil18 32))).1
          refine hK _ _ n6 ?_
          clear hK hHeld
          intro hHeld
          have hh6 : (((u2.alloc (.cells nil18 32)).alloc (.cells nil18 32))).heap[(u2).heap.size + 1]? = some (.cells nil18 32) := by have h := heap_alloc_new ((u2.alloc (.cells nil18 32))) (.cells nil18 32); rwa [show ((u2.alloc (.cells nil18 32))).heap.size = (u2).heap.size + 1 by simp] at h
          have hF := MayS.fin (Y := Y) (z := ((u2.alloc (.cells nil18 32)).alloc (.cells nil18 32))) (Nat.le_succ_of_le (n2).size) (n2).size (Ne.symm (Nat.ne_of_lt (Nat.lt_of_lt_of_le (Array.getElem?_eq_some_iff.1 (heap_alloc_new (u2) (.cells nil18 32))).1 (show ((u2.alloc (.cells nil18 32))).heap.size ≤ ((u2).heap.size + 1) by simp)))) hh6 (((hb6).block _ (Array.getElem?_eq_some_iff.1 (heap_alloc_new (u2) (.cells nil18 32))).1).trans (heap_alloc_new (u2) (.cells nil18 32))) (((((((hf1).below hb2)).below hb5)).below hb6)).zero (((((hf2).below hb5)).below hb6)).zero n6
          have HFIN := hide hF
          have hs1 : (((u2.alloc (.cells nil18 32)).alloc (.cells nil18 32))).heap[((u2).heap.size + 1)]? = some (.cells nil18 32) := hh6
          have hs2 : ((((u2.alloc (.cells nil18 32)).alloc (.cells nil18 32))).setRow ((u2).heap.size + 1) V1).heap[(u2).heap.size]? = some (.cells nil18 32) := (setRow_other _ _ _ _ (Ne.symm (Ne.symm (Nat.ne_of_lt (Nat.lt_of_lt_of_le (Array.getElem?_eq_some_iff.1 (heap_alloc_new (u2) (.cells nil18 32))).1 (show ((u2.alloc (.cells nil18 32))).heap.size ≤ ((u2).heap.size + 1) by simp)))))).trans (((hb6).block _ (Array.getElem?_eq_some_iff.1 (heap_alloc_new (u2) (.cells nil18 32))).1).trans (heap_alloc_new (u2) (.cells nil18 32)))
          have hU := (((((((hf1).below hb2)).below hb5)).below hb6)).ft
          have hV := (((((hf2).below hb5)).below hb6)).ft
          have hbs : Below Y.heap.size Y ((((u2.alloc (.cells nil18 32)).alloc (.cells nil18 32))).setRow ((u2).heap.size + 1) V1) := below_setRow n6 (Nat.le_succ_of_le (n2).size)
          have hbt : Below Y.heap.size Y (((((u2.alloc (.cells nil18 32)).alloc (.cells nil18 32))).setRow ((u2).heap.size + 1) V1).setRow (u2).heap.size V2) := below_setRow hbs (n2).size
          clear hF
          refine wpAnyH_ready (rs := [6]) (by as_aux_lemma => kernel_rfl) (by simp) ?_
          refine AllReadyH.cons rfl (fun K hK => ?_) AllReadyH.nil
          rw [if_pos (by rfl)]
          refine store_upon (g := ((u2).heap.size + 1)) rfl rfl rfl hs1 (by rw [hU.1]; exact Try.info32) (by rw [hU.1]; rfl) hU.2 ?_
          simp only [Act.put, List.getElem_toArray, List.getElem_cons_zero, List.getElem_cons_succ]
          refine hK _ _ hbs ?_
          clear hK hHeld
          intro hHeld
          refine wpAnyH_ready (rs := [7]) (by as_aux_lemma => kernel_rfl) (by simp) ?_
          refine AllReadyH.cons rfl (fun K hK => ?_) AllReadyH.nil
          rw [if_pos (by rfl)]
          refine store_upon (g := (u2).heap.size) rfl rfl rfl hs2 (by rw [hV.1]; exact Try.info32) (by rw [hV.1]; rfl) hV.2 ?_
          simp only [Act.put, List.getElem_toArray, List.getElem_cons_zero, List.getElem_cons_succ]
          refine hK _ _ hbt ?_
          clear hK hHeld
          intro hHeld
          refine wpAnyH_done (by as_aux_lemma => kernel_rfl) ?_ _
          go_wp2_with fail
          go_meet
          case rel => exact unhide HFIN
      · skip
        go_simp
        have n7 : Below Y.heap.size Y (u1.alloc (.cells nil18 32)) := (n1).alloc (n1).size _
        have hb7 : Below (u1).heap.size (u1) (u1.alloc (.cells nil18 32)) := below_box _
        have hl7 : (u1).heap.size < ((u1.alloc (.cells nil18 32))).heap.size := (Array.getElem?_eq_some_iff.1 (heap_alloc_new (u1) (.cells nil18 32))).1
        refine hK _ _ n7 ?_
        clear hK hHeld
        intro hHeld
        refine wpAnyH_ready (rs := [3, 5]) (by as_aux_lemma => kernel_rfl) (by simp) ?_
        refine AllReadyH.cons rfl (fun K hK => ?_) (AllReadyH.cons rfl (fun K hK => ?_) AllReadyH.nil)
        · skip
          go_simp
          refine ((unhide HO) _ n7).mono ?_
          rintro e u8 ⟨V8, rfl, hf8, hb8⟩
          have n8 : Below Y.heap.size Y u8 := (n7).trans (hb8.mono (n7).size)
          refine hK _ _ n8 ?_
          clear hK hHeld
          intro hHeld
          refine wpAnyH_ready (rs := [5]) (by as_aux_lemma => kernel_rfl) (by simp) ?_
          refine AllReadyH.cons rfl (fun K hK => ?_) AllReadyH.nil
          go_simp
          have n9 : Below Y.heap.size Y (u8.alloc (.cells nil18 32)) := (n8).alloc (n8).size _
          have hb9 : Below (u8).heap.size (u8) (u8.alloc (.cells nil18 32)) := below_box _
          have hl9 : (u8).heap.size < ((u8.alloc (.cells nil18 32))).heap.size := (Array.getElem?_eq_some_iff.1 (heap_alloc_new (u8) (.cells nil18 32))).1
          refine hK _ _ n9 ?_
          clear hK hHeld
          intro hHeld
          have hF := MayS.fin (Y := Y) (z := (u8.alloc (.cells nil18 32))) (n1).size (n8).size (Nat.ne_of_lt (Nat.lt_of_lt_of_le (Array.getElem?_eq_some_iff.1 (((hb8).block _ (Array.getElem?_eq_some_iff.1 (heap_alloc_new (u1) (.cells nil18 32))).1).trans (heap_alloc_new (u1) (.cells nil18 32)))).1 (show (u8).heap.size ≤ (u8).heap.size by simp))) (((hb9).block _ (Array.getElem?_eq_some_iff.1 (((hb8).block _ (Array.getElem?_eq_some_iff.1 (heap_alloc_new (u1) (.cells nil18 32))).1).trans (heap_alloc_new (u1) (.cells nil18 32)))).1).trans (((hb8).block _ (Array.getElem?_eq_some_iff.1 (heap_alloc_new (u1) (.cells nil18 32))).1).trans (heap_alloc_new (u1) (.cells nil18 32)))) (heap_alloc_new (u8) (.cells nil18 32)) (((((((hf1).below hb7)).below hb8)).below hb9)).zero (((hf8).below hb9)).zero n9
          have HFIN := hide hF
          have hs1 : ((u8.alloc (.cells nil18 32))).heap[(u1).heap.size]? = some (.cells nil18 32) := (((hb9).block _ (Array.getElem?_eq_some_iff.1 (((hb8).block _ (Array.getElem?_eq_some_iff.1 (heap_alloc_new (u1) (.cells nil18 32))).1).trans (heap_alloc_new (u1) (.cells nil18 32)))).1).trans (((hb8).block _ (Array.getElem?_eq_some_iff.1 (heap_alloc_new (u1) (.cells nil18 32))).1).trans (heap_alloc_new (u1) (.cells nil18 32))))
          have hs2 : (((u8.alloc (.cells nil18 32))).setRow (u1).heap.size V1).heap[(u8).heap.size]? = some (.cells nil18 32) := (setRow_other _ _ _ _ (Ne.symm (Nat.ne_of_lt (Nat.lt_of_lt_of_le (Array.getElem?_eq_some_iff.1 (((hb8).block _ (Array.getElem?_eq_some_iff.1 (heap_alloc_new (u1) (.cells nil18 32))).1).trans (heap_alloc_new (u1) (.cells nil18 32)))).1 (show (u8).heap.size ≤ (u8).heap.size by simp))))).trans (heap_alloc_new (u8) (.cells nil18 32))
          have hU := (((((((hf1).below hb7)).below hb8)).below hb9)).ft
          have hV := (((hf8).below hb9)).ft
          have hbs : Below Y.heap.size Y (((u8.alloc (.cells nil18 32))).setRow (u1).heap.size V1) := below_setRow n9 (n1).size
          have hbt : Below Y.heap.size Y ((((u8.alloc (.cells nil18 32))).setRow (u1).heap.size V1).setRow (u8).heap.size V8) := below_setRow hbs (n8).size
          clear hF
          refine wpAnyH_ready (rs := [6]) (by as_aux_lemma => kernel_rfl) (by simp) ?_
          refine AllReadyH.cons rfl (fun K hK => ?_) AllReadyH.nil
          rw [if_pos (by rfl)]
          refine store_upon (g := (u1).heap.size) rfl rfl rfl hs1 (by rw [hU.1]; exact Try.info32) (by rw [hU.1]; rfl) hU.2 ?_
          simp only [Act.put, List.getElem_toArray, List.getElem_cons_zero, List.getElem_cons_succ]
          refine hK _ _ hbs ?_
          clear hK hHeld
          intro hHeld
          refine wpAnyH_ready (rs := [7]) (by as_aux_lemma => kernel_rfl) (by simp) ?_
          refine AllReadyH.cons rfl (fun K hK => ?_) AllReadyH.nil
          rw [if_pos (by rfl)]
          refine store_upon (g := (u8).heap.size) rfl rfl rfl hs2 (by rw [hV.1]; exact Try.info32) (by rw [hV.1]; rfl) hV.2 ?_
          simp only [Act.put, List.getElem_toArray, List.getElem_cons_zero, List.getElem_cons_succ]
          refine hK _ _ hbt ?_
          clear hK hHeld
          intro hHeld
          refine wpAnyH_done (by as_aux_lemma => kernel_rfl) ?_ _
          go_wp2_with fail
          go_meet
          case rel => exact unhide HFIN
        · skip
          go_simp
          have n10 : Below Y.heap.size Y ((u1.alloc (.cells nil18 32)).alloc (.cells nil18 32)) := (n7).alloc (n7).size _
          have hb10 : Below ((u1.alloc (.cells nil18 32))).heap.size ((u1.alloc (.cells nil18 32))) ((u1.alloc (.cells nil18 32)).alloc (.cells nil18 32)) := below_box _
          have hl10 : ((u1.alloc (.cells nil18 32))).heap.size < (((u1.alloc (.cells nil18 32)).alloc (.cells nil18 32))).heap.size := (Array.getElem?_eq_some_iff.1 (heap_alloc_new ((u1.alloc (.cells nil18 32))) (.cells nil18 32))).1
          refine hK _ _ n10 ?_
          clear hK hHeld
          intro hHeld
          have hh10 : (((u1.alloc (.cells nil18 32)).alloc (.cells nil18 32))).heap[(u1).heap.size + 1]? = some (.cells nil18 32) := by have h := heap_alloc_new ((u1.alloc (.cells nil18 32))) (.cells nil18 32); rwa [show ((u1.alloc (.cells nil18 32))).heap.size = (u1).heap.size + 1 by simp] at h
          refine wpAnyH_ready (rs := [3]) (by as_aux_lemma => kernel_rfl) (by simp) ?_
          refine AllReadyH.cons rfl (fun K hK => ?_) AllReadyH.nil
          go_simp
          refine ((unhide HO) _ n10).mono ?_
          rintro e u11 ⟨V11, rfl, hf11, hb11⟩
          have n11 : Below Y.heap.size Y u11 := (n10).trans (hb11.mono (n10).size)
          refine hK _ _ n11 ?_
          clear hK hHeld
          intro hHeld
          have hF := MayS.fin (Y := Y) (z := u11) (n1).size (Nat.le_succ_of_le (n1).size) (Nat.ne_of_lt (Nat.lt_of_lt_of_le (Array.getElem?_eq_some_iff.1 (heap_alloc_new (u1) (.cells nil18 32))).1 (show ((u1.alloc (.cells nil18 32))).heap.size ≤ ((u1).heap.size + 1) by simp))) (((hb11).block _ (Array.getElem?_eq_some_iff.1 (((hb10).block _ (Array.getElem?_eq_some_iff.1 (heap_alloc_new (u1) (.cells nil18 32))).1).trans (heap_alloc_new (u1) (.cells nil18 32)))).1).trans (((hb10).block _ (Array.getElem?_eq_some_iff.1 (heap_alloc_new (u1) (.cells nil18 32))).1).trans (heap_alloc_new (u1) (.cells nil18 32)))) (((hb11).block _ (Array.getElem?_eq_some_iff.1 hh10).1).trans hh10) (((((((hf1).below hb7)).below hb10)).below hb11)).zero (hf11).zero n11
          have HFIN := hide hF
          have hs1 : (u11).heap[(u1).heap.size]? = some (.cells nil18 32) := (((hb11).block _ (Array.getElem?_eq_some_iff.1 (((hb10).block _ (Array.getElem?_eq_some_iff.1 (heap_alloc_new (u1) (.cells nil18 32))).1).trans (heap_alloc_new (u1) (.cells nil18 32)))).1).trans (((hb10).block _ (Array.getElem?_eq_some_iff.1 (heap_alloc_new (u1) (.cells nil18 32))).1).trans (heap_alloc_new (u1) (.cells nil18 32))))
          have hs2 : ((u11).setRow (u1).heap.size V1).heap[((u1).heap.size + 1)]? = some (.cells nil18 32) := (setRow_other _ _ _ _ (Ne.symm (Nat.ne_of_lt (Nat.lt_of_lt_of_le (Array.getElem?_eq_some_iff.1 (heap_alloc_new (u1) (.cells nil18 32))).1 (show ((u1.alloc (.cells nil18 32))).heap.size ≤ ((u1).heap.size + 1) by simp))))).trans (((hb11).block _ (Array.getElem?_eq_some_iff.1 hh10).1).trans hh10)
          have hU := (((((((hf1).below hb7)).below hb10)).below hb11)).ft
          have hV := (hf11).ft
          have hbs : Below Y.heap.size Y ((u11).setRow (u1).heap.size V1) := below_setRow n11 (n1).size
          have hbt : Below Y.heap.size Y (((u11).setRow (u1).heap.size V1).setRow ((u1).heap.size + 1) V11) := below_setRow hbs (Nat.le_succ_of_le (n1).size)
          clear hF
          refine wpAnyH_ready (rs := [6]) (by as_aux_lemma => kernel_rfl) (by simp) ?_
          refine AllReadyH.cons rfl (fun K hK => ?_) AllReadyH.nil
          rw [if_pos (by rfl)]
          refine store_upon (g := (u1).heap.size) rfl rfl rfl hs1 (by rw [hU.1]; exact Try.info32) (by rw [hU.1]; rfl) hU.2 ?_
          simp only [Act.put, List.getElem_toArray, List.getElem_cons_zero, List.getElem_cons_succ]
          refine hK _ _ hbs ?_
          clear hK hHeld
          intro hHeld
          refine wpAnyH_ready (rs := [7]) (by as_aux_lemma => kernel_rfl) (by simp) ?_
          refine AllReadyH.cons rfl (fun K hK => ?_) AllReadyH.nil
          rw [if_pos (by rfl)]
          refine store_upon (g := ((u1).heap.size + 1)) rfl rfl rfl hs2 (by rw [hV.1]; exact Try.info32) (by rw [hV.1]; rfl) hV.2 ?_
          simp only [Act.put, List.getElem_toArray, List.getElem_cons_zero, List.getElem_cons_succ]
          refine hK _ _ hbt ?_
          clear hK hHeld
          intro hHeld
          refine wpAnyH_done (by as_aux_lemma => kernel_rfl) ?_ _
          go_wp2_with fail
          go_meet
          case rel => exact unhide HFIN
      · skip
        go_simp
        have n12 : Below Y.heap.size Y (u1.alloc (.cells nil18 32)) := (n1).alloc (n1).size _
        have hb12 : Below (u1).heap.size (u1) (u1.alloc (.cells nil18 32)) := below_box _
        have hl12 : (u1).heap.size < ((u1.alloc (.cells nil18 32))).heap.size := (Array.getElem?_eq_some_iff.1 (heap_alloc_new (u1) (.cells nil18 32))).1
        refine hK _ _ n12 ?_
        clear hK hHeld
        intro hHeld
        refine wpAnyH_ready (rs := [3, 4]) (by as_aux_lemma => kernel_rfl) (by simp) ?_
        refine AllReadyH.cons rfl (fun K hK => ?_) (AllReadyH.cons rfl (fun K hK => ?_) AllReadyH.nil)
        · skip
          go_simp
          refine ((unhide HO) _ n12).mono ?_
          rintro e u13 ⟨V13, rfl, hf13, hb13⟩
          have n13 : Below Y.heap.size Y u13 := (n12).trans (hb13.mono (n12).size)
          refine hK _ _ n13 ?_
          clear hK hHeld
          intro hHeld
          refine wpAnyH_ready (rs := [4]) (by as_aux_lemma => kernel_rfl) (by simp) ?_
          refine AllReadyH.cons rfl (fun K hK => ?_) AllReadyH.nil
          go_simp
          have n14 : Below Y.heap.size Y (u13.alloc (.cells nil18 32)) := (n13).alloc (n13).size _
          have hb14 : Below (u13).heap.size (u13) (u13.alloc (.cells nil18 32)) := below_box _
          have hl14 : (u13).heap.size < ((u13.alloc (.cells nil18 32))).heap.size := (Array.getElem?_eq_some_iff.1 (heap_alloc_new (u13) (.cells nil18 32))).1
          refine hK _ _ n14 ?_
          clear hK hHeld
          intro hHeld
          have hF := MayS.fin (Y := Y) (z := (u13.alloc (.cells nil18 32))) (n13).size (n1).size (Ne.symm (Nat.ne_of_lt (Nat.lt_of_lt_of_le (Array.getElem?_eq_some_iff.1 (((hb13).block _ (Array.getElem?_eq_some_iff.1 (heap_alloc_new (u1) (.cells nil18 32))).1).trans (heap_alloc_new (u1) (.cells nil18 32)))).1 (show (u13).heap.size ≤ (u13).heap.size by simp)))) (heap_alloc_new (u13) (.cells nil18 32)) (((hb14).block _ (Array.getElem?_eq_some_iff.1 (((hb13).block _ (Array.getElem?_eq_some_iff.1 (heap_alloc_new (u1) (.cells nil18 32))).1).trans (heap_alloc_new (u1) (.cells nil18 32)))).1).trans (((hb13).block _ (Array.getElem?_eq_some_iff.1 (heap_alloc_new (u1) (.cells nil18 32))).1).trans (heap_alloc_new (u1) (.cells nil18 32)))) (((((((hf1).below hb12)).below hb13)).below hb14)).zero (((hf13).below hb14)).zero n14
          have HFIN := hide hF
          have hs1 : ((u13.alloc (.cells nil18 32))).heap[(u13).heap.size]? = some (.cells nil18 32) := (heap_alloc_new (u13) (.cells nil18 32))
          have hs2 : (((u13.alloc (.cells nil18 32))).setRow (u13).heap.size V1).heap[(u1).heap.size]? = some (.cells nil18 32) := (setRow_other _ _ _ _ (Ne.symm (Ne.symm (Nat.ne_of_lt (Nat.lt_of_lt_of_le (Array.getElem?_eq_some_iff.1 (((hb13).block _ (Array.getElem?_eq_some_iff.1 (heap_alloc_new (u1) (.cells nil18 32))).1).trans (heap_alloc_new (u1) (.cells nil18 32)))).1 (show (u13).heap.size ≤ (u13).heap.size by simp)))))).trans (((hb14).block _ (Array.getElem?_eq_some_iff.1 (((hb13).block _ (Array.getElem?_eq_some_iff.1 (heap_alloc_new (u1) (.cells nil18 32))).1).trans (heap_alloc_new (u1) (.cells nil18 32)))).1).trans (((hb13).block _ (Array.getElem?_eq_some_iff.1 (heap_alloc_new (u1) (.cells nil18 32))).1).trans (heap_alloc_new (u1) (.cells nil18 32))))
          have hU := (((((((hf1).below hb12)).below hb13)).below hb14)).ft
          have hV := (((hf13).below hb14)).ft
          have hbs : Below Y.heap.size Y (((u13.alloc (.cells nil18 32))).setRow (u13).heap.size V1) := below_setRow n14 (n13).size
          have hbt : Below Y.heap.size Y ((((u13.alloc (.cells nil18 32))).setRow (u13).heap.size V1).setRow (u1).heap.size V13) := below_setRow hbs (n1).size
          clear hF
          refine wpAnyH_ready (rs := [6]) (by as_aux_lemma => kernel_rfl) (by simp) ?_
          refine AllReadyH.cons rfl (fun K hK => ?_) AllReadyH.nil
          rw [if_pos (by rfl)]
          refine store_upon (g := (u13).heap.size) rfl rfl rfl hs1 (by rw [hU.1]; exact Try.info32) (by rw [hU.1]; rfl) hU.2 ?_
          simp only [Act.put, List.getElem_toArray, List.getElem_cons_zero, List.getElem_cons_succ]
          refine hK _ _ hbs ?_
          clear hK hHeld
          intro hHeld
          refine wpAnyH_ready (rs := [7]) (by as_aux_lemma => kernel_rfl) (by simp) ?_
          refine AllReadyH.cons rfl (fun K hK => ?_) AllReadyH.nil
          rw [if_pos (by rfl)]
          refine store_upon (g := (u1).heap.size) rfl rfl rfl hs2 (by rw [hV.1]; exact Try.info32) (by rw [hV.1]; rfl) hV.2 ?_
          simp only [Act.put, List.getElem_toArray, List.getElem_cons_zero, List.getElem_cons_succ]
          refine hK _ _ hbt ?_
          clear hK hHeld
          intro hHeld
          refine wpAnyH_done (by as_aux_lemma => kernel_rfl) ?_ _
          go_wp2_with fail
          go_meet
          case rel => exact unhide HFIN
        · skip
          go_simp
          have n15 : Below Y.heap.size Y ((u1.alloc (.cells nil18 32)).alloc (.cells nil18 32)) := (n12).alloc (n12).size _
          have hb15 : Below ((u1.alloc (.cells nil18 32))).heap.size ((u1.alloc (.cells nil18 32))) ((u1.alloc (.cells nil18 32)).alloc (.cells nil18 32)) := below_box _
          have hl15 : ((u1.alloc (.cells nil18 32))).heap.size < (((u1.alloc (.cells nil18 32)).alloc (.cells nil18 32))).heap.size := (Array.getElem?_eq_some_iff.1 (heap_alloc_new ((u1.alloc (.cells nil18 32))) (.cells nil18 32))).1
          refine hK _ _ n15 ?_
          clear hK hHeld
          intro hHeld
          have hh15 : (((u1.alloc (.cells nil18 32)).alloc (.cells nil18 32))).heap[(u1).heap.size + 1]? = some (.cells nil18 32) := by have h := heap_alloc_new ((u1.alloc (.cells nil18 32))) (.cells nil18 32); rwa [show ((u1.alloc (.cells nil18 32))).heap.size = (u1).heap.size + 1 by simp] at h
          refine wpAnyH_ready (rs := [3]) (by as_aux_lemma => kernel_rfl) (by simp) ?_
          refine AllReadyH.cons rfl (fun K hK => ?_) AllReadyH.nil
          go_simp
          refine ((unhide HO) _ n15).mono ?_
          rintro e u16 ⟨V16, rfl, hf16, hb16⟩
          have n16 : Below Y.heap.size Y u16 := (n15).trans (hb16.mono (n15).size)
          refine hK _ _ n16 ?_
          clear hK hHeld
          intro hHeld
          have hF := MayS.fin (Y := Y) (z := u16) (Nat.le_succ_of_le (n1).size) (n1).size (Ne.symm (Nat.ne_of_lt (Nat.lt_of_lt_of_le (Array.getElem?_eq_some_iff.1 (heap_alloc_new (u1) (.cells nil18 32))).1 (show ((u1.alloc (.cells nil18 32))).heap.size ≤ ((u1).heap.size + 1) by simp)))) (((hb16).block _ (Array.getElem?_eq_some_iff.1 hh15).1).trans hh15) (((hb16).block _ (Array.getElem?_eq_some_iff.1 (((hb15).block _ (Array.getElem?_eq_some_iff.1 (heap_alloc_new (u1) (.cells nil18 32))).1).trans (heap_alloc_new (u1) (.cells nil18 32)))).1).trans (((hb15).block _ (Array.getElem?_eq_some_iff.1 (heap_alloc_new (u1) (.cells nil18 32))).1).trans (heap_alloc_new (u1) (.cells nil18 32)))) (((((((hf1).below hb12)).below hb15)).below hb16)).zero (hf16).zero n16
          have HFIN := hide hF
          have hs1 : (u16).heap[((u1).heap.size + 1)]? = some (.cells nil18 32) := (((hb16).block _ (Array.getElem?_eq_some_iff.1 hh15).1).trans hh15)
          have hs2 : ((u16).setRow ((u1).heap.size + 1) V1).heap[(u1).heap.size]? = some (.cells nil18 32) := (setRow_other _ _ _ _ (Ne.symm (Ne.symm (Nat.ne_of_lt (Nat.lt_of_lt_of_le (Array.getElem?_eq_some_iff.1 (heap_alloc_new (u1) (.cells nil18 32))).1 (show ((u1.alloc (.cells nil18 32))).heap.size ≤ ((u1).heap.size + 1) by simp)))))).trans (((hb16).block _ (Array.getElem?_eq_some_iff.1 (((hb15).block _ (Array.getElem?_eq_some_iff.1 (heap_alloc_new (u1) (.cells nil18 32))).1).trans (heap_alloc_new (u1) (.cells nil18 32)))).1).trans (((hb15).block _ (Array.getElem?_eq_some_iff.1 (heap_alloc_new (u1) (.cells nil18 32))).1).trans (heap_alloc_new (u1) (.cells nil18 32))))
          have hU := (((((((hf1).below hb12)).below hb15)).below hb16)).ft
          have hV := (hf16).ft
          have hbs : Below Y.heap.size Y ((u16).setRow ((u1).heap.size + 1) V1) := below_setRow n16 (Nat.le_succ_of_le (n1).size)
          have hbt : Below Y.heap.size Y (((u16).setRow ((u1).heap.size + 1) V1).setRow (u1).heap.size V16) := below_setRow hbs (n1).size
          clear hF
          refine wpAnyH_ready (rs := [6]) (by as_aux_lemma => kernel_rfl) (by simp) ?_
          refine AllReadyH.cons rfl (fun K hK => ?_) AllReadyH.nil
          rw [if_pos (by rfl)]
          refine store_upon (g := ((u1).heap.size + 1)) rfl rfl rfl hs1 (by rw [hU.1]; exact Try.info32) (by rw [hU.1]; rfl) hU.2 ?_
          simp only [Act.put, List.getElem_toArray, List.getElem_cons_zero, List.getElem_cons_succ]
          refine hK _ _ hbs ?_
          clear hK hHeld
          intro hHeld
          refine wpAnyH_ready (rs := [7]) (by as_aux_lemma => kernel_rfl) (by simp) ?_
          refine AllReadyH.cons rfl (fun K hK => ?_) AllReadyH.nil
          rw [if_pos (by rfl)]
          refine store_upon (g := (u1).heap.size) rfl rfl rfl hs2 (by rw [hV.1]; exact Try.info32) (by rw [hV.1]; rfl) hV.2 ?_
          simp only [Act.put, List.getElem_toArray, List.getElem_cons_zero, List.getElem_cons_succ]
          refine hK _ _ hbt ?_
          clear hK hHeld
          intro hHeld
          refine wpAnyH_done (by as_aux_lemma => kernel_rfl) ?_ _
          go_wp2_with fail
          go_meet
          case rel => exact unhide HFIN
    · skip
      go_simp
      have n17 : Below Y.heap.size Y (Y.drew.alloc (.cells nil18 32)) := (d0).alloc (d0).size _
      have hb17 : Below (Y.drew).heap.size (Y.drew) (Y.drew.alloc (.cells nil18 32)) := below_box _
      have hl17 : (Y.drew).heap.size < ((Y.drew.alloc (.cells nil18 32))).heap.size := (Array.getElem?_eq_some_iff.1 (heap_alloc_new (Y.drew) (.cells nil18 32))).1
      refine hK _ _ n17 ?_
      clear hK hHeld
      intro hHeld
      refine wpAnyH_ready (rs := [1, 5]) (by as_aux_lemma => kernel_rfl) (by simp) ?_
      refine AllReadyH.cons rfl (fun K hK => ?_) (AllReadyH.cons rfl (fun K hK => ?_) AllReadyH.nil)
      · skip
        go_simp
        refine ((unhide HA) _ n17).mono ?_
        rintro e u18 ⟨V18, rfl, hf18, hb18⟩
        have n18 : Below Y.heap.size Y u18 := (n17).trans (hb18.mono (n17).size)
        refine hK _ _ n18 ?_
        clear hK hHeld
        intro hHeld
        refine wpAnyH_ready (rs := [3, 5]) (by as_aux_lemma => kernel_rfl) (by simp) ?_
        refine AllReadyH.cons rfl (fun K hK => ?_) (AllReadyH.cons rfl (fun K hK => ?_) AllReadyH.nil)
        · skip
          go_simp
          refine ((unhide HO) _ n18).mono ?_
          rintro e u19 ⟨V19, rfl, hf19, hb19⟩
          have n19 : Below Y.heap.size Y u19 := (n18).trans (hb19.mono (n18).size)
          refine hK _ _ n19 ?_
          clear hK hHeld
          intro hHeld
          refine wpAnyH_ready (rs := [5]) (by as_aux_lemma => kernel_rfl) (by simp) ?_
          refine AllReadyH.cons rfl (fun K hK => ?_) AllReadyH.nil
          go_simp
          have n20 : Below Y.heap.size Y (u19.alloc (.cells nil18 32)) := (n19).alloc (n19).size _
          have hb20 : Below (u19).heap.size (u19) (u19.alloc (.cells nil18 32)) := below_box _
          have hl20 : (u19).heap.size < ((u19.alloc (.cells nil18 32))).heap.size := (Array.getElem?_eq_some_iff.1 (heap_alloc_new (u19) (.cells nil18 32))).1
          refine hK _ _ n20 ?_
          clear hK hHeld
          intro hHeld
          have hF := MayS.fin (Y := Y) (z := (u19.alloc (.cells nil18 32))) (d0).size (n19).size (Nat.ne_of_lt (Nat.lt_of_lt_of_le (Array.getElem?_eq_some_iff.1 (((hb19).block _ (Array.getElem?_eq_some_iff.1 (((hb18).block _ (Array.getElem?_eq_some_iff.1 (heap_alloc_new (Y.drew) (.cells nil18 32))).1).trans (heap_alloc_new (Y.drew) (.cells nil18 32)))).1).trans (((hb18).block _ (Array.getElem?_eq_some_iff.1 (heap_alloc_new (Y.drew) (.cells nil18 32))).1).trans (heap_alloc_new (Y.drew) (.cells nil18 32))))).1 (show (u19).heap.size ≤ (u19).heap.size by simp))) (((hb20).block _ (Array.getElem?_eq_some_iff.1 (((hb19).block _ (Array.getElem?_eq_some_iff.1 (((hb18).block _ (Array.getElem?_eq_some_iff.1 (heap_alloc_new (Y.drew) (.cells nil18 32))).1).trans (heap_alloc_new (Y.drew) (.cells nil18 32)))).1).trans (((hb18).block _ (Array.getElem?_eq_some_iff.1 (heap_alloc_new (Y.drew) (.cells nil18 32))).1).trans (heap_alloc_new (Y.drew) (.cells nil18 32))))).1).trans (((hb19).block _ (Array.getElem?_eq_some_iff.1 (((hb18).block _ (Array.getElem?_eq_some_iff.1 (heap_alloc_new (Y.drew) (.cells nil18 32))).1).trans (heap_alloc_new (Y.drew) (.cells nil18 32)))).1).trans (((hb18).block _ (Array.getElem?_eq_some_iff.1 (heap_alloc_new (Y.drew) (.cells nil18 32))).1).trans (heap_alloc_new (Y.drew) (.cells nil18 32))))) (heap_alloc_new (u19) (.cells nil18 32)) (((((hf18).below hb19)).below hb20)).zero (((hf19).below hb20)).zero n20
          have HFIN := hide hF
          have hs1 : ((u19.alloc (.cells nil18 32))).heap[(Y.drew).heap.size]? = some (.cells nil18 32) := (((hb20).block _ (Array.getElem?_eq_some_iff.1 (((hb19).block _ (Array.getElem?_eq_some_iff.1 (((hb18).block _ (Array.getElem?_eq_some_iff.1 (heap_alloc_new (Y.drew) (.cells nil18 32))).1).trans (heap_alloc_new (Y.drew) (.cells nil18 32)))).1).trans (((hb18).block _ (Array.getElem?_eq_some_iff.1 (heap_alloc_new (Y.drew) (.cells nil18 32))).1).trans (heap_alloc_new (Y.drew) (.cells nil18 32))))).1).trans (((hb19).block _ (Array.getElem?_eq_some_iff.1 (((hb18).block _ (Array.getElem?_eq_some_iff.1 (heap_alloc_new (Y.drew) (.cells nil18 32))).1).trans (heap_alloc_new (Y.drew) (.cells nil18 32)))).1).trans (((hb18).block _ (Array.getElem?_eq_some_iff.1 (heap_alloc_new (Y.drew) (.cells nil18 32))).1).trans (heap_alloc_new (Y.drew) (.cells nil18 32)))))
          have hs2 : (((u19.alloc (.cells nil18 32))).setRow (Y.drew).heap.size V18).heap[(u19).heap.size]? = some (.cells nil18 32) := (setRow_other _ _ _ _ (Ne.symm (Nat.ne_of_lt (Nat.lt_of_lt_of_le (Array.getElem?_eq_some_iff.1 (((hb19).block _ (Array.getElem?_eq_some_iff.1 (((hb18).block _ (Array.getElem?_eq_some_iff.1 (heap_alloc_new (Y.drew) (.cells nil18 32))).1).trans (heap_alloc_new (Y.drew) (.cells nil18 32)))).1).trans (((hb18).block _ (Array.getElem?_eq_some_iff.1 (heap_alloc_new (Y.drew) (.cells nil18 32))).1).trans (heap_alloc_new (Y.drew) (.cells nil18 32))))).1 (show (u19).heap.size ≤ (u19).heap.size by simp))))).trans (heap_alloc_new (u19) (.cells nil18 32))
          have hU := (((((hf18).below hb19)).below hb20)).ft
          have hV := (((hf19).below hb20)).ft
          have hbs : Below Y.heap.size Y (((u19.alloc (.cells nil18 32))).setRow (Y.drew).heap.size V18) := below_setRow n20 (d0).size
          have hbt : Below Y.heap.size Y ((((u19.alloc (.cells nil18 32))).setRow (Y.drew).heap.size V18).setRow (u19).heap.size V19) := below_setRow hbs (n19).size
          clear hF
          refine wpAnyH_ready (rs := [6]) (by as_aux_lemma => kernel_rfl) (by simp) ?_
          refine AllReadyH.cons rfl (fun K hK => ?_) AllReadyH.nil
          rw [if_pos (by rfl)]
          refine store_upon (g := (Y.drew).heap.size) rfl rfl rfl hs1 (by rw [hU.1]; exact Try.info32) (by rw [hU.1]; rfl) hU.2 ?_
          simp only [Act.put, List.getElem_toArray, List.getElem_cons_zero, List.getElem_cons_succ]
          refine hK _ _ hbs ?_
          clear hK hHeld
          intro hHeld
          refine wpAnyH_ready (rs := [7]) (by as_aux_lemma => kernel_rfl) (by simp) ?_
          refine AllReadyH.cons rfl (fun K hK => ?_) AllReadyH.nil
          rw [if_pos (by rfl)]
          refine store_upon (g := (u19).heap.size) rfl rfl rfl hs2 (by rw [hV.1]; exact Try.info32) (by rw [hV.1]; rfl) hV.2 ?_
          simp only [Act.put, List.getElem_toArray, List.getElem_cons_zero, List.getElem_cons_succ]
          refine hK _ _ hbt ?_
          clear hK hHeld
          intro hHeld
          refine wpAnyH_done (by as_aux_lemma => kernel_rfl) ?_ _
          go_wp2_with fail
          go_meet
          case rel => exact unhide HFIN
        · skip
          go_simp
          have n21 : Below Y.heap.size Y (u18.alloc (.cells nil18 32)) := (n18).alloc (n18).size _
          have hb21 : Below (u18).heap.size (u18) (u18.alloc (.cells nil18 32)) := below_box _
          have hl21 : (u18).heap.size < ((u18.alloc (.cells nil18 32))).heap.size := (Array.getElem?_eq_some_iff.1 (heap_alloc_new (u18) (.cells nil18 32))).1
          refine hK _ _ n21 ?_
          clear hK hHeld
          intro hHeld
          refine wpAnyH_ready (rs := [3]) (by as_aux_lemma => kernel_rfl) (by simp) ?_
          refine AllReadyH.cons rfl (fun K hK => ?_) AllReadyH.nil
          go_simp
          refine ((unhide HO) _ n21).mono ?_
          rintro e u22 ⟨V22, rfl, hf22, hb22⟩
          have n22 : Below Y.heap.size Y u22 := (n21).trans (hb22.mono (n21).size)
          refine hK _ _ n22 ?_
          clear hK hHeld
          intro hHeld
          have hF := MayS.fin (Y := Y) (z := u22) (d0).size (n18).size (Nat.ne_of_lt (Nat.lt_of_lt_of_le (Array.getElem?_eq_some_iff.1 (((hb18).block _ (Array.getElem?_eq_some_iff.1 (heap_alloc_new (Y.drew) (.cells nil18 32))).1).trans (heap_alloc_new (Y.drew) (.cells nil18 32)))).1 (show (u18).heap.size ≤ (u18).heap.size by simp))) (((hb22).block _ (Array.getElem?_eq_some_iff.1 (((hb21).block _ (Array.getElem?_eq_some_iff.1 (((hb18).block _ (Array.getElem?_eq_some_iff.1 (heap_alloc_new (Y.drew) (.cells nil18 32))).1).trans (heap_alloc_new (Y.drew) (.cells nil18 32)))).1).trans (((hb18).block _ (Array.getElem?_eq_some_iff.1 (heap_alloc_new (Y.drew) (.cells nil18 32))).1).trans (heap_alloc_new (Y.drew) (.cells nil18 32))))).1).trans (((hb21).block _ (Array.getElem?_eq_some_iff.1 (((hb18).block _ (Array.getElem?_eq_some_iff.1 (heap_alloc_new (Y.drew) (.cells nil18 32))).1).trans (heap_alloc_new (Y.drew) (.cells nil18 32)))).1).trans (((hb18).block _ (Array.getElem?_eq_some_iff.1 (heap_alloc_new (Y.drew) (.cells nil18 32))).1).trans (heap_alloc_new (Y.drew) (.cells nil18 32))))) (((hb22).block _ (Array.getElem?_eq_some_iff.1 (heap_alloc_new (u18) (.cells nil18 32))).1).trans (heap_alloc_new (u18) (.cells nil18 32))) (((((hf18).below hb21)).below hb22)).zero (hf22).zero n22
          have HFIN := hide hF
          have hs1 : (u22).heap[(Y.drew).heap.size]? = some (.cells nil18 32) := (((hb22).block _ (Array.getElem?_eq_some_iff.1 (((hb21).block _ (Array.getElem?_eq_some_iff.1 (((hb18).block _ (Array.getElem?_eq_some_iff.1 (heap_alloc_new (Y.drew) (.cells nil18 32))).1).trans (heap_alloc_new (Y.drew) (.cells nil18 32)))).1).trans (((hb18).block _ (Array.getElem?_eq_some_iff.1 (heap_alloc_new (Y.drew) (.cells nil18 32))).1).trans (heap_alloc_new (Y.drew) (.cells nil18 32))))).1).trans (((hb21).block _ (Array.getElem?_eq_some_iff.1 (((hb18).block _ (Array.getElem?_eq_some_iff.1 (heap_alloc_new (Y.drew) (.cells nil18 32))).1).trans (heap_alloc_new (Y.drew) (.cells nil18 32)))).1).trans (((hb18).block _ (Array.getElem?_eq_some_iff.1 (heap_alloc_new (Y.drew) (.cells nil18 32))).1).trans (heap_alloc_new (Y.drew) (.cells nil18 32)))))
          have hs2 : ((u22).setRow (Y.drew).heap.size V18).heap[(u18).heap.size]? = some (.cells nil18 32) := (setRow_other _ _ _ _ (Ne.symm (Nat.ne_of_lt (Nat.lt_of_lt_of_le (Array.getElem?_eq_some_iff.1 (((hb18).block _ (Array.getElem?_eq_some_iff.1 (heap_alloc_new (Y.drew) (.cells nil18 32))).1).trans (heap_alloc_new (Y.drew) (.cells nil18 32)))).1 (show (u18).heap.size ≤ (u18).heap.size by simp))))).trans (((hb22).block _ (Array.getElem?_eq_some_iff.1 (heap_alloc_new (u18) (.cells nil18 32))).1).trans (heap_alloc_new (u18) (.cells nil18 32)))
          have hU := (((((hf18).below hb21)).below hb22)).ft
          have hV := (hf22).ft
          have hbs : Below Y.heap.size Y ((u22).setRow (Y.drew).heap.size V18) := below_setRow n22 (d0).size
          have hbt : Below Y.heap.size Y (((u22).setRow (Y.drew).heap.size V18).setRow (u18).heap.size V22) := below_setRow hbs (n18).size
          clear hF
          refine wpAnyH_ready (rs := [6]) (by as_aux_lemma => kernel_rfl) (by simp) ?_
          refine AllReadyH.cons rfl (fun K hK => ?_) AllReadyH.nil
          rw [if_pos (by rfl)]
          refine store_upon (g := (Y.drew).heap.size) rfl rfl rfl hs1 (by rw [hU.1]; exact Try.info32) (by rw [hU.1]; rfl) hU.2 ?_
          simp only [Act.put, List.getElem_toArray, List.getElem_cons_zero, List.getElem_cons_succ]
          refine hK _ _ hbs ?_
          clear hK hHeld
          intro hHeld
          refine wpAnyH_ready (rs := [7]) (by as_aux_lemma => kernel_rfl) (by simp) ?_
          refine AllReadyH.cons rfl (fun K hK => ?_) AllReadyH.nil
          rw [if_pos (by rfl)]
          refine store_upon (g := (u18).heap.size) rfl rfl rfl hs2 (by rw [hV.1]; exact Try.info32) (by rw [hV.1]; rfl) hV.2 ?_
          simp only [Act.put, List.getElem_toArray, List.getElem_cons_zero, List.getElem_cons_succ]
          refine hK _ _ hbt ?_
          clear hK hHeld
          intro hHeld
          refine wpAnyH_done (by as_aux_lemma => kernel_rfl) ?_ _
          go_wp2_with fail
          go_meet
          case rel => exact unhide HFIN
      · skip
        go_simp
        have n23 : Below Y.heap.size Y ((Y.drew.alloc (.cells nil18 32)).alloc (.cells nil18 32)) := (n17).alloc (n17).size _
        have hb23 : Below ((Y.drew.alloc (.cells nil18 32))).heap.size ((Y.drew.alloc (.cells nil18 32))) ((Y.drew.alloc (.cells nil18 32)).alloc (.cells nil18 32)) := below_box _
        have hl23 : ((Y.drew.alloc (.cells nil18 32))).heap.size < (((Y.drew.alloc (.cells nil18 32)).alloc (.cells nil18 32))).heap.size := (Array.getElem?_eq_some_iff.1 (heap_alloc_new ((Y.drew.alloc (.cells nil18 32))) (.cells nil18 32))).1
        refine hK _ _ n23 ?_
        clear hK hHeld
        intro hHeld
        have hh23 : (((Y.drew.alloc (.cells nil18 32)).alloc (.cells nil18 32))).heap[(Y.drew).heap.size + 1]? = some (.cells nil18 32) := by have h := heap_alloc_new ((Y.drew.alloc (.cells nil18 32))) (.cells nil18 32); rwa [show ((Y.drew.alloc (.cells nil18 32))).heap.size = (Y.drew).heap.size + 1 by simp] at h
        refine wpAnyH_ready (rs := [1]) (by as_aux_lemma => kernel_rfl) (by simp) ?_
        refine AllReadyH.cons rfl (fun K hK => ?_) AllReadyH.nil
        go_simp
        refine ((unhide HA) _ n23).mono ?_
        rintro e u24 ⟨V24, rfl, hf24, hb24⟩
        have n24 : Below Y.heap.size Y u24 := (n23).trans (hb24.mono (n23).size)
        refine hK _ _ n24 ?_
        clear hK hHeld
        intro hHeld
        refine wpAnyH_ready (rs := [3]) (by as_aux_lemma => kernel_rfl) (by simp) ?_
        refine AllReadyH.cons rfl (fun K hK => ?_) AllReadyH.nil
        go_simp
        refine ((unhide HO) _ n24).mono ?_
        rintro e u25 ⟨V25, rfl, hf25, hb25⟩
        have n25 : Below Y.heap.size Y u25 := (n24).trans (hb25.mono (n24).size)
        refine hK _ _ n25 ?_
        clear hK hHeld
        intro hHeld
        have hF := MayS.fin (Y := Y) (z := u25) (d0).size (Nat.le_succ_of_le (d0).size) (Nat.ne_of_lt (Nat.lt_of_lt_of_le (Array.getElem?_eq_some_iff.1 (heap_alloc_new (Y.drew) (.cells nil18 32))).1 (show ((Y.drew.alloc (.cells nil18 32))).heap.size ≤ ((Y.drew).heap.size + 1) by simp))) (((hb25).block _ (Array.getElem?_eq_some_iff.1 (((hb24).block _ (Array.getElem?_eq_some_iff.1 (((hb23).block _ (Array.getElem?_eq_some_iff.1 (heap_alloc_new (Y.drew) (.cells nil18 32))).1).trans (heap_alloc_new (Y.drew) (.cells nil18 32)))).1).trans (((hb23).block _ (Array.getElem?_eq_some_iff.1 (heap_alloc_new (Y.drew) (.cells nil18 32))).1).trans (heap_alloc_new (Y.drew) (.cells nil18 32))))).1).trans (((hb24).block _ (Array.getElem?_eq_some_iff.1 (((hb23).block _ (Array.getElem?_eq_some_iff.1 (heap_alloc_new (Y.drew) (.cells nil18 32))).1).trans (heap_alloc_new (Y.drew) (.cells nil18 32)))).1).trans (((hb23).block _ (Array.getElem?_eq_some_iff.1 (heap_alloc_new (Y.drew) (.cells nil18 32))).1).trans (heap_alloc_new (Y.drew) (.cells nil18 32))))) (((hb25).block _ (Array.getElem?_eq_some_iff.1 (((hb24).block _ (Array.getElem?_eq_some_iff.1 hh23).1).trans hh23)).1).trans (((hb24).block _ (Array.getElem?_eq_some_iff.1 hh23).1).trans hh23)) (((hf24).below hb25)).zero (hf25).zero n25
        have HFIN := hide hF
        have hs1 : (u25).heap[(Y.drew).heap.size]? = some (.cells nil18 32) := (((hb25).block _ (Array.getElem?_eq_some_iff.1 (((hb24).block _ (Array.getElem?_eq_some_iff.1 (((hb23).block _ (Array.getElem?_eq_some_iff.1 (heap_alloc_new (Y.drew) (.cells nil18 32))).1).trans (heap_alloc_new (Y.drew) (.cells nil18 32)))).1).trans (((hb23).block _ (Array.getElem?_eq_some_iff.1 (heap_alloc_new (Y.drew) (.cells nil18 32))).1).trans (heap_alloc_new (Y.drew) (.cells nil18 32))))).1).trans (((hb24).block _ (Array.getElem?_eq_some_iff.1 (((hb23).block _ (Array.getElem?_eq_some_iff.1 (heap_alloc_new (Y.drew) (.cells nil18 32))).1).trans (heap_alloc_new (Y.drew) (.cells nil18 32)))).1).trans (((hb23).block _ (Array.getElem?_eq_some_iff.1 (heap_alloc_new (Y.drew) (.cells nil18 32))).1).trans (heap_alloc_new (Y.drew) (.cells nil18 32)))))
        have hs2 : ((u25).setRow (Y.drew).heap.size V24).heap[((Y.drew).heap.size + 1)]? = some (.cells nil18 32) := (setRow_other _ _ _ _ (Ne.symm (Nat.ne_of_lt (Nat.lt_of_lt_of_le (Array.getElem?_eq_some_iff.1 (heap_alloc_new (Y.drew) (.cells nil18 32))).1 (show ((Y.drew.alloc (.cells nil18 32))).heap.size ≤ ((Y.drew).heap.size + 1) by simp))))).trans (((hb25).block _ (Array.getElem?_eq_some_iff.1 (((hb24).block _ (Array.getElem?_eq_some_iff.1 hh23).1).trans hh23)).1).trans (((hb24).block _ (Array.getElem?_eq_some_iff.1 hh23).1).trans hh23))
        have hU := (((hf24).below hb25)).ft
        have hV := (hf25).ft
        have hbs : Below Y.heap.size Y ((u25).setRow (Y.drew).heap.size V24) := below_setRow n25 (d0).size
        have hbt : Below Y.heap.size Y (((u25).setRow (Y.drew).heap.size V24).setRow ((Y.drew).heap.size + 1) V25) := below_setRow hbs (Nat.le_succ_of_le (d0).size)
        clear hF
        refine wpAnyH_ready (rs := [6]) (by as_aux_lemma => kernel_rfl) (by simp) ?_
        refine AllReadyH.cons rfl (fun K hK => ?_) AllReadyH.nil
        rw [if_pos (by rfl)]
        refine store_upon (g := (Y.drew).heap.size) rfl rfl rfl hs1 (by rw [hU.1]; exact Try.info32) (by rw [hU.1]; rfl) hU.2 ?_
        simp only [Act.put, List.getElem_toArray, List.getElem_cons_zero, List.getElem_cons_succ]
        refine hK _ _ hbs ?_
        clear hK hHeld
        intro hHeld
        refine wpAnyH_ready (rs := [7]) (by as_aux_lemma => kernel_rfl) (by simp) ?_
        refine AllReadyH.cons rfl (fun K hK => ?_) AllReadyH.nil
        rw [if_pos (by rfl)]
        refine store_upon (g := ((Y.drew).heap.size + 1)) rfl rfl rfl hs2 (by rw [hV.1]; exact Try.info32) (by rw [hV.1]; rfl) hV.2 ?_
        simp only [Act.put, List.getElem_toArray, List.getElem_cons_zero, List.getElem_cons_succ]
        refine hK _ _ hbt ?_
        clear hK hHeld
        intro hHeld
        refine wpAnyH_done (by as_aux_lemma => kernel_rfl) ?_ _
        go_wp2_with fail
        go_meet
        case rel => exact unhide HFIN
    · skip
      go_simp
      have n26 : Below Y.heap.size Y (Y.drew.alloc (.cells nil18 32)) := (d0).alloc (d0).size _
      have hb26 : Below (Y.drew).heap.size (Y.drew) (Y.drew.alloc (.cells nil18 32)) := below_box _
      have hl26 : (Y.drew).heap.size < ((Y.drew.alloc (.cells nil18 32))).heap.size := (Array.getElem?_eq_some_iff.1 (heap_alloc_new (Y.drew) (.cells nil18 32))).1
      refine hK _ _ n26 ?_
      clear hK hHeld
      intro hHeld
      refine wpAnyH_ready (rs := [1, 4]) (by as_aux_lemma => kernel_rfl) (by simp) ?_
      refine AllReadyH.cons rfl (fun K hK => ?_) (AllReadyH.cons rfl (fun K hK => ?_) AllReadyH.nil)
      · skip
        go_simp
        refine ((unhide HA) _ n26).mono ?_
        rintro e u27 ⟨V27, rfl, hf27, hb27⟩
        have n27 : Below Y.heap.size Y u27 := (n26).trans (hb27.mono (n26).size)
        refine hK _ _ n27 ?_
        clear hK hHeld
        intro hHeld
        refine wpAnyH_ready (rs := [3, 4]) (by as_aux_lemma => kernel_rfl) (by simp) ?_
        refine AllReadyH.cons rfl (fun K hK => ?_) (AllReadyH.cons rfl (fun K hK => ?_) AllReadyH.nil)
        · skip
          go_simp
          refine ((unhide HO) _ n27).mono ?_
          rintro e u28 ⟨V28, rfl, hf28, hb28⟩
          have n28 : Below Y.heap.size Y u28 := (n27).trans (hb28.mono (n27).size)
          refine hK _ _ n28 ?_
          clear hK hHeld
          intro hHeld
          refine wpAnyH_ready (rs := [4]) (by as_aux_lemma => kernel_rfl) (by simp) ?_
          refine AllReadyH.cons rfl (fun K hK => ?_) AllReadyH.nil
          go_simp
          have n29 : Below Y.heap.size Y (u28.alloc (.cells nil18 32)) := (n28).alloc (n28).size _
          have hb29 : Below (u28).heap.size (u28) (u28.alloc (.cells nil18 32)) := below_box _
          have hl29 : (u28).heap.size < ((u28.alloc (.cells nil18 32))).heap.size := (Array.getElem?_eq_some_iff.1 (heap_alloc_new (u28) (.cells nil18 32))).1
          refine hK _ _ n29 ?_
          clear hK hHeld
          intro hHeld
          have hF := MayS.fin (Y := Y) (z := (u28.alloc (.cells nil18 32))) (n28).size (d0).size (Ne.symm (Nat.ne_of_lt (Nat.lt_of_lt_of_le (Array.getElem?_eq_some_iff.1 (((hb28).block _ (Array.getElem?_eq_some_iff.1 (((hb27).block _ (Array.getElem?_eq_some_iff.1 (heap_alloc_new (Y.drew) (.cells nil18 32))).1).trans (heap_alloc_new (Y.drew) (.cells nil18 32)))).1).trans (((hb27).block _ (Array.getElem?_eq_some_iff.1 (heap_alloc_new (Y.drew) (.cells nil18 32))).1).trans (heap_alloc_new (Y.drew) (.cells nil18 32))))).1 (show (u28).heap.size ≤ (u28).heap.size by simp)))) (heap_alloc_new (u28) (.cells nil18 32)) (((hb29).block _ (Array.getElem?_eq_some_iff.1 (((hb28).block _ (Array.getElem?_eq_some_iff.1 (((hb27).block _ (Array.getElem?_eq_some_iff.1 (heap_alloc_new (Y.drew) (.cells nil18 32))).1).trans (heap_alloc_new (Y.drew) (.cells nil18 32)))).1).trans (((hb27).block _ (Array.getElem?_eq_some_iff.1 (heap_alloc_new (Y.drew) (.cells nil18 32))).1).trans (heap_alloc_new (Y.drew) (.cells nil18 32))))).1).trans (((hb28).block _ (Array.getElem?_eq_some_iff.1 (((hb27).block _ (Array.getElem?_eq_some_iff.1 (heap_alloc_new (Y.drew) (.cells nil18 32))).1).trans (heap_alloc_new (Y.drew) (.cells nil18 32)))).1).trans (((hb27).block _ (Array.getElem?_eq_some_iff.1 (heap_alloc_new (Y.drew) (.cells nil18 32))).1).trans (heap_alloc_new (Y.drew) (.cells nil18 32))))) (((((hf27).below hb28)).below hb29)).zero (((hf28).below hb29)).zero n29
          have HFIN := hide hF
          have hs1 : ((u28.alloc (.cells nil18 32))).heap[(u28).heap.size]? = some (.cells nil18 32) := (heap_alloc_new (u28) (.cells nil18 32))
          have hs2 : (((u28.alloc (.cells nil18 32))).setRow (u28).heap.size V27).heap[(Y.drew).heap.size]? = some (.cells nil18 32) := (setRow_other _ _ _ _ (Ne.symm (Ne.symm (Nat.ne_of_lt (Nat.lt_of_lt_of_le (Array.getElem?_eq_some_iff.1 (((hb28).block _ (Array.getElem?_eq_some_iff.1 (((hb27).block _ (Array.getElem?_eq_some_iff.1 (heap_alloc_new (Y.drew) (.cells nil18 32))).1).trans (heap_alloc_new (Y.drew) (.cells nil18 32)))).1).trans (((hb27).block _ (Array.getElem?_eq_some_iff.1 (heap_alloc_new (Y.drew) (.cells nil18 32))).1).trans (heap_alloc_new (Y.drew) (.cells nil18 32))))).1 (show (u28).heap.size ≤ (u28).heap.size by simp)))))).trans (((hb29).block _ (Array.getElem?_eq_some_iff.1 (((hb28).block _ (Array.getElem?_eq_some_iff.1 (((hb27).block _ (Array.getElem?_eq_some_iff.1 (heap_alloc_new (Y.drew) (.cells nil18 32))).1).trans (heap_alloc_new (Y.drew) (.cells nil18 32)))).1).trans (((hb27).block _ (Array.getElem?_eq_some_iff.1 (heap_alloc_new (Y.drew) (.cells nil18 32))).1).trans (heap_alloc_new (Y.drew) (.cells nil18 32))))).1).trans (((hb28).block _ (Array.getElem?_eq_some_iff.1 (((hb27).block _ (Array.getElem?_eq_some_iff.1 (heap_alloc_new (Y.drew) (.cells nil18 32))).1).trans (heap_alloc_new (Y.drew) (.cells nil18 32)))).1).trans (((hb27).block _ (Array.getElem?_eq_some_iff.1 (heap_alloc_new (Y.drew) (.cells nil18 32))).1).trans (heap_alloc_new (Y.drew) (.cells nil18 32)))))
          have hU := (((((hf27).below hb28)).below hb29)).ft
          have hV := (((hf28).below hb29)).ft
          have hbs : Below Y.heap.size Y (((u28.alloc (.cells nil18 32))).setRow (u28).heap.size V27) := below_setRow n29 (n28).size
          have hbt : Below Y.heap.size Y ((((u28.alloc (.cells nil18 32))).setRow (u28).heap.size V27).setRow (Y.drew).heap.size V28) := below_setRow hbs (d0).size
          clear hF
          refine wpAnyH_ready (rs := [6]) (by as_aux_lemma => kernel_rfl) (by simp) ?_
          refine AllReadyH.cons rfl (fun K hK => ?_) AllReadyH.nil
          rw [if_pos (by rfl)]
          refine store_upon (g := (u28).heap.size) rfl rfl rfl hs1 (by rw [hU.1]; exact Try.info32) (by rw [hU.1]; rfl) hU.2 ?_
          simp only [Act.put, List.getElem_toArray, List.getElem_cons_zero, List.getElem_cons_succ]
          refine hK _ _ hbs ?_
          clear hK hHeld
          intro hHeld
          refine wpAnyH_ready (rs := [7]) (by as_aux_lemma => kernel_rfl) (by simp) ?_
          refine AllReadyH.cons rfl (fun K hK => ?_) AllReadyH.nil
          rw [if_pos (by rfl)]
          refine store_upon (g := (Y.drew).heap.size) rfl rfl rfl hs2 (by rw [hV.1]; exact Try.info32) (by rw [hV.1]; rfl) hV.2 ?_
          simp only [Act.put, List.getElem_toArray, List.getElem_cons_zero, List.getElem_cons_succ]
          refine hK _ _ hbt ?_
          clear hK hHeld
          intro hHeld
          refine wpAnyH_done (by as_aux_lemma => kernel_rfl) ?_ _
          go_wp2_with fail
          go_meet
          case rel => exact unhide HFIN
        · skip
          go_simp
          have n30 : Below Y.heap.size Y (u27.alloc (.cells nil18 32)) := (n27).alloc (n27).size _
          have hb30 : Below (u27).heap.size (u27) (u27.alloc (.cells nil18 32)) := below_box _
          have hl30 : (u27).heap.size < ((u27.alloc (.cells nil18 32))).heap.size := (Array.getElem?_eq_some_iff.1 (heap_alloc_new (u27) (.cells nil18 32))).1
          refine hK _ _ n30 ?_
          clear hK hHeld
          intro hHeld
          refine wpAnyH_ready (rs := [3]) (by as_aux_lemma => kernel_rfl) (by simp) ?_
          refine AllReadyH.cons rfl (fun K hK => ?_) AllReadyH.nil
          go_simp
          refine ((unhide HO) _ n30).mono ?_
          rintro e u31 ⟨V31, rfl, hf31, hb31⟩
          have n31 : Below Y.heap.size Y u31 := (n30).trans (hb31.mono (n30).size)
          refine hK _ _ n31 ?_
          clear hK hHeld
          intro hHeld
          have hF := MayS.fin (Y := Y) (z := u31) (n27).size (d0).size (Ne.symm (Nat.ne_of_lt (Nat.lt_of_lt_of_le (Array.getElem?_eq_some_iff.1 (((hb27).block _ (Array.getElem?_eq_some_iff.1 (heap_alloc_new (Y.drew) (.cells nil18 32))).1).trans (heap_alloc_new (Y.drew) (.cells nil18 32)))).1 (show (u27).heap.size ≤ (u27).heap.size by simp)))) (((hb31).block _ (Array.getElem?_eq_some_iff.1 (heap_alloc_new (u27) (.cells nil18 32))).1).trans (heap_alloc_new (u27) (.cells nil18 32))) (((hb31).block _ (Array.getElem?_eq_some_iff.1 (((hb30).block _ (Array.getElem?_eq_some_iff.1 (((hb27).block _ (Array.getElem?_eq_some_iff.1 (heap_alloc_new (Y.drew) (.cells nil18 32))).1).trans (heap_alloc_new (Y.drew) (.cells nil18 32)))).1).trans (((hb27).block _ (Array.getElem?_eq_some_iff.1 (heap_alloc_new (Y.drew) (.cells nil18 32))).1).trans (heap_alloc_new (Y.drew) (.cells nil18 32))))).1).trans (((hb30).block _ (Array.getElem?_eq_some_iff.1 (((hb27).block _ (Array.getElem?_eq_some_iff.1 (heap_alloc_new (Y.drew) (.cells nil18 32))).1).trans (heap_alloc_new (Y.drew) (.cells nil18 32)))).1).trans (((hb27).block _ (Array.getElem?_eq_some_iff.1 (heap_alloc_new (Y.drew) (.cells nil18 32))).1).trans (heap_alloc_new (Y.drew) (.cells nil18 32))))) (((((hf27).below hb30)).below hb31)).zero (hf31).zero n31
          have HFIN := hide hF
          have hs1 : (u31).heap[(u27).heap.size]? = some (.cells nil18 32) := (((hb31).block _ (Array.getElem?_eq_some_iff.1 (heap_alloc_new (u27) (.cells nil18 32))).1).trans (heap_alloc_new (u27) (.cells nil18 32)))
          have hs2 : ((u31).setRow (u27).heap.size V27).heap[(Y.drew).heap.size]? = some (.cells nil18 32) := (setRow_other _ _ _ _ (Ne.symm (Ne.symm (Nat.ne_of_lt (Nat.lt_of_lt_of_le (Array.getElem?_eq_some_iff.1 (((hb27).block _ (Array.getElem?_eq_some_iff.1 (heap_alloc_new (Y.drew) (.cells nil18 32))).1).trans (heap_alloc_new (Y.drew) (.cells nil18 32)))).1 (show (u27).heap.size ≤ (u27).heap.size by simp)))))).trans (((hb31).block _ (Array.getElem?_eq_some_iff.1 (((hb30).block _ (Array.getElem?_eq_some_iff.1 (((hb27).block _ (Array.getElem?_eq_some_iff.1 (heap_alloc_new (Y.drew) (.cells nil18 32))).1).trans (heap_alloc_new (Y.drew) (.cells nil18 32)))).1).trans (((hb27).block _ (Array.getElem?_eq_some_iff.1 (heap_alloc_new (Y.drew) (.cells nil18 32))).1).trans (heap_alloc_new (Y.drew) (.cells nil18 32))))).1).trans (((hb30).block _ (Array.getElem?_eq_some_iff.1 (((hb27).block _ (Array.getElem?_eq_some_iff.1 (heap_alloc_new (Y.drew) (.cells nil18 32))).1).trans (heap_alloc_new (Y.drew) (.cells nil18 32)))).1).trans (((hb27).block _ (Array.getElem?_eq_some_iff.1 (heap_alloc_new (Y.drew) (.cells nil18 32))).1).trans (heap_alloc_new (Y.drew) (.cells nil18 32)))))
          have hU := (((((hf27).below hb30)).below hb31)).ft
          have hV := (hf31).ft
          have hbs : Below Y.heap.size Y ((u31).setRow (u27).heap.size V27) := below_setRow n31 (n27).size
          have hbt : Below Y.heap.size Y (((u31).setRow (u27).heap.size V27).setRow (Y.drew).heap.size V31) := below_setRow hbs (d0).size
          clear hF
          refine wpAnyH_ready (rs := [6]) (by as_aux_lemma => kernel_rfl) (by simp) ?_
          refine AllReadyH.cons rfl (fun K hK => ?_) AllReadyH.nil
          rw [if_pos (by rfl)]
          refine store_upon (g := (u27).heap.size) rfl rfl rfl hs1 (by rw [hU.1]; exact Try.info32) (by rw [hU.1]; rfl) hU.2 ?_
          simp only [Act.put, List.getElem_toArray, List.getElem_cons_zero, List.getElem_cons_succ]
          refine hK _ _ hbs ?_
          clear hK hHeld
          intro hHeld
          refine wpAnyH_ready (rs := [7]) (by as_aux_lemma => kernel_rfl) (by simp) ?_
          refine AllReadyH.cons rfl (fun K hK => ?_) AllReadyH.nil
          rw [if_pos (by rfl)]
          refine store_upon (g := (Y.drew).heap.size) rfl rfl rfl hs2 (by rw [hV.1]; exact Try.info32) (by rw [hV.1]; rfl) hV.2 ?_
          simp only [Act.put, List.getElem_toArray, List.getElem_cons_zero, List.getElem_cons_succ]
          refine hK _ _ hbt ?_
          clear hK hHeld
          intro hHeld
          refine wpAnyH_done (by as_aux_lemma => kernel_rfl) ?_ _
          go_wp2_with fail
          go_meet
          case rel => exact unhide HFIN
      · skip
        go_simp
        have n32 : Below Y.heap.size Y ((Y.drew.alloc (.cells nil18 32)).alloc (.cells nil18 32)) := (n26).alloc (n26).size _
        have hb32 : Below ((Y.drew.alloc (.cells nil18 32))).heap.size ((Y.drew.alloc (.cells nil18 32))) ((Y.drew.alloc (.cells nil18 32)).alloc (.cells nil18 32)) := below_box _
        have hl32 : ((Y.drew.alloc (.cells nil18 32))).heap.size < (((Y.drew.alloc (.cells nil18 32)).alloc (.cells nil18 32))).heap.size := (Array.getElem?_eq_some_iff.1 (heap_alloc_new ((Y.drew.alloc (.cells nil18 32))) (.cells nil18 32))).1
        refine hK _ _ n32 ?_
        clear hK hHeld
        intro hHeld
        have hh32 : (((Y.drew.alloc (.cells nil18 32)).alloc (.cells nil18 32))).heap[(Y.drew).heap.size + 1]? = some (.cells nil18 32) := by have h := heap_alloc_new ((Y.drew.alloc (.cells nil18 32))) (.cells nil18 32); rwa [show ((Y.drew.alloc (.cells nil18 32))).heap.size = (Y.drew).heap.size + 1 by simp] at h
        refine wpAnyH_ready (rs := [1]) (by as_aux_lemma => kernel_rfl) (by simp) ?_
        refine AllReadyH.cons rfl (fun K hK => ?_) AllReadyH.nil
        go_simp
        refine ((unhide HA) _ n32).mono ?_
        rintro e u33 ⟨V33, rfl, hf33, hb33⟩
        have n33 : Below Y.heap.size Y u33 := (n32).trans (hb33.mono (n32).size)
        refine hK _ _ n33 ?_
        clear hK hHeld
        intro hHeld
        refine wpAnyH_ready (rs := [3]) (by as_aux_lemma => kernel_rfl) (by simp) ?_
        refine AllReadyH.cons rfl (fun K hK => ?_) AllReadyH.nil
        go_simp
        refine ((unhide HO) _ n33).mono ?_
        rintro e u34 ⟨V34, rfl, hf34, hb34⟩
        have n34 : Below Y.heap.size Y u34 := (n33).trans (hb34.mono (n33).size)
        refine hK _ _ n34 ?_
        clear hK hHeld
        intro hHeld
        have hF := MayS.fin (Y := Y) (z := u34) (Nat.le_succ_of_le (d0).size) (d0).size (Ne.symm (Nat.ne_of_lt (Nat.lt_of_lt_of_le (Array.getElem?_eq_some_iff.1 (heap_alloc_new (Y.drew) (.cells nil18 32))).1 (show ((Y.drew.alloc (.cells nil18 32))).heap.size ≤ ((Y.drew).heap.size + 1) by simp)))) (((hb34).block _ (Array.getElem?_eq_some_iff.1 (((hb33).block _ (Array.getElem?_eq_some_iff.1 hh32).1).trans hh32)).1).trans (((hb33).block _ (Array.getElem?_eq_some_iff.1 hh32).1).trans hh32)) (((hb34).block _ (Array.getElem?_eq_some_iff.1 (((hb33).block _ (Array.getElem?_eq_some_iff.1 (((hb32).block _ (Array.getElem?_eq_some_iff.1 (heap_alloc_new (Y.drew) (.cells nil18 32))).1).trans (heap_alloc_new (Y.drew) (.cells nil18 32)))).1).trans (((hb32).block _ (Array.getElem?_eq_some_iff.1 (heap_alloc_new (Y.drew) (.cells nil18 32))).1).trans (heap_alloc_new (Y.drew) (.cells nil18 32))))).1).trans (((hb33).block _ (Array.getElem?_eq_some_iff.1 (((hb32).block _ (Array.getElem?_eq_some_iff.1 (heap_alloc_new (Y.drew) (.cells nil18 32))).1).trans (heap_alloc_new (Y.drew) (.cells nil18 32)))).1).trans (((hb32).block _ (Array.getElem?_eq_some_iff.1 (heap_alloc_new (Y.drew) (.cells nil18 32))).1).trans (heap_alloc_new (Y.drew) (.cells nil18 32))))) (((hf33).below hb34)).zero (hf34).zero n34
        have HFIN := hide hF
        have hs1 : (u34).heap[((Y.drew).heap.size + 1)]? = some (.cells nil18 32) := (((hb34).block _ (Array.getElem?_eq_some_iff.1 (((hb33).block _ (Array.getElem?_eq_some_iff.1 hh32).1).trans hh32)).1).trans (((hb33).block _ (Array.getElem?_eq_some_iff.1 hh32).1).trans hh32))
        have hs2 : ((u34).setRow ((Y.drew).heap.size + 1) V33).heap[(Y.drew).heap.size]? = some (.cells nil18 32) := (setRow_other _ _ _ _ (Ne.symm (Ne.symm (Nat.ne_of_lt (Nat.lt_of_lt_of_le (Array.getElem?_eq_some_iff.1 (heap_alloc_new (Y.drew) (.cells nil18 32))).1 (show ((Y.drew.alloc (.cells nil18 32))).heap.size ≤ ((Y.drew).heap.size + 1) by simp)))))).trans (((hb34).block _ (Array.getElem?_eq_some_iff.1 (((hb33).block _ (Array.getElem?_eq_some_iff.1 (((hb32).block _ (Array.getElem?_eq_some_iff.1 (heap_alloc_new (Y.drew) (.cells nil18 32))).1).trans (heap_alloc_new (Y.drew) (.cells nil18 32)))).1).trans (((hb32).block _ (Array.getElem?_eq_some_iff.1 (heap_alloc_new (Y.drew) (.cells nil18 32))).1).trans (heap_alloc_new (Y.drew) (.cells nil18 32))))).1).trans (((hb33).block _ (Array.getElem?_eq_some_iff.1 (((hb32).block _ (Array.getElem?_eq_some_iff.1 (heap_alloc_new (Y.drew) (.cells nil18 32))).1).trans (heap_alloc_new (Y.drew) (.cells nil18 32)))).1).trans (((hb32).block _ (Array.getElem?_eq_some_iff.1 (heap_alloc_new (Y.drew) (.cells nil18 32))).1).trans (heap_alloc_new (Y.drew) (.cells nil18 32)))))
        have hU := (((hf33).below hb34)).ft
        have hV := (hf34).ft
        have hbs : Below Y.heap.size Y ((u34).setRow ((Y.drew).heap.size + 1) V33) := below_setRow n34 (Nat.le_succ_of_le (d0).size)
        have hbt : Below Y.heap.size Y (((u34).setRow ((Y.drew).heap.size + 1) V33).setRow (Y.drew).heap.size V34) := below_setRow hbs (d0).size
        clear hF
        refine wpAnyH_ready (rs := [6]) (by as_aux_lemma => kernel_rfl) (by simp) ?_
        refine AllReadyH.cons rfl (fun K hK => ?_) AllReadyH.nil
        rw [if_pos (by rfl)]
        refine store_upon (g := ((Y.drew).heap.size + 1)) rfl rfl rfl hs1 (by rw [hU.1]; exact Try.info32) (by rw [hU.1]; rfl) hU.2 ?_
        simp only [Act.put, List.getElem_toArray, List.getElem_cons_zero, List.getElem_cons_succ]
        refine hK _ _ hbs ?_
        clear hK hHeld
        intro hHeld
        refine wpAnyH_ready (rs := [7]) (by as_aux_lemma => kernel_rfl) (by simp) ?_
        refine AllReadyH.cons rfl (fun K hK => ?_) AllReadyH.nil
        rw [if_pos (by rfl)]
        refine store_upon (g := (Y.drew).heap.size) rfl rfl rfl hs2 (by rw [hV.1]; exact Try.info32) (by rw [hV.1]; rfl) hV.2 ?_
        simp only [Act.put, List.getElem_toArray, List.getElem_cons_zero, List.getElem_cons_succ]
        refine hK _ _ hbt ?_
        clear hK hHeld
        intro hHeld
        refine wpAnyH_done (by as_aux_lemma => kernel_rfl) ?_ _
        go_wp2_with fail
        go_meet
        case rel => exact unhide HFIN
  case rest =>
    obtain ⟨b, d, U, V, rfl, rfl, hbU, hbV, hfU, hfV, hbe⟩ := hcut
    have HW : Hid (∀ z, Below wc.heap.size wc z → z.heap[w.heap.size]? = some (.cells #[.int .i64 s0, .int .i64 r0, .slice ac0 nc0 cc0, .slice aa0 na0 ca0, .slice ar0 nr0 cr0, .slice aw0 nw0 cw0] 26) ∧ z.heap[Y0.heap.size]? = some (.cells #[.int .i32 k0, .int .i64 k1] 37) ∧ z.heap[b]? = some (.cells U 32) ∧ z.heap[d]? = some (.cells V 32) ∧ SeesF z U A ∧ SeesF z V B) := fun z hz => ⟨((unhide HB) z (hbe.trans (hz.mono hbe.size))).1, ((unhide HB) z (hbe.trans (hz.mono hbe.size))).2.1, (hz.block _ (Array.getElem?_eq_some_iff.1 hbU).1).trans hbU, (hz.block _ (Array.getElem?_eq_some_iff.1 hbV).1).trans hbV, (hfU.below hz).sees, (hfV.below hz).sees⟩
    have HE : Hid (∀ z, Below wc.heap.size wc z → Below Y.heap.size Y z) := fun z hz => hbe.trans (hz.mono hbe.size)
    have hU8 := hfU.ft.1
    have hV8 := hfV.ft.1
    have HU8 := hide (And.intro hU8 hV8)
    clear hbU hbV hfU hfV hbe hU8 hV8
    go_wp2_with fail
    refine wp_region_held_drew (S := fun x => Below wc.heap.size wc x) (by kernel_rfl) ((Below.refl _ _).drew) (fun hHeld => ?_)
    have t0 : Below wc.heap.size wc wc.drew := (Below.refl _ _).drew
    refine wpAnyH_ready (rs := [0]) (by as_aux_lemma => kernel_rfl) (by simp) ?_
    refine AllReadyH.cons rfl (fun K hK => ?_) AllReadyH.nil
    go_simp
    refine (live_any _).mono ?_
    rintro e c1 ⟨rfl, hbc1⟩
    refine hK _ _ (t0.trans (hbc1.mono t0.size)) ?_
    clear hK hHeld
    have tc1 : Below wc.heap.size wc c1 := t0.trans (hbc1.mono t0.size)
    intro hHeld
    refine wpAnyH_take (i := 1) (v := ?v3x1) rfl (by as_aux_lemma => kernel_rfl) (by as_aux_lemma => kernel_rfl) (by as_aux_lemma => kernel_rfl) (fun _ _ _ h => h) (Or.inl ⟨by rfl, ?hy3x1⟩) (by assumption) ?rest3x1
    case hy3x1 => intro w hSw; go_simp <;> with_reducible rfl
    simp only [Act.put, List.getElem_toArray, List.getElem_cons_zero, List.getElem_cons_succ, List.setIfInBounds_toArray, List.set_cons_zero, List.set_cons_succ]
    refine wpAnyH_take (i := 2) (v := (.agg #[.int .i64 s0, .int .i64 r0, .slice ac0 nc0 cc0, .slice aa0 na0 ca0, .slice ar0 nr0 cr0, .slice aw0 nw0 cw0])) rfl (by as_aux_lemma => kernel_rfl) (by as_aux_lemma => kernel_rfl) (by as_aux_lemma => kernel_rfl) (fun _ _ _ h => h) (Or.inl ⟨by rfl, ?hy4x2⟩) (by assumption) ?rest4x2
    case hy4x2 => intro w hSw; have ht := ((unhide HW) _ hSw).1; have q0 := cell_at (o := 0) ht; have q1 := cell_at (o := 1) ht; have q2 := cell_at (o := 2) ht; have q3 := cell_at (o := 3) ht; have q4 := cell_at (o := 4) ht; have q5 := cell_at (o := 5) ht; go_simp <;> with_reducible rfl
    simp only [Act.put, List.getElem_toArray, List.getElem_cons_zero, List.getElem_cons_succ, List.setIfInBounds_toArray, List.set_cons_zero, List.set_cons_succ]
    refine wpAnyH_take (i := 3) (v := (.agg #[.int .i32 k0, .int .i64 k1])) rfl (by as_aux_lemma => kernel_rfl) (by as_aux_lemma => kernel_rfl) (by as_aux_lemma => kernel_rfl) (fun _ _ _ h => h) (Or.inl ⟨by rfl, ?hy5x3⟩) (by assumption) ?rest5x3
    case hy5x3 => intro w hSw; have ht := ((unhide HW) _ hSw).2.1; have q0 := cell_at (o := 0) ht; have q1 := cell_at (o := 1) ht; go_simp <;> with_reducible rfl
    simp only [Act.put, List.getElem_toArray, List.getElem_cons_zero, List.getElem_cons_succ, List.setIfInBounds_toArray, List.set_cons_zero, List.set_cons_succ]
    refine wpAnyH_take (i := 5) (v := ?v6x5) rfl (by as_aux_lemma => kernel_rfl) (by as_aux_lemma => kernel_rfl) (by as_aux_lemma => kernel_rfl) (fun _ _ _ h => h) (Or.inl ⟨by rfl, ?hy6x5⟩) (by assumption) ?rest6x5
    case hy6x5 => intro w hSw; go_simp <;> with_reducible rfl
    simp only [Act.put, List.getElem_toArray, List.getElem_cons_zero, List.getElem_cons_succ, List.setIfInBounds_toArray, List.set_cons_zero, List.set_cons_succ]
    refine wpAnyH_take (i := 6) (v := (.slice ar0 nr0 cr0)) rfl (by as_aux_lemma => kernel_rfl) (by as_aux_lemma => kernel_rfl) (by as_aux_lemma => kernel_rfl) (fun _ _ _ h => h) (Or.inl ⟨by rfl, ?hy7x6⟩) (by assumption) ?rest7x6
    case hy7x6 => intro w hSw; have ht := ((unhide HW) _ hSw).1; have q4 := cell_at (o := 4) ht; go_simp <;> with_reducible rfl
    simp only [Act.put, List.getElem_toArray, List.getElem_cons_zero, List.getElem_cons_succ, List.setIfInBounds_toArray, List.set_cons_zero, List.set_cons_succ]
    refine wpAnyH_take (i := 7) (v := (.agg #[.int .i32 k0, .int .i64 k1])) rfl (by as_aux_lemma => kernel_rfl) (by as_aux_lemma => kernel_rfl) (by as_aux_lemma => kernel_rfl) (fun _ _ _ h => h) (Or.inl ⟨by rfl, ?hy8x7⟩) (by assumption) ?rest8x7
    case hy8x7 => intro w hSw; have ht := ((unhide HW) _ hSw).2.1; have q0 := cell_at (o := 0) ht; have q1 := cell_at (o := 1) ht; go_simp <;> with_reducible rfl
    simp only [Act.put, List.getElem_toArray, List.getElem_cons_zero, List.getElem_cons_succ, List.setIfInBounds_toArray, List.set_cons_zero, List.set_cons_succ]
    refine wpAnyH_ready (rs := [4]) (by as_aux_lemma => kernel_rfl) (by simp) ?_
    refine AllReadyH.cons rfl (fun K hK => ?_) AllReadyH.nil
    go_simp
    refine ((unhide H18) _ ((unhide HE) _ tc1)).mono ?_
    rintro e c2 ⟨rfl, hbc2⟩
    refine hK _ _ (tc1.trans (hbc2.mono tc1.size)) ?_
    clear hK hHeld
    have tc2 : Below wc.heap.size wc c2 := tc1.trans (hbc2.mono tc1.size)
    intro hHeld
    refine wpAnyH_ready (rs := [8]) (by as_aux_lemma => kernel_rfl) (by simp) ?_
    refine AllReadyH.cons rfl (fun K hK => ?_) AllReadyH.nil
    go_simp
    refine ((unhide H19r) _ ((unhide HE) _ tc2)).mono ?_
    rintro e c3 ⟨rfl, hbc3⟩
    refine hK _ _ (tc2.trans (hbc3.mono tc2.size)) ?_
    clear hK hHeld
    have tc3 : Below wc.heap.size wc c3 := tc2.trans (hbc3.mono tc2.size)
    intro hHeld
    have edr : (dr == dr) = true := beq_self_eq_true dr
    have edw : (dw == dw) = true := beq_self_eq_true dw
    refine wpAnyH_take (i := 9) (v := (.bool true)) rfl (by as_aux_lemma => kernel_rfl) (by as_aux_lemma => kernel_rfl) (by as_aux_lemma => kernel_rfl) (fun _ _ _ h => h) (Or.inl ⟨by rfl, ?hy9x9⟩) (by assumption) ?rest9x9
    case hy9x9 => intro w hSw; skip; go_simp <;> with_reducible rfl
    simp only [Act.put, List.getElem_toArray, List.getElem_cons_zero, List.getElem_cons_succ, List.setIfInBounds_toArray, List.set_cons_zero, List.set_cons_succ]
    refine wpAnyH_take (i := 10) (v := ?v10x10) rfl (by as_aux_lemma => kernel_rfl) (by as_aux_lemma => kernel_rfl) (by as_aux_lemma => kernel_rfl) (fun _ _ _ h => h) (Or.inl ⟨by rfl, ?hy10x10⟩) (by assumption) ?rest10x10
    case hy10x10 => intro w hSw; go_simp <;> with_reducible rfl
    simp only [Act.put, List.getElem_toArray, List.getElem_cons_zero, List.getElem_cons_succ, List.setIfInBounds_toArray, List.set_cons_zero, List.set_cons_succ]
    refine wpAnyH_take (i := 11) (v := ?v11x11) rfl (by as_aux_lemma => kernel_rfl) (by as_aux_lemma => kernel_rfl) (by as_aux_lemma => kernel_rfl) (fun _ _ _ h => h) (Or.inl ⟨by rfl, ?hy11x11⟩) (by assumption) ?rest11x11
    case hy11x11 => intro w hSw; go_simp <;> with_reducible rfl
    simp only [Act.put, List.getElem_toArray, List.getElem_cons_zero, List.getElem_cons_succ, List.setIfInBounds_toArray, List.set_cons_zero, List.set_cons_succ]
    refine wpAnyH_take (i := 12) (v := (.agg #[.int .i64 s0, .int .i64 r0, .slice ac0 nc0 cc0, .slice aa0 na0 ca0, .slice ar0 nr0 cr0, .slice aw0 nw0 cw0])) rfl (by as_aux_lemma => kernel_rfl) (by as_aux_lemma => kernel_rfl) (by as_aux_lemma => kernel_rfl) (fun _ _ _ h => h) (Or.inl ⟨by rfl, ?hy12x12⟩) (by assumption) ?rest12x12
    case hy12x12 => intro w hSw; have ht := ((unhide HW) _ hSw).1; have q0 := cell_at (o := 0) ht; have q1 := cell_at (o := 1) ht; have q2 := cell_at (o := 2) ht; have q3 := cell_at (o := 3) ht; have q4 := cell_at (o := 4) ht; have q5 := cell_at (o := 5) ht; go_simp <;> with_reducible rfl
    simp only [Act.put, List.getElem_toArray, List.getElem_cons_zero, List.getElem_cons_succ, List.setIfInBounds_toArray, List.set_cons_zero, List.set_cons_succ]
    refine wpAnyH_take (i := 13) (v := (.agg #[.int .i32 k0, .int .i64 k1])) rfl (by as_aux_lemma => kernel_rfl) (by as_aux_lemma => kernel_rfl) (by as_aux_lemma => kernel_rfl) (fun _ _ _ h => h) (Or.inl ⟨by rfl, ?hy13x13⟩) (by assumption) ?rest13x13
    case hy13x13 => intro w hSw; have ht := ((unhide HW) _ hSw).2.1; have q0 := cell_at (o := 0) ht; have q1 := cell_at (o := 1) ht; go_simp <;> with_reducible rfl
    simp only [Act.put, List.getElem_toArray, List.getElem_cons_zero, List.getElem_cons_succ, List.setIfInBounds_toArray, List.set_cons_zero, List.set_cons_succ]
    refine wpAnyH_take (i := 15) (v := ?v14x15) rfl (by as_aux_lemma => kernel_rfl) (by as_aux_lemma => kernel_rfl) (by as_aux_lemma => kernel_rfl) (fun _ _ _ h => h) (Or.inl ⟨by rfl, ?hy14x15⟩) (by assumption) ?rest14x15
    case hy14x15 => intro w hSw; go_simp <;> with_reducible rfl
    simp only [Act.put, List.getElem_toArray, List.getElem_cons_zero, List.getElem_cons_succ, List.setIfInBounds_toArray, List.set_cons_zero, List.set_cons_succ]
    refine wpAnyH_take (i := 16) (v := (.slice aw0 nw0 cw0)) rfl (by as_aux_lemma => kernel_rfl) (by as_aux_lemma => kernel_rfl) (by as_aux_lemma => kernel_rfl) (fun _ _ _ h => h) (Or.inl ⟨by rfl, ?hy15x16⟩) (by assumption) ?rest15x16
    case hy15x16 => intro w hSw; have ht := ((unhide HW) _ hSw).1; have q5 := cell_at (o := 5) ht; go_simp <;> with_reducible rfl
    simp only [Act.put, List.getElem_toArray, List.getElem_cons_zero, List.getElem_cons_succ, List.setIfInBounds_toArray, List.set_cons_zero, List.set_cons_succ]
    refine wpAnyH_take (i := 17) (v := (.agg #[.int .i32 k0, .int .i64 k1])) rfl (by as_aux_lemma => kernel_rfl) (by as_aux_lemma => kernel_rfl) (by as_aux_lemma => kernel_rfl) (fun _ _ _ h => h) (Or.inl ⟨by rfl, ?hy16x17⟩) (by assumption) ?rest16x17
    case hy16x17 => intro w hSw; have ht := ((unhide HW) _ hSw).2.1; have q0 := cell_at (o := 0) ht; have q1 := cell_at (o := 1) ht; go_simp <;> with_reducible rfl
    simp only [Act.put, List.getElem_toArray, List.getElem_cons_zero, List.getElem_cons_succ, List.setIfInBounds_toArray, List.set_cons_zero, List.set_cons_succ]
    refine wpAnyH_ready (rs := [14]) (by as_aux_lemma => kernel_rfl) (by simp) ?_
    refine AllReadyH.cons rfl (fun K hK => ?_) AllReadyH.nil
    go_simp
    refine ((unhide H20) _ ((unhide HE) _ tc3)).mono ?_
    rintro e c4 ⟨rfl, hbc4⟩
    refine hK _ _ (tc3.trans (hbc4.mono tc3.size)) ?_
    clear hK hHeld
    have tc4 : Below wc.heap.size wc c4 := tc3.trans (hbc4.mono tc3.size)
    intro hHeld
    refine wpAnyH_ready (rs := [18]) (by as_aux_lemma => kernel_rfl) (by simp) ?_
    refine AllReadyH.cons rfl (fun K hK => ?_) AllReadyH.nil
    go_simp
    refine ((unhide H19w) _ ((unhide HE) _ tc4)).mono ?_
    rintro e c5 ⟨rfl, hbc5⟩
    refine hK _ _ (tc4.trans (hbc5.mono tc4.size)) ?_
    clear hK hHeld
    have tc5 : Below wc.heap.size wc c5 := tc4.trans (hbc5.mono tc4.size)
    intro hHeld
    refine wpAnyH_take (i := 19) (v := (.bool true)) rfl (by as_aux_lemma => kernel_rfl) (by as_aux_lemma => kernel_rfl) (by as_aux_lemma => kernel_rfl) (fun _ _ _ h => h) (Or.inl ⟨by rfl, ?hy17x19⟩) (by assumption) ?rest17x19
    case hy17x19 => intro w hSw; skip; go_simp <;> with_reducible rfl
    simp only [Act.put, List.getElem_toArray, List.getElem_cons_zero, List.getElem_cons_succ, List.setIfInBounds_toArray, List.set_cons_zero, List.set_cons_succ]
    refine wpAnyH_take (i := 20) (v := ?v18x20) rfl (by as_aux_lemma => kernel_rfl) (by as_aux_lemma => kernel_rfl) (by as_aux_lemma => kernel_rfl) (fun _ _ _ h => h) (Or.inl ⟨by rfl, ?hy18x20⟩) (by assumption) ?rest18x20
    case hy18x20 => intro w hSw; go_simp <;> with_reducible rfl
    simp only [Act.put, List.getElem_toArray, List.getElem_cons_zero, List.getElem_cons_succ, List.setIfInBounds_toArray, List.set_cons_zero, List.set_cons_succ]
    refine wpAnyH_take (i := 21) (v := ?v19x21) rfl (by as_aux_lemma => kernel_rfl) (by as_aux_lemma => kernel_rfl) (by as_aux_lemma => kernel_rfl) (fun _ _ _ h => h) (Or.inl ⟨by rfl, ?hy19x21⟩) (by assumption) ?rest19x21
    case hy19x21 => intro w hSw; go_simp <;> with_reducible rfl
    simp only [Act.put, List.getElem_toArray, List.getElem_cons_zero, List.getElem_cons_succ, List.setIfInBounds_toArray, List.set_cons_zero, List.set_cons_succ]
    refine wpAnyH_take (i := 22) (v := (.agg U)) rfl (by as_aux_lemma => kernel_rfl) (by as_aux_lemma => kernel_rfl) (by as_aux_lemma => kernel_rfl) (fun _ _ _ h => h) (Or.inl ⟨by rfl, ?hy20x22⟩) (by assumption) ?rest20x22
    case hy20x22 => intro w hSw; exact run_loadF rfl rfl ((unhide HW) _ hSw).2.2.1 (unhide HU8).1
    simp only [Act.put, List.getElem_toArray, List.getElem_cons_zero, List.getElem_cons_succ, List.setIfInBounds_toArray, List.set_cons_zero, List.set_cons_succ]
    refine wpAnyH_take (i := 23) (v := (.agg V)) rfl (by as_aux_lemma => kernel_rfl) (by as_aux_lemma => kernel_rfl) (by as_aux_lemma => kernel_rfl) (fun _ _ _ h => h) (Or.inl ⟨by rfl, ?hy21x23⟩) (by assumption) ?rest21x23
    case hy21x23 => intro w hSw; exact run_loadF rfl rfl ((unhide HW) _ hSw).2.2.2.1 (unhide HU8).2
    simp only [Act.put, List.getElem_toArray, List.getElem_cons_zero, List.getElem_cons_succ, List.setIfInBounds_toArray, List.set_cons_zero, List.set_cons_succ]
    refine wpAnyH_take (i := 25) (v := (.agg U)) rfl (by as_aux_lemma => kernel_rfl) (by as_aux_lemma => kernel_rfl) (by as_aux_lemma => kernel_rfl) (fun _ _ _ h => h) (Or.inl ⟨by rfl, ?hy22x25⟩) (by assumption) ?rest22x25
    case hy22x25 => intro w hSw; exact run_loadF rfl rfl ((unhide HW) _ hSw).2.2.1 (unhide HU8).1
    simp only [Act.put, List.getElem_toArray, List.getElem_cons_zero, List.getElem_cons_succ, List.setIfInBounds_toArray, List.set_cons_zero, List.set_cons_succ]
    refine wpAnyH_take (i := 26) (v := (.agg V)) rfl (by as_aux_lemma => kernel_rfl) (by as_aux_lemma => kernel_rfl) (by as_aux_lemma => kernel_rfl) (fun _ _ _ h => h) (Or.inl ⟨by rfl, ?hy23x26⟩) (by assumption) ?rest23x26
    case hy23x26 => intro w hSw; exact run_loadF rfl rfl ((unhide HW) _ hSw).2.2.2.1 (unhide HU8).2
    simp only [Act.put, List.getElem_toArray, List.getElem_cons_zero, List.getElem_cons_succ, List.setIfInBounds_toArray, List.set_cons_zero, List.set_cons_succ]
    obtain ⟨sf, hsf⟩ : ∃ s, sameF A B = s := ⟨_, rfl⟩
    have esf : (sf == sf) = true := beq_self_eq_true sf
    refine wpAnyH_ready (rs := [24]) (by as_aux_lemma => kernel_rfl) (by simp) ?_
    refine AllReadyH.cons rfl (fun K hK => ?_) AllReadyH.nil
    go_simp
    refine ((hsf ▸ same_any ((unhide HW) _ tc5).2.2.2.2.1 ((unhide HW) _ tc5).2.2.2.2.2 : Calls Try.prog 21 #[.agg U, .agg V] c5 fun e w' => e = .returned (.bool sf) ∧ Below c5.heap.size c5 w')).mono ?_
    rintro e c6 ⟨rfl, hbc6⟩
    refine hK _ _ (tc5.trans (hbc6.mono tc5.size)) ?_
    clear hK hHeld
    have tc6 : Below wc.heap.size wc c6 := tc5.trans (hbc6.mono tc5.size)
    intro hHeld
    refine wpAnyH_ready (rs := [27]) (by as_aux_lemma => kernel_rfl) (by simp) ?_
    refine AllReadyH.cons rfl (fun K hK => ?_) AllReadyH.nil
    go_simp
    refine ((hsf ▸ rsame_any ((unhide HW) _ tc6).2.2.2.2.1 ((unhide HW) _ tc6).2.2.2.2.2 : Calls Try.prog 10 #[.agg U, .agg V] c6 fun e w' => e = .returned (.bool sf) ∧ Below c6.heap.size c6 w')).mono ?_
    rintro e c7 ⟨rfl, hbc7⟩
    refine hK _ _ (tc6.trans (hbc7.mono tc6.size)) ?_
    clear hK hHeld
    have tc7 : Below wc.heap.size wc c7 := tc6.trans (hbc7.mono tc6.size)
    intro hHeld
    refine wpAnyH_take (i := 28) (v := (.bool true)) rfl (by as_aux_lemma => kernel_rfl) (by as_aux_lemma => kernel_rfl) (by as_aux_lemma => kernel_rfl) (fun _ _ _ h => h) (Or.inl ⟨by rfl, ?hy24x28⟩) (by assumption) ?rest24x28
    case hy24x28 => intro w hSw; skip; go_simp <;> with_reducible rfl
    simp only [Act.put, List.getElem_toArray, List.getElem_cons_zero, List.getElem_cons_succ, List.setIfInBounds_toArray, List.set_cons_zero, List.set_cons_succ]
    refine wpAnyH_take (i := 29) (v := ?v25x29) rfl (by as_aux_lemma => kernel_rfl) (by as_aux_lemma => kernel_rfl) (by as_aux_lemma => kernel_rfl) (fun _ _ _ h => h) (Or.inl ⟨by rfl, ?hy25x29⟩) (by assumption) ?rest25x29
    case hy25x29 => intro w hSw; go_simp <;> with_reducible rfl
    simp only [Act.put, List.getElem_toArray, List.getElem_cons_zero, List.getElem_cons_succ, List.setIfInBounds_toArray, List.set_cons_zero, List.set_cons_succ]
    refine wpAnyH_take (i := 30) (v := ?v26x30) rfl (by as_aux_lemma => kernel_rfl) (by as_aux_lemma => kernel_rfl) (by as_aux_lemma => kernel_rfl) (fun _ _ _ h => h) (Or.inl ⟨by rfl, ?hy26x30⟩) (by assumption) ?rest26x30
    case hy26x30 => intro w hSw; go_simp <;> with_reducible rfl
    simp only [Act.put, List.getElem_toArray, List.getElem_cons_zero, List.getElem_cons_succ, List.setIfInBounds_toArray, List.set_cons_zero, List.set_cons_succ]
    refine wpAnyH_take (i := 31) (v := (.agg U)) rfl (by as_aux_lemma => kernel_rfl) (by as_aux_lemma => kernel_rfl) (by as_aux_lemma => kernel_rfl) (fun _ _ _ h => h) (Or.inl ⟨by rfl, ?hy27x31⟩) (by assumption) ?rest27x31
    case hy27x31 => intro w hSw; exact run_loadF rfl rfl ((unhide HW) _ hSw).2.2.1 (unhide HU8).1
    simp only [Act.put, List.getElem_toArray, List.getElem_cons_zero, List.getElem_cons_succ, List.setIfInBounds_toArray, List.set_cons_zero, List.set_cons_succ]
    refine wpAnyH_take (i := 32) (v := (.agg U)) rfl (by as_aux_lemma => kernel_rfl) (by as_aux_lemma => kernel_rfl) (by as_aux_lemma => kernel_rfl) (fun _ _ _ h => h) (Or.inl ⟨by rfl, ?hy28x32⟩) (by assumption) ?rest28x32
    case hy28x32 => intro w hSw; exact run_loadF rfl rfl ((unhide HW) _ hSw).2.2.1 (unhide HU8).1
    simp only [Act.put, List.getElem_toArray, List.getElem_cons_zero, List.getElem_cons_succ, List.setIfInBounds_toArray, List.set_cons_zero, List.set_cons_succ]
    refine wpAnyH_ready (rs := [33]) (by as_aux_lemma => kernel_rfl) (by simp) ?_
    refine AllReadyH.cons rfl (fun K hK => ?_) AllReadyH.nil
    go_simp
    refine ((sameF_refl A ▸ same_any ((unhide HW) _ tc7).2.2.2.2.1 ((unhide HW) _ tc7).2.2.2.2.1 : Calls Try.prog 21 #[.agg U, .agg U] c7 fun e w' => e = .returned (.bool true) ∧ Below c7.heap.size c7 w')).mono ?_
    rintro e c8 ⟨rfl, hbc8⟩
    refine hK _ _ (tc7.trans (hbc8.mono tc7.size)) ?_
    clear hK hHeld
    have tc8 : Below wc.heap.size wc c8 := tc7.trans (hbc8.mono tc7.size)
    intro hHeld
    refine wpAnyH_take (i := 34) (v := ?v29x34) rfl (by as_aux_lemma => kernel_rfl) (by as_aux_lemma => kernel_rfl) (by as_aux_lemma => kernel_rfl) (fun _ _ _ h => h) (Or.inl ⟨by rfl, ?hy29x34⟩) (by assumption) ?rest29x34
    case hy29x34 => intro w hSw; go_simp <;> with_reducible rfl
    simp only [Act.put, List.getElem_toArray, List.getElem_cons_zero, List.getElem_cons_succ, List.setIfInBounds_toArray, List.set_cons_zero, List.set_cons_succ]
    refine wpAnyH_take (i := 35) (v := ?v30x35) rfl (by as_aux_lemma => kernel_rfl) (by as_aux_lemma => kernel_rfl) (by as_aux_lemma => kernel_rfl) (fun _ _ _ h => h) (Or.inl ⟨by rfl, ?hy30x35⟩) (by assumption) ?rest30x35
    case hy30x35 => intro w hSw; go_simp <;> with_reducible rfl
    simp only [Act.put, List.getElem_toArray, List.getElem_cons_zero, List.getElem_cons_succ, List.setIfInBounds_toArray, List.set_cons_zero, List.set_cons_succ]
    refine wpAnyH_done (by as_aux_lemma => kernel_rfl) ?_ _
    go_wp2
    go_ret
    exact ⟨rfl, (unhide HBY).trans (((unhide HE) _ tc8).mono (unhide HBY).size)⟩
end Go.Proofs.Ytibjhjkeflbghaa
