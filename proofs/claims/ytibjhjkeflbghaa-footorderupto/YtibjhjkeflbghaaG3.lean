/- Split: the document's. -/
import Derived.Test.YtibjhjkeflbghaaG1
namespace Go.Proofs.Ytibjhjkeflbghaa
open Go.RowKit
set_option maxRecDepth 100000

set_option maxHeartbeats 3200000 in
theorem rsplit_any {v : Value} {l : List Ky} {w : World} (n : Int) (hs : SeesL kC 2 w v l) (hll : l.length ≤ 8796093021952) :
    Calls Try.prog 53 #[.int .i64 n, v] w fun e w' => ∃ g, e = .returned (.slice (some ⟨g, 0, none⟩) (manyF n).toNat (manyF n).toNat) ∧ Parts w.heap.size w' g (manyF n).toNat (inP n (srt l)) ∧ Below w.heap.size w w' := by
  have hr := manyF_range n
  obtain ⟨m, hm⟩ : ∃ m, (manyF n).toNat = m := ⟨_, rfl⟩
  have hmi : manyF n = (m : Int) := by omega
  have hm8 : m ≤ 8 := by omega
  rw [hm]
  have HMA : Hid (∀ x, Calls Try.prog 61 #[.int .i64 n] x fun e w' => e = .returned (.int .i64 (m : Int)) ∧ x = w') := fun x => hmi ▸ rmany_any n x
  obtain ⟨y, hy⟩ : ∃ y, w.alloc (.cells (List.replicate m (Value.slice none 0 0)).toArray 24) = y := ⟨_, rfl⟩
  have hmk : (Instr.makeSlice 89 (.int .i64 m) (.int .i64 m)).run Try.prog w = .ok (.slice (some ⟨w.heap.size, 0, none⟩) m m) y := hy ▸ make45 m hm8 w
  have hby : Below w.heap.size w y := hy ▸ below_box _
  have hgy : y.heap[w.heap.size]? = some (.cells (List.replicate m (Value.slice none 0 0)).toArray 24) := hy ▸ heap_alloc_new w _
  have HKE := hide (rkeys_any (hs.below kC_len hby) (by omega))
  have HG := hide (And.intro hby hgy)
  have HM := hide hm
  obtain ⟨av, cv, hv⟩ := hs.shape
  have hsl := srt_len l
  subst hv
  clear hs hby hgy hm hmi hr
  go_enter Try.func53, Try.ntmps53
  go_wp2_with (first | (go_at_call 61; refine (unhide HMA _).mono ?_; rintro e w1 ⟨rfl, rfl⟩) | (go_at_call 41; refine (unhide HKE).mono ?_; rintro e w2 ⟨kv, rfl, hown, hb2⟩; obtain ⟨ak, ck, hk⟩ := own_shape hown; subst hk; have HOK := hide hown; have HB2 := hide hb2; clear hown hb2))
  obtain ⟨K, hK⟩ : ∃ K, srt l = K := ⟨_, rfl⟩
  have hKs := (own_sees kC_len (by decide) (unhide HOK)).2
  rw [hK] at hKs hsl
  have hKr : ∀ x, (∀ j, j < w2.heap.size → j ≠ w.heap.size → x.heap[j]? = w2.heap[j]?) → SeesL kC 2 x (.slice ak K.length ck) K := fun x hx => by
    have ho := unhide HOK
    rw [hK] at ho
    refine (own_sees (base := y.heap.size) (e := 37) (n := K.length) kC_len (by decide) ⟨ho.1, ?_⟩).2
    rcases ho.2 with hn | ⟨g', cap', cur, e, hb, hh, r⟩
    · exact .inl hn
    · refine .inr ⟨g', cap', cur, e, hb, (hx g' (Array.getElem?_eq_some_iff.1 hh).1 (fun c => ?_)).trans hh, r⟩
      have h1 := ((unhide HB2).block w.heap.size (Array.getElem?_eq_some_iff.1 (unhide HG).2).1).trans (unhide HG).2
      rw [c, h1] at hh
      simp at hh
  have HKR := hide hKr
  have HSI := hide (SI.start (unhide HG).2 (unhide HB2) n)
  have HKK := hide hK
  rw [hK]
  obtain ⟨kn, hkn⟩ : ∃ k, K.length = k := ⟨_, rfl⟩
  have HKN := hide hkn
  rw [hkn] at hsl HKR ⊢
  clear hKs hKr hK hkn
  go_wp2_with fail
  go_loopw [7] (fun c wr => ∃ (t : Nat) (rows : List Value), t ≤ kn ∧ c = .int .i64 t ∧ rows.length = m ∧ SI w2 w.heap.size wr rows (inP n (K.take t))) (fun c _ => kn - (intOf c).toNat)
  case atStart => exact ⟨0, _, by omega, rfl, by simp, unhide HSI⟩
  case round =>
    obtain ⟨t, rows, ht, rfl, hrl, hsi⟩ := hrel
    have HRI := hide hsi
    by_cases hlt : t < kn
    · have hkn := unhide HKN
      have htl : t < K.length := by omega
      have hkw := unhide HKR wr hsi.frame
      obtain ⟨gb, ob, hao, -, hcx⟩ := key_cells hkw rfl htl
      subst hao
      obtain ⟨⟨a, b⟩, hx⟩ : ∃ k, K.getD t default = k := ⟨_, rfl⟩
      have hx' : K[t] = (a, b) := by rw [← hx]; simp [List.getD, htl]
      rw [hx] at hcx
      obtain ⟨g1, g2⟩ := hcx wr (Below.refl _ _)
      have HCX := hide hcx
      have htk : K.take (t + 1) = K.take t ++ [(a, b)] := by rw [List.take_succ_eq_append_getElem htl, hx']
      have HTK := hide htk
      obtain ⟨i, hi⟩ : ∃ i, pl n (a, b) = i := ⟨_, rfl⟩
      have him : i < m := by rw [← hi, ← unhide HM]; exact pl_lt n (a, b)
      have hip : partF (a, b) n = (i : Int) := by have := partF_range (a, b) n; rw [← hi]; unfold pl; omega
      have HPA := hide (hip ▸ rpart_any a b n wr)
      have HI := hide hi
      have hlk : (K.take t).length + 1 ≤ 8796093022208 := by simp; omega
      clear hx hx' hcx htk hkw htl hkn hsi hi hip
      go_wp2_with (go_at_call 43; refine (unhide HPA).mono ?_; rintro e w4 ⟨rfl, hg4⟩; have HG4 := hide hg4; clear hg4)
      have hb4 : Below wr.heap.size wr w4 := (unhide HG4).below
      obtain ⟨ai, ni, ci, ao, nn, cap, y5, rows', r1, r2, r3, r4, r5, r6⟩ := SI.next (n := n) (k := (a, b)) (gx := w4.heap.size) (((unhide HRI).grow hb4).grow (y := (w4.alloc (.cells #[.int .i32 a, .int .i64 b] 37)).drew) (below_box _).drew) hrl (unhide HM).symm ((sees_oneK w4 (a, b)).below kC_len ((Below.refl _ _).drew)) hlk
      rw [unhide HI] at r1 r3 r4 r6
      have r1' : w4.drew.cell? ⟨w.heap.size, i, none⟩ = some (.slice ai ni ci) := by
        have h1 := (((unhide HRI).grow hb4).grow (y := (w4.alloc (.cells #[.int .i32 a, .int .i64 b] 37)).drew) (below_box _).drew).cell i
        have h2 := ((unhide HRI).grow hb4).cell i
        show w4.cell? _ = _
        rw [h2, ← h1, r1]
      obtain ⟨c3, c4⟩ := unhide HCX w4.drew hb4.drew
      have HS6 : Hid (∃ rows, rows.length = m ∧ SI w2 w.heap.size (y5.setCell ⟨w.heap.size, i, none⟩ (.slice ao nn cap)) rows (inP n (K.take (t + 1)))) := ⟨rows', r5, by rw [unhide HTK]; exact r6⟩
      clear hb4 r5 r6
      refine wp_region_held_drew (S := fun x => True) (by kernel_rfl) trivial (fun hHeld => ?_)
      refine wpAnyH_take (i := 0) (v := ?v1x0) rfl (by kernel_rfl) (by kernel_rfl) (by kernel_rfl) (fun _ _ _ h => h) (Or.inl ⟨by rfl, ?hy1x0⟩) (by assumption) ?rest1x0
      case hy1x0 => intro w hSw; go_simp <;> with_reducible rfl
      simp only [Act.put, List.getElem_toArray, List.getElem_cons_zero, List.setIfInBounds_toArray, List.set_cons_zero, List.set_cons_succ]
      refine wpAnyH_take (i := 1) (v := ?v2x1) rfl (by kernel_rfl) (by kernel_rfl) (by kernel_rfl) (fun _ _ _ h => h) (Or.inl ⟨by rfl, ?hy2x1⟩) (by assumption) ?rest2x1
      case hy2x1 => intro w hSw; go_simp <;> with_reducible rfl
      simp only [Act.put, List.getElem_toArray, List.getElem_cons_zero, List.getElem_cons_succ, List.setIfInBounds_toArray, List.set_cons_zero, List.set_cons_succ]
      refine wpAnyH_take (i := 2) (v := ?v3x2) rfl (by kernel_rfl) (by kernel_rfl) (by kernel_rfl) (fun _ _ _ h => h) (Or.inl ⟨by rfl, ?hy3x2⟩) (by assumption) ?rest3x2
      case hy3x2 => intro w hSw; go_simp <;> with_reducible rfl
      simp only [Act.put, List.getElem_toArray, List.getElem_cons_zero, List.getElem_cons_succ, List.setIfInBounds_toArray, List.set_cons_zero, List.set_cons_succ]
      refine wpAnyH_take (i := 3) (v := ?v4x3) rfl (by kernel_rfl) (by kernel_rfl) (by kernel_rfl) (fun _ _ _ h => h) (Or.inl ⟨by rfl, ?hy4x3⟩) (by assumption) ?rest4x3
      case hy4x3 => intro w hSw; go_simp <;> with_reducible rfl
      simp only [Act.put, List.getElem_toArray, List.getElem_cons_zero, List.getElem_cons_succ, List.setIfInBounds_toArray, List.set_cons_zero, List.set_cons_succ]
      refine wpAnyH_take (i := 4) (v := ?v5x4) rfl (by kernel_rfl) (by kernel_rfl) (by kernel_rfl) (fun _ _ _ h => h) (Or.inl ⟨by rfl, ?hy5x4⟩) (by assumption) ?rest5x4
      case hy5x4 => intro w hSw; go_simp <;> with_reducible rfl
      simp only [Act.put, List.getElem_toArray, List.getElem_cons_zero, List.getElem_cons_succ, List.setIfInBounds_toArray, List.set_cons_zero, List.set_cons_succ]
      refine wpAnyH_take (i := 6) (v := ?v6x6) rfl (by kernel_rfl) (by kernel_rfl) (by kernel_rfl) (fun _ _ _ h => h) (Or.inl ⟨by rfl, ?hy6x6⟩) (by assumption) ?rest6x6
      case hy6x6 => intro w hSw; go_simp <;> with_reducible rfl
      simp only [Act.put, List.getElem_toArray, List.getElem_cons_zero, List.getElem_cons_succ, List.setIfInBounds_toArray, List.set_cons_zero, List.set_cons_succ]
      refine wpAnyH_take (i := 7) (v := ?v7x7) rfl (by kernel_rfl) (by kernel_rfl) (by kernel_rfl) (fun _ _ _ h => h) (Or.inl ⟨by rfl, ?hy7x7⟩) (by assumption) ?rest7x7
      case hy7x7 => intro w hSw; go_simp <;> with_reducible rfl
      simp only [Act.put, List.getElem_toArray, List.getElem_cons_zero, List.getElem_cons_succ, List.setIfInBounds_toArray, List.set_cons_zero, List.set_cons_succ]
      refine wpAnyH_take (i := 8) (v := ?v8x8) rfl (by kernel_rfl) (by kernel_rfl) (by kernel_rfl) (fun _ _ _ h => h) (Or.inl ⟨by rfl, ?hy8x8⟩) (by assumption) ?rest8x8
      case hy8x8 => intro w hSw; go_simp <;> with_reducible rfl
      simp only [Act.put, List.getElem_toArray, List.getElem_cons_zero, List.getElem_cons_succ, List.setIfInBounds_toArray, List.set_cons_zero, List.set_cons_succ]
      refine wpAnyH_ready (rs := [5, 9]) (by kernel_rfl) (by simp) ?_
      refine AllReadyH.cons rfl (fun K hK => ?_) (AllReadyH.cons rfl (fun K hK => ?_) AllReadyH.nil)
      · skip
        go_simp
        refine hK _ _ trivial ?_
        clear hK hHeld
        intro hHeld
        refine wpAnyH_ready (rs := [9]) (by kernel_rfl) (by simp) ?_
        refine AllReadyH.cons rfl (fun K hK => ?_) AllReadyH.nil
        go_simp
        refine hK _ _ trivial ?_
        clear hK hHeld
        intro hHeld
        refine wpAnyH_ready (rs := [10]) (by kernel_rfl) (by simp) ?_
        refine AllReadyH.cons rfl (fun K hK => ?_) AllReadyH.nil
        go_simp
        refine hK _ _ trivial ?_
        clear hK hHeld
        intro hHeld
        refine wpAnyH_ready (rs := [11]) (by kernel_rfl) (by simp) ?_
        refine AllReadyH.cons rfl (fun K hK => ?_) AllReadyH.nil
        rw [if_pos (by rfl)]
        refine append_upon rfl rfl rfl r2 ?_
        simp only [Act.put, List.getElem_toArray, List.getElem_cons_zero, List.getElem_cons_succ, List.setIfInBounds_toArray, List.set_cons_zero, List.set_cons_succ]
        refine hK _ _ trivial ?_
        clear hK hHeld
        intro hHeld
        refine wpAnyH_take (i := 12) (v := ?v9x12) rfl (by kernel_rfl) (by kernel_rfl) (by kernel_rfl) (fun _ _ _ h => h) (Or.inl ⟨by rfl, ?hy9x12⟩) (by assumption) ?rest9x12
        case hy9x12 => intro w hSw; go_simp <;> with_reducible rfl
        simp only [Act.put, List.getElem_toArray, List.getElem_cons_zero, List.getElem_cons_succ, List.setIfInBounds_toArray, List.set_cons_zero, List.set_cons_succ]
        refine wpAnyH_ready (rs := [13]) (by kernel_rfl) (by simp) ?_
        refine AllReadyH.cons rfl (fun K hK => ?_) AllReadyH.nil
        go_simp
        refine hK _ _ trivial ?_
        clear hK hHeld
        intro hHeld
        refine wpAnyH_done (by kernel_rfl) ?_ _
        go_wp2
        go_roundw
        case rel =>
          obtain ⟨rw6, q1, q2⟩ := unhide HS6
          exact ⟨t + 1, rw6, by omega, by go_num, q1, q2⟩
        case measure => simp [intOf]; omega
      · skip
        go_simp
        refine hK _ _ trivial ?_
        clear hK hHeld
        intro hHeld
        refine wpAnyH_ready (rs := [5, 10]) (by kernel_rfl) (by simp) ?_
        refine AllReadyH.cons rfl (fun K hK => ?_) (AllReadyH.cons rfl (fun K hK => ?_) AllReadyH.nil)
        · skip
          go_simp
          refine hK _ _ trivial ?_
          clear hK hHeld
          intro hHeld
          refine wpAnyH_ready (rs := [10]) (by kernel_rfl) (by simp) ?_
          refine AllReadyH.cons rfl (fun K hK => ?_) AllReadyH.nil
          go_simp
          refine hK _ _ trivial ?_
          clear hK hHeld
          intro hHeld
          refine wpAnyH_ready (rs := [11]) (by kernel_rfl) (by simp) ?_
          refine AllReadyH.cons rfl (fun K hK => ?_) AllReadyH.nil
          rw [if_pos (by rfl)]
          refine append_upon rfl rfl rfl r2 ?_
          simp only [Act.put, List.getElem_toArray, List.getElem_cons_zero, List.getElem_cons_succ, List.setIfInBounds_toArray, List.set_cons_zero, List.set_cons_succ]
          refine hK _ _ trivial ?_
          clear hK hHeld
          intro hHeld
          refine wpAnyH_take (i := 12) (v := ?v10x12) rfl (by kernel_rfl) (by kernel_rfl) (by kernel_rfl) (fun _ _ _ h => h) (Or.inl ⟨by rfl, ?hy10x12⟩) (by assumption) ?rest10x12
          case hy10x12 => intro w hSw; go_simp <;> with_reducible rfl
          simp only [Act.put, List.getElem_toArray, List.getElem_cons_zero, List.getElem_cons_succ, List.setIfInBounds_toArray, List.set_cons_zero, List.set_cons_succ]
          refine wpAnyH_ready (rs := [13]) (by kernel_rfl) (by simp) ?_
          refine AllReadyH.cons rfl (fun K hK => ?_) AllReadyH.nil
          go_simp
          refine hK _ _ trivial ?_
          clear hK hHeld
          intro hHeld
          refine wpAnyH_done (by kernel_rfl) ?_ _
          go_wp2
          go_roundw
          case rel =>
            obtain ⟨rw6, q1, q2⟩ := unhide HS6
            exact ⟨t + 1, rw6, by omega, by go_num, q1, q2⟩
          case measure => simp [intOf]; omega
        · skip
          go_simp
          refine hK _ _ trivial ?_
          clear hK hHeld
          intro hHeld
          refine wpAnyH_ready (rs := [5]) (by kernel_rfl) (by simp) ?_
          refine AllReadyH.cons rfl (fun K hK => ?_) AllReadyH.nil
          go_simp
          refine hK _ _ trivial ?_
          clear hK hHeld
          intro hHeld
          refine wpAnyH_ready (rs := [11]) (by kernel_rfl) (by simp) ?_
          refine AllReadyH.cons rfl (fun K hK => ?_) AllReadyH.nil
          rw [if_pos (by rfl)]
          refine append_upon rfl rfl rfl r2 ?_
          simp only [Act.put, List.getElem_toArray, List.getElem_cons_zero, List.getElem_cons_succ, List.setIfInBounds_toArray, List.set_cons_zero, List.set_cons_succ]
          refine hK _ _ trivial ?_
          clear hK hHeld
          intro hHeld
          refine wpAnyH_take (i := 12) (v := ?v11x12) rfl (by kernel_rfl) (by kernel_rfl) (by kernel_rfl) (fun _ _ _ h => h) (Or.inl ⟨by rfl, ?hy11x12⟩) (by assumption) ?rest11x12
          case hy11x12 => intro w hSw; go_simp <;> with_reducible rfl
          simp only [Act.put, List.getElem_toArray, List.getElem_cons_zero, List.getElem_cons_succ, List.setIfInBounds_toArray, List.set_cons_zero, List.set_cons_succ]
          refine wpAnyH_ready (rs := [13]) (by kernel_rfl) (by simp) ?_
          refine AllReadyH.cons rfl (fun K hK => ?_) AllReadyH.nil
          go_simp
          refine hK _ _ trivial ?_
          clear hK hHeld
          intro hHeld
          refine wpAnyH_done (by kernel_rfl) ?_ _
          go_wp2
          go_roundw
          case rel =>
            obtain ⟨rw6, q1, q2⟩ := unhide HS6
            exact ⟨t + 1, rw6, by omega, by go_num, q1, q2⟩
          case measure => simp [intOf]; omega
    · obtain rfl : t = kn := by omega
      have hkn := unhide HKN
      rw [List.take_of_length_le (by omega)] at hsi
      have HP := hide (hsi.parts hrl (Nat.le_refl _) ((unhide HG).1.trans ((unhide HB2).mono (unhide HG).1.size)))
      clear hsi hkn
      go_wp2
      go_ret
      exact ⟨_, rfl, by rw [unhide HKK]; exact unhide HP⟩
end Go.Proofs.Ytibjhjkeflbghaa
