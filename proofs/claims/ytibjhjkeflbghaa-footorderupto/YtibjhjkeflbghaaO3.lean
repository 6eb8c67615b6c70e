/- A transaction's keys by partitions: the document's. -/
import Derived.Test.YtibjhjkeflbghaaN2
import Derived.Test.YtibjhjkeflbghaaG3
namespace Go.Proofs.Ytibjhjkeflbghaa
open Go.RowKit
set_option maxRecDepth 100000

theorem take_set {rows : List Value} {m t : Nat} (hl : rows.length = m) (hm : m ≤ 8) (ht : t < m) : ((rows.take t ++ List.replicate (8 - t) (Value.slice none 0 0)).toArray.setIfInBounds t (rows.getD t undef)) = (rows.take (t + 1) ++ List.replicate (8 - (t + 1)) (Value.slice none 0 0)).toArray := by
  have h1 : (rows.take t).length = t := by simp; omega
  have h2 : List.replicate (8 - t) (Value.slice none 0 0) = Value.slice none 0 0 :: List.replicate (8 - (t + 1)) (Value.slice none 0 0) := by
    rw [show 8 - t = (8 - (t + 1)) + 1 by omega, List.replicate_succ]
  rw [List.setIfInBounds_toArray, h2, List.set_append_right _ _ (by omega), h1, Nat.sub_self, List.set_cons_zero]
  have htl : t < rows.length := by omega
  rw [List.take_succ_eq_append_getElem htl, List.append_assoc]
  simp [List.getD, htl]
theorem own_but2 {g B : Nat} {w y : World} (h1 : But g w y) (hg : g < B) {base e size n : Nat} {v : Value} {xs : List Value} (hB : B ≤ base) (h : w.ownsRow base e size v n xs) : y.ownsRow base e size v n xs := by
  refine ⟨h.1, ?_⟩
  rcases h.2 with hn | ⟨g', cap, cur, hv, hb, hh, r⟩
  · exact .inl hn
  · exact .inr ⟨g', cap, cur, hv, hb, (h1.block g' (Array.getElem?_eq_some_iff.1 hh).1 (by omega)).trans hh, r⟩
theorem But.setCell {g o : Nat} {w y : World} {u : Value} (h : But g w y) : But g w (y.setCell ⟨g, o, none⟩ u) :=
  ⟨h.os, h.tape, h.output, by simpa [World.setCell] using h.size, fun j hj hm => (setCell_far hm).trans (h.block j hj hm)⟩

set_option maxHeartbeats 3200000 in
theorem rside_any {v : Value} {l : List Ky} {w : World} (n : Int) (hs : SeesL kC 2 w v l) (hll : l.length ≤ 8796093021952) :
    Calls Try.prog 38 #[v, .int .i64 n] w fun e w' => ∃ rows, e = .returned (.agg rows.toArray) ∧ Rows8 w.heap.size w' (inP n (srt l)) rows ∧ Below w.heap.size w w' := by
  obtain ⟨Y0, hY0⟩ : ∃ y, w.alloc (.cells nil8 29) = y := ⟨_, rfl⟩
  obtain ⟨Y, hY⟩ : ∃ y, Y0.alloc (.cells nil8 29) = y := ⟨_, rfl⟩
  have b0 : Below w.heap.size w Y0 := hY0 ▸ below_box _
  have z0 : Y0.heap.size = w.heap.size + 1 := by rw [← hY0]; simp
  have bY : Below w.heap.size w Y := hY ▸ b0.alloc b0.size _
  have x0 : Y0.heap[w.heap.size]? = some (.cells nil8 29) := by rw [← hY0]; exact heap_alloc_new w _
  have xY : Y.heap[w.heap.size]? = some (.cells nil8 29) := by rw [← hY]; exact (Below.heap_alloc Y0 _ _ (by omega)).trans x0
  have uY : Y.heap[Y0.heap.size]? = some (.cells nil8 29) := by rw [← hY]; exact heap_alloc_new Y0 _
  have hsz : Y0.heap.size < Y.heap.size := by rw [← hY]; simp
  have HSP := hide (rsplit_any n (hs.below kC_len bY) hll)
  have hmr := manyF_range n
  obtain ⟨m, hm⟩ : ∃ m, (manyF n).toNat = m := ⟨_, rfl⟩
  have hm8 : m ≤ 8 := by omega
  rw [hm] at HSP
  have HM := hide hm
  have HX := hide (And.intro b0 (And.intro z0 (And.intro bY (And.intro xY (And.intro uY hsz)))))
  have HY0 := hide hY0
  have HY := hide hY
  obtain ⟨av, cv, hv⟩ := hs.shape
  subst hv
  clear hs hll b0 z0 bY x0 xY uY hsz hm hmr hY0 hY
  go_enter Try.func38, Try.ntmps38
  go_wp2_with (first | rw [show w.alloc (.cells #[.slice none 0 0, .slice none 0 0, .slice none 0 0, .slice none 0 0, .slice none 0 0, .slice none 0 0, .slice none 0 0, .slice none 0 0] 29) = Y0 from unhide HY0] | rw [show Y0.alloc (.cells #[.slice none 0 0, .slice none 0 0, .slice none 0 0, .slice none 0 0, .slice none 0 0, .slice none 0 0, .slice none 0 0, .slice none 0 0] 29) = Y from unhide HY] | (go_at_call 53; refine (unhide HSP).mono ?_; rintro e w1 ⟨g1, rfl, hpt, hb1⟩; have HPT := hide hpt; have HB1 := hide hb1; clear hpt hb1 HSP))
  obtain ⟨hg1, rows, hrl, hrh, hro, hra⟩ := unhide HPT
  obtain ⟨b0, z0, bY, xY, uY, hsz⟩ := unhide HX
  have hb1 := unhide HB1
  have u1 : w1.heap[Y0.heap.size]? = some (.cells nil8 29) := (hb1.block _ hsz).trans uY
  have x1 : w1.heap[w.heap.size]? = some (.cells nil8 29) := (hb1.block _ (by omega)).trans xY
  obtain ⟨b5, hb5⟩ : ∃ b, Y0.heap.size = b := ⟨_, rfl⟩
  have HF := hide (And.intro hrl (And.intro hrh (And.intro hro (And.intro hra (And.intro hg1 (And.intro x1 (And.intro bY (And.intro hb1 (And.intro hsz (And.intro z0 u1))))))))))
  rw [hb5] at HF u1 ⊢
  have HU1 := hide u1
  have HB5 := hide hb5
  clear hrl hrh hro hra hg1 b0 z0 bY xY uY hsz hb1 u1 x1 HPT HX hb5 HB1
  go_loopw [7] (fun c wr => ∃ t : Nat, t ≤ m ∧ c = .int .i64 t ∧ wr.heap[b5]? = some (.cells (rows.take t ++ List.replicate (8 - t) (Value.slice none 0 0)).toArray 29) ∧ But b5 w1 wr) (fun c _ => m - (intOf c).toNat)
  case atStart => exact ⟨0, by omega, rfl, unhide HU1, But.refl _ _⟩
  case round =>
    obtain ⟨t, ht, rfl, hbx, hbt⟩ := hrel
    by_cases hlt : t < m
    · obtain ⟨hrl, hrh, hro, hra, hg1, x1, bY, hb1, hsz, z0, u1⟩ := unhide HF
      have h5 := unhide HB5
      have hg5 : g1 ≠ b5 := by omega
      have htl : t < rows.length := by omega
      obtain ⟨ra, rc, hre⟩ := own_shape (hro t rows[t] (List.getElem?_eq_getElem htl))
      obtain ⟨rn, hrn⟩ : ∃ k, (inP n (srt l) t).length = k := ⟨_, rfl⟩
      rw [hrn] at hre
      have hge : rows.getD t undef = .slice ra rn rc := by simp [List.getD, htl, hre]
      have hgc : wr.cell? ⟨g1, t, none⟩ = some (.slice ra rn rc) := by
        have h := (hbt.block g1 (Array.getElem?_eq_some_iff.1 hrh).1 hg5).trans hrh
        rw [cell_at h, List.getElem?_toArray, List.getElem?_eq_getElem htl, hre]
      have hc5 : ∃ u, wr.cell? ⟨b5, t, none⟩ = some u := by
        rw [cell_at hbx, List.getElem?_toArray]
        exact ⟨_, List.getElem?_eq_getElem (by simp; omega)⟩
      obtain ⟨u, hu⟩ := hc5
      have hfz : wr.frozen? ⟨b5, t, none⟩ = false := frozen_of_heap hbx
      have hbx2 : (wr.setCell ⟨b5, t, none⟩ (.slice ra rn rc)).heap[b5]? = some (.cells (rows.take (t + 1) ++ List.replicate (8 - (t + 1)) (Value.slice none 0 0)).toArray 29) := by
        rw [heap_setCell_same wr _ _ _ _ _ hbx, ← hge, take_set hrl hm8 hlt]
      have HG := hide (And.intro hbx2 (hbt.setCell (o := t) (u := .slice ra rn rc)))
      have ht8 : t < 8 := by omega
      clear h5 hg5 hrl hrh hro hra hg1 x1 bY hb1 hsz z0 u1 htl hre hge hbx hbt hbx2 hrn
      go_wp2
      go_roundw
      case rel => exact ⟨t + 1, by omega, by go_num, (unhide HG).1, (unhide HG).2⟩
      case measure => simp [intOf]; omega
    · obtain rfl : t = m := by omega
      obtain ⟨hrl, hrh, hro, hra, hg1, x1, bY, hb1, hsz, z0, u1⟩ := unhide HF
      rw [List.take_of_length_le (by omega)] at hbx
      have h5 := unhide HB5
      have hne : w.heap.size ≠ b5 := by omega
      have h8 := rows8_of (unhide HM) hrl hro hra hm8
      obtain ⟨F, hFF⟩ : ∃ F, rows ++ List.replicate (8 - t) (Value.slice none 0 0) = F := ⟨_, rfl⟩
      rw [hFF] at hbx h8
      have hF1 : F.toArray.all (·.oneCell') = true := by
        rw [List.all_toArray, List.all_eq_true]
        intro u hu
        obtain ⟨p, hp⟩ := List.getElem?_of_mem hu
        obtain ⟨ao, cap, e⟩ := own_shape (h8.2.1 p u hp)
        rw [e]; rfl
      have xr : wr.heap[w.heap.size]? = some (.cells nil8 29) := (hbt.block _ (Array.getElem?_eq_some_iff.1 x1).1 hne).trans x1
      have hr8 : Rows8 Y.heap.size wr (inP n (srt l)) F := ⟨h8.1, fun p u hp => own_but2 hbt hsz (Nat.le_refl _) (h8.2.1 p u hp), h8.2.2⟩
      have hFs : F.toArray.size = 8 := by rw [List.size_toArray]; exact h8.1
      have h29 : (Try.prog.info? 29).map (·.size) = some F.toArray.size := by rw [hFs]; exact Try.info29
      have hw5 : w.heap.size ≤ b5 := by omega
      have hbw : Below w.heap.size w wr := bY.trans ((hb1.mono bY.size).trans (hbt.low hw5 (Nat.le_trans bY.size hb1.size)))
      have x3 : (wr.setRow w.heap.size F.toArray).heap[w.heap.size]? = some (.cells F.toArray 29) := by rw [setRow_heap wr w.heap.size _ _ 29 (0, 0) xr]
      have hb3 : Below w.heap.size w (wr.setRow w.heap.size F.toArray) := below_setRow hbw (Nat.le_refl _)
      have o3 : Rows8 w.heap.size (wr.setRow w.heap.size F.toArray) (inP n (srt l)) F := ⟨h8.1, fun p u hp => own_mono (own_setRow (hr8.2.1 p u hp) (by omega)) bY.size, h8.2.2⟩
      have HU := hide (And.intro hbx (And.intro xr (And.intro hF1 (And.intro hFs h29))))
      have HO := hide (And.intro x3 (And.intro hb3 o3))
      clear h5 hrl hrh hro hra hg1 x1 bY hb1 hsz z0 u1 hbx hbt hne h8 hFF hF1 xr hr8 hFs h29 hw5 hbw x3 hb3 o3
      obtain ⟨A, hA⟩ : ∃ A, F.toArray = A := ⟨_, rfl⟩
      rw [hA] at HU HO
      have hns : nil8.size = A.size := (unhide HU).2.2.2.1.symm
      have HNS := hide hns
      have HA := hide hA
      clear hA hns
      go_wp2_with (first | (refine wpList_load_row rfl 29 _ rfl b5 rfl 29 A (0, 0) _ (unhide HU).1 Try.underlying29 rfl (unhide HU).2.2.2.2 ?_) | (refine wpList_store_row rfl 29 _ _ rfl w.heap.size nil8 A rfl rfl 29 (unhide HU).2.1 (unhide HU).2.2.2.2 (unhide HNS) (unhide HU).2.2.1 ?_))
      exact bodyPost_ret (results_cell_row rfl _ _ w.heap.size 29 _ (0, 0) _ rfl (unhide HO).1 Try.underlying29 rfl (unhide HU).2.2.2.2) rfl ⟨F, by rw [unhide HA], (unhide HO).2.2, (unhide HO).2.1⟩
end Go.Proofs.Ytibjhjkeflbghaa
