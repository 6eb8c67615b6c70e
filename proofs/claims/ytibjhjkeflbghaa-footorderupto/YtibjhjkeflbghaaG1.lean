/- Split: the program's. -/
import Derived.Test.YtibjhjkeflbghaaG0
import Derived.Test.YtibjhjkeflbghaaA4
import Derived.Test.YtibjhjkeflbghaaKC
namespace Go.Proofs.Ytibjhjkeflbghaa
open Go.RowKit
set_option maxRecDepth 100000

theorem Try.info24 : (Try.prog.info? 24).map (fun i => (i.zero, i.size, i.bytes)) = some (some (.slice none 0 0), 1, 24) := by kernel_rfl
theorem make45 (n : Nat) (hn : n ≤ 8) (W : World) : (Instr.makeSlice 89 (.int .i64 n) (.int .i64 n)).run Try.prog W = .ok (.slice (some ⟨W.heap.size, 0, none⟩) n n) (W.alloc (.cells (List.replicate n (Value.slice none 0 0)).toArray 24)) := by
  obtain ⟨i4, hi4, hz0, hz1, hz2⟩ := info_parts Try.info24
  have h := run_make (P := Try.prog) W 89 24 i4 _ Try.underlying89 hi4 hz0 .i64 .i64 n n (by omega) (by omega) (by rw [hz2]; omega) (by omega)
  rw [hz1, Nat.mul_one] at h
  have e : madeCells (Value.slice none 0 0).cells ((n : Int).toNat) = (List.replicate n (Value.slice none 0 0)).toArray := by
    have hc : (Value.slice none 0 0).cells = #[.slice none 0 0] := rfl
    rw [hc, Int.toNat_natCast]
    refine Array.ext_getElem? fun j => ?_
    unfold madeCells
    rw [Array.getElem?_map, Array.getElem?_range]
    by_cases hj : j < n
    · rw [if_pos hj]
      simp [Nat.mod_one, hj]
    · rw [if_neg hj]
      simp [hj]
  rw [e] at h
  exact h
/-- Which partition, as a place. -/
def pl (n : Int) (k : Ky) : Nat := (partF k n).toNat
theorem pl_lt (n : Int) (k : Ky) : pl n k < (manyF n).toNat := by
  have := partF_range k n
  unfold pl
  omega
/-- The keys of a partition. -/
def inP (n : Int) (l : List Ky) (p : Nat) : List Ky := l.filter fun k => decide (pl n k = p)
theorem inP_snoc (n : Int) (l : List Ky) (k : Ky) (p : Nat) : inP n (l ++ [k]) p = if p = pl n k then inP n l (pl n k) ++ [k] else inP n l p := by
  unfold inP
  rw [List.filter_append]
  by_cases h : p = pl n k
  · subst h
    simp
  · simp [h, Ne.symm h]
theorem inP_len (n : Int) (l : List Ky) (p : Nat) : (inP n l p).length ≤ l.length := List.length_filter_le _ _
/-- What Split leaves: its lists in the block g. -/
def Parts (base : Nat) (w : World) (g m : Nat) (f : Nat → List Ky) : Prop := base ≤ g ∧ ∃ rows : List Value, rows.length = m ∧ w.heap[g]? = some (.cells rows.toArray 24) ∧ (∀ (p : Nat) (v : Value), rows[p]? = some v → w.ownsRow base 37 2 v (f p).length ((f p).flatMap kC)) ∧ ∀ (p q : Nat) (v u : Value) (b : Nat), rows[p]? = some v → rows[q]? = some u → p ≠ q → v.ownBlock = some b → u.ownBlock ≠ some b
theorem SI.start {w1 w2 : World} {g m : Nat} (hg : w1.heap[g]? = some (.cells (List.replicate m (Value.slice none 0 0)).toArray 24)) (hb : Below w1.heap.size w1 w2) (n : Int) : SI w2 g w2 (List.replicate m (Value.slice none 0 0)) (inP n []) := by
  have hlt := (Array.getElem?_eq_some_iff.1 hg).1
  refine ⟨Nat.lt_of_lt_of_le hlt hb.size, rfl, rfl, rfl, Nat.le_refl _, fun _ _ _ => rfl, (hb.block g hlt).trans hg, fun p v hv => ?_, fun p q v u b hv _ _ hb' => ?_⟩
  · obtain rfl := (List.mem_replicate.1 (List.mem_of_getElem? hv)).2
    exact own_nil _ _ _ _
  · obtain rfl := (List.mem_replicate.1 (List.mem_of_getElem? hv)).2
    simp [Value.ownBlock] at hb'
/-- One key more. -/
theorem SI.next {w2 : World} {g m : Nat} {wr : World} {rows : List Value} {n : Int} {L : List Ky} (h : SI w2 g wr rows (inP n L)) (hl : rows.length = m) (hm : m = (manyF n).toNat) {k : Ky} {gx : Nat} (hx : SeesL kC 2 wr (.slice (some ⟨gx, 0, none⟩) 1 1) [k]) (hL : L.length + 1 ≤ 8796093022208) :
    ∃ ai ni ci ao nn cap y rows', wr.cell? ⟨g, pl n k, none⟩ = some (.slice ai ni ci) ∧ (Builtin.append_ #[24, 24] 24 #[.slice ai ni ci, .slice (some ⟨gx, 0, none⟩) 1 1]).run Try.prog wr = .ok (.slice ao nn cap) y ∧ y.cell? ⟨g, pl n k, none⟩ = some (.slice ai ni ci) ∧ y.frozen? ⟨g, pl n k, none⟩ = false ∧ rows'.length = m ∧
      SI w2 g (y.setCell ⟨g, pl n k, none⟩ (.slice ao nn cap)) rows' (inP n (L ++ [k])) := by
  have hlt : pl n k < rows.length := by rw [hl, hm]; exact pl_lt n k
  have hv : rows[pl n k]? = some rows[pl n k] := List.getElem?_eq_getElem hlt
  obtain ⟨ai, ci, e⟩ := own_shape (h.own _ _ hv)
  have hle := inP_len n L (pl n k)
  obtain ⟨ao, cap, y, r1, r2, _, r3⟩ := h.put hv hx (by omega)
  rw [e] at hv r1
  refine ⟨ai, _, ci, ao, _, cap, y, rows.set (pl n k) (.slice ao ((inP n L (pl n k)).length + 1) cap), (h.cell _).trans hv, r1, ?_, frozen_of_heap r2, by simpa using hl, ?_⟩
  · rw [cell_at r2]
    simpa using hv
  · have : (fun p => if p = pl n k then inP n L (pl n k) ++ [k] else inP n L p) = inP n (L ++ [k]) := funext fun p => (inP_snoc n L k p).symm
    rw [this] at r3
    exact r3
theorem SI.parts {w w2 : World} {g m : Nat} {wr : World} {rows : List Value} {f : Nat → List Ky} (h : SI w2 g wr rows f) (hl : rows.length = m) (hg : w.heap.size ≤ g) (hb : Below w.heap.size w w2) : Parts w.heap.size wr g m f ∧ Below w.heap.size w wr :=
  ⟨⟨hg, rows, hl, h.box, fun p v hv => own_mono (h.own p v hv) hb.size, h.apart⟩, hb.trans (h.below hg)⟩

set_option maxHeartbeats 3200000 in
theorem split_any {v : Value} {l : List Ky} {w : World} (n : Int) (hs : SeesL kC 2 w v l) (hok : ∀ k ∈ l, OkK k) (hll : l.length ≤ 8796093021952) :
    Calls Try.prog 52 #[.int .i64 n, v] w fun e w' => ∃ g, e = .returned (.slice (some ⟨g, 0, none⟩) (manyF n).toNat (manyF n).toNat) ∧ Parts w.heap.size w' g (manyF n).toNat (inP n (srt l)) ∧ Below w.heap.size w w' := by
  have hr := manyF_range n
  obtain ⟨m, hm⟩ : ∃ m, (manyF n).toNat = m := ⟨_, rfl⟩
  have hmi : manyF n = (m : Int) := by omega
  have hm8 : m ≤ 8 := by omega
  rw [hm]
  have HMA : Hid (∀ x, Calls Try.prog 59 #[.int .i64 n] x fun e w' => e = .returned (.int .i64 (m : Int)) ∧ x = w') := fun x => hmi ▸ many_any n x
  obtain ⟨y, hy⟩ : ∃ y, w.alloc (.cells (List.replicate m (Value.slice none 0 0)).toArray 24) = y := ⟨_, rfl⟩
  have hmk : (Instr.makeSlice 89 (.int .i64 m) (.int .i64 m)).run Try.prog w = .ok (.slice (some ⟨w.heap.size, 0, none⟩) m m) y := hy ▸ make45 m hm8 w
  have hby : Below w.heap.size w y := hy ▸ below_box _
  have hgy : y.heap[w.heap.size]? = some (.cells (List.replicate m (Value.slice none 0 0)).toArray 24) := hy ▸ heap_alloc_new w _
  have HKE := hide (keys_any (hs.below kC_len hby) hok (by omega))
  have HG := hide (And.intro hby hgy)
  have HM := hide hm
  obtain ⟨av, cv, hv⟩ := hs.shape
  have hsl := srt_len l
  subst hv
  clear hs hby hgy hm hmi hr hok
  go_enter Try.func52, Try.ntmps52
  go_wp2_with (first | (go_at_call 59; refine (unhide HMA _).mono ?_; rintro e w1 ⟨rfl, rfl⟩) | (go_at_call 39; refine (unhide HKE).mono ?_; rintro e w2 ⟨kv, rfl, hown, hb2⟩; obtain ⟨ak, ck, hk⟩ := own_shape hown; subst hk; have HOK := hide hown; have HB2 := hide hb2; clear hown hb2))
  obtain ⟨K, hK⟩ : ∃ K, srt l = K := ⟨_, rfl⟩
  have hKs := (own_sees kC_len (by decide) (unhide HOK)).2
  rw [hK] at hKs hsl
  have hKr : ∀ x, (∀ j, j < w2.heap.size → j ≠ w.heap.size → x.heap[j]? = w2.heap[j]?) → SeesL kC 2 x (.slice ak K.length ck) K := fun x hx => by
    have ho := unhide HOK
    rw [hK] at ho
    refine (own_sees (base := y.heap.size) (e := 37) (n := K.length) kC_len (by decide) ⟨ho.1, ?_⟩).2
    rcases ho.2 with hn | ⟨g', cap', cur, e, hb, hh, r⟩
    · exact .inl hn
    · refine .inr ⟨g', cap', cur, e, hb, (hx g' (Array.getElem?_eq_some_iff.1 hh).1 (fun c => ?_)).trans hh, r⟩
      have h1 := ((unhide HB2).block w.heap.size (Array.getElem?_eq_some_iff.1 (unhide HG).2).1).trans (unhide HG).2
      rw [c, h1] at hh
      simp at hh
  have HKR := hide hKr
  have HSI := hide (SI.start (unhide HG).2 (unhide HB2) n)
  have HKK := hide hK
  rw [hK]
  obtain ⟨kn, hkn⟩ : ∃ k, K.length = k := ⟨_, rfl⟩
  have HKN := hide hkn
  rw [hkn] at hsl HKR ⊢
  clear hKs hKr hK hkn
  go_wp2_with fail
  go_loopw [15] (fun c wr => ∃ (t : Nat) (rows : List Value), t ≤ kn ∧ c = .int .i64 t ∧ rows.length = m ∧ SI w2 w.heap.size wr rows (inP n (K.take t))) (fun c _ => kn - (intOf c).toNat)
  case atStart => exact ⟨0, _, by omega, rfl, by simp, unhide HSI⟩
  case round =>
    obtain ⟨t, rows, ht, rfl, hrl, hsi⟩ := hrel
    have HRI := hide hsi
    by_cases hlt : t < kn
    · have hkn := unhide HKN
      have htl : t < K.length := by omega
      have hkw := unhide HKR wr hsi.frame
      obtain ⟨gb, ob, hao, -, hcx⟩ := key_cells hkw rfl htl
      subst hao
      obtain ⟨⟨a, b⟩, hx⟩ : ∃ k, K.getD t default = k := ⟨_, rfl⟩
      have hx' : K[t] = (a, b) := by rw [← hx]; simp [List.getD, htl]
      rw [hx] at hcx
      obtain ⟨g1, g2⟩ := hcx wr (Below.refl _ _)
      have htk : K.take (t + 1) = K.take t ++ [(a, b)] := by rw [List.take_succ_eq_append_getElem htl, hx']
      have HTK := hide htk
      obtain ⟨y1, hy1⟩ : ∃ y, wr.alloc (.cells #[.int .i32 a, .int .i64 b] 37) = y := ⟨_, rfl⟩
      have b1 : Below wr.heap.size wr y1 := hy1 ▸ below_box _
      have x1 : y1.heap[wr.heap.size]? = some (.cells #[.int .i32 a, .int .i64 b] 37) := by rw [← hy1]; exact heap_alloc_new wr _
      have c1 : y1.cell? ⟨wr.heap.size, 0, none⟩ = some (.int .i32 a) := cell_at x1
      have c2 : y1.cell? ⟨wr.heap.size, 1, none⟩ = some (.int .i64 b) := cell_at x1
      obtain ⟨i, hi⟩ : ∃ i, pl n (a, b) = i := ⟨_, rfl⟩
      have him : i < m := by rw [← hi, ← unhide HM]; exact pl_lt n (a, b)
      have hip : partF (a, b) n = (i : Int) := by have := partF_range (a, b) n; rw [← hi]; unfold pl; omega
      have HPA := hide (hip ▸ part_any a b n y1)
      have HX1 := hide x1
      have HB1 := hide b1
      have HI := hide hi
      have hlk : (K.take t).length + 1 ≤ 8796093022208 := by simp; omega
      clear hx hx' hcx htk hkw htl hkn hsi b1 x1 hi hip
      go_wp2_with (first | rw [hy1] | (go_at_call 42; refine (unhide HPA).mono ?_; rintro e w4 ⟨rfl, hg4⟩; have HG4 := hide hg4; clear hg4))
      have hb4 : Below wr.heap.size wr w4 := (unhide HB1).trans ((unhide HG4).below.mono (unhide HB1).size)
      have x4 : w4.heap[wr.heap.size]? = some (.cells #[.int .i32 a, .int .i64 b] 37) := ((unhide HG4).below.block _ (Array.getElem?_eq_some_iff.1 (unhide HX1)).1).trans (unhide HX1)
      obtain ⟨ai, ni, ci, ao, nn, cap, y5, rows', r1, r2, r3, r4, r5, r6⟩ := SI.next (n := n) (k := (a, b)) (gx := w4.heap.size) (((unhide HRI).grow hb4).grow (y := (w4.alloc (.cells #[.int .i32 a, .int .i64 b] 37)).drew) (below_box _).drew) hrl (unhide HM).symm ((sees_oneK w4 (a, b)).below kC_len ((Below.refl _ _).drew)) hlk
      rw [unhide HI] at r1 r3 r4 r6
      have r1' : w4.drew.cell? ⟨w.heap.size, i, none⟩ = some (.slice ai ni ci) := by
        have h1 := (((unhide HRI).grow hb4).grow (y := (w4.alloc (.cells #[.int .i32 a, .int .i64 b] 37)).drew) (below_box _).drew).cell i
        have h2 := ((unhide HRI).grow hb4).cell i
        show w4.cell? _ = _
        rw [h2, ← h1, r1]
      have c3 : w4.drew.cell? ⟨wr.heap.size, 0, none⟩ = some (.int .i32 a) := cell_at x4
      have c4 : w4.drew.cell? ⟨wr.heap.size, 1, none⟩ = some (.int .i64 b) := cell_at x4
      have HS6 : Hid (∃ rows, rows.length = m ∧ SI w2 w.heap.size (y5.setCell ⟨w.heap.size, i, none⟩ (.slice ao nn cap)) rows (inP n (K.take (t + 1)))) := ⟨rows', r5, by rw [unhide HTK]; exact r6⟩
      clear hb4 x4 r5 r6
      refine wp_region_held_drew (S := fun x => True) (by kernel_rfl) trivial (fun hHeld => ?_)
      refine wpAnyH_take (i := 0) (v := ?v1x0) rfl (by kernel_rfl) (by kernel_rfl) (by kernel_rfl) (fun _ _ _ h => h) (Or.inl ⟨by rfl, ?hy1x0⟩) (by assumption) ?rest1x0
      case hy1x0 => intro w hSw; go_simp <;> with_reducible rfl
      simp only [Act.put, List.getElem_toArray, List.getElem_cons_zero, List.setIfInBounds_toArray, List.set_cons_zero, List.set_cons_succ]
      refine wpAnyH_take (i := 1) (v := ?v2x1) rfl (by kernel_rfl) (by kernel_rfl) (by kernel_rfl) (fun _ _ _ h => h) (Or.inl ⟨by rfl, ?hy2x1⟩) (by assumption) ?rest2x1
      case hy2x1 => intro w hSw; go_simp <;> with_reducible rfl
      simp only [Act.put, List.getElem_toArray, List.getElem_cons_zero, List.getElem_cons_succ, List.setIfInBounds_toArray, List.set_cons_zero, List.set_cons_succ]
      refine wpAnyH_take (i := 2) (v := ?v3x2) rfl (by kernel_rfl) (by kernel_rfl) (by kernel_rfl) (fun _ _ _ h => h) (Or.inl ⟨by rfl, ?hy3x2⟩) (by assumption) ?rest3x2
      case hy3x2 => intro w hSw; go_simp <;> with_reducible rfl
      simp only [Act.put, List.getElem_toArray, List.getElem_cons_zero, List.getElem_cons_succ, List.setIfInBounds_toArray, List.set_cons_zero, List.set_cons_succ]
      refine wpAnyH_take (i := 3) (v := ?v4x3) rfl (by kernel_rfl) (by kernel_rfl) (by kernel_rfl) (fun _ _ _ h => h) (Or.inl ⟨by rfl, ?hy4x3⟩) (by assumption) ?rest4x3
      case hy4x3 => intro w hSw; go_simp <;> with_reducible rfl
      simp only [Act.put, List.getElem_toArray, List.getElem_cons_zero, List.getElem_cons_succ, List.setIfInBounds_toArray, List.set_cons_zero, List.set_cons_succ]
      refine wpAnyH_take (i := 4) (v := ?v5x4) rfl (by kernel_rfl) (by kernel_rfl) (by kernel_rfl) (fun _ _ _ h => h) (Or.inl ⟨by rfl, ?hy5x4⟩) (by assumption) ?rest5x4
      case hy5x4 => intro w hSw; go_simp <;> with_reducible rfl
      simp only [Act.put, List.getElem_toArray, List.getElem_cons_zero, List.getElem_cons_succ, List.setIfInBounds_toArray, List.set_cons_zero, List.set_cons_succ]
      refine wpAnyH_ready (rs := [5, 6]) (by kernel_rfl) (by simp) ?_
      refine AllReadyH.cons rfl (fun K hK => ?_) (AllReadyH.cons rfl (fun K hK => ?_) AllReadyH.nil)
      · skip
        go_simp
        refine hK _ _ trivial ?_
        clear hK hHeld
        intro hHeld
        refine wpAnyH_ready (rs := [6]) (by kernel_rfl) (by simp) ?_
        refine AllReadyH.cons rfl (fun K hK => ?_) AllReadyH.nil
        go_simp
        refine hK _ _ trivial ?_
        clear hK hHeld
        intro hHeld
        refine wpAnyH_ready (rs := [7]) (by kernel_rfl) (by simp) ?_
        refine AllReadyH.cons rfl (fun K hK => ?_) AllReadyH.nil
        go_simp
        refine hK _ _ trivial ?_
        clear hK hHeld
        intro hHeld
        refine wpAnyH_ready (rs := [8]) (by kernel_rfl) (by simp) ?_
        refine AllReadyH.cons rfl (fun K hK => ?_) AllReadyH.nil
        rw [if_pos (by rfl)]
        refine append_upon rfl rfl rfl r2 ?_
        simp only [Act.put, List.getElem_toArray, List.getElem_cons_zero, List.getElem_cons_succ, List.setIfInBounds_toArray, List.set_cons_zero, List.set_cons_succ]
        refine hK _ _ trivial ?_
        clear hK hHeld
        intro hHeld
        refine wpAnyH_take (i := 9) (v := ?v6x9) rfl (by kernel_rfl) (by kernel_rfl) (by kernel_rfl) (fun _ _ _ h => h) (Or.inl ⟨by rfl, ?hy6x9⟩) (by assumption) ?rest6x9
        case hy6x9 => intro w hSw; go_simp <;> with_reducible rfl
        simp only [Act.put, List.getElem_toArray, List.getElem_cons_zero, List.getElem_cons_succ, List.setIfInBounds_toArray, List.set_cons_zero, List.set_cons_succ]
        refine wpAnyH_ready (rs := [10]) (by kernel_rfl) (by simp) ?_
        refine AllReadyH.cons rfl (fun K hK => ?_) AllReadyH.nil
        go_simp
        refine hK _ _ trivial ?_
        clear hK hHeld
        intro hHeld
        refine wpAnyH_done (by kernel_rfl) ?_ _
        go_wp2
        go_roundw
        case rel =>
          obtain ⟨rw6, q1, q2⟩ := unhide HS6
          exact ⟨t + 1, rw6, by omega, by go_num, q1, q2⟩
        case measure => simp [intOf]; omega
      · skip
        go_simp
        refine hK _ _ trivial ?_
        clear hK hHeld
        intro hHeld
        refine wpAnyH_ready (rs := [5, 7]) (by kernel_rfl) (by simp) ?_
        refine AllReadyH.cons rfl (fun K hK => ?_) (AllReadyH.cons rfl (fun K hK => ?_) AllReadyH.nil)
        · skip
          go_simp
          refine hK _ _ trivial ?_
          clear hK hHeld
          intro hHeld
          refine wpAnyH_ready (rs := [7]) (by kernel_rfl) (by simp) ?_
          refine AllReadyH.cons rfl (fun K hK => ?_) AllReadyH.nil
          go_simp
          refine hK _ _ trivial ?_
          clear hK hHeld
          intro hHeld
          refine wpAnyH_ready (rs := [8]) (by kernel_rfl) (by simp) ?_
          refine AllReadyH.cons rfl (fun K hK => ?_) AllReadyH.nil
          rw [if_pos (by rfl)]
          refine append_upon rfl rfl rfl r2 ?_
          simp only [Act.put, List.getElem_toArray, List.getElem_cons_zero, List.getElem_cons_succ, List.setIfInBounds_toArray, List.set_cons_zero, List.set_cons_succ]
          refine hK _ _ trivial ?_
          clear hK hHeld
          intro hHeld
          refine wpAnyH_take (i := 9) (v := ?v7x9) rfl (by kernel_rfl) (by kernel_rfl) (by kernel_rfl) (fun _ _ _ h => h) (Or.inl ⟨by rfl, ?hy7x9⟩) (by assumption) ?rest7x9
          case hy7x9 => intro w hSw; go_simp <;> with_reducible rfl
          simp only [Act.put, List.getElem_toArray, List.getElem_cons_zero, List.getElem_cons_succ, List.setIfInBounds_toArray, List.set_cons_zero, List.set_cons_succ]
          refine wpAnyH_ready (rs := [10]) (by kernel_rfl) (by simp) ?_
          refine AllReadyH.cons rfl (fun K hK => ?_) AllReadyH.nil
          go_simp
          refine hK _ _ trivial ?_
          clear hK hHeld
          intro hHeld
          refine wpAnyH_done (by kernel_rfl) ?_ _
          go_wp2
          go_roundw
          case rel =>
            obtain ⟨rw6, q1, q2⟩ := unhide HS6
            exact ⟨t + 1, rw6, by omega, by go_num, q1, q2⟩
          case measure => simp [intOf]; omega
        · skip
          go_simp
          refine hK _ _ trivial ?_
          clear hK hHeld
          intro hHeld
          refine wpAnyH_ready (rs := [5]) (by kernel_rfl) (by simp) ?_
          refine AllReadyH.cons rfl (fun K hK => ?_) AllReadyH.nil
          go_simp
          refine hK _ _ trivial ?_
          clear hK hHeld
          intro hHeld
          refine wpAnyH_ready (rs := [8]) (by kernel_rfl) (by simp) ?_
          refine AllReadyH.cons rfl (fun K hK => ?_) AllReadyH.nil
          rw [if_pos (by rfl)]
          refine append_upon rfl rfl rfl r2 ?_
          simp only [Act.put, List.getElem_toArray, List.getElem_cons_zero, List.getElem_cons_succ, List.setIfInBounds_toArray, List.set_cons_zero, List.set_cons_succ]
          refine hK _ _ trivial ?_
          clear hK hHeld
          intro hHeld
          refine wpAnyH_take (i := 9) (v := ?v8x9) rfl (by kernel_rfl) (by kernel_rfl) (by kernel_rfl) (fun _ _ _ h => h) (Or.inl ⟨by rfl, ?hy8x9⟩) (by assumption) ?rest8x9
          case hy8x9 => intro w hSw; go_simp <;> with_reducible rfl
          simp only [Act.put, List.getElem_toArray, List.getElem_cons_zero, List.getElem_cons_succ, List.setIfInBounds_toArray, List.set_cons_zero, List.set_cons_succ]
          refine wpAnyH_ready (rs := [10]) (by kernel_rfl) (by simp) ?_
          refine AllReadyH.cons rfl (fun K hK => ?_) AllReadyH.nil
          go_simp
          refine hK _ _ trivial ?_
          clear hK hHeld
          intro hHeld
          refine wpAnyH_done (by kernel_rfl) ?_ _
          go_wp2
          go_roundw
          case rel =>
            obtain ⟨rw6, q1, q2⟩ := unhide HS6
            exact ⟨t + 1, rw6, by omega, by go_num, q1, q2⟩
          case measure => simp [intOf]; omega
    · obtain rfl : t = kn := by omega
      have hkn := unhide HKN
      rw [List.take_of_length_le (by omega)] at hsi
      have HP := hide (hsi.parts hrl (Nat.le_refl _) ((unhide HG).1.trans ((unhide HB2).mono (unhide HG).1.size)))
      clear hsi hkn
      go_wp2
      go_ret
      exact ⟨_, rfl, by rw [unhide HKK]; exact unhide HP⟩
end Go.Proofs.Ytibjhjkeflbghaa
