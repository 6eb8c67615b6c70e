/- Those ahead that clash: the program's. -/
import Derived.Test.YtibjhjkeflbghaaU1
import Derived.Test.YtibjhjkeflbghaaU2
namespace Go.Proofs.Ytibjhjkeflbghaa
open Go.RowKit
set_option maxRecDepth 100000

/-- Found by one of these locks. -/
def fnd (V : Ky → Bool → List Int) (ws : List Lk) (i : Int) : Prop := ∃ x ∈ ws, i ∈ V x.1 (!x.2)
theorem fnd_snoc (V : Ky → Bool → List Int) (ws : List Lk) (x : Lk) (i : Int) : fnd V (ws ++ [x]) i ↔ fnd V ws i ∨ i ∈ V x.1 (!x.2) := by
  unfold fnd
  constructor
  · rintro ⟨y, hy, hi⟩
    rcases List.mem_append.1 hy with c | c
    · exact .inl ⟨y, c, hi⟩
    · rw [List.mem_singleton] at c; subst c; exact .inr hi
  · rintro (⟨y, hy, hi⟩ | h)
    · exact ⟨y, List.mem_append_left _ hy, hi⟩
    · exact ⟨x, List.mem_append_right _ (List.mem_singleton.2 rfl), h⟩
theorem nd_len : ∀ (k : Nat) (l : List Int), l.Nodup → (∀ y ∈ l, 0 ≤ y ∧ y < (k : Int)) → l.length ≤ k
  | 0, l, _, h => by
    cases l with
    | nil => exact Nat.le_refl _
    | cons a r => have := h a (List.mem_cons_self ..); omega
  | k + 1, l, hn, h => by
    have h1 := nd_len k (l.erase (k : Int)) (hn.erase _) (fun y hy => by
      have hy' := (hn.mem_erase_iff).1 hy
      have := h y hy'.2
      have := hy'.1
      omega)
    by_cases hm : (k : Int) ∈ l
    · rw [List.length_erase_of_mem hm] at h1; omega
    · rw [List.erase_of_not_mem hm] at h1; omega
/-- What has been found so far, and what has been met. -/
structure Inv (k n : Nat) (M0 out M : List Int) (P : Int → Prop) : Prop where
  nodup : out.Nodup
  mem : ∀ i, i ∈ out ↔ P i
  len : M.length = n
  met : ∀ j, j < k → (M.getD j 0 = (k : Int) ↔ (j : Int) ∈ out)
  old : ∀ j, M.getD j 0 = M0.getD j 0 ∨ M.getD j 0 = (k : Int)
theorem Inv.imp {k n : Nat} {M0 out M : List Int} {P Q : Int → Prop} (h : Inv k n M0 out M P) (hp : ∀ i, P i ↔ Q i) : Inv k n M0 out M Q := ⟨h.nodup, fun i => (h.mem i).trans (hp i), h.len, h.met, h.old⟩
theorem Inv.skip {k n j : Nat} {M0 out M : List Int} {P : Int → Prop} (h : Inv k n M0 out M P) (hj : j < k) (hm : M.getD j 0 = (k : Int)) : Inv k n M0 out M (fun i => P i ∨ i = (j : Int)) :=
  h.imp fun i => ⟨.inl, fun c => by
    rcases c with c | c
    · exact c
    · rw [c, ← h.mem]; exact (h.met j hj).1 hm⟩
theorem Inv.more {k n j : Nat} {M0 out M : List Int} {P : Int → Prop} (h : Inv k n M0 out M P) (hj : j < k) (hn : k ≤ n) (hm : M.getD j 0 ≠ (k : Int)) : Inv k n M0 (out ++ [(j : Int)]) (M.set j (k : Int)) (fun i => P i ∨ i = (j : Int)) := by
  have hg : ∀ q, (M.set j (k : Int)).getD q 0 = if q = j then (k : Int) else M.getD q 0 := fun q => by
    simp only [List.getD_eq_getElem?_getD, List.getElem?_set]
    by_cases e : j = q
    · subst e
      have : j < M.length := by have := h.len; omega
      simp [this]
    · rw [if_neg e, if_neg (Ne.symm e)]
  refine ⟨List.nodup_append.2 ⟨h.nodup, by simp, fun a ha b hb => ?_⟩, fun i => ?_, by rw [List.length_set]; exact h.len, fun q hq => ?_, fun q => ?_⟩
  · rw [List.mem_singleton] at hb
    subst hb
    exact fun e => hm ((h.met j hj).2 (e ▸ ha))
  · rw [List.mem_append, List.mem_singleton, h.mem]
  · rw [hg, List.mem_append, List.mem_singleton]
    by_cases e : q = j
    · subst e; simp
    · rw [if_neg e, h.met q hq]
      constructor
      · exact .inl
      · rintro (c | c)
        · exact c
        · exact absurd (by omega) e
  · rw [hg]
    by_cases e : q = j
    · rw [if_pos e]; exact .inr rfl
    · rw [if_neg e]; exact h.old q
/-- Nobody is left to be found. -/
theorem Inv.full {k n : Nat} {V : Ky → Bool → List Int} {M0 out M : List Int} {l : List Lk} {t : Nat} (h : Inv k n M0 out M (fnd V (l.take t))) (hV : ∀ q d i, i ∈ V q d → 0 ≤ i ∧ i < (k : Int)) (hl : out.length = k) : Inv k n M0 out M (fnd V l) := by
  refine h.imp fun i => ⟨fun ⟨x, hx, hi⟩ => ⟨x, List.mem_of_mem_take hx, hi⟩, fun ⟨x, hx, hi⟩ => ?_⟩
  rw [← h.mem]
  obtain ⟨h0, h1⟩ := hV _ _ _ hi
  exact Decidable.byContradiction fun hno => by
    have hle := nd_len k (i :: out) (List.nodup_cons.2 ⟨hno, h.nodup⟩) (fun y hy => by
      rcases List.mem_cons.1 hy with c | c
      · rw [c]; exact ⟨h0, h1⟩
      · obtain ⟨x, hx, hy'⟩ := (h.mem y).1 c
        exact hV _ _ _ hy')
    rw [List.length_cons] at hle
    omega
theorem But.low2 {g : Nat} {w y z : World} (h : But g w y) (hb : Below w.heap.size y z) : But g w z :=
  ⟨hb.os.trans h.os, hb.tape.trans h.tape, hb.output.trans h.output, Nat.le_trans h.size hb.size, fun j hj hm => (hb.block j hj).trans (h.block j hj hm)⟩
theorem Asks.but {N mb g : Nat} {w z : World} {S : Ky → Bool → Value} {V : Ky → Bool → List Int} (h : Asks N w mb S V) (hb : But g w z) (hg : g < N) (hm : g ≠ mb) : Asks N z mb S V := by
  obtain ⟨f, h1, h2⟩ := h.map
  refine ⟨⟨f, h1.keep (hb.block mb h1.lt (Ne.symm hm)), h2⟩, ⟨fun k d => ?_, h.rows.ap⟩⟩
  have ho := h.rows.own k d
  refine ⟨ho.1, ?_⟩
  rcases ho.2 with hn | ⟨g', cap', cur, hv', hb', hh, r⟩
  · exact .inl hn
  · exact .inr ⟨g', cap', cur, hv', hb', (hb.block g' (Array.getElem?_eq_some_iff.1 hh).1 (by omega)).trans hh, r⟩
def srtI (l : List Int) : List Int := l.mergeSort fun x y => decide (x ≤ y)

set_option maxHeartbeats 6400000 in
theorem clashing_any {v : Value} {l : List Lk} {N mb gm n : Nat} {S : Ky → Bool → Value} {V : Ky → Bool → List Int} {w : World} (k : Nat) (M : List Int) (hs : ∀ z, But gm w z → SeesL lC 3 z v l) (hok : ∀ x ∈ l, OkK x.1) (ha : Asks N w mb S V) (hg : gm < N) (hmb : gm ≠ mb) (hN : N ≤ w.heap.size)
    (hrow : w.heap[gm]? = some (.cells (nV M) 3)) (hML : M.length = n) (hkn : k ≤ n) (hn : n ≤ 1048576) (hM : ∀ j, j < k → M.getD j 0 ≠ (k : Int)) (hV : ∀ q d i, i ∈ V q d → 0 ≤ i ∧ i < (k : Int)) (hVl : ∀ q d, (V q d).length ≤ 1048576) (hl : l.length ≤ 4398046511104) :
    Calls Try.prog 46 #[.agg #[.map (some mb), .slice (some ⟨gm, 0, none⟩) n n], .int .i64 k, v] w fun e w' => ∃ a c out M', e = .returned (.slice a out.length c) ∧ w'.ownsRow w.heap.size 3 1 (.slice a out.length c) out.length ((srtI out).flatMap nC) ∧ Inv k n M out M' (fnd V l) ∧ w'.heap[gm]? = some (.cells (nV M') 3) ∧ But gm w w' := by
  obtain ⟨ao, cap, hv⟩ := (hs w (But.refl _ _)).shape
  obtain ⟨m, hm⟩ : ∃ m, l.length = m := ⟨_, rfl⟩
  rw [hm] at hv
  obtain ⟨B0, hB0⟩ : ∃ b, w.heap.size = b := ⟨_, rfl⟩
  obtain ⟨Y, hY⟩ : ∃ z, w.alloc (.cells #[.map (some mb), .slice (some ⟨gm, 0, none⟩) n n] 79) = z := ⟨_, rfl⟩
  have bY : Below w.heap.size w Y := hY ▸ below_box _
  have xY : Y.heap[B0]? = some (.cells #[.map (some mb), .slice (some ⟨gm, 0, none⟩) n n] 79) := by rw [← hY, ← hB0]; exact heap_alloc_new w _
  have rY : Y.heap[gm]? = some (.cells (nV M) 3) := (bY.block _ (by omega)).trans hrow
  have cY : But gm w Y := (But.refl _ _).below' bY
  have iY : Inv k n M [] M (fnd V []) := ⟨List.nodup_nil, fun i => by simp [fnd], hML, fun j hj => ⟨fun h => absurd h (hM j hj), fun h => by simp at h⟩, fun j => .inl rfl⟩
  have HS := hide hs
  have HOK := hide hok
  have HMm := hide hm
  have HV := hide hV
  have HVL := hide hVl
  have HA := hide ha
  have H0 := hide (And.intro xY (And.intro rY (And.intro cY iY)))
  have HY := hide hY
  rw [hm] at hl
  have hgB : gm < B0 := by omega
  rw [hB0] at hN
  subst hv
  clear hs hok ha hm hV hVl bY xY rY cY iY hY hrow hML hM
  go_enter Try.func46, Try.ntmps46
  go_wp2_with (rw [unhide HY])
  try rw [hB0]
  go_loopw [15, 7] (fun c o wr => ∃ t : Nat, t ≤ m ∧ c = .int .i64 t ∧ ∃ out M', wr.ownsRow B0 3 1 o out.length (out.flatMap nC) ∧ wr.heap[B0]? = some (.cells #[.map (some mb), .slice (some ⟨gm, 0, none⟩) n n] 79) ∧ wr.heap[gm]? = some (.cells (nV M') 3) ∧ Inv k n M out M' (fnd V (l.take t)) ∧ But gm w wr) (fun c _ _ => m - (intOf c).toNat)
  case atStart => exact ⟨0, by omega, rfl, [], M, own_nil _ _ _ _, (unhide H0).1, (unhide H0).2.1, (unhide H0).2.2.2, (unhide H0).2.2.1⟩
  case round =>
    obtain ⟨t, ht, rfl, out, M1, hor, k0, r0, hin, hch⟩ := hrel
    obtain ⟨oa, oc, eo⟩ := own_shape hor
    obtain ⟨on, hon⟩ : ∃ z, out.length = z := ⟨_, rfl⟩
    rw [hon] at eo
    subst eo
    by_cases hlt : t < m
    · have hnl := unhide HMm
      have htl : t < l.length := by omega
      obtain ⟨gb, ob, hao, g1, g2, g3⟩ := lock_cells (unhide HS wr hch) rfl htl
      subst hao
      obtain ⟨⟨⟨a, b⟩, d⟩, hx⟩ : ∃ k, l.getD t default = k := ⟨_, rfl⟩
      have hx' : l[t] = ((a, b), d) := by rw [← hx]; simp [List.getD, htl]
      rw [hx] at g1 g2 g3
      have hokx : OkK (a, b) := by have := unhide HOK _ (List.getElem_mem htl); rw [hx'] at this; exact this
      have htk : ∀ i, fnd V (l.take (t + 1)) i ↔ fnd V (l.take t) i ∨ i ∈ V (a, b) (!d) := fun i => by rw [List.take_succ_eq_append_getElem htl, hx', fnd_snoc]
      have haw := (unhide HA).but hch hg hmb
      obtain ⟨y1, hy1⟩ : ∃ y, wr.alloc (.cells #[.int .i32 a, .int .i64 b, .bool d] 39) = y := ⟨_, rfl⟩
      have b1 : Below wr.heap.size wr y1 := hy1 ▸ below_box _
      have x1 : y1.heap[wr.heap.size]? = some (.cells #[.int .i32 a, .int .i64 b, .bool d] 39) := by rw [← hy1]; exact heap_alloc_new wr _
      have k1 := (b1.block _ (Array.getElem?_eq_some_iff.1 k0).1).trans k0
      have r1 := (b1.block _ (Array.getElem?_eq_some_iff.1 r0).1).trans r0
      obtain ⟨a1, c1, e1⟩ := rows_shape haw.rows (a, b) false
      obtain ⟨a2, c2, e2⟩ := rows_shape haw.rows (a, b) true
      obtain ⟨n1, hn1⟩ : ∃ m, (V (a, b) false).length = m := ⟨_, rfl⟩
      obtain ⟨n2, hn2⟩ : ∃ m, (V (a, b) true).length = m := ⟨_, rfl⟩
      rw [hn1] at e1
      rw [hn2] at e2
      have hL := (haw.below b1).look a b hokx
      rw [e1, e2] at hL
      have hs1 : ∀ z, But gm w z → SeesL nC 1 z (.slice a1 n1 c1) (V (a, b) false) := fun z hz => e1 ▸ (own_sees nC_len (by decide) (((unhide HA).but hz hg hmb).rows.own (a, b) false)).2
      have hs2 : ∀ z, But gm w z → SeesL nC 1 z (.slice a2 n2 c2) (V (a, b) true) := fun z hz => e2 ▸ (own_sees nC_len (by decide) (((unhide HA).but hz hg hmb).rows.own (a, b) true)).2
      have l1 : y1.cell? ⟨B0, 0, none⟩ = some (.map (some mb)) := cell_at k1
      have l2 : y1.cell? ⟨wr.heap.size, 0, none⟩ = some (.int .i32 a) := cell_at x1
      have l3 : y1.cell? ⟨wr.heap.size, 1, none⟩ = some (.int .i64 b) := cell_at x1
      have l4 : y1.cell? ⟨wr.heap.size, 2, none⟩ = some (.bool d) := cell_at x1
      have hf0 : ∀ z, (Instr.field 102 (.agg #[.slice a1 n1 c1, .slice a2 n2 c2]) 0).run Try.prog z = .ok (.slice a1 n1 c1) z := fun z => by rfl
      have hf1 : ∀ z, (Instr.field 102 (.agg #[.slice a1 n1 c1, .slice a2 n2 c2]) 1).run Try.prog z = .ok (.slice a2 n2 c2) z := fun z => by rfl
      have o1 := own_below hor b1
      have ch1 := hch.below' b1
      have H1 := hide (And.intro o1 (And.intro k1 (And.intro r1 (And.intro hin ch1))))
      have HON := hide hon
      have HY1 := hide hy1
      have HTK := hide htk
      have HN12 := hide (And.intro hn1 hn2)
      have hn1l : n1 ≤ 1048576 := hn1 ▸ unhide HVL _ _
      have hn2l : n2 ≤ 1048576 := hn2 ▸ unhide HVL _ _
      have HS1 := hide hs1
      have HS2 := hide hs2
      clear hnl htl hx hx' hokx htk haw b1 x1 k1 r1 e1 e2 hn1 hn2 hs1 hs2 o1 ch1 hon hy1 hor k0 r0 hin hch
      cases d with
      | true =>
        go_wp2_with (rw [unhide HY1])
        go_loopw [35, 7] (fun c o wr => ∃ u : Nat, u ≤ n1 ∧ c = .int .i64 u ∧ ∃ out M', wr.ownsRow B0 3 1 o out.length (out.flatMap nC) ∧ wr.heap[B0]? = some (.cells #[.map (some mb), .slice (some ⟨gm, 0, none⟩) n n] 79) ∧ wr.heap[gm]? = some (.cells (nV M') 3) ∧ Inv k n M out M' (fun i => fnd V (l.take t) i ∨ i ∈ (V (a, b) false).take u) ∧ But gm w wr) (fun c _ _ => n1 - (intOf c).toNat)
        case atStart => exact ⟨0, by omega, rfl, out, M1, by rw [unhide HON]; have := (unhide H1).1; rw [unhide HON] at this; exact this, (unhide H1).2.1, (unhide H1).2.2.1, (unhide H1).2.2.2.1.imp (fun i => by simp), (unhide H1).2.2.2.2⟩
        case round =>
          obtain ⟨u, hu, rfl, out2, M2, hor, k0, r0, hin, hch⟩ := hrel
          obtain ⟨oa2, oc2, eo⟩ := own_shape hor
          obtain ⟨on2, hon2⟩ : ∃ z, out2.length = z := ⟨_, rfl⟩
          rw [hon2] at eo
          subst eo
          have honk : on2 ≤ k := hon2 ▸ nd_len k out2 hin.nodup (fun y hy => by
            rcases (hin.mem y).1 hy with ⟨x, hx, hy'⟩ | hy'
            · exact unhide HV _ _ _ hy'
            · exact unhide HV _ _ _ (List.mem_of_mem_take hy'))
          by_cases hlu : u < n1
          · have hnx := (unhide HN12).1
            have hul : u < (V (a, b) false).length := by omega
            obtain ⟨gw, ow, hwo, w0⟩ := int_cells (unhide HS1 wr hch) rfl hul
            subst hwo
            obtain ⟨j, hj, hjk⟩ : ∃ j : Nat, (V (a, b) false).getD u 0 = (j : Int) ∧ j < k := by
              obtain ⟨h0, h1⟩ := unhide HV (a, b) false ((V (a, b) false).getD u 0) (getD_mem' (α := Int) hul)
              exact ⟨((V (a, b) false).getD u 0).toNat, by omega, by omega⟩
            rw [hj] at w0
            have hset : ∀ i, (fnd V (l.take t) i ∨ i ∈ (V (a, b) false).take u) ∨ i = (j : Int) ↔ fnd V (l.take t) i ∨ i ∈ (V (a, b) false).take (u + 1) := fun i => by
              have e : (V (a, b) false)[u] = (j : Int) := by rw [← hj]; simp [List.getD, hul]
              rw [List.take_succ_eq_append_getElem hul, e, List.mem_append, List.mem_singleton, or_assoc]
            obtain ⟨mj, hmj⟩ : ∃ x, M2.getD j 0 = x := ⟨_, rfl⟩
            have hjm : j < M2.length := by have := hin.len; omega
            have cmet : wr.cell? ⟨gm, j, none⟩ = some (.int .i64 mj) := by
              rw [cell_at r0]
              exact nV_at _ (by rw [← hmj]; simp [List.getD, hjm])
            have fmet : wr.frozen? ⟨gm, j, none⟩ = false := frozen_of_heap r0
            have cb1 : wr.cell? ⟨B0, 1, none⟩ = some (.slice (some ⟨gm, 0, none⟩) n n) := cell_at k0
            have hjn : (j : Int) < (n : Int) := by omega
            have hjnN : j < n := by omega
            by_cases hmk : mj = (k : Int)
            · have HF := hide (And.intro hor (And.intro k0 (And.intro r0 (And.intro ((hin.skip hjk (hmj.trans hmk)).imp hset) hch))))
              subst hmk
              have hne : ((k : Int) != (k : Int)) = false := by simp
              have HU := hide hon2
              clear hnx hul hj hset hmj hjm hor k0 r0 hin hch hon2
              go_wp2
              go_roundw
              case rel => exact ⟨u + 1, by omega, by go_num, out2, M2, by have := (unhide HF).1; rw [unhide HU] at this ⊢; exact this, (unhide HF).2.1, (unhide HF).2.2.1, (unhide HF).2.2.2.1, (unhide HF).2.2.2.2⟩
              case measure => simp [intOf]; omega
            · have hne : (mj != (k : Int)) = true := by simpa using hmk
              obtain ⟨z1, hz1⟩ : ∃ z, wr.setCell ⟨gm, j, none⟩ (.int .i64 (k : Int)) = z := ⟨_, rfl⟩
              have bz1 : But gm wr z1 := hz1 ▸ (But.refl gm wr).setCell
              have oz1 := own_but2 bz1 hgB (Nat.le_refl _) hor
              have kz1 := (bz1.block _ (Array.getElem?_eq_some_iff.1 k0).1 (by omega)).trans k0
              have rz1 : z1.heap[gm]? = some (.cells (nV (M2.set j (k : Int))) 3) := by rw [← hz1, heap_setCell_same wr _ _ _ _ _ r0, nV_set]
              have cz1 : But gm w z1 := hch.trans bz1
              obtain ⟨Z, hZ⟩ : ∃ z, z1.alloc (.cells #[.int .i64 (j : Int)] 3) = z := ⟨_, rfl⟩
              have bZ : Below z1.heap.size z1 Z := hZ ▸ below_box _
              have hBz : B0 ≤ Z.heap.size := Nat.le_trans (hB0 ▸ cz1.size) bZ.size
              obtain ⟨v', y5, r5, o5, g5⟩ := append_ints 30 (own_below oz1 bZ) (sees_oneN' z1 (j : Int) hZ) (by rw [hon2]; simp only [List.length_cons, List.length_nil]; omega) hBz
              have k5 := box_gr' (by decide) (own_below oz1 bZ) g5 ((bZ.block _ (Array.getElem?_eq_some_iff.1 kz1).1).trans kz1)
              have hb5 : Below B0 Z y5 := (Below.refl _ _).grown g5 hBz (own_block_le (own_below oz1 bZ))
              have rr5 := (hb5.block gm hgB).trans ((bZ.block _ (Array.getElem?_eq_some_iff.1 rz1).1).trans rz1)
              have c5 : But gm w y5 := (cz1.below' bZ).low2 (hB0 ▸ hb5)
              have HF := hide (And.intro o5 (And.intro k5 (And.intro rr5 (And.intro ((hin.more hjk hkn (fun c => hmk (hmj.symm.trans c))).imp hset) c5))))
              have HR5 := hide r5
              have HZ := hide hZ
              have HZ1 := hide hz1
              have HU := hide hon2
              have kz1' : z1.cell? ⟨B0, 1, none⟩ = some (.slice (some ⟨gm, 0, none⟩) n n) := cell_at kz1
              clear hnx hul hj hset hmj hjm hor k0 r0 hin hch hmk bz1 oz1 kz1 rz1 cz1 bZ hBz o5 g5 k5 hb5 rr5 c5 r5 hZ hz1 hon2
              go_wp2_with (first | rw [unhide HZ1] | rw [unhide HZ] | (at_builtin; refine wpList_append_run rfl _ _ 30 30 rfl rfl rfl (unhide HR5) ?_))
              go_roundw
              case rel => exact ⟨u + 1, by omega, by go_num, out2 ++ [(j : Int)], M2.set j (k : Int), by have := (unhide HF).1; rw [List.length_append]; exact this, (unhide HF).2.1, (unhide HF).2.2.1, (unhide HF).2.2.2.1, (unhide HF).2.2.2.2⟩
              case measure => simp [intOf]; omega
          · obtain rfl : u = n1 := by omega
            have hnx := (unhide HN12).1
            rw [List.take_of_length_le (l := V (a, b) false) (i := u) (by omega)] at hin
            have hin2 : Inv k n M out2 M2 (fnd V (l.take (t + 1))) := hin.imp fun i => (unhide HTK i).symm
            by_cases hfull : on2 = k
            · subst hfull
              have hfin := hin2.full (unhide HV) hon2
              have hso := sort_any hor (by omega)
              rw [hon2] at hso
              have HSO := hide hso
              have HF := hide (And.intro r0 (And.intro hfin hch))
              have HU := hide hon2
              have heq : ((on2 : Int) == (on2 : Int)) = true := beq_self_eq_true _
              clear hnx hin hin2 hfin hso hor k0 r0 hch hon2
              go_wp2_with (go_at_call 63; refine (unhide HSO).mono ?_; rintro e w5 ⟨rfl, o5, b5⟩; have H5 := hide (And.intro o5 b5); clear o5 b5 HSO)
              go_ret
              exact ⟨oa2, oc2, out2, M2, by rw [unhide HU]; rfl, by rw [hB0, unhide HU]; exact (unhide H5).1, (unhide HF).2.1, ((unhide H5).2.block gm hgB).trans (unhide HF).1, (unhide HF).2.2.low2 (hB0 ▸ (unhide H5).2)⟩
            · have HF := hide (And.intro hor (And.intro k0 (And.intro r0 (And.intro hin2 hch))))
              have HU := hide hon2
              have heq : ((on2 : Int) == (k : Int)) = false := by simp; omega
              clear hnx hin hin2 hor k0 r0 hch hon2
              go_wp2
              go_roundw
              case rel => exact ⟨t + 1, by omega, by go_num, out2, M2, by have := (unhide HF).1; rw [unhide HU] at this ⊢; exact this, (unhide HF).2.1, (unhide HF).2.2.1, (unhide HF).2.2.2.1, (unhide HF).2.2.2.2⟩
              case measure => simp [intOf]; omega
      | false =>
        go_wp2_with (rw [unhide HY1])
        go_loopw [35, 7] (fun c o wr => ∃ u : Nat, u ≤ n2 ∧ c = .int .i64 u ∧ ∃ out M', wr.ownsRow B0 3 1 o out.length (out.flatMap nC) ∧ wr.heap[B0]? = some (.cells #[.map (some mb), .slice (some ⟨gm, 0, none⟩) n n] 79) ∧ wr.heap[gm]? = some (.cells (nV M') 3) ∧ Inv k n M out M' (fun i => fnd V (l.take t) i ∨ i ∈ (V (a, b) true).take u) ∧ But gm w wr) (fun c _ _ => n2 - (intOf c).toNat)
        case atStart => exact ⟨0, by omega, rfl, out, M1, by rw [unhide HON]; have := (unhide H1).1; rw [unhide HON] at this; exact this, (unhide H1).2.1, (unhide H1).2.2.1, (unhide H1).2.2.2.1.imp (fun i => by simp), (unhide H1).2.2.2.2⟩
        case round =>
          obtain ⟨u, hu, rfl, out2, M2, hor, k0, r0, hin, hch⟩ := hrel
          obtain ⟨oa2, oc2, eo⟩ := own_shape hor
          obtain ⟨on2, hon2⟩ : ∃ z, out2.length = z := ⟨_, rfl⟩
          rw [hon2] at eo
          subst eo
          have honk : on2 ≤ k := hon2 ▸ nd_len k out2 hin.nodup (fun y hy => by
            rcases (hin.mem y).1 hy with ⟨x, hx, hy'⟩ | hy'
            · exact unhide HV _ _ _ hy'
            · exact unhide HV _ _ _ (List.mem_of_mem_take hy'))
          by_cases hlu : u < n2
          · have hnx := (unhide HN12).2
            have hul : u < (V (a, b) true).length := by omega
            obtain ⟨gw, ow, hwo, w0⟩ := int_cells (unhide HS2 wr hch) rfl hul
            subst hwo
            obtain ⟨j, hj, hjk⟩ : ∃ j : Nat, (V (a, b) true).getD u 0 = (j : Int) ∧ j < k := by
              obtain ⟨h0, h1⟩ := unhide HV (a, b) true ((V (a, b) true).getD u 0) (getD_mem' (α := Int) hul)
              exact ⟨((V (a, b) true).getD u 0).toNat, by omega, by omega⟩
            rw [hj] at w0
            have hset : ∀ i, (fnd V (l.take t) i ∨ i ∈ (V (a, b) true).take u) ∨ i = (j : Int) ↔ fnd V (l.take t) i ∨ i ∈ (V (a, b) true).take (u + 1) := fun i => by
              have e : (V (a, b) true)[u] = (j : Int) := by rw [← hj]; simp [List.getD, hul]
              rw [List.take_succ_eq_append_getElem hul, e, List.mem_append, List.mem_singleton, or_assoc]
            obtain ⟨mj, hmj⟩ : ∃ x, M2.getD j 0 = x := ⟨_, rfl⟩
            have hjm : j < M2.length := by have := hin.len; omega
            have cmet : wr.cell? ⟨gm, j, none⟩ = some (.int .i64 mj) := by
              rw [cell_at r0]
              exact nV_at _ (by rw [← hmj]; simp [List.getD, hjm])
            have fmet : wr.frozen? ⟨gm, j, none⟩ = false := frozen_of_heap r0
            have cb1 : wr.cell? ⟨B0, 1, none⟩ = some (.slice (some ⟨gm, 0, none⟩) n n) := cell_at k0
            have hjn : (j : Int) < (n : Int) := by omega
            have hjnN : j < n := by omega
            by_cases hmk : mj = (k : Int)
            · have HF := hide (And.intro hor (And.intro k0 (And.intro r0 (And.intro ((hin.skip hjk (hmj.trans hmk)).imp hset) hch))))
              subst hmk
              have hne : ((k : Int) != (k : Int)) = false := by simp
              have HU := hide hon2
              clear hnx hul hj hset hmj hjm hor k0 r0 hin hch hon2
              go_wp2
              go_roundw
              case rel => exact ⟨u + 1, by omega, by go_num, out2, M2, by have := (unhide HF).1; rw [unhide HU] at this ⊢; exact this, (unhide HF).2.1, (unhide HF).2.2.1, (unhide HF).2.2.2.1, (unhide HF).2.2.2.2⟩
              case measure => simp [intOf]; omega
            · have hne : (mj != (k : Int)) = true := by simpa using hmk
              obtain ⟨z1, hz1⟩ : ∃ z, wr.setCell ⟨gm, j, none⟩ (.int .i64 (k : Int)) = z := ⟨_, rfl⟩
              have bz1 : But gm wr z1 := hz1 ▸ (But.refl gm wr).setCell
              have oz1 := own_but2 bz1 hgB (Nat.le_refl _) hor
              have kz1 := (bz1.block _ (Array.getElem?_eq_some_iff.1 k0).1 (by omega)).trans k0
              have rz1 : z1.heap[gm]? = some (.cells (nV (M2.set j (k : Int))) 3) := by rw [← hz1, heap_setCell_same wr _ _ _ _ _ r0, nV_set]
              have cz1 : But gm w z1 := hch.trans bz1
              obtain ⟨Z, hZ⟩ : ∃ z, z1.alloc (.cells #[.int .i64 (j : Int)] 3) = z := ⟨_, rfl⟩
              have bZ : Below z1.heap.size z1 Z := hZ ▸ below_box _
              have hBz : B0 ≤ Z.heap.size := Nat.le_trans (hB0 ▸ cz1.size) bZ.size
              obtain ⟨v', y5, r5, o5, g5⟩ := append_ints 30 (own_below oz1 bZ) (sees_oneN' z1 (j : Int) hZ) (by rw [hon2]; simp only [List.length_cons, List.length_nil]; omega) hBz
              have k5 := box_gr' (by decide) (own_below oz1 bZ) g5 ((bZ.block _ (Array.getElem?_eq_some_iff.1 kz1).1).trans kz1)
              have hb5 : Below B0 Z y5 := (Below.refl _ _).grown g5 hBz (own_block_le (own_below oz1 bZ))
              have rr5 := (hb5.block gm hgB).trans ((bZ.block _ (Array.getElem?_eq_some_iff.1 rz1).1).trans rz1)
              have c5 : But gm w y5 := (cz1.below' bZ).low2 (hB0 ▸ hb5)
              have HF := hide (And.intro o5 (And.intro k5 (And.intro rr5 (And.intro ((hin.more hjk hkn (fun c => hmk (hmj.symm.trans c))).imp hset) c5))))
              have HR5 := hide r5
              have HZ := hide hZ
              have HZ1 := hide hz1
              have HU := hide hon2
              have kz1' : z1.cell? ⟨B0, 1, none⟩ = some (.slice (some ⟨gm, 0, none⟩) n n) := cell_at kz1
              clear hnx hul hj hset hmj hjm hor k0 r0 hin hch hmk bz1 oz1 kz1 rz1 cz1 bZ hBz o5 g5 k5 hb5 rr5 c5 r5 hZ hz1 hon2
              go_wp2_with (first | rw [unhide HZ1] | rw [unhide HZ] | (at_builtin; refine wpList_append_run rfl _ _ 30 30 rfl rfl rfl (unhide HR5) ?_))
              go_roundw
              case rel => exact ⟨u + 1, by omega, by go_num, out2 ++ [(j : Int)], M2.set j (k : Int), by have := (unhide HF).1; rw [List.length_append]; exact this, (unhide HF).2.1, (unhide HF).2.2.1, (unhide HF).2.2.2.1, (unhide HF).2.2.2.2⟩
              case measure => simp [intOf]; omega
          · obtain rfl : u = n2 := by omega
            have hnx := (unhide HN12).2
            rw [List.take_of_length_le (l := V (a, b) true) (i := u) (by omega)] at hin
            have hin2 : Inv k n M out2 M2 (fnd V (l.take (t + 1))) := hin.imp fun i => (unhide HTK i).symm
            by_cases hfull : on2 = k
            · subst hfull
              have hfin := hin2.full (unhide HV) hon2
              have hso := sort_any hor (by omega)
              rw [hon2] at hso
              have HSO := hide hso
              have HF := hide (And.intro r0 (And.intro hfin hch))
              have HU := hide hon2
              have heq : ((on2 : Int) == (on2 : Int)) = true := beq_self_eq_true _
              clear hnx hin hin2 hfin hso hor k0 r0 hch hon2
              go_wp2_with (go_at_call 63; refine (unhide HSO).mono ?_; rintro e w5 ⟨rfl, o5, b5⟩; have H5 := hide (And.intro o5 b5); clear o5 b5 HSO)
              go_ret
              exact ⟨oa2, oc2, out2, M2, by rw [unhide HU]; rfl, by rw [hB0, unhide HU]; exact (unhide H5).1, (unhide HF).2.1, ((unhide H5).2.block gm hgB).trans (unhide HF).1, (unhide HF).2.2.low2 (hB0 ▸ (unhide H5).2)⟩
            · have HF := hide (And.intro hor (And.intro k0 (And.intro r0 (And.intro hin2 hch))))
              have HU := hide hon2
              have heq : ((on2 : Int) == (k : Int)) = false := by simp; omega
              clear hnx hin hin2 hor k0 r0 hch hon2
              go_wp2
              go_roundw
              case rel => exact ⟨t + 1, by omega, by go_num, out2, M2, by have := (unhide HF).1; rw [unhide HU] at this ⊢; exact this, (unhide HF).2.1, (unhide HF).2.2.1, (unhide HF).2.2.2.1, (unhide HF).2.2.2.2⟩
              case measure => simp [intOf]; omega
    · obtain rfl : t = m := by omega
      have hnl := unhide HMm
      rw [List.take_of_length_le (by omega)] at hin
      have honk : on ≤ k := hon ▸ nd_len k out hin.nodup (fun y hy => by
        obtain ⟨x, hx, hy'⟩ := (hin.mem y).1 hy
        exact unhide HV _ _ _ hy')
      have hso := sort_any hor (by omega)
      rw [hon] at hso
      have HSO := hide hso
      have HF := hide (And.intro r0 (And.intro hin hch))
      have HU := hide hon
      clear hnl hin hso hor k0 r0 hch hon
      go_wp2_with (go_at_call 63; refine (unhide HSO).mono ?_; rintro e w5 ⟨rfl, o5, b5⟩; have H5 := hide (And.intro o5 b5); clear o5 b5 HSO)
      go_ret
      exact ⟨oa, oc, out, M1, by rw [unhide HU]; rfl, by rw [hB0, unhide HU]; exact (unhide H5).1, (unhide HF).2.1, ((unhide H5).2.block gm hgB).trans (unhide HF).1, (unhide HF).2.2.low2 (hB0 ▸ (unhide H5).2)⟩
end Go.Proofs.Ytibjhjkeflbghaa
