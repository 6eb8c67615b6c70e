/- A place put behind those that want its keys. -/
import Derived.Test.YtibjhjkeflbghaaU0
namespace Go.Proofs.Ytibjhjkeflbghaa
open Go.RowKit
set_option maxRecDepth 100000

theorem rows_shape {N : Nat} {w : World} {S : Ky → Bool → Value} {V : Ky → Bool → List Int} (h : Rows N w S V) (k : Ky) (d : Bool) : ∃ a c, S k d = .slice a (V k d).length c := own_shape (h.own k d)
theorem add1_len (V : Ky → Bool → List Int) (i : Int) (x : Lk) (k : Ky) (d : Bool) : (add1 V i x k d).length ≤ (V k d).length + 1 := by
  unfold add1
  split <;> simp
theorem addL_len (V : Ky → Bool → List Int) (i : Int) (k : Ky) (d : Bool) : ∀ (l : List Lk), UnL l → (l.map (·.1)).Nodup → (addL V i l k d).length ≤ (V k d).length + 1 := fun l hu hn => by
  have h0 : ∀ (l : List Lk) (V : Ky → Bool → List Int), k ∉ l.map (·.1) → addL V i l k d = V k d := fun l => by
    induction l with
    | nil => intro V _; rfl
    | cons x r ih =>
      intro V h
      rw [List.map_cons, List.mem_cons] at h
      show addL (add1 V i x) i r k d = V k d
      rw [ih _ (fun c => h (.inr c))]
      unfold add1
      rw [if_neg (fun c => h (.inl c.1))]
  have : ∀ (l : List Lk) (V : Ky → Bool → List Int), (l.map (·.1)).Nodup → (addL V i l k d).length ≤ (V k d).length + 1 := fun l => by
    induction l with
    | nil => intro V _; exact Nat.le_succ _
    | cons x r ih =>
      intro V h
      rw [List.map_cons, List.nodup_cons] at h
      show (addL (add1 V i x) i r k d).length ≤ _
      by_cases e : k = x.1
      · rw [h0 r _ (e ▸ h.1)]
        exact add1_len V i x k d
      · have := ih (add1 V i x) h.2
        have e2 : add1 V i x k d = V k d := by unfold add1; rw [if_neg (fun c => e c.1)]
        rw [e2] at this
        exact this
  exact this l V hn
theorem lks_nodup (R W : List Ky) : ((lks R W).map (·.1)).Nodup := by
  unfold lks
  rw [List.map_map]
  have : ((fun x : Lk => x.1) ∘ fun k : Ky => (k, decide (k ∈ W))) = id := rfl
  rw [this, List.map_id]
  exact (srt_rises _).imp fun h e => by subst e; exact ltK_irrefl _ h

theorem Rows.box {N b : Nat} {z y : World} {S : Ky → Bool → Value} {V : Ky → Bool → List Int} {cs : Array Value} {T : TypeId} (hT : T ≠ 3) (hz : z.heap[b]? = some (.cells cs T)) (hb : ∀ j, j ≠ b → y.heap[j]? = z.heap[j]?) (h : Rows N z S V) : Rows N y S V := by
  refine ⟨fun k d => ?_, h.ap⟩
  have ho := h.own k d
  refine ⟨ho.1, ?_⟩
  rcases ho.2 with hn | ⟨g', cap', cur, hv', hb', hh, r⟩
  · exact .inl hn
  · refine .inr ⟨g', cap', cur, hv', hb', (hb g' (fun e' => ?_)).trans hh, r⟩
    subst e'
    rw [hz] at hh
    simp only [Option.some.injEq, Obj.cells.injEq] at hh
    exact hT hh.2.1
theorem add1_yes (V : Ky → Bool → List Int) (i : Int) (k0 : Ky) : upS (upS V k0 false (V k0 false ++ [i])) k0 true (V k0 true ++ [i]) = add1 V i (k0, true) := by
  funext k d
  unfold upS add1
  by_cases e : k = k0
  · subst e; cases d <;> simp
  · simp [e]
theorem add1_no (V : Ky → Bool → List Int) (i : Int) (k0 : Ky) : upS V k0 false (V k0 false ++ [i]) = add1 V i (k0, false) := by
  funext k d
  unfold upS add1
  by_cases e : k = k0
  · subst e; cases d <;> simp
  · simp [e]

set_option maxHeartbeats 3200000 in
theorem add_any {v : Value} {l : List Lk} {N mb : Nat} {S : Ky → Bool → Value} {V : Ky → Bool → List Int} {w : World} (i : Int) (mv : Value) (hmv : ∃ a n c, mv = .slice a n c) (hs : ∀ z, Ch N mb w z → SeesL lC 3 z v l) (hok : ∀ x ∈ l, OkK x.1) (ha : Asks N w mb S V) (hN : N ≤ w.heap.size) (hmN : mb < N) (hl : l.length ≤ 4398046511104) (hV : ∀ k d t, (addL V i (l.take t) k d).length ≤ 1048576) :
    Calls Try.prog 47 #[.agg #[.map (some mb), mv], .int .i64 i, v] w fun e w' => e = .returned (.tuple #[]) ∧ (∃ S', Asks N w' mb S' (addL V i l)) ∧ Ch N mb w w' := by
  obtain ⟨ma, mn, mc, rfl⟩ := hmv
  obtain ⟨ao, cap, hv⟩ := (hs w (Ch.refl _ _ _)).shape
  obtain ⟨n, hn⟩ : ∃ n, l.length = n := ⟨_, rfl⟩
  rw [hn] at hv
  obtain ⟨B0, hB0⟩ : ∃ b, w.heap.size = b := ⟨_, rfl⟩
  obtain ⟨Y, hY⟩ : ∃ z, w.alloc (.cells #[.map (some mb), .slice ma mn mc] 79) = z := ⟨_, rfl⟩
  have bY : Below w.heap.size w Y := hY ▸ below_box _
  have xY : Y.heap[B0]? = some (.cells #[.map (some mb), .slice ma mn mc] 79) := by rw [← hY, ← hB0]; exact heap_alloc_new w _
  have aY := ha.below bY
  have cY : Ch N mb w Y := (Ch.refl _ _ _).below (bY.mono hN)
  have HS := hide hs
  have HOK := hide hok
  have HN := hide hn
  have HV := hide hV
  have H0 := hide (And.intro xY (And.intro aY cY))
  have HY := hide hY
  rw [hn] at hl
  rw [hB0] at hN
  subst hv
  clear hs hok ha hn hV bY xY aY cY hY
  go_enter Try.func47, Try.ntmps47
  go_wp2_with (rw [unhide HY])
  try rw [hB0]
  go_loopw [11] (fun c wr => ∃ t : Nat, t ≤ n ∧ c = .int .i64 t ∧ wr.heap[B0]? = some (.cells #[.map (some mb), .slice ma mn mc] 79) ∧ (∃ S', Asks N wr mb S' (addL V i (l.take t))) ∧ Ch N mb w wr) (fun c _ => n - (intOf c).toNat)
  case atStart => exact ⟨0, by omega, rfl, (unhide H0).1, ⟨S, (unhide H0).2.1⟩, (unhide H0).2.2⟩
  case round =>
    obtain ⟨t, ht, rfl, k0, ⟨S1, ha⟩, hch⟩ := hrel
    by_cases hlt : t < n
    · have hnl := unhide HN
      have htl : t < l.length := by omega
      obtain ⟨gb, ob, hao, g1, g2, g3⟩ := lock_cells (unhide HS wr hch) rfl htl
      subst hao
      obtain ⟨⟨⟨a, b⟩, d⟩, hx⟩ : ∃ k, l.getD t default = k := ⟨_, rfl⟩
      have hx' : l[t] = ((a, b), d) := by rw [← hx]; simp [List.getD, htl]
      rw [hx] at g1 g2 g3
      have hokx : OkK (a, b) := by have := unhide HOK _ (List.getElem_mem htl); rw [hx'] at this; exact this
      have htk : addL V i (l.take (t + 1)) = add1 (addL V i (l.take t)) i ((a, b), d) := by rw [List.take_succ_eq_append_getElem htl, hx', addL_snoc]
      have hlen := fun k d => unhide HV k d t
      obtain ⟨V1, hV1⟩ : ∃ x, addL V i (l.take t) = x := ⟨_, rfl⟩
      rw [hV1] at ha htk
      simp only [hV1] at hlen
      have hNr : N ≤ wr.heap.size := Nat.le_trans hN (hB0 ▸ hch.size)
      have hBr : B0 < wr.heap.size := (Array.getElem?_eq_some_iff.1 k0).1
      obtain ⟨a1, c1, e1⟩ := rows_shape ha.rows (a, b) false
      obtain ⟨a2, c2, e2⟩ := rows_shape ha.rows (a, b) true
      obtain ⟨n1, hn1⟩ : ∃ m, (V1 (a, b) false).length = m := ⟨_, rfl⟩
      obtain ⟨n2, hn2⟩ : ∃ m, (V1 (a, b) true).length = m := ⟨_, rfl⟩
      have hn1l : n1 ≤ 1048576 := hn1 ▸ hlen _ _
      have hn2l : n2 ≤ 1048576 := hn2 ▸ hlen _ _
      rw [hn1] at e1
      rw [hn2] at e2
      obtain ⟨y1, hy1⟩ : ∃ y, wr.alloc (.cells #[.int .i32 a, .int .i64 b, .bool d] 39) = y := ⟨_, rfl⟩
      obtain ⟨y2, hy2⟩ : ∃ y, y1.alloc (.cells #[.slice a1 n1 c1, .slice a2 n2 c2] 102) = y := ⟨_, rfl⟩
      have b1 : Below wr.heap.size wr y1 := hy1 ▸ below_box _
      have z1 : y1.heap.size = wr.heap.size + 1 := by rw [← hy1]; simp
      have b2 : Below y1.heap.size y1 y2 := hy2 ▸ below_box _
      have x1 : y1.heap[wr.heap.size]? = some (.cells #[.int .i32 a, .int .i64 b, .bool d] 39) := by rw [← hy1]; exact heap_alloc_new wr _
      have k1 := (b1.block _ hBr).trans k0
      have x2 := (b2.block _ (by omega)).trans x1
      have k2 := (b2.block _ (by omega)).trans k1
      have u2 : y2.heap[y1.heap.size]? = some (.cells #[.slice a1 n1 c1, .slice a2 n2 c2] 102) := by rw [← hy2]; exact heap_alloc_new y1 _
      have hL := (ha.below b1).look a b hokx
      rw [e1, e2] at hL
      have r2 : Rows N y2 S1 V1 := (ha.rows.below b1).below b2
      obtain ⟨f, hf, hfd⟩ := ha.map
      have m2 : MapS y2 mb f := (hf.below b1).below b2
      have hN2 : N ≤ y2.heap.size := Nat.le_trans hNr (Nat.le_trans b1.size b2.size)
      have ch2 : Ch N mb w y2 := (hch.below (b1.mono hNr)).below (b2.mono (Nat.le_trans hNr b1.size))
      obtain ⟨Z1, hZ1⟩ : ∃ z, y2.alloc (.cells #[.int .i64 i] 3) = z := ⟨_, rfl⟩
      have bZ1 : Below y2.heap.size y2 Z1 := hZ1 ▸ below_box _
      obtain ⟨p1, q1, y3, run1, R3, g3', o3, bl3⟩ := r2.app (a, b) false hn1 hn1l hZ1 hN2
      rw [e1] at run1
      have low : ∀ {j : Nat} {o : Obj}, y2.heap[j]? = some o → Z1.heap[j]? = some o := fun {j o} h => (bZ1.block _ (Array.getElem?_eq_some_iff.1 h).1).trans h
      have x3 := box_gr' (by decide) o3 g3' (low x2)
      have k3 := box_gr' (by decide) o3 g3' (low k2)
      have u3 := box_gr' (by decide) o3 g3' (low u2)
      have m3 : MapS y3 mb f := map_gr o3 g3' (m2.below bZ1)
      obtain ⟨y4, hy4⟩ : ∃ y, y3.setCell ⟨y1.heap.size, 0, none⟩ (.slice p1 (n1 + 1) q1) = y := ⟨_, rfl⟩
      have far4 : ∀ j, j ≠ y1.heap.size → y4.heap[j]? = y3.heap[j]? := fun j hj => hy4 ▸ setCell_far hj
      have x4 := (far4 _ (by omega)).trans x3
      have k4 := (far4 _ (by omega)).trans k3
      have u4 : y4.heap[y1.heap.size]? = some (.cells #[.slice p1 (n1 + 1) q1, .slice a2 n2 c2] 102) := by rw [← hy4, heap_setCell_same y3 _ _ _ _ _ u3]; rfl
      have m4 : MapS y4 mb f := m3.keep (far4 _ (by omega))
      have R4 : Rows N y4 (upS S1 (a, b) false (.slice p1 (n1 + 1) q1)) (upS V1 (a, b) false (V1 (a, b) false ++ [i])) := R3.box (by decide) u3 far4
      have bl4 : Below N y3 y4 := hy4 ▸ (Below.refl _ _).setCell (by show N ≤ y1.heap.size; omega) _
      have ch4 : Ch N mb w y4 := (ch2.below bl3).below bl4
      have hN4 : N ≤ y4.heap.size := Nat.le_trans hN (hB0 ▸ ch4.size)
      have l1 : y1.cell? ⟨B0, 0, none⟩ = some (.map (some mb)) := cell_at k1
      have l2 : y1.cell? ⟨wr.heap.size, 0, none⟩ = some (.int .i32 a) := cell_at x1
      have l3 : y1.cell? ⟨wr.heap.size, 1, none⟩ = some (.int .i64 b) := cell_at x1
      have l4 : y2.cell? ⟨y1.heap.size, 0, none⟩ = some (.slice a1 n1 c1) := cell_at u2
      have l5 : y3.cell? ⟨y1.heap.size, 0, none⟩ = some (.slice a1 n1 c1) := cell_at u3
      have l6 : y3.frozen? ⟨y1.heap.size, 0, none⟩ = false := frozen_of_heap u3
      have l7 : y4.cell? ⟨wr.heap.size, 2, none⟩ = some (.bool d) := cell_at x4
      have HR1 := hide run1
      have HZ1 := hide hZ1
      have HY1 := hide hy1
      have HTK := hide htk
      cases d with
      | true =>
        obtain ⟨Z2, hZ2⟩ : ∃ z, y4.alloc (.cells #[.int .i64 i] 3) = z := ⟨_, rfl⟩
        have bZ2 : Below y4.heap.size y4 Z2 := hZ2 ▸ below_box _
        have eS : upS S1 (a, b) false (.slice p1 (n1 + 1) q1) (a, b) true = .slice a2 n2 c2 := by rw [upS_other _ _ (by simp)]; exact e2
        have eV : upS V1 (a, b) false (V1 (a, b) false ++ [i]) (a, b) true = V1 (a, b) true := upS_other _ _ (by simp)
        obtain ⟨p2, q2, y5, run2, R5, g5, o5, bl5⟩ := R4.app (a, b) true (by rw [eV]; exact hn2) hn2l hZ2 hN4
        rw [eS] at run2
        rw [eV] at R5
        have low2 : ∀ {j : Nat} {o : Obj}, y4.heap[j]? = some o → Z2.heap[j]? = some o := fun {j o} h => (bZ2.block _ (Array.getElem?_eq_some_iff.1 h).1).trans h
        have x5 := box_gr' (by decide) o5 g5 (low2 x4)
        have k5 := box_gr' (by decide) o5 g5 (low2 k4)
        have u5 := box_gr' (by decide) o5 g5 (low2 u4)
        have m5 : MapS y5 mb f := map_gr o5 g5 (m4.below bZ2)
        obtain ⟨y6, hy6⟩ : ∃ y, y5.setCell ⟨y1.heap.size, 1, none⟩ (.slice p2 (n2 + 1) q2) = y := ⟨_, rfl⟩
        have far6 : ∀ j, j ≠ y1.heap.size → y6.heap[j]? = y5.heap[j]? := fun j hj => hy6 ▸ setCell_far hj
        have x6 := (far6 _ (by omega)).trans x5
        have k6 := (far6 _ (by omega)).trans k5
        have u6 : y6.heap[y1.heap.size]? = some (.cells #[.slice p1 (n1 + 1) q1, .slice p2 (n2 + 1) q2] 102) := by rw [← hy6, heap_setCell_same y5 _ _ _ _ _ u5]; rfl
        have m6 : MapS y6 mb f := m5.keep (far6 _ (by omega))
        have R6 := R5.box (by decide) u5 far6
        have bl6 : Below N y5 y6 := hy6 ▸ (Below.refl _ _).setCell (by show N ≤ y1.heap.size; omega) _
        have ch6 : Ch N mb w y6 := (ch4.below bl5).below bl6
        obtain ⟨y7, run7, A7, o7, s7, t1, t2, t3⟩ := Asks.put m6 hfd R6 a b hokx (fun k d hk => by rw [upS_other _ _ (fun c => hk c.1), upS_other _ _ (fun c => hk c.1)])
        rw [upS_same, upS_other _ _ (by simp), upS_same] at run7
        rw [add1_yes, ← unhide HTK] at A7
        have k7 := (o7 B0 (by omega)).trans k6
        have l8 : y4.cell? ⟨y1.heap.size, 1, none⟩ = some (.slice a2 n2 c2) := cell_at u4
        have l9 : y5.cell? ⟨y1.heap.size, 1, none⟩ = some (.slice a2 n2 c2) := cell_at u5
        have l10 : y5.frozen? ⟨y1.heap.size, 1, none⟩ = false := frozen_of_heap u5
        have l11 : y6.cell? ⟨B0, 0, none⟩ = some (.map (some mb)) := cell_at k6
        have l12 : y6.cell? ⟨wr.heap.size, 0, none⟩ = some (.int .i32 a) := cell_at x6
        have l13 : y6.cell? ⟨wr.heap.size, 1, none⟩ = some (.int .i64 b) := cell_at x6
        have l14 : y6.cell? ⟨y1.heap.size, 0, none⟩ = some (.slice p1 (n1 + 1) q1) := cell_at u6
        have l15 : y6.cell? ⟨y1.heap.size, 1, none⟩ = some (.slice p2 (n2 + 1) q2) := cell_at u6
        have HF := hide (And.intro k7 (And.intro A7 (ch6.put o7 s7 t1 t2 t3)))
        have HR2 := hide run2
        have HZ2 := hide hZ2
        clear hnl hx hx' hokx htk htl hlen hV1 hNr hBr e1 e2 hn1 hn2 hn1l hn2l b1 z1 b2 x1 k1 x2 k2 u2 r2 hf hfd m2 hN2 ch2 bZ1 run1 R3 g3' o3 bl3 low x3 k3 u3 m3 far4 x4 k4 u4 m4 R4 bl4 ch4 hN4 hZ1 ha hch k0 bZ2 eS eV run2 R5 g5 o5 bl5 low2 x5 k5 u5 m5 far6 x6 k6 u6 m6 R6 bl6 ch6 A7 o7 s7 t1 t2 t3 k7 hZ2 hy1
        go_wp2_with (first | rw [unhide HY1] | rw [hy2] | rw [unhide HZ1] | (at_builtin; refine wpList_append_run rfl _ _ 30 30 rfl rfl rfl (unhide HR1) ?_) | rw [hy4] | rw [unhide HZ2] | (at_builtin; refine wpList_append_run rfl _ _ 30 30 rfl rfl rfl (unhide HR2) ?_) | rw [hy6])
        go_roundw
        case rel => exact ⟨t + 1, by omega, by go_num, (unhide HF).1, ⟨_, (unhide HF).2.1⟩, (unhide HF).2.2⟩
        case measure => simp [intOf]; omega
      | false =>
        obtain ⟨y7, run7, A7, o7, s7, t1, t2, t3⟩ := Asks.put m4 hfd R4 a b hokx (fun k d hk => upS_other _ _ (fun c => hk c.1))
        rw [upS_same, upS_other _ _ (by simp), e2] at run7
        rw [add1_no, ← unhide HTK] at A7
        have k7 := (o7 B0 (by omega)).trans k4
        have l11 : y4.cell? ⟨B0, 0, none⟩ = some (.map (some mb)) := cell_at k4
        have l12 : y4.cell? ⟨wr.heap.size, 0, none⟩ = some (.int .i32 a) := cell_at x4
        have l13 : y4.cell? ⟨wr.heap.size, 1, none⟩ = some (.int .i64 b) := cell_at x4
        have l14 : y4.cell? ⟨y1.heap.size, 0, none⟩ = some (.slice p1 (n1 + 1) q1) := cell_at u4
        have l15 : y4.cell? ⟨y1.heap.size, 1, none⟩ = some (.slice a2 n2 c2) := cell_at u4
        have HF := hide (And.intro k7 (And.intro A7 (ch4.put o7 s7 t1 t2 t3)))
        clear hnl hx hx' hokx htk htl hlen hV1 hNr hBr e1 e2 hn1 hn2 hn1l hn2l b1 z1 b2 x1 k1 x2 k2 u2 r2 hf hfd m2 hN2 ch2 bZ1 run1 R3 g3' o3 bl3 low x3 k3 u3 m3 far4 x4 k4 u4 m4 R4 bl4 ch4 hN4 hZ1 ha hch k0 A7 o7 s7 t1 t2 t3 k7 hy1
        go_wp2_with (first | rw [unhide HY1] | rw [hy2] | rw [unhide HZ1] | (at_builtin; refine wpList_append_run rfl _ _ 30 30 rfl rfl rfl (unhide HR1) ?_) | rw [hy4])
        go_roundw
        case rel => exact ⟨t + 1, by omega, by go_num, (unhide HF).1, ⟨_, (unhide HF).2.1⟩, (unhide HF).2.2⟩
        case measure => simp [intOf]; omega
    · obtain rfl : t = n := by omega
      have hnl := unhide HN
      rw [List.take_of_length_le (by omega)] at ha
      have HF := hide (And.intro ha hch)
      clear hnl ha hch k0
      go_wp2
      go_end0
      exact ⟨rfl, ⟨_, (unhide HF).1⟩, (unhide HF).2⟩
end Go.Proofs.Ytibjhjkeflbghaa
