/- Clash: the program's. -/
import Derived.Test.YtibjhjkeflbghaaL7
namespace Go.Proofs.Ytibjhjkeflbghaa
open Go.RowKit
set_option maxRecDepth 100000

/-- What a map of locks says of a key. -/
def lkF (l : List Lk) : Ky → Option Bool := fun k => l.foldl (fun o y => if k = y.1 then some y.2 else o) none
theorem lkF_snoc (l : List Lk) (y : Lk) (k : Ky) : lkF (l ++ [y]) k = if k = y.1 then some y.2 else lkF l k := by simp [lkF]
def lkM (l : List Lk) : Ky → Option Value := fun k => (lkF l k).map fun d => .agg #[.int .i32 k.1, .int .i64 k.2, .bool d]
theorem lkM_snoc (l : List Lk) (a b : Int) (d : Bool) : putF (lkM l) (a, b) (.agg #[.int .i32 a, .int .i64 b, .bool d]) = lkM (l ++ [((a, b), d)]) := funext fun k => by
  unfold putF lkM
  rw [lkF_snoc]
  by_cases h : k = (a, b)
  · subst h; simp
  · simp [h]
theorem lkM_nil : lkM [] = fun _ => none := funext fun _ => rfl
/-- Whether a lock stands in the way of those that a map holds. -/
def hit (B : List Lk) (x : Lk) : Bool := match lkF B x.1 with
  | none => false
  | some e => x.2 || e
def clashP (A B : List Lk) : Bool := A.any (hit B)
theorem Try.under85 : Try.prog.underlying 85 = some (.map 37 39) := by kernel_rfl

set_option maxHeartbeats 6400000 in
theorem clash_any {x y : Tx} {w : World} (hx : SeesX w x) (hy : SeesX w y) (hsx : Short x) (hsy : Short y) : Calls Try.prog 28 #[xV x, xV y] w fun e w' => e = .returned (.bool (clashP (lkX x) (lkX y))) ∧ Below w.heap.size w w' := by
  obtain ⟨⟨ac0, nc0, cc0, hc0⟩, ⟨aa0, na0, ca0, ha0⟩⟩ := And.intro hx.shc hx.sha
  obtain ⟨ar0, cr0, hr0⟩ := hx.rs.shape
  obtain ⟨aw0, cw0, hw0⟩ := hx.ws.shape
  obtain ⟨nr0, hnr0⟩ : ∃ z, x.rs.length = z := ⟨_, rfl⟩
  obtain ⟨nw0, hnw0⟩ : ∃ z, x.ws.length = z := ⟨_, rfl⟩
  obtain ⟨s0, hs0⟩ : ∃ z, x.s = z := ⟨_, rfl⟩
  obtain ⟨r0, hrr0⟩ : ∃ z, x.r = z := ⟨_, rfl⟩
  rw [hnr0] at hr0
  rw [hnw0] at hw0
  have hxV0 : xV x = .agg #[.int .i64 s0, .int .i64 r0, .slice ac0 nc0 cc0, .slice aa0 na0 ca0, .slice ar0 nr0 cr0, .slice aw0 nw0 cw0] := by unfold xV; rw [hc0, ha0, hr0, hw0, hs0, hrr0]
  obtain ⟨⟨ac1, nc1, cc1, hc1⟩, ⟨aa1, na1, ca1, ha1⟩⟩ := And.intro hy.shc hy.sha
  obtain ⟨ar1, cr1, hr1⟩ := hy.rs.shape
  obtain ⟨aw1, cw1, hw1⟩ := hy.ws.shape
  obtain ⟨nr1, hnr1⟩ : ∃ z, y.rs.length = z := ⟨_, rfl⟩
  obtain ⟨nw1, hnw1⟩ : ∃ z, y.ws.length = z := ⟨_, rfl⟩
  obtain ⟨s1, hs1⟩ : ∃ z, y.s = z := ⟨_, rfl⟩
  obtain ⟨r1, hrr1⟩ : ∃ z, y.r = z := ⟨_, rfl⟩
  rw [hnr1] at hr1
  rw [hnw1] at hw1
  have hxV1 : xV y = .agg #[.int .i64 s1, .int .i64 r1, .slice ac1 nc1 cc1, .slice aa1 na1 ca1, .slice ar1 nr1 cr1, .slice aw1 nw1 cw1] := by unfold xV; rw [hc1, ha1, hr1, hw1, hs1, hrr1]
  obtain ⟨Y0, hY0⟩ : ∃ z, w.alloc (.cells #[.int .i64 s0, .int .i64 r0, .slice ac0 nc0 cc0, .slice aa0 na0 ca0, .slice ar0 nr0 cr0, .slice aw0 nw0 cw0] 26) = z := ⟨_, rfl⟩
  obtain ⟨Y1, hY1⟩ : ∃ z, Y0.alloc (.cells #[.int .i64 s1, .int .i64 r1, .slice ac1 nc1 cc1, .slice aa1 na1 ca1, .slice ar1 nr1 cr1, .slice aw1 nw1 cw1] 26) = z := ⟨_, rfl⟩
  obtain ⟨Y, hY⟩ : ∃ z, Y1.alloc (.map #[] 0) = z := ⟨_, rfl⟩
  have b0 : Below w.heap.size w Y0 := hY0 ▸ below_box _
  have z0 : Y0.heap.size = w.heap.size + 1 := by rw [← hY0]; simp
  have z1 : Y1.heap.size = Y0.heap.size + 1 := by rw [← hY1]; simp
  have b1 : Below w.heap.size w Y1 := hY1 ▸ b0.alloc b0.size _
  have bY : Below w.heap.size w Y := hY ▸ b1.alloc b1.size _
  have x0 : Y.heap[w.heap.size]? = some (.cells #[.int .i64 s0, .int .i64 r0, .slice ac0 nc0 cc0, .slice aa0 na0 ca0, .slice ar0 nr0 cr0, .slice aw0 nw0 cw0] 26) := by rw [← hY]; exact (Below.heap_alloc Y1 _ _ (by omega)).trans (hY1 ▸ (Below.heap_alloc Y0 _ _ (by omega)).trans (hY0 ▸ heap_alloc_new w _))
  have x1 : Y.heap[Y0.heap.size]? = some (.cells #[.int .i64 s1, .int .i64 r1, .slice ac1 nc1 cc1, .slice aa1 na1 ca1, .slice ar1 nr1 cr1, .slice aw1 nw1 cw1] 26) := by rw [← hY]; exact (Below.heap_alloc Y1 _ _ (by omega)).trans (hY1 ▸ heap_alloc_new Y0 _)
  have mY : MapS Y Y1.heap.size (lkM []) := by rw [lkM_nil, ← hY]; exact MapS.start Y1
  have hmk : (Instr.makeMap 85 none).run Try.prog Y1 = .ok (.map (some Y1.heap.size)) Y := by rw [← hY]; rfl
  obtain ⟨mb, hmb⟩ : ∃ m, Y1.heap.size = m := ⟨_, rfl⟩
  rw [hmb] at mY hmk
  have HB : Hid (∀ z, But mb Y z → z.heap[w.heap.size]? = some (.cells #[.int .i64 s0, .int .i64 r0, .slice ac0 nc0 cc0, .slice aa0 na0 ca0, .slice ar0 nr0 cr0, .slice aw0 nw0 cw0] 26) ∧ z.heap[Y0.heap.size]? = some (.cells #[.int .i64 s1, .int .i64 r1, .slice ac1 nc1 cc1, .slice aa1 na1 ca1, .slice ar1 nr1 cr1, .slice aw1 nw1 cw1] 26)) := fun z hz => ⟨(hz.block _ (Array.getElem?_eq_some_iff.1 x0).1 (by omega)).trans x0, (hz.block _ (Array.getElem?_eq_some_iff.1 x1).1 (by omega)).trans x1⟩
  have HA : Hid (∀ z, But mb Y z → Calls Try.prog 14 #[.agg #[.int .i64 s0, .int .i64 r0, .slice ac0 nc0 cc0, .slice aa0 na0 ca0, .slice ar0 nr0 cr0, .slice aw0 nw0 cw0]] z fun e w' => ∃ v, e = .returned v ∧ w'.ownsRow z.heap.size 39 3 v (lkX x).length ((lkX x).flatMap lC) ∧ Below z.heap.size z w') := fun z hz => hxV0 ▸ lkX_any ((hx.below bY).keep (hz.cell mY)) hsx
  have HO : Hid (∀ z, But mb Y z → Calls Try.prog 14 #[.agg #[.int .i64 s1, .int .i64 r1, .slice ac1 nc1 cc1, .slice aa1 na1 ca1, .slice ar1 nr1 cr1, .slice aw1 nw1 cw1]] z fun e w' => ∃ v, e = .returned v ∧ w'.ownsRow z.heap.size 39 3 v (lkX y).length ((lkX y).flatMap lC) ∧ Below z.heap.size z w') := fun z hz => hxV1 ▸ lkX_any ((hy.below bY).keep (hz.cell mY)) hsy
  have hokA := lkX_ok hx
  have hokB := lkX_ok hy
  have hlA := lkX_len hsx
  have hlB := lkX_len hsy
  obtain ⟨A, hA⟩ : ∃ A, lkX x = A := ⟨_, rfl⟩
  obtain ⟨B, hB⟩ : ∃ A, lkX y = A := ⟨_, rfl⟩
  obtain ⟨na, hna⟩ : ∃ n, A.length = n := ⟨_, rfl⟩
  obtain ⟨nb, hnb⟩ : ∃ n, B.length = n := ⟨_, rfl⟩
  rw [hA] at HA hokA hlA ⊢
  rw [hB] at HO hokB hlB ⊢
  rw [hna] at HA hlA
  rw [hnb] at HO hlB
  rw [hxV0, hxV1]
  have HOA := hide hokA
  have HOB := hide hokB
  have HNA := hide hna
  have HNB := hide hnb
  have HMY := hide mY
  have HBY := hide (And.intro bY (And.intro (show w.heap.size ≤ mb by omega) (show mb < Y.heap.size from mY.lt)))
  have HY0 := hide hY0
  have HY1 := hide hY1
  have HMK := hide hmk
  clear hx hy hsx hsy hY b0 z0 z1 b1 bY x0 x1 mY hmb hokA hokB hA hB hna hnb hxV0 hxV1 hY0 hY1
  clear hc0 ha0 hr0 hw0 hnr0 hnw0 hs0 hrr0 hc1 ha1 hr1 hw1 hnr1 hnw1 hs1 hrr1
  have q := ((unhide HB) Y (But.refl _ _)).2
  have q0 := cell_at (o := 0) q
  have q1 := cell_at (o := 1) q
  have q2 := cell_at (o := 2) q
  have q3 := cell_at (o := 3) q
  have q4 := cell_at (o := 4) q
  have q5 := cell_at (o := 5) q
  clear q
  simp only [List.getElem?_toArray, List.getElem?_cons_zero, List.getElem?_cons_succ] at q0 q1 q2 q3 q4 q5
  go_enter Try.func28, Try.ntmps28
  go_wp2_with (first | rw [unhide HY0] | rw [unhide HY1] | (go_at_call 14; refine ((unhide HO) Y (But.refl _ _)).mono ?_; rintro e w1 ⟨v1, rfl, ho1, hb1⟩; have HO1 := hide ho1; have HB1 := hide hb1; obtain ⟨a1, k1, e1⟩ := own_shape ho1; subst e1; clear ho1 hb1))
  clear q0 q1 q2 q3 q4 q5 hmk
  have HT1 : Hid (But mb Y w1) := (But.refl mb Y).below' (unhide HB1)
  have HM1 : Hid (MapS w1 mb (lkM [])) := (unhide HMY).below (unhide HB1)
  have HSL : Hid (∀ z, But mb w1 z → SeesL lC 3 z (.slice a1 nb k1) B) := fun z hz => (own_sees lC_len (by decide) (unhide HO1)).2.keep lC_len (hz.cell (unhide HM1))
  go_loopw [16] (fun c wr => ∃ t : Nat, t ≤ nb ∧ c = .int .i64 t ∧ MapS wr mb (lkM (B.take t)) ∧ But mb w1 wr) (fun c _ => nb - (intOf c).toNat)
  case atStart => exact ⟨0, by omega, rfl, unhide HM1, But.refl _ _⟩
  case round =>
    obtain ⟨t, ht, rfl, hms, hbt⟩ := hrel
    by_cases hlt : t < nb
    · have hnl := unhide HNB
      have htl : t < B.length := by omega
      obtain ⟨gb, ob, hao, g1, g2, g3⟩ := lock_cells (unhide HSL wr hbt) rfl htl
      subst hao
      obtain ⟨⟨⟨a, b⟩, d⟩, hx⟩ : ∃ k, B.getD t default = k := ⟨_, rfl⟩
      have hx' : B[t] = ((a, b), d) := by rw [← hx]; simp [List.getD, htl]
      rw [hx] at g1 g2 g3
      have hokx : OkK (a, b) := by have := unhide HOB _ (List.getElem_mem htl); rw [hx'] at this; exact this
      have htk : B.take (t + 1) = B.take t ++ [((a, b), d)] := by rw [List.take_succ_eq_append_getElem htl, hx']
      obtain ⟨y1, hy1⟩ : ∃ y, wr.alloc (.cells #[.int .i32 a, .int .i64 b, .bool d] 39) = y := ⟨_, rfl⟩
      have b1 : Below wr.heap.size wr y1 := hy1 ▸ below_box _
      have x1 : y1.heap[wr.heap.size]? = some (.cells #[.int .i32 a, .int .i64 b, .bool d] 39) := by rw [← hy1]; exact heap_alloc_new wr _
      have d1 : y1.cell? ⟨wr.heap.size, 0, none⟩ = some (.int .i32 a) := cell_at x1
      have d2 : y1.cell? ⟨wr.heap.size, 1, none⟩ = some (.int .i64 b) := cell_at x1
      have d3 : y1.cell? ⟨wr.heap.size, 2, none⟩ = some (.bool d) := cell_at x1
      obtain ⟨y2, r2, m2, o2, s2, p1, p2, p3⟩ := (hms.below b1).put Try.under85 a b hokx (.agg #[.int .i32 a, .int .i64 b, .bool d])
      rw [lkM_snoc, ← htk] at m2
      have HF := hide (And.intro m2 ((hbt.below' b1).put o2 s2 p1 p2 p3))
      have HY1' := hide hy1
      clear hnl htl hx hx' hokx htk hy1 b1 x1 m2 o2 s2 p1 p2 p3 hms hbt
      go_wp2_with (rw [unhide HY1'])
      go_roundw
      case rel => exact ⟨t + 1, by omega, by go_num, (unhide HF).1, (unhide HF).2⟩
      case measure => simp [intOf]; omega
    · obtain rfl : t = nb := by omega
      have hnl := unhide HNB
      rw [List.take_of_length_le (by omega)] at hms
      have hbY := (unhide HT1).trans hbt
      have q := ((unhide HB) wr hbY).1
      have q0 := cell_at (o := 0) q
      have q1 := cell_at (o := 1) q
      have q2 := cell_at (o := 2) q
      have q3 := cell_at (o := 3) q
      have q4 := cell_at (o := 4) q
      have q5 := cell_at (o := 5) q
      clear q
      simp only [List.getElem?_toArray, List.getElem?_cons_zero, List.getElem?_cons_succ] at q0 q1 q2 q3 q4 q5
      have HMS := hide hms
      have HBT := hide hbY
      clear hnl hms hbt hbY
      go_wp2_with (go_at_call 14; refine ((unhide HA) wr (unhide HBT)).mono ?_; rintro e w2 ⟨v2, rfl, ho2, hb2⟩; have HO2 := hide ho2; have HB2 := hide hb2; obtain ⟨a2, k2, e2⟩ := own_shape ho2; subst e2; clear ho2 hb2)
      clear q0 q1 q2 q3 q4 q5
      have HM2 : Hid (∀ z, Below w2.heap.size w2 z → MapS z mb (lkM B)) := fun z hz => ((unhide HMS).below (unhide HB2)).below hz
      have HSA : Hid (∀ z, Below w2.heap.size w2 z → SeesL lC 3 z (.slice a2 na k2) A) := fun z hz => (own_sees lC_len (by decide) (unhide HO2)).2.below lC_len hz
      have HBW : Hid (Below w.heap.size w w2) := (unhide HBY).1.trans (((unhide HBT).low (unhide HBY).2.1 (unhide HBY).1.size).trans ((unhide HB2).mono (Nat.le_trans (unhide HBY).1.size (unhide HBT).size)))
      go_loopw [28] (fun c wr => ∃ t : Nat, t ≤ na ∧ c = .int .i64 t ∧ (∀ u, u < t → hit B (A.getD u default) = false) ∧ Below w2.heap.size w2 wr) (fun c _ => na - (intOf c).toNat)
      case atStart => exact ⟨0, by omega, rfl, fun u hu => absurd hu (by omega), Below.refl _ _⟩
      case round =>
        obtain ⟨t, ht, rfl, hal, hbr⟩ := hrel
        by_cases hlt : t < na
        · have hnl := unhide HNA
          have htl : t < A.length := by omega
          obtain ⟨gb, ob, hao, g1, g2, g3⟩ := lock_cells (unhide HSA wr hbr) rfl htl
          subst hao
          obtain ⟨⟨⟨a, b⟩, d⟩, hx⟩ : ∃ k, A.getD t default = k := ⟨_, rfl⟩
          have hx' : A[t] = ((a, b), d) := by rw [← hx]; simp [List.getD, htl]
          have hokx : OkK (a, b) := by have := unhide HOA _ (List.getElem_mem htl); rw [hx'] at this; exact this
          have hyes : hit B ((a, b), d) = true → clashP A B = true := fun h => List.any_eq_true.2 ⟨_, List.getElem_mem htl, by rw [hx']; exact h⟩
          have hno : hit B ((a, b), d) = false → ∀ u, u < t + 1 → hit B (A.getD u default) = false := fun h u hu => by
            by_cases e : u = t
            · rw [e, hx]; exact h
            · exact hal u (by omega)
          rw [hx] at g1 g2 g3
          obtain ⟨y1, hy1⟩ : ∃ y, wr.alloc (.cells #[.int .i32 a, .int .i64 b, .bool d] 39) = y := ⟨_, rfl⟩
          have b1 : Below wr.heap.size wr y1 := hy1 ▸ below_box _
          have x1 : y1.heap[wr.heap.size]? = some (.cells #[.int .i32 a, .int .i64 b, .bool d] 39) := by rw [← hy1]; exact heap_alloc_new wr _
          have d1 : y1.cell? ⟨wr.heap.size, 0, none⟩ = some (.int .i32 a) := cell_at x1
          have d2 : y1.cell? ⟨wr.heap.size, 1, none⟩ = some (.int .i64 b) := cell_at x1
          have d3 : y1.cell? ⟨wr.heap.size, 2, none⟩ = some (.bool d) := cell_at x1
          have hL := (unhide HM2 y1 (hbr.trans (b1.mono hbr.size))).look Try.under85 (z := .agg #[.int .i32 0, .int .i64 0, .bool false]) Try.zeroValue39 a b hokx
          have hbr1 : Below w2.heap.size w2 y1 := hbr.trans (b1.mono hbr.size)
          obtain ⟨o, ho⟩ : ∃ o, lkF B (a, b) = o := ⟨_, rfl⟩
          have hM : lkM B (a, b) = o.map fun d => .agg #[.int .i32 a, .int .i64 b, .bool d] := by unfold lkM; rw [ho]
          rw [hM] at hL
          have hhit : hit B ((a, b), d) = match o with | none => false | some e => d || e := by unfold hit; simp only; rw [ho]
          have HR := hide (And.intro hyes (And.intro hno (And.intro hhit (And.intro hbr1 (And.intro x1 b1)))))
          have HY1' := hide hy1
          clear hnl htl hx hx' hokx hyes hno hal hbr b1 x1 hy1 hM hhit hbr1 ho
          cases o with
          | none =>
            simp only [Option.map_none, Option.getD_none, Option.isSome_none] at hL
            have hN := (unhide HR).2.1 (unhide HR).2.2.1
            have HN := hide (And.intro hN (((unhide HR).2.2.2.1.alloc (unhide HR).2.2.2.1.size (.cells #[.int .i32 0, .int .i64 0, .bool false] 39))))
            clear hN
            go_wp2_with (rw [unhide HY1'])
            go_roundw
            case rel => exact ⟨t + 1, by omega, by go_num, (unhide HN).1, (unhide HN).2⟩
            case measure => simp [intOf]; omega
          | some e =>
            simp only [Option.map_some, Option.getD_some, Option.isSome_some] at hL
            obtain ⟨y2, hy2⟩ : ∃ y, y1.alloc (.cells #[.int .i32 a, .int .i64 b, .bool e] 39) = y := ⟨_, rfl⟩
            have b2 : Below w2.heap.size w2 y2 := hy2 ▸ (unhide HR).2.2.2.1.alloc (unhide HR).2.2.2.1.size _
            have x2 : y2.heap[wr.heap.size]? = some (.cells #[.int .i32 a, .int .i64 b, .bool d] 39) := by rw [← hy2]; exact (Below.heap_alloc y1 _ _ (Array.getElem?_eq_some_iff.1 (unhide HR).2.2.2.2.1).1).trans (unhide HR).2.2.2.2.1
            have u2 : y2.heap[y1.heap.size]? = some (.cells #[.int .i32 a, .int .i64 b, .bool e] 39) := by rw [← hy2]; exact heap_alloc_new y1 _
            have c3 : y2.cell? ⟨wr.heap.size, 2, none⟩ = some (.bool d) := cell_at x2
            have c4 : y2.cell? ⟨y1.heap.size, 2, none⟩ = some (.bool e) := cell_at u2
            have HY2' := hide hy2
            have HB3 := hide b2
            clear hy2 b2 x2 u2
            cases d with
            | true =>
              have hY := (unhide HR).1 (by rw [(unhide HR).2.2.1]; rfl)
              have HYS := hide hY
              clear hY
              go_wp2_with (first | rw [unhide HY1'] | rw [unhide HY2'])
              go_ret
              exact ⟨by rw [unhide HYS]; rfl, (unhide HBW).trans ((unhide HB3).mono (unhide HBW).size)⟩
            | false =>
              cases e with
              | true =>
                have hY := (unhide HR).1 (by rw [(unhide HR).2.2.1]; rfl)
                have HYS := hide hY
                clear hY
                go_wp2_with (first | rw [unhide HY1'] | rw [unhide HY2'])
                go_ret
                exact ⟨by rw [unhide HYS]; rfl, (unhide HBW).trans ((unhide HB3).mono (unhide HBW).size)⟩
              | false =>
                have hN := (unhide HR).2.1 (by rw [(unhide HR).2.2.1]; rfl)
                have HN := hide hN
                clear hN
                go_wp2_with (first | rw [unhide HY1'] | rw [unhide HY2'])
                go_roundw
                case rel => exact ⟨t + 1, by omega, by go_num, unhide HN, unhide HB3⟩
                case measure => simp [intOf]; omega
        · obtain rfl : t = na := by omega
          have hnl := unhide HNA
          have hC : clashP A B = false := by
            unfold clashP
            rw [List.any_eq_false]
            intro z hz
            obtain ⟨u, hu, rfl⟩ := List.getElem_of_mem hz
            have := hal u (by omega)
            simpa [List.getD, hu] using this
          have HC := hide hC
          have HBR := hide hbr
          clear hnl hal hC hbr
          go_wp2
          go_ret
          exact ⟨by rw [unhide HC]; rfl, (unhide HBW).trans ((unhide HBR).mono (unhide HBW).size)⟩
end Go.Proofs.Ytibjhjkeflbghaa
