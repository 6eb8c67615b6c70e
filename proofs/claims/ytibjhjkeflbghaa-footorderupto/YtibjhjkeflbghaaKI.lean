/- Several texts as one. -/
import Derived.Test.YtibjhjkeflbghaaL7

/- Clash: the program's. -/
namespace Go.Proofs.Ytibjhjkeflbghaa
open Go.RowKit
set_option maxRecDepth 100000

/-- What a map of locks says of a key. -/
def lkF (l : List Lk) : Ky → Option Bool := fun k => l.foldl (fun o y => if k = y.1 then some y.2 else o) none
theorem lkF_snoc (l : List Lk) (y : Lk) (k : Ky) : lkF (l ++ [y]) k = if k = y.1 then some y.2 else lkF l k := by simp [lkF]
def lkM (l : List Lk) : Ky → Option Value := fun k => (lkF l k).map fun d => .agg #[.int .i32 k.1, .int .i64 k.2, .bool d]
theorem lkM_snoc (l : List Lk) (a b : Int) (d : Bool) : putF (lkM l) (a, b) (.agg #[.int .i32 a, .int .i64 b, .bool d]) = lkM (l ++ [((a, b), d)]) := funext fun k => by
  unfold putF lkM
  rw [lkF_snoc]
  by_cases h : k = (a, b)
  · subst h; simp
  · simp [h]
theorem lkM_nil : lkM [] = fun _ => none := funext fun _ => rfl
/-- Whether a lock stands in the way of those that a map holds. -/
def hit (B : List Lk) (x : Lk) : Bool := match lkF B x.1 with
  | none => false
  | some e => x.2 || e
def clashP (A B : List Lk) : Bool := A.any (hit B)
theorem Try.under85 : Try.prog.underlying 85 = some (.map 37 39) := by kernel_rfl

set_option maxHeartbeats 6400000 in
theorem clash_any {x y : Tx} {w : World} (hx : SeesX w x) (hy : SeesX w y) (hsx : Short x) (hsy : Short y) : Calls Try.prog 28 #[xV x, xV y] w fun e w' => e = .returned (.bool (clashP (lkX x) (lkX y))) ∧ Below w.heap.size w w' := by
  obtain ⟨⟨ac0, nc0, cc0, hc0⟩, ⟨aa0, na0, ca0, ha0⟩⟩ := And.intro hx.shc hx.sha
  obtain ⟨ar0, cr0, hr0⟩ := hx.rs.shape
  obtain ⟨aw0, cw0, hw0⟩ := hx.ws.shape
  obtain ⟨nr0, hnr0⟩ : ∃ z, x.rs.length = z := ⟨_, rfl⟩
  obtain ⟨nw0, hnw0⟩ : ∃ z, x.ws.length = z := ⟨_, rfl⟩
  obtain ⟨s0, hs0⟩ : ∃ z, x.s = z := ⟨_, rfl⟩
  obtain ⟨r0, hrr0⟩ : ∃ z, x.r = z := ⟨_, rfl⟩
  rw [hnr0] at hr0
  rw [hnw0] at hw0
  have hxV0 : xV x = .agg #[.int .i64 s0, .int .i64 r0, .slice ac0 nc0 cc0, .slice aa0 na0 ca0, .slice ar0 nr0 cr0, .slice aw0 nw0 cw0] := by unfold xV; rw [hc0, ha0, hr0, hw0, hs0, hrr0]
  obtain ⟨⟨ac1, nc1, cc1, hc1⟩, ⟨aa1, na1, ca1, ha1⟩⟩ := And.intro hy.shc hy.sha
  obtain ⟨ar1, cr1, hr1⟩ := hy.rs.shape
  obtain ⟨aw1, cw1, hw1⟩ := hy.ws.shape
  obtain ⟨nr1, hnr1⟩ : ∃ z, y.rs.length = z := ⟨_, rfl⟩
  obtain ⟨nw1, hnw1⟩ : ∃ z, y.ws.length = z := ⟨_, rfl⟩
  obtain ⟨s1, hs1⟩ : ∃ z, y.s = z := ⟨_, rfl⟩
  obtain ⟨r1, hrr1⟩ : ∃ z, y.r = z := ⟨_, rfl⟩
  rw [hnr1] at hr1
  rw [hnw1] at hw1
  have hxV1 : xV y = .agg #[.int .i64 s1, .int .i64 r1, .slice ac1 nc1 cc1, .slice aa1 na1 ca1, .slice ar1 nr1 cr1, .slice aw1 nw1 cw1] := by unfold xV; rw [hc1, ha1, hr1, hw1, hs1, hrr1]
  obtain ⟨Y0, hY0⟩ : ∃ z, w.alloc (.cells #[.int .i64 s0, .int .i64 r0, .slice ac0 nc0 cc0, .slice aa0 na0 ca0, .slice ar0 nr0 cr0, .slice aw0 nw0 cw0] 26) = z := ⟨_, rfl⟩
  obtain ⟨Y1, hY1⟩ : ∃ z, Y0.alloc (.cells #[.int .i64 s1, .int .i64 r1, .slice ac1 nc1 cc1, .slice aa1 na1 ca1, .slice ar1 nr1 cr1, .slice aw1 nw1 cw1] 26) = z := ⟨_, rfl⟩
  obtain ⟨Y, hY⟩ : ∃ z, Y1.alloc (.map #[] 0) = z := ⟨_, rfl⟩
  have b0 : Below w.heap.size w Y0 := hY0 ▸ below_box _
  have z0 : Y0.heap.size = w.heap.size + 1 := by rw [← hY0]; simp
  have z1 : Y1.heap.size = Y0.heap.size + 1 := by rw [← hY1]; simp
  have b1 : Below w.heap.size w Y1 := hY1 ▸ b0.alloc b0.size _
  have bY : Below w.heap.size w Y := hY ▸ b1.alloc b1.size _
  have x0 : Y.heap[w.heap.size]? = some (.cells #[.int .i64 s0, .int .i64 r0, .slice ac0 nc0 cc0, .slice aa0 na0 ca0, .slice ar0 nr0 cr0, .slice aw0 nw0 cw0] 26) := by rw [← hY]; exact (Below.heap_alloc Y1 _ _ (by omega)).trans (hY1 ▸ (Below.heap_alloc Y0 _ _ (by omega)).trans (hY0 ▸ heap_alloc_new w _))
  have x1 : Y.heap[Y0.heap.size]? = some (.cells #[.int .i64 s1, .int .i64 r1, .slice ac1 nc1 cc1, .slice aa1 na1 ca1, .slice ar1 nr1 cr1, .slice aw1 nw1 cw1] 26) := by rw [← hY]; exact (Below.heap_alloc Y1 _ _ (by omega)).trans (hY1 ▸ heap_alloc_new Y0 _)
  have mY : MapS Y Y1.heap.size (lkM []) := by rw [lkM_nil, ← hY]; exact MapS.start Y1
  have hmk : (Instr.makeMap 85 none).run Try.prog Y1 = .ok (.map (some Y1.heap.size)) Y := by rw [← hY]; rfl
  obtain ⟨mb, hmb⟩ : ∃ m, Y1.heap.size = m := ⟨_, rfl⟩
  rw [hmb] at mY hmk
  have HB : Hid (∀ z, But mb Y z → z.heap[w.heap.size]? = some (.cells #[.int .i64 s0, .int .i64 r0, .slice ac0 nc0 cc0, .slice aa0 na0 ca0, .slice ar0 nr0 cr0, .slice aw0 nw0 cw0] 26) ∧ z.heap[Y0.heap.size]? = some (.cells #[.int .i64 s1, .int .i64 r1, .slice ac1 nc1 cc1, .slice aa1 na1 ca1, .slice ar1 nr1 cr1, .slice aw1 nw1 cw1] 26)) := fun z hz => ⟨(hz.block _ (Array.getElem?_eq_some_iff.1 x0).1 (by omega)).trans x0, (hz.block _ (Array.getElem?_eq_some_iff.1 x1).1 (by omega)).trans x1⟩
  have HA : Hid (∀ z, But mb Y z → Calls Try.prog 14 #[.agg #[.int .i64 s0, .int .i64 r0, .slice ac0 nc0 cc0, .slice aa0 na0 ca0, .slice ar0 nr0 cr0, .slice aw0 nw0 cw0]] z fun e w' => ∃ v, e = .returned v ∧ w'.ownsRow z.heap.size 39 3 v (lkX x).length ((lkX x).flatMap lC) ∧ Below z.heap.size z w') := fun z hz => hxV0 ▸ lkX_any ((hx.below bY).keep (hz.cell mY)) hsx
  have HO : Hid (∀ z, But mb Y z → Calls Try.prog 14 #[.agg #[.int .i64 s1, .int .i64 r1, .slice ac1 nc1 cc1, .slice aa1 na1 ca1, .slice ar1 nr1 cr1, .slice aw1 nw1 cw1]] z fun e w' => ∃ v, e = .returned v ∧ w'.ownsRow z.heap.size 39 3 v (lkX y).length ((lkX y).flatMap lC) ∧ Below z.heap.size z w') := fun z hz => hxV1 ▸ lkX_any ((hy.below bY).keep (hz.cell mY)) hsy
  have hokA := lkX_ok hx
  have hokB := lkX_ok hy
  have hlA := lkX_len hsx
  have hlB := lkX_len hsy
  obtain ⟨A, hA⟩ : ∃ A, lkX x = A := ⟨_, rfl⟩
  obtain ⟨B, hB⟩ : ∃ A, lkX y = A := ⟨_, rfl⟩
  obtain ⟨na, hna⟩ : ∃ n, A.length = n := ⟨_, rfl⟩
  obtain ⟨nb, hnb⟩ : ∃ n, B.length = n := ⟨_, rfl⟩
  rw [hA] at HA hokA hlA ⊢
  rw [hB] at HO hokB hlB ⊢
  rw [hna] at HA hlA
  rw [hnb] at HO hlB
  rw [hxV0, hxV1]
  have HOA := hide hokA
  have HOB := hide hokB
  have HNA := hide hna
  have HNB := hide hnb
  have HMY := hide mY
  have HBY := hide (And.intro bY (And.intro (show w.heap.size ≤ mb by omega) (show mb < Y.heap.size from mY.lt)))
  have HY0 := hide hY0
  have HY1 := hide hY1
  have HMK := hide hmk
  clear hx hy hsx hsy hY b0 z0 z1 b1 bY x0 x1 mY hmb hokA hokB hA hB hna hnb hxV0 hxV1 hY0 hY1
  clear hc0 ha0 hr0 hw0 hnr0 hnw0 hs0 hrr0 hc1 ha1 hr1 hw1 hnr1 hnw1 hs1 hrr1
  have q := ((unhide HB) Y (But.refl _ _)).2
  have q0 := cell_at (o := 0) q
  have q1 := cell_at (o := 1) q
  have q2 := cell_at (o := 2) q
  have q3 := cell_at (o := 3) q
  have q4 := cell_at (o := 4) q
  have q5 := cell_at (o := 5) q
  clear q
  simp only [List.getElem?_toArray, List.getElem?_cons_zero, List.getElem?_cons_succ] at q0 q1 q2 q3 q4 q5
  go_enter Try.func28, Try.ntmps28
  go_wp2_with (first | rw [unhide HY0] | rw [unhide HY1] | (go_at_call 14; refine ((unhide HO) Y (But.refl _ _)).mono ?_; rintro e w1 ⟨v1, rfl, ho1, hb1⟩; have HO1 := hide ho1; have HB1 := hide hb1; obtain ⟨a1, k1, e1⟩ := own_shape ho1; subst e1; clear ho1 hb1))
  clear q0 q1 q2 q3 q4 q5 hmk
  have HT1 : Hid (But mb Y w1) := (But.refl mb Y).below' (unhide HB1)
  have HM1 : Hid (MapS w1 mb (lkM [])) := (unhide HMY).below (unhide HB1)
  have HSL : Hid (∀ z, But mb w1 z → SeesL lC 3 z (.slice a1 nb k1) B) := fun z hz => (own_sees lC_len (by decide) (unhide HO1)).2.keep lC_len (hz.cell (unhide HM1))
  go_loopw [16] (fun c wr => ∃ t : Nat, t ≤ nb ∧ c = .int .i64 t ∧ MapS wr mb (lkM (B.take t)) ∧ But mb w1 wr) (fun c _ => nb - (intOf c).toNat)
  case atStart => exact ⟨0, by omega, rfl, unhide HM1, But.refl _ _⟩
  case round =>
    obtain ⟨t, ht, rfl, hms, hbt⟩ := hrel
    by_cases hlt : t < nb
    · have hnl := unhide HNB
      have htl : t < B.length := by omega
      obtain ⟨gb, ob, hao, g1, g2, g3⟩ := lock_cells (unhide HSL wr hbt) rfl htl
      subst hao
      obtain ⟨⟨⟨a, b⟩, d⟩, hx⟩ : ∃ k, B.getD t default = k := ⟨_, rfl⟩
      have hx' : B[t] = ((a, b), d) := by rw [← hx]; simp [List.getD, htl]
      rw [hx] at g1 g2 g3
      have hokx : OkK (a, b) := by have := unhide HOB _ (List.getElem_mem htl); rw [hx'] at this; exact this
      have htk : B.take (t + 1) = B.take t ++ [((a, b), d)] := by rw [List.take_succ_eq_append_getElem htl, hx']
      obtain ⟨y1, hy1⟩ : ∃ y, wr.alloc (.cells #[.int .i32 a, .int .i64 b, .bool d] 39) = y := ⟨_, rfl⟩
      have b1 : Below wr.heap.size wr y1 := hy1 ▸ below_box _
      have x1 : y1.heap[wr.heap.size]? = some (.cells #[.int .i32 a, .int .i64 b, .bool d] 39) := by rw [← hy1]; exact heap_alloc_new wr _
      have d1 : y1.cell? ⟨wr.heap.size, 0, none⟩ = some (.int .i32 a) := cell_at x1
      have d2 : y1.cell? ⟨wr.heap.size, 1, none⟩ = some (.int .i64 b) := cell_at x1
      have d3 : y1.cell? ⟨wr.heap.size, 2, none⟩ = some (.bool d) := cell_at x1
      obtain ⟨y2, r2, m2, o2, s2, p1, p2, p3⟩ := (hms.below b1).put Try.under85 a b hokx (.agg #[.int .i32 a, .int .i64 b, .bool d])
      rw [lkM_snoc, ← htk] at m2
      have HF := hide (And.intro m2 ((hbt.below' b1).put o2 s2 p1 p2 p3))
      have HY1' := hide hy1
      clear hnl htl hx hx' hokx htk hy1 b1 x1 m2 o2 s2 p1 p2 p3 hms hbt
      go_wp2_with (rw [unhide HY1'])
      go_roundw
      case rel => exact ⟨t + 1, by omega, by go_num, (unhide HF).1, (unhide HF).2⟩
      case measure => simp [intOf]; omega
    · obtain rfl : t = nb := by omega
      have hnl := unhide HNB
      rw [List.take_of_length_le (by omega)] at hms
      have hbY := (unhide HT1).trans hbt
      have q := ((unhide HB) wr hbY).1
      have q0 := cell_at (o := 0) q
      have q1 := cell_at (o := 1) q
      have q2 := cell_at (o := 2) q
      have q3 := cell_at (o := 3) q
      have q4 := cell_at (o := 4) q
      have q5 := cell_at (o := 5) q
      clear q
      simp only [List.getElem?_toArray, List.getElem?_cons_zero, List.getElem?_cons_succ] at q0 q1 q2 q3 q4 q5
      have HMS := hide hms
      have HBT := hide hbY
      clear hnl hms hbt hbY
      go_wp2_with (go_at_call 14; refine ((unhide HA) wr (unhide HBT)).mono ?_; rintro e w2 ⟨v2, rfl, ho2, hb2⟩; have HO2 := hide ho2; have HB2 := hide hb2; obtain ⟨a2, k2, e2⟩ := own_shape ho2; subst e2; clear ho2 hb2)
      clear q0 q1 q2 q3 q4 q5
      have HM2 : Hid (∀ z, Below w2.heap.size w2 z → MapS z mb (lkM B)) := fun z hz => ((unhide HMS).below (unhide HB2)).below hz
      have HSA : Hid (∀ z, Below w2.heap.size w2 z → SeesL lC 3 z (.slice a2 na k2) A) := fun z hz => (own_sees lC_len (by decide) (unhide HO2)).2.below lC_len hz
      have HBW : Hid (Below w.heap.size w w2) := (unhide HBY).1.trans (((unhide HBT).low (unhide HBY).2.1 (unhide HBY).1.size).trans ((unhide HB2).mono (Nat.le_trans (unhide HBY).1.size (unhide HBT).size)))
      go_loopw [28] (fun c wr => ∃ t : Nat, t ≤ na ∧ c = .int .i64 t ∧ (∀ u, u < t → hit B (A.getD u default) = false) ∧ Below w2.heap.size w2 wr) (fun c _ => na - (intOf c).toNat)
      case atStart => exact ⟨0, by omega, rfl, fun u hu => absurd hu (by omega), Below.refl _ _⟩
      case round =>
        obtain ⟨t, ht, rfl, hal, hbr⟩ := hrel
        by_cases hlt : t < na
        · have hnl := unhide HNA
          have htl : t < A.length := by omega
          obtain ⟨gb, ob, hao, g1, g2, g3⟩ := lock_cells (unhide HSA wr hbr) rfl htl
          subst hao
          obtain ⟨⟨⟨a, b⟩, d⟩, hx⟩ : ∃ k, A.getD t default = k := ⟨_, rfl⟩
          have hx' : A[t] = ((a, b), d) := by rw [← hx]; simp [List.getD, htl]
          have hokx : OkK (a, b) := by have := unhide HOA _ (List.getElem_mem htl); rw [hx'] at this; exact this
          have hyes : hit B ((a, b), d) = true → clashP A B = true := fun h => List.any_eq_true.2 ⟨_, List.getElem_mem htl, by rw [hx']; exact h⟩
          have hno : hit B ((a, b), d) = false → ∀ u, u < t + 1 → hit B (A.getD u default) = false := fun h u hu => by
            by_cases e : u = t
            · rw [e, hx]; exact h
            · exact hal u (by omega)
          rw [hx] at g1 g2 g3
          obtain ⟨y1, hy1⟩ : ∃ y, wr.alloc (.cells #[.int .i32 a, .int .i64 b, .bool d] 39) = y := ⟨_, rfl⟩
          have b1 : Below wr.heap.size wr y1 := hy1 ▸ below_box _
          have x1 : y1.heap[wr.heap.size]? = some (.cells #[.int .i32 a, .int .i64 b, .bool d] 39) := by rw [← hy1]; exact heap_alloc_new wr _
          have d1 : y1.cell? ⟨wr.heap.size, 0, none⟩ = some (.int .i32 a) := cell_at x1
          have d2 : y1.cell? ⟨wr.heap.size, 1, none⟩ = some (.int .i64 b) := cell_at x1
          have d3 : y1.cell? ⟨wr.heap.size, 2, none⟩ = some (.bool d) := cell_at x1
          have hL := (unhide HM2 y1 (hbr.trans (b1.mono hbr.size))).look Try.under85 (z := .agg #[.int .i32 0, .int .i64 0, .bool false]) Try.zeroValue39 a b hokx
          have hbr1 : Below w2.heap.size w2 y1 := hbr.trans (b1.mono hbr.size)
          obtain ⟨o, ho⟩ : ∃ o, lkF B (a, b) = o := ⟨_, rfl⟩
          have hM : lkM B (a, b) = o.map fun d => .agg #[.int .i32 a, .int .i64 b, .bool d] := by unfold lkM; rw [ho]
          rw [hM] at hL
          have hhit : hit B ((a, b), d) = match o with | none => false | some e => d || e := by unfold hit; simp only; rw [ho]
          have HR := hide (And.intro hyes (And.intro hno (And.intro hhit (And.intro hbr1 (And.intro x1 b1)))))
          have HY1' := hide hy1
          clear hnl htl hx hx' hokx hyes hno hal hbr b1 x1 hy1 hM hhit hbr1 ho
          cases o with
          | none =>
            simp only [Option.map_none, Option.getD_none, Option.isSome_none] at hL
            have hN := (unhide HR).2.1 (unhide HR).2.2.1
            have HN := hide (And.intro hN (((unhide HR).2.2.2.1.alloc (unhide HR).2.2.2.1.size (.cells #[.int .i32 0, .int .i64 0, .bool false] 39))))
            clear hN
            go_wp2_with (rw [unhide HY1'])
            go_roundw
            case rel => exact ⟨t + 1, by omega, by go_num, (unhide HN).1, (unhide HN).2⟩
            case measure => simp [intOf]; omega
          | some e =>
            simp only [Option.map_some, Option.getD_some, Option.isSome_some] at hL
            obtain ⟨y2, hy2⟩ : ∃ y, y1.alloc (.cells #[.int .i32 a, .int .i64 b, .bool e] 39) = y := ⟨_, rfl⟩
            have b2 : Below w2.heap.size w2 y2 := hy2 ▸ (unhide HR).2.2.2.1.alloc (unhide HR).2.2.2.1.size _
            have x2 : y2.heap[wr.heap.size]? = some (.cells #[.int .i32 a, .int .i64 b, .bool d] 39) := by rw [← hy2]; exact (Below.heap_alloc y1 _ _ (Array.getElem?_eq_some_iff.1 (unhide HR).2.2.2.2.1).1).trans (unhide HR).2.2.2.2.1
            have u2 : y2.heap[y1.heap.size]? = some (.cells #[.int .i32 a, .int .i64 b, .bool e] 39) := by rw [← hy2]; exact heap_alloc_new y1 _
            have c3 : y2.cell? ⟨wr.heap.size, 2, none⟩ = some (.bool d) := cell_at x2
            have c4 : y2.cell? ⟨y1.heap.size, 2, none⟩ = some (.bool e) := cell_at u2
            have HY2' := hide hy2
            have HB3 := hide b2
            clear hy2 b2 x2 u2
            cases d with
            | true =>
              have hY := (unhide HR).1 (by rw [(unhide HR).2.2.1]; rfl)
              have HYS := hide hY
              clear hY
              go_wp2_with (first | rw [unhide HY1'] | rw [unhide HY2'])
              go_ret
              exact ⟨by rw [unhide HYS]; rfl, (unhide HBW).trans ((unhide HB3).mono (unhide HBW).size)⟩
            | false =>
              cases e with
              | true =>
                have hY := (unhide HR).1 (by rw [(unhide HR).2.2.1]; rfl)
                have HYS := hide hY
                clear hY
                go_wp2_with (first | rw [unhide HY1'] | rw [unhide HY2'])
                go_ret
                exact ⟨by rw [unhide HYS]; rfl, (unhide HBW).trans ((unhide HB3).mono (unhide HBW).size)⟩
              | false =>
                have hN := (unhide HR).2.1 (by rw [(unhide HR).2.2.1]; rfl)
                have HN := hide hN
                clear hN
                go_wp2_with (first | rw [unhide HY1'] | rw [unhide HY2'])
                go_roundw
                case rel => exact ⟨t + 1, by omega, by go_num, unhide HN, unhide HB3⟩
                case measure => simp [intOf]; omega
        · obtain rfl : t = na := by omega
          have hnl := unhide HNA
          have hC : clashP A B = false := by
            unfold clashP
            rw [List.any_eq_false]
            intro z hz
            obtain ⟨u, hu, rfl⟩ := List.getElem_of_mem hz
            have := hal u (by omega)
            simpa [List.getD, hu] using this
          have HC := hide hC
          have HBR := hide hbr
          clear hnl hal hC hbr
          go_wp2
          go_ret
          exact ⟨by rw [unhide HC]; rfl, (unhide HBW).trans ((unhide HBR).mono (unhide HBW).size)⟩
end Go.Proofs.Ytibjhjkeflbghaa

/- Levels, in pure terms: those of one level don't stand in each other's way; each above the first meets one of the level below, ahead of it. -/
namespace Go.Proofs.Ytibjhjkeflbghaa
open Go.RowKit
set_option maxRecDepth 100000

theorem int_cells {y : World} {v : Value} {l : List Int} (hs : SeesL nC 1 y v l) {ao : Option Addr} {n cap : Nat} (hv : v = .slice ao n cap) {t : Nat} (ht : t < l.length) : ∃ gb ob, ao = some ⟨gb, ob, none⟩ ∧ y.cell? ⟨gb, ob + t, none⟩ = some (.int .i64 (l.getD t 0)) := by
  obtain ⟨ao', cap', gb, ob, hv', hao, hcl⟩ := SeesL.at hs
  rw [hv] at hv'
  simp only [Value.slice.injEq] at hv'
  obtain ⟨rfl, rfl, rfl⟩ := hv'
  refine ⟨gb, ob, hao (by omega), ?_⟩
  have := hcl t ht 0 (by omega)
  simpa [nC] using this
theorem int_at {y : World} {l : List Int} {gb ob n cap : Nat} (hs : SeesL nC 1 y (.slice (some ⟨gb, ob, none⟩) n cap) l) {t : Nat} (ht : t < l.length) : y.cell? ⟨gb, ob + t, none⟩ = some (.int .i64 (l.getD t 0)) := by
  obtain ⟨g, o, e, h⟩ := int_cells hs rfl ht
  simp only [Option.some.injEq, Addr.mk.injEq, and_true] at e
  obtain ⟨rfl, rfl⟩ := e
  exact h
/-! ### locks -/
theorem lkF_some {l : List Lk} {k : Ky} {e : Bool} : lkF l k = some e → (k, e) ∈ l := by
  have : ∀ (l : List Lk) (o : Option Bool), l.foldl (fun o y => if k = y.1 then some y.2 else o) o = some e → o = some e ∨ (k, e) ∈ l := fun l => by
    induction l with
    | nil => intro o h; exact .inl h
    | cons y r ih =>
      intro o h
      rw [List.foldl_cons] at h
      rcases ih _ h with c | c
      · by_cases hk : k = y.1
        · rw [if_pos hk] at c
          injection c with c
          exact .inr (by subst hk; subst c; exact List.mem_cons_self ..)
        · rw [if_neg hk] at c
          exact .inl c
      · exact .inr (List.mem_cons_of_mem _ c)
  intro h
  rcases this l none h with c | c
  · cases c
  · exact c
/-- Locks whose keys are unlike. -/
def UnL (l : List Lk) : Prop := ∀ k d e, (k, d) ∈ l → (k, e) ∈ l → d = e
theorem lkF_mem {l : List Lk} (hu : UnL l) {k : Ky} {e : Bool} (h : (k, e) ∈ l) : lkF l k = some e := by
  have h1 : ∀ (l : List Lk) (o : Option Bool), (o.isSome ∨ ∃ d, (k, d) ∈ l) → (l.foldl (fun o y => if k = y.1 then some y.2 else o) o).isSome := fun l => by
    induction l with
    | nil =>
      intro o h
      rcases h with h | ⟨d, h⟩
      · exact h
      · cases h
    | cons y r ih =>
      intro o h
      rw [List.foldl_cons]
      refine ih _ ?_
      by_cases hk : k = y.1
      · rw [if_pos hk]; exact .inl rfl
      · rw [if_neg hk]
        rcases h with h | ⟨d, h⟩
        · exact .inl h
        · rcases List.mem_cons.1 h with c | c
          · exact absurd (congrArg Prod.fst c) hk
          · exact .inr ⟨d, c⟩
  obtain ⟨d, hd⟩ := Option.isSome_iff_exists.1 (h1 l none (.inr ⟨e, h⟩))
  have : lkF l k = some d := hd
  rw [this, hu k d e (lkF_some this) h]
theorem lks_un (R W : List Ky) : UnL (lks R W) := fun k d e hd he => by
  obtain ⟨a, _, ha⟩ := List.mem_map.1 hd
  obtain ⟨b, _, hb⟩ := List.mem_map.1 he
  injection ha with a1 a2
  injection hb with b1 b2
  subst a1
  subst b1
  rw [← a2, ← b2]
theorem clashP_yes {A B : List Lk} : clashP A B = true → ∃ k d e, (k, d) ∈ A ∧ (k, e) ∈ B ∧ (d = true ∨ e = true) := fun h => by
  obtain ⟨⟨k, d⟩, hx, hh⟩ := List.any_eq_true.1 h
  unfold hit at hh
  simp only at hh
  cases hf : lkF B k with
  | none => rw [hf] at hh; cases hh
  | some e =>
    rw [hf] at hh
    simp only [Bool.or_eq_true] at hh
    exact ⟨k, d, e, hx, lkF_some hf, hh⟩
theorem clashP_of {A B : List Lk} (hu : UnL B) {k : Ky} {d e : Bool} (h1 : (k, d) ∈ A) (h2 : (k, e) ∈ B) (h : d = true ∨ e = true) : clashP A B = true := by
  refine List.any_eq_true.2 ⟨_, h1, ?_⟩
  unfold hit
  simp only
  rw [lkF_mem hu h2]
  simpa using h

/-! ### what is kept by keys -/
theorem raiseP_fst (lv : Int) (k : Ky) : ∀ (l : List Lk) (g : Lst), ((k, true) ∈ l → (raiseP g lv l k).1 = lv) ∧ ((k, true) ∉ l → (raiseP g lv l k).1 = (g k).1) := fun l => by
  have key : ∀ (l : List Lk) (g : Lst), (g k).1 = lv → (raiseP g lv l k).1 = lv := fun l => by
    induction l with
    | nil => intro g h; exact h
    | cons x r ih =>
      intro g h
      refine ih (raise1 g lv x) ?_
      unfold raise1
      by_cases c : k = x.1
      · rw [if_pos c]; simp only; split
        · rfl
        · exact h
      · rw [if_neg c]; exact h
  induction l with
  | nil => intro g; exact ⟨fun h => (by cases h), fun _ => rfl⟩
  | cons x r ih =>
    intro g
    obtain ⟨h1, h2⟩ := ih (raise1 g lv x)
    constructor
    · intro h
      rcases List.mem_cons.1 h with c | c
      · subst c
        refine key r (raise1 g lv (k, true)) ?_
        unfold raise1
        simp
      · exact h1 c
    · intro h
      have hn : (k, true) ∉ r := fun c => h (List.mem_cons_of_mem _ c)
      refine (h2 hn).trans ?_
      unfold raise1
      by_cases c : k = x.1
      · rw [if_pos c]
        simp only
        split
        · rename_i hx
          exact absurd (by subst c; rw [← hx]; exact List.mem_cons_self ..) h
        · rfl
      · rw [if_neg c]
theorem raiseP_snd (lv : Int) (k : Ky) : ∀ (l : List Lk) (g : Lst), ((∃ d, (k, d) ∈ l) → (raiseP g lv l k).2 = max (g k).2 lv) ∧ ((¬ ∃ d, (k, d) ∈ l) → (raiseP g lv l k).2 = (g k).2) := fun l => by
  induction l with
  | nil => intro g; exact ⟨fun ⟨_, h⟩ => (by cases h), fun _ => rfl⟩
  | cons x r ih =>
    intro g
    obtain ⟨h1, h2⟩ := ih (raise1 g lv x)
    have e : (raise1 g lv x k).2 = if k = x.1 then max (g k).2 lv else (g k).2 := by
      unfold raise1
      split <;> rfl
    by_cases c : ∃ d, (k, d) ∈ r
    · refine ⟨fun _ => ?_, fun h => absurd (Exists.imp (fun d hd => List.mem_cons_of_mem _ hd) c) h⟩
      refine (h1 c).trans ?_
      rw [e]
      split <;> omega
    · refine ⟨fun ⟨d, hd⟩ => ?_, fun h => ?_⟩
      · refine (h2 c).trans ?_
        rw [e]
        rcases List.mem_cons.1 hd with q | q
        · rw [if_pos (congrArg Prod.fst q)]
        · exact absurd ⟨d, q⟩ c
      · refine (h2 c).trans ?_
        rw [e]
        rw [if_neg]
        intro q
        exact h ⟨x.2, by subst q; exact List.mem_cons_self ..⟩
def side1 (g : Lst) (x : Lk) : Int := if x.2 then (g x.1).2 else (g x.1).1
theorem levelP_ge {g : Lst} {l : List Lk} {x : Lk} (h : x ∈ l) : side1 g x ≤ levelP g l := by
  have h0 : ∀ (l : List Lk) (a : Int), a ≤ l.foldl (fun lv x => max lv (if x.2 then (g x.1).2 else (g x.1).1)) a := fun l => by
    induction l with
    | nil => intro a; exact Int.le_refl _
    | cons y r ih => intro a; rw [List.foldl_cons]; exact Int.le_trans (by omega) (ih _)
  have : ∀ (l : List Lk) (a : Int), x ∈ l → side1 g x ≤ l.foldl (fun lv x => max lv (if x.2 then (g x.1).2 else (g x.1).1)) a := fun l => by
    induction l with
    | nil => intro a h; cases h
    | cons y r ih =>
      intro a h
      rw [List.foldl_cons]
      rcases List.mem_cons.1 h with c | c
      · subst c
        refine Int.le_trans ?_ (h0 _ _)
        unfold side1
        omega
      · exact ih _ c
  exact this l 0 h
theorem levelP_at (g : Lst) (l : List Lk) : levelP g l = 0 ∨ ∃ x ∈ l, levelP g l = side1 g x := by
  have : ∀ (l : List Lk) (a : Int), l.foldl (fun lv x => max lv (if x.2 then (g x.1).2 else (g x.1).1)) a = a ∨ ∃ x ∈ l, l.foldl (fun lv x => max lv (if x.2 then (g x.1).2 else (g x.1).1)) a = side1 g x := fun l => by
    induction l with
    | nil => intro a; exact .inl rfl
    | cons y r ih =>
      intro a
      rw [List.foldl_cons]
      rcases ih (max a (if y.2 then (g y.1).2 else (g y.1).1)) with c | ⟨x, hx, c⟩
      · rw [c]
        rcases Int.le_total a (side1 g y) with d | d
        · exact .inr ⟨y, List.mem_cons_self .., Int.max_eq_right d⟩
        · exact .inl (Int.max_eq_left d)
      · exact .inr ⟨x, List.mem_cons_of_mem _ hx, c⟩
  exact this l 0

/-! ### all levels -/
theorem runP_pre (l : List Tx) {m : Nat} (hm : m ≤ l.length) : (runP (l.take m)).2 = (levelsP l).take m := by
  have : ∀ d, m + d ≤ l.length → (runP (l.take m)).2 = (runP (l.take (m + d))).2.take m := fun d => by
    induction d with
    | zero =>
      intro _
      exact (List.take_of_length_le (by rw [runP_len, List.length_take]; omega)).symm
    | succ d ih =>
      intro h
      rw [ih (by omega), ← Nat.add_assoc, List.take_succ_eq_append_getElem (i := m + d) (by omega), runP_snoc]
      show _ = ((runP (l.take (m + d))).2 ++ _).take m
      rw [List.take_append_of_le_length (by rw [runP_len, List.length_take]; omega)]
  have h := this (l.length - m) (by omega)
  rw [h, show m + (l.length - m) = l.length by omega, List.take_length]
  rfl
def lvl (l : List Tx) (i : Nat) : Int := (levelsP l).getD i 0
theorem levelsP_len (l : List Tx) : (levelsP l).length = l.length := runP_len l
theorem lvl_at (l : List Tx) {m : Nat} (hm : m < l.length) : lvl l m = levelP (runP (l.take m)).1 (lkX l[m]) := by
  have h := runP_pre l (m := m + 1) (by omega)
  rw [List.take_succ_eq_append_getElem hm, runP_snoc] at h
  have h' : (runP (l.take m)).2 ++ [levelP (runP (l.take m)).1 (lkX l[m])] = (levelsP l).take (m + 1) := h
  have e : ((levelsP l).take (m + 1))[m]? = some (levelP (runP (l.take m)).1 (lkX l[m])) := by
    rw [← h', List.getElem?_append_right (by rw [runP_len, List.length_take]; omega)]
    rw [runP_len, List.length_take, Nat.min_eq_left (by omega), Nat.sub_self]
    rfl
  rw [List.getElem?_take, if_pos (by omega)] at e
  unfold lvl
  rw [List.getD_eq_getElem?_getD, e]
  rfl
/-- What is kept by keys behind so many. -/
structure Kept (l : List Tx) (m : Nat) (g : Lst) : Prop where
  up : ∀ i, (h : i < l.length) → i < m → ∀ x ∈ lkX l[i], lvl l i + 1 ≤ (g x.1).2 ∧ (x.2 = true → lvl l i + 1 ≤ (g x.1).1)
  one : ∀ k, 0 < (g k).1 → ∃ i, ∃ h : i < l.length, i < m ∧ (k, true) ∈ lkX l[i] ∧ (g k).1 = lvl l i + 1
  any : ∀ k, 0 < (g k).2 → ∃ i, ∃ h : i < l.length, i < m ∧ ∃ d, (k, d) ∈ lkX l[i] ∧ (g k).2 = lvl l i + 1
  le : ∀ k, (g k).1 ≤ (g k).2
theorem kept_run (l : List Tx) : ∀ m, m ≤ l.length → Kept l m (runP (l.take m)).1 := fun m => by
  induction m with
  | zero =>
    intro _
    have e : (runP (l.take 0)).1 = fun _ => (0, 0) := rfl
    rw [e]
    exact ⟨fun i _ h => absurd h (by omega), fun k h => absurd h (by decide), fun k h => absurd h (by decide), fun k => Int.le_refl _⟩
  | succ m ih =>
    intro hm
    have hm' : m < l.length := by omega
    have K := ih (by omega)
    have hlo : Lo (l.take m).length (runP (l.take m)).1 := runP_lo (l.take m)
    have hlv := lvl_at l hm'
    have hge : 0 ≤ lvl l m := by rw [hlv]; exact (levelP_le hlo (by omega) _).1
    rw [List.take_succ_eq_append_getElem hm', runP_snoc]
    show Kept l (m + 1) (raiseP (runP (l.take m)).1 (levelP (runP (l.take m)).1 (lkX l[m]) + 1) (lkX l[m]))
    rw [← hlv]
    have hside : ∀ k, (k, true) ∈ lkX l[m] → ((runP (l.take m)).1 k).2 ≤ lvl l m := fun k hk => by
      have := levelP_ge (g := (runP (l.take m)).1) hk
      rw [hlv]
      exact this
    generalize (runP (l.take m)).1 = g at K hside hlo
    have hF := fun k => raiseP_fst (lvl l m + 1) k (lkX l[m]) g
    have hS := fun k => raiseP_snd (lvl l m + 1) k (lkX l[m]) g
    generalize raiseP g (lvl l m + 1) (lkX l[m]) = g' at hF hS
    have g1 : ∀ k, (g k).1 ≤ (g' k).1 := fun k => by
      by_cases c : (k, true) ∈ lkX l[m]
      · rw [(hF k).1 c]
        have := K.le k
        have := hside k c
        omega
      · rw [(hF k).2 c]; exact Int.le_refl _
    have g2 : ∀ k, (g k).2 ≤ (g' k).2 := fun k => by
      by_cases c : ∃ d, (k, d) ∈ lkX l[m]
      · rw [(hS k).1 c]; omega
      · rw [(hS k).2 c]; exact Int.le_refl _
    refine ⟨fun i h hi x hx => ?_, fun k hk => ?_, fun k hk => ?_, fun k => ?_⟩
    · by_cases c : i = m
      · subst c
        constructor
        · rw [(hS x.1).1 ⟨x.2, hx⟩]; omega
        · intro h2
          rw [(hF x.1).1 (by rw [← h2]; exact hx)]
          exact Int.le_refl _
      · obtain ⟨a, b⟩ := K.up i h (by omega) x hx
        exact ⟨Int.le_trans a (g2 _), fun q => Int.le_trans (b q) (g1 _)⟩
    · by_cases c : (k, true) ∈ lkX l[m]
      · exact ⟨m, hm', by omega, c, (hF k).1 c⟩
      · rw [(hF k).2 c] at hk ⊢
        obtain ⟨i, h, hi, r⟩ := K.one k hk
        exact ⟨i, h, by omega, r⟩
    · by_cases c : ∃ d, (k, d) ∈ lkX l[m]
      · rw [(hS k).1 c] at hk ⊢
        rcases Int.le_total (g k).2 (lvl l m + 1) with q | q
        · rw [Int.max_eq_right q]
          obtain ⟨d, hd⟩ := c
          exact ⟨m, hm', by omega, d, hd, rfl⟩
        · rw [Int.max_eq_left q] at hk ⊢
          obtain ⟨i, h, hi, r⟩ := K.any k hk
          exact ⟨i, h, by omega, r⟩
      · rw [(hS k).2 c] at hk ⊢
        obtain ⟨i, h, hi, r⟩ := K.any k hk
        exact ⟨i, h, by omega, r⟩
    · by_cases c : (k, true) ∈ lkX l[m]
      · rw [(hF k).1 c, (hS k).1 ⟨true, c⟩]; omega
      · rw [(hF k).2 c]
        exact Int.le_trans (K.le k) (g2 k)
theorem lvl_bounds (l : List Tx) {m : Nat} (hm : m < l.length) : 0 ≤ lvl l m ∧ lvl l m ≤ l.length := by
  have hlo : Lo (l.take m).length (runP (l.take m)).1 := runP_lo (l.take m)
  have := levelP_le hlo (by omega) (lkX l[m])
  rw [← lvl_at l hm, List.length_take] at this
  omega
/-- Those that stand in each other's way stand on levels that rise. -/
theorem lvl_apart (l : List Tx) {i k : Nat} (hi : i < l.length) (hk : k < l.length) (hik : i < k) (hc : clashP (lkX l[i]) (lkX l[k]) = true) : lvl l i < lvl l k := by
  have K := kept_run l k (by omega)
  obtain ⟨x, d, e, h1, h2, hd⟩ := clashP_yes hc
  obtain ⟨a, b⟩ := K.up i hi hik _ h1
  have hge := levelP_ge (g := (runP (l.take k)).1) h2
  rw [← lvl_at l hk] at hge
  unfold side1 at hge
  dsimp only at a b hge
  cases e with
  | true => simp only [if_true] at hge; omega
  | false =>
    have hd' : d = true := by simpa using hd
    have := b hd'
    simp only [Bool.false_eq_true, if_false] at hge
    omega
/-- One above the first level is held up by one of the level below. -/
theorem lvl_below (l : List Tx) {k : Nat} (hk : k < l.length) : lvl l k = 0 ∨ ∃ i, ∃ h : i < l.length, i < k ∧ clashP (lkX l[i]) (lkX l[k]) = true ∧ lvl l i = lvl l k - 1 := by
  have K := kept_run l k (by omega)
  have hb := lvl_bounds l hk
  rcases levelP_at (runP (l.take k)).1 (lkX l[k]) with c | ⟨x, hx, c⟩
  · exact .inl ((lvl_at l hk).trans c)
  · rw [← lvl_at l hk] at c
    by_cases h0 : lvl l k = 0
    · exact .inl h0
    · right
      unfold side1 at c
      obtain ⟨q, d⟩ := x
      cases d with
      | true =>
        simp only [if_true] at c
        obtain ⟨i, h, hi, d, hd, e⟩ := K.any q (by omega)
        exact ⟨i, h, hi, clashP_of (lks_un _ _) hd hx (.inr rfl), by omega⟩
      | false =>
        simp only [Bool.false_eq_true, if_false] at c
        obtain ⟨i, h, hi, hd, e⟩ := K.one q (by omega)
        exact ⟨i, h, hi, clashP_of (lks_un _ _) hd hx (.inl rfl), by omega⟩
end Go.Proofs.Ytibjhjkeflbghaa
