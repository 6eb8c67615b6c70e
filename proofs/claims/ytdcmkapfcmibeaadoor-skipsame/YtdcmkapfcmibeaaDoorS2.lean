/- The document's Bytes. -/
import Derived.Test.YtdcmkapfcmibeaaDoorF1
namespace Go.Proofs.YtdcmkapfcmibeaaDoor
open Go.RowKit Go.Shelf
attribute [local go_sem] Oper.semAt_some
set_option maxRecDepth 100000

/-- Where the loop stands: the bytes so far. -/
def RbI (B : Nat) (zs : List Int) (v : Value) (w : World) : Prop := ∃ ao n cap, v = .slice ao n cap ∧ n = zs.length ∧ w.ownsRow B 5 1 v n (zs.flatMap bC)
theorem own_more {w w' : World} {base e e' size : Nat} {v : Value} {n : Nat} {xs : List Value} {B : Nat} (h : w.ownsRow base e size v n xs) (hU : Upd (RowsOf B e' w) w.heap.size w w') (he : e ≠ e') : w'.ownsRow base e size v n xs := by
  refine ⟨h.1, ?_⟩
  rcases h.2 with hn | ⟨g, cap, cur, hv, hg, hh, r⟩
  · exact .inl hn
  · refine .inr ⟨g, cap, cur, hv, hg, (hU.block g (Array.getElem?_eq_some_iff.1 hh).1 fun c => ?_).trans hh, r⟩
    obtain ⟨_, cs, hc⟩ := c
    rw [hh] at hc
    simp only [Option.some.injEq, Obj.cells.injEq] at hc
    exact he hc.2.1
/-- A number's bytes more: what append comes to. -/
theorem rb_app {B : Nat} {zs : List Int} {v u : Value} {y z : World} {x : Int} (h : RbI B zs v y) (hb : Below y.heap.size y z) (hB : B ≤ y.heap.size) (hl : zs.length ≤ 40000000)
    (hu : z.ownsRow y.heap.size 5 1 u (1 + Sh.wid (Sh.mag x)) (Sh.ints .u8 (Sh.numB x))) :
    ∃ ao n cap z', (Builtin.append_ #[39, 39] 39 #[v, u]).run Tryd.prog z = .ok (.slice ao n cap) z' ∧ RbI B (zs ++ Sh.numB x) (.slice ao n cap) z' ∧ Upd (RowsOf B 5 z) z.heap.size z z' := by
  obtain ⟨ao0, n0, cap0, rfl, rfl, ho⟩ := h
  rw [← flat_bytes] at hu
  have hs := (own_sees bC_len (by decide) hu).2
  have h9 := Sh.wid_le (Sh.mag x)
  have hnl := Sh.numB_length x
  obtain ⟨ao, cap, z', h1, h2, h3⟩ := rtB.appU 39 (own_below ho hb) hs (by omega) (Nat.le_trans hB hb.size)
  exact ⟨ao, _, cap, z', h1, ⟨ao, _, cap, rfl, by rw [List.length_append], h2⟩, h3⟩

set_option maxHeartbeats 3200000 in
theorem rbytes_any {w : World} {base xb : Nat} {l : List Pr} {hs : List Int} {X : Int} (h : Rf w base xb l hs X) (hl : l.length ≤ 1048576) (hok : ∀ c ∈ l, OkC c) :
    Calls Tryd.prog 30 #[PN xb] w fun e w' => ∃ v, e = .returned v ∧ w'.ownsRow w.heap.size 5 1 v (bytesC l).length (Sh.ints .u8 (bytesC l)) ∧ Below w.heap.size w w' := by
  obtain ⟨vl, vh, hx, hvl, -⟩ := h.at_
  have hxlt := h.lt
  obtain ⟨ao, cap, gb, ob, hv, hcap, hmax, hao, hcl⟩ := (own_sees (l := l) pC_len (by decide) hvl).2.pair
  obtain ⟨n, hn⟩ : ∃ n, l.length = n := ⟨_, rfl⟩
  obtain ⟨n0, hn0⟩ : ∃ x, w.heap.size = x := ⟨_, rfl⟩
  have HALL : Hid (∀ w' : World, Below n0 w w' → w'.cell? ⟨xb, 0, none⟩ = some vl ∧ ∀ t, t < l.length → w'.cell? ⟨gb, ob + t * 4, none⟩ = some (.int .i32 (l.getD t default).1.1) ∧ w'.cell? ⟨gb, ob + t * 4 + 1, none⟩ = some (.int .i64 (l.getD t default).1.2) ∧ w'.cell? ⟨gb, ob + t * 4 + 2, none⟩ = some (.int .i64 (l.getD t default).2.1) ∧ w'.cell? ⟨gb, ob + t * 4 + 3, none⟩ = some (.int .i64 (l.getD t default).2.2)) := fun w' hb => by
    have up : ∀ {p : Addr} {v : Value}, w.cell? p = some v → w'.cell? p = some v := fun {p v} h => (hb.cell (p := p) (by rw [← hn0]; exact World.block_lt_of_cell? _ _ h)).trans h
    exact ⟨up (cell_at hx), fun t ht => ⟨up (hcl t ht).1, up (hcl t ht).2.1, up (hcl t ht).2.2.1, up (hcl t ht).2.2.2⟩⟩
  have c0 : w.cell? ⟨xb, 0, none⟩ = some vl := cell_at hx
  rw [hv, hn] at c0 HALL
  rw [hn] at hcap hmax hl hao
  have HN := hide hn
  have HOK := hide hok
  have hlen : (bytesC l).length ≤ 37748745 := sizeC_le (by rw [hn]; exact hl)
  have HLEN := hide hlen
  have HR := hide (Sh.refNum_any (n : Int) w (by omega) (by omega))
  rw [hn0]
  clear h hx hvl hcl hxlt hn hok hv hlen
  go_enter Tryd.func30, Tryd.ntmps30
  go_wp2_with fail
  refine (unhide HR).mono ?_
  rintro e w1 ⟨u, rfl, ho, hb1⟩
  have HI1 : Hid (RbI n0 (Sh.numB n) u w1) := by
    rw [← flat_bytes, hn0] at ho
    obtain ⟨a, c, rfl⟩ := own_shape ho
    exact ⟨a, _, c, rfl, by rw [Sh.numB_length], ho⟩
  rw [hn0] at hb1
  have HB1 := hide hb1
  clear ho hb1
  go_wp2
  go_loopw [3, 4] (fun b c wr => ∃ t : Nat, t ≤ n ∧ c = .int .i64 t ∧ RbI n0 (Sh.putL ((n : Int) :: (l.take t).flatMap num4)) b wr ∧ Below n0 w wr) (fun _ c _ => n - (intOf c).toNat)
  case atStart => exact ⟨0, by omega, rfl, by simpa [Sh.putL] using unhide HI1, unhide HB1⟩
  case round =>
    obtain ⟨t, ht, rfl, hI, hbw⟩ := hrel
    by_cases hlt : t < n
    · obtain rfl := hao (by omega)
      have hnl := unhide HN
      obtain ⟨a0, a1⟩ := unhide HALL wr hbw
      obtain ⟨d0, d1, d2, d3⟩ := a1 t (by omega)
      obtain ⟨⟨⟨y0, y1⟩, y2, y3⟩, hy⟩ : ∃ c, l.getD t default = c := ⟨_, rfl⟩
      rw [hy] at d0 d1 d2 d3
      have htl : t < l.length := by omega
      have hyl : l[t] = ((y0, y1), y2, y3) := by rw [← hy]; simp [List.getD, htl]
      obtain ⟨⟨q0, q0'⟩, ⟨q1, q1'⟩, ⟨q2, q2'⟩, ⟨q3, q3'⟩⟩ := unhide HOK ((y0, y1), y2, y3) (by rw [← hyl]; exact List.getElem_mem htl)
      simp only at q0 q0' q1 q1' q2 q2' q3 q3'
      have htake : Hid (Sh.putL ((n : Int) :: (l.take (t + 1)).flatMap num4) = Sh.putL ((n : Int) :: (l.take t).flatMap num4) ++ Sh.numB y0 ++ Sh.numB y1 ++ Sh.numB y2 ++ Sh.numB y3) := by
        show Sh.putL _ = _
        rw [List.take_succ_eq_append_getElem htl, hyl, List.flatMap_append, ← List.cons_append, Sh.putL_append]
        simp [num4, Sh.putL]
      have hbnd : (Sh.putL ((n : Int) :: (l.take (t + 1)).flatMap num4)).length ≤ 37748745 := by
        have h1 : bytesC l = Sh.putL ((n : Int) :: (l.take (t + 1)).flatMap num4) ++ Sh.putL ((l.drop (t + 1)).flatMap num4) := by
          unfold bytesC numsC
          rw [← Sh.putL_append, List.cons_append, ← List.flatMap_append, List.take_append_drop, hnl]
        have h2 := unhide HLEN
        rw [h1, List.length_append] at h2
        omega
      rw [unhide htake] at hbnd
      simp only [List.length_append] at hbnd
      obtain ⟨z0, hz0⟩ : ∃ z, Sh.putL ((n : Int) :: (l.take t).flatMap num4) = z := ⟨_, rfl⟩
      rw [hz0] at hI hbnd
      have HZ0 := hide hz0
      obtain ⟨bo, hbo⟩ : ∃ b, wr.heap.size = b := ⟨_, rfl⟩
      obtain ⟨Y, hY⟩ : ∃ Y, wr.alloc (.cells #[.int .i32 y0, .int .i64 y1, .int .i64 y2, .int .i64 y3] 32) = Y := ⟨_, rfl⟩
      have hbY : Below wr.heap.size wr Y := by rw [← hY]; exact (Below.refl _ _).alloc (Nat.le_refl _) _
      have kY : Y.heap[bo]? = some (.cells #[.int .i32 y0, .int .i64 y1, .int .i64 y2, .int .i64 y3] 32) := by rw [← hY, ← hbo]; exact heap_new1 _ _
      have hnw : n0 ≤ wr.heap.size := by rw [← hn0]; exact hbw.size
      have hBY : Below n0 w Y := hbw.trans (hbY.mono hnw)
      have hIY : RbI n0 z0 u3 Y := by
        obtain ⟨a, m, c, e1, e2, e3⟩ := hI
        exact ⟨a, m, c, e1, e2, own_below e3 hbY⟩
      obtain ⟨ua, um, uc, hua⟩ : ∃ a m c, u3 = .slice a m c := by obtain ⟨a, m, c, e1, _⟩ := hIY; exact ⟨a, m, c, e1⟩
      subst hua
      have HS0 := hide (And.intro kY (And.intro hBY hIY))
      have k0 : Y.cell? ⟨bo, 0, none⟩ = some (.int .i32 y0) := cell_at kY
      have hcv : IntKind.i64.wrap y0 = y0 := wrap_i64 _ (by omega) (by omega)
      have hdb : decide ((t : Int) < (n : Int)) = true := by simp; omega
      have hi0 : (0 : Int) ≤ (t : Int) := by omega
      have hi1 : (t : Int) < (n : Int) := by omega
      have HY := hide hY
      have HN0 := hide (Sh.refNum_any y0 Y (by omega) (by omega))
      clear hI hbw a1 hy hyl hz0 hbY kY hnw hBY hIY hY htl hnl

      go_wp2_with (rw [unhide HY])
      try rw [hcv]
      refine (unhide HN0).mono ?_
      rintro e Z0 ⟨r0, rfl, ho, hb⟩
      obtain ⟨kY, hBY, hIY⟩ := unhide HS0
      have hlt : bo < Y.heap.size := (Array.getElem?_eq_some_iff.1 kY).1
      have hn0Y : n0 ≤ Y.heap.size := by rw [← hn0]; exact hBY.size
      obtain ⟨sa0, sn0, sc0, X0, hrun, hI2, hU⟩ := rb_app hIY hb hn0Y (by (try simp only [List.length_append]); omega) ho
      have kZ : Z0.heap[bo]? = some (.cells #[.int .i32 y0, .int .i64 y1, .int .i64 y2, .int .i64 y3] 32) := (hb.block bo hlt).trans kY
      have kY2 : X0.heap[bo]? = some (.cells #[.int .i32 y0, .int .i64 y1, .int .i64 y2, .int .i64 y3] 32) := (hU.block bo (Array.getElem?_eq_some_iff.1 kZ).1 (fun c => by obtain ⟨_, cs, hc⟩ := c; rw [kZ] at hc; simp at hc)).trans kZ
      have hBZ : Below n0 w Z0 := hBY.trans (hb.mono hn0Y)
      have hBY2 : Below n0 w X0 := hBZ.trans (hU.below (by rw [← hn0]; exact hBZ.size) (fun k hk c => by have := c.1; omega))
      have HS1 := hide (And.intro kY2 (And.intro hBY2 hI2))
      obtain ⟨ra0, rm0, rc0, hra⟩ : ∃ a m c, r0 = .slice a m c := by obtain ⟨a, c, e1⟩ := own_shape ho; exact ⟨a, _, c, e1⟩
      subst hra
      have HQ0 := hide hrun
      have k1 : X0.cell? ⟨bo, 1, none⟩ = some (.int .i64 y1) := cell_at kY2
      have HN1 := hide (Sh.refNum_any y1 X0 (by omega) (by omega))
      clear ho hb kY hBY hIY hlt hn0Y hrun hI2 hU kZ kY2 hBZ hBY2 k0
      go_wp2_with ((with_reducible show wpList _ _ _ (⟨some 34, _, _, _, _, _⟩ :: _) _ _); refine wpList_append_wanted (by rfl) (.tmp 28) (.tmp 33) 39 rfl rfl rfl (unhide HQ0) ?_)
      refine (unhide HN1).mono ?_
      rintro e Z1 ⟨r1, rfl, ho, hb⟩
      obtain ⟨kY, hBY, hIY⟩ := unhide HS1
      have hlt : bo < X0.heap.size := (Array.getElem?_eq_some_iff.1 kY).1
      have hn0Y : n0 ≤ X0.heap.size := by rw [← hn0]; exact hBY.size
      obtain ⟨sa1, sn1, sc1, X1, hrun, hI2, hU⟩ := rb_app hIY hb hn0Y (by (try simp only [List.length_append]); omega) ho
      have kZ : Z1.heap[bo]? = some (.cells #[.int .i32 y0, .int .i64 y1, .int .i64 y2, .int .i64 y3] 32) := (hb.block bo hlt).trans kY
      have kY2 : X1.heap[bo]? = some (.cells #[.int .i32 y0, .int .i64 y1, .int .i64 y2, .int .i64 y3] 32) := (hU.block bo (Array.getElem?_eq_some_iff.1 kZ).1 (fun c => by obtain ⟨_, cs, hc⟩ := c; rw [kZ] at hc; simp at hc)).trans kZ
      have hBZ : Below n0 w Z1 := hBY.trans (hb.mono hn0Y)
      have hBY2 : Below n0 w X1 := hBZ.trans (hU.below (by rw [← hn0]; exact hBZ.size) (fun k hk c => by have := c.1; omega))
      have HS2 := hide (And.intro kY2 (And.intro hBY2 hI2))
      obtain ⟨ra1, rm1, rc1, hra⟩ : ∃ a m c, r1 = .slice a m c := by obtain ⟨a, c, e1⟩ := own_shape ho; exact ⟨a, _, c, e1⟩
      subst hra
      have HQ1 := hide hrun
      have k2 : X1.cell? ⟨bo, 2, none⟩ = some (.int .i64 y2) := cell_at kY2
      have HN2 := hide (Sh.refNum_any y2 X1 (by omega) (by omega))
      clear ho hb kY hBY hIY hlt hn0Y hrun hI2 hU kZ kY2 hBZ hBY2 k1
      go_wp2_with ((with_reducible show wpList _ _ _ (⟨some 40, _, _, _, _, _⟩ :: _) _ _); refine wpList_append_wanted (by rfl) (.tmp 35) (.tmp 39) 39 rfl rfl rfl (unhide HQ1) ?_)
      refine (unhide HN2).mono ?_
      rintro e Z2 ⟨r2, rfl, ho, hb⟩
      obtain ⟨kY, hBY, hIY⟩ := unhide HS2
      have hlt : bo < X1.heap.size := (Array.getElem?_eq_some_iff.1 kY).1
      have hn0Y : n0 ≤ X1.heap.size := by rw [← hn0]; exact hBY.size
      obtain ⟨sa2, sn2, sc2, X2, hrun, hI2, hU⟩ := rb_app hIY hb hn0Y (by (try simp only [List.length_append]); omega) ho
      have kZ : Z2.heap[bo]? = some (.cells #[.int .i32 y0, .int .i64 y1, .int .i64 y2, .int .i64 y3] 32) := (hb.block bo hlt).trans kY
      have kY2 : X2.heap[bo]? = some (.cells #[.int .i32 y0, .int .i64 y1, .int .i64 y2, .int .i64 y3] 32) := (hU.block bo (Array.getElem?_eq_some_iff.1 kZ).1 (fun c => by obtain ⟨_, cs, hc⟩ := c; rw [kZ] at hc; simp at hc)).trans kZ
      have hBZ : Below n0 w Z2 := hBY.trans (hb.mono hn0Y)
      have hBY2 : Below n0 w X2 := hBZ.trans (hU.below (by rw [← hn0]; exact hBZ.size) (fun k hk c => by have := c.1; omega))
      have HS3 := hide (And.intro kY2 (And.intro hBY2 hI2))
      obtain ⟨ra2, rm2, rc2, hra⟩ : ∃ a m c, r2 = .slice a m c := by obtain ⟨a, c, e1⟩ := own_shape ho; exact ⟨a, _, c, e1⟩
      subst hra
      have HQ2 := hide hrun
      have k3 : X2.cell? ⟨bo, 3, none⟩ = some (.int .i64 y3) := cell_at kY2
      have HN3 := hide (Sh.refNum_any y3 X2 (by omega) (by omega))
      clear ho hb kY hBY hIY hlt hn0Y hrun hI2 hU kZ kY2 hBZ hBY2 k2
      go_wp2_with ((with_reducible show wpList _ _ _ (⟨some 45, _, _, _, _, _⟩ :: _) _ _); refine wpList_append_wanted (by rfl) (.tmp 41) (.tmp 44) 39 rfl rfl rfl (unhide HQ2) ?_)
      refine (unhide HN3).mono ?_
      rintro e Z3 ⟨r3, rfl, ho, hb⟩
      obtain ⟨kY, hBY, hIY⟩ := unhide HS3
      have hlt : bo < X2.heap.size := (Array.getElem?_eq_some_iff.1 kY).1
      have hn0Y : n0 ≤ X2.heap.size := by rw [← hn0]; exact hBY.size
      obtain ⟨sa3, sn3, sc3, X3, hrun, hI2, hU⟩ := rb_app hIY hb hn0Y (by (try simp only [List.length_append]); omega) ho
      have kZ : Z3.heap[bo]? = some (.cells #[.int .i32 y0, .int .i64 y1, .int .i64 y2, .int .i64 y3] 32) := (hb.block bo hlt).trans kY
      have kY2 : X3.heap[bo]? = some (.cells #[.int .i32 y0, .int .i64 y1, .int .i64 y2, .int .i64 y3] 32) := (hU.block bo (Array.getElem?_eq_some_iff.1 kZ).1 (fun c => by obtain ⟨_, cs, hc⟩ := c; rw [kZ] at hc; simp at hc)).trans kZ
      have hBZ : Below n0 w Z3 := hBY.trans (hb.mono hn0Y)
      have hBY2 : Below n0 w X3 := hBZ.trans (hU.below (by rw [← hn0]; exact hBZ.size) (fun k hk c => by have := c.1; omega))
      have HS4 := hide (And.intro kY2 (And.intro hBY2 hI2))
      obtain ⟨ra3, rm3, rc3, hra⟩ : ∃ a m c, r3 = .slice a m c := by obtain ⟨a, c, e1⟩ := own_shape ho; exact ⟨a, _, c, e1⟩
      subst hra
      have HQ3 := hide hrun
      clear ho hb kY hBY hIY hlt hn0Y hrun hI2 hU kZ kY2 hBZ hBY2 k3
      go_wp2_with ((with_reducible show wpList _ _ _ (⟨some 50, _, _, _, _, _⟩ :: _) _ _); refine wpList_append_wanted (by rfl) (.tmp 46) (.tmp 49) 39 rfl rfl rfl (unhide HQ3) ?_)
      go_roundw
      case rel =>
        obtain ⟨_, hBY, hIY⟩ := unhide HS4
        refine ⟨t + 1, by omega, by go_num, ?_, hBY⟩
        rw [unhide htake, unhide HZ0]
        exact hIY
      case measure => simp [intOf]; omega
    · obtain rfl : t = n := by omega
      have HI := hide hI
      have HB := hide hbw
      obtain ⟨a0, -⟩ := unhide HALL wr hbw
      clear hI hbw
      go_wp2
      go_ret
      obtain ⟨a, m, c, e1, e2, e3⟩ := unhide HI
      refine ⟨_, rfl, ?_, unhide HB⟩
      have hnl := unhide HN
      rw [← flat_bytes]
      have hE : Sh.putL ((t : Int) :: (l.take t).flatMap num4) = bytesC l := by rw [← hnl, List.take_length]; rfl
      rw [hE] at e2 e3
      subst e2
      exact e3
end Go.Proofs.YtdcmkapfcmibeaaDoor
