/- The document's Put. -/
import Derived.Test.YtdcmkapfcmibeaaDoorR4
import Derived.Test.YtdcmkapfcmibeaaDoorR3
import Derived.Deep.DeepCutAuto
namespace Go.Proofs.YtdcmkapfcmibeaaDoor
open Go.RowKit Go.Shelf
attribute [local go_sem] Oper.semAt_some
set_option maxRecDepth 100000

theorem own_keep {w w' : World} {base e size : Nat} {v : Value} {n : Nat} {xs : List Value} (h : w.ownsRow base e size v n xs) (hk : ∀ g, v.ownBlock = some g → w'.heap[g]? = w.heap[g]?) : w'.ownsRow base e size v n xs := by
  refine ⟨h.1, ?_⟩
  rcases h.2 with hn | ⟨g, cap, cur, hv, hg, hh, r⟩
  · exact .inl hn
  · subst hv
    exact .inr ⟨g, cap, cur, rfl, hg, (hk g rfl).trans hh, r⟩
theorem own_drewB {w : World} {base e size : Nat} {v : Value} {n : Nat} {xs : List Value} (h : w.ownsRow base e size v n xs) : w.drew.ownsRow base e size v n xs := h
section
variable {α : Type} {c : α → List Value} {k T e : Nat}
/-- One more behind the first part, and the rest behind it. -/
theorem RT.three (R : RT c k T e) {Y : World} {B : Nat} {v1 vx : Value} {ov : Option Addr} {oc m j : Nat} {L D : List α} {x : α} (ho : Y.ownsRow B e k v1 j (L.flatMap c)) (hb : B ≤ Y.heap.size) (hx : SeesL c k Y vx [x]) (hs : ∀ Y', Below B Y Y' → SeesL c k Y' (.slice ov m oc) D) (hj : j ≤ m) (hml : m ≤ 1048576) :
    ∃ a2 c2 z2 a3 c3 z3, (Builtin.append_ #[T, T] T #[v1, vx]).run Tryd.prog Y = .ok (.slice a2 (j + 1) c2) z2 ∧ (Builtin.append_ #[T, T] T #[.slice a2 (j + 1) c2, tailV k ov m oc j]).run Tryd.prog z2 = .ok (.slice a3 (j + 1 + (m - j)) c3) z3 ∧ z3.ownsRow B e k (.slice a3 (j + 1 + (m - j)) c3) (j + 1 + (m - j)) ((L ++ [x] ++ D.drop j).flatMap c) ∧ Below B Y z2 ∧ Below B Y z3 := by
  obtain ⟨a2, c2, z2, q2, o2, b2⟩ := R.ins2 ho hb hx (by omega)
  have hb2 : B ≤ z2.heap.size := Nat.le_trans hb b2.size
  obtain ⟨a3, c3, z3, q3, o3, b3⟩ := R.ins3 o2 hb2 (hs z2 b2) hj (by omega) (by omega)
  exact ⟨a2, c2, z2, a3, c3, z3, q2, q3, o3, b2, b2.trans b3⟩
end
theorem sees_oneI (w : World) (h : Int) : SeesL iC 1 (w.alloc (.cells #[.int .i64 h] 3)) (.slice (some ⟨w.heap.size, 0, none⟩) 1 1) [h] := by
  refine ⟨_, 1, w.heap.size, 0, rfl, by simp, by simp, (fun h => by cases h), fun _ => rfl, fun t x hx j hj => ?_⟩
  obtain ⟨ht, rfl⟩ := List.getElem?_eq_some_iff.1 hx
  obtain rfl : t = 0 := by simpa using ht
  rw [cell_at (heap_new1 w _)]
  obtain rfl : j = 0 := by omega
  rfl
/-- A cell stored at its place. -/
theorem own_store {w : World} {base n cap g : Nat} {D : List Pr} (h : w.ownsRow base 32 4 (.slice (some ⟨g, 0, none⟩) n cap) n (D.flatMap pC)) {i : Nat} (hi : i < D.length) (p : Pr) :
    (∀ j, j < 4 → ∃ u, w.cell? ⟨g, i * 4 + j, none⟩ = some u) ∧ (∀ o, w.frozen? ⟨g, o, none⟩ = false) ∧ ((((w.setCell ⟨g, i * 4, none⟩ (.int .i32 p.1.1)).setCell ⟨g, i * 4 + 1, none⟩ (.int .i64 p.1.2)).setCell ⟨g, i * 4 + 2, none⟩ (.int .i64 p.2.1)).setCell ⟨g, i * 4 + 3, none⟩ (.int .i64 p.2.2)).ownsRow base 32 4 (.slice (some ⟨g, 0, none⟩) n cap) n ((D.set i p).flatMap pC) := by
  rcases h.2 with ⟨e, _⟩ | ⟨g', cap', cur, hv, hb, hh, hnc, hcm, hsz, ht⟩
  · cases e
  cases hv
  have hn : n = D.length := (own_sees pC_len (by decide) h).1
  have h3 : i * 4 + 4 ≤ n * 4 := by omega
  have hcs : n * 4 ≤ cur.size := by rw [hsz]; exact Nat.mul_le_mul_right 4 hnc
  have s1 := heap_setCell_same w g (i * 4) cur 32 (.int .i32 p.1.1) hh
  have s2 := heap_setCell_same _ g (i * 4 + 1) _ 32 (.int .i64 p.1.2) s1
  have s3 := heap_setCell_same _ g (i * 4 + 2) _ 32 (.int .i64 p.2.1) s2
  have s4 := heap_setCell_same _ g (i * 4 + 3) _ 32 (.int .i64 p.2.2) s3
  refine ⟨fun j hj => ⟨_, (cell_at hh).trans (Array.getElem?_eq_getElem (by omega))⟩, fun o => frozen_of_heap hh, ?_, .inr ⟨g, cap, _, rfl, hb, s4, hnc, hcm, by simpa using hsz, ?_⟩⟩
  · rw [flat_len pC_len, List.length_set, ← hn]
  · refine List.ext_getElem? fun t => ?_
    by_cases htn : t < n * 4
    · rw [List.getElem?_take_of_lt htn]
      have hq : t / 4 < D.length := by omega
      have hjk : t / 4 * 4 + t % 4 = t := by omega
      have hmod : t % 4 < 4 := Nat.mod_lt _ (by decide)
      have e1 : (D.set i p)[t / 4]? = some (if i = t / 4 then p else D[t / 4]) := by
        rw [List.getElem?_eq_getElem (by simpa using hq), List.getElem_set]
      have e2 := flat_at pC_len (D.set i p) (t / 4) _ e1 (t % 4) hmod
      rw [hjk] at e2
      rw [e2]
      have e3 := flat_at pC_len D (t / 4) _ (List.getElem?_eq_getElem hq) (t % 4) hmod
      rw [hjk, ← ht, List.getElem?_take_of_lt htn] at e3
      simp only [Array.toList_setIfInBounds, List.getElem?_set, Array.length_toList, List.length_set]
      by_cases hit : i = t / 4
      · rw [if_pos hit]
        subst hit
        rcases (by omega : t % 4 = 0 ∨ t % 4 = 1 ∨ t % 4 = 2 ∨ t % 4 = 3) with hm | hm | hm | hm
        · rw [hm, if_neg (by omega), if_neg (by omega), if_neg (by omega), if_pos (by omega), if_pos (by omega)]; rfl
        · rw [hm, if_neg (by omega), if_neg (by omega), if_pos (by omega), if_pos (by omega)]; rfl
        · rw [hm, if_neg (by omega), if_pos (by omega), if_pos (by omega)]; rfl
        · rw [hm, if_pos (by omega), if_pos (by omega)]; rfl
      · rw [if_neg hit, if_neg (by omega), if_neg (by omega), if_neg (by omega), if_neg (by omega), e3]
    · rw [List.getElem?_eq_none (by rw [List.length_take]; omega), List.getElem?_eq_none (by rw [flat_len pC_len, List.length_set, ← hn]; omega)]

set_option maxHeartbeats 1000000 in
theorem rput_arg {w : World} {xb : Nat} (c : Pr) (hs : c.2.2 < 0 ∨ 1099511627776 < c.2.2) :
    Calls Tryd.prog 35 #[PN xb, .agg #[.int .i32 c.1.1, .int .i64 c.1.2, .int .i64 c.2.1, .int .i64 c.2.2]] w fun e w' => e = .returned (.int .i64 1) ∧ Below w.heap.size w w' := by
  obtain ⟨n0, hn0⟩ : ∃ x, w.heap.size = x := ⟨_, rfl⟩
  obtain ⟨⟨⟨k0, k1⟩, v, s⟩, hc⟩ : ∃ c', c = c' := ⟨_, rfl⟩
  subst hc
  obtain ⟨W1, hW1⟩ : ∃ W, w.alloc (.cells #[.int .i32 k0, .int .i64 k1, .int .i64 v, .int .i64 s] 32) = W := ⟨_, rfl⟩
  have hb : Below n0 w W1 := by rw [← hW1, ← hn0]; exact (Below.refl _ _).alloc (Nat.le_refl _) _
  have kk : W1.heap[n0]? = some (.cells #[.int .i32 k0, .int .i64 k1, .int .i64 v, .int .i64 s] 32) := by rw [← hW1, ← hn0]; exact heap_new1 _ _
  have kc0 : W1.cell? ⟨n0, 0, none⟩ = some (.int .i32 k0) := cell_at kk
  have kc1 : W1.cell? ⟨n0, 1, none⟩ = some (.int .i64 k1) := cell_at kk
  have kc3 : W1.cell? ⟨n0, 3, none⟩ = some (.int .i64 s) := cell_at kk
  have HB := hide hb
  rw [hn0]
  simp only at hs
  clear hb kk
  rcases hs with hs | hs
  · have hsa : decide (s < 0) = true := by simpa using hs
    go_enter Tryd.func35, Tryd.ntmps35
    go_wp2_with (rw [hW1])
    go_ret
    exact ⟨rfl, unhide HB⟩
  · have hsa : decide (s < 0) = false := by simp; omega
    have hsb : decide (s > 1099511627776) = true := by simp; omega
    have hsc : decide (1099511627776 < s) = true := by simp; omega
    go_enter Tryd.func35, Tryd.ntmps35
    go_wp2_with (rw [hW1])
    go_ret
    exact ⟨rfl, unhide HB⟩

set_option maxHeartbeats 1000000 in
theorem rput_full {w : World} {base xb : Nat} {l : List Pr} {hs : List Int} {X : Int} (h : Rf w base xb l hs X) (c : Pr) (hs0 : 0 ≤ c.2.2) (hs1 : c.2.2 ≤ 1099511627776) (his : isAt c.1 l = false) (hm : l.length = 1048576) :
    Calls Tryd.prog 35 #[PN xb, .agg #[.int .i32 c.1.1, .int .i64 c.1.2, .int .i64 c.2.1, .int .i64 c.2.2]] w fun e w' => e = .returned (.int .i64 6) ∧ Below w.heap.size w w' := by
  obtain ⟨n0, hn0⟩ : ∃ x, w.heap.size = x := ⟨_, rfl⟩
  obtain ⟨⟨⟨k0, k1⟩, v, s⟩, hc⟩ : ∃ c', c = c' := ⟨_, rfl⟩
  subst hc
  obtain ⟨W1, hW1⟩ : ∃ W, w.alloc (.cells #[.int .i32 k0, .int .i64 k1, .int .i64 v, .int .i64 s] 32) = W := ⟨_, rfl⟩
  have hb : Below n0 w W1 := by rw [← hW1, ← hn0]; exact (Below.refl _ _).alloc (Nat.le_refl _) _
  have kk : W1.heap[n0]? = some (.cells #[.int .i32 k0, .int .i64 k1, .int .i64 v, .int .i64 s] 32) := by rw [← hW1, ← hn0]; exact heap_new1 _ _
  have kc0 : W1.cell? ⟨n0, 0, none⟩ = some (.int .i32 k0) := cell_at kk
  have kc1 : W1.cell? ⟨n0, 1, none⟩ = some (.int .i64 k1) := cell_at kk
  have kc3 : W1.cell? ⟨n0, 3, none⟩ = some (.int .i64 s) := cell_at kk
  have hsa : decide (s < 0) = false := by simp; exact hs0
  have hsb : decide (s > 1099511627776) = false := by simp; exact hs1
  have hsc : decide (1099511627776 < s) = false := by simp; exact hs1
  have HF := hide (rfind_any (h.below (w' := W1) (by rw [hn0]; exact hb)) (k0, k1))
  rw [his] at HF
  have HH := hide h
  have HBB := hide (And.intro hb kk)
  rw [hn0]
  obtain ⟨r, hr⟩ : ∃ r : Nat, fd (k0, k1) l = r := ⟨_, rfl⟩
  rw [hr] at HF
  have HM := hide hm
  clear kk h hb hr his hm hs0 hs1
  go_enter Tryd.func35, Tryd.ntmps35
  go_wp2_with fail
  try rw [hW1]
  refine (unhide HF).mono ?_
  rintro e w1 ⟨rfl, hb1⟩
  clear hW1
  obtain ⟨hb, kk⟩ := unhide HBB
  have hn01 : n0 < W1.heap.size := (Array.getElem?_eq_some_iff.1 kk).1
  have hB1 : Below n0 w w1 := hb.trans (hb1.mono (by omega))
  have kk1 : w1.heap[n0]? = some (.cells #[.int .i32 k0, .int .i64 k1, .int .i64 v, .int .i64 s] 32) := (hb1.block n0 hn01).trans kk
  have hn1 : n0 < w1.heap.size := (Array.getElem?_eq_some_iff.1 kk1).1
  have h1 : Rf w1 base xb l hs X := (unhide HH).below (by rw [hn0]; exact hB1)
  have hxlt := h1.lt
  have hxn : xb < n0 := by rw [← hn0]; exact (unhide HH).lt
  obtain ⟨vl, vh, hx, hvl, hvh⟩ := h1.at_
  obtain ⟨ao, cap, rfl⟩ := own_shape hvl
  have hsl := (own_sees pC_len (by decide) hvl).2
  obtain ⟨_, _, _, _, e1, hcap, -⟩ := id hsl
  simp only [Value.slice.injEq, true_and] at e1
  obtain ⟨rfl, rfl⟩ := e1
  have c0 : w1.cell? ⟨xb, 0, none⟩ = some (.slice ao 1048576 cap) := by have := cell_at (o := 0) hx; rw [unhide HM] at this; exact this
  have HB := hide hB1
  clear hB1 h1 hvl hvh hsl hcap hx hxlt hb1 kk1 kk hb hxn
  go_wp2
  go_ret
  exact ⟨rfl, unhide HB⟩

set_option maxHeartbeats 1000000 in
theorem rput_has {w : World} {base xb : Nat} {l : List Pr} {hs : List Int} {X : Int} (h : Rf w base xb l hs X) (c : Pr) (hs0 : 0 ≤ c.2.2) (hs1 : c.2.2 ≤ 1099511627776) (his : isAt c.1 l = true) (hm : l.length ≤ 1048576) :
    Calls Tryd.prog 35 #[PN xb, .agg #[.int .i32 c.1.1, .int .i64 c.1.2, .int .i64 c.2.1, .int .i64 c.2.2]] w fun e w' => e = .returned (.int .i64 0) ∧ Rf w' base xb (l.set (fd c.1 l) c) hs X ∧ Upd (fun k => ∃ cs, w.heap[k]? = some (.cells cs 32) ∧ base ≤ k) w.heap.size w w' := by
  have hfd := fd_lt his
  obtain ⟨n0, hn0⟩ : ∃ x, w.heap.size = x := ⟨_, rfl⟩
  obtain ⟨⟨⟨k0, k1⟩, v, s⟩, hc⟩ : ∃ c', c = c' := ⟨_, rfl⟩
  subst hc
  obtain ⟨W1, hW1⟩ : ∃ W, w.alloc (.cells #[.int .i32 k0, .int .i64 k1, .int .i64 v, .int .i64 s] 32) = W := ⟨_, rfl⟩
  have hb : Below n0 w W1 := by rw [← hW1, ← hn0]; exact (Below.refl _ _).alloc (Nat.le_refl _) _
  have kk : W1.heap[n0]? = some (.cells #[.int .i32 k0, .int .i64 k1, .int .i64 v, .int .i64 s] 32) := by rw [← hW1, ← hn0]; exact heap_new1 _ _
  have kc0 : W1.cell? ⟨n0, 0, none⟩ = some (.int .i32 k0) := cell_at kk
  have kc1 : W1.cell? ⟨n0, 1, none⟩ = some (.int .i64 k1) := cell_at kk
  have kc3 : W1.cell? ⟨n0, 3, none⟩ = some (.int .i64 s) := cell_at kk
  have hsa : decide (s < 0) = false := by simp; exact hs0
  have hsb : decide (s > 1099511627776) = false := by simp; exact hs1
  have hsc : decide (1099511627776 < s) = false := by simp; exact hs1
  have HF := hide (rfind_any (h.below (w' := W1) (by rw [hn0]; exact hb)) (k0, k1))
  rw [his] at HF
  have HH := hide h
  have HBB := hide (And.intro hb kk)
  rw [hn0]
  obtain ⟨r, hr⟩ : ∃ r : Nat, fd (k0, k1) l = r := ⟨_, rfl⟩
  simp only at hfd
  rw [hr] at HF hfd
  have HR := hide hr
  have HLL := hide (And.intro hfd hm)
  clear kk h hb hr his hm hs0 hs1 hfd
  go_enter Tryd.func35, Tryd.ntmps35
  go_wp2_with fail
  try rw [hW1]
  refine (unhide HF).mono ?_
  rintro e w1 ⟨rfl, hb1⟩
  clear hW1
  obtain ⟨hb, kk⟩ := unhide HBB
  have hn01 : n0 < W1.heap.size := (Array.getElem?_eq_some_iff.1 kk).1
  have hB1 : Below n0 w w1 := hb.trans (hb1.mono (by omega))
  have kk1 : w1.heap[n0]? = some (.cells #[.int .i32 k0, .int .i64 k1, .int .i64 v, .int .i64 s] 32) := (hb1.block n0 hn01).trans kk
  have hn1 : n0 < w1.heap.size := (Array.getElem?_eq_some_iff.1 kk1).1
  have h1 : Rf w1 base xb l hs X := (unhide HH).below (by rw [hn0]; exact hB1)
  have hxlt := h1.lt
  have hxn : xb < n0 := by rw [← hn0]; exact (unhide HH).lt
  obtain ⟨vl, vh, hx, hvl, hvh⟩ := h1.at_
  obtain ⟨ao, cap, rfl⟩ := own_shape hvl
  have hsl := (own_sees pC_len (by decide) hvl).2
  obtain ⟨_, _, _, _, e1, hcap, -⟩ := id hsl
  simp only [Value.slice.injEq, true_and] at e1
  obtain ⟨rfl, rfl⟩ := e1
  obtain ⟨hfd, hm⟩ := unhide HLL
  obtain ⟨g, rfl⟩ : ∃ g, ao = some ⟨g, 0, none⟩ := by
    rcases hvl.2 with ⟨e, _⟩ | ⟨g, _, _, e, _⟩
    · simp only [Value.slice.injEq] at e; omega
    · simp only [Value.slice.injEq] at e; exact ⟨g, e.1⟩
  obtain ⟨q1, q2, q3⟩ := own_store hvl hfd ((k0, k1), v, s)
  obtain ⟨cur, hgc, hgb⟩ : ∃ cur, w1.heap[g]? = some (.cells cur 32) ∧ base ≤ g := by
    rcases hvl.2 with ⟨e, _⟩ | ⟨g', _, cur, e, hg, hh, _⟩
    · cases e
    · cases e; exact ⟨cur, hh, hg⟩
  have hgw : g < n0 := by
    obtain ⟨vl0, vh0, hx0, hvl0, _⟩ := (unhide HH).at_
    have e0 := (hB1.block xb hxn).symm.trans hx
    rw [hx0] at e0
    simp only [Option.some.injEq, Obj.cells.injEq, Array.mk.injEq, List.cons.injEq, and_true] at e0
    obtain ⟨rfl, rfl⟩ := e0
    rw [← hn0]
    exact (hvl0.lt g rfl).2
  obtain ⟨u0, p0⟩ := q1 0 (by decide)
  obtain ⟨u1, p1⟩ := q1 1 (by decide)
  obtain ⟨u2, p2⟩ := q1 2 (by decide)
  obtain ⟨u3, p3⟩ := q1 3 (by decide)
  rw [Nat.add_zero] at p0
  have g0 := q2 (r * 4)
  have g1 := q2 (r * 4 + 1)
  have g2 := q2 (r * 4 + 2)
  have g3 := q2 (r * 4 + 3)
  have hgx : g ≠ xb := fun e => by rw [e, hx] at hgc; simp at hgc
  have hgn : g ≠ n0 := by omega
  have hU : Upd (fun k => k = g) w1.heap.size w1 ((((w1.setCell ⟨g, r * 4, none⟩ (.int .i32 k0)).setCell ⟨g, r * 4 + 1, none⟩ (.int .i64 k1)).setCell ⟨g, r * 4 + 2, none⟩ (.int .i64 v)).setCell ⟨g, r * 4 + 3, none⟩ (.int .i64 s)) :=
    ((((Upd.refl (fun k => k = g) _ w1).setCell (p := ⟨g, r * 4, none⟩) (.inl rfl) _).setCell (p := ⟨g, r * 4 + 1, none⟩) (.inl rfl) _).setCell (p := ⟨g, r * 4 + 2, none⟩) (.inl rfl) _).setCell (p := ⟨g, r * 4 + 3, none⟩) (.inl rfl) _
  obtain ⟨z, hz⟩ : ∃ z, ((((w1.setCell ⟨g, r * 4, none⟩ (.int .i32 k0)).setCell ⟨g, r * 4 + 1, none⟩ (.int .i64 k1)).setCell ⟨g, r * 4 + 2, none⟩ (.int .i64 v)).setCell ⟨g, r * 4 + 3, none⟩ (.int .i64 s)) = z := ⟨_, rfl⟩
  simp only at q3
  rw [hz] at q3 hU
  have HZ := hide hz
  have xz : z.heap[xb]? = _ := (hU.block xb hxlt (Ne.symm hgx)).trans hx
  have hvz : z.ownsRow base 3 1 vh hs.length (hs.flatMap iC) := own_keep hvh fun j hj => hU.block j (hvh.lt j hj).2 fun e => by
    subst e
    rcases hvh.2 with ⟨e, _⟩ | ⟨g', _, cur', e, _, hh, _⟩
    · rw [e] at hj; cases hj
    · rw [e] at hj
      cases hj
      rw [hgc] at hh
      simp at hh
  have HFIN : Hid (Rf z.drew base xb (l.set (fd (k0, k1) l) ((k0, k1), v, s)) hs X ∧ Upd (fun k => ∃ cs, w.heap[k]? = some (.cells cs 32) ∧ base ≤ k) n0 w z.drew) := by
    rw [unhide HR]
    refine ⟨⟨⟨_, _, xz, by rw [List.length_set]; exact q3, hvz⟩⟩, ?_⟩
    refine ((Upd.of hB1).trans ((hU.mono (Nat.le_of_lt hn1) fun k hk e => ?_))).drew
    subst e
    exact ⟨cur, (hB1.block _ hk).symm.trans hgc, hgb⟩
  have c0 : w1.cell? ⟨xb, 0, none⟩ = some (.slice (some ⟨g, 0, none⟩) l.length cap) := cell_at hx
  have b0 : w1.cell? ⟨n0, 0, none⟩ = some (.int .i32 k0) := cell_at kk1
  have b1 : w1.cell? ⟨n0, 1, none⟩ = some (.int .i64 k1) := cell_at kk1
  have b2 : w1.cell? ⟨n0, 2, none⟩ = some (.int .i64 v) := cell_at kk1
  have b3 : w1.cell? ⟨n0, 3, none⟩ = some (.int .i64 s) := cell_at kk1
  obtain ⟨nl, hnl⟩ : ∃ n, l.length = n := ⟨_, rfl⟩
  rw [hnl] at c0 hfd
  have hi0 : (0 : Int) ≤ (r : Int) := by omega
  have hi1 : (r : Int) < (nl : Int) := by omega
  clear hB1 h1 hvl hvh hsl hcap hx hxlt hb1 kk1 kk hb hxn q1 q2 q3 hU hz xz hvz hgc hgb hgw hm hnl hgx hgn hfd
  go_wp2
  go_region
  rw [unhide HZ]
  go_wp2
  go_ret
  exact ⟨rfl, (unhide HFIN).1, (unhide HFIN).2⟩

/-- What the first half of Put leaves: the cells are laid anew. -/
def P10 (w1 : World) (xb : Nat) (vh : Value) (X : Int) (L : List Pr) (wc : World) : Prop := ∃ a3 c3, wc.heap[xb]? = some (.cells #[.slice a3 L.length c3, vh, .int .u64 X] 69) ∧ wc.ownsRow w1.heap.size 32 4 (.slice a3 L.length c3) L.length (L.flatMap pC) ∧ Upd (fun k => k = xb) w1.heap.size w1 wc
set_option maxHeartbeats 4000000 in
theorem rput_new {w : World} {base xb : Nat} {l : List Pr} {hs : List Int} {X : Int} (h : Rf w base xb l hs X) (c : Pr) (hs0 : 0 ≤ c.2.2) (hs1 : c.2.2 ≤ 1099511627776) (hbase : base ≤ w.heap.size) (his : isAt c.1 l = false) (hm : l.length < 1048576) (hlh : hs.length = l.length) (hX : 0 ≤ X ∧ X < 18446744073709551616) :
    Calls Tryd.prog 35 #[PN xb, .agg #[.int .i32 c.1.1, .int .i64 c.1.2, .int .i64 c.2.1, .int .i64 c.2.2]] w fun e w' => e = .returned (.int .i64 0) ∧ Rf w' base xb (l.take (fd c.1 l) ++ c :: l.drop (fd c.1 l)) (hs.take (fd c.1 l) ++ hgt (nextX X) :: hs.drop (fd c.1 l)) (nextX X) ∧ Upd (fun k => k = xb) w.heap.size w w' := by
  have hfd := fd_le c.1 l
  obtain ⟨n0, hn0⟩ : ∃ x, w.heap.size = x := ⟨_, rfl⟩
  obtain ⟨⟨⟨k0, k1⟩, v, s⟩, hc⟩ : ∃ c', c = c' := ⟨_, rfl⟩
  subst hc
  obtain ⟨W1, hW1⟩ : ∃ W, w.alloc (.cells #[.int .i32 k0, .int .i64 k1, .int .i64 v, .int .i64 s] 32) = W := ⟨_, rfl⟩
  have hb : Below n0 w W1 := by rw [← hW1, ← hn0]; exact (Below.refl _ _).alloc (Nat.le_refl _) _
  have kk : W1.heap[n0]? = some (.cells #[.int .i32 k0, .int .i64 k1, .int .i64 v, .int .i64 s] 32) := by rw [← hW1, ← hn0]; exact heap_new1 _ _
  have kc0 : W1.cell? ⟨n0, 0, none⟩ = some (.int .i32 k0) := cell_at kk
  have kc1 : W1.cell? ⟨n0, 1, none⟩ = some (.int .i64 k1) := cell_at kk
  have kc3 : W1.cell? ⟨n0, 3, none⟩ = some (.int .i64 s) := cell_at kk
  have hsa : decide (s < 0) = false := by simp; exact hs0
  have hsb : decide (s > 1099511627776) = false := by simp; exact hs1
  have hsc : decide (1099511627776 < s) = false := by simp; exact hs1
  have HF := hide (rfind_any (h.below (w' := W1) (by rw [hn0]; exact hb)) (k0, k1))
  rw [his] at HF
  have HH := hide h
  have HBB := hide (And.intro hb kk)
  rw [hn0]
  obtain ⟨r, hr⟩ : ∃ r : Nat, fd (k0, k1) l = r := ⟨_, rfl⟩
  simp only at hfd
  obtain ⟨g, hg⟩ : ∃ g, hgt (nextX X) = g := ⟨_, rfl⟩
  obtain ⟨X', hX'⟩ : ∃ X', nextX X = X' := ⟨_, rfl⟩
  rw [hX'] at hg
  simp only [hX', hg]
  rw [hr] at HF hfd ⊢
  have HG := hide (And.intro hX' hg)
  have HLL := hide (And.intro hfd (And.intro hm (And.intro hlh hX)))
  rw [hn0] at hbase
  clear kk h hb hr his hm hs0 hs1 hfd hlh hX hX' hg
  go_enter Tryd.func35, Tryd.ntmps35
  go_wp2_with fail
  try rw [hW1]
  refine (unhide HF).mono ?_
  rintro e w1 ⟨rfl, hb1⟩
  clear hW1
  obtain ⟨hb, kk⟩ := unhide HBB
  have hn01 : n0 < W1.heap.size := (Array.getElem?_eq_some_iff.1 kk).1
  have hB1 : Below n0 w w1 := hb.trans (hb1.mono (by omega))
  have kk1 : w1.heap[n0]? = some (.cells #[.int .i32 k0, .int .i64 k1, .int .i64 v, .int .i64 s] 32) := (hb1.block n0 hn01).trans kk
  have hn1 : n0 < w1.heap.size := (Array.getElem?_eq_some_iff.1 kk1).1
  have h1 : Rf w1 base xb l hs X := (unhide HH).below (by rw [hn0]; exact hB1)
  have hxlt := h1.lt
  have hxn : xb < n0 := by rw [← hn0]; exact (unhide HH).lt
  obtain ⟨vl, vh, hx, hvl, hvh⟩ := h1.at_
  obtain ⟨ao, cap, rfl⟩ := own_shape hvl
  have hsl := (own_sees pC_len (by decide) hvl).2
  obtain ⟨_, _, _, _, e1, hcap, -⟩ := id hsl
  simp only [Value.slice.injEq, true_and] at e1
  obtain ⟨rfl, rfl⟩ := e1
  obtain ⟨hfd, hm, hlh, hX⟩ := unhide HLL
  -- the cells
  obtain ⟨a1, c1, z1, q1, o1, b1⟩ := rtP.ins1 hsl (j := r) (by omega) (by omega)
  have hz1 := b1.size
  obtain ⟨y1, hy1⟩ : ∃ y, (z1.alloc (.cells #[.int .i32 k0, .int .i64 k1, .int .i64 v, .int .i64 s] 32)).drew = y := ⟨_, rfl⟩
  have by1 : Below z1.heap.size z1 y1 := by rw [← hy1]; exact ((Below.refl _ z1).alloc (Nat.le_refl _) _).drew
  have sy1 : SeesL pC 4 y1 (.slice (some ⟨z1.heap.size, 0, none⟩) 1 1) [((k0, k1), v, s)] := by rw [← hy1]; exact sees_oneP z1 ((k0, k1), v, s)
  have bw1 : Below w1.heap.size w1 y1 := b1.trans (by1.mono hz1)
  obtain ⟨a2, c2, y2, a3, c3, y3, q2, q3, o3, b2, b3⟩ := rtP.three (own_below o1 by1) bw1.size sy1 (D := l) (ov := ao) (oc := cap) (m := l.length) (fun Y' hb => hsl.below pC_len (bw1.trans hb)) hfd (by omega)
  have U3 : Upd (fun k => k = xb) w1.heap.size w1 y3 := Upd.of (bw1.trans b3)
  have x3 := (b3.block xb hxlt).trans ((bw1.block xb hxlt).trans hx)
  obtain ⟨L1, hL1⟩ : ∃ L, l.take r ++ [((k0, k1), v, s)] ++ l.drop r = L := ⟨_, rfl⟩
  have hL1l : L1.length = r + 1 + (l.length - r) := by rw [← hL1]; simp; omega
  rw [hL1] at o3
  rw [← hL1l] at q3 o3
  have HP10 : Hid (P10 w1 xb vh X L1 (y3.setCell ⟨xb, 0, none⟩ (.slice a3 L1.length c3))) := ⟨a3, c3, heap_setCell_same y3 xb 0 _ 69 _ x3, own_setOther o3 hxlt, U3.setCell (.inl rfl) _⟩
  have HC : Hid (∀ x, Below w1.heap.size w1 x → x.cell? ⟨n0, 0, none⟩ = some (.int .i32 k0) ∧ x.cell? ⟨n0, 1, none⟩ = some (.int .i64 k1) ∧ x.cell? ⟨n0, 2, none⟩ = some (.int .i64 v) ∧ x.cell? ⟨n0, 3, none⟩ = some (.int .i64 s)) := fun x hb => by
    have kx := (hb.block n0 hn1).trans kk1
    exact ⟨cell_at kx, cell_at kx, cell_at kx, cell_at kx⟩
  have HCS : Hid ((y3.setCell ⟨xb, 0, none⟩ (.slice a3 L1.length c3)).cell? ⟨n0, 0, none⟩ = some (.int .i32 k0) ∧ (y3.setCell ⟨xb, 0, none⟩ (.slice a3 L1.length c3)).cell? ⟨n0, 1, none⟩ = some (.int .i64 k1) ∧ (y3.setCell ⟨xb, 0, none⟩ (.slice a3 L1.length c3)).cell? ⟨n0, 2, none⟩ = some (.int .i64 v) ∧ (y3.setCell ⟨xb, 0, none⟩ (.slice a3 L1.length c3)).cell? ⟨n0, 3, none⟩ = some (.int .i64 s)) := by
    have kx := (U3.setCell (p := ⟨xb, 0, none⟩) (.inl rfl) (.slice a3 L1.length c3)).block n0 hn1 (by omega)
    have kx := kx.trans kk1
    exact ⟨cell_at kx, cell_at kx, cell_at kx, cell_at kx⟩
  have HBZ := hide (And.intro (b1.drew) (And.intro bw1 (And.intro (bw1.trans b2) (bw1.trans b3))))
  have c0 : w1.cell? ⟨xb, 0, none⟩ = some (.slice ao l.length cap) := cell_at hx
  have HL0 : Hid (z1.drew.cell? ⟨xb, 0, none⟩ = some (.slice ao l.length cap) ∧ y1.cell? ⟨xb, 0, none⟩ = some (.slice ao l.length cap) ∧ y2.cell? ⟨xb, 0, none⟩ = some (.slice ao l.length cap)) := ⟨cell_at ((b1.drew.block xb hxlt).trans hx), cell_at ((bw1.block xb hxlt).trans hx), cell_at (((bw1.trans b2).block xb hxlt).trans hx)⟩
  have f3 : y3.frozen? ⟨xb, 0, none⟩ = false := frozen_of_heap x3
  have e3 : y3.cell? ⟨xb, 0, none⟩ = some (.slice ao l.length cap) := cell_at x3
  have HS1 := hide (rtP.head ao l.length cap r (by omega))
  have HS3 := hide (rtP.tail ao l.length cap r (by omega))
  have HQ1 := hide q1
  have HQ2 := hide q2
  have HQ3 := hide q3
  have HY1 := hide hy1
  have hge : decide ((l.length : Int) ≥ 1048576) = false := by simp; omega
  have hge2 : decide ((1048576 : Int) ≤ (l.length : Int)) = false := by simp; omega
  -- what the second half wants
  have HW := hide (And.intro hB1 (And.intro hn1 (And.intro hx (And.intro hvh (And.intro hxlt hL1)))))
  obtain ⟨nl, hnl⟩ : ∃ n, l.length = n := ⟨_, rfl⟩
  obtain ⟨m3, hm3⟩ : ∃ n, L1.length = n := ⟨_, rfl⟩
  obtain ⟨rr, hrr⟩ : ∃ n, r + 1 = n := ⟨_, rfl⟩
  rw [hnl] at c0 e3 HL0 HS1 HS3 HQ3 hge hge2
  rw [hm3] at HQ3 HP10 HCS
  rw [hrr] at HQ2 HQ3
  have HM3 := hide (And.intro hm3 hnl)
  clear hB1 h1 hvl hvh hsl hcap hx hxlt hb1 kk1 kk hb hxn q1 q2 q3 o1 b1 by1 sy1 bw1 o3 b2 b3 U3 x3 hL1 hL1l hfd hm hlh hX hy1 hz1 hn01 hn1 hm3 hnl hrr
  go_upto_region 10 with (first | ((with_reducible show wpList _ _ _ (⟨some 43, _, _, _, _, _⟩ :: _) _ _); refine wpList_slice_wanted (x := .tmp 41) (by rfl) Tryd.underlying63 rfl rfl (unhide HS1 _) ?_) | ((with_reducible show wpList _ _ _ (⟨some 44, _, _, _, _, _⟩ :: _) _ _); refine wpList_append_wanted (by rfl) (.const (.slice none 0 0)) (.tmp 43) 63 rfl rfl rfl (unhide HQ1) ?_))
  go_cut [7] (fun _ wc => P10 w1 xb vh X L1 wc)
  case first =>
    refine wp_region_held_drew (S := fun x => x.cell? ⟨n0, 0, none⟩ = some (.int .i32 k0) ∧ x.cell? ⟨n0, 1, none⟩ = some (.int .i64 k1) ∧ x.cell? ⟨n0, 2, none⟩ = some (.int .i64 v) ∧ x.cell? ⟨n0, 3, none⟩ = some (.int .i64 s)) (by kernel_rfl) (unhide HC _ (unhide HBZ).1) (fun hHeld => ?_)
    refine wpAnyH_take (i := 0) (v := ?v1x0) rfl (by kernel_rfl) (by kernel_rfl) (by kernel_rfl) (fun _ _ _ h => h) (Or.inl ⟨by rfl, ?hy1x0⟩) (by assumption) ?rest1x0
    case hy1x0 => intro w hSw; obtain ⟨s0, s1, s2, s3⟩ := hSw; go_simp <;> with_reducible rfl
    simp only [Act.put, List.getElem_toArray, List.getElem_cons_zero, List.setIfInBounds_toArray, List.set_cons_zero, List.set_cons_succ]
    refine wpAnyH_take (i := 1) (v := ?v2x1) rfl (by kernel_rfl) (by kernel_rfl) (by kernel_rfl) (fun _ _ _ h => h) (Or.inl ⟨by rfl, ?hy2x1⟩) (by assumption) ?rest2x1
    case hy2x1 => intro w hSw; obtain ⟨s0, s1, s2, s3⟩ := hSw; go_simp <;> with_reducible rfl
    simp only [Act.put, List.getElem_toArray, List.getElem_cons_zero, List.getElem_cons_succ, List.setIfInBounds_toArray, List.set_cons_zero, List.set_cons_succ]
    refine wpAnyH_take (i := 2) (v := (.agg #[.int .i32 k0, .int .i64 k1, .int .i64 v, .int .i64 s])) rfl (by kernel_rfl) (by kernel_rfl) (by kernel_rfl) (fun _ _ _ h => h) (Or.inl ⟨by rfl, ?hy3x2⟩) (by assumption) ?rest3x2
    case hy3x2 => intro w hSw; obtain ⟨s0, s1, s2, s3⟩ := hSw; go_simp <;> with_reducible rfl
    simp only [Act.put, List.getElem_toArray, List.getElem_cons_zero, List.getElem_cons_succ, List.setIfInBounds_toArray, List.set_cons_zero, List.set_cons_succ]
    refine wpAnyH_take (i := 5) (v := ?v4x5) rfl (by kernel_rfl) (by kernel_rfl) (by kernel_rfl) (fun _ _ _ h => h) (Or.inl ⟨by rfl, ?hy4x5⟩) (by assumption) ?rest4x5
    case hy4x5 => intro w hSw; obtain ⟨s0, s1, s2, s3⟩ := hSw; go_simp <;> with_reducible rfl
    simp only [Act.put, List.getElem_toArray, List.getElem_cons_zero, List.getElem_cons_succ, List.setIfInBounds_toArray, List.set_cons_zero, List.set_cons_succ]
    refine wpAnyH_take (i := 6) (v := ?v5x6) rfl (by kernel_rfl) (by kernel_rfl) (by kernel_rfl) (fun _ _ _ h => h) (Or.inl ⟨by rfl, ?hy5x6⟩) (by assumption) ?rest5x6
    case hy5x6 => intro w hSw; obtain ⟨s0, s1, s2, s3⟩ := hSw; go_simp <;> with_reducible rfl
    simp only [Act.put, List.getElem_toArray, List.getElem_cons_zero, List.getElem_cons_succ, List.setIfInBounds_toArray, List.set_cons_zero, List.set_cons_succ]
    refine wpAnyH_take (i := 7) (v := ?v6x7) rfl (by kernel_rfl) (by kernel_rfl) (by kernel_rfl) (fun _ _ _ h => h) (Or.inl ⟨by rfl, ?hy6x7⟩) (by assumption) ?rest6x7
    case hy6x7 => intro w hSw; obtain ⟨s0, s1, s2, s3⟩ := hSw; go_simp <;> with_reducible rfl
    simp only [Act.put, List.getElem_toArray, List.getElem_cons_zero, List.getElem_cons_succ, List.setIfInBounds_toArray, List.set_cons_zero, List.set_cons_succ]
    refine wpAnyH_take (i := 9) (v := ?v7x9) rfl (by kernel_rfl) (by kernel_rfl) (by kernel_rfl) (fun _ _ _ h => h) (Or.inl ⟨by rfl, ?hy7x9⟩) (by assumption) ?rest7x9
    case hy7x9 => intro w hSw; obtain ⟨s0, s1, s2, s3⟩ := hSw; go_simp <;> with_reducible rfl
    simp only [Act.put, List.getElem_toArray, List.getElem_cons_zero, List.getElem_cons_succ, List.setIfInBounds_toArray, List.set_cons_zero, List.set_cons_succ]

    refine wpAnyH_ready (rs := [3, 8]) (by kernel_rfl) (by simp) ?_
    refine AllReadyH.cons rfl (fun K hK => ?_) (AllReadyH.cons rfl (fun K hK => ?_) AllReadyH.nil)
    · skip
      go_simp
      rw [unhide HY1]
      refine hK _ _ (unhide HC _ (unhide HBZ).2.1) ?_
      clear hK hHeld
      intro hHeld
      refine wpAnyH_ready (rs := [4, 8]) (by kernel_rfl) (by simp) ?_
      refine AllReadyH.cons rfl (fun K hK => ?_) (AllReadyH.cons rfl (fun K hK => ?_) AllReadyH.nil)
      · skip
        rw [if_pos (by rfl)]
        refine append_upon rfl rfl rfl (unhide HQ2) ?_
        simp only [Act.put, List.getElem_toArray, List.getElem_cons_zero, List.getElem_cons_succ, List.setIfInBounds_toArray, List.set_cons_zero, List.set_cons_succ]
        refine hK _ _ (unhide HC _ (unhide HBZ).2.2.1) ?_
        clear hK hHeld
        intro hHeld
        refine wpAnyH_ready (rs := [8]) (by kernel_rfl) (by simp) ?_
        refine AllReadyH.cons rfl (fun K hK => ?_) AllReadyH.nil
        obtain ⟨t1, t2, t3⟩ := unhide HL0
        clear t1 t2
        go_simp
        refine hK _ _ (unhide HC _ (unhide HBZ).2.2.1) ?_
        clear hK hHeld
        intro hHeld
        clear t3
        refine wpAnyH_take (i := 10) (v := (tailV 4 ao nl cap r)) rfl (by kernel_rfl) (by kernel_rfl) (by kernel_rfl) (fun _ _ _ h => h) (Or.inl ⟨by rfl, ?hy8x10⟩) (by assumption) ?rest8x10
        case hy8x10 => intro w hSw; exact run_sliceE Tryd.underlying63 rfl rfl (unhide HS3 w)
        simp only [Act.put, List.getElem_toArray, List.getElem_cons_zero, List.getElem_cons_succ, List.setIfInBounds_toArray, List.set_cons_zero, List.set_cons_succ]
        refine wpAnyH_ready (rs := [11]) (by kernel_rfl) (by simp) ?_
        refine AllReadyH.cons rfl (fun K hK => ?_) AllReadyH.nil
        rw [if_pos (by rfl)]
        refine append_upon rfl rfl rfl (unhide HQ3) ?_
        simp only [Act.put, List.getElem_toArray, List.getElem_cons_zero, List.getElem_cons_succ, List.setIfInBounds_toArray, List.set_cons_zero, List.set_cons_succ]
        refine hK _ _ (unhide HC _ (unhide HBZ).2.2.2) ?_
        clear hK hHeld
        intro hHeld
        refine wpAnyH_take (i := 12) (v := ?v9x12) rfl (by kernel_rfl) (by kernel_rfl) (by kernel_rfl) (fun _ _ _ h => h) (Or.inl ⟨by rfl, ?hy9x12⟩) (by assumption) ?rest9x12
        case hy9x12 => intro w hSw; obtain ⟨s0, s1, s2, s3⟩ := hSw; go_simp <;> with_reducible rfl
        simp only [Act.put, List.getElem_toArray, List.getElem_cons_zero, List.getElem_cons_succ, List.setIfInBounds_toArray, List.set_cons_zero, List.set_cons_succ]
        refine wpAnyH_take (i := 13) (v := ?v10x13) rfl (by kernel_rfl) (by kernel_rfl) (by kernel_rfl) (fun _ _ _ h => h) (Or.inl ⟨by rfl, ?hy10x13⟩) (by assumption) ?rest10x13
        case hy10x13 => intro w hSw; obtain ⟨s0, s1, s2, s3⟩ := hSw; go_simp <;> with_reducible rfl
        simp only [Act.put, List.getElem_toArray, List.getElem_cons_zero, List.getElem_cons_succ, List.setIfInBounds_toArray, List.set_cons_zero, List.set_cons_succ]
        refine wpAnyH_ready (rs := [14]) (by kernel_rfl) (by simp) ?_
        refine AllReadyH.cons rfl (fun K hK => ?_) AllReadyH.nil
        go_simp
        refine hK _ _ (unhide HCS) ?_
        clear hK hHeld
        intro hHeld
        refine wpAnyH_done (by kernel_rfl) ?_ _
        go_wp2_with fail
        go_meet
        case rel => exact unhide HP10
      · skip
        obtain ⟨t1, t2, t3⟩ := unhide HL0
        clear t1 t3
        go_simp
        refine hK _ _ (unhide HC _ (unhide HBZ).2.1) ?_
        clear hK hHeld
        intro hHeld
        clear t2
        refine wpAnyH_take (i := 10) (v := (tailV 4 ao nl cap r)) rfl (by kernel_rfl) (by kernel_rfl) (by kernel_rfl) (fun _ _ _ h => h) (Or.inl ⟨by rfl, ?hy11x10⟩) (by assumption) ?rest11x10
        case hy11x10 => intro w hSw; exact run_sliceE Tryd.underlying63 rfl rfl (unhide HS3 w)
        simp only [Act.put, List.getElem_toArray, List.getElem_cons_zero, List.getElem_cons_succ, List.setIfInBounds_toArray, List.set_cons_zero, List.set_cons_succ]
        refine wpAnyH_ready (rs := [4]) (by kernel_rfl) (by simp) ?_
        refine AllReadyH.cons rfl (fun K hK => ?_) AllReadyH.nil
        rw [if_pos (by rfl)]
        refine append_upon rfl rfl rfl (unhide HQ2) ?_
        simp only [Act.put, List.getElem_toArray, List.getElem_cons_zero, List.getElem_cons_succ, List.setIfInBounds_toArray, List.set_cons_zero, List.set_cons_succ]
        refine hK _ _ (unhide HC _ (unhide HBZ).2.2.1) ?_
        clear hK hHeld
        intro hHeld
        refine wpAnyH_ready (rs := [11]) (by kernel_rfl) (by simp) ?_
        refine AllReadyH.cons rfl (fun K hK => ?_) AllReadyH.nil
        rw [if_pos (by rfl)]
        refine append_upon rfl rfl rfl (unhide HQ3) ?_
        simp only [Act.put, List.getElem_toArray, List.getElem_cons_zero, List.getElem_cons_succ, List.setIfInBounds_toArray, List.set_cons_zero, List.set_cons_succ]
        refine hK _ _ (unhide HC _ (unhide HBZ).2.2.2) ?_
        clear hK hHeld
        intro hHeld
        refine wpAnyH_take (i := 12) (v := ?v12x12) rfl (by kernel_rfl) (by kernel_rfl) (by kernel_rfl) (fun _ _ _ h => h) (Or.inl ⟨by rfl, ?hy12x12⟩) (by assumption) ?rest12x12
        case hy12x12 => intro w hSw; obtain ⟨s0, s1, s2, s3⟩ := hSw; go_simp <;> with_reducible rfl
        simp only [Act.put, List.getElem_toArray, List.getElem_cons_zero, List.getElem_cons_succ, List.setIfInBounds_toArray, List.set_cons_zero, List.set_cons_succ]
        refine wpAnyH_take (i := 13) (v := ?v13x13) rfl (by kernel_rfl) (by kernel_rfl) (by kernel_rfl) (fun _ _ _ h => h) (Or.inl ⟨by rfl, ?hy13x13⟩) (by assumption) ?rest13x13
        case hy13x13 => intro w hSw; obtain ⟨s0, s1, s2, s3⟩ := hSw; go_simp <;> with_reducible rfl
        simp only [Act.put, List.getElem_toArray, List.getElem_cons_zero, List.getElem_cons_succ, List.setIfInBounds_toArray, List.set_cons_zero, List.set_cons_succ]
        refine wpAnyH_ready (rs := [14]) (by kernel_rfl) (by simp) ?_
        refine AllReadyH.cons rfl (fun K hK => ?_) AllReadyH.nil
        go_simp
        refine hK _ _ (unhide HCS) ?_
        clear hK hHeld
        intro hHeld
        refine wpAnyH_done (by kernel_rfl) ?_ _
        go_wp2_with fail
        go_meet
        case rel => exact unhide HP10
    · skip
      obtain ⟨t1, t2, t3⟩ := unhide HL0
      clear t2 t3
      go_simp
      refine hK _ _ (unhide HC _ (unhide HBZ).1) ?_
      clear hK hHeld
      intro hHeld
      clear t1
      refine wpAnyH_take (i := 10) (v := (tailV 4 ao nl cap r)) rfl (by kernel_rfl) (by kernel_rfl) (by kernel_rfl) (fun _ _ _ h => h) (Or.inl ⟨by rfl, ?hy14x10⟩) (by assumption) ?rest14x10
      case hy14x10 => intro w hSw; exact run_sliceE Tryd.underlying63 rfl rfl (unhide HS3 w)
      simp only [Act.put, List.getElem_toArray, List.getElem_cons_zero, List.getElem_cons_succ, List.setIfInBounds_toArray, List.set_cons_zero, List.set_cons_succ]
      refine wpAnyH_ready (rs := [3]) (by kernel_rfl) (by simp) ?_
      refine AllReadyH.cons rfl (fun K hK => ?_) AllReadyH.nil
      go_simp
      rw [unhide HY1]
      refine hK _ _ (unhide HC _ (unhide HBZ).2.1) ?_
      clear hK hHeld
      intro hHeld
      refine wpAnyH_ready (rs := [4]) (by kernel_rfl) (by simp) ?_
      refine AllReadyH.cons rfl (fun K hK => ?_) AllReadyH.nil
      rw [if_pos (by rfl)]
      refine append_upon rfl rfl rfl (unhide HQ2) ?_
      simp only [Act.put, List.getElem_toArray, List.getElem_cons_zero, List.getElem_cons_succ, List.setIfInBounds_toArray, List.set_cons_zero, List.set_cons_succ]
      refine hK _ _ (unhide HC _ (unhide HBZ).2.2.1) ?_
      clear hK hHeld
      intro hHeld
      refine wpAnyH_ready (rs := [11]) (by kernel_rfl) (by simp) ?_
      refine AllReadyH.cons rfl (fun K hK => ?_) AllReadyH.nil
      rw [if_pos (by rfl)]
      refine append_upon rfl rfl rfl (unhide HQ3) ?_
      simp only [Act.put, List.getElem_toArray, List.getElem_cons_zero, List.getElem_cons_succ, List.setIfInBounds_toArray, List.set_cons_zero, List.set_cons_succ]
      refine hK _ _ (unhide HC _ (unhide HBZ).2.2.2) ?_
      clear hK hHeld
      intro hHeld
      refine wpAnyH_take (i := 12) (v := ?v15x12) rfl (by kernel_rfl) (by kernel_rfl) (by kernel_rfl) (fun _ _ _ h => h) (Or.inl ⟨by rfl, ?hy15x12⟩) (by assumption) ?rest15x12
      case hy15x12 => intro w hSw; obtain ⟨s0, s1, s2, s3⟩ := hSw; go_simp <;> with_reducible rfl
      simp only [Act.put, List.getElem_toArray, List.getElem_cons_zero, List.getElem_cons_succ, List.setIfInBounds_toArray, List.set_cons_zero, List.set_cons_succ]
      refine wpAnyH_take (i := 13) (v := ?v16x13) rfl (by kernel_rfl) (by kernel_rfl) (by kernel_rfl) (fun _ _ _ h => h) (Or.inl ⟨by rfl, ?hy16x13⟩) (by assumption) ?rest16x13
      case hy16x13 => intro w hSw; obtain ⟨s0, s1, s2, s3⟩ := hSw; go_simp <;> with_reducible rfl
      simp only [Act.put, List.getElem_toArray, List.getElem_cons_zero, List.getElem_cons_succ, List.setIfInBounds_toArray, List.set_cons_zero, List.set_cons_succ]
      refine wpAnyH_ready (rs := [14]) (by kernel_rfl) (by simp) ?_
      refine AllReadyH.cons rfl (fun K hK => ?_) AllReadyH.nil
      go_simp
      refine hK _ _ (unhide HCS) ?_
      clear hK hHeld
      intro hHeld
      refine wpAnyH_done (by kernel_rfl) ?_ _
      go_wp2_with fail
      go_meet
      case rel => exact unhide HP10
  case rest =>
    obtain ⟨a4, c4, x4, o4, U4⟩ := hcut
    obtain ⟨hB1, hn1, hx, hvh, hxlt, hL1⟩ := unhide HW
    obtain ⟨hfd, hm, hlh, hX⟩ := unhide HLL
    obtain ⟨hX', hg⟩ := unhide HG
    have hvh4 := own_upd hvh U4 (fun cs => by rw [hx]; simp)
    obtain ⟨bo, bcap, rfl⟩ := own_shape hvh
    have hsh4 := (own_sees iC_len (by decide) hvh4).2
    obtain ⟨_, _, _, _, e1, hbcap, -⟩ := id hsh4
    simp only [Value.slice.injEq, true_and] at e1
    obtain ⟨rfl, rfl⟩ := e1
    have hx4lt : xb < wc.heap.size := (Array.getElem?_eq_some_iff.1 x4).1
    obtain ⟨a5, c5, z5, q5, o5, b5⟩ := rtI.ins1 hsh4 (j := r) (by omega) (by omega)
    have x5 := (b5.block xb hx4lt).trans x4
    have h5s := b5.size
    have HD := hide (rdraw_any (w := z5.drew) (luck := X) x5 hX)
    rw [hX', hg] at HD
    obtain ⟨nh, hnh⟩ : ∃ n, hs.length = n := ⟨_, rfl⟩
    obtain ⟨rr, hrr⟩ : ∃ n, r + 1 = n := ⟨_, rfl⟩
    obtain ⟨m7, hm7⟩ : ∃ n, r + 1 + (nh - r) = n := ⟨_, rfl⟩
    have HTAIL : Hid (∀ w6, RX w6 xb (.slice a4 L1.length c4) (.slice bo nh bcap) X' → Upd (fun k => k = xb) z5.drew.heap.size z5.drew w6 → ∃ a2 c2 t2 a3 c3 t3, (Builtin.append_ #[67, 67] 67 #[.slice a5 r c5, .slice (some ⟨w6.heap.size, 0, none⟩) 1 1]).run Tryd.prog (w6.alloc (.cells #[.int .i64 g] 3)) = .ok (.slice a2 rr c2) t2 ∧ (Builtin.append_ #[67, 67] 67 #[.slice a2 rr c2, tailV 1 bo nh bcap r]).run Tryd.prog t2 = .ok (.slice a3 m7 c3) t3 ∧ w6.cell? ⟨xb, 1, none⟩ = some (.slice bo nh bcap) ∧ (w6.alloc (.cells #[.int .i64 g] 3)).cell? ⟨xb, 1, none⟩ = some (.slice bo nh bcap) ∧ t2.cell? ⟨xb, 1, none⟩ = some (.slice bo nh bcap) ∧ t3.cell? ⟨xb, 1, none⟩ = some (.slice bo nh bcap) ∧ t3.frozen? ⟨xb, 1, none⟩ = false ∧ Rf (t3.setCell ⟨xb, 1, none⟩ (.slice a3 m7 c3)) base xb (l.take r ++ ((k0, k1), v, s) :: l.drop r) (hs.take r ++ g :: hs.drop r) X' ∧ Upd (fun k => k = xb) n0 w (t3.setCell ⟨xb, 1, none⟩ (.slice a3 m7 c3))) := by
      intro w6 h6 U6
      have b5d : Below wc.heap.size wc z5.drew := b5.drew
      have hz6 : z5.heap.size ≤ w6.heap.size := U6.size
      have bal : Below w6.heap.size w6 (w6.alloc (.cells #[.int .i64 g] 3)) := below_box _
      have hB6 : wc.heap.size ≤ w6.heap.size := Nat.le_trans h5s hz6
      have ne69 : ∀ cs : Array Value, ∀ e : Nat, e ≠ 69 → z5.drew.heap[xb]? ≠ some (.cells cs e) := fun cs e he c => by
        have c' : z5.heap[xb]? = some (.cells cs e) := c
        rw [x5] at c'
        simp only [Option.some.injEq, Obj.cells.injEq] at c'
        exact he c'.2.1.symm
      have o6 := own_below (own_upd (own_drewB o5) U6 (fun cs => ne69 cs 3 (by decide))) bal
      have v6 := own_below (own_upd (own_below hvh4 b5d) U6 (fun cs => ne69 cs 3 (by decide))) bal
      have l6 := own_below (own_upd (own_below o4 b5d) U6 (fun cs => ne69 cs 32 (by decide))) bal
      obtain ⟨a2, c2, t2, a3, c3, t3, p2, p3, o7, b2, b3⟩ := rtI.three o6 (B := wc.heap.size) (by have := bal.size; omega) (sees_oneI w6 g) (D := hs) (ov := bo) (oc := bcap) (m := hs.length) (fun Y' hb => (own_sees iC_len (by decide) (own_keep v6 fun j hj => hb.block j (hvh4.lt j hj).2)).2) (by omega) (by omega)
      have x6 : (w6.alloc (.cells #[.int .i64 g] 3)).heap[xb]? = _ := (bal.block xb (Array.getElem?_eq_some_iff.1 h6).1).trans h6
      have x62 := (b2.block xb hx4lt).trans x6
      have x63 := (b3.block xb hx4lt).trans x6
      rw [hrr] at p2
      rw [hrr] at p3
      rw [hnh] at p3
      have hm7' : rr + (nh - r) = m7 := by omega
      rw [hm7'] at p3
      rw [show r + 1 + (hs.length - r) = m7 by omega] at o7
      refine ⟨a2, c2, t2, a3, c3, t3, p2, p3, cell_at h6, cell_at x6, cell_at x62, cell_at x63, frozen_of_heap x63, ⟨⟨_, _, heap_setCell_same t3 xb 1 _ 69 _ x63, ?_, ?_⟩⟩, ?_⟩
      · have e1 : l.take r ++ ((k0, k1), v, s) :: l.drop r = L1 := by rw [← hL1, List.append_assoc]; rfl
        rw [e1]
        exact own_mono (own_setOther (own_keep l6 fun j hj => b3.block j (o4.lt j hj).2) hxlt) (by omega)
      · have e1 : (hs.take r ++ g :: hs.drop r).length = m7 := by simp; omega
        rw [e1]
        rw [show hs.take r ++ [g] ++ hs.drop r = hs.take r ++ g :: hs.drop r by simp] at o7
        exact own_mono (own_setOther o7 hx4lt) (by have := U4.size; omega)
      · have u1 : Upd (fun k => k = xb) w1.heap.size w1 (w6.alloc (.cells #[.int .i64 g] 3)) := (((U4.then b5d).trans (U6.less (by have := (U4.then b5d).size; exact this))).then bal)
        have u2 : Upd (fun k => k = xb) w1.heap.size w1 t3 := u1.trans ((Upd.of b3).less (by have := U4.size; omega))
        exact (Upd.of hB1).trans ((u2.setCell (p := ⟨xb, 1, none⟩) (.inl rfl) _).less (by omega))
    have c41 : wc.cell? ⟨xb, 1, none⟩ = some (.slice bo nh bcap) := by rw [← hnh]; exact cell_at x4
    have HL5 : Hid (z5.drew.cell? ⟨xb, 1, none⟩ = some (.slice bo nh bcap)) := by rw [← hnh]; exact cell_at x5
    have HS5 := hide (rtI.head bo nh bcap r (by omega))
    have HS7 := hide (rtI.tail bo nh bcap r (by omega))
    have HQ5 := hide q5
    rw [hnh] at HD
    rw [hnh] at hbcap
    clear hB1 hn1 hx hvh hxlt hL1 hfd hm hlh hX hX' hg x4 o4 U4 hvh4 hsh4 hx4lt o5 b5 x5 h5s q5 hnh hrr hm7 c0 e3 f3
    go_upto_region 12 with (first | ((with_reducible show wpList _ _ _ (⟨some 64, _, _, _, _, _⟩ :: _) _ _); refine wpList_slice_wanted (x := .tmp 62) (by rfl) Tryd.underlying67 rfl rfl (unhide HS5 _) ?_) | ((with_reducible show wpList _ _ _ (⟨some 65, _, _, _, _, _⟩ :: _) _ _); refine wpList_append_wanted (by rfl) (.const (.slice none 0 0)) (.tmp 64) 67 rfl rfl rfl (unhide HQ5) ?_))
    refine wp_region_held_drew (S := fun _ => True) (by kernel_rfl) trivial (fun hHeld => ?_)
    refine wpAnyH_take (i := 0) (v := ?v17x0) rfl (by kernel_rfl) (by kernel_rfl) (by kernel_rfl) (fun _ _ _ h => h) (Or.inl ⟨by rfl, ?hy17x0⟩) (by assumption) ?rest17x0
    case hy17x0 => intro w hSw; go_simp <;> with_reducible rfl
    simp only [Act.put, List.getElem_toArray, List.getElem_cons_zero, List.setIfInBounds_toArray, List.set_cons_zero, List.set_cons_succ]
    refine wpAnyH_take (i := 1) (v := ?v18x1) rfl (by kernel_rfl) (by kernel_rfl) (by kernel_rfl) (fun _ _ _ h => h) (Or.inl ⟨by rfl, ?hy18x1⟩) (by assumption) ?rest18x1
    case hy18x1 => intro w hSw; go_simp <;> with_reducible rfl
    simp only [Act.put, List.getElem_toArray, List.getElem_cons_zero, List.getElem_cons_succ, List.setIfInBounds_toArray, List.set_cons_zero, List.set_cons_succ]
    refine wpAnyH_take (i := 2) (v := ?v19x2) rfl (by kernel_rfl) (by kernel_rfl) (by kernel_rfl) (fun _ _ _ h => h) (Or.inl ⟨by rfl, ?hy19x2⟩) (by assumption) ?rest19x2
    case hy19x2 => intro w hSw; go_simp <;> with_reducible rfl
    simp only [Act.put, List.getElem_toArray, List.getElem_cons_zero, List.getElem_cons_succ, List.setIfInBounds_toArray, List.set_cons_zero, List.set_cons_succ]
    refine wpAnyH_take (i := 6) (v := ?v20x6) rfl (by kernel_rfl) (by kernel_rfl) (by kernel_rfl) (fun _ _ _ h => h) (Or.inl ⟨by rfl, ?hy20x6⟩) (by assumption) ?rest20x6
    case hy20x6 => intro w hSw; go_simp <;> with_reducible rfl
    simp only [Act.put, List.getElem_toArray, List.getElem_cons_zero, List.getElem_cons_succ, List.setIfInBounds_toArray, List.set_cons_zero, List.set_cons_succ]
    refine wpAnyH_take (i := 7) (v := ?v21x7) rfl (by kernel_rfl) (by kernel_rfl) (by kernel_rfl) (fun _ _ _ h => h) (Or.inl ⟨by rfl, ?hy21x7⟩) (by assumption) ?rest21x7
    case hy21x7 => intro w hSw; go_simp <;> with_reducible rfl
    simp only [Act.put, List.getElem_toArray, List.getElem_cons_zero, List.getElem_cons_succ, List.setIfInBounds_toArray, List.set_cons_zero, List.set_cons_succ]
    refine wpAnyH_take (i := 8) (v := ?v22x8) rfl (by kernel_rfl) (by kernel_rfl) (by kernel_rfl) (fun _ _ _ h => h) (Or.inl ⟨by rfl, ?hy22x8⟩) (by assumption) ?rest22x8
    case hy22x8 => intro w hSw; go_simp <;> with_reducible rfl
    simp only [Act.put, List.getElem_toArray, List.getElem_cons_zero, List.getElem_cons_succ, List.setIfInBounds_toArray, List.set_cons_zero, List.set_cons_succ]
    refine wpAnyH_take (i := 10) (v := ?v23x10) rfl (by kernel_rfl) (by kernel_rfl) (by kernel_rfl) (fun _ _ _ h => h) (Or.inl ⟨by rfl, ?hy23x10⟩) (by assumption) ?rest23x10
    case hy23x10 => intro w hSw; go_simp <;> with_reducible rfl
    simp only [Act.put, List.getElem_toArray, List.getElem_cons_zero, List.getElem_cons_succ, List.setIfInBounds_toArray, List.set_cons_zero, List.set_cons_succ]
    refine wpAnyH_ready (rs := [3, 9]) (by kernel_rfl) (by simp) ?_
    refine AllReadyH.cons rfl (fun K hK => ?_) (AllReadyH.cons rfl (fun K hK => ?_) AllReadyH.nil)
    · skip
      go_simp
      refine (unhide HD).mono ?_
      rintro e w6 ⟨rfl, h6, U6⟩
      obtain ⟨a2, c2, t2, a3, c3, t3, p2, p3, d6, d1, d2, d3, f3, hR, hU⟩ := unhide HTAIL w6 h6 U6
      have HP2 := hide p2
      have HP3 := hide p3
      have HD1 := hide d1
      have HD2 := hide d2
      have HFN := hide (And.intro hR hU)
      clear p2 p3 d1 d2 hR hU h6 U6
      refine hK _ _ trivial ?_
      clear hK hHeld
      intro hHeld
      refine wpAnyH_ready (rs := [4, 9]) (by kernel_rfl) (by simp) ?_
      refine AllReadyH.cons rfl (fun K hK => ?_) (AllReadyH.cons rfl (fun K hK => ?_) AllReadyH.nil)
      · skip
        go_simp
        refine hK _ _ trivial ?_
        clear hK hHeld
        intro hHeld
        refine wpAnyH_ready (rs := [5, 9]) (by kernel_rfl) (by simp) ?_
        refine AllReadyH.cons rfl (fun K hK => ?_) (AllReadyH.cons rfl (fun K hK => ?_) AllReadyH.nil)
        · skip
          rw [if_pos (by rfl)]
          refine append_upon rfl rfl rfl (unhide HP2) ?_
          simp only [Act.put, List.getElem_toArray, List.getElem_cons_zero, List.getElem_cons_succ, List.setIfInBounds_toArray, List.set_cons_zero, List.set_cons_succ]
          refine hK _ _ trivial ?_
          clear hK hHeld
          intro hHeld
          refine wpAnyH_ready (rs := [9]) (by kernel_rfl) (by simp) ?_
          refine AllReadyH.cons rfl (fun K hK => ?_) AllReadyH.nil
          have h9 := unhide HD2
          go_simp
          refine hK _ _ trivial ?_
          clear hK hHeld
          intro hHeld
          refine wpAnyH_take (i := 11) (v := (tailV 1 bo nh bcap r)) rfl (by kernel_rfl) (by kernel_rfl) (by kernel_rfl) (fun _ _ _ h => h) (Or.inl ⟨by rfl, ?hy24x11⟩) (by assumption) ?rest24x11
          case hy24x11 => intro w hSw; exact run_sliceE Tryd.underlying67 rfl rfl (unhide HS7 w)
          simp only [Act.put, List.getElem_toArray, List.getElem_cons_zero, List.getElem_cons_succ, List.setIfInBounds_toArray, List.set_cons_zero, List.set_cons_succ]
          refine wpAnyH_ready (rs := [12]) (by kernel_rfl) (by simp) ?_
          refine AllReadyH.cons rfl (fun K hK => ?_) AllReadyH.nil
          rw [if_pos (by rfl)]
          refine append_upon rfl rfl rfl (unhide HP3) ?_
          simp only [Act.put, List.getElem_toArray, List.getElem_cons_zero, List.getElem_cons_succ, List.setIfInBounds_toArray, List.set_cons_zero, List.set_cons_succ]
          refine hK _ _ trivial ?_
          clear hK hHeld
          intro hHeld
          refine wpAnyH_take (i := 13) (v := ?v25x13) rfl (by kernel_rfl) (by kernel_rfl) (by kernel_rfl) (fun _ _ _ h => h) (Or.inl ⟨by rfl, ?hy25x13⟩) (by assumption) ?rest25x13
          case hy25x13 => intro w hSw; go_simp <;> with_reducible rfl
          simp only [Act.put, List.getElem_toArray, List.getElem_cons_zero, List.getElem_cons_succ, List.setIfInBounds_toArray, List.set_cons_zero, List.set_cons_succ]
          refine wpAnyH_take (i := 14) (v := ?v26x14) rfl (by kernel_rfl) (by kernel_rfl) (by kernel_rfl) (fun _ _ _ h => h) (Or.inl ⟨by rfl, ?hy26x14⟩) (by assumption) ?rest26x14
          case hy26x14 => intro w hSw; go_simp <;> with_reducible rfl
          simp only [Act.put, List.getElem_toArray, List.getElem_cons_zero, List.getElem_cons_succ, List.setIfInBounds_toArray, List.set_cons_zero, List.set_cons_succ]
          refine wpAnyH_ready (rs := [15]) (by kernel_rfl) (by simp) ?_
          refine AllReadyH.cons rfl (fun K hK => ?_) AllReadyH.nil
          go_simp
          refine hK _ _ trivial ?_
          clear hK hHeld
          intro hHeld
          refine wpAnyH_done (by kernel_rfl) ?_ _
          go_wp2
          go_ret
          exact ⟨rfl, (unhide HFN).1, (unhide HFN).2⟩
        · skip
          have h9 := unhide HD1
          go_simp
          refine hK _ _ trivial ?_
          clear hK hHeld
          intro hHeld
          refine wpAnyH_take (i := 11) (v := (tailV 1 bo nh bcap r)) rfl (by kernel_rfl) (by kernel_rfl) (by kernel_rfl) (fun _ _ _ h => h) (Or.inl ⟨by rfl, ?hy27x11⟩) (by assumption) ?rest27x11
          case hy27x11 => intro w hSw; exact run_sliceE Tryd.underlying67 rfl rfl (unhide HS7 w)
          simp only [Act.put, List.getElem_toArray, List.getElem_cons_zero, List.getElem_cons_succ, List.setIfInBounds_toArray, List.set_cons_zero, List.set_cons_succ]
          refine wpAnyH_ready (rs := [5]) (by kernel_rfl) (by simp) ?_
          refine AllReadyH.cons rfl (fun K hK => ?_) AllReadyH.nil
          rw [if_pos (by rfl)]
          refine append_upon rfl rfl rfl (unhide HP2) ?_
          simp only [Act.put, List.getElem_toArray, List.getElem_cons_zero, List.getElem_cons_succ, List.setIfInBounds_toArray, List.set_cons_zero, List.set_cons_succ]
          refine hK _ _ trivial ?_
          clear hK hHeld
          intro hHeld
          refine wpAnyH_ready (rs := [12]) (by kernel_rfl) (by simp) ?_
          refine AllReadyH.cons rfl (fun K hK => ?_) AllReadyH.nil
          rw [if_pos (by rfl)]
          refine append_upon rfl rfl rfl (unhide HP3) ?_
          simp only [Act.put, List.getElem_toArray, List.getElem_cons_zero, List.getElem_cons_succ, List.setIfInBounds_toArray, List.set_cons_zero, List.set_cons_succ]
          refine hK _ _ trivial ?_
          clear hK hHeld
          intro hHeld
          refine wpAnyH_take (i := 13) (v := ?v28x13) rfl (by kernel_rfl) (by kernel_rfl) (by kernel_rfl) (fun _ _ _ h => h) (Or.inl ⟨by rfl, ?hy28x13⟩) (by assumption) ?rest28x13
          case hy28x13 => intro w hSw; go_simp <;> with_reducible rfl
          simp only [Act.put, List.getElem_toArray, List.getElem_cons_zero, List.getElem_cons_succ, List.setIfInBounds_toArray, List.set_cons_zero, List.set_cons_succ]
          refine wpAnyH_take (i := 14) (v := ?v29x14) rfl (by kernel_rfl) (by kernel_rfl) (by kernel_rfl) (fun _ _ _ h => h) (Or.inl ⟨by rfl, ?hy29x14⟩) (by assumption) ?rest29x14
          case hy29x14 => intro w hSw; go_simp <;> with_reducible rfl
          simp only [Act.put, List.getElem_toArray, List.getElem_cons_zero, List.getElem_cons_succ, List.setIfInBounds_toArray, List.set_cons_zero, List.set_cons_succ]
          refine wpAnyH_ready (rs := [15]) (by kernel_rfl) (by simp) ?_
          refine AllReadyH.cons rfl (fun K hK => ?_) AllReadyH.nil
          go_simp
          refine hK _ _ trivial ?_
          clear hK hHeld
          intro hHeld
          refine wpAnyH_done (by kernel_rfl) ?_ _
          go_wp2
          go_ret
          exact ⟨rfl, (unhide HFN).1, (unhide HFN).2⟩
      · skip
        go_simp
        refine hK _ _ trivial ?_
        clear hK hHeld
        intro hHeld
        refine wpAnyH_take (i := 11) (v := (tailV 1 bo nh bcap r)) rfl (by kernel_rfl) (by kernel_rfl) (by kernel_rfl) (fun _ _ _ h => h) (Or.inl ⟨by rfl, ?hy30x11⟩) (by assumption) ?rest30x11
        case hy30x11 => intro w hSw; exact run_sliceE Tryd.underlying67 rfl rfl (unhide HS7 w)
        simp only [Act.put, List.getElem_toArray, List.getElem_cons_zero, List.getElem_cons_succ, List.setIfInBounds_toArray, List.set_cons_zero, List.set_cons_succ]
        refine wpAnyH_ready (rs := [4]) (by kernel_rfl) (by simp) ?_
        refine AllReadyH.cons rfl (fun K hK => ?_) AllReadyH.nil
        go_simp
        refine hK _ _ trivial ?_
        clear hK hHeld
        intro hHeld
        refine wpAnyH_ready (rs := [5]) (by kernel_rfl) (by simp) ?_
        refine AllReadyH.cons rfl (fun K hK => ?_) AllReadyH.nil
        rw [if_pos (by rfl)]
        refine append_upon rfl rfl rfl (unhide HP2) ?_
        simp only [Act.put, List.getElem_toArray, List.getElem_cons_zero, List.getElem_cons_succ, List.setIfInBounds_toArray, List.set_cons_zero, List.set_cons_succ]
        refine hK _ _ trivial ?_
        clear hK hHeld
        intro hHeld
        refine wpAnyH_ready (rs := [12]) (by kernel_rfl) (by simp) ?_
        refine AllReadyH.cons rfl (fun K hK => ?_) AllReadyH.nil
        rw [if_pos (by rfl)]
        refine append_upon rfl rfl rfl (unhide HP3) ?_
        simp only [Act.put, List.getElem_toArray, List.getElem_cons_zero, List.getElem_cons_succ, List.setIfInBounds_toArray, List.set_cons_zero, List.set_cons_succ]
        refine hK _ _ trivial ?_
        clear hK hHeld
        intro hHeld
        refine wpAnyH_take (i := 13) (v := ?v31x13) rfl (by kernel_rfl) (by kernel_rfl) (by kernel_rfl) (fun _ _ _ h => h) (Or.inl ⟨by rfl, ?hy31x13⟩) (by assumption) ?rest31x13
        case hy31x13 => intro w hSw; go_simp <;> with_reducible rfl
        simp only [Act.put, List.getElem_toArray, List.getElem_cons_zero, List.getElem_cons_succ, List.setIfInBounds_toArray, List.set_cons_zero, List.set_cons_succ]
        refine wpAnyH_take (i := 14) (v := ?v32x14) rfl (by kernel_rfl) (by kernel_rfl) (by kernel_rfl) (fun _ _ _ h => h) (Or.inl ⟨by rfl, ?hy32x14⟩) (by assumption) ?rest32x14
        case hy32x14 => intro w hSw; go_simp <;> with_reducible rfl
        simp only [Act.put, List.getElem_toArray, List.getElem_cons_zero, List.getElem_cons_succ, List.setIfInBounds_toArray, List.set_cons_zero, List.set_cons_succ]
        refine wpAnyH_ready (rs := [15]) (by kernel_rfl) (by simp) ?_
        refine AllReadyH.cons rfl (fun K hK => ?_) AllReadyH.nil
        go_simp
        refine hK _ _ trivial ?_
        clear hK hHeld
        intro hHeld
        refine wpAnyH_done (by kernel_rfl) ?_ _
        go_wp2
        go_ret
        exact ⟨rfl, (unhide HFN).1, (unhide HFN).2⟩
    · skip
      have h9 := unhide HL5
      go_simp
      refine hK _ _ trivial ?_
      clear hK hHeld
      intro hHeld
      refine wpAnyH_take (i := 11) (v := (tailV 1 bo nh bcap r)) rfl (by kernel_rfl) (by kernel_rfl) (by kernel_rfl) (fun _ _ _ h => h) (Or.inl ⟨by rfl, ?hy33x11⟩) (by assumption) ?rest33x11
      case hy33x11 => intro w hSw; exact run_sliceE Tryd.underlying67 rfl rfl (unhide HS7 w)
      simp only [Act.put, List.getElem_toArray, List.getElem_cons_zero, List.getElem_cons_succ, List.setIfInBounds_toArray, List.set_cons_zero, List.set_cons_succ]
      refine wpAnyH_ready (rs := [3]) (by kernel_rfl) (by simp) ?_
      refine AllReadyH.cons rfl (fun K hK => ?_) AllReadyH.nil
      go_simp
      refine (unhide HD).mono ?_
      rintro e w6 ⟨rfl, h6, U6⟩
      obtain ⟨a2, c2, t2, a3, c3, t3, p2, p3, d6, d1, d2, d3, f3, hR, hU⟩ := unhide HTAIL w6 h6 U6
      have HP2 := hide p2
      have HP3 := hide p3
      have HD1 := hide d1
      have HD2 := hide d2
      have HFN := hide (And.intro hR hU)
      clear p2 p3 d1 d2 hR hU h6 U6
      refine hK _ _ trivial ?_
      clear hK hHeld
      intro hHeld
      refine wpAnyH_ready (rs := [4]) (by kernel_rfl) (by simp) ?_
      refine AllReadyH.cons rfl (fun K hK => ?_) AllReadyH.nil
      go_simp
      refine hK _ _ trivial ?_
      clear hK hHeld
      intro hHeld
      refine wpAnyH_ready (rs := [5]) (by kernel_rfl) (by simp) ?_
      refine AllReadyH.cons rfl (fun K hK => ?_) AllReadyH.nil
      rw [if_pos (by rfl)]
      refine append_upon rfl rfl rfl (unhide HP2) ?_
      simp only [Act.put, List.getElem_toArray, List.getElem_cons_zero, List.getElem_cons_succ, List.setIfInBounds_toArray, List.set_cons_zero, List.set_cons_succ]
      refine hK _ _ trivial ?_
      clear hK hHeld
      intro hHeld
      refine wpAnyH_ready (rs := [12]) (by kernel_rfl) (by simp) ?_
      refine AllReadyH.cons rfl (fun K hK => ?_) AllReadyH.nil
      rw [if_pos (by rfl)]
      refine append_upon rfl rfl rfl (unhide HP3) ?_
      simp only [Act.put, List.getElem_toArray, List.getElem_cons_zero, List.getElem_cons_succ, List.setIfInBounds_toArray, List.set_cons_zero, List.set_cons_succ]
      refine hK _ _ trivial ?_
      clear hK hHeld
      intro hHeld
      refine wpAnyH_take (i := 13) (v := ?v34x13) rfl (by kernel_rfl) (by kernel_rfl) (by kernel_rfl) (fun _ _ _ h => h) (Or.inl ⟨by rfl, ?hy34x13⟩) (by assumption) ?rest34x13
      case hy34x13 => intro w hSw; go_simp <;> with_reducible rfl
      simp only [Act.put, List.getElem_toArray, List.getElem_cons_zero, List.getElem_cons_succ, List.setIfInBounds_toArray, List.set_cons_zero, List.set_cons_succ]
      refine wpAnyH_take (i := 14) (v := ?v35x14) rfl (by kernel_rfl) (by kernel_rfl) (by kernel_rfl) (fun _ _ _ h => h) (Or.inl ⟨by rfl, ?hy35x14⟩) (by assumption) ?rest35x14
      case hy35x14 => intro w hSw; go_simp <;> with_reducible rfl
      simp only [Act.put, List.getElem_toArray, List.getElem_cons_zero, List.getElem_cons_succ, List.setIfInBounds_toArray, List.set_cons_zero, List.set_cons_succ]
      refine wpAnyH_ready (rs := [15]) (by kernel_rfl) (by simp) ?_
      refine AllReadyH.cons rfl (fun K hK => ?_) AllReadyH.nil
      go_simp
      refine hK _ _ trivial ?_
      clear hK hHeld
      intro hHeld
      refine wpAnyH_done (by kernel_rfl) ?_ _
      go_wp2
      go_ret
      exact ⟨rfl, (unhide HFN).1, (unhide HFN).2⟩
end Go.Proofs.YtdcmkapfcmibeaaDoor
