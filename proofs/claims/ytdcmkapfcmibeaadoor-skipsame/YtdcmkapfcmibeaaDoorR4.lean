/- The document's Erase. -/
import Derived.Test.YtdcmkapfcmibeaaDoorF0
import Derived.Test.YtdcmkapfcmibeaaDoorR2
namespace Go.Proofs.YtdcmkapfcmibeaaDoor
open Go.RowKit Go.Shelf
attribute [local go_sem] Oper.semAt_some
set_option maxRecDepth 100000

/-- A row of a store that was cut or grown anew: rows of a store whose own struct alone turned. -/
theorem upd_size {S : Nat → Prop} {N : Nat} {w w' : World} (h : Upd S N w w') : w.heap.size ≤ w'.heap.size := h.size
theorem Upd.then {S : Nat → Prop} {a b c : World} (h : Upd S a.heap.size a b) (k : Below b.heap.size b c) : Upd S a.heap.size a c :=
  h.trans ⟨k.os, k.tape, k.output, k.size, fun i hi _ => k.block i (Nat.lt_of_lt_of_le hi h.size)⟩
theorem fd_le (k : Ky) (l : List Pr) : fd k l ≤ l.length := by
  unfold fd
  exact (List.takeWhile_sublist _).length_le
theorem fd_lt {k : Ky} {l : List Pr} (h : isAt k l = true) : fd k l < l.length := by
  unfold isAt at h
  have h' := of_decide_eq_true h
  cases e : l[fd k l]? with
  | none => rw [e] at h'; cases h'
  | some c => exact (List.getElem?_eq_some_iff.1 e).1
set_option maxHeartbeats 1000000 in
theorem rerase_none {w : World} {base xb : Nat} {l : List Pr} {hs : List Int} {X : Int} (h : Rf w base xb l hs X) (k : Ky) (hno : isAt k l = false) :
    Calls Tryd.prog 36 #[PN xb, .agg #[.int .i32 k.1, .int .i64 k.2]] w fun e w' => e = .returned (.int .i64 4) ∧ Below w.heap.size w w' := by
  obtain ⟨n0, hn0⟩ : ∃ x, w.heap.size = x := ⟨_, rfl⟩
  obtain ⟨W1, hW1⟩ : ∃ W, w.alloc (.cells #[.int .i32 k.1, .int .i64 k.2] 30) = W := ⟨_, rfl⟩
  have hb : Below n0 w W1 := by rw [← hW1, ← hn0]; exact (Below.refl _ _).alloc (Nat.le_refl _) _
  have kk : W1.heap[n0]? = some (.cells #[.int .i32 k.1, .int .i64 k.2] 30) := by rw [← hW1, ← hn0]; exact heap_new1 _ _
  have kc0 : W1.cell? ⟨n0, 0, none⟩ = some (.int .i32 k.1) := cell_at kk
  have kc1 : W1.cell? ⟨n0, 1, none⟩ = some (.int .i64 k.2) := cell_at kk
  have HF := hide (rfind_any (h.below (w' := W1) (by rw [hn0]; exact hb)) k)
  rw [hno] at HF
  have HBB := hide hb
  rw [hn0]
  obtain ⟨r, hr⟩ : ∃ r : Nat, fd k l = r := ⟨_, rfl⟩
  rw [hr] at HF
  clear kk h hb hr hno
  go_enter Tryd.func36, Tryd.ntmps36
  go_wp2_with fail
  try rw [hW1]
  refine (unhide HF).mono ?_
  rintro e w1 ⟨rfl, hb1⟩
  clear hW1
  have HB1 : Hid (Below n0 w w1) := (unhide HBB).trans (hb1.mono (by have := (unhide HBB).size; omega))
  clear hb1
  go_wp2
  go_ret
  exact ⟨rfl, unhide HB1⟩

set_option maxHeartbeats 400000 in
theorem rerase_has {w : World} {base xb : Nat} {l : List Pr} {hs : List Int} {X : Int} (h : Rf w base xb l hs X) (k : Ky) (hbase : base ≤ w.heap.size) (hm : l.length ≤ 1048576) (hlh : hs.length = l.length) (his : isAt k l = true) :
    Calls Tryd.prog 36 #[PN xb, .agg #[.int .i32 k.1, .int .i64 k.2]] w fun e w' => e = .returned (.int .i64 0) ∧ Rf w' base xb (l.take (fd k l) ++ l.drop (fd k l + 1)) (hs.take (fd k l) ++ hs.drop (fd k l + 1)) X ∧ Upd (fun k => k = xb) w.heap.size w w' := by
  have hfd := fd_lt his
  obtain ⟨n0, hn0⟩ : ∃ x, w.heap.size = x := ⟨_, rfl⟩
  obtain ⟨W1, hW1⟩ : ∃ W, w.alloc (.cells #[.int .i32 k.1, .int .i64 k.2] 30) = W := ⟨_, rfl⟩
  have hb : Below n0 w W1 := by rw [← hW1, ← hn0]; exact (Below.refl _ _).alloc (Nat.le_refl _) _
  have kk : W1.heap[n0]? = some (.cells #[.int .i32 k.1, .int .i64 k.2] 30) := by rw [← hW1, ← hn0]; exact heap_new1 _ _
  have kc0 : W1.cell? ⟨n0, 0, none⟩ = some (.int .i32 k.1) := cell_at kk
  have kc1 : W1.cell? ⟨n0, 1, none⟩ = some (.int .i64 k.2) := cell_at kk
  have HF := hide (rfind_any (h.below (w' := W1) (by rw [hn0]; exact hb)) k)
  rw [his] at HF
  have HBB := hide hb
  have HH := hide h
  rw [hn0]
  obtain ⟨r, hr⟩ : ∃ r : Nat, fd k l = r := ⟨_, rfl⟩
  rw [hr] at HF hfd ⊢
  obtain ⟨r1, hr1⟩ : ∃ r1, r + 1 = r1 := ⟨_, rfl⟩
  rw [hr1]
  have HR1 := hide hr1
  clear hr1
  have HLL := hide (And.intro hfd (And.intro hm hlh))
  rw [hn0] at hbase
  clear kk h hb hr his hlh hm hfd
  go_enter Tryd.func36, Tryd.ntmps36
  go_wp2_with fail
  try rw [hW1]
  refine (unhide HF).mono ?_
  rintro e w1 ⟨rfl, hb1⟩
  clear hW1
  have hB1 : Below n0 w w1 := (unhide HBB).trans (hb1.mono (by have := (unhide HBB).size; omega))
  have hn1 : n0 ≤ w1.heap.size := by rw [← hn0]; exact hB1.size
  obtain ⟨hfd, hm, hlh⟩ := unhide HLL
  have h1 : Rf w1 base xb l hs X := (unhide HH).below (by rw [hn0]; exact hB1)
  have hxlt := h1.lt
  obtain ⟨vl, vh, hx, hvl, hvh⟩ := h1.at_
  obtain ⟨ao, cap, rfl⟩ := own_shape hvl
  obtain ⟨bo, bcap, rfl⟩ := own_shape hvh
  have hsl := (own_sees pC_len (by decide) hvl).2
  have hsh := (own_sees iC_len (by decide) hvh).2
  obtain ⟨_, _, _, _, e1, hcap, -⟩ := id hsl
  simp only [Value.slice.injEq, true_and] at e1
  obtain ⟨rfl, rfl⟩ := e1
  obtain ⟨_, _, _, _, e1, hbcap, -⟩ := id hsh
  simp only [Value.slice.injEq, true_and] at e1
  obtain ⟨rfl, rfl⟩ := e1
  rw [hlh] at hbcap
  have hr1 := unhide HR1
  have hwi : IntKind.i64.wrap ((r : Int) + 1) = (r1 : Int) := by rw [wrap_i64 _ (by omega) (by omega)]; omega
  -- the cells
  obtain ⟨a1, c1, z1, q1, o1, b1⟩ := rtP.ins1 hsl (j := r) (by omega) (by omega)
  have hs1 := b1.size
  have hlr : r1 ≤ l.length := by omega
  have hhr : r1 ≤ hs.length := by omega
  obtain ⟨a3, c3, z3, q3, o3, b3⟩ := rtP.ins3 o1 b1.size (hsl.below pC_len b1) (j := r1) (by omega) (by omega) (by omega)
  have U3 : Upd (fun k => k = xb) w1.heap.size w1 z3 := Upd.of (b1.trans b3)
  have x1 := (b1.block xb hxlt).trans hx
  have x3 := (b3.block xb hxlt).trans x1
  obtain ⟨x4, U4⟩ := rf_set (j := 0) hx U3 x3 (.slice a3 (r + (l.length - r1)) c3)
  obtain ⟨z4, hz4⟩ : ∃ z, z3.setCell ⟨xb, 0, none⟩ (.slice a3 (r + (l.length - r1)) c3) = z := ⟨_, rfl⟩
  have o4 := own_setOther (j := 0) (u := .slice a3 (r + (l.length - r1)) c3) o3 hxlt
  rw [hz4] at x4 U4 o4
  have x4' : z4.heap[xb]? = some (.cells #[.slice a3 (r + (l.length - r1)) c3, .slice bo hs.length bcap, .int .u64 X] 69) := x4
  -- the heights
  have hvh4 := own_upd hvh U4 (fun cs => by rw [hx]; simp)
  have hsh4 := (own_sees iC_len (by decide) hvh4).2
  have hx4lt : xb < z4.heap.size := (Array.getElem?_eq_some_iff.1 x4').1
  obtain ⟨a5, c5, z5, q5, o5, b5⟩ := rtI.ins1 hsh4 (j := r) (by omega) (by omega)
  have hs5 := b5.size
  obtain ⟨a7, c7, z7, q7, o7, b7⟩ := rtI.ins3 o5 b5.size (hsh4.below iC_len b5) (j := r1) (by omega) (by omega) (by omega)
  have U7 : Upd (fun k => k = xb) w1.heap.size w1 z7 := U4.then (b5.trans b7)
  have x5 := (b5.block xb hx4lt).trans x4'
  have x7 := (b7.block xb hx4lt).trans x5
  have U8 : Upd (fun k => k = xb) w1.heap.size w1 (z7.setCell ⟨xb, 1, none⟩ (.slice a7 (r + (hs.length - r1)) c7)) := U7.setCell (.inl rfl) _
  have x8 := heap_setCell_same z7 xb 1 _ 69 (.slice a7 (r + (hs.length - r1)) c7) x7
  have o8 := own_setOther (j := 1) (u := .slice a7 (r + (hs.length - r1)) c7) o7 hx4lt
  have p8 := own_setOther (j := 1) (u := .slice a7 (r + (hs.length - r1)) c7) (own_below o4 (b5.trans b7)) hxlt
  have HFIN : Hid (Rf (z7.setCell ⟨xb, 1, none⟩ (.slice a7 (r + (hs.length - r1)) c7)) base xb (l.take r ++ l.drop r1) (hs.take r ++ hs.drop r1) X ∧ Upd (fun k => k = xb) n0 w (z7.setCell ⟨xb, 1, none⟩ (.slice a7 (r + (hs.length - r1)) c7))) := by
    refine ⟨⟨⟨_, _, x8, ?_, ?_⟩⟩, (Upd.of hB1).trans (U8.less hn1)⟩
    · have e1 : (l.take r ++ l.drop r1).length = r + (l.length - r1) := by simp; omega
      rw [e1]; exact own_mono p8 (by omega)
    · have e1 : (hs.take r ++ hs.drop r1).length = r + (hs.length - r1) := by simp; omega
      rw [e1]; exact own_mono o8 (by have := U4.size; omega)
  have c0 : w1.cell? ⟨xb, 0, none⟩ = some (.slice ao l.length cap) := cell_at hx
  have d0 : z1.cell? ⟨xb, 0, none⟩ = some (.slice ao l.length cap) := cell_at x1
  have e0 : z3.cell? ⟨xb, 0, none⟩ = some (.slice ao l.length cap) := cell_at x3
  have f0 : z3.frozen? ⟨xb, 0, none⟩ = false := frozen_of_heap x3
  have c1' : z4.cell? ⟨xb, 1, none⟩ = some (.slice bo hs.length bcap) := cell_at x4'
  have d1 : z5.cell? ⟨xb, 1, none⟩ = some (.slice bo hs.length bcap) := cell_at x5
  have e1 : z7.cell? ⟨xb, 1, none⟩ = some (.slice bo hs.length bcap) := cell_at x7
  have f1 : z7.frozen? ⟨xb, 1, none⟩ = false := frozen_of_heap x7
  have HS1 := hide (rtP.head ao l.length cap r (by omega))
  have HS3 := hide (rtP.tail ao l.length cap r1 (by omega))
  have HS5 := hide (rtI.head bo hs.length bcap r (by omega))
  have HS7 := hide (rtI.tail bo hs.length bcap r1 (by omega))
  have HQ1 := hide q1
  have HQ3 := hide q3
  have HQ5 := hide q5
  have HQ7 := hide q7
  have HZ4 := hide hz4
  obtain ⟨nl, hnl⟩ : ∃ n, l.length = n := ⟨_, rfl⟩
  obtain ⟨nh, hnh⟩ : ∃ n, hs.length = n := ⟨_, rfl⟩
  obtain ⟨m3, hm3⟩ : ∃ n, r + (nl - r1) = n := ⟨_, rfl⟩
  obtain ⟨m7, hm7⟩ : ∃ n, r + (nh - r1) = n := ⟨_, rfl⟩
  rw [hnl] at c0 d0 e0 HS1 HS3 HQ3 HZ4
  rw [hnh] at c1' d1 e1 HS5 HS7 HQ7 HFIN
  rw [hm3] at HQ3 HZ4
  rw [hm7] at HQ7 HFIN
  clear hB1 h1 hvl hvh hsl hsh o1 b1 o3 b3 U3 x1 x3 x4 U4 o4 x4' hvh4 hsh4 hx4lt o5 b5 o7 b7 U7 x5 x7 U8 x8 o8 p8 hx q1 q3 q5 q7 hz4 hs1 hs5 hn1 hxlt hnl hnh hm3 hm7 hfd hm hlh hcap hbcap hb1 hr1
  go_wp2_with (first | ((with_reducible show wpList _ _ _ (⟨some 22, _, _, _, _, _⟩ :: _) _ _); refine wpList_slice_wanted (x := .tmp 20) (by rfl) Tryd.underlying63 rfl rfl (unhide HS1 _) ?_) | ((with_reducible show wpList _ _ _ (⟨some 23, _, _, _, _, _⟩ :: _) _ _); refine wpList_append_wanted (by rfl) (.const (.slice none 0 0)) (.tmp 22) 63 rfl rfl rfl (unhide HQ1) ?_) | ((with_reducible show wpList _ _ _ (⟨some 32, _, _, _, _, _⟩ :: _) _ _); refine wpList_slice_wanted (x := .tmp 29) (by rfl) Tryd.underlying63 rfl rfl (unhide HS3 _) ?_) | ((with_reducible show wpList _ _ _ (⟨some 33, _, _, _, _, _⟩ :: _) _ _); refine wpList_append_wanted (by rfl) (.tmp 25) (.tmp 32) 63 rfl rfl rfl (unhide HQ3) ?_) | ((with_reducible show wpList _ _ _ (⟨some 41, _, _, _, _, _⟩ :: _) _ _); refine wpList_slice_wanted (x := .tmp 39) (by rfl) Tryd.underlying67 rfl rfl (unhide HS5 _) ?_) | ((with_reducible show wpList _ _ _ (⟨some 42, _, _, _, _, _⟩ :: _) _ _); refine wpList_append_wanted (by rfl) (.const (.slice none 0 0)) (.tmp 41) 67 rfl rfl rfl (unhide HQ5) ?_) | ((with_reducible show wpList _ _ _ (⟨some 51, _, _, _, _, _⟩ :: _) _ _); refine wpList_slice_wanted (x := .tmp 48) (by rfl) Tryd.underlying67 rfl rfl (unhide HS7 _) ?_) | ((with_reducible show wpList _ _ _ (⟨some 52, _, _, _, _, _⟩ :: _) _ _); refine wpList_append_wanted (by rfl) (.tmp 44) (.tmp 51) 67 rfl rfl rfl (unhide HQ7) ?_) | (rw [unhide HZ4]))
  go_ret
  exact ⟨rfl, (unhide HFIN).1, (unhide HFIN).2⟩
end Go.Proofs.YtdcmkapfcmibeaaDoor
