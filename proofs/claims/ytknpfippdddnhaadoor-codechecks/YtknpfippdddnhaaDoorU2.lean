/- The document's Encode. -/
import Derived.Test.YtknpfippdddnhaaDoorU1
namespace Go.Proofs.YtknpfippdddnhaaDoor
open Go.RowKit Go.Shelf
set_option maxRecDepth 100000

theorem own_list {w : World} {b e k n : Nat} {v : Value} {A B : List Int} (h : w.ownsRow b e k v n (A.flatMap yC)) (q : A = B) : w.ownsRow b e k v n (B.flatMap yC) := q ▸ h
set_option maxHeartbeats 6400000 in
theorem rencode_any {w : World} {v : Value} {l : List Ins} (hs : SeesL iC 5 w v l) (hm : l.length ≤ 3518437208883) :
    Calls Tryd.prog 24 #[v] w fun e w' => ∃ x, e = .returned (.tuple #[x, .int .i64 (enc l).2]) ∧ Below w.heap.size w w' ∧ w'.ownsRow w.heap.size 5 1 x (enc l).1.length ((enc l).1.flatMap yC) := by
  have HS := hide hs
  obtain ⟨ao, cap, rfl⟩ := hs.shape
  obtain ⟨k, hk⟩ : ∃ k, l.length = k := ⟨_, rfl⟩
  rw [hk] at HS hm ⊢
  have HK := hide hk
  have HWR : Hid (∀ x : Int, IntKind.u8.wrap x = x % 256) := fun x => by simp [IntKind.wrap, IntKind.signed, IntKind.bits]
  clear hs hk
  go_enter Tryd.func24, Tryd.ntmps24
  go_wp2
  go_loopw [4, 5] (fun x c z => ∃ t : Nat, t ≤ k ∧ c = .int .i64 t ∧ encE (l.take t) = 0 ∧ z.ownsRow w.heap.size 5 1 x ((l.take t).flatMap putB).length (((l.take t).flatMap putB).flatMap yC) ∧ Below w.heap.size w z) (fun _ c _ => k - (intOf c).toNat)
  case atStart => exact ⟨0, Nat.zero_le _, rfl, rfl, own_nil _ _ _ _, Below.refl _ _⟩
  case round =>
    obtain ⟨t, ht, rfl, hE, hO, hB⟩ := hrel
    obtain ⟨va, vc, hv⟩ := own_shape hO
    rw [hv] at hO ⊢
    have hle := flat_le (l.take t)
    rw [List.length_take, unhide HK, Nat.min_eq_left ht] at hle
    by_cases hlt : t < k
    · obtain ⟨x, hx⟩ : ∃ x, l[t]? = some x := ⟨_, List.getElem?_eq_getElem (by rw [unhide HK]; exact hlt)⟩
      have hsz := (unhide HS).below iC_len hB
      obtain ⟨ao', cap', g, o, hv2, _, hao, hc⟩ := hsz.ins
      simp only [Value.slice.injEq] at hv2
      obtain ⟨rfl, -, rfl⟩ := hv2
      obtain rfl := hao (by rw [unhide HK]; omega)
      obtain ⟨d0, d1, d2, d3, d4⟩ := hc t x hx
      have hlt2 : (t : Int) < (k : Int) := by omega
      have HB := hide hB
      have HX := hide hx
      have HE := hide hE
      have HO := hide hO
      generalize hN : ((l.take t).flatMap putB).length = N at *
      clear hv hO hsz hc hx hE hB
      by_cases he : putE x = 0
      · have hst := encE_step (unhide HX) (unhide HE) he
        have HST := hide hst
        obtain ⟨hop, -, hsd, -⟩ := putE_op he
        have hf := op_facts hop.1 hop.2
        obtain ⟨xd, xo, xa, xb, xm⟩ := x
        have hsd' : (0 ≤ xa ∧ xa < 8) ∧ 0 ≤ xb ∧ xb < 8 := (of_decide_eq_true hsd).2
        obtain ⟨⟨ha0, ha1⟩, hb1, hb2⟩ := hsd'
        obtain ⟨ho0, ho1⟩ : 0 ≤ xo ∧ xo < 28 := hop
        have HFIT : Hid (∀ w, Calls Tryd.prog 57 #[iV xd xo xa xb xm] w fun e w' => e = .returned (.int .i64 0) ∧ Grew w w') := fun w => by rw [← he]; exact rfits_any xd xo xa xb xm w
        have HF := hide (fun w => first_any xo w ho0 ho1)
        have HTW := hide (fun w => two_any xo w ho0 ho1)
        have HD := hide (fun w => rwide_any xo w ho0 ho1)
        have e1 : (l.take (t + 1)).flatMap putB = (l.take t).flatMap putB ++ putB ⟨xd, xo, xa, xb, xm⟩ := by
          obtain ⟨hl, e⟩ := List.getElem?_eq_some_iff.1 (unhide HX)
          rw [List.take_succ_eq_append_getElem hl, e, List.flatMap_append]; simp
        have hfin : ∀ (bs : List Int) (y : Value) (z : World) (n : Nat), putB ⟨xd, xo, xa, xb, xm⟩ = bs → z.ownsRow w.heap.size 5 1 y n (((l.take t).flatMap putB ++ bs).flatMap yC) → z.ownsRow w.heap.size 5 1 y ((l.take (t + 1)).flatMap putB).length (((l.take (t + 1)).flatMap putB).flatMap yC) := fun bs y z n hbs h => by
          have hl := h.1
          rw [flat_len yC_len, Nat.mul_one, Nat.mul_one] at hl
          rw [e1, hbs, hl]
          exact h
        have HFIN := hide hfin
        have hf3 : rg xo ≤ 2 ∧ wd xo ≤ 2 := ⟨hf.2.2.2.1, hf.2.2.2.2.1⟩
        generalize (l.take t).flatMap putB = L at *
        clear hf he hst hsd HX HE e1 hfin
        rcases (by omega : rg xo = 0 ∨ rg xo = 1 ∨ rg xo = 2) with hr | hr | hr <;> rcases (by omega : wd xo = 0 ∨ wd xo = 1 ∨ wd xo = 2) with hd | hd | hd
        · have HPB := hide (show putB ⟨xd, xo, xa, xb, xm⟩ = [xo] by simp [putB, hr, hd])
          rw [hr] at HF HTW
          rw [hd] at HD
          simp only [show decide (1 ≤ 0) = false from rfl] at HF
          simp only [show decide (2 ≤ 0) = false from rfl] at HTW
          simp only [show (((0 : Nat) : Int)) = 0 from rfl] at HD
          clear hr hd hf3
          go_wp2_with (first
            | (go_at_call 57; refine (unhide HFIT _).mono ?_; rintro e y0 ⟨rfl, g1⟩; have hx0 := (g1.below.block _ (by simp)).trans (heap_alloc_new wr _); have ho0' := own_below ((unhide HO).alloc _) g1.below; have hb0 : Below w.heap.size w y0 := ((unhide HB).alloc (unhide HB).size _).trans (g1.below.mono (Nat.le_trans (unhide HB).size (by simp))); clear g1; obtain ⟨a1, k1, y1, r1, O1, b1, h1⟩ := app1 xo ho0' (by omega) hb0.size; have hb1 := hb0.trans b1; have hx1 := h1 _ _ _ (by decide) hx0; have R1 := hide r1; clear r1 b1 h1; obtain ⟨c00, c01, c02, c03, c04⟩ := cells5 hx0; clear hx0; obtain ⟨c10, c11, c12, c13, c14⟩ := cells5 hx1; clear hx1; have HOZ := hide O1; have HBZ := hide hb1; clear ho0' O1 hb0 hb1)
            | (go_at_call 43; refine (unhide HF _).mono ?_; rintro e w2 ⟨rfl, rfl⟩)
            | (go_at_call 44; refine (unhide HTW _).mono ?_; rintro e w2 ⟨rfl, rfl⟩)
            | (go_at_call 45; refine (unhide HD _).mono ?_; rintro e w2 ⟨rfl, rfl⟩)
            | ((with_reducible show wpList _ _ _ (⟨some 29, _, _, _, _, _⟩ :: _) _ _); refine wpList_append_wanted (by rfl) _ _ 22 rfl rfl rfl (unhide R1) ?_))
          refine wp_loop_rounds 1 ?_
          rw [rounds_succ]
          go_wp2_with (go_at_call 45; refine (unhide HD _).mono ?_; rintro e w2 ⟨rfl, rfl⟩)
          go_roundw
          case rel => exact ⟨t + 1, by omega, by go_num, unhide HST, unhide HFIN _ _ _ _ (unhide HPB) (own_list (unhide HOZ) (by simp)), unhide HBZ⟩
          case measure => simp [intOf]; omega
        · have HPB := hide (show putB ⟨xd, xo, xa, xb, xm⟩ = [xo, (xm % 256)] by simp [putB, hr, hd])
          rw [hr] at HF HTW
          rw [hd] at HD
          simp only [show decide (1 ≤ 0) = false from rfl] at HF
          simp only [show decide (2 ≤ 0) = false from rfl] at HTW
          simp only [show (((1 : Nat) : Int)) = 1 from rfl] at HD
          clear hr hd hf3
          go_wp2_with (first
            | (go_at_call 57; refine (unhide HFIT _).mono ?_; rintro e y0 ⟨rfl, g1⟩; have hx0 := (g1.below.block _ (by simp)).trans (heap_alloc_new wr _); have ho0' := own_below ((unhide HO).alloc _) g1.below; have hb0 : Below w.heap.size w y0 := ((unhide HB).alloc (unhide HB).size _).trans (g1.below.mono (Nat.le_trans (unhide HB).size (by simp))); clear g1; obtain ⟨a1, k1, y1, r1, O1, b1, h1⟩ := app1 xo ho0' (by omega) hb0.size; have hb1 := hb0.trans b1; have hx1 := h1 _ _ _ (by decide) hx0; have R1 := hide r1; clear r1 b1 h1; obtain ⟨a2, k2, y2, r2, O2, b2, h2⟩ := app1 (xm % 256) O1 (by omega) hb1.size; have hb2 := hb1.trans b2; have hx2 := h2 _ _ _ (by decide) hx1; have R2 := hide r2; clear r2 b2 h2; obtain ⟨c00, c01, c02, c03, c04⟩ := cells5 hx0; clear hx0; obtain ⟨c10, c11, c12, c13, c14⟩ := cells5 hx1; clear hx1; obtain ⟨c20, c21, c22, c23, c24⟩ := cells5 hx2; clear hx2; have HOZ := hide O2; have HBZ := hide hb2; clear ho0' O1 O2 hb0 hb1 hb2)
            | (go_at_call 43; refine (unhide HF _).mono ?_; rintro e w2 ⟨rfl, rfl⟩)
            | (go_at_call 44; refine (unhide HTW _).mono ?_; rintro e w2 ⟨rfl, rfl⟩)
            | (go_at_call 45; refine (unhide HD _).mono ?_; rintro e w2 ⟨rfl, rfl⟩)
            | ((with_reducible show wpList _ _ _ (⟨some 29, _, _, _, _, _⟩ :: _) _ _); refine wpList_append_wanted (by rfl) _ _ 22 rfl rfl rfl (unhide R1) ?_))
          refine wp_loop_rounds 2 ?_
          rw [rounds_succ]
          go_wp2_with (first | (rw [unhide HWR]) | (go_at_call 45; refine (unhide HD _).mono ?_; rintro e w2 ⟨rfl, rfl⟩) | ((with_reducible show wpList _ _ _ (⟨some 63, _, _, _, _, _⟩ :: _) _ _); refine wpList_append_wanted (by rfl) _ _ 22 rfl rfl rfl (unhide R2) ?_))
          rw [rounds_succ]
          go_wp2_with (go_at_call 45; refine (unhide HD _).mono ?_; rintro e w2 ⟨rfl, rfl⟩)
          go_roundw
          case rel => exact ⟨t + 1, by omega, by go_num, unhide HST, unhide HFIN _ _ _ _ (unhide HPB) (own_list (unhide HOZ) (by simp)), unhide HBZ⟩
          case measure => simp [intOf]; omega
        · have HPB := hide (show putB ⟨xd, xo, xa, xb, xm⟩ = [xo, (xm % 256), (xm / 256 % 256)] by simp [putB, hr, hd])
          rw [hr] at HF HTW
          rw [hd] at HD
          simp only [show decide (1 ≤ 0) = false from rfl] at HF
          simp only [show decide (2 ≤ 0) = false from rfl] at HTW
          simp only [show (((2 : Nat) : Int)) = 2 from rfl] at HD
          clear hr hd hf3
          go_wp2_with (first
            | (go_at_call 57; refine (unhide HFIT _).mono ?_; rintro e y0 ⟨rfl, g1⟩; have hx0 := (g1.below.block _ (by simp)).trans (heap_alloc_new wr _); have ho0' := own_below ((unhide HO).alloc _) g1.below; have hb0 : Below w.heap.size w y0 := ((unhide HB).alloc (unhide HB).size _).trans (g1.below.mono (Nat.le_trans (unhide HB).size (by simp))); clear g1; obtain ⟨a1, k1, y1, r1, O1, b1, h1⟩ := app1 xo ho0' (by omega) hb0.size; have hb1 := hb0.trans b1; have hx1 := h1 _ _ _ (by decide) hx0; have R1 := hide r1; clear r1 b1 h1; obtain ⟨a2, k2, y2, r2, O2, b2, h2⟩ := app1 (xm % 256) O1 (by omega) hb1.size; have hb2 := hb1.trans b2; have hx2 := h2 _ _ _ (by decide) hx1; have R2 := hide r2; clear r2 b2 h2; obtain ⟨a3, k3, y3, r3, O3, b3, h3⟩ := app1 (xm / 256 % 256) O2 (by omega) hb2.size; have hb3 := hb2.trans b3; have hx3 := h3 _ _ _ (by decide) hx2; have R3 := hide r3; clear r3 b3 h3; obtain ⟨c00, c01, c02, c03, c04⟩ := cells5 hx0; clear hx0; obtain ⟨c10, c11, c12, c13, c14⟩ := cells5 hx1; clear hx1; obtain ⟨c20, c21, c22, c23, c24⟩ := cells5 hx2; clear hx2; obtain ⟨c30, c31, c32, c33, c34⟩ := cells5 hx3; clear hx3; have HOZ := hide O3; have HBZ := hide hb3; clear ho0' O1 O2 O3 hb0 hb1 hb2 hb3)
            | (go_at_call 43; refine (unhide HF _).mono ?_; rintro e w2 ⟨rfl, rfl⟩)
            | (go_at_call 44; refine (unhide HTW _).mono ?_; rintro e w2 ⟨rfl, rfl⟩)
            | (go_at_call 45; refine (unhide HD _).mono ?_; rintro e w2 ⟨rfl, rfl⟩)
            | ((with_reducible show wpList _ _ _ (⟨some 29, _, _, _, _, _⟩ :: _) _ _); refine wpList_append_wanted (by rfl) _ _ 22 rfl rfl rfl (unhide R1) ?_))
          refine wp_loop_rounds 3 ?_
          rw [rounds_succ]
          go_wp2_with (first | (rw [unhide HWR]) | (go_at_call 45; refine (unhide HD _).mono ?_; rintro e w2 ⟨rfl, rfl⟩) | ((with_reducible show wpList _ _ _ (⟨some 63, _, _, _, _, _⟩ :: _) _ _); refine wpList_append_wanted (by rfl) _ _ 22 rfl rfl rfl (unhide R2) ?_))
          rw [rounds_succ]
          go_wp2_with (first | (rw [unhide HWR]) | (go_at_call 45; refine (unhide HD _).mono ?_; rintro e w2 ⟨rfl, rfl⟩) | ((with_reducible show wpList _ _ _ (⟨some 63, _, _, _, _, _⟩ :: _) _ _); refine wpList_append_wanted (by rfl) _ _ 22 rfl rfl rfl (unhide R3) ?_))
          rw [rounds_succ]
          go_wp2_with (go_at_call 45; refine (unhide HD _).mono ?_; rintro e w2 ⟨rfl, rfl⟩)
          go_roundw
          case rel => exact ⟨t + 1, by omega, by go_num, unhide HST, unhide HFIN _ _ _ _ (unhide HPB) (own_list (unhide HOZ) (by simp)), unhide HBZ⟩
          case measure => simp [intOf]; omega
        · have HPB := hide (show putB ⟨xd, xo, xa, xb, xm⟩ = [xo, xa] by simp [putB, hr, hd])
          rw [hr] at HF HTW
          rw [hd] at HD
          simp only [show decide (1 ≤ 1) = true from rfl] at HF
          simp only [show decide (2 ≤ 1) = false from rfl] at HTW
          simp only [show (((0 : Nat) : Int)) = 0 from rfl] at HD
          clear hr hd hf3
          go_wp2_with (first
            | (go_at_call 57; refine (unhide HFIT _).mono ?_; rintro e y0 ⟨rfl, g1⟩; have hx0 := (g1.below.block _ (by simp)).trans (heap_alloc_new wr _); have ho0' := own_below ((unhide HO).alloc _) g1.below; have hb0 : Below w.heap.size w y0 := ((unhide HB).alloc (unhide HB).size _).trans (g1.below.mono (Nat.le_trans (unhide HB).size (by simp))); clear g1; obtain ⟨a1, k1, y1, r1, O1, b1, h1⟩ := app1 xo ho0' (by omega) hb0.size; have hb1 := hb0.trans b1; have hx1 := h1 _ _ _ (by decide) hx0; have R1 := hide r1; clear r1 b1 h1; obtain ⟨a2, k2, y2, r2, O2, b2, h2⟩ := app1 xa O1 (by omega) hb1.size; have hb2 := hb1.trans b2; have hx2 := h2 _ _ _ (by decide) hx1; have R2 := hide r2; clear r2 b2 h2; obtain ⟨c00, c01, c02, c03, c04⟩ := cells5 hx0; clear hx0; obtain ⟨c10, c11, c12, c13, c14⟩ := cells5 hx1; clear hx1; obtain ⟨c20, c21, c22, c23, c24⟩ := cells5 hx2; clear hx2; have HOZ := hide O2; have HBZ := hide hb2; clear ho0' O1 O2 hb0 hb1 hb2)
            | (go_at_call 43; refine (unhide HF _).mono ?_; rintro e w2 ⟨rfl, rfl⟩)
            | (go_at_call 44; refine (unhide HTW _).mono ?_; rintro e w2 ⟨rfl, rfl⟩)
            | (go_at_call 45; refine (unhide HD _).mono ?_; rintro e w2 ⟨rfl, rfl⟩)
            | ((with_reducible show wpList _ _ _ (⟨some 29, _, _, _, _, _⟩ :: _) _ _); refine wpList_append_wanted (by rfl) _ _ 22 rfl rfl rfl (unhide R1) ?_)
            | ((with_reducible show wpList _ _ _ (⟨some 38, _, _, _, _, _⟩ :: _) _ _); refine wpList_append_wanted (by rfl) _ _ 22 rfl rfl rfl (unhide R2) ?_))
          refine wp_loop_rounds 1 ?_
          rw [rounds_succ]
          go_wp2_with (go_at_call 45; refine (unhide HD _).mono ?_; rintro e w2 ⟨rfl, rfl⟩)
          go_roundw
          case rel => exact ⟨t + 1, by omega, by go_num, unhide HST, unhide HFIN _ _ _ _ (unhide HPB) (own_list (unhide HOZ) (by simp)), unhide HBZ⟩
          case measure => simp [intOf]; omega
        · have HPB := hide (show putB ⟨xd, xo, xa, xb, xm⟩ = [xo, xa, (xm % 256)] by simp [putB, hr, hd])
          rw [hr] at HF HTW
          rw [hd] at HD
          simp only [show decide (1 ≤ 1) = true from rfl] at HF
          simp only [show decide (2 ≤ 1) = false from rfl] at HTW
          simp only [show (((1 : Nat) : Int)) = 1 from rfl] at HD
          clear hr hd hf3
          go_wp2_with (first
            | (go_at_call 57; refine (unhide HFIT _).mono ?_; rintro e y0 ⟨rfl, g1⟩; have hx0 := (g1.below.block _ (by simp)).trans (heap_alloc_new wr _); have ho0' := own_below ((unhide HO).alloc _) g1.below; have hb0 : Below w.heap.size w y0 := ((unhide HB).alloc (unhide HB).size _).trans (g1.below.mono (Nat.le_trans (unhide HB).size (by simp))); clear g1; obtain ⟨a1, k1, y1, r1, O1, b1, h1⟩ := app1 xo ho0' (by omega) hb0.size; have hb1 := hb0.trans b1; have hx1 := h1 _ _ _ (by decide) hx0; have R1 := hide r1; clear r1 b1 h1; obtain ⟨a2, k2, y2, r2, O2, b2, h2⟩ := app1 xa O1 (by omega) hb1.size; have hb2 := hb1.trans b2; have hx2 := h2 _ _ _ (by decide) hx1; have R2 := hide r2; clear r2 b2 h2; obtain ⟨a3, k3, y3, r3, O3, b3, h3⟩ := app1 (xm % 256) O2 (by omega) hb2.size; have hb3 := hb2.trans b3; have hx3 := h3 _ _ _ (by decide) hx2; have R3 := hide r3; clear r3 b3 h3; obtain ⟨c00, c01, c02, c03, c04⟩ := cells5 hx0; clear hx0; obtain ⟨c10, c11, c12, c13, c14⟩ := cells5 hx1; clear hx1; obtain ⟨c20, c21, c22, c23, c24⟩ := cells5 hx2; clear hx2; obtain ⟨c30, c31, c32, c33, c34⟩ := cells5 hx3; clear hx3; have HOZ := hide O3; have HBZ := hide hb3; clear ho0' O1 O2 O3 hb0 hb1 hb2 hb3)
            | (go_at_call 43; refine (unhide HF _).mono ?_; rintro e w2 ⟨rfl, rfl⟩)
            | (go_at_call 44; refine (unhide HTW _).mono ?_; rintro e w2 ⟨rfl, rfl⟩)
            | (go_at_call 45; refine (unhide HD _).mono ?_; rintro e w2 ⟨rfl, rfl⟩)
            | ((with_reducible show wpList _ _ _ (⟨some 29, _, _, _, _, _⟩ :: _) _ _); refine wpList_append_wanted (by rfl) _ _ 22 rfl rfl rfl (unhide R1) ?_)
            | ((with_reducible show wpList _ _ _ (⟨some 38, _, _, _, _, _⟩ :: _) _ _); refine wpList_append_wanted (by rfl) _ _ 22 rfl rfl rfl (unhide R2) ?_))
          refine wp_loop_rounds 2 ?_
          rw [rounds_succ]
          go_wp2_with (first | (rw [unhide HWR]) | (go_at_call 45; refine (unhide HD _).mono ?_; rintro e w2 ⟨rfl, rfl⟩) | ((with_reducible show wpList _ _ _ (⟨some 63, _, _, _, _, _⟩ :: _) _ _); refine wpList_append_wanted (by rfl) _ _ 22 rfl rfl rfl (unhide R3) ?_))
          rw [rounds_succ]
          go_wp2_with (go_at_call 45; refine (unhide HD _).mono ?_; rintro e w2 ⟨rfl, rfl⟩)
          go_roundw
          case rel => exact ⟨t + 1, by omega, by go_num, unhide HST, unhide HFIN _ _ _ _ (unhide HPB) (own_list (unhide HOZ) (by simp)), unhide HBZ⟩
          case measure => simp [intOf]; omega
        · have HPB := hide (show putB ⟨xd, xo, xa, xb, xm⟩ = [xo, xa, (xm % 256), (xm / 256 % 256)] by simp [putB, hr, hd])
          rw [hr] at HF HTW
          rw [hd] at HD
          simp only [show decide (1 ≤ 1) = true from rfl] at HF
          simp only [show decide (2 ≤ 1) = false from rfl] at HTW
          simp only [show (((2 : Nat) : Int)) = 2 from rfl] at HD
          clear hr hd hf3
          go_wp2_with (first
            | (go_at_call 57; refine (unhide HFIT _).mono ?_; rintro e y0 ⟨rfl, g1⟩; have hx0 := (g1.below.block _ (by simp)).trans (heap_alloc_new wr _); have ho0' := own_below ((unhide HO).alloc _) g1.below; have hb0 : Below w.heap.size w y0 := ((unhide HB).alloc (unhide HB).size _).trans (g1.below.mono (Nat.le_trans (unhide HB).size (by simp))); clear g1; obtain ⟨a1, k1, y1, r1, O1, b1, h1⟩ := app1 xo ho0' (by omega) hb0.size; have hb1 := hb0.trans b1; have hx1 := h1 _ _ _ (by decide) hx0; have R1 := hide r1; clear r1 b1 h1; obtain ⟨a2, k2, y2, r2, O2, b2, h2⟩ := app1 xa O1 (by omega) hb1.size; have hb2 := hb1.trans b2; have hx2 := h2 _ _ _ (by decide) hx1; have R2 := hide r2; clear r2 b2 h2; obtain ⟨a3, k3, y3, r3, O3, b3, h3⟩ := app1 (xm % 256) O2 (by omega) hb2.size; have hb3 := hb2.trans b3; have hx3 := h3 _ _ _ (by decide) hx2; have R3 := hide r3; clear r3 b3 h3; obtain ⟨a4, k4, y4, r4, O4, b4, h4⟩ := app1 (xm / 256 % 256) O3 (by omega) hb3.size; have hb4 := hb3.trans b4; have hx4 := h4 _ _ _ (by decide) hx3; have R4 := hide r4; clear r4 b4 h4; obtain ⟨c00, c01, c02, c03, c04⟩ := cells5 hx0; clear hx0; obtain ⟨c10, c11, c12, c13, c14⟩ := cells5 hx1; clear hx1; obtain ⟨c20, c21, c22, c23, c24⟩ := cells5 hx2; clear hx2; obtain ⟨c30, c31, c32, c33, c34⟩ := cells5 hx3; clear hx3; obtain ⟨c40, c41, c42, c43, c44⟩ := cells5 hx4; clear hx4; have HOZ := hide O4; have HBZ := hide hb4; clear ho0' O1 O2 O3 O4 hb0 hb1 hb2 hb3 hb4)
            | (go_at_call 43; refine (unhide HF _).mono ?_; rintro e w2 ⟨rfl, rfl⟩)
            | (go_at_call 44; refine (unhide HTW _).mono ?_; rintro e w2 ⟨rfl, rfl⟩)
            | (go_at_call 45; refine (unhide HD _).mono ?_; rintro e w2 ⟨rfl, rfl⟩)
            | ((with_reducible show wpList _ _ _ (⟨some 29, _, _, _, _, _⟩ :: _) _ _); refine wpList_append_wanted (by rfl) _ _ 22 rfl rfl rfl (unhide R1) ?_)
            | ((with_reducible show wpList _ _ _ (⟨some 38, _, _, _, _, _⟩ :: _) _ _); refine wpList_append_wanted (by rfl) _ _ 22 rfl rfl rfl (unhide R2) ?_))
          refine wp_loop_rounds 3 ?_
          rw [rounds_succ]
          go_wp2_with (first | (rw [unhide HWR]) | (go_at_call 45; refine (unhide HD _).mono ?_; rintro e w2 ⟨rfl, rfl⟩) | ((with_reducible show wpList _ _ _ (⟨some 63, _, _, _, _, _⟩ :: _) _ _); refine wpList_append_wanted (by rfl) _ _ 22 rfl rfl rfl (unhide R3) ?_))
          rw [rounds_succ]
          go_wp2_with (first | (rw [unhide HWR]) | (go_at_call 45; refine (unhide HD _).mono ?_; rintro e w2 ⟨rfl, rfl⟩) | ((with_reducible show wpList _ _ _ (⟨some 63, _, _, _, _, _⟩ :: _) _ _); refine wpList_append_wanted (by rfl) _ _ 22 rfl rfl rfl (unhide R4) ?_))
          rw [rounds_succ]
          go_wp2_with (go_at_call 45; refine (unhide HD _).mono ?_; rintro e w2 ⟨rfl, rfl⟩)
          go_roundw
          case rel => exact ⟨t + 1, by omega, by go_num, unhide HST, unhide HFIN _ _ _ _ (unhide HPB) (own_list (unhide HOZ) (by simp)), unhide HBZ⟩
          case measure => simp [intOf]; omega
        · have HPB := hide (show putB ⟨xd, xo, xa, xb, xm⟩ = [xo, xa, xb] by simp [putB, hr, hd])
          rw [hr] at HF HTW
          rw [hd] at HD
          simp only [show decide (1 ≤ 2) = true from rfl] at HF
          simp only [show decide (2 ≤ 2) = true from rfl] at HTW
          simp only [show (((0 : Nat) : Int)) = 0 from rfl] at HD
          clear hr hd hf3
          go_wp2_with (first
            | (go_at_call 57; refine (unhide HFIT _).mono ?_; rintro e y0 ⟨rfl, g1⟩; have hx0 := (g1.below.block _ (by simp)).trans (heap_alloc_new wr _); have ho0' := own_below ((unhide HO).alloc _) g1.below; have hb0 : Below w.heap.size w y0 := ((unhide HB).alloc (unhide HB).size _).trans (g1.below.mono (Nat.le_trans (unhide HB).size (by simp))); clear g1; obtain ⟨a1, k1, y1, r1, O1, b1, h1⟩ := app1 xo ho0' (by omega) hb0.size; have hb1 := hb0.trans b1; have hx1 := h1 _ _ _ (by decide) hx0; have R1 := hide r1; clear r1 b1 h1; obtain ⟨a2, k2, y2, r2, O2, b2, h2⟩ := app1 xa O1 (by omega) hb1.size; have hb2 := hb1.trans b2; have hx2 := h2 _ _ _ (by decide) hx1; have R2 := hide r2; clear r2 b2 h2; obtain ⟨a3, k3, y3, r3, O3, b3, h3⟩ := app1 xb O2 (by omega) hb2.size; have hb3 := hb2.trans b3; have hx3 := h3 _ _ _ (by decide) hx2; have R3 := hide r3; clear r3 b3 h3; obtain ⟨c00, c01, c02, c03, c04⟩ := cells5 hx0; clear hx0; obtain ⟨c10, c11, c12, c13, c14⟩ := cells5 hx1; clear hx1; obtain ⟨c20, c21, c22, c23, c24⟩ := cells5 hx2; clear hx2; obtain ⟨c30, c31, c32, c33, c34⟩ := cells5 hx3; clear hx3; have HOZ := hide O3; have HBZ := hide hb3; clear ho0' O1 O2 O3 hb0 hb1 hb2 hb3)
            | (go_at_call 43; refine (unhide HF _).mono ?_; rintro e w2 ⟨rfl, rfl⟩)
            | (go_at_call 44; refine (unhide HTW _).mono ?_; rintro e w2 ⟨rfl, rfl⟩)
            | (go_at_call 45; refine (unhide HD _).mono ?_; rintro e w2 ⟨rfl, rfl⟩)
            | ((with_reducible show wpList _ _ _ (⟨some 29, _, _, _, _, _⟩ :: _) _ _); refine wpList_append_wanted (by rfl) _ _ 22 rfl rfl rfl (unhide R1) ?_)
            | ((with_reducible show wpList _ _ _ (⟨some 38, _, _, _, _, _⟩ :: _) _ _); refine wpList_append_wanted (by rfl) _ _ 22 rfl rfl rfl (unhide R2) ?_)
            | ((with_reducible show wpList _ _ _ (⟨some 47, _, _, _, _, _⟩ :: _) _ _); refine wpList_append_wanted (by rfl) _ _ 22 rfl rfl rfl (unhide R3) ?_))
          refine wp_loop_rounds 1 ?_
          rw [rounds_succ]
          go_wp2_with (go_at_call 45; refine (unhide HD _).mono ?_; rintro e w2 ⟨rfl, rfl⟩)
          go_roundw
          case rel => exact ⟨t + 1, by omega, by go_num, unhide HST, unhide HFIN _ _ _ _ (unhide HPB) (own_list (unhide HOZ) (by simp)), unhide HBZ⟩
          case measure => simp [intOf]; omega
        · have HPB := hide (show putB ⟨xd, xo, xa, xb, xm⟩ = [xo, xa, xb, (xm % 256)] by simp [putB, hr, hd])
          rw [hr] at HF HTW
          rw [hd] at HD
          simp only [show decide (1 ≤ 2) = true from rfl] at HF
          simp only [show decide (2 ≤ 2) = true from rfl] at HTW
          simp only [show (((1 : Nat) : Int)) = 1 from rfl] at HD
          clear hr hd hf3
          go_wp2_with (first
            | (go_at_call 57; refine (unhide HFIT _).mono ?_; rintro e y0 ⟨rfl, g1⟩; have hx0 := (g1.below.block _ (by simp)).trans (heap_alloc_new wr _); have ho0' := own_below ((unhide HO).alloc _) g1.below; have hb0 : Below w.heap.size w y0 := ((unhide HB).alloc (unhide HB).size _).trans (g1.below.mono (Nat.le_trans (unhide HB).size (by simp))); clear g1; obtain ⟨a1, k1, y1, r1, O1, b1, h1⟩ := app1 xo ho0' (by omega) hb0.size; have hb1 := hb0.trans b1; have hx1 := h1 _ _ _ (by decide) hx0; have R1 := hide r1; clear r1 b1 h1; obtain ⟨a2, k2, y2, r2, O2, b2, h2⟩ := app1 xa O1 (by omega) hb1.size; have hb2 := hb1.trans b2; have hx2 := h2 _ _ _ (by decide) hx1; have R2 := hide r2; clear r2 b2 h2; obtain ⟨a3, k3, y3, r3, O3, b3, h3⟩ := app1 xb O2 (by omega) hb2.size; have hb3 := hb2.trans b3; have hx3 := h3 _ _ _ (by decide) hx2; have R3 := hide r3; clear r3 b3 h3; obtain ⟨a4, k4, y4, r4, O4, b4, h4⟩ := app1 (xm % 256) O3 (by omega) hb3.size; have hb4 := hb3.trans b4; have hx4 := h4 _ _ _ (by decide) hx3; have R4 := hide r4; clear r4 b4 h4; obtain ⟨c00, c01, c02, c03, c04⟩ := cells5 hx0; clear hx0; obtain ⟨c10, c11, c12, c13, c14⟩ := cells5 hx1; clear hx1; obtain ⟨c20, c21, c22, c23, c24⟩ := cells5 hx2; clear hx2; obtain ⟨c30, c31, c32, c33, c34⟩ := cells5 hx3; clear hx3; obtain ⟨c40, c41, c42, c43, c44⟩ := cells5 hx4; clear hx4; have HOZ := hide O4; have HBZ := hide hb4; clear ho0' O1 O2 O3 O4 hb0 hb1 hb2 hb3 hb4)
            | (go_at_call 43; refine (unhide HF _).mono ?_; rintro e w2 ⟨rfl, rfl⟩)
            | (go_at_call 44; refine (unhide HTW _).mono ?_; rintro e w2 ⟨rfl, rfl⟩)
            | (go_at_call 45; refine (unhide HD _).mono ?_; rintro e w2 ⟨rfl, rfl⟩)
            | ((with_reducible show wpList _ _ _ (⟨some 29, _, _, _, _, _⟩ :: _) _ _); refine wpList_append_wanted (by rfl) _ _ 22 rfl rfl rfl (unhide R1) ?_)
            | ((with_reducible show wpList _ _ _ (⟨some 38, _, _, _, _, _⟩ :: _) _ _); refine wpList_append_wanted (by rfl) _ _ 22 rfl rfl rfl (unhide R2) ?_)
            | ((with_reducible show wpList _ _ _ (⟨some 47, _, _, _, _, _⟩ :: _) _ _); refine wpList_append_wanted (by rfl) _ _ 22 rfl rfl rfl (unhide R3) ?_))
          refine wp_loop_rounds 2 ?_
          rw [rounds_succ]
          go_wp2_with (first | (rw [unhide HWR]) | (go_at_call 45; refine (unhide HD _).mono ?_; rintro e w2 ⟨rfl, rfl⟩) | ((with_reducible show wpList _ _ _ (⟨some 63, _, _, _, _, _⟩ :: _) _ _); refine wpList_append_wanted (by rfl) _ _ 22 rfl rfl rfl (unhide R4) ?_))
          rw [rounds_succ]
          go_wp2_with (go_at_call 45; refine (unhide HD _).mono ?_; rintro e w2 ⟨rfl, rfl⟩)
          go_roundw
          case rel => exact ⟨t + 1, by omega, by go_num, unhide HST, unhide HFIN _ _ _ _ (unhide HPB) (own_list (unhide HOZ) (by simp)), unhide HBZ⟩
          case measure => simp [intOf]; omega
        · have HPB := hide (show putB ⟨xd, xo, xa, xb, xm⟩ = [xo, xa, xb, (xm % 256), (xm / 256 % 256)] by simp [putB, hr, hd])
          rw [hr] at HF HTW
          rw [hd] at HD
          simp only [show decide (1 ≤ 2) = true from rfl] at HF
          simp only [show decide (2 ≤ 2) = true from rfl] at HTW
          simp only [show (((2 : Nat) : Int)) = 2 from rfl] at HD
          clear hr hd hf3
          go_wp2_with (first
            | (go_at_call 57; refine (unhide HFIT _).mono ?_; rintro e y0 ⟨rfl, g1⟩; have hx0 := (g1.below.block _ (by simp)).trans (heap_alloc_new wr _); have ho0' := own_below ((unhide HO).alloc _) g1.below; have hb0 : Below w.heap.size w y0 := ((unhide HB).alloc (unhide HB).size _).trans (g1.below.mono (Nat.le_trans (unhide HB).size (by simp))); clear g1; obtain ⟨a1, k1, y1, r1, O1, b1, h1⟩ := app1 xo ho0' (by omega) hb0.size; have hb1 := hb0.trans b1; have hx1 := h1 _ _ _ (by decide) hx0; have R1 := hide r1; clear r1 b1 h1; obtain ⟨a2, k2, y2, r2, O2, b2, h2⟩ := app1 xa O1 (by omega) hb1.size; have hb2 := hb1.trans b2; have hx2 := h2 _ _ _ (by decide) hx1; have R2 := hide r2; clear r2 b2 h2; obtain ⟨a3, k3, y3, r3, O3, b3, h3⟩ := app1 xb O2 (by omega) hb2.size; have hb3 := hb2.trans b3; have hx3 := h3 _ _ _ (by decide) hx2; have R3 := hide r3; clear r3 b3 h3; obtain ⟨a4, k4, y4, r4, O4, b4, h4⟩ := app1 (xm % 256) O3 (by omega) hb3.size; have hb4 := hb3.trans b4; have hx4 := h4 _ _ _ (by decide) hx3; have R4 := hide r4; clear r4 b4 h4; obtain ⟨a5, k5, y5, r5, O5, b5, h5⟩ := app1 (xm / 256 % 256) O4 (by omega) hb4.size; have hb5 := hb4.trans b5; have hx5 := h5 _ _ _ (by decide) hx4; have R5 := hide r5; clear r5 b5 h5; obtain ⟨c00, c01, c02, c03, c04⟩ := cells5 hx0; clear hx0; obtain ⟨c10, c11, c12, c13, c14⟩ := cells5 hx1; clear hx1; obtain ⟨c20, c21, c22, c23, c24⟩ := cells5 hx2; clear hx2; obtain ⟨c30, c31, c32, c33, c34⟩ := cells5 hx3; clear hx3; obtain ⟨c40, c41, c42, c43, c44⟩ := cells5 hx4; clear hx4; obtain ⟨c50, c51, c52, c53, c54⟩ := cells5 hx5; clear hx5; have HOZ := hide O5; have HBZ := hide hb5; clear ho0' O1 O2 O3 O4 O5 hb0 hb1 hb2 hb3 hb4 hb5)
            | (go_at_call 43; refine (unhide HF _).mono ?_; rintro e w2 ⟨rfl, rfl⟩)
            | (go_at_call 44; refine (unhide HTW _).mono ?_; rintro e w2 ⟨rfl, rfl⟩)
            | (go_at_call 45; refine (unhide HD _).mono ?_; rintro e w2 ⟨rfl, rfl⟩)
            | ((with_reducible show wpList _ _ _ (⟨some 29, _, _, _, _, _⟩ :: _) _ _); refine wpList_append_wanted (by rfl) _ _ 22 rfl rfl rfl (unhide R1) ?_)
            | ((with_reducible show wpList _ _ _ (⟨some 38, _, _, _, _, _⟩ :: _) _ _); refine wpList_append_wanted (by rfl) _ _ 22 rfl rfl rfl (unhide R2) ?_)
            | ((with_reducible show wpList _ _ _ (⟨some 47, _, _, _, _, _⟩ :: _) _ _); refine wpList_append_wanted (by rfl) _ _ 22 rfl rfl rfl (unhide R3) ?_))
          refine wp_loop_rounds 3 ?_
          rw [rounds_succ]
          go_wp2_with (first | (rw [unhide HWR]) | (go_at_call 45; refine (unhide HD _).mono ?_; rintro e w2 ⟨rfl, rfl⟩) | ((with_reducible show wpList _ _ _ (⟨some 63, _, _, _, _, _⟩ :: _) _ _); refine wpList_append_wanted (by rfl) _ _ 22 rfl rfl rfl (unhide R4) ?_))
          rw [rounds_succ]
          go_wp2_with (first | (rw [unhide HWR]) | (go_at_call 45; refine (unhide HD _).mono ?_; rintro e w2 ⟨rfl, rfl⟩) | ((with_reducible show wpList _ _ _ (⟨some 63, _, _, _, _, _⟩ :: _) _ _); refine wpList_append_wanted (by rfl) _ _ 22 rfl rfl rfl (unhide R5) ?_))
          rw [rounds_succ]
          go_wp2_with (go_at_call 45; refine (unhide HD _).mono ?_; rintro e w2 ⟨rfl, rfl⟩)
          go_roundw
          case rel => exact ⟨t + 1, by omega, by go_num, unhide HST, unhide HFIN _ _ _ _ (unhide HPB) (own_list (unhide HOZ) (by simp)), unhide HBZ⟩
          case measure => simp [intOf]; omega
      · have hst := encE_at (unhide HX) (unhide HE) he
        obtain ⟨xd, xo, xa, xb, xm⟩ := x
        have HFIT := hide (fun w => rfits_any xd xo xa xb xm w)
        generalize putE ⟨xd, xo, xa, xb, xm⟩ = E at *
        have hne : (E != 0) = true := by simpa using he
        have HEN : Hid (enc l = ([], E)) := by rw [← hst]; exact enc_no (by rw [hst]; exact he)
        clear hst he HX HE
        go_wp2_with (go_at_call 57; refine (unhide HFIT _).mono ?_; rintro e y0 ⟨rfl, g1⟩; have HB0 : Hid (Below w.heap.size w y0) := ((unhide HB).alloc (unhide HB).size _).trans (g1.below.mono (Nat.le_trans (unhide HB).size (by simp))); clear g1)
        go_ret2
        rw [unhide HEN]
        exact ⟨_, rfl, unhide HB0, own_nil _ _ _ _⟩
    · have htk : t = k := by omega
      have hfull : l.take t = l := List.take_of_length_le (by rw [unhide HK]; omega)
      rw [hfull] at hE hO hle hv ⊢
      have HB := hide hB
      have HE := hide hE
      have HO := hide hO
      clear hE hO hv hB
      generalize hN : (l.flatMap putB).length = N at *
      by_cases hlong : N ≤ 512
      · have hd : decide ((N : Int) > 512) = false := decide_eq_false (by omega)
        have hd2 : decide (512 < (N : Int)) = false := decide_eq_false (by omega)
        have HEN := hide (enc_yes (unhide HE) (by rw [hN]; exact hlong))
        have HN := hide hN
        clear hN
        go_wp2
        go_ret2
        rw [unhide HEN]
        refine ⟨_, rfl, unhide HB, ?_⟩
        dsimp only
        rw [unhide HN]
        exact unhide HO
      · have hd : decide ((N : Int) > 512) = true := decide_eq_true (by omega)
        have hd2 : decide (512 < (N : Int)) = true := decide_eq_true (by omega)
        have HEN := hide (enc_long (unhide HE) (by rw [hN]; omega))
        clear hN
        go_wp2
        go_ret2
        rw [unhide HEN]
        exact ⟨_, rfl, unhide HB, own_nil _ _ _ _⟩
end Go.Proofs.YtknpfippdddnhaaDoor
