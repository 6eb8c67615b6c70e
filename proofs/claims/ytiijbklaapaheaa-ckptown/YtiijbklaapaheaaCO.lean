/- Checkpoints: the newest of two halves: the walk. -/
import Derived.Test.YtiijbklaapaheaaKD
namespace Go.Proofs.Ytiijbklaapaheaa
open Go.RowKit Go.Shelf
set_option maxRecDepth 100000

theorem ix0 (h : Nat) (a b c d : Int) (W : World) : Sem.run Try.prog (Instr.index 90 (.agg #[P0 h, .int .i64 a, .int .i64 b, P0 h, .int .i64 c, .int .i64 d]) (.int .i64 0)) W = .ok (.agg #[P0 h, .int .i64 a, .int .i64 b]) W := by
  simp [Instr.index, go_sem]
theorem ix1 (h : Nat) (a b c d : Int) (W : World) : Sem.run Try.prog (Instr.index 90 (.agg #[P0 h, .int .i64 a, .int .i64 b, P0 h, .int .i64 c, .int .i64 d]) (.int .i64 1)) W = .ok (.agg #[P0 h, .int .i64 c, .int .i64 d]) W := by
  simp [Instr.index, go_sem]

/-- The best in memory. -/
def BI (b : Nat) (dv : Value) (x : Bst) (W : World) : Prop :=
  (W.cell? ⟨b, 0, none⟩ = some (.int .i64 x.at') ∧ W.cell? ⟨b, 1, none⟩ = some (.int .i64 x.ck.num) ∧ W.cell? ⟨b, 2, none⟩ = some (.int .i64 x.ck.slot) ∧ W.cell? ⟨b, 3, none⟩ = some (.int .i64 x.ck.last) ∧ W.cell? ⟨b, 4, none⟩ = some dv) ∧ (∀ o, W.frozen? ⟨b, o, none⟩ = false) ∧ W.ownsRow (b + 1) 5 1 dv x.ck.data.length (ints .u8 x.ck.data)
theorem BI.below {b : Nat} {dv : Value} {x : Bst} {A B : World} (h : BI b dv x A) (hb : Below A.heap.size A B) : BI b dv x B := by
  obtain ⟨⟨h0, h1, h2, h3, h4⟩, hf, ho⟩ := h
  have hl := World.block_lt_of_cell? A _ h0
  refine ⟨⟨(hb.cell (p := ⟨b, 0, none⟩) hl).trans h0, (hb.cell (p := ⟨b, 1, none⟩) hl).trans h1, (hb.cell (p := ⟨b, 2, none⟩) hl).trans h2, (hb.cell (p := ⟨b, 3, none⟩) hl).trans h3, (hb.cell (p := ⟨b, 4, none⟩) hl).trans h4⟩, fun o => ?_, own_below ho hb⟩
  rw [World.frozen?_of_block (w := A) (hb.block b hl)]; exact hf o

/-- The best is written anew. -/
theorem BI.set {b : Nat} {dv dv' : Value} {x : Bst} {A : World} (h : BI b dv x A) (y : Bst) (ho : A.ownsRow (b + 1) 5 1 dv' y.ck.data.length (ints .u8 y.ck.data)) :
    BI b dv' y (((((A.setCell ⟨b, 0, none⟩ (.int .i64 y.at')).setCell ⟨b, 1, none⟩ (.int .i64 y.ck.num)).setCell ⟨b, 2, none⟩ (.int .i64 y.ck.slot)).setCell ⟨b, 3, none⟩ (.int .i64 y.ck.last)).setCell ⟨b, 4, none⟩ dv') := by
  obtain ⟨⟨h0, h1, h2, h3, h4⟩, hf, _⟩ := h
  have ne : ∀ {i j : Nat}, i ≠ j → (⟨b, i, none⟩ : Addr) ≠ ⟨b, j, none⟩ := fun hij => addr_ne (Or.inr hij)
  refine ⟨⟨?_, ?_, ?_, ?_, ?_⟩, fun o => ?_, own_set (own_set (own_set (own_set (own_set ho (Nat.lt_succ_self _) _) (Nat.lt_succ_self _) _) (Nat.lt_succ_self _) _) (Nat.lt_succ_self _) _) (Nat.lt_succ_self _) _⟩
  · rw [cs_other (ne (by decide)), cs_other (ne (by decide)), cs_other (ne (by decide)), cs_other (ne (by decide))]; exact cs_same h0
  · rw [cs_other (ne (by decide)), cs_other (ne (by decide)), cs_other (ne (by decide))]
    exact cs_same (by rw [cs_other (ne (by decide))]; exact h1)
  · rw [cs_other (ne (by decide)), cs_other (ne (by decide))]
    exact cs_same (by rw [cs_other (ne (by decide)), cs_other (ne (by decide))]; exact h2)
  · rw [cs_other (ne (by decide))]
    exact cs_same (by rw [cs_other (ne (by decide)), cs_other (ne (by decide)), cs_other (ne (by decide))]; exact h3)
  · exact cs_same (by rw [cs_other (ne (by decide)), cs_other (ne (by decide)), cs_other (ne (by decide)), cs_other (ne (by decide))]; exact h4)
  · simp only [World.frozen?_setCell]; exact hf o

set_option maxHeartbeats 4000000 in
theorem newest_any {w : World} {g h cap : Nat} {F : Fl} (H : IsFl w g h cap F) (hP : ∀ i j, (F.readB i j).length ≤ 256) (f n : Nat) (hf : f ≤ 1048576) (hn : n ≤ 1048576) :
    Calls Try.prog 44 #[P0 h, .agg #[.int .i64 f, .int .i64 n]] w fun e w' => ∃ dv, e = .returned (.tuple #[.agg #[.int .i64 (nwk F f (n / 2) 2).at', .int .i64 (nwk F f (n / 2) 2).ck.num, .int .i64 (nwk F f (n / 2) 2).ck.slot, .int .i64 (nwk F f (n / 2) 2).ck.last, dv], .bool (decide (0 < (nwk F f (n / 2) 2).ck.num))]) ∧ w'.ownsRow w.heap.size 5 1 dv (nwk F f (n / 2) 2).ck.data.length (ints .u8 (nwk F f (n / 2) 2).ck.data) ∧ Below w.heap.size w w' := by
  have hgw := H.glt; have hhw := H.hlt
  have HHV := hide (fun x => halves_any h f n x (by omega) (by omega))
  obtain ⟨B, hB⟩ : ∃ B, ((w.alloc (.cells #[.int .i64 f, .int .i64 n] 26)).alloc (.cells #[.int .i64 0, .int .i64 0, .int .i64 0, .int .i64 0, .slice none 0 0] 87)).alloc (.cells #[.int .i64 0, .int .i64 0, .int .i64 0, .int .i64 0, .slice none 0 0] 87) = B := ⟨_, rfl⟩
  have HAL : Hid (Below w.heap.size w B) := hB ▸ (((Below.refl _ _).alloc (Nat.le_refl _) _).alloc (by simp) _).alloc (by simp; omega) _
  have HSZ : Hid (B.heap.size = w.heap.size + 3) := by rw [← hB]; simp [hide]
  have HB2 : Hid (BI (w.heap.size + 1 + 1) (.slice none 0 0) (nwk F f (n / 2) 0) B) := by
    rw [← hB]
    refine ⟨⟨?_, ?_, ?_, ?_, ?_⟩, fun o => ?_, World.ownsRow_nil _ _ _ _⟩ <;> simp [go_sem, nwk, Bst.none]
  have HB1 : Hid (B.heap[w.heap.size + 1]? = some (.cells #[.int .i64 0, .int .i64 0, .int .i64 0, .int .i64 0, .slice none 0 0] 87 (0, 0))) := by
    rw [← hB]
    rw [Below.heap_alloc _ _ _ (by simp)]
    have := heap_alloc_new (w.alloc (.cells #[.int .i64 f, .int .i64 n] 26)) (.cells #[.int .i64 0, .int .i64 0, .int .i64 0, .int .i64 0, .slice none 0 0] 87)
    rwa [World.size_alloc] at this
  have HI := hide (H.below (unhide HAL))
  have q0 : B.cell? ⟨w.heap.size, 0, none⟩ = some (.int .i64 f) := by rw [← hB]; simp [go_sem, World.cell?_alloc_old]
  have q1 : B.cell? ⟨w.heap.size, 1, none⟩ = some (.int .i64 n) := by rw [← hB]; simp [go_sem, World.cell?_alloc_old]
  generalize hm : n / 2 = m at *
  have hmn : m ≤ 1048576 := by omega
  clear H
  go_enter Try.func44, Try.ntmps44
  go_wp2_with (rw [hB])
  refine (unhide HHV _).mono ?_
  rintro e w1 ⟨rfl, hb1⟩
  have HW1 := hide hb1
  clear hb1 q0 q1
  go_wp2
  go_loopw [15] (fun v wr => ∃ k : Nat, k ≤ 2 ∧ v = .int .i64 (k : Int) ∧ (∃ dv, BI (w.heap.size + 1 + 1) dv (nwk F f m k) wr) ∧ wr.heap[w.heap.size + 1]? = some (.cells #[.int .i64 0, .int .i64 0, .int .i64 0, .int .i64 0, .slice none 0 0] 87 (0, 0)) ∧ IsFl wr g h cap F ∧ Below w.heap.size w wr ∧ w.heap.size + 3 ≤ wr.heap.size) (fun v _ => 2 - (intOf v).toNat)
  case atStart =>
    have hs := unhide HSZ
    exact ⟨0, by omega, rfl, ⟨_, (unhide HB2).below (unhide HW1)⟩, ((unhide HW1).block _ (by omega)).trans (unhide HB1), (unhide HI).below (unhide HW1), (unhide HAL).trans ((unhide HW1).mono (unhide HAL).size), by have := (unhide HW1).size; omega⟩
  case round =>
    obtain ⟨k, hk, rfl, ⟨dv, hBI⟩, hbx, hI, hBW, hsw⟩ := hrel
    by_cases hlt : k < 2
    · have HBI := hide hBI
      have HBX := hide hbx
      have HI1 := hide hI
      have HBW := hide hBW
      have HSW := hide hsw
      have HRD : Hid (∀ (x : World) (q : Nat), IsFl x g h cap F → q ≤ 1099511627776 → Calls Try.prog 74 #[halfV h q m] x fun e w' => ∃ v, e = .returned v ∧ w'.ownsRow x.heap.size 5 1 v (rdL F q m).length (ints .u8 (rdL F q m)) ∧ Below x.heap.size x w') := fun x q hx hq => read_any hx hP q m hq hmn
      have hgl := hI.glt; have hhl := hI.hlt
      have hg0 : g < w.heap.size := hgw; have hh0 : h < w.heap.size := hhw
      clear hBI hbx hI hBW hsw
      have HAL2 := hide (fun q : Int => (Below.refl wr.heap.size wr).alloc (Nat.le_refl _) (.cells #[P0 h, .int .i64 q, .int .i64 m] 78))
      rcases (by omega : k = 0 ∨ k = 1) with rfl | rfl
      · have hix := ix0 h f m (f + m) m
        have hstep : nwk F f m (0 + 1) = (nwk F f m 0).step 0 (dec (rdL F f m)) := by show (nwk F f m 0).step _ (dec (rdL F (f + 0 * m) m)) = _; rw [Nat.zero_mul, Nat.add_zero]; rfl
        have HST := hide hstep
        clear hstep
        generalize nwk F f m 0 = bs at HBI HST
        go_wp2_with fail
        refine (unhide HRD _ f ((unhide HI1).below (unhide HAL2 (f : Nat))) (by omega)).mono ?_
        rintro e w2 ⟨v2, rfl, o2, hb2⟩
        obtain ⟨a2, c2, rfl⟩ := own_shape o2
        have HD2 := hide (decode_half hP hmn o2)
        have HW2 := hide ((unhide HAL2 (f : Nat)).trans (hb2.mono (unhide HAL2 (f : Nat)).size))
        clear o2 hb2
        generalize dec (rdL F f m) = c at HD2 HST
        obtain ⟨num, slot, last, data, err⟩ := c
        go_wp2_with fail
        refine (unhide HD2).mono ?_
        rintro e w3 ⟨d3, rfl, o3, hb3⟩
        simp only at o3
        obtain ⟨a3, c3, rfl⟩ := own_shape o3
        have HW3 := hide ((unhide HW2).trans (hb3.mono (unhide HW2).size))
        have HO3 := hide (own_lower o3 (show w.heap.size + 1 + 1 + 1 ≤ _ from Nat.le_trans (unhide HSW) (unhide HW2).size))
        clear o3 hb3
        have hs3 := Nat.le_trans (unhide HSW) (unhide HW3).size
        obtain ⟨D, hD⟩ : ∃ D, w3.alloc (.cells #[.int .i64 slot, .int .i64 last, .slice a3 data.length c3] 24) = D := ⟨_, rfl⟩
        have HWD : Hid (Below w3.heap.size w3 D) := hD ▸ (Below.refl _ _).alloc (Nat.le_refl _) _
        have HALL : Hid (BI (w.heap.size + 1 + 1) dv bs D) := ((unhide HBI).below (unhide HW3)).below (unhide HWD)
        obtain ⟨⟨t0, t1, t2, t3, t4⟩, tf, tow⟩ := unhide HALL
        have d0 : D.cell? ⟨w3.heap.size, 0, none⟩ = some (.int .i64 slot) := by rw [← hD]; simp [go_sem]
        have d1 : D.cell? ⟨w3.heap.size, 1, none⟩ = some (.int .i64 last) := by rw [← hD]; simp [go_sem]
        have d2 : D.cell? ⟨w3.heap.size, 2, none⟩ = some (.slice a3 data.length c3) := by rw [← hD]; simp [go_sem]
        clear tow
        have HEND : Hid (∀ x, Below (w.heap.size + 2) w3 x → x.heap[w.heap.size + 1]? = some (.cells #[.int .i64 0, .int .i64 0, .int .i64 0, .int .i64 0, .slice none 0 0] 87 (0, 0)) ∧ IsFl x g h cap F ∧ Below w.heap.size w x ∧ w.heap.size + 3 ≤ x.heap.size) := by
          intro x hx
          have hw := unhide HSW
          exact ⟨(hx.block _ (by omega)).trans (((unhide HW3).block _ (by omega)).trans (unhide HBX)), ((unhide HI1).below (unhide HW3)).keepB (hx.block g (by omega)) (hx.block h (by omega)), ((unhide HBW).trans ((unhide HW3).mono (by omega))).trans (hx.mono (by omega)), Nat.le_trans hs3 hx.size⟩
        by_cases ce : err = 0
        · subst ce
          by_cases cn : bs.ck.num < num
          · have cn' : decide (bs.ck.num < num) = true := by simp [cn]
            go_wp2_with (rw [hD])
            go_roundw
            case rel =>
              have hs : (⟨bs.at', bs.ck⟩ : Bst).step 0 ⟨num, slot, last, data, 0⟩ = ⟨0, ⟨num, slot, last, data, 0⟩⟩ := if_pos ⟨rfl, cn⟩
              have hbl : w.heap.size + 2 ≤ (⟨w.heap.size + 1 + 1, 0, none⟩ : Addr).block := Nat.le_refl _
              exact ⟨0 + 1, by omega, by go_num, ⟨_, by rw [unhide HST, show bs.step _ _ = _ from hs]; exact (unhide HALL).set _ (own_below (unhide HO3) (unhide HWD))⟩, unhide HEND _ ((((((unhide HWD).mono (by omega)).setCell (p := ⟨w.heap.size + 1 + 1, 0, none⟩) hbl _).setCell (p := ⟨w.heap.size + 1 + 1, 1, none⟩) hbl _).setCell (p := ⟨w.heap.size + 1 + 1, 2, none⟩) hbl _).setCell (p := ⟨w.heap.size + 1 + 1, 3, none⟩) hbl _ |>.setCell (p := ⟨w.heap.size + 1 + 1, 4, none⟩) hbl _)⟩
            case measure => simp [intOf]
          · have cn' : decide (bs.ck.num < num) = false := by simp [cn]
            go_wp2_with (rw [hD])
            go_roundw
            case rel =>
              have hs : (⟨bs.at', bs.ck⟩ : Bst).step 0 ⟨num, slot, last, data, 0⟩ = bs := if_neg (fun c => Int.not_lt.2 cn c.2)
              exact ⟨0 + 1, by omega, by go_num, ⟨dv, by rw [unhide HST]; rw [show bs.step _ _ = bs from hs]; exact unhide HALL⟩, unhide HEND _ ((unhide HWD).mono (by omega))⟩
            case measure => simp [intOf]
        · have ce' : (err == 0) = false := by simpa using ce
          go_wp2_with (rw [hD])
          go_roundw
          case rel =>
            have hs : (⟨bs.at', bs.ck⟩ : Bst).step 0 ⟨num, slot, last, data, err⟩ = bs := if_neg (fun c => ce c.1)
            exact ⟨0 + 1, by omega, by go_num, ⟨dv, by rw [unhide HST]; rw [show bs.step _ _ = bs from hs]; exact unhide HALL⟩, unhide HEND _ ((unhide HWD).mono (by omega))⟩
          case measure => simp [intOf]
      · have hix := ix1 h f m (f + m) m
        have hstep : nwk F f m (1 + 1) = (nwk F f m 1).step 1 (dec (rdL F (f + m) m)) := by show (nwk F f m 1).step _ (dec (rdL F (f + 1 * m) m)) = _; rw [Nat.one_mul]; rfl
        have HST := hide hstep
        clear hstep
        generalize nwk F f m 1 = bs at HBI HST
        go_wp2_with fail
        refine (unhide HRD _ (f + m) ((unhide HI1).below (unhide HAL2 ((f + m) : Nat))) (by omega)).mono ?_
        rintro e w2 ⟨v2, rfl, o2, hb2⟩
        obtain ⟨a2, c2, rfl⟩ := own_shape o2
        have HD2 := hide (decode_half hP hmn o2)
        have HW2 := hide ((unhide HAL2 ((f + m) : Nat)).trans (hb2.mono (unhide HAL2 ((f + m) : Nat)).size))
        clear o2 hb2
        generalize dec (rdL F (f + m) m) = c at HD2 HST
        obtain ⟨num, slot, last, data, err⟩ := c
        go_wp2_with fail
        refine (unhide HD2).mono ?_
        rintro e w3 ⟨d3, rfl, o3, hb3⟩
        simp only at o3
        obtain ⟨a3, c3, rfl⟩ := own_shape o3
        have HW3 := hide ((unhide HW2).trans (hb3.mono (unhide HW2).size))
        have HO3 := hide (own_lower o3 (show w.heap.size + 1 + 1 + 1 ≤ _ from Nat.le_trans (unhide HSW) (unhide HW2).size))
        clear o3 hb3
        have hs3 := Nat.le_trans (unhide HSW) (unhide HW3).size
        obtain ⟨D, hD⟩ : ∃ D, w3.alloc (.cells #[.int .i64 slot, .int .i64 last, .slice a3 data.length c3] 24) = D := ⟨_, rfl⟩
        have HWD : Hid (Below w3.heap.size w3 D) := hD ▸ (Below.refl _ _).alloc (Nat.le_refl _) _
        have HALL : Hid (BI (w.heap.size + 1 + 1) dv bs D) := ((unhide HBI).below (unhide HW3)).below (unhide HWD)
        obtain ⟨⟨t0, t1, t2, t3, t4⟩, tf, tow⟩ := unhide HALL
        have d0 : D.cell? ⟨w3.heap.size, 0, none⟩ = some (.int .i64 slot) := by rw [← hD]; simp [go_sem]
        have d1 : D.cell? ⟨w3.heap.size, 1, none⟩ = some (.int .i64 last) := by rw [← hD]; simp [go_sem]
        have d2 : D.cell? ⟨w3.heap.size, 2, none⟩ = some (.slice a3 data.length c3) := by rw [← hD]; simp [go_sem]
        clear tow
        have HEND : Hid (∀ x, Below (w.heap.size + 2) w3 x → x.heap[w.heap.size + 1]? = some (.cells #[.int .i64 0, .int .i64 0, .int .i64 0, .int .i64 0, .slice none 0 0] 87 (0, 0)) ∧ IsFl x g h cap F ∧ Below w.heap.size w x ∧ w.heap.size + 3 ≤ x.heap.size) := by
          intro x hx
          have hw := unhide HSW
          exact ⟨(hx.block _ (by omega)).trans (((unhide HW3).block _ (by omega)).trans (unhide HBX)), ((unhide HI1).below (unhide HW3)).keepB (hx.block g (by omega)) (hx.block h (by omega)), ((unhide HBW).trans ((unhide HW3).mono (by omega))).trans (hx.mono (by omega)), Nat.le_trans hs3 hx.size⟩
        by_cases ce : err = 0
        · subst ce
          by_cases cn : bs.ck.num < num
          · have cn' : decide (bs.ck.num < num) = true := by simp [cn]
            go_wp2_with (rw [hD])
            go_roundw
            case rel =>
              have hs : (⟨bs.at', bs.ck⟩ : Bst).step 1 ⟨num, slot, last, data, 0⟩ = ⟨1, ⟨num, slot, last, data, 0⟩⟩ := if_pos ⟨rfl, cn⟩
              have hbl : w.heap.size + 2 ≤ (⟨w.heap.size + 1 + 1, 0, none⟩ : Addr).block := Nat.le_refl _
              exact ⟨1 + 1, by omega, by go_num, ⟨_, by rw [unhide HST, show bs.step _ _ = _ from hs]; exact (unhide HALL).set _ (own_below (unhide HO3) (unhide HWD))⟩, unhide HEND _ ((((((unhide HWD).mono (by omega)).setCell (p := ⟨w.heap.size + 1 + 1, 0, none⟩) hbl _).setCell (p := ⟨w.heap.size + 1 + 1, 1, none⟩) hbl _).setCell (p := ⟨w.heap.size + 1 + 1, 2, none⟩) hbl _).setCell (p := ⟨w.heap.size + 1 + 1, 3, none⟩) hbl _ |>.setCell (p := ⟨w.heap.size + 1 + 1, 4, none⟩) hbl _)⟩
            case measure => simp [intOf]
          · have cn' : decide (bs.ck.num < num) = false := by simp [cn]
            go_wp2_with (rw [hD])
            go_roundw
            case rel =>
              have hs : (⟨bs.at', bs.ck⟩ : Bst).step 1 ⟨num, slot, last, data, 0⟩ = bs := if_neg (fun c => Int.not_lt.2 cn c.2)
              exact ⟨1 + 1, by omega, by go_num, ⟨dv, by rw [unhide HST]; rw [show bs.step _ _ = bs from hs]; exact unhide HALL⟩, unhide HEND _ ((unhide HWD).mono (by omega))⟩
            case measure => simp [intOf]
        · have ce' : (err == 0) = false := by simpa using ce
          go_wp2_with (rw [hD])
          go_roundw
          case rel =>
            have hs : (⟨bs.at', bs.ck⟩ : Bst).step 1 ⟨num, slot, last, data, err⟩ = bs := if_neg (fun c => ce c.1)
            exact ⟨1 + 1, by omega, by go_num, ⟨dv, by rw [unhide HST]; rw [show bs.step _ _ = bs from hs]; exact unhide HALL⟩, unhide HEND _ ((unhide HWD).mono (by omega))⟩
          case measure => simp [intOf]
    · obtain rfl : k = 2 := by omega
      obtain ⟨bs, hbs⟩ : ∃ bs, nwk F f m 2 = bs := ⟨_, rfl⟩
      rw [hbs] at hBI
      have HBS := hide hbs
      clear hbs
      obtain ⟨hfive, hfr, hown⟩ := hBI
      have HF5 := hide hfive
      have HOW := hide hown
      have HBW := hide hBW
      obtain ⟨av, cv, rfl⟩ := own_shape hown
      have hres : (∀ i, i < 5 → ∃ u, wr.cell? ⟨w.heap.size + 1, i, none⟩ = some u) ∧ ∀ o, wr.frozen? ⟨w.heap.size + 1, o, none⟩ = false := by
        refine ⟨fun i hi => ?_, fun o => ?_⟩
        · unfold World.cell?
          simp only [hbx]
          have : i < (#[Value.int .i64 0, .int .i64 0, .int .i64 0, .int .i64 0, .slice none 0 0] : Array Value).size := hi
          exact ⟨_, by simp only [Option.isSome_none, Bool.false_eq_true, if_false]; exact Array.getElem?_eq_getElem this⟩
        · unfold World.frozen?; simp only [hbx]; simp
      obtain ⟨⟨_, r0⟩, ⟨_, r1⟩, ⟨_, r2⟩, ⟨_, r3⟩, ⟨_, r4⟩⟩ := And.intro (hres.1 0 (by decide)) (And.intro (hres.1 1 (by decide)) (And.intro (hres.1 2 (by decide)) (And.intro (hres.1 3 (by decide)) (hres.1 4 (by decide)))))
      have rf := hres.2
      have HBR : Hid (BI (w.heap.size + 1) (.slice none 0 0) .none wr) := by
        refine ⟨⟨?_, ?_, ?_, ?_, ?_⟩, rf, World.ownsRow_nil _ _ _ _⟩ <;> (unfold World.cell?; simp [hbx, Bst.none])
      have HNW := hide ((unhide HBR).set bs (own_lower (unhide HOW) (Nat.le_succ _)))
      have HNE : Hid (∀ o o', (⟨w.heap.size + 1, o, none⟩ : Addr) ≠ ⟨w.heap.size + 1 + 1, o', none⟩) := fun o o' => addr_ne (Or.inl (by omega))
      have HS4 : Hid ((((((wr.setCell ⟨w.heap.size + 1, 0, none⟩ (.int .i64 bs.at')).setCell ⟨w.heap.size + 1, 1, none⟩ (.int .i64 bs.ck.num)).setCell ⟨w.heap.size + 1, 2, none⟩ (.int .i64 bs.ck.slot)).setCell ⟨w.heap.size + 1, 3, none⟩ (.int .i64 bs.ck.last)).setCell ⟨w.heap.size + 1, 4, none⟩ (.slice av bs.ck.data.length cv)).drew.cell? ⟨w.heap.size + 1 + 1, 0, none⟩ = some (.int .i64 bs.at') ∧ (((((wr.setCell ⟨w.heap.size + 1, 0, none⟩ (.int .i64 bs.at')).setCell ⟨w.heap.size + 1, 1, none⟩ (.int .i64 bs.ck.num)).setCell ⟨w.heap.size + 1, 2, none⟩ (.int .i64 bs.ck.slot)).setCell ⟨w.heap.size + 1, 3, none⟩ (.int .i64 bs.ck.last)).setCell ⟨w.heap.size + 1, 4, none⟩ (.slice av bs.ck.data.length cv)).drew.cell? ⟨w.heap.size + 1 + 1, 1, none⟩ = some (.int .i64 bs.ck.num) ∧ (((((wr.setCell ⟨w.heap.size + 1, 0, none⟩ (.int .i64 bs.at')).setCell ⟨w.heap.size + 1, 1, none⟩ (.int .i64 bs.ck.num)).setCell ⟨w.heap.size + 1, 2, none⟩ (.int .i64 bs.ck.slot)).setCell ⟨w.heap.size + 1, 3, none⟩ (.int .i64 bs.ck.last)).setCell ⟨w.heap.size + 1, 4, none⟩ (.slice av bs.ck.data.length cv)).drew.cell? ⟨w.heap.size + 1 + 1, 2, none⟩ = some (.int .i64 bs.ck.slot) ∧ (((((wr.setCell ⟨w.heap.size + 1, 0, none⟩ (.int .i64 bs.at')).setCell ⟨w.heap.size + 1, 1, none⟩ (.int .i64 bs.ck.num)).setCell ⟨w.heap.size + 1, 2, none⟩ (.int .i64 bs.ck.slot)).setCell ⟨w.heap.size + 1, 3, none⟩ (.int .i64 bs.ck.last)).setCell ⟨w.heap.size + 1, 4, none⟩ (.slice av bs.ck.data.length cv)).drew.cell? ⟨w.heap.size + 1 + 1, 3, none⟩ = some (.int .i64 bs.ck.last) ∧ (((((wr.setCell ⟨w.heap.size + 1, 0, none⟩ (.int .i64 bs.at')).setCell ⟨w.heap.size + 1, 1, none⟩ (.int .i64 bs.ck.num)).setCell ⟨w.heap.size + 1, 2, none⟩ (.int .i64 bs.ck.slot)).setCell ⟨w.heap.size + 1, 3, none⟩ (.int .i64 bs.ck.last)).setCell ⟨w.heap.size + 1, 4, none⟩ (.slice av bs.ck.data.length cv)).drew.cell? ⟨w.heap.size + 1 + 1, 4, none⟩ = some (.slice av bs.ck.data.length cv)) := by
        have ne := unhide HNE
        obtain ⟨f0, f1, f2, f3, f4⟩ := unhide HF5
        refine ⟨?_, ?_, ?_, ?_, ?_⟩ <;> rw [cell_drew_own, cs_other (ne _ _), cs_other (ne _ _), cs_other (ne _ _), cs_other (ne _ _), cs_other (ne _ _)] <;> assumption
      clear hres hown hBW hI hsw hfive hbx
      go_wp2
      refine wp_region_held_drew (S := fun x => x.cell? ⟨w.heap.size + 1 + 1, 0, none⟩ = some (.int .i64 bs.at') ∧ x.cell? ⟨w.heap.size + 1 + 1, 1, none⟩ = some (.int .i64 bs.ck.num) ∧ x.cell? ⟨w.heap.size + 1 + 1, 2, none⟩ = some (.int .i64 bs.ck.slot) ∧ x.cell? ⟨w.heap.size + 1 + 1, 3, none⟩ = some (.int .i64 bs.ck.last) ∧ x.cell? ⟨w.heap.size + 1 + 1, 4, none⟩ = some (.slice av bs.ck.data.length cv)) (by kernel_rfl) (unhide HF5) (fun hHeld => ?_)
      refine wpAnyH_take (i := 0) (v := ?v1x0) rfl (by kernel_rfl) (by kernel_rfl) (by kernel_rfl) (fun _ _ _ h => h) (Or.inl ⟨by rfl, ?hy1x0⟩) (by assumption) ?rest1x0
      case hy1x0 => intro w hSw; obtain ⟨s0, s1, s2, s3, s4⟩ := hSw; go_simp <;> with_reducible rfl
      simp only [Act.put, List.getElem_toArray, List.getElem_cons_zero, List.setIfInBounds_toArray, List.set_cons_zero, List.set_cons_succ]
      refine wpAnyH_take (i := 1) (v := ?v2x1) rfl (by kernel_rfl) (by kernel_rfl) (by kernel_rfl) (fun _ _ _ h => h) (Or.inl ⟨by rfl, ?hy2x1⟩) (by assumption) ?rest2x1
      case hy2x1 => intro w hSw; obtain ⟨s0, s1, s2, s3, s4⟩ := hSw; go_simp <;> with_reducible rfl
      simp only [Act.put, List.getElem_toArray, List.getElem_cons_zero, List.getElem_cons_succ, List.setIfInBounds_toArray, List.set_cons_zero, List.set_cons_succ]
      refine wpAnyH_take (i := 2) (v := ?v3x2) rfl (by kernel_rfl) (by kernel_rfl) (by kernel_rfl) (fun _ _ _ h => h) (Or.inl ⟨by rfl, ?hy3x2⟩) (by assumption) ?rest3x2
      case hy3x2 => intro w hSw; obtain ⟨s0, s1, s2, s3, s4⟩ := hSw; go_simp <;> with_reducible rfl
      simp only [Act.put, List.getElem_toArray, List.getElem_cons_zero, List.getElem_cons_succ, List.setIfInBounds_toArray, List.set_cons_zero, List.set_cons_succ]
      refine wpAnyH_take (i := 3) (v := ?v4x3) rfl (by kernel_rfl) (by kernel_rfl) (by kernel_rfl) (fun _ _ _ h => h) (Or.inl ⟨by rfl, ?hy4x3⟩) (by assumption) ?rest4x3
      case hy4x3 => intro w hSw; obtain ⟨s0, s1, s2, s3, s4⟩ := hSw; go_simp <;> with_reducible rfl
      simp only [Act.put, List.getElem_toArray, List.getElem_cons_zero, List.getElem_cons_succ, List.setIfInBounds_toArray, List.set_cons_zero, List.set_cons_succ]
      refine wpAnyH_ready (rs := [4]) (by kernel_rfl) (by simp) ?_
      refine AllReadyH.cons rfl (fun K hK => ?_) AllReadyH.nil
      go_simp
      refine hK _ _ (unhide HS4) ?_
      clear hK hHeld
      intro hHeld
      refine wpAnyH_take (i := 5) (v := ?v5x5) rfl (by kernel_rfl) (by kernel_rfl) (by kernel_rfl) (fun _ _ _ h => h) (Or.inl ⟨by rfl, ?hy5x5⟩) (by assumption) ?rest5x5
      case hy5x5 => intro w hSw; obtain ⟨s0, s1, s2, s3, s4⟩ := hSw; go_simp <;> with_reducible rfl
      simp only [Act.put, List.getElem_toArray, List.getElem_cons_zero, List.getElem_cons_succ, List.setIfInBounds_toArray, List.set_cons_zero, List.set_cons_succ]
      refine wpAnyH_done (by kernel_rfl) ?_ _
      go_wp2
      obtain ⟨⟨k0, k1, k2, k3, k4⟩, _, ko⟩ := unhide HNW
      refine bodyPost_ret (v := .tuple #[.agg #[.int .i64 bs.at', .int .i64 bs.ck.num, .int .i64 bs.ck.slot, .int .i64 bs.ck.last, .slice av bs.ck.data.length cv], .bool (decide (0 < bs.ck.num))]) (by simp [results, Try.results44, go_sem, k0, k1, k2, k3, k4]) rfl ?_
      have hp : w.heap.size ≤ (⟨w.heap.size + 1, 0, none⟩ : Addr).block := Nat.le_succ _
      rw [unhide HBS]
      exact ⟨_, rfl, (by exact own_lower (b' := w.heap.size) (own_drew ko) (Nat.le_trans (Nat.le_succ _) (Nat.le_succ _))), ((((((unhide HBW).setCell (p := ⟨w.heap.size + 1, 0, none⟩) hp _).setCell (p := ⟨w.heap.size + 1, 1, none⟩) hp _).setCell (p := ⟨w.heap.size + 1, 2, none⟩) hp _).setCell (p := ⟨w.heap.size + 1, 3, none⟩) hp _).setCell (p := ⟨w.heap.size + 1, 4, none⟩) hp _).drew⟩
end Go.Proofs.Ytiijbklaapaheaa
