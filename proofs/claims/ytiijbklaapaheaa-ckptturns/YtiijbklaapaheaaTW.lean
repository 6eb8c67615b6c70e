/- CkptTurns: the walk. -/
import Derived.Test.YtiijbklaapaheaaCZ
import Derived.Test.YtiijbklaapaheaaHP
import Derived.Test.YtiijbklaapaheaaTA
namespace Go.Proofs.Ytiijbklaapaheaa
open Go.RowKit
set_option maxRecDepth 100000

theorem pageL_is (ys : List Int) : pageL ys = ys ++ List.replicate (256 - ys.length) 255 := rfl

theorem TI.half {F0 F : Fl} {m : Nat} (h : TI F0 F m) : F.wear 1 ≤ (m : Int) / 2 ∧ F.wear 2 ≤ (m : Int) / 2 := by
  obtain ⟨a0, a1, a2⟩ := h.w1
  obtain ⟨b0, b1, b2⟩ := h.w2
  constructor
  · rcases Nat.eq_zero_or_pos m with c | c
    · have := a1 c; omega
    · have := a2 c; omega
  · rcases Nat.lt_or_ge m 2 with c | c
    · have := b1 (by omega); omega
    · have := b2 c; omega

set_option maxHeartbeats 3200000 in
theorem turns_walk (n : Nat) (os : Nat → OpV) (ao bo : Option Addr) (lc bc : Nat) (zs : List Int) (w : World) (hs : SeesOps w (.slice ao n lc) n os) (hb : Sees w .u8 (.slice bo zs.length bc) zs) (hzb : Byt zs) (hzl : zs.length ≤ 9223372036854775807)
    (HBG : ∀ w : World, Calls Try.prog 12 #[] w fun e w' => e = .returned (.bool true) ∧ Below w.heap.size w w') :
    Calls Try.prog 5 #[.slice ao n lc, .slice bo zs.length bc] w fun e w' => e = .returned (.bool true) ∧ Below w.heap.size w w' := by
  have HBG := hide HBG
  have hn63 : n ≤ 9223372036854775807 := by obtain ⟨_, _, _, _, _, _, h, _⟩ := hs; exact h
  have HS : Hid (∀ w', Below w.heap.size w w' → SeesOps w' (.slice ao n lc) n os) := fun w' h => hs.below h
  obtain ⟨M, hM⟩ : ∃ M : Nat, min (zs.length : Int) 256 = (M : Int) := ⟨min zs.length 256, by omega⟩
  have hlen : (zs.take M).length = M := by simp; omega
  have hbc : (M : Int) ≤ (bc : Int) := by obtain ⟨_, _, e, h1, _⟩ := hb; simp only [Value.slice.injEq, true_and] at e; obtain ⟨rfl, rfl⟩ := e; omega
  have HYS : Hid (∀ w', Below w.heap.size w w' → Sees w' .u8 (.slice bo M bc) (zs.take M)) := fun w' h => by have := sees_take (hb.below h) M (by omega); rw [hlen] at this; exact this
  have HYB : Hid (Byt (zs.take M)) := fun b hb => hzb b (List.mem_of_mem_take hb)
  have hM256 : (zs.take M).length ≤ 256 := by omega
  have HM := hide (And.intro hlen hM256)
  generalize zs.take M = ys at HYS HYB HM
  clear hs hb hzb hlen hM256
  obtain ⟨hp1, hp2⟩ := tF0_prog (unhide HM).2
  have HP1 : Hid (∀ x g h fc v, IsFl x g h fc (Fl.blank 4) → Sees x .u8 v ys → Calls Try.prog 21 #[P0 h, .int .i64 0, .int .i64 0, v] x fun e w' => e = .returned (.int .i64 0) ∧ IsFl w' g h fc ((Fl.blank 4).put 0 0 2 (strOf (pageL ys))) ∧ Upd (Two g h) x.heap.size x w') := fun x g h fc v hI hv => by
    have := prog_all hI (Int.le_refl 0) (by show (0 : Int) ≤ _; decide) 0 0 v ys hv (unhide HYB)
    rw [hp1] at this
    exact this
  have HP2 : Hid (∀ x g h fc v, IsFl x g h fc ((Fl.blank 4).put 0 0 2 (strOf (pageL ys))) → Sees x .u8 v ys → Calls Try.prog 21 #[P0 h, .int .i64 3, .int .i64 5, v] x fun e w' => e = .returned (.int .i64 0) ∧ IsFl w' g h fc (tF0 ys) ∧ Upd (Two g h) x.heap.size x w') := fun x g h fc v hI hv => by
    have := prog_all hI (Int.le_refl 0) (by show (0 : Int) ≤ _; decide) 3 5 v ys hv (unhide HYB)
    rw [hp2] at this
    exact this
  have HT0 := hide (TI.begin (unhide HM).2)
  clear hp1 hp2
  go_enter Try.func5, Try.ntmps5
  go_wp2_with fail
  refine (new_ok 4 w (by decide) (by decide)).mono ?_
  rintro e w1 ⟨g, h, fc, rfl, i1, b1, hg, hh⟩
  have HI1 := hide i1
  have HB1 := hide b1
  have HG : Hid (w.heap.size ≤ g ∧ w.heap.size ≤ h) := ⟨hg, hh⟩
  clear i1 b1 hg hh
  go_wp2_with fail
  refine (unhide HBG w1).mono ?_
  rintro e w2 ⟨rfl, b2⟩
  have HI2 := hide ((unhide HI1).below b2)
  have HB2 : Hid (Below w.heap.size w w2) := (unhide HB1).trans (b2.mono (unhide HB1).size)
  clear b2 HI1 HB1
  go_wp2_with fail
  refine (unhide HP1 w2 g h fc _ (unhide HI2) (unhide HYS w2 (unhide HB2))).mono ?_
  rintro e w3 ⟨rfl, i3, u3⟩
  have HB3 : Hid (Below w.heap.size w w3) := (unhide HB2).trans (u3.below (unhide HB2).size (fun k hk => by have := unhide HG; show ¬ (k = g ∨ k = h); omega))
  have HI3 := hide i3
  clear i3 u3 HI2 HB2
  go_wp2_with fail
  refine (unhide HP2 w3 g h fc _ (unhide HI3) (unhide HYS w3 (unhide HB3))).mono ?_
  rintro e w4 ⟨rfl, i4, u4⟩
  have HB4 : Hid (Below w.heap.size w w4) := (unhide HB3).trans (u4.below (unhide HB3).size (fun k hk => by have := unhide HG; show ¬ (k = g ∨ k = h); omega))
  have HI4 := hide i4
  clear i4 u4 HI3 HB3 HP1 HP2
  go_wp2
  go_loopw [7, 41] (fun c7 c wr => ∃ (k m : Nat) (G : Fl), k ≤ n ∧ c7 = .int .i64 m ∧ c = .int .i64 k ∧ IsFl wr g h fc G ∧ TI (tF0 ys) G m ∧ Below w.heap.size w wr) (fun _ c _ => n - (intOf c).toNat)
  case atStart => exact ⟨0, 0, tF0 ys, Nat.zero_le _, rfl, rfl, unhide HI4, unhide HT0, unhide HB4⟩
  case round =>
    obtain ⟨k, m, G, hk, rfl, rfl, hI, hT, hB⟩ := hrel
    by_cases hlt : k < n
    · obtain ⟨ao', cap', gb, ob, hv, _, _, hao, hcl⟩ := unhide HS wr hB
      simp only [Value.slice.injEq, true_and] at hv
      obtain ⟨rfl, rfl⟩ := hv
      obtain rfl := hao (by omega)
      obtain ⟨hok, c0, c1, c2, c3, c4, c5, c6, c7, c8⟩ := hcl k hlt
      obtain ⟨q, hq⟩ : ∃ q, os k = q := ⟨_, rfl⟩
      rw [hq] at hok c0 c1 c2 c3 c4 c5 c6 c7 c8
      clear hcl hao hq
      obtain ⟨x0, qf, qn, slot, last, x6, x7, x8, qa, qc, qd⟩ := q
      simp only at hok c0 c1 c2 c3 c4 c5 c6 c7 c8
      have hb0 : Below wr.heap.size wr (wr.alloc (.cells #[.int .i64 x0, .int .i64 qf, .int .i64 qn, .int .i64 slot, .int .i64 last, .slice qa qd.length qc, .int .i64 x6, .int .i64 x7, .int .i64 x8] 43)) := (Below.refl _ _).alloc (Nat.le_refl _) _
      have hok' := hok.below hb0
      have hgl := hI.glt
      have hhl := hI.hlt
      have HST := hide (save_all (hI.below hb0) (by rw [hT.fine.2]; exact Int.le_refl 0) (by rw [hT.fine.2]; decide) hT.sm.hP 1 2 (by decide) slot last qa qc qd hok'.sees hok'.byt hok'.len)
      have HStep := hide (hT.step slot last qd hok.byt)
      have HBw : Hid (Below w.heap.size w (wr.alloc (.cells #[.int .i64 x0, .int .i64 qf, .int .i64 qn, .int .i64 slot, .int .i64 last, .slice qa qd.length qc, .int .i64 x6, .int .i64 x7, .int .i64 x8] 43))) := hB.trans (hb0.mono hB.size)
      have hm40 := hT.lt
      generalize sav G 1 2 slot last qd = R at HST HStep
      obtain ⟨er, G'⟩ := R
      simp only at HST HStep
      clear hI hT hB hb0 hok hok' hgl hhl
      rcases unhide HStep with ⟨her, hT'⟩ | ⟨rfl, hT'⟩
      · have her' : ((er : Int) == 0) = false := by simp [her]
        have HT' := hide hT'
        clear hT' HStep
        go_wp2_with fail
        refine (unhide HST).mono ?_
        rintro e w5 ⟨rfl, i5, u5⟩
        have HB5 : Hid (Below w.heap.size w w5) := (unhide HBw).trans (u5.below (unhide HBw).size (fun k hk => by have := unhide HG; show ¬ (k = g ∨ k = h); omega))
        have HI5 := hide i5
        clear i5 u5
        go_wp2
        go_roundw
        case rel => exact ⟨k + 1, m, G', by omega, rfl, by go_num, unhide HI5, unhide HT', unhide HB5⟩
        case measure => simp [intOf]; omega
      · have HT' := hide hT'
        clear hT' HStep
        go_wp2_with fail
        refine (unhide HST).mono ?_
        rintro e w5 ⟨rfl, i5, u5⟩
        have HB5 : Hid (Below w.heap.size w w5) := (unhide HBw).trans (u5.below (unhide HBw).size (fun k hk => by have := unhide HG; show ¬ (k = g ∨ k = h); omega))
        have HI5 := hide i5
        clear i5 u5
        go_wp2
        go_roundw
        case rel => exact ⟨k + 1, m + 1, G', by omega, by go_num, by go_num, unhide HI5, unhide HT', unhide HB5⟩
        case measure => simp [intOf]; omega
    · have HI := hide hI
      have HT := hide hT
      have HB := hide hB
      clear hI hT hB
      obtain ⟨wo, hwo⟩ : ∃ wo, wo = wr := ⟨_, rfl⟩
      subst hwo
      obtain ⟨A, hA⟩ : ∃ A, wo.alloc (.cells #[.int .i64 0, .int .i64 0, .int .i64 3, .int .i64 5] 53) = A := ⟨_, rfl⟩
      have bA : Below wo.heap.size wo A := hA ▸ (Below.refl _ _).alloc (Nat.le_refl _) _
      have HAX : Hid (∀ x, Below A.heap.size A x → x.cell? ⟨wo.heap.size, 0, none⟩ = some (.int .i64 0) ∧ x.cell? ⟨wo.heap.size, 1, none⟩ = some (.int .i64 0) ∧ x.cell? ⟨wo.heap.size, 2, none⟩ = some (.int .i64 3) ∧ x.cell? ⟨wo.heap.size, 3, none⟩ = some (.int .i64 5)) := fun x hx => by
        have hs : wo.heap.size < A.heap.size := by rw [← hA]; simp
        have c : ∀ o, x.cell? ⟨wo.heap.size, o, none⟩ = A.cell? ⟨wo.heap.size, o, none⟩ := fun o => hx.cell (p := ⟨wo.heap.size, o, none⟩) hs
        refine ⟨?_, ?_, ?_, ?_⟩ <;> (rw [c, ← hA]; simp [go_sem])
      have HIA := hide ((unhide HI).below bA)
      have HBA : Hid (Below w.heap.size w A) := (unhide HB).trans (bA.mono (unhide HB).size)
      have HBS := hide ((unhide HT).beside (unhide HYB))
      clear bA
      go_wp2_with (first | rw [hA] | fail)
      go_loopw [58] (fun c wr => ∃ k : Nat, k ≤ 2 ∧ c = .int .i64 k ∧ Below A.heap.size A wr) (fun c _ => 2 - (intOf c).toNat)
      case atStart => exact ⟨0, by omega, rfl, Below.refl _ _⟩
      case round =>
        obtain ⟨k2, hk2, rfl, hBr⟩ := hrel
        obtain ⟨a0, a1, a2, a3⟩ := unhide HAX wr hBr
        have HIr := hide ((unhide HIA).below hBr)
        have HWr : Hid (Below w.heap.size w wr) := (unhide HBA).trans (hBr.mono (unhide HBA).size)
        have HBr := hide hBr
        clear hBr
        by_cases hlt2 : k2 < 2
        · obtain rfl | rfl : k2 = 0 ∨ k2 = 1 := by omega
          · skip
            have hR : Hid (∀ x, IsFl x g h fc G → Calls Try.prog 22 #[P0 h, .int .i64 0, .int .i64 0] x fun e w' => ∃ v, e = .returned (.tuple #[v, .int .i64 0]) ∧ Sees w' .u8 v (pageL ys) ∧ Below x.heap.size x w') := fun x hx => by
              have := read_all hx 0 0
              rw [(unhide HBS).1, (unhide HBS).2.1] at this
              exact this
            have hU : Hid (∀ x, IsFl x g h fc G → Calls Try.prog 24 #[P0 h, .int .i64 0] x fun e w' => e = .returned (.int .i64 1) ∧ Below x.heap.size x w') := fun x hx => by
              have := fused_any hx 0
              rw [(unhide HBS).2.2.1] at this
              exact this
            have hWE : Hid (∀ x, IsFl x g h fc G → Calls Try.prog 25 #[P0 h, .int .i64 0] x fun e w' => e = .returned (.int .i64 0) ∧ x = w') := fun x hx => by
              have := wear_any hx 0 (by rw [(unhide HT).n4]; decide)
              rw [(unhide HT).w0] at this
              exact this
            obtain ⟨V, hV⟩ : ∃ V, wr.alloc (.cells #[.int .i64 0, .int .i64 0] 53) = V := ⟨_, rfl⟩
            have bV : Below wr.heap.size wr V := hV ▸ (Below.refl _ _).alloc (Nat.le_refl _) _
            have HSV : Hid (V.heap.size = wr.heap.size + 1) := by show _ = _; rw [← hV]; simp
            have HVX : Hid (∀ x, Below V.heap.size V x → x.cell? ⟨wr.heap.size, 0, none⟩ = some (.int .i64 0) ∧ x.cell? ⟨wr.heap.size, 1, none⟩ = some (.int .i64 0)) := fun x hx => cells2 (by rw [hV, ← unhide HSV]; exact hx)
            have HIV := hide ((unhide HIr).below bV)
            have HBV : Hid (Below A.heap.size A V) := (unhide HBr).trans (bV.mono (unhide HBr).size)
            have HWV : Hid (Below w.heap.size w V) := (unhide HWr).trans (bV.mono (unhide HWr).size)
            clear bV
            obtain ⟨v0, v1⟩ := unhide HVX V (Below.refl _ _)
            have HhV := hide hV
            clear hV
            go_wp2_with fail
            rw [unhide HhV]
            refine (unhide hR V (unhide HIV)).mono ?_
            rintro e w5 ⟨x5, rfl, s5, b5⟩
            have HB5 := hide b5
            have HI5 := hide ((unhide HIV).below b5)
            have HW5 : Hid (Below w.heap.size w w5) := (unhide HWV).trans (b5.mono (unhide HWV).size)
            have HHP := hide (hasPrefix_yes x5 (.slice bo M bc) (List.replicate (256 - ys.length) 255) ys w5 (by rw [← pageL_is]; exact s5) (unhide HYS w5 (unhide HW5)) (unhide HYB))
            clear b5 s5 v0 v1
            obtain ⟨v0, v1⟩ := unhide HVX w5 (unhide HB5)
            go_wp2_with fail
            refine (unhide HHP).mono ?_
            rintro e w5' ⟨rfl, rfl⟩
            go_wp2_with fail
            refine (unhide hU w5 (unhide HI5)).mono ?_
            rintro e w6 ⟨rfl, b6⟩
            have HB6 : Hid (Below V.heap.size V w6) := (unhide HB5).trans (b6.mono (unhide HB5).size)
            have HI6 := hide ((unhide HI5).below b6)
            clear b6 v0 v1
            obtain ⟨v0, v1⟩ := unhide HVX w6 (unhide HB6)
            go_wp2_with fail
            refine (unhide hWE w6 (unhide HI6)).mono ?_
            rintro e w6' ⟨rfl, rfl⟩
            have HB7 : Hid (Below A.heap.size A w6) := (unhide HBV).trans ((unhide HB6).mono (unhide HBV).size)
            go_wp2
            go_roundw
            case rel => exact ⟨1, by omega, by go_num, unhide HB7⟩
            case measure => simp [intOf]
          · skip
            have hR : Hid (∀ x, IsFl x g h fc G → Calls Try.prog 22 #[P0 h, .int .i64 3, .int .i64 5] x fun e w' => ∃ v, e = .returned (.tuple #[v, .int .i64 0]) ∧ Sees w' .u8 v (pageL ys) ∧ Below x.heap.size x w') := fun x hx => by
              have := read_all hx 3 5
              rw [(unhide HBS).2.2.2.1, (unhide HBS).2.2.2.2.1] at this
              exact this
            have hU : Hid (∀ x, IsFl x g h fc G → Calls Try.prog 24 #[P0 h, .int .i64 3] x fun e w' => e = .returned (.int .i64 1) ∧ Below x.heap.size x w') := fun x hx => by
              have := fused_any hx 3
              rw [(unhide HBS).2.2.2.2.2] at this
              exact this
            have hWE : Hid (∀ x, IsFl x g h fc G → Calls Try.prog 25 #[P0 h, .int .i64 3] x fun e w' => e = .returned (.int .i64 0) ∧ x = w') := fun x hx => by
              have := wear_any hx 3 (by rw [(unhide HT).n4]; decide)
              rw [(unhide HT).w3] at this
              exact this
            obtain ⟨V, hV⟩ : ∃ V, wr.alloc (.cells #[.int .i64 3, .int .i64 5] 53) = V := ⟨_, rfl⟩
            have bV : Below wr.heap.size wr V := hV ▸ (Below.refl _ _).alloc (Nat.le_refl _) _
            have HSV : Hid (V.heap.size = wr.heap.size + 1) := by show _ = _; rw [← hV]; simp
            have HVX : Hid (∀ x, Below V.heap.size V x → x.cell? ⟨wr.heap.size, 0, none⟩ = some (.int .i64 3) ∧ x.cell? ⟨wr.heap.size, 1, none⟩ = some (.int .i64 5)) := fun x hx => cells2 (by rw [hV, ← unhide HSV]; exact hx)
            have HIV := hide ((unhide HIr).below bV)
            have HBV : Hid (Below A.heap.size A V) := (unhide HBr).trans (bV.mono (unhide HBr).size)
            have HWV : Hid (Below w.heap.size w V) := (unhide HWr).trans (bV.mono (unhide HWr).size)
            clear bV
            obtain ⟨v0, v1⟩ := unhide HVX V (Below.refl _ _)
            go_wp2_with (first | rw [hV] | fail)
            refine (unhide hR V (unhide HIV)).mono ?_
            rintro e w5 ⟨x5, rfl, s5, b5⟩
            have HB5 := hide b5
            have HI5 := hide ((unhide HIV).below b5)
            have HW5 : Hid (Below w.heap.size w w5) := (unhide HWV).trans (b5.mono (unhide HWV).size)
            have HHP := hide (hasPrefix_yes x5 (.slice bo M bc) (List.replicate (256 - ys.length) 255) ys w5 (by rw [← pageL_is]; exact s5) (unhide HYS w5 (unhide HW5)) (unhide HYB))
            clear b5 s5 v0 v1
            obtain ⟨v0, v1⟩ := unhide HVX w5 (unhide HB5)
            go_wp2_with fail
            refine (unhide HHP).mono ?_
            rintro e w5' ⟨rfl, rfl⟩
            go_wp2_with fail
            refine (unhide hU w5 (unhide HI5)).mono ?_
            rintro e w6 ⟨rfl, b6⟩
            have HB6 : Hid (Below V.heap.size V w6) := (unhide HB5).trans (b6.mono (unhide HB5).size)
            have HI6 := hide ((unhide HI5).below b6)
            clear b6 v0 v1
            obtain ⟨v0, v1⟩ := unhide HVX w6 (unhide HB6)
            go_wp2_with fail
            refine (unhide hWE w6 (unhide HI6)).mono ?_
            rintro e w6' ⟨rfl, rfl⟩
            have HB7 : Hid (Below A.heap.size A w6) := (unhide HBV).trans ((unhide HB6).mono (unhide HBV).size)
            go_wp2
            go_roundw
            case rel => exact ⟨2, by omega, by go_num, unhide HB7⟩
            case measure => simp [intOf]
        · have hh2 := (unhide HT).half
          have hm40 := (unhide HT).lt
          have HW1 : Hid (Calls Try.prog 25 #[P0 h, .int .i64 1] wr fun e w' => e = .returned (.int .i64 (G.wear 1)) ∧ wr = w') := wear_any (unhide HIr) 1 (by rw [(unhide HT).n4]; decide)
          have HW2 : Hid (Calls Try.prog 25 #[P0 h, .int .i64 2] wr fun e w' => e = .returned (.int .i64 (G.wear 2)) ∧ wr = w') := wear_any (unhide HIr) 2 (by rw [(unhide HT).n4]; decide)
          obtain ⟨hw1, hw2⟩ := hh2
          have hm1 : (0 : Int) ≤ (m : Int) := by omega
          have hm2 : (m : Int) ≤ 1099511627776 := by omega
          generalize G.wear 1 = wa at HW1 hw1
          generalize G.wear 2 = wb at HW2 hw2
          go_wp2_with fail
          refine (unhide HW1).mono ?_
          rintro e w7 ⟨rfl, rfl⟩
          go_wp2_with fail
          refine (unhide HW2).mono ?_
          rintro e w7 ⟨rfl, rfl⟩
          go_wp2
          go_ret
          exact ⟨rfl, unhide HWr⟩
end Go.Proofs.Ytiijbklaapaheaa
