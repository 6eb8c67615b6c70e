/- begun. -/
import Derived.Test.YtiijbklaapaheaaCQ
import Derived.Test.YtiijbklaapaheaaCR
import Derived.Test.YtiijbklaapaheaaKE
import Derived.Test.YtiijbklaapaheaaKB
namespace Go.Proofs.Ytiijbklaapaheaa
open Go.RowKit
set_option maxRecDepth 100000

/-- The flash of 'begun', step by step. -/
def gF1 : Fl := (savW (Fl.blank 2) 0 1 (nwk (Fl.blank 2) 0 1 2) 5 1 [120]).2
def gF2 : Fl := (savW gF1 0 1 (nwk gF1 0 1 2) 9 2 [121]).2
theorem g0_num : (nwk (Fl.blank 2) 0 1 2).ck.num = 0 := by decide +kernel
theorem g0_ok : (savW (Fl.blank 2) 0 1 (nwk (Fl.blank 2) 0 1 2) 5 1 [120]).1 = 0 := by decide +kernel
theorem g1_num : (nwk gF1 0 1 2).ck.num = 1 := by decide +kernel
theorem g1_ok : (savW gF1 0 1 (nwk gF1 0 1 2) 9 2 [121]).1 = 0 := by decide +kernel
theorem g1_is : gF1.down = false ∧ gF1.cnt = 0 ∧ gF1.n = 2 := by decide +kernel
theorem g2_is : gF2.down = false ∧ gF2.cnt = 0 ∧ gF2.n = 2 := by decide +kernel
theorem g2_nw : (nwk gF2 0 1 2).at' = 1 ∧ (nwk gF2 0 1 2).ck.num = 2 ∧ (nwk gF2 0 1 2).ck.slot = 9 ∧ (nwk gF2 0 1 2).ck.last = 2 ∧ (nwk gF2 0 1 2).ck.data = [121] := by decide +kernel
theorem savW_sm {F : Fl} (h : Sm F) (f m : Nat) (c : Bst) (slot last : Int) (ds : List Int) : Sm (savW F f m c slot last ds).2 := by
  unfold savW; split
  · exact h
  · exact h.wrtH _ _ _
theorem g1_sm : Sm gF1 := savW_sm (sm_blank 2) _ _ _ _ _ _
theorem g2_sm : Sm gF2 := savW_sm g1_sm _ _ _ _ _ _
theorem byt120 : Byt [120] := by intro b hb; simp at hb; omega
theorem byt121 : Byt [121] := by intro b hb; simp at hb; omega

set_option maxHeartbeats 1600000 in
theorem begun_any (w : World) : Calls Try.prog 12 #[] w fun e w' => e = .returned (.bool true) ∧ Below w.heap.size w w' := by
  have hcv := fun (w : World) => conv_mark w #[.int .u8 120] 1 1
  have hcw := fun (w : World) => conv_mark w #[.int .u8 121] 1 1
  have HN := hide (new_ok 2 w (by omega) (by omega))
  go_enter Try.func12, Try.ntmps12
  go_wp2_with (first | (go_at_call 17; refine (unhide HN).mono ?_; rintro e w1 ⟨g, h, cap, rfl, hI1, hb1, hg, hh⟩; have HI1 := hide hI1; have HB1 := hide hb1; clear hI1 hb1) | fail)
  refine (save_none (F := Fl.blank 2) ((unhide HI1).alloc (.cells #[.int .u8 120] 5 (1, 2))) (Int.le_refl _) (by decide) (sm_blank 2).hP 0 2 (by decide) (by decide) (by decide) 5 1 _ [120] (sees_mark w1 [120] 5 1 (1, 2) rfl) byt120 (by decide) rfl (by rw [g0_num]; decide) (by rw [g0_num]; decide)).mono ?_
  rintro e w2 ⟨he, hI2, hU2⟩
  obtain rfl : e = Ending.returned (.int .i64 0) := by rw [he, g0_ok]
  have HI2 : Hid (IsFl w2 g h cap gF1) := hI2
  have HU2 : Hid (Upd (Two g h) w1.heap.size w1 w2) := ((Upd.refl _ _ _).alloc (Nat.le_refl _) _).trans (hU2.less (by simp))
  clear hI2 hU2 HN he hcv
  go_wp2_with fail
  refine (save_has (F := gF1) ((unhide HI2).alloc (.cells #[.int .u8 121] 5 (1, 2))) (by rw [g1_is.2.1]; decide) (by rw [g1_is.2.1]; decide) g1_sm.hP 0 2 (by decide) (by rw [g1_is.2.2]; decide) (by rw [g1_is.2.2]; decide) 9 2 _ [121] (sees_mark w2 [121] 5 1 (1, 2) rfl) byt121 (by decide) g1_is.1 (by rw [g1_num]; decide) (by rw [g1_num]; decide)).mono ?_
  rintro e w3 ⟨he, hI3, hU3⟩
  obtain rfl : e = Ending.returned (.int .i64 0) := by rw [he, g1_ok]
  have HI3 : Hid (IsFl w3 g h cap gF2) := hI3
  have HU3 : Hid (Upd (Two g h) w1.heap.size w1 w3) := (unhide HU2).trans (((Upd.refl _ _ _).alloc (Nat.le_refl _) _).trans (hU3.less (by simp)) |>.less (unhide HU2).size)
  clear hI3 hU3 he hcw HI2 HU2
  have HLD := hide (load_ok (unhide HI3) g2_sm.hP 0 2 (by rw [g2_is.2.2]; decide) (by rw [g2_is.2.2]; decide) g2_is.1)
  rw [g2_nw.2.1, g2_nw.2.2.1, g2_nw.2.2.2.1, g2_nw.2.2.2.2] at HLD
  go_wp2_with fail
  refine (unhide HLD).mono ?_
  rintro e w4 ⟨dv, rfl, ho4, hb4⟩
  obtain ⟨da, dc, rfl⟩ := own_shape ho4
  have HI4 := hide ((unhide HI3).below hb4)
  have hsee := (sees_of_own ho4).2
  have HSD : Hid (∀ x, Below w4.heap.size w4 x → Sees x .u8 (.slice da 1 dc) [121]) := fun x hx => hsee.below hx
  have HU4 : Hid (Upd (Two g h) w1.heap.size w1 w4) := (unhide HU3).trans ((Upd.of hb4).less (unhide HU3).size)
  obtain ⟨W4, hW4⟩ : ∃ W4, w4.alloc (.cells #[.int .i64 9, .int .i64 2, .slice da 1 dc] 24) = W4 := ⟨_, rfl⟩
  have bW : Below w4.heap.size w4 W4 := hW4 ▸ (Below.refl _ _).alloc (Nat.le_refl _) _
  have HBX : Hid (∀ x, Below W4.heap.size W4 x → x.cell? ⟨w4.heap.size, 0, none⟩ = some (.int .i64 9) ∧ x.cell? ⟨w4.heap.size, 1, none⟩ = some (.int .i64 2) ∧ x.cell? ⟨w4.heap.size, 2, none⟩ = some (.slice da 1 dc)) := fun x hx => box3 (by rw [hW4, show w4.heap.size + 1 = W4.heap.size by rw [← hW4]; simp]; exact hx)
  have HHF := hide (half_ok ((unhide HI4).below bW) g2_sm.hP 0 2 (by rw [g2_is.2.2]; decide) (by rw [g2_is.2.2]; decide))
  rw [g2_nw.1, g2_nw.2.1] at HHF
  have HBW := hide bW
  clear hsee ho4 hb4 bW
  go_wp2_with (first | rw [hW4] | fail)
  refine (unhide HHF).mono ?_
  rintro e w5 ⟨rfl, hb5⟩
  obtain ⟨q0, q1, q2⟩ := unhide HBX w5 hb5
  have hcs := run_conv_sees (P := Try.prog) w5 22 9 5 (.slice da 1 dc) [121] Try.underlying22 Try.underlying5 Try.underlying9 (unhide HSD w5 ((unhide HBW).trans (hb5.mono (unhide HBW).size))) byt121
  have hst : strOf [121] = ⟨#[121]⟩ := by decide +kernel
  rw [hst] at hcs
  have HF : Hid (Below w.heap.size w w5) := by
    have b5 : Upd (Two g h) w1.heap.size w1 w5 := (unhide HU4).trans ((Upd.of ((unhide HBW).trans (hb5.mono (unhide HBW).size))).less (unhide HU4).size)
    refine (unhide HB1).trans (b5.below (unhide HB1).size ?_)
    intro k hk
    show ¬ (k = g ∨ k = h)
    omega
  clear hb5
  go_wp2
  go_ret
  exact ⟨rfl, unhide HF⟩
end Go.Proofs.Ytiijbklaapaheaa
