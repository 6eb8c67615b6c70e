/- step: the arm of Clone. -/
import Derived.Test.YteehhbgjjamjiaaUK
namespace Go.Proofs.Yteehhbgjjamjiaa
open Go.RowKit
variable {w : World} {B g h cap hr gp gw cp cw : Nat} {S : Nat → Prop} {F : Fl}

theorem changed_cnt (F : Fl) (act : Fl → Int → ByteArray → Fl) (hact : ∀ F s b, (act F s b).cnt = F.cnt) (s : Int) (b : ByteArray) (h0 : 0 ≤ F.cnt) (h1 : F.cnt ≤ 9223372036854775807) : 0 ≤ (F.changed act s b).cnt ∧ (F.changed act s b).cnt ≤ 9223372036854775807 := by
  unfold Fl.changed
  split
  · exact ⟨Int.le_refl _, by show (0 : Int) ≤ _; omega⟩
  · rw [hact]
    unfold Fl.burnt
    split
    · exact ⟨h0, h1⟩
    · constructor
      · show 0 ≤ F.cnt - 1; omega
      · show F.cnt - 1 ≤ _; omega
theorem prog_cnt (F : Fl) (i j : Int) (zs : List Int) (h0 : 0 ≤ F.cnt) (h1 : F.cnt ≤ 9223372036854775807) : 0 ≤ (F.prog i j zs).2.cnt ∧ (F.prog i j zs).2.cnt ≤ 9223372036854775807 := by
  unfold Fl.prog
  (repeat' split) <;> first | exact ⟨h0, h1⟩ | exact changed_cnt F (putA i.toNat j.toNat) (fun _ _ _ => rfl) _ _ h0 h1

set_option maxRecDepth 100000 in
set_option maxHeartbeats 3200000 in
theorem step_clone (J : Jt w B g h cap hr gp gw cp cw S F) (_hB : B ≤ w.heap.size) (k : Int) (hk : ¬ (0 ≤ k ∧ k ≤ 6)) (i j a x : Int) (zs : List Int) (ao : Option Addr) (c : Nat) (hz : Sees w .u8 (.slice ao zs.length c) zs) (hby : Byt zs) :
    Calls Try.prog 10 #[P0 h, P0 hr, .agg #[.int .i64 k, .int .i64 i, .int .i64 j, .int .i64 a, .int .i64 x, .slice ao zs.length c]] w (Stepped B g h hr gp gw cp cw w) := by
  have hb0 : Below w.heap.size w (w.alloc (.cells #[.int .i64 k, .int .i64 i, .int .i64 j, .int .i64 a, .int .i64 x, .slice ao zs.length c] 30)) := (Below.refl _ _).alloc (Nat.le_refl _) _
  have J1 := J.below hb0
  have HJ := hide J1
  have HB0 := hide hb0
  have HC := hide (fclone_any J1.fl)
  have k0 : (k == 0) = false := by simp; omega
  have k1 : (k == 1) = false := by simp; omega
  have k2 : (k == 2) = false := by simp; omega
  have k3 : (k == 3) = false := by simp; omega
  have k4 : (k == 4) = false := by simp; omega
  have k5 : (k == 5) = false := by simp; omega
  have k6 : (k == 6) = false := by simp; omega
  have n0 : ¬ k = 0 := by omega
  have n1 : ¬ k = 1 := by omega
  have n2 : ¬ k = 2 := by omega
  have n3 : ¬ k = 3 := by omega
  have n4 : ¬ k = 4 := by omega
  have n5 : ¬ k = 5 := by omega
  have n6 : ¬ k = 6 := by omega
  have HG : Hid (g < w.heap.size ∧ h < w.heap.size) := ⟨J.fl.glt, J.fl.hlt⟩
  have HN : Hid (0 ≤ F.cnt ∧ F.cnt ≤ 9223372036854775807) := by obtain ⟨_, _, _, _, HR⟩ := J.rf; exact ⟨HR.cnt0, HR.cnt1⟩
  have HCell : Hid (∀ w' : World, w'.heap[w.heap.size]? = (w.alloc (.cells #[.int .i64 k, .int .i64 i, .int .i64 j, .int .i64 a, .int .i64 x, .slice ao zs.length c] 30)).heap[w.heap.size]? → w'.cell? ⟨w.heap.size, 1, none⟩ = some (.int .i64 i) ∧ w'.cell? ⟨w.heap.size, 2, none⟩ = some (.int .i64 j) ∧ w'.cell? ⟨w.heap.size, 5, none⟩ = some (.slice ao zs.length c)) := fun w' hb => by
    refine ⟨?_, ?_, ?_⟩
    · rw [World.cell?_of_block (a := ⟨w.heap.size, 1, none⟩) hb, World.cell?_alloc_new]; rfl
    · rw [World.cell?_of_block (a := ⟨w.heap.size, 2, none⟩) hb, World.cell?_alloc_new]; rfl
    · rw [World.cell?_of_block (a := ⟨w.heap.size, 5, none⟩) hb, World.cell?_alloc_new]; rfl
  clear J1 J hb0 hk
  go_enter Try.func10, Try.ntmps10
  go_wp2_with fail
  refine (unhide HC).mono ?_
  rintro e w1 ⟨g', h', cap', rfl, hI1, hb1, hg', hh'⟩
  have hs0 : (w.alloc (.cells #[.int .i64 k, .int .i64 i, .int .i64 j, .int .i64 a, .int .i64 x, .slice ao zs.length c] 30)).heap.size = w.heap.size + 1 := by simp
  have hOld := (unhide HJ).fl.below hb1
  have hJ1 := (unhide HJ).swap hb1 hI1 hg' hh'
  have hgl := (unhide HG).1; have hhl := (unhide HG).2
  have HSame := hide (same_any hI1 hOld)
  have HJ1 := hide hJ1; have HO := hide hOld; have HB1 := hide hb1
  rw [hs0] at hg' hh'
  have HGG := hide (And.intro hg' hh')
  clear hI1 hb1 hOld hJ1 hg' hh' HC
  go_wp2_with fail
  refine (unhide HSame).mono ?_
  rintro e w2 ⟨rfl, hb2⟩
  have hb12 : Below (w.heap.size + 1) (w.alloc (.cells #[.int .i64 k, .int .i64 i, .int .i64 j, .int .i64 a, .int .i64 x, .slice ao zs.length c] 30)) w2 := by
    have h1 := unhide HB1
    have h2 := h1.size
    rw [hs0] at h1 h2
    exact h1.trans (hb2.mono h2)
  have hz2 : Sees w2 .u8 (.slice ao zs.length c) zs := hz.below ((unhide HB0).trans (hb12.mono (by omega)))
  have hO2 := (unhide HO).below hb2
  have hJ2 := (unhide HJ1).below hb2
  obtain ⟨c1, c2, c5⟩ := unhide HCell w2 (hb12.block _ (by omega))
  have hc0 := (unhide HN).1; have hc1 := (unhide HN).2
  have HP := hide (prog_all hO2 hc0 hc1 i j _ zs hz2 hby)
  have HJ2 := hide hJ2; have HB12 := hide hb12
  clear hb2 hb12 hz2 hO2 hJ2 hc0 hc1 HSame
  go_wp2_with fail
  refine (unhide HP).mono ?_
  rintro e w3 ⟨rfl, hI3, hU3⟩
  have hU23 := hide hU3
  obtain ⟨d1, d2, d5⟩ := unhide HCell w3 ((hU3.block w.heap.size (by have := (unhide HB12).size; rw [hs0] at this; omega) (by rintro (e | e) <;> omega)).trans ((unhide HB12).block _ (by omega)))
  have hn := prog_cnt F i j zs (unhide HN).1 (unhide HN).2
  have HE3 := hide (erase_all hI3 hn.1 hn.2 i)
  clear hI3 hU3 hn HP c1 c2 c5 d5
  go_wp2_with fail
  refine (unhide HE3).mono ?_
  rintro e w4 ⟨rfl, hI4, hU4⟩
  have hU34 := hide hU4
  have HE4 := hide (crash_all hI4)
  clear hI4 hU4 HE3 d1 d2
  go_wp2_with fail
  refine (unhide HE4).mono ?_
  rintro e w5 ⟨rfl, hI5, hU5⟩
  have hall : Upd (Two g h) w2.heap.size w2 w5 := ((unhide hU23).trans ((unhide hU34).less (unhide hU23).size)).trans (hU5.less (Nat.le_trans (unhide hU23).size (unhide hU34).size))
  obtain ⟨hJ5, hb5⟩ := (unhide HJ2).free hall (by rintro q (rfl | rfl); exact .inl (unhide HJ).sg; exact .inl (unhide HJ).sh) (by have := (unhide HGG).1; rintro (e | e) <;> omega) (by have := (unhide HGG).2; rintro (e | e) <;> omega) (by have := (unhide HJ).bg; have := (unhide HJ).bh; rintro q hq (e | e) <;> omega)
  have HE : Hid (Stepped B g h hr gp gw cp cw w (.returned (.tuple #[P0 h', .bool true])) w5) := ⟨g', h', cap', _, F, rfl, hJ5, (Upd.of ((unhide HB0).trans ((unhide HB12).mono (by omega)))).trans (hall.mono (by have := (unhide HB12).size; rw [hs0] at this; omega) (fun _ _ c => .inl c))⟩
  clear hJ5 hb5 hall hI5 hU5 HE4
  go_wp2
  go_ret2
  exact unhide HE
end Go.Proofs.Yteehhbgjjamjiaa
