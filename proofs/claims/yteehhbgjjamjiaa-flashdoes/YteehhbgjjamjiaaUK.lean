/- step: Read, and the arm of Clone. -/
import Derived.Test.YteehhbgjjamjiaaUJ
namespace Go.Proofs.Yteehhbgjjamjiaa
open Go.RowKit
variable {w : World} {B g h cap hr gp gw cp cw : Nat} {S : Nat → Prop} {F : Fl}

theorem readB_byt (F : Fl) (i j : Int) : Byt (F.readB i j) := by
  unfold Fl.readB
  split
  · exact bytesOf_byt _
  · intro b hb; cases hb

set_option maxRecDepth 100000 in
set_option maxHeartbeats 1600000 in
theorem step_read (J : Jt w B g h cap hr gp gw cp cw S F) (_hB : B ≤ w.heap.size) (i j a x : Int) (bv : Value) (ao : Option Addr) (l c : Nat) (hbv : bv = .slice ao l c) :
    Calls Try.prog 10 #[P0 h, P0 hr, .agg #[.int .i64 1, .int .i64 i, .int .i64 j, .int .i64 a, .int .i64 x, bv]] w (Stepped B g h hr gp gw cp cw w) := by
  subst hbv
  have hb0 : Below w.heap.size w (w.alloc (.cells #[.int .i64 1, .int .i64 i, .int .i64 j, .int .i64 a, .int .i64 x, .slice ao l c] 30)) := (Below.refl _ _).alloc (Nat.le_refl _) _
  have J1 := J.below hb0
  have HJ := hide J1
  have HB0 := hide hb0
  have HC := hide (read_all J1.fl i j)
  have HCell : Hid (∀ w', Below (w.heap.size + 1) (w.alloc (.cells #[.int .i64 1, .int .i64 i, .int .i64 j, .int .i64 a, .int .i64 x, .slice ao l c] 30)) w' → w'.cell? ⟨w.heap.size, 1, none⟩ = some (.int .i64 i) ∧ w'.cell? ⟨w.heap.size, 2, none⟩ = some (.int .i64 j)) := fun w' hb => by
    constructor
    · rw [hb.cell (p := ⟨w.heap.size, 1, none⟩) (Nat.lt_succ_self _), World.cell?_alloc_new]; rfl
    · rw [hb.cell (p := ⟨w.heap.size, 2, none⟩) (Nat.lt_succ_self _), World.cell?_alloc_new]; rfl
  clear J1 J hb0
  go_enter Try.func10, Try.ntmps10
  go_wp2_with fail
  refine (unhide HC).mono ?_
  rintro e w1 ⟨x1, rfl, hs1, hb1⟩
  obtain ⟨ao1, cap1, rfl, _⟩ := id hs1
  have hJ1 := (unhide HJ).below hb1
  obtain ⟨pb, cb, bv, kp, hR⟩ := hJ1.rf
  have HR := hide (rread_any hR i j)
  obtain ⟨c1, c2⟩ := unhide HCell w1 (by simpa using hb1)
  have HJ1 := hide hJ1; have HB1 := hide hb1; have HS1 := hide hs1
  clear hJ1 hb1 hR hs1 HC
  go_wp2_with fail
  refine (unhide HR).mono ?_
  rintro e w2 ⟨x2, rfl, hs2, hb2⟩
  obtain ⟨ao2, cap2, rfl, _⟩ := id hs2
  have HQ := hide (equal_any _ _ _ _ w2 ((unhide HS1).below hb2) hs2 (readB_byt F i j) (readB_byt F i j))
  have HE : Hid (Stepped B g h hr gp gw cp cw w (.returned (.tuple #[P0 h, .bool true])) w2) := ⟨g, h, cap, S, F, rfl, (unhide HJ1).below hb2, Upd.of ((unhide HB0).trans (((unhide HB1).mono (by simp)).trans (hb2.mono (by have := (unhide HB1).size; simp at this; omega))))⟩
  clear hb2 hs2 HR c1 c2
  go_wp2_with fail
  refine (unhide HQ).mono ?_
  rintro e w3 ⟨rfl, rfl⟩
  simp only [decide_true]
  clear HQ
  go_wp2
  go_ret2
  exact unhide HE

/-- What is neither flash's nor below B is written. -/
theorem Jt.free {w1 : World} {U : Nat → Prop} (J : Jt w B g h cap hr gp gw cp cw S F) (hU : Upd U w.heap.size w w1) (hUS : ∀ k, U k → S k) (hg : ¬ U g) (hh : ¬ U h) (hB : ∀ k, k < B → ¬ U k) : Jt w1 B g h cap hr gp gw cp cw S F ∧ Below B w w1 := by
  obtain ⟨pb, cb, bv, kp, H⟩ := J.rf
  refine ⟨⟨J.fl.upd hU (Nat.le_refl _) hg hh, ⟨pb, cb, bv, kp, H.upd hU (Nat.le_refl _) (fun k _ c => hUS k c)⟩, fun k hk => Nat.lt_of_lt_of_le (J.inh k hk) hU.size, J.sg, J.sh, J.low, J.bg, J.bh⟩, hU.below ?_ hB⟩
  have := J.bg; have := J.fl.glt; omega
end Go.Proofs.Yteehhbgjjamjiaa
