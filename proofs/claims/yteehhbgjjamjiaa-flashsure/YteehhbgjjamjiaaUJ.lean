/- step: the plain arms. -/
import Derived.Test.YteehhbgjjamjiaaUI
import Derived.Test.YteehhbgjjamjiaaUF
namespace Go.Proofs.Yteehhbgjjamjiaa
open Go.RowKit

theorem crash_all {g h cap : Nat} {F : Fl} {w : World} (H : IsFl w g h cap F) :
    Calls Try.prog 25 #[P0 h] w fun e w' => e = .returned (.int .i64 F.crash.1) ∧ IsFl w' g h cap F.crash.2 ∧ Upd (Two g h) w.heap.size w w' := by
  unfold Fl.crash
  by_cases hd : F.down = true
  · rw [if_pos hd]
    exact (crash_err (by decide) (ready_down H hd)).mono (by rintro e w' ⟨rfl, rfl⟩; exact ⟨rfl, H, Upd.refl _ _ _⟩)
  · rw [if_neg hd]
    exact crash_ok H (by simpa using hd)
theorem restart_all {g h cap : Nat} {F : Fl} {w : World} (H : IsFl w g h cap F) :
    Calls Try.prog 26 #[P0 h] w fun e w' => e = .returned (.int .i64 F.restart.1) ∧ IsFl w' g h cap F.restart.2 ∧ Upd (Two g h) w.heap.size w w' := by
  unfold Fl.restart
  by_cases hd : F.down = true
  · rw [if_pos hd]
    exact restart_ok H hd
  · rw [if_neg hd]
    exact (restart_up H (by simpa using hd)).mono (by rintro e w' ⟨rfl, rfl⟩; exact ⟨rfl, H, Upd.refl _ _ _⟩)
theorem fuse_all {g h cap : Nat} {F : Fl} {w : World} (H : IsFl w g h cap F) (c k : Int) :
    Calls Try.prog 24 #[P0 h, .int .i64 c, .int .i64 k] w fun e w' => e = .returned (.int .i64 (F.fuse c k).1) ∧ IsFl w' g h cap (F.fuse c k).2 ∧ Upd (Two g h) w.heap.size w w' := by
  unfold Fl.fuse
  by_cases hd : F.down = true
  · rw [if_pos hd]
    exact (fuse_err (by decide) (ready_down H hd) c k).mono (by rintro e w' ⟨rfl, rfl⟩; exact ⟨rfl, H, Upd.refl _ _ _⟩)
  · rw [if_neg hd]
    by_cases hc : c < 1
    · rw [if_pos hc]
      exact (fuse_arg H (by simpa using hd) c k hc).mono (by rintro e w' ⟨rfl, rfl⟩; exact ⟨rfl, H, Upd.refl _ _ _⟩)
    · rw [if_neg hc]
      exact fuse_ok H (by simpa using hd) c k (by omega)

/-- The blocks that a step may write. -/
def StepB (g h hr gp gw : Nat) : Nat → Prop := fun k => Two g h k ∨ OnlyR hr gp gw k
/-- What a step leaves: both flashes, alike. -/
def Stepped (B g h hr gp gw cp cw : Nat) (w : World) (e : Ending) (w' : World) : Prop :=
  ∃ g' h' cap' S' F', e = .returned (.tuple #[P0 h', .bool true]) ∧ Jt w' B g' h' cap' hr gp gw cp cw S' F' ∧ Upd (StepB g h hr gp gw) w.heap.size w w'
theorem stepUpd {g h hr gp gw : Nat} {w W1 w1 w2 : World} (hb : Below w.heap.size w W1) (hU : Upd (Two g h) W1.heap.size W1 w1) (hU2 : Upd (OnlyR hr gp gw) w1.heap.size w1 w2) : Upd (StepB g h hr gp gw) w.heap.size w w2 :=
  ((Upd.of hb).trans (hU.mono hb.size (fun _ _ c => .inl c))).trans (hU2.mono (Nat.le_trans hb.size hU.size) (fun _ _ c => .inr c))

variable {w : World} {B g h cap hr gp gw cp cw : Nat} {S : Nat → Prop} {F : Fl}

set_option maxRecDepth 100000 in
set_option maxHeartbeats 1600000 in
theorem step_crash (J : Jt w B g h cap hr gp gw cp cw S F) (_hB : B ≤ w.heap.size) (i j a x : Int) (bv : Value) (ao : Option Addr) (l c : Nat) (hbv : bv = .slice ao l c) :
    Calls Try.prog 10 #[P0 h, P0 hr, .agg #[.int .i64 4, .int .i64 i, .int .i64 j, .int .i64 a, .int .i64 x, bv]] w (Stepped B g h hr gp gw cp cw w) := by
  subst hbv
  have J1 := J.below ((Below.refl _ _).alloc (Nat.le_refl _) (.cells #[.int .i64 4, .int .i64 i, .int .i64 j, .int .i64 a, .int .i64 x, .slice ao l c] 30))
  have HJ := hide J1
  have HC := hide (crash_all J1.fl)
  clear J1 J
  go_enter Try.func10, Try.ntmps10
  go_wp2_with fail
  refine (unhide HC).mono ?_
  rintro e w1 ⟨rfl, hI, hU⟩
  obtain ⟨pb, cb, bv, kp, hR, _, hb1⟩ := (unhide HJ).half hU
  have HCr := hide (rcrash_any hR)
  have HI := hide hI; have HU := hide hU; have HB1 := hide hb1
  clear hI hU hb1 hR HC
  go_wp2_with fail
  refine (unhide HCr).mono ?_
  rintro e w2 ⟨rfl, hR2, hU2⟩
  obtain ⟨hJ2, hb2⟩ := (unhide HJ).whole (unhide HU).size (unhide HI) ⟨_, _, _, _, hR2⟩ hU2
  have HE : Hid (Stepped B g h hr gp gw cp cw w (.returned (.tuple #[P0 h, .bool true])) w2) := ⟨g, h, cap, S, _, rfl, hJ2, stepUpd ((Below.refl _ _).alloc (Nat.le_refl _) _) (unhide HU) hU2⟩
  clear hJ2 hb2 hR2 hU2 HCr
  go_wp2
  go_ret2
  exact unhide HE
set_option maxRecDepth 100000 in
set_option maxHeartbeats 1600000 in
theorem step_restart (J : Jt w B g h cap hr gp gw cp cw S F) (_hB : B ≤ w.heap.size) (i j a x : Int) (bv : Value) (ao : Option Addr) (l c : Nat) (hbv : bv = .slice ao l c) :
    Calls Try.prog 10 #[P0 h, P0 hr, .agg #[.int .i64 5, .int .i64 i, .int .i64 j, .int .i64 a, .int .i64 x, bv]] w (Stepped B g h hr gp gw cp cw w) := by
  subst hbv
  have J1 := J.below ((Below.refl _ _).alloc (Nat.le_refl _) (.cells #[.int .i64 5, .int .i64 i, .int .i64 j, .int .i64 a, .int .i64 x, .slice ao l c] 30))
  have HJ := hide J1
  have HC := hide (restart_all J1.fl)
  clear J1 J
  go_enter Try.func10, Try.ntmps10
  go_wp2_with fail
  refine (unhide HC).mono ?_
  rintro e w1 ⟨rfl, hI, hU⟩
  obtain ⟨pb, cb, bv, kp, hR, _, hb1⟩ := (unhide HJ).half hU
  have HCr := hide (rrestart_any hR)
  have HI := hide hI; have HU := hide hU; have HB1 := hide hb1
  clear hI hU hb1 hR HC
  go_wp2_with fail
  refine (unhide HCr).mono ?_
  rintro e w2 ⟨rfl, hR2, hU2⟩
  obtain ⟨hJ2, hb2⟩ := (unhide HJ).whole (unhide HU).size (unhide HI) ⟨_, _, _, _, hR2⟩ hU2
  have HE : Hid (Stepped B g h hr gp gw cp cw w (.returned (.tuple #[P0 h, .bool true])) w2) := ⟨g, h, cap, S, _, rfl, hJ2, stepUpd ((Below.refl _ _).alloc (Nat.le_refl _) _) (unhide HU) hU2⟩
  clear hJ2 hb2 hR2 hU2 HCr
  go_wp2
  go_ret2
  exact unhide HE
end Go.Proofs.Yteehhbgjjamjiaa
