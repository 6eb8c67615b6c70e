/- step, at any operation. -/
import Derived.Test.YteehhbgjjamjiaaUM
import Derived.Test.YteehhbgjjamjiaaUN
import Derived.Test.YteehhbgjjamjiaaUO
import Derived.Test.YteehhbgjjamjiaaUP
import Derived.Test.YteehhbgjjamjiaaOps
namespace Go.Proofs.Yteehhbgjjamjiaa
open Go.RowKit

theorem step_any {w : World} {B g h cap hr gp gw cp cw : Nat} {S : Nat → Prop} {F : Fl} (J : Jt w B g h cap hr gp gw cp cw S F) (hB : B ≤ w.heap.size) (o : OpV) (ho : OpOk w o) (hoB : ∀ p l c, o.b = .slice (some p) l c → p.block < B ∨ o.zs = []) :
    Calls Try.prog 10 #[P0 h, P0 hr, o.agg] w (Stepped B g h hr gp gw cp cw w) := by
  obtain ⟨k, i, j, a, x, bv, zs⟩ := o
  obtain ⟨_, _, _, hj3, _, hs, hby⟩ := ho
  simp only at hs hby hj3 hoB
  obtain ⟨ao, c, rfl, _⟩ := id hs
  show Calls Try.prog 10 #[P0 h, P0 hr, .agg #[.int .i64 k, .int .i64 i, .int .i64 j, .int .i64 a, .int .i64 x, .slice ao zs.length c]] w _
  by_cases hk : 0 ≤ k ∧ k ≤ 6
  · rcases (by omega : k = 0 ∨ k = 1 ∨ k = 2 ∨ k = 3 ∨ k = 4 ∨ k = 5 ∨ k = 6) with rfl | rfl | rfl | rfl | rfl | rfl | rfl
    · exact step_prog J hB i j a x zs ao c hs hby (fun p e => by subst e; exact hoB p _ _ rfl)
    · exact step_read J hB i j a x _ ao _ c rfl
    · exact step_erase J hB i j a x zs ao c
    · exact step_fuse J hB i j a x zs ao c hj3.2
    · exact step_crash J hB i j a x _ ao _ c rfl
    · exact step_restart J hB i j a x _ ao _ c rfl
    · exact step_spoil J hB i j a x zs ao c
  · exact step_clone J hB k hk i j a x zs ao c hs hby
end Go.Proofs.Yteehhbgjjamjiaa
