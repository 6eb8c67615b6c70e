/- pair: the flash and the document's, both new. -/
import Derived.Test.YteehhbgjjamjiaaUG
namespace Go.Proofs.Yteehhbgjjamjiaa
open Go.RowKit

set_option maxRecDepth 100000 in
set_option maxHeartbeats 800000 in
theorem pair_ok (n : Nat) (w : World) (h1 : 1 ≤ n) (h2 : n ≤ 1024) :
    Calls Try.prog 8 #[.int .i64 n] w fun e w' => ∃ g h cap hr gp gw cp cw pb cb bv B, e = .returned (.tuple #[P0 h, P0 hr, .bool true]) ∧ IsFl w' g h cap (Fl.blank n) ∧ IsRf w' (fun k => k < B) hr gp gw cp cw pb cb bv (Fl.blank n) 0 ∧ g < B ∧ h < B ∧ w.heap.size ≤ g ∧ w.heap.size ≤ h ∧ w.heap.size ≤ B ∧ Below w.heap.size w w' := by
  go_enter Try.func8, Try.ntmps8
  go_wp2_with fail
  refine (new_ok n w h1 h2).mono ?_
  rintro e w1 ⟨g, h, cap, rfl, hI, hb, hg, hh⟩
  have HI := hide hI
  have HB := hide hb
  clear hI hb
  go_wp2_with fail
  refine (rnew_ok n w1 h1 h2).mono ?_
  rintro e w2 ⟨hr, gp, gw, cp, cw, pb, cb, bv, rfl, hR, hb2⟩
  have HR := hide hR
  have HB2 := hide hb2
  clear hR hb2
  go_wp2
  go_ret3
  exact ⟨g, h, cap, hr, gp, gw, cp, cw, pb, cb, bv, w1.heap.size, rfl, (unhide HI).below (unhide HB2), unhide HR, (unhide HI).glt, (unhide HI).hlt, hg, hh, (unhide HB).size, (unhide HB).trans ((unhide HB2).mono (unhide HB).size)⟩

set_option maxRecDepth 100000 in
set_option maxHeartbeats 800000 in
theorem pair_arg (n : Int) (w : World) (h : ¬ (1 ≤ n ∧ n ≤ 1024)) :
    Calls Try.prog 8 #[.int .i64 n] w fun e w' => e = .returned (.tuple #[.pointer none, .pointer none, .bool true]) ∧ w = w' := by
  go_enter Try.func8, Try.ntmps8
  go_wp2_with fail
  refine (new_arg n w h).mono ?_
  rintro e w1 ⟨rfl, rfl⟩
  go_wp2_with fail
  refine (rnew_arg n w h).mono ?_
  rintro e w1 ⟨rfl, rfl⟩
  go_wp2
  go_ret3
  exact ⟨rfl, rfl⟩
end Go.Proofs.Yteehhbgjjamjiaa
