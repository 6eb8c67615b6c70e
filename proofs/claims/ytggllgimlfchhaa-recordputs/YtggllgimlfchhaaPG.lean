/- The document's own Errno, CheckTxn, PutError (package trivetref04). -/
import Derived.Test.YtggllgimlfchhaaPF
namespace Go.Proofs.Ytggllgimlfchhaa
open Go.RowKit
set_option maxRecDepth 100000

set_option maxHeartbeats 400000 in
theorem errno_any (b : Bool) (w : World) : Calls Try.prog 60 #[.bool b] w fun e w' => e = .returned (.int .i64 (if b then 0 else 40)) ∧ w = w' := by
  cases b <;>
  · go_enter Try.func60, Try.ntmps60
    go_wp2
    go_ret
    exact ⟨rfl, rfl⟩

set_option maxHeartbeats 800000 in
theorem checkTxn_any (cs : Array Value) (t : TxnD) (w : World) (hs : SeesT w cs t) :
    Calls Try.prog 25 #[.agg cs] w fun e w' => e = .returned (.int .i64 (if mayT t then 0 else 40)) ∧ Below w.heap.size w w' := by
  have hsT := hs
  obtain ⟨cv, av, rv, wv, rfl, _⟩ := hs
  have hal : Below w.heap.size w (w.alloc (.cells #[.int .i64 t.ses, .int .i64 t.req, cv, av, rv, wv] 35)) := (Below.refl _ _).alloc (Nat.le_refl _) _
  have HM := hide (mayTxn_any _ t _ (hsT.below hal))
  have HAL := hide hal
  have HE := hide (errno_any (mayT t))
  clear hal hsT
  generalize mayT t = m at *
  have HE2 : Hid (∀ E : Int, (if m = true then (0 : Int) else 40) = E → ∀ w, Calls Try.prog 60 #[.bool m] w fun e w' => e = .returned (.int .i64 E) ∧ w = w') := fun E h w => by rw [← h]; exact unhide HE w
  obtain ⟨E, hE⟩ : ∃ E, (if m = true then (0 : Int) else 40) = E := ⟨_, rfl⟩
  rw [hE]
  have HE3 := hide (unhide HE2 E hE)
  clear HE HE2 hE
  go_enter Try.func25, Try.ntmps25
  go_wp2_with fail
  refine (unhide HM).mono ?_
  rintro e w1 ⟨rfl, hb1⟩
  have HB : Hid (Below w.heap.size w w1) := (unhide HAL).trans (hb1.mono (by simp))
  clear hb1
  go_wp2_with fail
  refine (unhide HE3 w1).mono ?_
  rintro e w2 ⟨rfl, rfl⟩
  go_wp2_with fail
  go_ret
  exact ⟨rfl, unhide HB⟩

def putE (zs : List Int) (t : TxnD) : Int := if mayT t = false then 40 else if 1048576 < zs.length + (txnB t).length then 3 else 0
theorem putE_no {zs : List Int} {t : TxnD} (h : mayT t = false) : putE zs t = 40 := by unfold putE; rw [if_pos h]
theorem putE_long {zs : List Int} {t : TxnD} (h : mayT t = true) (hl : 1048576 < zs.length + (txnB t).length) : putE zs t = 3 := by unfold putE; rw [if_neg (by rw [h]; decide), if_pos hl]
theorem putE_ok {zs : List Int} {t : TxnD} (h : mayT t = true) (hl : ¬ 1048576 < zs.length + (txnB t).length) : putE zs t = 0 := by unfold putE; rw [if_neg (by rw [h]; decide), if_neg hl]
def putB (zs : List Int) (t : TxnD) : List Int := if putE zs t = 0 then zs ++ txnB t else []
end Go.Proofs.Ytggllgimlfchhaa
