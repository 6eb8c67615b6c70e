/- Record: what the checks answer, of keys, transactions, entries. -/
import Derived.Test.YtggllgimlfchhaaGreatXI
namespace Go.Proofs.YtggllgimlfchhaaGreat
open Go.RowKit
set_option maxRecDepth 100000

set_option maxHeartbeats 400000 in
theorem errno_any (b : Bool) (w : World) : Calls Tryz.prog 29 #[.bool b] w fun e w' => e = .returned (.int .i64 (if b then 0 else 40)) ∧ w = w' := by
  cases b <;>
  · go_enter Tryz.func29, Tryz.ntmps29
    go_wp2
    go_ret
    exact ⟨rfl, rfl⟩

set_option maxHeartbeats 800000 in
theorem checkKeys_any (v : Value) (l : List (Int × Int)) (w : World) (hs : SeesK w v l) :
    Calls Tryz.prog 7 #[v] w fun e w' => e = .returned (.int .i64 (if mayK l then 0 else 40)) ∧ Below w.heap.size w w' := by
  have hsT := hs
  obtain ⟨ao, cap, _, _, rfl, _⟩ := hs
  have hal : Below w.heap.size w w := Below.refl _ _
  have HM := hide (keysMayBe_any _ l w hsT)
  have HAL := hide hal
  have HE := hide (verdict_any (mayK l))
  clear hal hsT
  generalize mayK l = m at *
  have HE2 : Hid (∀ E : Int, (if m = true then (0 : Int) else 40) = E → ∀ w, Calls Tryz.prog 27 #[.bool m] w fun e w' => e = .returned (.int .i64 E) ∧ w = w') := fun E h w => by rw [← h]; exact unhide HE w
  obtain ⟨E, hE⟩ : ∃ E, (if m = true then (0 : Int) else 40) = E := ⟨_, rfl⟩
  rw [hE]
  have HE3 := hide (unhide HE2 E hE)
  clear HE HE2 hE
  go_enter Tryz.func7, Tryz.ntmps7
  go_wp2_with fail
  refine (unhide HM).mono ?_
  rintro e w1 ⟨rfl, hb1⟩
  have HB : Hid (Below w.heap.size w w1) := (unhide HAL).trans (hb1.mono (unhide HAL).size)
  clear hb1
  go_wp2_with fail
  refine (unhide HE3 w1).mono ?_
  rintro e w2 ⟨rfl, rfl⟩
  go_wp2_with fail
  go_ret
  exact ⟨rfl, unhide HB⟩

set_option maxHeartbeats 800000 in
theorem refCheckKeys_any (v : Value) (l : List (Int × Int)) (w : World) (hs : SeesK w v l) :
    Calls Tryz.prog 8 #[v] w fun e w' => e = .returned (.int .i64 (if mayK l then 0 else 40)) ∧ Below w.heap.size w w' := by
  have hsT := hs
  obtain ⟨ao, cap, _, _, rfl, _⟩ := hs
  have hal : Below w.heap.size w w := Below.refl _ _
  have HM := hide (mayKeys_any _ l w hsT)
  have HAL := hide hal
  have HE := hide (errno_any (mayK l))
  clear hal hsT
  generalize mayK l = m at *
  have HE2 : Hid (∀ E : Int, (if m = true then (0 : Int) else 40) = E → ∀ w, Calls Tryz.prog 29 #[.bool m] w fun e w' => e = .returned (.int .i64 E) ∧ w = w') := fun E h w => by rw [← h]; exact unhide HE w
  obtain ⟨E, hE⟩ : ∃ E, (if m = true then (0 : Int) else 40) = E := ⟨_, rfl⟩
  rw [hE]
  have HE3 := hide (unhide HE2 E hE)
  clear HE HE2 hE
  go_enter Tryz.func8, Tryz.ntmps8
  go_wp2_with fail
  refine (unhide HM).mono ?_
  rintro e w1 ⟨rfl, hb1⟩
  have HB : Hid (Below w.heap.size w w1) := (unhide HAL).trans (hb1.mono (unhide HAL).size)
  clear hb1
  go_wp2_with fail
  refine (unhide HE3 w1).mono ?_
  rintro e w2 ⟨rfl, rfl⟩
  go_wp2_with fail
  go_ret
  exact ⟨rfl, unhide HB⟩

set_option maxHeartbeats 800000 in
theorem checkTxn_any (cs : Array Value) (t : TxnD) (w : World) (hs : SeesT w cs t) :
    Calls Tryz.prog 9 #[.agg cs] w fun e w' => e = .returned (.int .i64 (if mayT t then 0 else 40)) ∧ Below w.heap.size w w' := by
  have hsT := hs
  obtain ⟨cv, av, rv, wv, rfl, _⟩ := hs
  have hal : Below w.heap.size w (w.alloc (.cells #[.int .i64 t.ses, .int .i64 t.req, cv, av, rv, wv] 26)) := (Below.refl _ _).alloc (Nat.le_refl _) _
  have HM := hide (txnMayBe_any _ t _ (hsT.below hal))
  have HAL := hide hal
  have HE := hide (verdict_any (mayT t))
  clear hal hsT
  generalize mayT t = m at *
  have HE2 : Hid (∀ E : Int, (if m = true then (0 : Int) else 40) = E → ∀ w, Calls Tryz.prog 27 #[.bool m] w fun e w' => e = .returned (.int .i64 E) ∧ w = w') := fun E h w => by rw [← h]; exact unhide HE w
  obtain ⟨E, hE⟩ : ∃ E, (if m = true then (0 : Int) else 40) = E := ⟨_, rfl⟩
  rw [hE]
  have HE3 := hide (unhide HE2 E hE)
  clear HE HE2 hE
  go_enter Tryz.func9, Tryz.ntmps9
  go_wp2_with fail
  refine (unhide HM).mono ?_
  rintro e w1 ⟨rfl, hb1⟩
  have HB : Hid (Below w.heap.size w w1) := (unhide HAL).trans (hb1.mono (unhide HAL).size)
  clear hb1
  go_wp2_with fail
  refine (unhide HE3 w1).mono ?_
  rintro e w2 ⟨rfl, rfl⟩
  go_wp2_with fail
  go_ret
  exact ⟨rfl, unhide HB⟩

set_option maxHeartbeats 800000 in
theorem refCheckTxn_any (cs : Array Value) (t : TxnD) (w : World) (hs : SeesT w cs t) :
    Calls Tryz.prog 10 #[.agg cs] w fun e w' => e = .returned (.int .i64 (if mayT t then 0 else 40)) ∧ Below w.heap.size w w' := by
  have hsT := hs
  obtain ⟨cv, av, rv, wv, rfl, _⟩ := hs
  have hal : Below w.heap.size w (w.alloc (.cells #[.int .i64 t.ses, .int .i64 t.req, cv, av, rv, wv] 26)) := (Below.refl _ _).alloc (Nat.le_refl _) _
  have HM := hide (mayTxn_any _ t _ (hsT.below hal))
  have HAL := hide hal
  have HE := hide (errno_any (mayT t))
  clear hal hsT
  generalize mayT t = m at *
  have HE2 : Hid (∀ E : Int, (if m = true then (0 : Int) else 40) = E → ∀ w, Calls Tryz.prog 29 #[.bool m] w fun e w' => e = .returned (.int .i64 E) ∧ w = w') := fun E h w => by rw [← h]; exact unhide HE w
  obtain ⟨E, hE⟩ : ∃ E, (if m = true then (0 : Int) else 40) = E := ⟨_, rfl⟩
  rw [hE]
  have HE3 := hide (unhide HE2 E hE)
  clear HE HE2 hE
  go_enter Tryz.func10, Tryz.ntmps10
  go_wp2_with fail
  refine (unhide HM).mono ?_
  rintro e w1 ⟨rfl, hb1⟩
  have HB : Hid (Below w.heap.size w w1) := (unhide HAL).trans (hb1.mono (unhide HAL).size)
  clear hb1
  go_wp2_with fail
  refine (unhide HE3 w1).mono ?_
  rintro e w2 ⟨rfl, rfl⟩
  go_wp2_with fail
  go_ret
  exact ⟨rfl, unhide HB⟩

set_option maxHeartbeats 800000 in
theorem checkEntry_any (cs : Array Value) (t : EntD) (w : World) (hs : SeesE w cs t) (ot : OkTs t.txns) :
    Calls Tryz.prog 11 #[.agg cs] w fun e w' => e = .returned (.int .i64 (if mayE t then 0 else 40)) ∧ Below w.heap.size w w' := by
  have hsT := hs
  obtain ⟨tv, rfl, _⟩ := hs
  have hal : Below w.heap.size w (w.alloc (.cells #[.int .i64 t.kind, .int .i64 t.frm, .int .i64 t.num, tv] 29)) := (Below.refl _ _).alloc (Nat.le_refl _) _
  have HM := hide (entryMayBe_any _ t _ (hsT.below hal) ot)
  have HAL := hide hal
  have HE := hide (verdict_any (mayE t))
  clear hal hsT
  generalize mayE t = m at *
  have HE2 : Hid (∀ E : Int, (if m = true then (0 : Int) else 40) = E → ∀ w, Calls Tryz.prog 27 #[.bool m] w fun e w' => e = .returned (.int .i64 E) ∧ w = w') := fun E h w => by rw [← h]; exact unhide HE w
  obtain ⟨E, hE⟩ : ∃ E, (if m = true then (0 : Int) else 40) = E := ⟨_, rfl⟩
  rw [hE]
  have HE3 := hide (unhide HE2 E hE)
  clear HE HE2 hE
  go_enter Tryz.func11, Tryz.ntmps11
  go_wp2_with fail
  refine (unhide HM).mono ?_
  rintro e w1 ⟨rfl, hb1⟩
  have HB : Hid (Below w.heap.size w w1) := (unhide HAL).trans (hb1.mono (unhide HAL).size)
  clear hb1
  go_wp2_with fail
  refine (unhide HE3 w1).mono ?_
  rintro e w2 ⟨rfl, rfl⟩
  go_wp2_with fail
  go_ret
  exact ⟨rfl, unhide HB⟩

set_option maxHeartbeats 800000 in
theorem refCheckEntry_any (cs : Array Value) (t : EntD) (w : World) (hs : SeesE w cs t) (ot : OkTs t.txns) :
    Calls Tryz.prog 12 #[.agg cs] w fun e w' => e = .returned (.int .i64 (if mayE t then 0 else 40)) ∧ Below w.heap.size w w' := by
  have hsT := hs
  obtain ⟨tv, rfl, _⟩ := hs
  have hal : Below w.heap.size w (w.alloc (.cells #[.int .i64 t.kind, .int .i64 t.frm, .int .i64 t.num, tv] 29)) := (Below.refl _ _).alloc (Nat.le_refl _) _
  have HM := hide (mayEntry_any _ t _ (hsT.below hal) ot)
  have HAL := hide hal
  have HE := hide (errno_any (mayE t))
  clear hal hsT
  generalize mayE t = m at *
  have HE2 : Hid (∀ E : Int, (if m = true then (0 : Int) else 40) = E → ∀ w, Calls Tryz.prog 29 #[.bool m] w fun e w' => e = .returned (.int .i64 E) ∧ w = w') := fun E h w => by rw [← h]; exact unhide HE w
  obtain ⟨E, hE⟩ : ∃ E, (if m = true then (0 : Int) else 40) = E := ⟨_, rfl⟩
  rw [hE]
  have HE3 := hide (unhide HE2 E hE)
  clear HE HE2 hE
  go_enter Tryz.func12, Tryz.ntmps12
  go_wp2_with fail
  refine (unhide HM).mono ?_
  rintro e w1 ⟨rfl, hb1⟩
  have HB : Hid (Below w.heap.size w w1) := (unhide HAL).trans (hb1.mono (unhide HAL).size)
  clear hb1
  go_wp2_with fail
  refine (unhide HE3 w1).mono ?_
  rintro e w2 ⟨rfl, rfl⟩
  go_wp2_with fail
  go_ret
  exact ⟨rfl, unhide HB⟩
end Go.Proofs.YtggllgimlfchhaaGreat
