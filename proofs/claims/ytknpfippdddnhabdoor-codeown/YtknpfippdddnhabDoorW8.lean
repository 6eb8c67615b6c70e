/- One. -/
import Derived.Test.YtknpfippdddnhabDoorW7
namespace Go.Proofs.YtknpfippdddnhabDoor
open Go.RowKit
set_option maxRecDepth 100000

set_option maxHeartbeats 400000 in
theorem caught39_no (F : Nat) (p p2 : Addr) (er : Int) (w : World)
    (hpart : Calls Tryd.prog F #[.pointer (some p), .pointer (some p2)] ((w.alloc (.cells #[.int .i64 0, .int .i64 0, .int .i64 0, .int .i64 0, .int .i64 0] 35)).alloc (.cells #[.int .i64 0] 29)) fun e w' => e = GiveUp er ∧ Below (w.heap.size + 2) ((w.alloc (.cells #[.int .i64 0, .int .i64 0, .int .i64 0, .int .i64 0, .int .i64 0] 35)).alloc (.cells #[.int .i64 0] 29)) w') (hF : ∀ args w, (callFunc F args).run Tryd.prog w = .ok (.enter F args) w) :
    Calls Tryd.prog 49 #[.func (Fn.func F) #[] #[.pointer (some p), .pointer (some p2)]] w fun e w' => e = .returned (.tuple #[iV 0 0 0 0 0, .int .i64 er]) ∧ Below w.heap.size w w' := by
  have hmf : ∀ (fn : Fn) (first cap : Array Value) (w : World), (Instr.makeFunc fn first cap).run Tryd.prog w = .ok (.func fn first cap) w := fun _ _ _ _ => rfl
  have HP := hide hpart
  clear hpart
  go_enter_defers Tryd.func49, Tryd.ntmps49
  go_wp2_with fail
  refine (unhide HP).mono ?_
  rintro e w1 ⟨rfl, hb1⟩
  have hbw : Below w.heap.size w w1 := ((below_box _).alloc (by simp) _).trans (hb1.mono (by omega))
  have hcr : w1.heap[w.heap.size]? = some (.cells #[.int .i64 0, .int .i64 0, .int .i64 0, .int .i64 0, .int .i64 0] 35) := (hb1.block _ (by omega)).trans (by rw [Below.heap_alloc _ _ _ (by simp)]; exact heap_alloc_new w _)
  have hce : w1.heap[w.heap.size + 1]? = some (.cells #[.int .i64 0] 29) := (hb1.block _ (by omega)).trans (by have := heap_alloc_new (w.alloc (.cells #[.int .i64 0, .int .i64 0, .int .i64 0, .int .i64 0, .int .i64 0] 35)) (.cells #[.int .i64 0] 29); simpa using this)
  have hsz := (Array.getElem?_eq_some_iff.1 hce).1
  refine leaves_cons (f := 52) (args := #[.pointer (some ⟨w.heap.size + 1, 0, none⟩)]) (by simp) (by simp [go_sem]) ?_
  refine (catch66_giveup (w.heap.size + 1) 0 er _ (cell_at hce) (frozen_of_heap hce) hsz).mono ?_
  rintro e u' w'' ⟨rfl, rfl, rfl⟩
  obtain ⟨wf, hwf⟩ : ∃ wf, ((w1.setCell ⟨w.heap.size + 1, 0, none⟩ (.int .i64 er)).alloc (.cells #[.int .i64 er] 56)) = wf := ⟨_, rfl⟩
  have hcell : wf.cell? ⟨w.heap.size + 1, 0, none⟩ = some (.int .i64 er) := by
    rw [← hwf]
    exact cell_at (T := 29) (cs := #[.int .i64 er]) (by rw [Below.heap_alloc _ _ _ (by simpa [World.setCell] using hsz)]; exact one_setCell hce)
  have hrow : wf.heap[w.heap.size]? = some (.cells #[.int .i64 0, .int .i64 0, .int .i64 0, .int .i64 0, .int .i64 0] 35) := by
    rw [← hwf, Below.heap_alloc _ _ _ (by simp [World.setCell]; omega), Below.heap_setCell _ _ _ _ (by simp)]
    exact hcr
  have hbf : Below w.heap.size w wf := by
    rw [← hwf]
    exact (hbw.setCell (p := ⟨w.heap.size + 1, 0, none⟩) (by simp) _).alloc (by simp [World.setCell]; omega) _
  rw [hwf]
  obtain ⟨r0, r1, r2, r3, r4⟩ := cells5 hrow
  clear hwf hrow hcr hce hmf HP
  simp [Leaves, settle, results, Tryd.results49, go_sem, hcell, r0, r1, r2, r3, r4]
  exact hbf

set_option maxHeartbeats 800000 in
theorem caught39_ok (F : Nat) (p p2 : Addr) (d o a b m : Int) (w : World)
    (hpart : Calls Tryd.prog F #[.pointer (some p), .pointer (some p2)] ((w.alloc (.cells #[.int .i64 0, .int .i64 0, .int .i64 0, .int .i64 0, .int .i64 0] 35)).alloc (.cells #[.int .i64 0] 29)) fun e w' => e = .returned (iV d o a b m) ∧ Below (w.heap.size + 2) ((w.alloc (.cells #[.int .i64 0, .int .i64 0, .int .i64 0, .int .i64 0, .int .i64 0] 35)).alloc (.cells #[.int .i64 0] 29)) w') (hF : ∀ args w, (callFunc F args).run Tryd.prog w = .ok (.enter F args) w) :
    Calls Tryd.prog 49 #[.func (Fn.func F) #[] #[.pointer (some p), .pointer (some p2)]] w fun e w' => e = .returned (.tuple #[iV d o a b m, .int .i64 0]) ∧ Below w.heap.size w w' := by
  have hmf : ∀ (fn : Fn) (first cap : Array Value) (w : World), (Instr.makeFunc fn first cap).run Tryd.prog w = .ok (.func fn first cap) w := fun _ _ _ _ => rfl
  have HP := hide hpart
  clear hpart
  go_enter_defers Tryd.func49, Tryd.ntmps49
  go_wp2_with fail
  refine (unhide HP).mono ?_
  clear HP
  rintro e w1 ⟨rfl, hb1⟩
  have hbw : Below w.heap.size w w1 := ((below_box _).alloc (by simp) _).trans (hb1.mono (by omega))
  have hcr : w1.heap[w.heap.size]? = some (.cells #[.int .i64 0, .int .i64 0, .int .i64 0, .int .i64 0, .int .i64 0] 35) := (hb1.block _ (by omega)).trans (by rw [Below.heap_alloc _ _ _ (by simp)]; exact heap_alloc_new w _)
  have hce : w1.heap[w.heap.size + 1]? = some (.cells #[.int .i64 0] 29) := (hb1.block _ (by omega)).trans (by have := heap_alloc_new (w.alloc (.cells #[.int .i64 0, .int .i64 0, .int .i64 0, .int .i64 0, .int .i64 0] 35)) (.cells #[.int .i64 0] 29); simpa using this)
  have hsz := (Array.getElem?_eq_some_iff.1 hce).1
  obtain ⟨z0, z1, z2, z3, z4⟩ := cells5 hcr
  have fz : ∀ o, w1.frozen? ⟨w.heap.size, o, none⟩ = false := fun o => frozen_of_heap hcr
  have c1 : w1.cell? ⟨w.heap.size + 1, 0, none⟩ = some (.int .i64 0) := cell_at hce
  have c2 : w1.frozen? ⟨w.heap.size + 1, 0, none⟩ = false := frozen_of_heap hce
  have HCR := hide hcr
  have HCE := hide hce
  clear hcr hce
  go_wp2
  obtain ⟨w2, hw2⟩ : ∃ w2, (((((w1.setCell ⟨w.heap.size, 0, none⟩ (.int .i64 d)).setCell ⟨w.heap.size, 1, none⟩ (.int .i64 o)).setCell ⟨w.heap.size, 2, none⟩ (.int .i64 a)).setCell ⟨w.heap.size, 3, none⟩ (.int .i64 b)).setCell ⟨w.heap.size, 4, none⟩ (.int .i64 m)) = w2 := ⟨_, rfl⟩
  have k1 : w2.heap[w.heap.size]? = some (.cells #[.int .i64 d, .int .i64 o, .int .i64 a, .int .i64 b, .int .i64 m] 35) := hw2 ▸ set5 (unhide HCR) _ _ _ _ _
  have k2 : w2.heap[w.heap.size + 1]? = some (.cells #[.int .i64 0] 29) := by
    rw [← hw2]
    repeat rw [Below.heap_setCell _ _ _ _ (by simp)]
    exact unhide HCE
  have k3 : Below w.heap.size w w2 := hw2 ▸ set5b hbw (Nat.le_refl _) _ _ _ _ _
  rw [hw2]
  clear hw2 fz z0 z1 z2 z3 z4 c1 c2 HCR HCE hb1 hbw
  refine leaves_cons (f := 52) (args := #[.pointer (some ⟨w.heap.size + 1, 0, none⟩)]) (by simp) (by simp [go_sem]) ?_
  refine (catch66_idle (w.heap.size + 1) _).mono ?_
  rintro e u' w'' ⟨rfl, rfl, rfl⟩
  have hs2 := (Array.getElem?_eq_some_iff.1 k2).1
  obtain ⟨wf, hwf⟩ : ∃ wf, ((w2.setCell ⟨w.heap.size + 1, 0, none⟩ (.int .i64 0)).alloc (.cells #[.int .i64 0] 56)) = wf := ⟨_, rfl⟩
  have hcell : wf.cell? ⟨w.heap.size + 1, 0, none⟩ = some (.int .i64 0) := by
    rw [← hwf]
    exact cell_at (T := 29) (cs := #[.int .i64 0]) (by rw [Below.heap_alloc _ _ _ (by simpa [World.setCell] using hs2)]; exact one_setCell k2)
  have hrow : wf.heap[w.heap.size]? = some (.cells #[.int .i64 d, .int .i64 o, .int .i64 a, .int .i64 b, .int .i64 m] 35) := by
    rw [← hwf, Below.heap_alloc _ _ _ (by simp [World.setCell]; omega), Below.heap_setCell _ _ _ _ (by simp)]
    exact k1
  have hbf : Below w.heap.size w wf := by
    rw [← hwf]
    exact (k3.setCell (p := ⟨w.heap.size + 1, 0, none⟩) (by simp) _).alloc (by simp [World.setCell]; omega) _
  rw [hwf]
  obtain ⟨r0, r1, r2, r3, r4⟩ := cells5 hrow
  clear hwf hrow hmf k1 k2 k3 hsz hs2
  simp [Leaves, settle, results, Tryd.results49, go_sem, hcell, r0, r1, r2, r3, r4]
  exact hbf

set_option maxHeartbeats 400000 in
/-- What One hands to caught. -/
theorem f40_any {w : World} {v : Value} {l : List Int} (b1 b2 : Nat) (p : Int) (hT : Tab w) (hs : SeesL yC 1 w v l) (hby : Byt l) (hm : l.length ≤ 4611686018427387904)
    (k1 : w.cell? ⟨b1, 0, none⟩ = some v) (k2 : w.cell? ⟨b2, 0, none⟩ = some (.int .i64 p)) :
    Calls Tryd.prog 50 #[.pointer (some ⟨b1, 0, none⟩), .pointer (some ⟨b2, 0, none⟩)] w fun e w' => Rds w (oneE l p) (rd l p.toNat) e w' := by
  have hb0 : Below w.heap.size w (w.alloc (.cells #[.int .i64 0, .int .i64 0, .int .i64 0, .int .i64 0, .int .i64 0] 35)) := below_box _
  have hr := read_any p (hT.below hb0 hT.pos) (hs.below yC_len hb0) hby hm
  have q1 := (hb0.cell (World.block_lt_of_cell? w _ k1)).trans k1
  have q2 := (hb0.cell (World.block_lt_of_cell? w _ k2)).trans k2
  obtain ⟨ao, cap, rfl⟩ := hs.shape
  clear hT hs k1 k2
  by_cases he : oneE l p = 0
  · have HR := hide (hr.mono fun e w' (h : Rds _ _ _ e w') => And.intro (h.2.1 he) h.1)
    generalize hx : rd l p.toNat = x at *
    obtain ⟨xd, xo, xa, xb, xm⟩ := x
    rw [he]
    clear hr hx he
    dsimp only at HR
    obtain ⟨n, hn⟩ : ∃ n, l.length = n := ⟨_, rfl⟩
    rw [hn] at HR q1
    clear hn
    go_enter Tryd.func50, Tryd.ntmps50
    go_wp2_with fail
    refine (unhide HR).mono ?_
    rintro e w1 ⟨rfl, hb1⟩
    have hcr : w1.heap[w.heap.size]? = some (.cells #[.int .i64 0, .int .i64 0, .int .i64 0, .int .i64 0, .int .i64 0] 35) := (hb1.block _ (by simp)).trans (heap_alloc_new w _)
    obtain ⟨z0, z1, z2, z3, z4⟩ := cells5 hcr
    have fz : ∀ o, w1.frozen? ⟨w.heap.size, o, none⟩ = false := fun o => frozen_of_heap hcr
    have hbw : Below w.heap.size w w1 := hb0.trans (hb1.mono (by simp))
    have HCR := hide hcr
    clear hcr
    go_wp2
    refine bodyPost_ret (results_cell_row rfl _ _ w.heap.size 35 _ (0, 0) _ rfl (set5 (unhide HCR) _ _ _ _ _) Tryd.underlying35 rfl (by kernel_rfl)) rfl ?_
    exact rds_yes ⟨rfl, set5b hbw (Nat.le_refl _) _ _ _ _ _⟩
  · have HR := hide (hr.mono fun e w' (h : Rds _ _ _ e w') => And.intro (h.2.2 he) h.1)
    have HE := hide he
    clear hr he
    obtain ⟨n, hn⟩ : ∃ n, l.length = n := ⟨_, rfl⟩
    rw [hn] at HR q1
    clear hn
    go_enter Tryd.func50, Tryd.ntmps50
    go_wp2_with fail
    refine (unhide HR).mono ?_
    rintro e w1 ⟨rfl, hb1⟩
    exact ⟨rfl, rds_no (unhide HE) ⟨rfl, hb0.trans (hb1.mono (by simp))⟩⟩
end Go.Proofs.YtknpfippdddnhabDoor
