/- Encode. -/
import Derived.Test.YtknpfippdddnhabDoorX4
namespace Go.Proofs.YtknpfippdddnhabDoor
open Go.RowKit Go.Shelf
set_option maxRecDepth 100000

set_option maxHeartbeats 400000 in
theorem f55_any {w : World} {v : Value} {l : List Ins} (b1 : Nat) (hT : Tab w) (hs : SeesL iC 5 w v l) (hok : OkI l) (hm : l.length ≤ 3518437208883) (k1 : w.cell? ⟨b1, 0, none⟩ = some v) :
    Calls Tryd.prog 16 #[.pointer (some ⟨b1, 0, none⟩)] w fun e w' => EnR w w.heap.size (enc l) e w' := by
  have hr := putAll_any hT hs hok hm
  obtain ⟨ao, cap, rfl⟩ := hs.shape
  clear hs hT
  by_cases he : (enc l).2 = 0
  · have HR := hide (hr.mono fun e w' (h : EnR _ _ _ e w') => And.intro h.1 (h.2.1 he))
    generalize enc l = D at *
    clear hr
    generalize l.length = n at *
    have HE := hide he
    clear he
    go_enter Tryd.func16, Tryd.ntmps16
    go_wp2_with (go_at_call 17; refine (unhide HR).mono ?_; rintro e w1 ⟨hb, x, rfl, hx⟩)
    go_ret
    exact ⟨hb, fun _ => ⟨x, rfl, hx⟩, fun z => absurd (unhide HE) z⟩
  · have HR := hide (hr.mono fun e w' (h : EnR _ _ _ e w') => And.intro h.1 (h.2.2 he))
    generalize enc l = D at *
    clear hr
    generalize l.length = n at *
    have HE := hide he
    clear he
    go_enter Tryd.func16, Tryd.ntmps16
    go_wp2_with fail
    refine (unhide HR).mono ?_
    rintro e w1 ⟨hb, rfl⟩
    exact ⟨rfl, hb, fun z => absurd z (unhide HE), fun _ => rfl⟩
theorem enters55 : ∀ args w, (callFunc 16 args).run Tryd.prog w = .ok (.enter 16 args) w := enters_of Tryd.func16 (by kernel_rfl) rfl
theorem c54_any {w : World} {v : Value} {l : List Ins} (hT : Tab w) (hs : SeesL iC 5 w v l) (hok : OkI l) (hm : l.length ≤ 3518437208883) :
    Calls Tryd.prog 15 #[.func (Fn.func 16) #[] #[.pointer (some ⟨w.heap.size, 0, none⟩)]] (w.alloc (.cells #[v] 28)) fun e w' => ∃ x, e = .returned (.tuple #[x, .int .i64 (enc l).2]) ∧ Below (w.heap.size + 1) (w.alloc (.cells #[v] 28)) w' ∧ w'.ownsRow (w.heap.size + 2) 5 1 x (enc l).1.length ((enc l).1.flatMap yC) := by
  have b0 : Below w.heap.size w (w.alloc (.cells #[v] 28)) := below_box _
  have k0 : (w.alloc (.cells #[v] 28)).heap[w.heap.size]? = some (.cells #[v] 28) := heap_alloc_new w _
  have s0 : (w.alloc (.cells #[v] 28)).heap.size = w.heap.size + 1 := by simp
  generalize w.alloc (.cells #[v] 28) = Y at *
  have bY : Below Y.heap.size Y (Y.alloc (.cells #[.int .i64 0] 29)) := below_box _
  have bw : Below w.heap.size w (Y.alloc (.cells #[.int .i64 0] 29)) := b0.trans (bY.mono (by omega))
  have h35 := f55_any w.heap.size (hT.below bw hT.pos) (hs.below iC_len bw) hok hm (cell_at ((bY.block _ (by omega)).trans k0))
  rw [World.size_alloc] at h35
  rw [← s0]
  by_cases he : (enc l).2 = 0
  · rw [he]
    refine (caught54_ok 16 _ Y (fun x w' => w'.ownsRow (Y.heap.size + 1) 5 1 x (enc l).1.length ((enc l).1.flatMap yC)) (fun _ _ _ h => ownsRow_setCell_below h (by simp) _) (fun _ _ _ h => h.alloc _) (h35.mono fun e w' h => ?_) enters55).mono fun e w' h => ?_
    · obtain ⟨x, hx, ho⟩ := h.2.1 he
      exact ⟨x, hx, by simpa using h.1, ho⟩
    · obtain ⟨x, hx, hb, ho⟩ := h
      exact ⟨x, hx, hb, by rw [s0] at ho; exact ho⟩
  · rw [enc_err he]
    refine (caught54_no 16 _ _ Y (h35.mono fun e w' h => ⟨h.2.2 he, by simpa using h.1⟩) enters55).mono fun e w' h => ?_
    exact ⟨_, h.1, h.2, own_nil _ _ _ _⟩
set_option maxHeartbeats 400000 in
/-- Encode. -/
theorem encode_any {w : World} {v : Value} {l : List Ins} (hT : Tab w) (hs : SeesL iC 5 w v l) (hok : OkI l) (hm : l.length ≤ 3518437208883) :
    Calls Tryd.prog 6 #[v] w fun e w' => ∃ x, e = .returned (.tuple #[x, .int .i64 (enc l).2]) ∧ Below w.heap.size w w' ∧ w'.ownsRow w.heap.size 5 1 x (enc l).1.length ((enc l).1.flatMap yC) := by
  have HC := hide (c54_any hT hs hok hm)
  have hmf : ∀ (fn : Fn) (first cap : Array Value) (w : World), (Instr.makeFunc fn first cap).run Tryd.prog w = .ok (.func fn first cap) w := fun _ _ _ _ => rfl
  obtain ⟨ao, cap, rfl⟩ := hs.shape
  clear hs hT
  generalize enc l = D at *
  generalize l.length = n at *
  go_enter Tryd.func6, Tryd.ntmps6
  go_wp2_with (go_at_call 15; refine (unhide HC).mono ?_; rintro e w1 ⟨x, rfl, hb, ho⟩)
  go_ret2
  exact ⟨x, rfl, (below_box _).trans (hb.mono (by omega)), own_mono ho (by omega)⟩
end Go.Proofs.YtknpfippdddnhabDoor
