/- Decode. -/
import Derived.Test.YtknpfippdddnhabDoorWA
namespace Go.Proofs.YtknpfippdddnhabDoor
open Go.RowKit Go.Shelf
set_option maxRecDepth 100000

set_option maxHeartbeats 400000 in
theorem readAll_long (ao : Option Addr) (n cap : Nat) (w : World) (h : 512 < n) : Calls Tryd.prog 14 #[.slice ao n cap] w fun e w' => e = GiveUp 3 ∧ w = w' := by
  have hd : decide ((n : Int) ≤ 512) = false := by simp; omega
  go_enter Tryd.func14, Tryd.ntmps14
  go_wp2_with fail
  refine (must_no _ _).mono ?_
  rintro e w2 ⟨rfl, rfl⟩
  exact ⟨rfl, rfl, rfl⟩
theorem dec_long {l : List Int} (h : 512 < l.length) : dec l = ([], 3) := by unfold dec; rw [if_pos h]
theorem dec_err {l : List Int} (h : (dec l).2 ≠ 0) : (dec l).1 = [] := by
  unfold dec at h ⊢
  split
  · rfl
  · rename_i h1
    rw [if_neg h1] at h
    split
    · rfl
    · rename_i h2
      rw [if_neg h2] at h
      split
      · rename_i h3
        rw [if_pos h3] at h
        exact absurd rfl h
      · rfl
theorem readAll_all {w : World} {v : Value} {l : List Int} (hT : Tab w) (hs : SeesL yC 1 w v l) (hby : Byt l) :
    Calls Tryd.prog 14 #[v] w fun e w' => DcR w (w.heap.size + 1) (dec l) e w' := by
  by_cases hm : l.length ≤ 512
  · exact readAll_any hT hs hby hm
  · obtain ⟨ao, cap, rfl⟩ := hs.shape
    rw [dec_long (by omega)]
    exact (readAll_long ao _ cap w (by omega)).mono fun e w' h => ⟨h.2 ▸ Below.refl _ _, fun z => absurd z (by decide), fun _ => h.1⟩
set_option maxHeartbeats 400000 in
theorem f35_any {w : World} {v : Value} {l : List Int} (b1 : Nat) (hT : Tab w) (hs : SeesL yC 1 w v l) (hby : Byt l) (k1 : w.cell? ⟨b1, 0, none⟩ = some v) :
    Calls Tryd.prog 13 #[.pointer (some ⟨b1, 0, none⟩)] w fun e w' => DcR w (w.heap.size + 1) (dec l) e w' := by
  have hr := readAll_all hT hs hby
  obtain ⟨ao, cap, rfl⟩ := hs.shape
  clear hs hT
  by_cases he : (dec l).2 = 0
  · have HR := hide (hr.mono fun e w' (h : DcR _ _ _ e w') => And.intro h.1 (h.2.1 he))
    generalize dec l = D at *
    clear hr
    generalize l.length = n at *
    have HE := hide he
    clear he
    go_enter Tryd.func13, Tryd.ntmps13
    go_wp2_with (go_at_call 14; refine (unhide HR).mono ?_; rintro e w1 ⟨hb, x, rfl, hx⟩)
    go_ret
    exact ⟨hb, fun _ => ⟨x, rfl, hx⟩, fun z => absurd (unhide HE) z⟩
  · have HR := hide (hr.mono fun e w' (h : DcR _ _ _ e w') => And.intro h.1 (h.2.2 he))
    generalize dec l = D at *
    clear hr
    generalize l.length = n at *
    have HE := hide he
    clear he
    go_enter Tryd.func13, Tryd.ntmps13
    go_wp2_with fail
    refine (unhide HR).mono ?_
    rintro e w1 ⟨hb, rfl⟩
    exact ⟨rfl, hb, fun z => absurd z (unhide HE), fun _ => rfl⟩
theorem enters35 : ∀ args w, (callFunc 13 args).run Tryd.prog w = .ok (.enter 13 args) w := enters_of Tryd.func13 (by kernel_rfl) rfl
theorem c34_any {w : World} {v : Value} {l : List Int} (hT : Tab w) (hs : SeesL yC 1 w v l) (hby : Byt l) :
    Calls Tryd.prog 12 #[.func (Fn.func 13) #[] #[.pointer (some ⟨w.heap.size, 0, none⟩)]] (w.alloc (.cells #[v] 22)) fun e w' => ∃ x, e = .returned (.tuple #[x, .int .i64 (dec l).2]) ∧ Below (w.heap.size + 1) (w.alloc (.cells #[v] 22)) w' ∧ w'.ownsRow (w.heap.size + 2) 35 5 x (dec l).1.length ((dec l).1.flatMap iC) := by
  have b0 : Below w.heap.size w (w.alloc (.cells #[v] 22)) := below_box _
  have k0 : (w.alloc (.cells #[v] 22)).heap[w.heap.size]? = some (.cells #[v] 22) := heap_alloc_new w _
  have s0 : (w.alloc (.cells #[v] 22)).heap.size = w.heap.size + 1 := by simp
  generalize w.alloc (.cells #[v] 22) = Y at *
  have bY : Below Y.heap.size Y (Y.alloc (.cells #[.int .i64 0] 29)) := below_box _
  have bw : Below w.heap.size w (Y.alloc (.cells #[.int .i64 0] 29)) := b0.trans (bY.mono (by omega))
  have h35 := f35_any w.heap.size (hT.below bw hT.pos) (hs.below yC_len bw) hby (cell_at ((bY.block _ (by omega)).trans k0))
  rw [World.size_alloc] at h35
  rw [← s0]
  by_cases he : (dec l).2 = 0
  · rw [he]
    refine (caught34_ok 13 _ Y (fun x w' => w'.ownsRow (Y.heap.size + 1) 35 5 x (dec l).1.length ((dec l).1.flatMap iC)) (fun _ _ _ h => ownsRow_setCell_below h (by simp) _) (fun _ _ _ h => h.alloc _) (h35.mono fun e w' h => ?_) enters35).mono fun e w' h => ?_
    · obtain ⟨x, hx, ho⟩ := h.2.1 he
      exact ⟨x, hx, by simpa using h.1, own_mono ho (by simp)⟩
    · obtain ⟨x, hx, hb, ho⟩ := h
      exact ⟨x, hx, hb, by rw [s0] at ho; exact ho⟩
  · rw [dec_err he]
    refine (caught34_no 13 _ _ Y (h35.mono fun e w' h => ⟨h.2.2 he, by simpa using h.1⟩) enters35).mono fun e w' h => ?_
    exact ⟨_, h.1, h.2, own_nil _ _ _ _⟩
set_option maxHeartbeats 400000 in
/-- Decode. -/
theorem decode_any {w : World} {v : Value} {l : List Int} (hT : Tab w) (hs : SeesL yC 1 w v l) (hby : Byt l) :
    Calls Tryd.prog 5 #[v] w fun e w' => ∃ x, e = .returned (.tuple #[x, .int .i64 (dec l).2]) ∧ Below w.heap.size w w' ∧ w'.ownsRow w.heap.size 35 5 x (dec l).1.length ((dec l).1.flatMap iC) := by
  have HC := hide (c34_any hT hs hby)
  have hmf : ∀ (fn : Fn) (first cap : Array Value) (w : World), (Instr.makeFunc fn first cap).run Tryd.prog w = .ok (.func fn first cap) w := fun _ _ _ _ => rfl
  obtain ⟨ao, cap, rfl⟩ := hs.shape
  clear hs hT
  generalize dec l = D at *
  generalize l.length = n at *
  go_enter Tryd.func5, Tryd.ntmps5
  go_wp2_with (go_at_call 12; refine (unhide HC).mono ?_; rintro e w1 ⟨x, rfl, hb, ho⟩)
  go_ret2
  exact ⟨x, rfl, (below_box _).trans (hb.mono (by omega)), own_mono ho (by omega)⟩
end Go.Proofs.YtknpfippdddnhabDoor
