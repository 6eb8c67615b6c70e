/- RecordTurned: the walk, its short ways. -/
import Derived.Test.YtggllgimlfchhabGreatGE
namespace Go.Proofs.YtggllgimlfchhabGreat
open Go.RowKit
set_option maxRecDepth 100000

set_option maxHeartbeats 3200000 in
theorem turned_3 {w : World} {cm : Array Value} {m : MsgD} {bit cut : Int} (sm : SeesM w cm m) (om : OkM m) (fm : Fits m) (hbm : marE m = 3) :
    Calls Tryz.prog 4 #[.agg cm, .int .i64 bit, .int .i64 cut] w fun e w' => e = .returned (.bool true) ∧ Below w.heap.size w w' := by
  have HZM : Hid (cm.size = 17) := by obtain ⟨_, _, _, rfl, _⟩ := sm; rfl
  have HSM := hide sm
  have HFM := hide fm
  have HOM := hide om
  have HBM := hide hbm
  have hB2 : Below w.heap.size w (w.alloc (.cells cm 30)) := (Below.refl _ _).alloc (Nat.le_refl _) _
  have hS2 : (w.alloc (.cells cm 30)).heap.size = w.heap.size + 1 := by simp
  have g0 : (w.alloc (.cells cm 30)).heap[w.heap.size]? = some (.cells cm 30) := heap_alloc_new w _
  obtain ⟨w2, hw2⟩ : ∃ y, w.alloc (.cells cm 30) = y := ⟨_, rfl⟩
  rw [hw2] at hB2 hS2 g0
  have HX : Hid (∀ x, Below (w.heap.size + 1) w2 x → x.heap[w.heap.size]? = some (.cells cm 30)) := fun x hb => (hb.block _ (by omega)).trans g0
  have HBW : Hid (∀ x, Below (w.heap.size + 1) w2 x → Below w.heap.size w x) := fun x hb => hB2.trans (hb.mono (by omega))
  have HTR : Hid (∀ x y, Below (w.heap.size + 1) w2 x → Below x.heap.size x y → Below (w.heap.size + 1) w2 y) := fun x y h1 h2 => h1.trans (h2.mono (by have := h1.size; omega))
  have HBI : Hid (Below (w.heap.size + 1) w2 w2) := Below.refl _ _
  have HW2 := hide hS2
  clear sm fm om hbm hB2 hS2 g0
  go_enter Tryz.func4, Tryz.ntmps4
  go_wp2_with (first | rw [hw2] | simp only [Value.cells])
  refine (begun_any _).mono ?_
  rintro r z0 ⟨rfl, b⟩
  have HB0 := hide (unhide HTR _ _ (unhide HBI) b)
  have HXM := hide (unhide HX _ (unhide HB0))
  have HC := hide (marshal_any cm m z0 ((unhide HSM).below (unhide HBW _ (unhide HB0))) (unhide HOM) (unhide HFM).1 (unhide HFM).2.1 (unhide HFM).2.2.1 (unhide HFM).2.2.2)
  rw [unhide HBM] at HC
  clear b HBI
  go_wp2_with (refine wpList_load_wanted (by rfl) 30 _ rfl w.heap.size rfl 30 _ (0, 0) _ (unhide HXM) Tryz.underlying30 rfl (by rw [unhide HZM]; kernel_rfl) ?_)
  refine (unhide HC).mono ?_
  rintro r z1 ⟨u, rfl, ou, b⟩
  have HB1 := hide (unhide HTR _ _ (unhide HB0) b)
  clear b HC HXM
  obtain ⟨ua, uc, rfl⟩ := own_shape ou
  obtain ⟨ul, hul⟩ : ∃ n, (marB m).length = n := ⟨_, rfl⟩
  rw [hul]
  clear hul ou
  have HF := hide (unhide HBW _ (unhide HB1))
  go_wp2_with fail
  go_ret
  exact ⟨rfl, unhide HF⟩

set_option maxHeartbeats 3200000 in
theorem turned_4 {w : World} {cm : Array Value} {m : MsgD} {bit cut : Int} (sm : SeesM w cm m) (om : OkM m) (fm : Fits m) (hbm : marE m = 40) :
    Calls Tryz.prog 4 #[.agg cm, .int .i64 bit, .int .i64 cut] w fun e w' => e = .returned (.bool true) ∧ Below w.heap.size w w' := by
  have HZM : Hid (cm.size = 17) := by obtain ⟨_, _, _, rfl, _⟩ := sm; rfl
  have HSM := hide sm
  have HFM := hide fm
  have HOM := hide om
  have HBM := hide hbm
  have hB2 : Below w.heap.size w (w.alloc (.cells cm 30)) := (Below.refl _ _).alloc (Nat.le_refl _) _
  have hS2 : (w.alloc (.cells cm 30)).heap.size = w.heap.size + 1 := by simp
  have g0 : (w.alloc (.cells cm 30)).heap[w.heap.size]? = some (.cells cm 30) := heap_alloc_new w _
  obtain ⟨w2, hw2⟩ : ∃ y, w.alloc (.cells cm 30) = y := ⟨_, rfl⟩
  rw [hw2] at hB2 hS2 g0
  have HX : Hid (∀ x, Below (w.heap.size + 1) w2 x → x.heap[w.heap.size]? = some (.cells cm 30)) := fun x hb => (hb.block _ (by omega)).trans g0
  have HBW : Hid (∀ x, Below (w.heap.size + 1) w2 x → Below w.heap.size w x) := fun x hb => hB2.trans (hb.mono (by omega))
  have HTR : Hid (∀ x y, Below (w.heap.size + 1) w2 x → Below x.heap.size x y → Below (w.heap.size + 1) w2 y) := fun x y h1 h2 => h1.trans (h2.mono (by have := h1.size; omega))
  have HBI : Hid (Below (w.heap.size + 1) w2 w2) := Below.refl _ _
  have HW2 := hide hS2
  clear sm fm om hbm hB2 hS2 g0
  go_enter Tryz.func4, Tryz.ntmps4
  go_wp2_with (first | rw [hw2] | simp only [Value.cells])
  refine (begun_any _).mono ?_
  rintro r z0 ⟨rfl, b⟩
  have HB0 := hide (unhide HTR _ _ (unhide HBI) b)
  have HXM := hide (unhide HX _ (unhide HB0))
  have HC := hide (marshal_any cm m z0 ((unhide HSM).below (unhide HBW _ (unhide HB0))) (unhide HOM) (unhide HFM).1 (unhide HFM).2.1 (unhide HFM).2.2.1 (unhide HFM).2.2.2)
  rw [unhide HBM] at HC
  clear b HBI
  go_wp2_with (refine wpList_load_wanted (by rfl) 30 _ rfl w.heap.size rfl 30 _ (0, 0) _ (unhide HXM) Tryz.underlying30 rfl (by rw [unhide HZM]; kernel_rfl) ?_)
  refine (unhide HC).mono ?_
  rintro r z1 ⟨u, rfl, ou, b⟩
  have HB1 := hide (unhide HTR _ _ (unhide HB0) b)
  clear b HC HXM
  obtain ⟨ua, uc, rfl⟩ := own_shape ou
  obtain ⟨ul, hul⟩ : ∃ n, (marB m).length = n := ⟨_, rfl⟩
  rw [hul]
  clear hul ou
  have HXM := hide (unhide HX _ (unhide HB1))
  have HC := hide (mays_same m ▸ mayMsg_any cm m z1 ((unhide HSM).below (unhide HBW _ (unhide HB1))) (unhide HOM) (okM_plain (unhide HOM)) : Calls Tryz.prog 14 #[.agg cm] z1 fun e w' => e = .returned (.bool (mayMsg m)) ∧ Below z1.heap.size z1 w')
  rw [mar_not (unhide HBM)] at HC
  go_wp2_with (refine wpList_load_wanted (by rfl) 30 _ rfl w.heap.size rfl 30 _ (0, 0) _ (unhide HXM) Tryz.underlying30 rfl (by rw [unhide HZM]; kernel_rfl) ?_)
  refine (unhide HC).mono ?_
  rintro r z2 ⟨rfl, b⟩
  have HB2 := hide (unhide HTR _ _ (unhide HB1) b)
  clear b HC HXM
  have HF := hide (unhide HBW _ (unhide HB2))
  go_wp2_with fail
  go_ret
  exact ⟨rfl, unhide HF⟩

set_option maxHeartbeats 3200000 in
theorem turned_n {w : World} {cm : Array Value} {m : MsgD} {bit cut : Int} (sm : SeesM w cm m) (om : OkM m) (fm : Fits m) (hbm : marE m = 0) (hbit : bit < 0) :
    Calls Tryz.prog 4 #[.agg cm, .int .i64 bit, .int .i64 cut] w fun e w' => e = .returned (.bool true) ∧ Below w.heap.size w w' := by
  have HZM : Hid (cm.size = 17) := by obtain ⟨_, _, _, rfl, _⟩ := sm; rfl
  have HSM := hide sm
  have HFM := hide fm
  have HOM := hide om
  have HBM := hide hbm
  have hB2 : Below w.heap.size w (w.alloc (.cells cm 30)) := (Below.refl _ _).alloc (Nat.le_refl _) _
  have hS2 : (w.alloc (.cells cm 30)).heap.size = w.heap.size + 1 := by simp
  have g0 : (w.alloc (.cells cm 30)).heap[w.heap.size]? = some (.cells cm 30) := heap_alloc_new w _
  obtain ⟨w2, hw2⟩ : ∃ y, w.alloc (.cells cm 30) = y := ⟨_, rfl⟩
  rw [hw2] at hB2 hS2 g0
  have HX : Hid (∀ x, Below (w.heap.size + 1) w2 x → x.heap[w.heap.size]? = some (.cells cm 30)) := fun x hb => (hb.block _ (by omega)).trans g0
  have HBW : Hid (∀ x, Below (w.heap.size + 1) w2 x → Below w.heap.size w x) := fun x hb => hB2.trans (hb.mono (by omega))
  have HTR : Hid (∀ x y, Below (w.heap.size + 1) w2 x → Below x.heap.size x y → Below (w.heap.size + 1) w2 y) := fun x y h1 h2 => h1.trans (h2.mono (by have := h1.size; omega))
  have HBI : Hid (Below (w.heap.size + 1) w2 w2) := Below.refl _ _
  have HW2 := hide hS2
  clear sm fm om hbm hB2 hS2 g0
  go_enter Tryz.func4, Tryz.ntmps4
  go_wp2_with (first | rw [hw2] | simp only [Value.cells])
  refine (begun_any _).mono ?_
  rintro r z0 ⟨rfl, b⟩
  have HB0 := hide (unhide HTR _ _ (unhide HBI) b)
  have HXM := hide (unhide HX _ (unhide HB0))
  have HC := hide (marshal_any cm m z0 ((unhide HSM).below (unhide HBW _ (unhide HB0))) (unhide HOM) (unhide HFM).1 (unhide HFM).2.1 (unhide HFM).2.2.1 (unhide HFM).2.2.2)
  rw [unhide HBM] at HC
  clear b HBI
  go_wp2_with (refine wpList_load_wanted (by rfl) 30 _ rfl w.heap.size rfl 30 _ (0, 0) _ (unhide HXM) Tryz.underlying30 rfl (by rw [unhide HZM]; kernel_rfl) ?_)
  refine (unhide HC).mono ?_
  rintro r z1 ⟨u, rfl, ou, b⟩
  have HB1 := hide (unhide HTR _ _ (unhide HB0) b)
  clear b HC HXM
  obtain ⟨ua, uc, rfl⟩ := own_shape ou
  have hlb := marB_pos (unhide HBM)
  have hlt := marB_le m
  obtain ⟨B, hB⟩ : ∃ z, marB m = z := ⟨_, rfl⟩
  rw [hB] at ou hlb hlt
  rw [hB]
  have HBB := hide hB
  clear ou hB
  obtain ⟨L, hL⟩ : ∃ n, B.length = n := ⟨_, rfl⟩
  rw [hL] at hlb hlt
  rw [hL]
  clear hL
  have hl0 : ((L : Int) == 0) = false := by simp; omega
  have hl1 : (0 : Int) < (L : Int) := by omega
  have HF := hide (unhide HBW _ (unhide HB1))
  go_wp2_with fail
  go_ret
  exact ⟨rfl, unhide HF⟩

set_option maxHeartbeats 3200000 in
theorem turned_g {w : World} {cm : Array Value} {m : MsgD} {bit cut : Int} (sm : SeesM w cm m) (om : OkM m) (fm : Fits m) (hbm : marE m = 0) (hbit : 0 ≤ bit) (hbr : bit ≤ 9223372036854775807) (hb8 : ((marB m).length : Int) ≤ bit / 8) :
    Calls Tryz.prog 4 #[.agg cm, .int .i64 bit, .int .i64 cut] w fun e w' => e = .returned (.bool true) ∧ Below w.heap.size w w' := by
  have HZM : Hid (cm.size = 17) := by obtain ⟨_, _, _, rfl, _⟩ := sm; rfl
  have HSM := hide sm
  have HFM := hide fm
  have HOM := hide om
  have HBM := hide hbm
  have hB2 : Below w.heap.size w (w.alloc (.cells cm 30)) := (Below.refl _ _).alloc (Nat.le_refl _) _
  have hS2 : (w.alloc (.cells cm 30)).heap.size = w.heap.size + 1 := by simp
  have g0 : (w.alloc (.cells cm 30)).heap[w.heap.size]? = some (.cells cm 30) := heap_alloc_new w _
  obtain ⟨w2, hw2⟩ : ∃ y, w.alloc (.cells cm 30) = y := ⟨_, rfl⟩
  rw [hw2] at hB2 hS2 g0
  have HX : Hid (∀ x, Below (w.heap.size + 1) w2 x → x.heap[w.heap.size]? = some (.cells cm 30)) := fun x hb => (hb.block _ (by omega)).trans g0
  have HBW : Hid (∀ x, Below (w.heap.size + 1) w2 x → Below w.heap.size w x) := fun x hb => hB2.trans (hb.mono (by omega))
  have HTR : Hid (∀ x y, Below (w.heap.size + 1) w2 x → Below x.heap.size x y → Below (w.heap.size + 1) w2 y) := fun x y h1 h2 => h1.trans (h2.mono (by have := h1.size; omega))
  have HBI : Hid (Below (w.heap.size + 1) w2 w2) := Below.refl _ _
  have HW2 := hide hS2
  clear sm fm om hbm hB2 hS2 g0
  go_enter Tryz.func4, Tryz.ntmps4
  go_wp2_with (first | rw [hw2] | simp only [Value.cells])
  refine (begun_any _).mono ?_
  rintro r z0 ⟨rfl, b⟩
  have HB0 := hide (unhide HTR _ _ (unhide HBI) b)
  have HXM := hide (unhide HX _ (unhide HB0))
  have HC := hide (marshal_any cm m z0 ((unhide HSM).below (unhide HBW _ (unhide HB0))) (unhide HOM) (unhide HFM).1 (unhide HFM).2.1 (unhide HFM).2.2.1 (unhide HFM).2.2.2)
  rw [unhide HBM] at HC
  clear b HBI
  go_wp2_with (refine wpList_load_wanted (by rfl) 30 _ rfl w.heap.size rfl 30 _ (0, 0) _ (unhide HXM) Tryz.underlying30 rfl (by rw [unhide HZM]; kernel_rfl) ?_)
  refine (unhide HC).mono ?_
  rintro r z1 ⟨u, rfl, ou, b⟩
  have HB1 := hide (unhide HTR _ _ (unhide HB0) b)
  clear b HC HXM
  have HH := hide hb8
  clear hb8
  obtain ⟨ua, uc, rfl⟩ := own_shape ou
  have hlb := marB_pos (unhide HBM)
  have hlt := marB_le m
  obtain ⟨B, hB⟩ : ∃ z, marB m = z := ⟨_, rfl⟩
  rw [hB] at ou hlb hlt
  rw [hB]
  have HBB := hide hB
  have hb8 := unhide HH
  rw [hB] at hb8
  clear ou hB HH
  obtain ⟨L, hL⟩ : ∃ n, B.length = n := ⟨_, rfl⟩
  rw [hL] at hlb hlt hb8
  rw [hL]
  clear hL
  have hl0 : ((L : Int) == 0) = false := by simp; omega
  have hl1 : (0 : Int) < (L : Int) := by omega
  have hbn : ¬ bit < 0 := by omega
  have hwr : wrap64 (bit / 8) = bit / 8 := by unfold wrap64; omega
  have hnl : ¬ wrap64 (bit / 8) < (L : Int) := by rw [hwr]; omega
  have HF := hide (unhide HBW _ (unhide HB1))
  go_wp2_with fail
  go_ret
  exact ⟨rfl, unhide HF⟩

end Go.Proofs.YtggllgimlfchhabGreat
