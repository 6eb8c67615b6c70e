/- Record: cloneList of transactions. -/
import Derived.Test.YtoddemcmmijoaaaKN
import Derived.Deep.RegionHeld3
namespace Go.Proofs.Ytoddemcmmijoaaa
open Go.RowKit Go.Deep
set_option maxRecDepth 100000

theorem OwnT.lower {base base' : Nat} {w : World} {cs : Array Value} {t : TxnD} (h : OwnT base w cs t) (hb : base' ≤ base) : OwnT base' w cs t := by
  obtain ⟨cv, av, rv, wv, h0, h1, h2, h3, h4⟩ := h
  exact ⟨cv, av, rv, wv, h0, own_monoN h1 hb, own_monoN h2 hb, own_monoN h3 hb, own_monoN h4 hb⟩
/-- No list of parts is too long to be cloned. -/
def SmallT (t : TxnD) : Prop := t.code.length ≤ 140737488351232 ∧ t.args.length ≤ 17592186043904 ∧ t.reads.length ≤ 8796093021952 ∧ t.writes.length ≤ 8796093021952

set_option maxHeartbeats 1600000 in
theorem cloneList_any (v : Value) (l : List TxnD) (w : World) (hs : SeesTs w v l) (hm : l.length ≤ 1256584717421) (hsm : ∀ t ∈ l, SmallT t) :
    Calls Try.prog 42 #[v, .func (.func 43) #[] #[]] w fun e w' => ∃ x, e = .returned x ∧ OwnTs w.heap.size w' x l ∧ Below w.heap.size w w' := by
  have HC := hide (cloneTs_any v l w hs hm)
  have HSM := hide hsm
  obtain ⟨ao, cap, _, _, rfl, _⟩ := hs
  clear hsm
  go_enter Try.func42, Try.ntmps42
  go_wp2_with fail
  refine (unhide HC).mono ?_
  rintro e w2 ⟨x, rfl, ⟨vs, hvs, hrow, hse⟩, hb2⟩
  rcases hrow.2 with ⟨rfl, hl0⟩ | ⟨g, cap2, cur, rfl, _⟩
  · obtain rfl : l = [] := List.length_eq_zero_iff.1 hl0
    have HB := hide hb2
    clear hrow hse hb2 hvs HC
    go_wp2
    go_loopw [12] (fun c wr => c = .int .i64 0 ∧ wr = w2) (fun _ _ => 0)
    case atStart => exact ⟨rfl, rfl⟩
    case round =>
      obtain ⟨rfl, rfl⟩ := hrel
      go_wp2
      go_ret
      exact ⟨_, rfl, OwnTs.nil _ _, unhide HB⟩
  · have HJ : Hid (CL w w2 g l.length cap2 0 vs l) := ⟨hvs, rfl, hrow, fun j p hj => absurd hj (by omega), fun j p _ hp => hse p (List.mem_of_getElem? hp), hb2⟩
    obtain ⟨n, hn⟩ : ∃ n, l.length = n := ⟨_, rfl⟩
    rw [hn] at HJ hm ⊢
    clear hrow hse hb2 hvs HC
    go_wp2
    go_loopw [12] (fun c wr => ∃ (t : Nat) (us : List TX4), t ≤ n ∧ c = .int .i64 t ∧ CL w wr g n cap2 t us l) (fun c _ => n - (intOf c).toNat)
    case atStart => exact ⟨0, vs, by omega, rfl, unhide HJ⟩
    case round =>
      obtain ⟨t, us, ht, rfl, hJ⟩ := hrel
      by_cases hlt : t < n
      · have hul : us.length = n := by rw [← hJ.len, ← hJ.map]; simp
        obtain ⟨p, hp⟩ : ∃ p, us[t]? = some p := ⟨us[t]'(by omega), by simp [hul, hlt]⟩
        have hpl : p.1 ∈ l := by rw [← hJ.map]; exact List.mem_map.2 ⟨p, List.mem_of_getElem? hp, rfl⟩
        have hps := unhide HSM p.1 hpl
        have hpt := hJ.rest t p (Nat.le_refl _) hp
        obtain ⟨k1, c1, k2, c2, k3, c3, k4, c4, e1, e2, e3, e4⟩ := hpt.shape
        obtain ⟨⟨s, q, lc, la, lr, lw⟩, v1, v2, v3, v4⟩ := p
        simp only at e1 e2 e3 e4 hpt hps
        subst e1 e2 e3 e4
        have d0 := row_cell hJ.row (t * 6) (.int .i64 s) (txnCells_at us t _ hp 0 (by omega))
        have d1 := row_cell hJ.row (t * 6 + 1) (.int .i64 q) (txnCells_at us t _ hp 1 (by omega))
        have d2 := row_cell hJ.row (t * 6 + 2) _ (txnCells_at us t _ hp 2 (by omega))
        have d3 := row_cell hJ.row (t * 6 + 3) _ (txnCells_at us t _ hp 3 (by omega))
        have d4 := row_cell hJ.row (t * 6 + 4) _ (txnCells_at us t _ hp 4 (by omega))
        have d5 := row_cell hJ.row (t * 6 + 5) _ (txnCells_at us t _ hp 5 (by omega))
        simp only at d2 d3 d4 d5
        obtain ⟨m1, f1⟩ : ∃ m, lc.length = m := ⟨_, rfl⟩
        obtain ⟨m2, f2⟩ : ∃ m, la.length = m := ⟨_, rfl⟩
        obtain ⟨m3, f3⟩ : ∃ m, lr.length = m := ⟨_, rfl⟩
        obtain ⟨m4, f4⟩ : ∃ m, lw.length = m := ⟨_, rfl⟩
        rw [f1] at d2
        rw [f2] at d3
        rw [f3] at d4
        rw [f4] at d5
        have hal : Below wr.heap.size wr (wr.alloc (.cells #[.int .i64 s, .int .i64 q, .slice k1 m1 c1, .slice k2 m2 c2, .slice k3 m3 c3, .slice k4 m4 c4] 81)) := (Below.refl _ _).alloc (Nat.le_refl _) _
        have hJ1 := hJ.below' hal
        have HM := hide (cloneTxn_any _ ⟨s, q, lc, la, lr, lw⟩ (wr.alloc (.cells #[.int .i64 s, .int .i64 q, .slice k1 m1 c1, .slice k2 m2 c2, .slice k3 m3 c3, .slice k4 m4 c4] 81)) (hpt.below hJ1.below) hps.1 hps.2.1 hps.2.2.1 hps.2.2.2)
        simp only [f1, f2, f3, f4] at HM
        have HJ1 := hide hJ1
        have HP := hide hp
        clear hpt hps hpl hul hJ hJ1 hal hp f1 f2 f3 f4
        go_wp2_with fail
        refine (unhide HM).mono ?_
        rintro e w3 ⟨cs', rfl, ho3, hb3⟩
        obtain ⟨cv, av, rv, wv, rfl, o1, o2, o3, o4⟩ := id ho3
        obtain ⟨j1, z1, rfl⟩ := own_shapeN o1
        obtain ⟨j2, z2, rfl⟩ := own_shapeN o2
        obtain ⟨j3, z3, rfl⟩ := own_shapeN o3
        obtain ⟨j4, z4, rfl⟩ := own_shapeN o4
        have hJ3 := (unhide HJ1).below' hb3
        simp only at o1 o2 o3 o4 ho3 ⊢
        have hp3 := unhide HP
        have d0' := row_cell hJ3.row (t * 6) (.int .i64 s) (txnCells_at us t _ hp3 0 (by omega))
        have d1' := row_cell hJ3.row (t * 6 + 1) (.int .i64 q) (txnCells_at us t _ hp3 1 (by omega))
        have d2' := row_cell hJ3.row (t * 6 + 2) _ (txnCells_at us t _ hp3 2 (by omega))
        have d3' := row_cell hJ3.row (t * 6 + 3) _ (txnCells_at us t _ hp3 3 (by omega))
        have d4' := row_cell hJ3.row (t * 6 + 4) _ (txnCells_at us t _ hp3 4 (by omega))
        have d5' := row_cell hJ3.row (t * 6 + 5) _ (txnCells_at us t _ hp3 5 (by omega))
        simp only at d2' d3' d4' d5'
        obtain ⟨_, cur3, hh3⟩ := row_heap hJ3.row
        have fz : ∀ o, w3.frozen? ⟨g, o, none⟩ = false := fun o => frozen_of_heap hh3
        have hst := hJ3.step hlt _ (⟨s, q, lc, la, lr, lw⟩, .slice j1 lc.length z1, .slice j2 la.length z2, .slice j3 lr.length z3, .slice j4 lw.length z4) hp3 rfl (OwnT.lower ho3 (by have := (unhide HJ1).below.size; exact this))
        simp only at hst
        have HST := hide hst
        clear o1 o2 o3 o4 ho3 hb3 hJ3 hst hh3 HM hp3
        go_wp2
        go_roundw
        case rel => first | exact ⟨t + 1, _, by omega, by go_num, unhide HST⟩ | ((repeat apply Exists.intro); exact ⟨⟨t + 1, _, by omega, by go_num, unhide HST⟩, rfl⟩)
        case measure => simp [intOf]; omega
      · obtain rfl : t = n := by omega
        have HF : Hid (OwnTs w.heap.size wr (.slice (some ⟨g, 0, none⟩) t cap2) l ∧ Below w.heap.size w wr) := ⟨hJ.end, hJ.below⟩
        clear hJ
        go_wp2
        go_ret
        exact ⟨_, rfl, unhide HF⟩
end Go.Proofs.Ytoddemcmmijoaaa
