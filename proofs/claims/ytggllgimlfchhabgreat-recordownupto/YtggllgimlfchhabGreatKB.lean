/- Several texts as one. -/
import Derived.Test.YtggllgimlfchhabGreatND
import Derived.Deep.RegionHeld3
import Derived.Test.YtggllgimlfchhabGreatJU
import Derived.Test.YtggllgimlfchhabGreatMA

/- Record: cloneList of transactions. -/
namespace Go.Proofs.YtggllgimlfchhabGreat
open Go.RowKit Go.Deep
set_option maxRecDepth 100000

theorem OwnT.lower {base base' : Nat} {w : World} {cs : Array Value} {t : TxnD} (h : OwnT base w cs t) (hb : base' ≤ base) : OwnT base' w cs t := by
  obtain ⟨cv, av, rv, wv, h0, h1, h2, h3, h4⟩ := h
  exact ⟨cv, av, rv, wv, h0, own_monoN h1 hb, own_monoN h2 hb, own_monoN h3 hb, own_monoN h4 hb⟩
/-- No list of parts is too long to be cloned. -/
def SmallT (t : TxnD) : Prop := t.code.length ≤ 1099511627776 ∧ t.args.length ≤ 1099511627776 ∧ t.reads.length ≤ 1099511627776 ∧ t.writes.length ≤ 1099511627776

set_option maxHeartbeats 1600000 in
theorem cloneList_any (v : Value) (l : List TxnD) (w : World) (hs : SeesTs w v l) (hm : l.length ≤ 1099511627776) (hsm : ∀ t ∈ l, SmallT t) :
    Calls Tryz.prog 44 #[v, .func (.func 45) #[] #[]] w fun e w' => ∃ x, e = .returned x ∧ OwnTs w.heap.size w' x l ∧ Below w.heap.size w w' := by
  have HC := hide (cloneTs_any v l w hs hm)
  have HSM := hide hsm
  obtain ⟨ao, cap, _, _, rfl, _⟩ := hs
  clear hsm
  go_enter Tryz.func44, Tryz.ntmps44
  go_wp2_with fail
  refine (unhide HC).mono ?_
  rintro e w2 ⟨x, rfl, ⟨vs, hvs, hrow, hse⟩, hb2⟩
  rcases hrow.2 with ⟨rfl, hl0⟩ | ⟨g, cap2, cur, rfl, _⟩
  · obtain rfl : l = [] := List.length_eq_zero_iff.1 hl0
    have HB := hide hb2
    clear hrow hse hb2 hvs HC
    go_wp2
    go_loopw [12] (fun c wr => c = .int .i64 0 ∧ wr = w2) (fun _ _ => 0)
    case atStart => exact ⟨rfl, rfl⟩
    case round =>
      obtain ⟨rfl, rfl⟩ := hrel
      go_wp2
      go_ret
      exact ⟨_, rfl, OwnTs.nil _ _, unhide HB⟩
  · have HJ : Hid (CL w w2 g l.length cap2 0 vs l) := ⟨hvs, rfl, hrow, fun j p hj => absurd hj (by omega), fun j p _ hp => hse p (List.mem_of_getElem? hp), hb2⟩
    obtain ⟨n, hn⟩ : ∃ n, l.length = n := ⟨_, rfl⟩
    rw [hn] at HJ hm ⊢
    clear hrow hse hb2 hvs HC
    go_wp2
    go_loopw [12] (fun c wr => ∃ (t : Nat) (us : List TX4), t ≤ n ∧ c = .int .i64 t ∧ CL w wr g n cap2 t us l) (fun c _ => n - (intOf c).toNat)
    case atStart => exact ⟨0, vs, by omega, rfl, unhide HJ⟩
    case round =>
      obtain ⟨t, us, ht, rfl, hJ⟩ := hrel
      by_cases hlt : t < n
      · have hul : us.length = n := by rw [← hJ.len, ← hJ.map]; simp
        obtain ⟨p, hp⟩ : ∃ p, us[t]? = some p := ⟨us[t]'(by omega), by simp [hul, hlt]⟩
        have hpl : p.1 ∈ l := by rw [← hJ.map]; exact List.mem_map.2 ⟨p, List.mem_of_getElem? hp, rfl⟩
        have hps := unhide HSM p.1 hpl
        have hpt := hJ.rest t p (Nat.le_refl _) hp
        obtain ⟨k1, c1, k2, c2, k3, c3, k4, c4, e1, e2, e3, e4⟩ := hpt.shape
        obtain ⟨⟨s, q, lc, la, lr, lw⟩, v1, v2, v3, v4⟩ := p
        simp only at e1 e2 e3 e4 hpt hps
        subst e1 e2 e3 e4
        have d0 := row_cell hJ.row (t * 6) (.int .i64 s) (txnCells_at us t _ hp 0 (by omega))
        have d1 := row_cell hJ.row (t * 6 + 1) (.int .i64 q) (txnCells_at us t _ hp 1 (by omega))
        have d2 := row_cell hJ.row (t * 6 + 2) _ (txnCells_at us t _ hp 2 (by omega))
        have d3 := row_cell hJ.row (t * 6 + 3) _ (txnCells_at us t _ hp 3 (by omega))
        have d4 := row_cell hJ.row (t * 6 + 4) _ (txnCells_at us t _ hp 4 (by omega))
        have d5 := row_cell hJ.row (t * 6 + 5) _ (txnCells_at us t _ hp 5 (by omega))
        simp only at d2 d3 d4 d5
        obtain ⟨m1, f1⟩ : ∃ m, lc.length = m := ⟨_, rfl⟩
        obtain ⟨m2, f2⟩ : ∃ m, la.length = m := ⟨_, rfl⟩
        obtain ⟨m3, f3⟩ : ∃ m, lr.length = m := ⟨_, rfl⟩
        obtain ⟨m4, f4⟩ : ∃ m, lw.length = m := ⟨_, rfl⟩
        rw [f1] at d2
        rw [f2] at d3
        rw [f3] at d4
        rw [f4] at d5
        have hal : Below wr.heap.size wr (wr.alloc (.cells #[.int .i64 s, .int .i64 q, .slice k1 m1 c1, .slice k2 m2 c2, .slice k3 m3 c3, .slice k4 m4 c4] 70)) := (Below.refl _ _).alloc (Nat.le_refl _) _
        have hJ1 := hJ.below' hal
        have HM := hide (cloneTxn_any _ ⟨s, q, lc, la, lr, lw⟩ (wr.alloc (.cells #[.int .i64 s, .int .i64 q, .slice k1 m1 c1, .slice k2 m2 c2, .slice k3 m3 c3, .slice k4 m4 c4] 70)) (hpt.below hJ1.below) hps.1 hps.2.1 hps.2.2.1 hps.2.2.2)
        simp only [f1, f2, f3, f4] at HM
        have HJ1 := hide hJ1
        have HP := hide hp
        clear hpt hps hpl hul hJ hJ1 hal hp f1 f2 f3 f4
        go_wp2_with fail
        refine (unhide HM).mono ?_
        rintro e w3 ⟨cs', rfl, ho3, hb3⟩
        obtain ⟨cv, av, rv, wv, rfl, o1, o2, o3, o4⟩ := id ho3
        obtain ⟨j1, z1, rfl⟩ := own_shapeN o1
        obtain ⟨j2, z2, rfl⟩ := own_shapeN o2
        obtain ⟨j3, z3, rfl⟩ := own_shapeN o3
        obtain ⟨j4, z4, rfl⟩ := own_shapeN o4
        have hJ3 := (unhide HJ1).below' hb3
        simp only at o1 o2 o3 o4 ho3 ⊢
        have hp3 := unhide HP
        have d0' := row_cell hJ3.row (t * 6) (.int .i64 s) (txnCells_at us t _ hp3 0 (by omega))
        have d1' := row_cell hJ3.row (t * 6 + 1) (.int .i64 q) (txnCells_at us t _ hp3 1 (by omega))
        have d2' := row_cell hJ3.row (t * 6 + 2) _ (txnCells_at us t _ hp3 2 (by omega))
        have d3' := row_cell hJ3.row (t * 6 + 3) _ (txnCells_at us t _ hp3 3 (by omega))
        have d4' := row_cell hJ3.row (t * 6 + 4) _ (txnCells_at us t _ hp3 4 (by omega))
        have d5' := row_cell hJ3.row (t * 6 + 5) _ (txnCells_at us t _ hp3 5 (by omega))
        simp only at d2' d3' d4' d5'
        obtain ⟨_, cur3, hh3⟩ := row_heap hJ3.row
        have fz : ∀ o, w3.frozen? ⟨g, o, none⟩ = false := fun o => frozen_of_heap hh3
        have hst := hJ3.step hlt _ (⟨s, q, lc, la, lr, lw⟩, .slice j1 lc.length z1, .slice j2 la.length z2, .slice j3 lr.length z3, .slice j4 lw.length z4) hp3 rfl (OwnT.lower ho3 (by have := (unhide HJ1).below.size; exact this))
        simp only at hst
        have HST := hide hst
        clear o1 o2 o3 o4 ho3 hb3 hJ3 hst hh3 HM hp3
        go_wp2
        go_roundw
        case rel => first | exact ⟨t + 1, _, by omega, by go_num, unhide HST⟩ | ((repeat apply Exists.intro); exact ⟨⟨t + 1, _, by omega, by go_num, unhide HST⟩, rfl⟩)
        case measure => simp [intOf]; omega
      · obtain rfl : t = n := by omega
        have HF : Hid (OwnTs w.heap.size wr (.slice (some ⟨g, 0, none⟩) t cap2) l ∧ Below w.heap.size w wr) := ⟨hJ.end, hJ.below⟩
        clear hJ
        go_wp2
        go_ret
        exact ⟨_, rfl, unhide HF⟩
end Go.Proofs.YtggllgimlfchhabGreat

/- Record: CloneEntry. -/
namespace Go.Proofs.YtggllgimlfchhabGreat
open Go.RowKit Go.Deep
set_option maxRecDepth 100000

set_option maxHeartbeats 1600000 in
theorem cloneEntry_any (cs : Array Value) (t : EntD) (w : World) (hE : SeesE w cs t) (hm : t.txns.length ≤ 1099511627776) (hsm : ∀ x ∈ t.txns, SmallT x) :
    Calls Tryz.prog 20 #[.agg cs] w fun e w' => ∃ cs', e = .returned (.agg cs') ∧ OwnE w.heap.size w' cs' t ∧ Below w.heap.size w w' := by
  obtain ⟨n1, n2, n3, l⟩ := t
  obtain ⟨tv, rfl, k1⟩ := hE
  simp only at k1 hm hsm ⊢
  have K := hide k1
  obtain ⟨ac, cc, _, _, rfl, _⟩ := k1
  have hal : Below w.heap.size w ((w.alloc (.cells #[.int .i64 n1, .int .i64 n2, .int .i64 n3, .slice ac l.length cc] 24)).alloc (.cells #[.int .i64 0, .int .i64 0, .int .i64 0, .slice none 0 0] 24)) := ((Below.refl _ _).alloc (Nat.le_refl _) _).alloc (by simp) _
  have e0 : (w.alloc (.cells #[.int .i64 n1, .int .i64 n2, .int .i64 n3, .slice ac l.length cc] 24)).heap.size = w.heap.size + 1 := by simp
  have hx0 : ((w.alloc (.cells #[.int .i64 n1, .int .i64 n2, .int .i64 n3, .slice ac l.length cc] 24)).alloc (.cells #[.int .i64 0, .int .i64 0, .int .i64 0, .slice none 0 0] 24)).heap[w.heap.size]? = some (.cells #[.int .i64 n1, .int .i64 n2, .int .i64 n3, .slice ac l.length cc] 24) := (Below.heap_alloc _ _ _ (by simp)).trans (heap_alloc_new w _)
  have hz0 : ((w.alloc (.cells #[.int .i64 n1, .int .i64 n2, .int .i64 n3, .slice ac l.length cc] 24)).alloc (.cells #[.int .i64 0, .int .i64 0, .int .i64 0, .slice none 0 0] 24)).heap[w.heap.size + 1]? = some (.cells #[.int .i64 0, .int .i64 0, .int .i64 0, .slice none 0 0] 24) := by have := heap_alloc_new (w.alloc (.cells #[.int .i64 n1, .int .i64 n2, .int .i64 n3, .slice ac l.length cc] 24)) (.cells #[.int .i64 0, .int .i64 0, .int .i64 0, .slice none 0 0] 24); rw [e0] at this; exact this
  have hs0 : w.heap.size + 2 ≤ ((w.alloc (.cells #[.int .i64 n1, .int .i64 n2, .int .i64 n3, .slice ac l.length cc] 24)).alloc (.cells #[.int .i64 0, .int .i64 0, .int .i64 0, .slice none 0 0] 24)).heap.size := by simp
  have HX := hide hx0
  have HZ := hide hz0
  have HS := hide hs0
  have HB := hide hal
  have HC := hide (cloneList_any _ l _ ((unhide K).below hal) hm hsm)
  clear hal e0 hx0 hz0 hs0 hsm
  go_enter Tryz.func20, Tryz.ntmps20
  go_wp2_with fail
  refine (unhide HC).mono ?_
  rintro e u ⟨v, rfl, o1, b1⟩
  obtain ⟨x1, d1, rfl⟩ := o1.shape
  have hx : u.heap[w.heap.size]? = some (.cells #[.int .i64 n1, .int .i64 n2, .int .i64 n3, .slice ac l.length cc] 24) := (b1.block _ (by have := unhide HS; omega)).trans (unhide HX)
  have hz : u.heap[w.heap.size + 1]? = some (.cells #[.int .i64 0, .int .i64 0, .int .i64 0, .slice none 0 0] 24) := (b1.block _ (by have := unhide HS; omega)).trans (unhide HZ)
  have k3 : u.cell? ⟨w.heap.size, 3, none⟩ = some (.slice ac l.length cc) := cell_of_heap hx
  have f3 : ∀ o, u.frozen? ⟨w.heap.size, o, none⟩ = false := fun o => frozen_of_heap hx
  have HB3 : Hid (Below w.heap.size w (u.setCell ⟨w.heap.size, 3, none⟩ (.slice x1 l.length d1))) := ((unhide HB).trans (b1.mono (unhide HB).size)).setCell (p := ⟨w.heap.size, 3, none⟩) (Nat.le_refl _) _
  have HO3 : Hid (OwnTs (w.heap.size + 2) (u.setCell ⟨w.heap.size, 3, none⟩ (.slice x1 l.length d1)) (.slice x1 l.length d1) l) := (o1.mono (unhide HS)).setR (by omega)
  have HX3 : Hid ((u.setCell ⟨w.heap.size, 3, none⟩ (.slice x1 l.length d1)).heap[w.heap.size]? = some (.cells #[.int .i64 n1, .int .i64 n2, .int .i64 n3, .slice x1 l.length d1] 24)) := setCell_heap hx
  have HZ3 : Hid ((u.setCell ⟨w.heap.size, 3, none⟩ (.slice x1 l.length d1)).heap[w.heap.size + 1]? = some (.cells #[.int .i64 0, .int .i64 0, .int .i64 0, .slice none 0 0] 24)) := (Below.heap_setCell _ _ _ _ (fun e => by simp only at e; omega)).trans hz
  clear o1 b1 hx hz HC
  obtain ⟨y9, hy9⟩ : ∃ y, (u.setCell ⟨w.heap.size, 3, none⟩ (.slice x1 l.length d1)) = y := ⟨_, rfl⟩
  rw [hy9] at HX3 HZ3 HB3 HO3
  have t0 : y9.cell? ⟨w.heap.size, 0, none⟩ = some (.int .i64 n1) := cell_of_heap (unhide HX3)
  have t1 : y9.cell? ⟨w.heap.size, 1, none⟩ = some (.int .i64 n2) := cell_of_heap (unhide HX3)
  have t2 : y9.cell? ⟨w.heap.size, 2, none⟩ = some (.int .i64 n3) := cell_of_heap (unhide HX3)
  have t3 : y9.cell? ⟨w.heap.size, 3, none⟩ = some (.slice x1 l.length d1) := cell_of_heap (unhide HX3)
  have z0 : y9.cell? ⟨w.heap.size + 1, 0, none⟩ = some (.int .i64 0) := cell_of_heap (unhide HZ3)
  have z1 : y9.cell? ⟨w.heap.size + 1, 1, none⟩ = some (.int .i64 0) := cell_of_heap (unhide HZ3)
  have z2 : y9.cell? ⟨w.heap.size + 1, 2, none⟩ = some (.int .i64 0) := cell_of_heap (unhide HZ3)
  have z3 : y9.cell? ⟨w.heap.size + 1, 3, none⟩ = some (.slice none 0 0) := cell_of_heap (unhide HZ3)
  have fz : ∀ o, y9.frozen? ⟨w.heap.size + 1, o, none⟩ = false := fun o => frozen_of_heap (unhide HZ3)
  go_wp2_with (rw [hy9])
  refine bodyPost_ret (results_cell_row rfl _ _ (w.heap.size + 1) 24 #[.int .i64 n1, .int .i64 n2, .int .i64 n3, .slice x1 l.length d1] (0, 0) _ rfl (setCell_heap (setCell_heap (setCell_heap (setCell_heap (unhide HZ3))))) Tryz.underlying24 rfl (by kernel_rfl)) rfl ?_
  exact ⟨_, rfl, ⟨_, rfl, (((((unhide HO3).setR (by omega)).setR (by omega)).setR (by omega)).setR (by omega)).mono (by omega)⟩, ((((unhide HB3).setCell (p := ⟨w.heap.size + 1, 0, none⟩) (by simp) _).setCell (p := ⟨w.heap.size + 1, 1, none⟩) (by simp) _).setCell (p := ⟨w.heap.size + 1, 2, none⟩) (by simp) _).setCell (p := ⟨w.heap.size + 1, 3, none⟩) (by simp) _⟩
end Go.Proofs.YtggllgimlfchhabGreat

/- Record: cloneTermed. -/
namespace Go.Proofs.YtggllgimlfchhabGreat
open Go.RowKit Go.Deep
set_option maxRecDepth 100000

def OwnTm (base : Nat) (w : World) (cs : Array Value) (x : TmD) : Prop := ∃ tv, cs = #[.int .i64 x.term, .int .i64 x.ent.kind, .int .i64 x.ent.frm, .int .i64 x.ent.num, tv] ∧ OwnTs base w tv x.ent.txns

set_option maxHeartbeats 1600000 in
theorem cloneTermed_any (cs : Array Value) (t : TmD) (w : World) (hE : SeesTm w cs t) (hm : t.ent.txns.length ≤ 1099511627776) (hsm : ∀ x ∈ t.ent.txns, SmallT x) :
    Calls Tryz.prog 47 #[.agg cs] w fun e w' => ∃ cs', e = .returned (.agg cs') ∧ OwnTm w.heap.size w' cs' t ∧ Below w.heap.size w w' := by
  obtain ⟨n0, n1, n2, n3, l⟩ := t
  obtain ⟨tv, rfl, k1⟩ := hE
  simp only at k1 hm hsm ⊢
  have K := hide k1
  obtain ⟨ac, cc, _, _, rfl, _⟩ := k1
  have hal : Below w.heap.size w ((w.alloc (.cells #[.int .i64 n0, .int .i64 n1, .int .i64 n2, .int .i64 n3, .slice ac l.length cc] 52)).alloc (.cells #[.int .i64 0, .int .i64 0, .int .i64 0, .int .i64 0, .slice none 0 0] 52)) := ((Below.refl _ _).alloc (Nat.le_refl _) _).alloc (by simp) _
  have e0 : (w.alloc (.cells #[.int .i64 n0, .int .i64 n1, .int .i64 n2, .int .i64 n3, .slice ac l.length cc] 52)).heap.size = w.heap.size + 1 := by simp
  have hx0 : ((w.alloc (.cells #[.int .i64 n0, .int .i64 n1, .int .i64 n2, .int .i64 n3, .slice ac l.length cc] 52)).alloc (.cells #[.int .i64 0, .int .i64 0, .int .i64 0, .int .i64 0, .slice none 0 0] 52)).heap[w.heap.size]? = some (.cells #[.int .i64 n0, .int .i64 n1, .int .i64 n2, .int .i64 n3, .slice ac l.length cc] 52) := (Below.heap_alloc _ _ _ (by simp)).trans (heap_alloc_new w _)
  have hz0 : ((w.alloc (.cells #[.int .i64 n0, .int .i64 n1, .int .i64 n2, .int .i64 n3, .slice ac l.length cc] 52)).alloc (.cells #[.int .i64 0, .int .i64 0, .int .i64 0, .int .i64 0, .slice none 0 0] 52)).heap[w.heap.size + 1]? = some (.cells #[.int .i64 0, .int .i64 0, .int .i64 0, .int .i64 0, .slice none 0 0] 52) := by have := heap_alloc_new (w.alloc (.cells #[.int .i64 n0, .int .i64 n1, .int .i64 n2, .int .i64 n3, .slice ac l.length cc] 52)) (.cells #[.int .i64 0, .int .i64 0, .int .i64 0, .int .i64 0, .slice none 0 0] 52); rw [e0] at this; exact this
  have hs0 : w.heap.size + 2 ≤ ((w.alloc (.cells #[.int .i64 n0, .int .i64 n1, .int .i64 n2, .int .i64 n3, .slice ac l.length cc] 52)).alloc (.cells #[.int .i64 0, .int .i64 0, .int .i64 0, .int .i64 0, .slice none 0 0] 52)).heap.size := by simp
  have HX := hide hx0
  have HZ := hide hz0
  have HS := hide hs0
  have HB := hide hal
  have HC := hide (cloneEntry_any _ ⟨n1, n2, n3, l⟩ _ ⟨_, rfl, (unhide K).below hal⟩ hm hsm)
  clear hal e0 hx0 hz0 hs0 hsm
  go_enter Tryz.func47, Tryz.ntmps47
  go_wp2_with fail
  refine (unhide HC).mono ?_
  rintro e u ⟨cs', rfl, ⟨tv', rfl, o1⟩, b1⟩
  obtain ⟨x1, d1, rfl⟩ := o1.shape
  simp only at o1 ⊢
  have hx : u.heap[w.heap.size]? = some (.cells #[.int .i64 n0, .int .i64 n1, .int .i64 n2, .int .i64 n3, .slice ac l.length cc] 52) := (b1.block _ (by have := unhide HS; omega)).trans (unhide HX)
  have hz : u.heap[w.heap.size + 1]? = some (.cells #[.int .i64 0, .int .i64 0, .int .i64 0, .int .i64 0, .slice none 0 0] 52) := (b1.block _ (by have := unhide HS; omega)).trans (unhide HZ)
  have k1 : u.cell? ⟨w.heap.size, 1, none⟩ = some (.int .i64 n1) := cell_of_heap hx
  have k2 : u.cell? ⟨w.heap.size, 2, none⟩ = some (.int .i64 n2) := cell_of_heap hx
  have k3 : u.cell? ⟨w.heap.size, 3, none⟩ = some (.int .i64 n3) := cell_of_heap hx
  have k4 : u.cell? ⟨w.heap.size, 4, none⟩ = some (.slice ac l.length cc) := cell_of_heap hx
  have f3 : ∀ o, u.frozen? ⟨w.heap.size, o, none⟩ = false := fun o => frozen_of_heap hx
  have HB3 : Hid (Below w.heap.size w ((((u.setCell ⟨w.heap.size, 1, none⟩ (.int .i64 n1)).setCell ⟨w.heap.size, 2, none⟩ (.int .i64 n2)).setCell ⟨w.heap.size, 3, none⟩ (.int .i64 n3)).setCell ⟨w.heap.size, 4, none⟩ (.slice x1 l.length d1))) := ((((((unhide HB).trans (b1.mono (unhide HB).size)).setCell (p := ⟨w.heap.size, 1, none⟩) (Nat.le_refl _) _).setCell (p := ⟨w.heap.size, 2, none⟩) (Nat.le_refl _) _).setCell (p := ⟨w.heap.size, 3, none⟩) (Nat.le_refl _) _).setCell (p := ⟨w.heap.size, 4, none⟩) (Nat.le_refl _) _)
  have HO3 : Hid (OwnTs (w.heap.size + 2) ((((u.setCell ⟨w.heap.size, 1, none⟩ (.int .i64 n1)).setCell ⟨w.heap.size, 2, none⟩ (.int .i64 n2)).setCell ⟨w.heap.size, 3, none⟩ (.int .i64 n3)).setCell ⟨w.heap.size, 4, none⟩ (.slice x1 l.length d1)) (.slice x1 l.length d1) l) := (((((o1.mono (unhide HS)).setR (by omega)).setR (by omega)).setR (by omega)).setR (by omega))
  have HX3 : Hid (((((u.setCell ⟨w.heap.size, 1, none⟩ (.int .i64 n1)).setCell ⟨w.heap.size, 2, none⟩ (.int .i64 n2)).setCell ⟨w.heap.size, 3, none⟩ (.int .i64 n3)).setCell ⟨w.heap.size, 4, none⟩ (.slice x1 l.length d1)).heap[w.heap.size]? = some (.cells #[.int .i64 n0, .int .i64 n1, .int .i64 n2, .int .i64 n3, .slice x1 l.length d1] 52)) := (setCell_heap (setCell_heap (setCell_heap (setCell_heap hx))))
  have HZ3 : Hid (((((u.setCell ⟨w.heap.size, 1, none⟩ (.int .i64 n1)).setCell ⟨w.heap.size, 2, none⟩ (.int .i64 n2)).setCell ⟨w.heap.size, 3, none⟩ (.int .i64 n3)).setCell ⟨w.heap.size, 4, none⟩ (.slice x1 l.length d1)).heap[w.heap.size + 1]? = some (.cells #[.int .i64 0, .int .i64 0, .int .i64 0, .int .i64 0, .slice none 0 0] 52)) := ((Below.heap_setCell _ _ _ _ (fun e => by simp only at e; omega)).trans ((Below.heap_setCell _ _ _ _ (fun e => by simp only at e; omega)).trans ((Below.heap_setCell _ _ _ _ (fun e => by simp only at e; omega)).trans ((Below.heap_setCell _ _ _ _ (fun e => by simp only at e; omega)).trans hz))))
  clear o1 b1 hx hz HC
  obtain ⟨y9, hy9⟩ : ∃ y, ((((u.setCell ⟨w.heap.size, 1, none⟩ (.int .i64 n1)).setCell ⟨w.heap.size, 2, none⟩ (.int .i64 n2)).setCell ⟨w.heap.size, 3, none⟩ (.int .i64 n3)).setCell ⟨w.heap.size, 4, none⟩ (.slice x1 l.length d1)) = y := ⟨_, rfl⟩
  rw [hy9] at HX3 HZ3 HB3 HO3
  have t0 : y9.cell? ⟨w.heap.size, 0, none⟩ = some (.int .i64 n0) := cell_of_heap (unhide HX3)
  have t1 : y9.cell? ⟨w.heap.size, 1, none⟩ = some (.int .i64 n1) := cell_of_heap (unhide HX3)
  have t2 : y9.cell? ⟨w.heap.size, 2, none⟩ = some (.int .i64 n2) := cell_of_heap (unhide HX3)
  have t3 : y9.cell? ⟨w.heap.size, 3, none⟩ = some (.int .i64 n3) := cell_of_heap (unhide HX3)
  have t4 : y9.cell? ⟨w.heap.size, 4, none⟩ = some (.slice x1 l.length d1) := cell_of_heap (unhide HX3)
  have z0 : y9.cell? ⟨w.heap.size + 1, 0, none⟩ = some (.int .i64 0) := cell_of_heap (unhide HZ3)
  have z1 : y9.cell? ⟨w.heap.size + 1, 1, none⟩ = some (.int .i64 0) := cell_of_heap (unhide HZ3)
  have z2 : y9.cell? ⟨w.heap.size + 1, 2, none⟩ = some (.int .i64 0) := cell_of_heap (unhide HZ3)
  have z3 : y9.cell? ⟨w.heap.size + 1, 3, none⟩ = some (.int .i64 0) := cell_of_heap (unhide HZ3)
  have z4 : y9.cell? ⟨w.heap.size + 1, 4, none⟩ = some (.slice none 0 0) := cell_of_heap (unhide HZ3)
  have fz : ∀ o, y9.frozen? ⟨w.heap.size + 1, o, none⟩ = false := fun o => frozen_of_heap (unhide HZ3)
  go_wp2_with (rw [hy9])
  refine bodyPost_ret (results_cell_row rfl _ _ (w.heap.size + 1) 52 #[.int .i64 n0, .int .i64 n1, .int .i64 n2, .int .i64 n3, .slice x1 l.length d1] (0, 0) _ rfl (setCell_heap (setCell_heap (setCell_heap (setCell_heap (setCell_heap (unhide HZ3)))))) Tryz.underlying52 rfl (by kernel_rfl)) rfl ?_
  exact ⟨_, rfl, ⟨_, rfl, ((((((unhide HO3).setR (by omega)).setR (by omega)).setR (by omega)).setR (by omega)).setR (by omega)).mono (by omega)⟩, ((((((unhide HB3).setCell (p := ⟨w.heap.size + 1, 0, none⟩) (by simp) _).setCell (p := ⟨w.heap.size + 1, 1, none⟩) (by simp) _).setCell (p := ⟨w.heap.size + 1, 2, none⟩) (by simp) _).setCell (p := ⟨w.heap.size + 1, 3, none⟩) (by simp) _).setCell (p := ⟨w.heap.size + 1, 4, none⟩) (by simp) _)⟩
end Go.Proofs.YtggllgimlfchhabGreat
