/- Several texts as one. -/
import Derived.Test.YtoddemcmmijoaaaNE
import Derived.Test.YtoddemcmmijoaaaKZ28
import Derived.Test.YtoddemcmmijoaaaKK

/- Record: CloneEntry. -/
namespace Go.Proofs.Ytoddemcmmijoaaa
open Go.RowKit Go.Deep
set_option maxRecDepth 100000

set_option maxHeartbeats 1600000 in
theorem cloneEntry_any (cs : Array Value) (t : EntD) (w : World) (hE : SeesE w cs t) (hm : t.txns.length ≤ 1256584717421) (hsm : ∀ x ∈ t.txns, SmallT x) :
    Calls Try.prog 31 #[.agg cs] w fun e w' => ∃ cs', e = .returned (.agg cs') ∧ OwnE w.heap.size w' cs' t ∧ Below w.heap.size w w' := by
  obtain ⟨n1, n2, n3, l⟩ := t
  obtain ⟨tv, rfl, k1⟩ := hE
  simp only at k1 hm hsm ⊢
  have K := hide k1
  obtain ⟨ac, cc, _, _, rfl, _⟩ := k1
  have hal : Below w.heap.size w ((w.alloc (.cells #[.int .i64 n1, .int .i64 n2, .int .i64 n3, .slice ac l.length cc] 33)).alloc (.cells #[.int .i64 0, .int .i64 0, .int .i64 0, .slice none 0 0] 33)) := ((Below.refl _ _).alloc (Nat.le_refl _) _).alloc (by simp) _
  have e0 : (w.alloc (.cells #[.int .i64 n1, .int .i64 n2, .int .i64 n3, .slice ac l.length cc] 33)).heap.size = w.heap.size + 1 := by simp
  have hx0 : ((w.alloc (.cells #[.int .i64 n1, .int .i64 n2, .int .i64 n3, .slice ac l.length cc] 33)).alloc (.cells #[.int .i64 0, .int .i64 0, .int .i64 0, .slice none 0 0] 33)).heap[w.heap.size]? = some (.cells #[.int .i64 n1, .int .i64 n2, .int .i64 n3, .slice ac l.length cc] 33) := (Below.heap_alloc _ _ _ (by simp)).trans (heap_alloc_new w _)
  have hz0 : ((w.alloc (.cells #[.int .i64 n1, .int .i64 n2, .int .i64 n3, .slice ac l.length cc] 33)).alloc (.cells #[.int .i64 0, .int .i64 0, .int .i64 0, .slice none 0 0] 33)).heap[w.heap.size + 1]? = some (.cells #[.int .i64 0, .int .i64 0, .int .i64 0, .slice none 0 0] 33) := by have := heap_alloc_new (w.alloc (.cells #[.int .i64 n1, .int .i64 n2, .int .i64 n3, .slice ac l.length cc] 33)) (.cells #[.int .i64 0, .int .i64 0, .int .i64 0, .slice none 0 0] 33); rw [e0] at this; exact this
  have hs0 : w.heap.size + 2 ≤ ((w.alloc (.cells #[.int .i64 n1, .int .i64 n2, .int .i64 n3, .slice ac l.length cc] 33)).alloc (.cells #[.int .i64 0, .int .i64 0, .int .i64 0, .slice none 0 0] 33)).heap.size := by simp
  have HX := hide hx0
  have HZ := hide hz0
  have HS := hide hs0
  have HB := hide hal
  have HC := hide (cloneList_any _ l _ ((unhide K).below hal) hm hsm)
  clear hal e0 hx0 hz0 hs0 hsm
  go_enter Try.func31, Try.ntmps31
  go_wp2_with fail
  refine (unhide HC).mono ?_
  rintro e u ⟨v, rfl, o1, b1⟩
  obtain ⟨x1, d1, rfl⟩ := o1.shape
  have hx : u.heap[w.heap.size]? = some (.cells #[.int .i64 n1, .int .i64 n2, .int .i64 n3, .slice ac l.length cc] 33) := (b1.block _ (by have := unhide HS; omega)).trans (unhide HX)
  have hz : u.heap[w.heap.size + 1]? = some (.cells #[.int .i64 0, .int .i64 0, .int .i64 0, .slice none 0 0] 33) := (b1.block _ (by have := unhide HS; omega)).trans (unhide HZ)
  have k3 : u.cell? ⟨w.heap.size, 3, none⟩ = some (.slice ac l.length cc) := cell_of_heap hx
  have f3 : ∀ o, u.frozen? ⟨w.heap.size, o, none⟩ = false := fun o => frozen_of_heap hx
  have HB3 : Hid (Below w.heap.size w (u.setCell ⟨w.heap.size, 3, none⟩ (.slice x1 l.length d1))) := ((unhide HB).trans (b1.mono (unhide HB).size)).setCell (p := ⟨w.heap.size, 3, none⟩) (Nat.le_refl _) _
  have HO3 : Hid (OwnTs (w.heap.size + 2) (u.setCell ⟨w.heap.size, 3, none⟩ (.slice x1 l.length d1)) (.slice x1 l.length d1) l) := (o1.mono (unhide HS)).setR (by omega)
  have HX3 : Hid ((u.setCell ⟨w.heap.size, 3, none⟩ (.slice x1 l.length d1)).heap[w.heap.size]? = some (.cells #[.int .i64 n1, .int .i64 n2, .int .i64 n3, .slice x1 l.length d1] 33)) := setCell_heap hx
  have HZ3 : Hid ((u.setCell ⟨w.heap.size, 3, none⟩ (.slice x1 l.length d1)).heap[w.heap.size + 1]? = some (.cells #[.int .i64 0, .int .i64 0, .int .i64 0, .slice none 0 0] 33)) := (Below.heap_setCell _ _ _ _ (fun e => by simp only at e; omega)).trans hz
  clear o1 b1 hx hz HC
  obtain ⟨y9, hy9⟩ : ∃ y, (u.setCell ⟨w.heap.size, 3, none⟩ (.slice x1 l.length d1)) = y := ⟨_, rfl⟩
  rw [hy9] at HX3 HZ3 HB3 HO3
  have t0 : y9.cell? ⟨w.heap.size, 0, none⟩ = some (.int .i64 n1) := cell_of_heap (unhide HX3)
  have t1 : y9.cell? ⟨w.heap.size, 1, none⟩ = some (.int .i64 n2) := cell_of_heap (unhide HX3)
  have t2 : y9.cell? ⟨w.heap.size, 2, none⟩ = some (.int .i64 n3) := cell_of_heap (unhide HX3)
  have t3 : y9.cell? ⟨w.heap.size, 3, none⟩ = some (.slice x1 l.length d1) := cell_of_heap (unhide HX3)
  have z0 : y9.cell? ⟨w.heap.size + 1, 0, none⟩ = some (.int .i64 0) := cell_of_heap (unhide HZ3)
  have z1 : y9.cell? ⟨w.heap.size + 1, 1, none⟩ = some (.int .i64 0) := cell_of_heap (unhide HZ3)
  have z2 : y9.cell? ⟨w.heap.size + 1, 2, none⟩ = some (.int .i64 0) := cell_of_heap (unhide HZ3)
  have z3 : y9.cell? ⟨w.heap.size + 1, 3, none⟩ = some (.slice none 0 0) := cell_of_heap (unhide HZ3)
  have fz : ∀ o, y9.frozen? ⟨w.heap.size + 1, o, none⟩ = false := fun o => frozen_of_heap (unhide HZ3)
  go_wp2_with (rw [hy9])
  refine bodyPost_ret (results_cell_row rfl _ _ (w.heap.size + 1) 33 #[.int .i64 n1, .int .i64 n2, .int .i64 n3, .slice x1 l.length d1] (0, 0) _ rfl (setCell_heap (setCell_heap (setCell_heap (setCell_heap (unhide HZ3))))) Try.underlying33 rfl (by kernel_rfl)) rfl ?_
  exact ⟨_, rfl, ⟨_, rfl, (((((unhide HO3).setR (by omega)).setR (by omega)).setR (by omega)).setR (by omega)).mono (by omega)⟩, ((((unhide HB3).setCell (p := ⟨w.heap.size + 1, 0, none⟩) (by simp) _).setCell (p := ⟨w.heap.size + 1, 1, none⟩) (by simp) _).setCell (p := ⟨w.heap.size + 1, 2, none⟩) (by simp) _).setCell (p := ⟨w.heap.size + 1, 3, none⟩) (by simp) _⟩
end Go.Proofs.Ytoddemcmmijoaaa

/- Record: cloneTermed. -/
namespace Go.Proofs.Ytoddemcmmijoaaa
open Go.RowKit Go.Deep
set_option maxRecDepth 100000

def OwnTm (base : Nat) (w : World) (cs : Array Value) (x : TmD) : Prop := ∃ tv, cs = #[.int .i64 x.term, .int .i64 x.ent.kind, .int .i64 x.ent.frm, .int .i64 x.ent.num, tv] ∧ OwnTs base w tv x.ent.txns

set_option maxHeartbeats 1600000 in
theorem cloneTermed_any (cs : Array Value) (t : TmD) (w : World) (hE : SeesTm w cs t) (hm : t.ent.txns.length ≤ 1256584717421) (hsm : ∀ x ∈ t.ent.txns, SmallT x) :
    Calls Try.prog 30 #[.agg cs] w fun e w' => ∃ cs', e = .returned (.agg cs') ∧ OwnTm w.heap.size w' cs' t ∧ Below w.heap.size w w' := by
  obtain ⟨n0, n1, n2, n3, l⟩ := t
  obtain ⟨tv, rfl, k1⟩ := hE
  simp only at k1 hm hsm ⊢
  have K := hide k1
  obtain ⟨ac, cc, _, _, rfl, _⟩ := k1
  have hal : Below w.heap.size w ((w.alloc (.cells #[.int .i64 n0, .int .i64 n1, .int .i64 n2, .int .i64 n3, .slice ac l.length cc] 71)).alloc (.cells #[.int .i64 0, .int .i64 0, .int .i64 0, .int .i64 0, .slice none 0 0] 71)) := ((Below.refl _ _).alloc (Nat.le_refl _) _).alloc (by simp) _
  have e0 : (w.alloc (.cells #[.int .i64 n0, .int .i64 n1, .int .i64 n2, .int .i64 n3, .slice ac l.length cc] 71)).heap.size = w.heap.size + 1 := by simp
  have hx0 : ((w.alloc (.cells #[.int .i64 n0, .int .i64 n1, .int .i64 n2, .int .i64 n3, .slice ac l.length cc] 71)).alloc (.cells #[.int .i64 0, .int .i64 0, .int .i64 0, .int .i64 0, .slice none 0 0] 71)).heap[w.heap.size]? = some (.cells #[.int .i64 n0, .int .i64 n1, .int .i64 n2, .int .i64 n3, .slice ac l.length cc] 71) := (Below.heap_alloc _ _ _ (by simp)).trans (heap_alloc_new w _)
  have hz0 : ((w.alloc (.cells #[.int .i64 n0, .int .i64 n1, .int .i64 n2, .int .i64 n3, .slice ac l.length cc] 71)).alloc (.cells #[.int .i64 0, .int .i64 0, .int .i64 0, .int .i64 0, .slice none 0 0] 71)).heap[w.heap.size + 1]? = some (.cells #[.int .i64 0, .int .i64 0, .int .i64 0, .int .i64 0, .slice none 0 0] 71) := by have := heap_alloc_new (w.alloc (.cells #[.int .i64 n0, .int .i64 n1, .int .i64 n2, .int .i64 n3, .slice ac l.length cc] 71)) (.cells #[.int .i64 0, .int .i64 0, .int .i64 0, .int .i64 0, .slice none 0 0] 71); rw [e0] at this; exact this
  have hs0 : w.heap.size + 2 ≤ ((w.alloc (.cells #[.int .i64 n0, .int .i64 n1, .int .i64 n2, .int .i64 n3, .slice ac l.length cc] 71)).alloc (.cells #[.int .i64 0, .int .i64 0, .int .i64 0, .int .i64 0, .slice none 0 0] 71)).heap.size := by simp
  have HX := hide hx0
  have HZ := hide hz0
  have HS := hide hs0
  have HB := hide hal
  have HC := hide (cloneEntry_any _ ⟨n1, n2, n3, l⟩ _ ⟨_, rfl, (unhide K).below hal⟩ hm hsm)
  clear hal e0 hx0 hz0 hs0 hsm
  go_enter Try.func30, Try.ntmps30
  go_wp2_with fail
  refine (unhide HC).mono ?_
  rintro e u ⟨cs', rfl, ⟨tv', rfl, o1⟩, b1⟩
  obtain ⟨x1, d1, rfl⟩ := o1.shape
  simp only at o1 ⊢
  have hx : u.heap[w.heap.size]? = some (.cells #[.int .i64 n0, .int .i64 n1, .int .i64 n2, .int .i64 n3, .slice ac l.length cc] 71) := (b1.block _ (by have := unhide HS; omega)).trans (unhide HX)
  have hz : u.heap[w.heap.size + 1]? = some (.cells #[.int .i64 0, .int .i64 0, .int .i64 0, .int .i64 0, .slice none 0 0] 71) := (b1.block _ (by have := unhide HS; omega)).trans (unhide HZ)
  have k1 : u.cell? ⟨w.heap.size, 1, none⟩ = some (.int .i64 n1) := cell_of_heap hx
  have k2 : u.cell? ⟨w.heap.size, 2, none⟩ = some (.int .i64 n2) := cell_of_heap hx
  have k3 : u.cell? ⟨w.heap.size, 3, none⟩ = some (.int .i64 n3) := cell_of_heap hx
  have k4 : u.cell? ⟨w.heap.size, 4, none⟩ = some (.slice ac l.length cc) := cell_of_heap hx
  have f3 : ∀ o, u.frozen? ⟨w.heap.size, o, none⟩ = false := fun o => frozen_of_heap hx
  have HB3 : Hid (Below w.heap.size w ((((u.setCell ⟨w.heap.size, 1, none⟩ (.int .i64 n1)).setCell ⟨w.heap.size, 2, none⟩ (.int .i64 n2)).setCell ⟨w.heap.size, 3, none⟩ (.int .i64 n3)).setCell ⟨w.heap.size, 4, none⟩ (.slice x1 l.length d1))) := ((((((unhide HB).trans (b1.mono (unhide HB).size)).setCell (p := ⟨w.heap.size, 1, none⟩) (Nat.le_refl _) _).setCell (p := ⟨w.heap.size, 2, none⟩) (Nat.le_refl _) _).setCell (p := ⟨w.heap.size, 3, none⟩) (Nat.le_refl _) _).setCell (p := ⟨w.heap.size, 4, none⟩) (Nat.le_refl _) _)
  have HO3 : Hid (OwnTs (w.heap.size + 2) ((((u.setCell ⟨w.heap.size, 1, none⟩ (.int .i64 n1)).setCell ⟨w.heap.size, 2, none⟩ (.int .i64 n2)).setCell ⟨w.heap.size, 3, none⟩ (.int .i64 n3)).setCell ⟨w.heap.size, 4, none⟩ (.slice x1 l.length d1)) (.slice x1 l.length d1) l) := (((((o1.mono (unhide HS)).setR (by omega)).setR (by omega)).setR (by omega)).setR (by omega))
  have HX3 : Hid (((((u.setCell ⟨w.heap.size, 1, none⟩ (.int .i64 n1)).setCell ⟨w.heap.size, 2, none⟩ (.int .i64 n2)).setCell ⟨w.heap.size, 3, none⟩ (.int .i64 n3)).setCell ⟨w.heap.size, 4, none⟩ (.slice x1 l.length d1)).heap[w.heap.size]? = some (.cells #[.int .i64 n0, .int .i64 n1, .int .i64 n2, .int .i64 n3, .slice x1 l.length d1] 71)) := (setCell_heap (setCell_heap (setCell_heap (setCell_heap hx))))
  have HZ3 : Hid (((((u.setCell ⟨w.heap.size, 1, none⟩ (.int .i64 n1)).setCell ⟨w.heap.size, 2, none⟩ (.int .i64 n2)).setCell ⟨w.heap.size, 3, none⟩ (.int .i64 n3)).setCell ⟨w.heap.size, 4, none⟩ (.slice x1 l.length d1)).heap[w.heap.size + 1]? = some (.cells #[.int .i64 0, .int .i64 0, .int .i64 0, .int .i64 0, .slice none 0 0] 71)) := ((Below.heap_setCell _ _ _ _ (fun e => by simp only at e; omega)).trans ((Below.heap_setCell _ _ _ _ (fun e => by simp only at e; omega)).trans ((Below.heap_setCell _ _ _ _ (fun e => by simp only at e; omega)).trans ((Below.heap_setCell _ _ _ _ (fun e => by simp only at e; omega)).trans hz))))
  clear o1 b1 hx hz HC
  obtain ⟨y9, hy9⟩ : ∃ y, ((((u.setCell ⟨w.heap.size, 1, none⟩ (.int .i64 n1)).setCell ⟨w.heap.size, 2, none⟩ (.int .i64 n2)).setCell ⟨w.heap.size, 3, none⟩ (.int .i64 n3)).setCell ⟨w.heap.size, 4, none⟩ (.slice x1 l.length d1)) = y := ⟨_, rfl⟩
  rw [hy9] at HX3 HZ3 HB3 HO3
  have t0 : y9.cell? ⟨w.heap.size, 0, none⟩ = some (.int .i64 n0) := cell_of_heap (unhide HX3)
  have t1 : y9.cell? ⟨w.heap.size, 1, none⟩ = some (.int .i64 n1) := cell_of_heap (unhide HX3)
  have t2 : y9.cell? ⟨w.heap.size, 2, none⟩ = some (.int .i64 n2) := cell_of_heap (unhide HX3)
  have t3 : y9.cell? ⟨w.heap.size, 3, none⟩ = some (.int .i64 n3) := cell_of_heap (unhide HX3)
  have t4 : y9.cell? ⟨w.heap.size, 4, none⟩ = some (.slice x1 l.length d1) := cell_of_heap (unhide HX3)
  have z0 : y9.cell? ⟨w.heap.size + 1, 0, none⟩ = some (.int .i64 0) := cell_of_heap (unhide HZ3)
  have z1 : y9.cell? ⟨w.heap.size + 1, 1, none⟩ = some (.int .i64 0) := cell_of_heap (unhide HZ3)
  have z2 : y9.cell? ⟨w.heap.size + 1, 2, none⟩ = some (.int .i64 0) := cell_of_heap (unhide HZ3)
  have z3 : y9.cell? ⟨w.heap.size + 1, 3, none⟩ = some (.int .i64 0) := cell_of_heap (unhide HZ3)
  have z4 : y9.cell? ⟨w.heap.size + 1, 4, none⟩ = some (.slice none 0 0) := cell_of_heap (unhide HZ3)
  have fz : ∀ o, y9.frozen? ⟨w.heap.size + 1, o, none⟩ = false := fun o => frozen_of_heap (unhide HZ3)
  go_wp2_with (rw [hy9])
  refine bodyPost_ret (results_cell_row rfl _ _ (w.heap.size + 1) 71 #[.int .i64 n0, .int .i64 n1, .int .i64 n2, .int .i64 n3, .slice x1 l.length d1] (0, 0) _ rfl (setCell_heap (setCell_heap (setCell_heap (setCell_heap (setCell_heap (unhide HZ3)))))) Try.underlying71 rfl (by kernel_rfl)) rfl ?_
  exact ⟨_, rfl, ⟨_, rfl, ((((((unhide HO3).setR (by omega)).setR (by omega)).setR (by omega)).setR (by omega)).setR (by omega)).mono (by omega)⟩, ((((((unhide HB3).setCell (p := ⟨w.heap.size + 1, 0, none⟩) (by simp) _).setCell (p := ⟨w.heap.size + 1, 1, none⟩) (by simp) _).setCell (p := ⟨w.heap.size + 1, 2, none⟩) (by simp) _).setCell (p := ⟨w.heap.size + 1, 3, none⟩) (by simp) _).setCell (p := ⟨w.heap.size + 1, 4, none⟩) (by simp) _)⟩
end Go.Proofs.Ytoddemcmmijoaaa
