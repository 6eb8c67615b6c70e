/- New, and the document's. -/
import Derived.Test.YtpadbbkklmgimaaR1
namespace Go.Proofs.Ytpadbbkklmgimaa
open Go.RowKit

theorem isV_block {w : World} {h : Nat} {V : Vt} (hb : w.heap[h]? = some (.cells #[.int .i64 V.n, .int .i64 V.self, .int .i64 V.term, .int .i64 V.voted, .bool (V.vt 0), .bool (V.vt 1), .bool (V.vt 2), .bool (V.vt 3), .bool (V.vt 4)] 58 (0, 0))) : IsV w h V := by
  have c := fun o => cell_of_row w h o _ _ _ hb
  refine ⟨c 0, c 1, c 2, c 3, fun i hi => ?_, fun o => by unfold World.frozen?; rw [hb]; simp⟩
  rcases (show i = 0 ∨ i = 1 ∨ i = 2 ∨ i = 3 ∨ i = 4 by omega) with rfl | rfl | rfl | rfl | rfl
  · exact c 4
  · exact c 5
  · exact c 6
  · exact c 7
  · exact c 8
theorem isV_new {W : World} (y : World) (h : Nat) (V : Vt) (hh : y.heap.size = h) (hW : W = y.alloc (.cells #[.int .i64 V.n, .int .i64 V.self, .int .i64 V.term, .int .i64 V.voted, .bool (V.vt 0), .bool (V.vt 1), .bool (V.vt 2), .bool (V.vt 3), .bool (V.vt 4)] 58)) : IsV W h V := by
  subst hh hW
  exact isV_block (heap_alloc_new _ _)
theorem isR_blocks {w : World} {r b cap : Nat} {V : Vt} {cur : Array Value} {e : TypeId} (hne : r ≠ b) (hfit : V.n ≤ cap) (hr : w.heap[r]? = some (.cells #[.int .i64 V.n, .int .i64 V.self, .int .i64 V.term, .int .i64 V.voted, .bool (V.vt V.self), .slice (some ⟨b, 0, none⟩) V.n cap] 69 (0, 0))) (hb : w.heap[b]? = some (.cells cur e (0, 0))) (hv : ∀ i, i < V.n → cur[i]? = some (.bool (V.vt i))) : IsR w r b cap V := by
  have c := fun o => cell_of_row w r o _ _ _ hr
  have d := fun o => cell_of_row w b o _ _ _ hb
  exact ⟨hne, hfit, c 0, c 1, c 2, c 3, c 4, c 5, fun i hi => (d i).trans (hv i hi), fun o => by unfold World.frozen?; rw [hr]; simp, fun o => by unfold World.frozen?; rw [hb]; simp⟩
theorem isR_new (y : World) (b r cap n s : Nat) (t v : Int) (cur : Array Value) (hne : r ≠ b) (hh : y.heap.size = r) (hlt : b < y.heap.size) (hfit : n ≤ cap) (hb : y.heap[b]? = some (.cells cur 4 (0, 0))) (hv : ∀ i, i < n → cur[i]? = some (.bool false)) :
    IsR (y.alloc (.cells #[.int .i64 n, .int .i64 s, .int .i64 t, .int .i64 v, .bool false, .slice (some ⟨b, 0, none⟩) n cap] 69)) r b cap ⟨n, s, t, v, fun _ => false⟩ := by
  subst hh
  exact isR_blocks hne hfit (heap_alloc_new _ _) ((Below.heap_alloc _ _ _ hlt).trans hb) hv
/-- The document's vote was made anew: its struct and its votes lie in blocks that are not below N. -/
def NewR (w : World) (N : Nat) (V : Vt) : Prop := ∃ b cap, IsR w (N + 2) b cap V ∧ N ≤ b

/-- What New takes. -/
def okNew (n s t v : Int) : Bool := decide (1 ≤ n) && decide (n ≤ 5) && decide (0 ≤ s) && decide (s < n) && decide (0 ≤ t) && decide (t ≤ 1099511627776) && decide (-1 ≤ v) && decide (v < n)

def Vt.new (n s : Nat) (t v : Int) : Vt := ⟨n, s, t, v, fun _ => false⟩

set_option maxHeartbeats 400000 in
theorem new_ok (w : World) (n s : Nat) (t v : Int) (h0 : 1 ≤ n) (h1 : n ≤ 5) (h3 : s < n) (h4 : 0 ≤ t) (h5 : t ≤ 1099511627776) (h6 : -1 ≤ v) (h7 : v < n) :
    Calls Try.prog 6 #[.agg #[.int .i64 n, .int .i64 s], .int .i64 t, .int .i64 v] w fun e w' => e = .returned (.tuple #[P0 (w.heap.size + 1), .int .i64 0]) ∧ IsV w' (w.heap.size + 1) (Vt.new n s t v) ∧ Below w.heap.size w w' := by
  go_enter Try.func6, Try.ntmps6
  go_wp2
  go_ret2
  refine ⟨rfl, isV_new _ _ _ (by simp) rfl, ((Below.refl _ _).alloc (Nat.le_refl _) _).alloc (by simp) _⟩

set_option maxHeartbeats 400000 in
theorem new_arg (w : World) (n s t v : Int) (h : okNew n s t v = false) :
    Calls Try.prog 6 #[.agg #[.int .i64 n, .int .i64 s], .int .i64 t, .int .i64 v] w fun e w' => e = .returned (.tuple #[.pointer none, .int .i64 1]) ∧ Below w.heap.size w w' := by
  have hc : n < 1 ∨ (1 ≤ n ∧ 5 < n) ∨ (1 ≤ n ∧ n ≤ 5 ∧ s < 0) ∨ (1 ≤ n ∧ n ≤ 5 ∧ 0 ≤ s ∧ n ≤ s) ∨ (1 ≤ n ∧ n ≤ 5 ∧ 0 ≤ s ∧ s < n ∧ t < 0) ∨ (1 ≤ n ∧ n ≤ 5 ∧ 0 ≤ s ∧ s < n ∧ 0 ≤ t ∧ 1099511627776 < t) ∨ (1 ≤ n ∧ n ≤ 5 ∧ 0 ≤ s ∧ s < n ∧ 0 ≤ t ∧ t ≤ 1099511627776 ∧ v < -1) ∨ (1 ≤ n ∧ n ≤ 5 ∧ 0 ≤ s ∧ s < n ∧ 0 ≤ t ∧ t ≤ 1099511627776 ∧ -1 ≤ v ∧ n ≤ v) := by
    simp only [okNew, Bool.and_eq_false_iff, decide_eq_false_iff_not] at h
    omega
  clear h
  rcases hc with c | ⟨c, c1⟩ | ⟨c, c1, c2⟩ | ⟨c, c1, c2, c3⟩ | ⟨c, c1, c2, c3, c4⟩ | ⟨c, c1, c2, c3, c4, c5⟩ | ⟨c, c1, c2, c3, c4, c5, c6⟩ | ⟨c, c1, c2, c3, c4, c5, c6, c7⟩
  all_goals
    go_enter Try.func6, Try.ntmps6
    go_wp2
    go_ret2
    exact ⟨rfl, (Below.refl _ _).alloc (Nat.le_refl _) _⟩

set_option maxHeartbeats 800000 in
theorem rnew_ok (w : World) (n s : Nat) (t v : Int) (h0 : 1 ≤ n) (h1 : n ≤ 5) (h3 : s < n) (h4 : 0 ≤ t) (h5 : t ≤ 1099511627776) (h6 : -1 ≤ v) (h7 : v < n) :
    Calls Try.prog 7 #[.agg #[.int .i64 n, .int .i64 s], .int .i64 t, .int .i64 v] w fun e w' => e = .returned (.tuple #[P0 (w.heap.size + 2), .int .i64 0]) ∧ NewR w' w.heap.size (Vt.new n s t v) ∧ Below w.heap.size w w' := by
  have hmk := makeB n h1
  go_enter Try.func7, Try.ntmps7
  go_wp2
  go_region
  all_goals
    go_wp2
    go_ret2
    refine ⟨rfl, ⟨w.heap.size + 1, n, ?_, by omega⟩, ((((Below.refl _ _).alloc (Nat.le_refl _) _).alloc (by simp) _).alloc (by simp; omega) _).drew⟩
    refine (isR_new _ (w.heap.size + 1) (w.heap.size + 2) n n s t v (zB n) (by omega) (by simp) (by simp) (Nat.le_refl _) ?_ (fun i hi => zB_at n i hi)).keepB rfl rfl
    have := heap_alloc_new (w.alloc (.cells #[.int .i64 n, .int .i64 s] 23)) (.cells (zB n) 4)
    rw [World.size_alloc] at this
    exact this

set_option maxHeartbeats 400000 in
theorem rnew_arg (w : World) (n s t v : Int) (h : okNew n s t v = false) :
    Calls Try.prog 7 #[.agg #[.int .i64 n, .int .i64 s], .int .i64 t, .int .i64 v] w fun e w' => e = .returned (.tuple #[.pointer none, .int .i64 1]) ∧ Below w.heap.size w w' := by
  have hc : n < 1 ∨ (1 ≤ n ∧ 5 < n) ∨ (1 ≤ n ∧ n ≤ 5 ∧ s < 0) ∨ (1 ≤ n ∧ n ≤ 5 ∧ 0 ≤ s ∧ n ≤ s) ∨ (1 ≤ n ∧ n ≤ 5 ∧ 0 ≤ s ∧ s < n ∧ t < 0) ∨ (1 ≤ n ∧ n ≤ 5 ∧ 0 ≤ s ∧ s < n ∧ 0 ≤ t ∧ 1099511627776 < t) ∨ (1 ≤ n ∧ n ≤ 5 ∧ 0 ≤ s ∧ s < n ∧ 0 ≤ t ∧ t ≤ 1099511627776 ∧ v < -1) ∨ (1 ≤ n ∧ n ≤ 5 ∧ 0 ≤ s ∧ s < n ∧ 0 ≤ t ∧ t ≤ 1099511627776 ∧ -1 ≤ v ∧ n ≤ v) := by
    simp only [okNew, Bool.and_eq_false_iff, decide_eq_false_iff_not] at h
    omega
  clear h
  rcases hc with c | ⟨c, c1⟩ | ⟨c, c1, c2⟩ | ⟨c, c1, c2, c3⟩ | ⟨c, c1, c2, c3, c4⟩ | ⟨c, c1, c2, c3, c4, c5⟩ | ⟨c, c1, c2, c3, c4, c5, c6⟩ | ⟨c, c1, c2, c3, c4, c5, c6, c7⟩
  all_goals
    go_enter Try.func7, Try.ntmps7
    go_wp2
    go_ret2
    exact ⟨rfl, (Below.refl _ _).alloc (Nat.le_refl _) _⟩
end Go.Proofs.Ytpadbbkklmgimaa
