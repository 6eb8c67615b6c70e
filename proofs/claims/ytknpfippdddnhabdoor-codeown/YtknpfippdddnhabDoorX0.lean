/- Appending one byte to a row of one's own; what else there is stays. -/
import Derived.Test.YtknpfippdddnhabDoorW9
namespace Go.Proofs.YtknpfippdddnhabDoor
open Go.RowKit Go.Shelf
set_option maxRecDepth 100000

/-- Blocks of other types than e stay as they are. -/
def Oth (e : Nat) (w w' : World) : Prop := ∀ (k : Nat) (cs : Array Value) (T : TypeId), T ≠ e → w.heap[k]? = some (.cells cs T) → w'.heap[k]? = some (.cells cs T)
theorem Oth.refl (e : Nat) (w : World) : Oth e w w := fun _ _ _ _ h => h
theorem Oth.trans {e : Nat} {a b c : World} (h : Oth e a b) (g : Oth e b c) : Oth e a c := fun k cs T ht hk => g k cs T ht (h k cs T ht hk)
theorem Oth.of {e : Nat} {a b : World} (h : Below a.heap.size a b) : Oth e a b := fun k _ _ _ hk => (h.block k (Array.getElem?_eq_some_iff.1 hk).1).trans hk
theorem RT.appG {α : Type} {c : α → List Value} {k T e by_ : Nat} (R : RT c k T e by_) {w : World} {base : Nat} {v v2 : Value} {n : Nat} {l l2 : List α} (ty : TypeId) (hown : w.ownsRow base e k v n (l.flatMap c)) (hs : SeesL c k w v2 l2) (hm : n + l2.length ≤ 9223372036854775807) (hl : (n + l2.length) * by_ ≤ 140737488355328) (hbase : base ≤ w.heap.size) :
    ∃ ao cap w', (Builtin.append_ #[T, T] ty #[v, v2]).run Tryd.prog w = .ok (.slice ao (n + l2.length) cap) w' ∧ w'.ownsRow base e k (.slice ao (n + l2.length) cap) (n + l2.length) ((l ++ l2).flatMap c) ∧ Below base w w' ∧ Oth e w w' := by
  obtain ⟨i, z, hi, hz, hs1, hb, hzs⟩ := R.info
  obtain ⟨v', w', h1, h2, h3⟩ := run_append_L R.len R.one base T ty e i z by_ R.und hi hz hs1 hb hzs R.pos hown hs (by unfold maxLen; omega) hl hbase
  obtain ⟨ao, cap, hv⟩ := own_shape h2
  subst hv
  rw [List.flatMap_append]
  refine ⟨ao, cap, w', h1, h2, (Below.refl _ _).grown h3 hbase (own_block_le hown), fun k cs T' ht hk => ?_⟩
  rw [h3.block k (Array.getElem?_eq_some_iff.1 hk).1 ?_]
  · exact hk
  · intro ho
    rcases hown.2 with ⟨rfl, _⟩ | ⟨g, cap', cur', rfl, _, hgg, _⟩
    · simp [Value.ownBlock] at ho
    · simp [Value.ownBlock] at ho
      subst ho
      rw [hgg] at hk
      simp at hk
      exact ht hk.2.symm
theorem sees_oneY (w : World) (x : Int) : SeesL yC 1 (w.alloc (.cells #[.int .u8 x] 5)) (.slice (some ⟨w.heap.size, 0, none⟩) 1 1) [x] := by
  refine ⟨_, 1, w.heap.size, 0, rfl, by simp, by simp, (fun h => by cases h), fun _ => rfl, fun t y hy j hj => ?_⟩
  obtain ⟨ht, rfl⟩ := List.getElem?_eq_some_iff.1 hy
  obtain rfl : t = 0 := by simpa using ht
  obtain rfl : j = 0 := by omega
  rw [cell_at (heap_alloc_new w _)]
  rfl
/-- append(b, x). -/
theorem app1 {w : World} {base n : Nat} {v : Value} {L : List Int} (x : Int) (ho : w.ownsRow base 5 1 v n (L.flatMap yC)) (hn : n + 1 ≤ 140737488355328) (hb : base ≤ w.heap.size) :
    ∃ ao cap w', (Builtin.append_ #[22, 22] 22 #[v, .slice (some ⟨w.heap.size, 0, none⟩) 1 1]).run Tryd.prog (w.alloc (.cells #[.int .u8 x] 5)) = .ok (.slice ao (n + 1) cap) w' ∧ w'.ownsRow base 5 1 (.slice ao (n + 1) cap) (n + 1) ((L ++ [x]).flatMap yC) ∧ Below base w w' ∧ Oth 5 w w' := by
  obtain ⟨ao, cap, w', h1, h2, h3, h4⟩ := rtY.appG (l := L) 22 (ho.alloc (.cells #[.int .u8 x] 5)) (sees_oneY w x) (by simp; omega) (by simp; omega) (by simp; omega)
  exact ⟨ao, cap, w', h1, h2, ((Below.refl _ _).alloc hb _).trans h3, (Oth.of (below_box _)).trans h4⟩
theorem own_drewN {w w' : World} {j base e s n : Nat} {v : Value} {xs : List Value} (h : w' = w.drewN j) (ho : w.ownsRow base e s v n xs) : w'.ownsRow base e s v n xs := by subst h; exact ho
theorem heap_drewN {w w' : World} {j k : Nat} {o : Obj} (h : w' = w.drewN j) (ho : w.heap[k]? = some o) : w'.heap[k]? = some o := by subst h; exact ho
end Go.Proofs.YtknpfippdddnhabDoor
