/- Reach: the marks. -/
import Derived.Test.YtknpfippdddnhabDoorY0
import Derived.Test.YtknpfippdddnhabDoorX0
namespace Go.Proofs.YtknpfippdddnhabDoor
open Go.RowKit Go.Shelf
set_option maxRecDepth 100000

theorem own_take {w : World} {base e k n m cap : Nat} {ao : Option Addr} {xs : List Value} (h : w.ownsRow base e k (.slice ao n cap) n xs) (hm : m ≤ n) (hn : ao ≠ none) : w.ownsRow base e k (.slice ao m cap) m (xs.take (m * k)) := by
  have hl := h.1
  refine ⟨by rw [List.length_take, hl]; exact Nat.min_eq_left (Nat.mul_le_mul_right k hm), ?_⟩
  rcases h.2 with ⟨h1, _⟩ | ⟨g, cap', cur, hv, hb, hg, hnc, hcm, hcs, ht⟩
  · simp only [Value.slice.injEq] at h1; exact absurd h1.1 hn
  · simp only [Value.slice.injEq, true_and] at hv
    obtain ⟨rfl, rfl⟩ := hv
    refine .inr ⟨g, cap, cur, rfl, hb, hg, by omega, hcm, hcs, ?_⟩
    rw [← ht, List.take_take, Nat.min_eq_left (Nat.mul_le_mul_right k hm)]
theorem flat_takeN (l : List Int) (m : Nat) : (l.flatMap nC).take (m * 1) = (l.take m).flatMap nC := by
  rw [Nat.mul_one]
  have e : ∀ l : List Int, l.flatMap nC = l.map fun x => .int .i64 x := fun l => by induction l with
    | nil => rfl
    | cons x r ih => rw [List.flatMap_cons, List.map_cons, ih]; rfl
  rw [e, e, List.map_take]
/-- Marks as an array. -/
def cmA (C : Nat → Bool) : Array Value := (Array.range 512).map fun (i : Nat) => .bool (C i)
theorem cmA_size (C : Nat → Bool) : (cmA C).size = 512 := by simp [cmA]
theorem cmA_get (C : Nat → Bool) (i : Nat) (h : i < 512) : (cmA C)[i]? = some (.bool (C i)) := by simp [cmA, h]
theorem cmA_none (C : Nat → Bool) (i : Nat) (h : 512 ≤ i) : (cmA C)[i]? = none := Array.getElem?_eq_none (by rw [cmA_size]; exact h)
theorem cmA_zero : Tryd.zeroCells59 = cmA fun _ => false := by kernel_rfl
theorem cmA_set (C : Nat → Bool) (p : Nat) (hp : p < 512) : (cmA C).setIfInBounds p (.bool true) = cmA (mk1 C p) := by
  refine Array.ext_getElem? fun i => ?_
  rw [Array.getElem?_setIfInBounds, cmA_size]
  by_cases hi : i < 512
  · rw [cmA_get _ i hi, cmA_get _ i hi]
    unfold mk1
    by_cases e : p = i
    · rw [if_pos e, if_pos hp, e]; simp
    · rw [if_neg e, decide_eq_false (show ¬ i = p by omega), Bool.or_false]
  · rw [cmA_none _ i (by omega), cmA_none _ i (by omega), if_neg (by omega)]
def isT : Option Value → Bool
  | some (.bool true) => true
  | _ => false
def cntZ (B : Nat) (z : World) : Nat := cnt fun i => isT (z.cell? ⟨B, i, none⟩)
theorem cntZ_eq {B : Nat} {z : World} {C : Nat → Bool} (h : z.heap[B]? = some (.cells (cmA C) 59)) : cntZ B z = cnt C := by
  unfold cntZ cnt
  congr 1
  refine List.filter_congr fun i hi => ?_
  have hi' : i < 512 := by simpa using hi
  rw [cell_at h, cmA_get C i hi']
  cases C i <;> rfl
def lenV : Value → Nat
  | .slice _ n _ => n
  | _ => 0
/-- Where the search stands: what is to do, what is marked. -/
structure RC (w : World) (l : List Int) (B : Nat) (z : World) (v : Value) (T : List Int) (C : Nat → Bool) : Prop where
  bel : Below w.heap.size w z
  wB : w.heap.size ≤ B
  own : z.ownsRow (B + 1) 3 1 v T.length (T.flatMap nC)
  come : z.heap[B]? = some (.cells (cmA C) 59)
  mark : ∀ p, C p = true → p < l.length ∧ Ok l p ∧ Rch l p
  todo : ∀ q ∈ T, 0 ≤ q ∧ Ok l q.toNat ∧ Rch l q.toNat
  shut : ∀ p, C p = true → ∀ q ∈ onw (rd l p), q.toNat = l.length ∨ C q.toNat = true ∨ q ∈ T
  zero : 0 = l.length ∨ C 0 = true ∨ 0 ∈ T
  len : T.length ≤ 2 * cnt C + 1
theorem RC.grew {w z z' : World} {l : List Int} {B : Nat} {v : Value} {T : List Int} {C : Nat → Bool} (h : RC w l B z v T C) (hb : Below z.heap.size z z') : RC w l B z' v T C :=
  ⟨h.bel.trans (hb.mono h.bel.size), h.wB, own_below h.own hb, (hb.block _ (Array.getElem?_eq_some_iff.1 h.come).1).trans h.come, h.mark, h.todo, h.shut, h.zero, h.len⟩
/-- One taken off that has nothing to be done. -/
theorem RC.skip {w z : World} {l : List Int} {B cap : Nat} {ao : Option Addr} {T : List Int} {p : Int} {C : Nat → Bool} (h : RC w l B z (.slice ao (T.length + 1) cap) (T ++ [p]) C) (hp : p.toNat = l.length ∨ C p.toNat = true) : RC w l B z (.slice ao T.length cap) T C := by
  have ho := h.own
  rw [List.length_append, List.length_singleton] at ho
  have hne : ao ≠ none := by
    rcases ho.2 with ⟨_, h1⟩ | ⟨g, _, _, hv, _⟩
    · omega
    · simp only [Value.slice.injEq] at hv; rw [hv.1]; simp
  refine ⟨h.bel, h.wB, ?_, h.come, h.mark, fun q hq => h.todo q (List.mem_append_left _ hq), fun r hr q hq => ?_, ?_, by have := h.len; simp at this; omega⟩
  · have := own_take ho (show T.length ≤ T.length + 1 by omega) hne
    rw [flat_takeN, List.take_left] at this
    exact this
  · rcases h.shut r hr q hq with h1 | h1 | h1
    · exact .inl h1
    · exact .inr (.inl h1)
    · rcases List.mem_append.1 h1 with h1 | h1
      · exact .inr (.inr h1)
      · obtain rfl : q = p := by simpa using h1
        exact hp.imp id .inl
  · rcases h.zero with h1 | h1 | h1
    · exact .inl h1
    · exact .inr (.inl h1)
    · rcases List.mem_append.1 h1 with h1 | h1
      · exact .inr (.inr h1)
      · obtain rfl : 0 = p := by simpa using h1
        exact hp.imp (fun e => by simpa using e) (fun e => .inl (by simpa using e))
/-- One taken off and marked, what follows it put to do. -/
theorem RC.mark1 {w z z2 : World} {l : List Int} {B cap : Nat} {ao : Option Addr} {T : List Int} {p : Nat} {C : Nat → Bool} {v2 : Value} (hby : Byt l) (hdec : (dec l).2 = 0) (h : RC w l B z (.slice ao (T.length + 1) cap) (T ++ [(p : Int)]) C) (hp : p < l.length) (hc : C p = false) (hb2 : Below z.heap.size (z.setCell ⟨B, p, none⟩ (.bool true)) z2) (hs : SeesL nC 1 z2 v2 (onw (rd l p))) :
    ∃ a3 c3 z3, (Builtin.append_ #[53, 53] 53 #[.slice ao T.length cap, v2]).run Tryd.prog z2 = .ok (.slice a3 (T.length + (onw (rd l p)).length) c3) z3 ∧ RC w l B z3 (.slice a3 (T.length + (onw (rd l p)).length) c3) (T ++ onw (rd l p)) (mk1 C p) := by
  have hl512 := (dec_ok hdec).1
  have ho := h.own
  rw [List.length_append, List.length_singleton] at ho
  have hne : ao ≠ none := by
    rcases ho.2 with ⟨_, h1⟩ | ⟨g, _, _, hv, _⟩
    · omega
    · simp only [Value.slice.injEq] at hv; rw [hv.1]; simp
  have ho2 := own_take ho (show T.length ≤ T.length + 1 by omega) hne
  rw [flat_takeN, List.take_left] at ho2
  have hBz := (Array.getElem?_eq_some_iff.1 h.come).1
  have hsz : (z.setCell ⟨B, p, none⟩ (.bool true)).heap.size = z.heap.size := by simp [World.setCell]
  have ho3 : z2.ownsRow (B + 1) 3 1 (.slice ao T.length cap) T.length (T.flatMap nC) := own_below (ownsRow_setCell_below ho2 (a := ⟨B, p, none⟩) (by show B < B + 1; omega) (.bool true)) (by rw [hsz]; exact hb2)
  have hcnt := cnt_le C
  have hlen := h.len
  have hol := onw_len (rd l p)
  simp only [List.length_append, List.length_singleton] at hlen
  have hz2 : B + 1 ≤ z2.heap.size := by have := hb2.size; simp [World.setCell] at this; omega
  obtain ⟨a3, c3, z3, r, o, b⟩ := rtN.app (l := T) 53 ho3 hs (by omega) (by omega) hz2
  refine ⟨a3, c3, z3, r, ?_⟩
  have hcm2 : z2.heap[B]? = some (.cells (cmA (mk1 C p)) 59) := by
    rw [hb2.block B hBz, heap_setCell_same z B p _ 59 _ h.come, cmA_set C p (by omega)]
  have hB3 : Below w.heap.size w z3 := ((h.bel.setCell (p := ⟨B, p, none⟩) h.wB _).trans (hb2.mono h.bel.size)).trans (b.mono (by have := h.wB; omega))
  have htp := h.todo p (List.mem_append_right _ (List.mem_singleton_self _))
  simp only [Int.toNat_natCast] at htp
  have hm1 : ∀ q, mk1 C p q = true ↔ C q = true ∨ q = p := fun q => by simp [mk1]
  refine ⟨hB3, h.wB, by rw [List.length_append]; exact o, (b.block B (by omega)).trans hcm2, fun q hq => ?_, fun q hq => ?_, fun q hq r hr => ?_, ?_, ?_⟩
  · rcases (hm1 q).1 hq with hq | rfl
    · exact h.mark q hq
    · exact ⟨hp, htp.2⟩
  · rcases List.mem_append.1 hq with hq | hq
    · exact h.todo q (List.mem_append_left _ hq)
    · have := ok_next hby hdec hp htp.2.1 hq
      exact ⟨this.1, this.2, Rch.step htp.2.2 hp hq⟩
  · rcases (hm1 q).1 hq with hq | rfl
    · rcases h.shut q hq r hr with h1 | h1 | h1
      · exact .inl h1
      · exact .inr (.inl ((hm1 _).2 (.inl h1)))
      · rcases List.mem_append.1 h1 with h1 | h1
        · exact .inr (.inr (List.mem_append_left _ h1))
        · obtain rfl : r = (p : Int) := by simpa using h1
          exact .inr (.inl ((hm1 _).2 (.inr (by simp))))
    · exact .inr (.inr (List.mem_append_right _ hr))
  · rcases h.zero with h1 | h1 | h1
    · exact .inl h1
    · exact .inr (.inl ((hm1 _).2 (.inl h1)))
    · rcases List.mem_append.1 h1 with h1 | h1
      · exact .inr (.inr (List.mem_append_left _ h1))
      · have : (0 : Int) = (p : Int) := by simpa using h1
        exact .inr (.inl ((hm1 _).2 (.inr (by omega))))
  · have := cnt_mk (C := C) (p := p) (by omega) hc
    rw [List.length_append]
    omega
/-- At the end: just what can be reached is marked. -/
theorem RC.done {w z : World} {l : List Int} {B : Nat} {v : Value} {C : Nat → Bool} (h : RC w l B z v [] C) : ∀ i, C i = true ↔ Rch l i ∧ i < l.length := by
  have key : ∀ i, Rch l i → i = l.length ∨ C i = true := fun i hr => by
    induction hr with
    | zero =>
      rcases h.zero with h1 | h1 | h1
      · exact .inl h1
      · exact .inr h1
      · cases h1
    | step hr hp hq ih =>
      rcases ih with h1 | h1
      · omega
      · rcases h.shut _ h1 _ hq with h2 | h2 | h2
        · exact .inl h2
        · exact .inr h2
        · cases h2
  refine fun i => ⟨fun hi => ⟨(h.mark i hi).2.2, (h.mark i hi).1⟩, fun ⟨h1, h2⟩ => ?_⟩
  rcases key i h1 with h3 | h3
  · omega
  · exact h3
end Go.Proofs.YtknpfippdddnhabDoor
