/- FootOwn: clones; what may be spoilt. -/
import Derived.Test.YtibjhjkeflbghaaN6
import Derived.Test.YtibjhjkeflbghaaO0
import Derived.Lib.SliceRun
namespace Go.Proofs.Ytibjhjkeflbghaa
open Go.RowKit
set_option maxRecDepth 100000

theorem own_lit (w : World) (e k : Nat) : (w.alloc (.cells #[] e)).ownsRow w.heap.size e k (.slice (some ⟨w.heap.size, 0, none⟩) 0 0) 0 [] :=
  ⟨by simp, .inr ⟨w.heap.size, 0, #[], rfl, Nat.le_refl _, heap_alloc_new w _, Nat.le_refl _, by unfold maxLen; omega, by simp, by simp⟩⟩
set_option maxHeartbeats 800000 in
theorem clone_keys {w : World} {v : Value} {l : List Ky} (hs : SeesL kC 2 w v l) (hl : l.length ≤ 8796093022208) :
    Calls Try.prog 32 #[v] w fun e w' => ∃ r, e = .returned r ∧ SeesL kC 2 w' r l ∧ Below w.heap.size w w' := by
  have hE := fun (w : World) a n c => Lib.run_eql_slice_nil (P := Try.prog) w 24 37 a n c 0 0 Try.underlying24
  obtain ⟨ao, cap, gb, ob, rfl, h2, h3, h4, h5, h6⟩ := id hs
  cases ao with
  | none =>
    have h0 : l = [] := List.length_eq_zero_iff.1 (by have := h4 rfl; omega)
    subst h0
    obtain rfl := h4 rfl
    simp only [List.length_nil]
    go_enter Try.func32, Try.ntmps32
    go_wp2
    go_ret
    exact ⟨_, rfl, SeesL.nil _, Below.refl _ _⟩
  | some ad =>
    obtain ⟨v', w1, hr, ho, hg⟩ := append_keys (n := 0) (l := []) (l2 := l) (base := w.heap.size) 24 (own_lit w 37 2 : (w.alloc (.cells #[] 37)).ownsRow w.heap.size 37 2 (.slice (some ⟨w.heap.size, 0, none⟩) 0 0) 0 (([] : List Ky).flatMap kC)) (hs.below kC_len (below_box _)) (by omega) (by simp)
    have hb : Below w.heap.size w w1 := (below_box _).trans ((Below.refl _ _).grown hg (by simp) (own_block_le (own_lit w 37 2 : (w.alloc (.cells #[] 37)).ownsRow w.heap.size 37 2 (.slice (some ⟨w.heap.size, 0, none⟩) 0 0) 0 [])))
    obtain ⟨a, c, e⟩ := own_shape ho
    rw [List.nil_append] at ho
    obtain ⟨n, hn⟩ : ∃ n, l.length = n := ⟨_, rfl⟩
    have hs1 := (own_sees kC_len (by decide) ho).2
    rw [e, Nat.zero_add, hn] at hs1
    have HF := hide (And.intro hs1 hb)
    subst e
    have HR := hide hr
    rw [hn] at HR ⊢
    clear hs h2 h3 h4 h5 h6 hl hr ho hg hb hn hs1
    go_enter Try.func32, Try.ntmps32
    go_wp2_with (at_builtin; refine wpList_append_run rfl _ _ 24 24 rfl rfl rfl (unhide HR) ?_)
    go_ret
    first | exact ⟨_, rfl, (unhide HF).1, (unhide HF).2⟩ | (rw [Nat.zero_add]; exact ⟨_, rfl, (unhide HF).1, (unhide HF).2⟩)
/-- A row into whose elements may be written, whatever they are. -/
def Wr (T k B : Nat) (w : World) (v : Value) (n : Nat) : Prop := ∃ ao cap, v = .slice ao n cap ∧ n ≤ cap ∧ n ≤ 9223372036854775807 ∧ (0 < n → ∃ g cs, ao = some ⟨g, 0, none⟩ ∧ B ≤ g ∧ w.heap[g]? = some (.cells cs T) ∧ n * k ≤ cs.size)
theorem Wr.below {T k B n : Nat} {w z : World} {v : Value} (h : Wr T k B w v n) (hb : Below w.heap.size w z) : Wr T k B z v n := by
  obtain ⟨ao, cap, h1, h2, h3, h4⟩ := h
  refine ⟨ao, cap, h1, h2, h3, fun hn => ?_⟩
  obtain ⟨g, cs, e1, e2, e3, e4⟩ := h4 hn
  exact ⟨g, cs, e1, e2, (hb.block _ (Array.getElem?_eq_some_iff.1 e3).1).trans e3, e4⟩
theorem Wr.set {T k B n g o : Nat} {w : World} {v u : Value} (h : Wr T k B w v n) : Wr T k B (w.setCell ⟨g, o, none⟩ u) v n := by
  obtain ⟨ao, cap, h1, h2, h3, h4⟩ := h
  refine ⟨ao, cap, h1, h2, h3, fun hn => ?_⟩
  obtain ⟨g', cs, e1, e2, e3, e4⟩ := h4 hn
  by_cases c : g' = g
  · subst c
    exact ⟨g', _, e1, e2, heap_setCell_same w g' o cs T u e3, by simpa using e4⟩
  · exact ⟨g', cs, e1, e2, (setCell_far c).trans e3, e4⟩
theorem Wr.of {T k B n : Nat} {w : World} {v : Value} {xs : List Value} (h : w.ownsRow B T k v n xs) : Wr T k B w v n := by
  rcases h.2 with ⟨rfl, rfl⟩ | ⟨g, cap, cur, rfl, hb, hh, hnc, hcm, hsz, _⟩
  · exact ⟨none, 0, rfl, Nat.le_refl _, by omega, fun h => absurd h (by omega)⟩
  · exact ⟨_, cap, rfl, hnc, by unfold maxLen at hcm; omega, fun _ => ⟨g, cur, rfl, hb, hh, by rw [hsz]; exact Nat.mul_le_mul_right k hnc⟩⟩
theorem below_cell {B g j : Nat} {w w' : World} {u : Value} (h : Below B w w') (hg : B ≤ g) : Below B w (w'.setCell ⟨g, j, none⟩ u) :=
  ⟨h.os, h.tape, h.output, by simpa [World.setCell] using h.size, fun k hk => (setCell_far (by omega)).trans (h.block k hk)⟩
/-- What a write into such a row wants. -/
theorem Wr.cell {T k B n i j : Nat} {w : World} {v : Value} (h : Wr T k B w v n) (hi : i < n) (hj : j < k) : ∃ g cap u, v = .slice (some ⟨g, 0, none⟩) n cap ∧ B ≤ g ∧ w.cell? ⟨g, i * k + j, none⟩ = some u ∧ w.frozen? ⟨g, i * k + j, none⟩ = false ∧ ∃ cs, w.heap[g]? = some (.cells cs T) := by
  obtain ⟨ao, cap, h1, h2, h3, h4⟩ := h
  obtain ⟨g, cs, e1, e2, e3, e4⟩ := h4 (by omega)
  have hlt : i * k + j < cs.size := by
    have := Nat.mul_le_mul_right k (show i + 1 ≤ n from hi)
    rw [Nat.add_mul, Nat.one_mul] at this
    omega
  exact ⟨g, cap, cs[i * k + j], by rw [h1, e1], e2, (cell_at e3).trans (Array.getElem?_eq_getElem hlt), frozen_of_heap e3, cs, e3⟩
/-- Where FootOwn stands: a footprint whose rows may be spoilt. -/
structure Sp (B b : Nat) (w : World) (a : Nat → Option Addr) (L c : Nat → Nat) (a' : Nat → Option Addr) (L' c' : Nat → Nat) (pv tv : Value) (z : World) : Prop where
  bel : Below B w z
  box : z.heap[b]? = some (.cells (ftC a L c a' L' c' pv tv) 32)
  rd : ∀ p, p < 8 → Wr 37 2 B z (.slice (a p) (L p) (c p)) (L p)
  wt : ∀ p, p < 8 → Wr 37 2 B z (.slice (a' p) (L' p) (c' p)) (L' p)
theorem Sp.set {B b g o : Nat} {w z : World} {a : Nat → Option Addr} {L c : Nat → Nat} {a' : Nat → Option Addr} {L' c' : Nat → Nat} {pv tv u : Value} (h : Sp B b w a L c a' L' c' pv tv z) (hg : B ≤ g) {cs : Array Value} (hT : z.heap[g]? = some (.cells cs 37)) : Sp B b w a L c a' L' c' pv tv (z.setCell ⟨g, o, none⟩ u) :=
  ⟨below_cell h.bel hg, (setCell_far (fun e => by have := h.box; rw [e, hT] at this; simp at this)).trans h.box, fun p hp => (h.rd p hp).set, fun p hp => (h.wt p hp).set⟩
end Go.Proofs.Ytibjhjkeflbghaa
