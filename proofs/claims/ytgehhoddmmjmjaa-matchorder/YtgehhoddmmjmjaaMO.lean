/- MatchOrder: the walk. -/
import Derived.Test.YtgehhoddmmjmjaaMM
import Derived.Test.YtgehhoddmmjmjaaMem2
namespace Go.Proofs.Ytgehhoddmmjmjaa
open Go.RowKit
set_option maxRecDepth 100000

/-! What is told, one by one. -/
def Bk.tellO (B : Bk) (q : OpV) : Bk := B.toldN q.who (q.act != 3) q.slot
def tellTo (B : Bk) (f : Nat → OpV) : Nat → Bk
  | 0 => B
  | t + 1 => (tellTo B f t).tellO (f t)
theorem tellTo_ok {B : Bk} (O : B.Ok) (f : Nat → OpV) (t : Nat) : (tellTo B f t).Ok := by
  induction t with
  | zero => exact O
  | succ t ih => exact ih.toldN _ _ _
theorem tellTo_n {B : Bk} (O : B.Ok) (f : Nat → OpV) (t : Nat) : (tellTo B f t).n = B.n ∧ (tellTo B f t).self = B.self ∧ (tellTo B f t).lk B.self = B.lk B.self := by
  induction t with
  | zero => exact ⟨rfl, rfl, rfl⟩
  | succ t ih =>
    have h := Bk.toldN_n (tellTo B f t) (f t).who ((f t).act != 3) (f t).slot
    refine ⟨h.1.trans ih.1, h.2.trans ih.2.1, ?_⟩
    have := Bk.toldN_len (tellTo_ok O f t) (f t).who ((f t).act != 3) (f t).slot
    rw [ih.2.1] at this
    exact this.trans ih.2.2
/-- What one operation says of j's like. -/
def says (B : Bk) (q : OpV) (j : Nat) : Bool := B.tells q.who (q.act != 3) q.slot && (q.act != 3) && decide (j = q.who.toNat)
theorem tells_same {B C : Bk} (hn : C.n = B.n) (hs : C.self = B.self) (hl : C.lk B.self = B.lk B.self) (x : Int) (yes : Bool) (s : Int) : C.tells x yes s = B.tells x yes s := by
  unfold Bk.tells Bk.other Bk.has; rw [hn, hs, hl]
theorem tellTo_lk {B : Bk} (O : B.Ok) (f : Nat → OpV) (t j : Nat) :
    B.lk j ≤ (tellTo B f t).lk j ∧ (∀ u, u < t → says B (f u) j = true → (f u).slot ≤ (tellTo B f t).lk j) ∧ ((tellTo B f t).lk j = B.lk j ∨ ∃ u, u < t ∧ says B (f u) j = true ∧ (tellTo B f t).lk j = (f u).slot) := by
  induction t with
  | zero => exact ⟨Int.le_refl _, fun u h => absurd h (Nat.not_lt_zero _), Or.inl rfl⟩
  | succ t ih =>
    obtain ⟨h1, h2, h3⟩ := ih
    have hn := tellTo_n O f t
    have e := Bk.toldN_lk (tellTo B f t) (f t).who ((f t).act != 3) (f t).slot j
    rw [tells_same hn.1 hn.2.1 hn.2.2] at e
    change (tellTo B f (t + 1)).lk j = _ at e
    cases c : says B (f t) j
    · unfold says at c
      rw [c] at e
      simp only [Bool.false_eq_true, if_false] at e
      rw [e]
      refine ⟨h1, fun u hu hs => ?_, ?_⟩
      · by_cases cu : u = t
        · subst cu; unfold says at hs; rw [c] at hs; cases hs
        · exact h2 u (by omega) hs
      · rcases h3 with h | ⟨u, hu, hs, hx⟩
        · exact Or.inl h
        · exact Or.inr ⟨u, by omega, hs, hx⟩
    · have c' := c
      unfold says at c
      rw [c] at e
      simp only [if_true] at e
      have hj : j = (f t).who.toNat := by simp only [Bool.and_eq_true, decide_eq_true_eq] at c; exact c.2
      rw [← hj] at e
      rw [e]
      refine ⟨by omega, fun u hu hs => ?_, ?_⟩
      · by_cases cu : u = t
        · subst cu; omega
        · have := h2 u (by omega) hs; omega
      · rcases Int.le_total (f t).slot ((tellTo B f t).lk j) with hm | hm
        · rw [Int.max_eq_left hm]
          rcases h3 with h | ⟨u, hu, hs, hx⟩
          · exact Or.inl h
          · exact Or.inr ⟨u, by omega, hs, hx⟩
        · rw [Int.max_eq_right hm]
          exact Or.inr ⟨t, by omega, c', rfl⟩
/-- The same operations, whatever their order. -/
def SameOps (m : Nat) (f g : Nat → OpV) : Prop := (∀ t, t < m → ∃ u, u < m ∧ f t = g u) ∧ ∀ t, t < m → ∃ u, u < m ∧ g t = f u
theorem SameOps.refl (m : Nat) (f : Nat → OpV) : SameOps m f f := ⟨fun t ht => ⟨t, ht, rfl⟩, fun t ht => ⟨t, ht, rfl⟩⟩
theorem tellTo_le {B : Bk} (O : B.Ok) {m : Nat} {f g : Nat → OpV} (h : ∀ t, t < m → ∃ u, u < m ∧ f t = g u) (j : Nat) : (tellTo B f m).lk j ≤ (tellTo B g m).lk j := by
  obtain ⟨_, _, c⟩ := tellTo_lk O f m j
  obtain ⟨d1, d2, _⟩ := tellTo_lk O g m j
  rcases c with e | ⟨u, hu, hs, e⟩
  · rw [e]; exact d1
  · rw [e]
    obtain ⟨v, hv, ev⟩ := h u hu
    rw [ev] at hs ⊢
    exact d2 v hv hs
theorem tellTo_same {B : Bk} (O : B.Ok) {m : Nat} {f g : Nat → OpV} (h : SameOps m f g) (j : Nat) : (tellTo B f m).lk j = (tellTo B g m).lk j :=
  Int.le_antisymm (tellTo_le O h.1 j) (tellTo_le O h.2 j)

/-- One operation put in another's place. -/
def setO (f : Nat → OpV) (i : Nat) (q : OpV) : Nat → OpV := fun t => if t = i then q else f t
theorem SameOps.swap {m : Nat} {f g : Nat → OpV} (h : SameOps m f g) {i k : Nat} (hi : i < m) (hk : k < m) : SameOps m (setO (setO f i (f k)) k (f i)) g := by
  constructor
  · intro t ht
    unfold setO
    by_cases c1 : t = k
    · rw [if_pos c1]; exact h.1 i hi
    · rw [if_neg c1]; by_cases c2 : t = i
      · rw [if_pos c2]; exact h.1 k hk
      · rw [if_neg c2]; exact h.1 t ht
  · intro t ht
    obtain ⟨u, hu, e⟩ := h.2 t ht
    by_cases c1 : u = i
    · exact ⟨k, hk, by rw [e, c1]; simp [setO]⟩
    · by_cases c2 : u = k
      · exact ⟨i, hi, by
          rw [e, c2]; unfold setO
          by_cases c : i = k
          · rw [if_pos c, c]
          · rw [if_neg c, if_pos rfl]⟩
      · exact ⟨u, hu, by rw [e]; unfold setO; rw [if_neg c2, if_neg c1]⟩

/-! The other script, in a row of its own. -/
structure Oth (w : World) (x : World) (g m : Nat) (f : Nat → OpV) : Prop where
  at' : ∀ t, t < m → ∀ k, k < 3 → x.cell? ⟨g, t * 3 + k, none⟩ = (f t).cells[k]?
  fr : ∀ k, x.frozen? ⟨g, k, none⟩ = false
  lo : w.heap.size + 1 ≤ g
theorem Oth.lt {w x : World} {g m : Nat} {f : Nat → OpV} (h : Oth w x g m f) (hm : 0 < m) : g < x.heap.size := World.block_lt_of_cell? x ⟨g, 0 * 3 + 0, none⟩ (u := .int .i64 (f 0).act) (h.at' 0 hm 0 (by decide))
theorem Oth.keepB {w x y : World} {g m : Nat} {f : Nat → OpV} (h : Oth w x g m f) (hb : y.heap[g]? = x.heap[g]?) : Oth w y g m f :=
  ⟨fun t ht k hk => by rw [World.cell?_of_block (w := x) hb]; exact h.at' t ht k hk, fun k => by rw [World.frozen?_of_block (w := x) hb]; exact h.fr k, h.lo⟩
theorem Oth.below {w x y : World} {g m : Nat} {f : Nat → OpV} (h : Oth w x g m f) (hg : g < x.heap.size) (hb : Below x.heap.size x y) : Oth w y g m f := h.keepB (hb.block g hg)
/-- An operation's three cells written. -/
def put3 (x : World) (g i : Nat) (q : OpV) : World := ((x.setCell ⟨g, i * 3, none⟩ (.int .i64 q.act)).setCell ⟨g, i * 3 + 1, none⟩ (.int .i64 q.who)).setCell ⟨g, i * 3 + 2, none⟩ (.int .i64 q.slot)
theorem Oth.put {w x : World} {g m : Nat} {f : Nat → OpV} (h : Oth w x g m f) (i : Nat) (hi : i < m) (q : OpV) : Oth w (put3 x g i q) g m (setO f i q) := by
  have h0 : x.cell? ⟨g, i * 3, none⟩ = some (.int .i64 (f i).act) := h.at' i hi 0 (by decide)
  have h1 : x.cell? ⟨g, i * 3 + 1, none⟩ = some (.int .i64 (f i).who) := h.at' i hi 1 (by decide)
  have h2 : x.cell? ⟨g, i * 3 + 2, none⟩ = some (.int .i64 (f i).slot) := h.at' i hi 2 (by decide)
  have ne : ∀ {a b : Nat}, a ≠ b → (⟨g, a, none⟩ : Addr) ≠ ⟨g, b, none⟩ := fun hab => addr_ne (Or.inr hab)
  refine ⟨fun t ht k hk => ?_, fun k => by unfold put3; rw [World.frozen?_setCell, World.frozen?_setCell, World.frozen?_setCell]; exact h.fr k, h.lo⟩
  unfold put3 setO
  by_cases c : t = i
  · subst c
    rw [if_pos rfl]
    rcases (show k = 0 ∨ k = 1 ∨ k = 2 by omega) with rfl | rfl | rfl
    · show World.cell? _ ⟨g, t * 3, none⟩ = some (.int .i64 q.act)
      rw [cs_other (ne (by omega)), cs_other (ne (by omega))]; exact cs_same h0
    · show _ = some (Value.int .i64 q.who)
      rw [cs_other (ne (by omega))]; exact cs_same (by rw [cs_other (ne (by omega))]; exact h1)
    · show _ = some (Value.int .i64 q.slot)
      exact cs_same (by rw [cs_other (ne (by omega)), cs_other (ne (by omega))]; exact h2)
  · rw [if_neg c, cs_other (ne (by omega)), cs_other (ne (by omega)), cs_other (ne (by omega))]
    exact h.at' t ht k hk
theorem put3_below {B : Nat} {a x : World} {g i : Nat} {q : OpV} (h : Below B a x) (hg : B ≤ g) : Below B a (put3 x g i q) :=
  ((h.setCell (p := ⟨g, _, none⟩) hg _).setCell (p := ⟨g, _, none⟩) hg _).setCell (p := ⟨g, _, none⟩) hg _
theorem put3_other {x : World} {g i k : Nat} {q : OpV} (h : k ≠ g) : (put3 x g i q).heap[k]? = x.heap[k]? := by
  unfold put3
  rw [Below.heap_setCell _ _ _ _ h, Below.heap_setCell _ _ _ _ h, Below.heap_setCell _ _ _ _ h]

end Go.Proofs.Ytgehhoddmmjmjaa
