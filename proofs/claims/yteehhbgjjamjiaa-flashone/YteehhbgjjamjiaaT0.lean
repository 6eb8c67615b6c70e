/- A row of bytes that came in, turned cell by cell. -/
import Derived.Test.YteehhbgjjamjiaaR1
namespace Go.Proofs.Yteehhbgjjamjiaa
open Go.RowKit

theorem heap_set_same {w : World} {b o : Nat} {v : Value} {C : Array Value} {t : TypeId} {m : Nat × Nat} (h : w.heap[b]? = some (.cells C t m)) : (w.setCell ⟨b, o, none⟩ v).heap[b]? = some (.cells (C.setIfInBounds o v) t m) := by
  simp [World.setCell, Array.getElem?_modify, h]

/-- From w to wr the cells from ob on, k of them, of block gb have become f; nothing else has turned. -/
def Turned (w wr : World) (gb ob k : Nat) (f : Nat → Value) : Prop :=
  Upd (fun x => x = gb ∧ 0 < k) w.heap.size w wr ∧ ∀ C ty m, w.heap[gb]? = some (.cells C ty m) → ∃ C', wr.heap[gb]? = some (.cells C' ty m) ∧ C'.size = C.size ∧ ∀ o, o < C.size → C'[o]? = if ob ≤ o ∧ o < ob + k then some (f (o - ob)) else C[o]?

theorem Turned.zero (w : World) (gb ob : Nat) (f : Nat → Value) : Turned w w gb ob 0 f :=
  ⟨Upd.refl _ _ _, fun C ty m h => ⟨C, h, rfl, fun o _ => by rw [if_neg (by omega)]⟩⟩

theorem Turned.succ {w wr : World} {gb ob k : Nat} {f : Nat → Value} (h : Turned w wr gb ob k f) : Turned w (wr.setCell ⟨gb, ob + k, none⟩ (f k)) gb ob (k + 1) f := by
  refine ⟨(h.1.mono (Nat.le_refl _) (fun x _ c => ⟨c.1, Nat.succ_pos k⟩)).setCell (Or.inl ⟨rfl, Nat.succ_pos k⟩) _, fun C ty m hC => ?_⟩
  obtain ⟨C', h1, h2, h3⟩ := h.2 C ty m hC
  refine ⟨_, heap_set_same h1, by simp [h2], fun o ho => ?_⟩
  rw [Array.getElem?_setIfInBounds]
  by_cases c : ob + k = o
  · subst c
    rw [if_pos rfl, if_pos (by omega), if_pos (by omega), show ob + k - ob = k by omega]
  · rw [if_neg c, h3 o ho]
    by_cases d : ob ≤ o ∧ o < ob + k
    · rw [if_pos d, if_pos (by omega)]
    · rw [if_neg d, if_neg (by omega)]

theorem cell_block {w : World} {b o : Nat} {v : Value} (h : w.cell? ⟨b, o, none⟩ = some v) : ∃ C ty m, w.heap[b]? = some (.cells C ty m) ∧ C[o]? = some v := by
  unfold World.cell? at h
  split at h
  · rename_i c e f hb
    exact ⟨c, e, f, hb, by simpa using h⟩
  · simp at h

theorem cell_at {w : World} {b o : Nat} {C : Array Value} {ty : TypeId} {m : Nat × Nat} (h : w.heap[b]? = some (.cells C ty m)) : w.cell? ⟨b, o, none⟩ = C[o]? := cell_of_row _ b o _ ty m h

/-- A cell not yet turned, and one turned. -/
theorem Turned.rest {w wr : World} {gb ob k t : Nat} {f : Nat → Value} {v : Value} (h : Turned w wr gb ob k f) (hc : w.cell? ⟨gb, ob + t, none⟩ = some v) (ht : k ≤ t) : wr.cell? ⟨gb, ob + t, none⟩ = some v := by
  obtain ⟨C, ty, m, h1, h2⟩ := cell_block hc
  obtain ⟨C', h3, h4, h5⟩ := h.2 C ty m h1
  rw [cell_at h3, h5 _ (Array.getElem?_eq_some_iff.1 h2).1, if_neg (by omega)]
  exact h2
theorem Turned.done {w wr : World} {gb ob k t : Nat} {f : Nat → Value} {v : Value} (h : Turned w wr gb ob k f) (hc : w.cell? ⟨gb, ob + t, none⟩ = some v) (ht : t < k) : wr.cell? ⟨gb, ob + t, none⟩ = some (f t) := by
  obtain ⟨C, ty, m, h1, h2⟩ := cell_block hc
  obtain ⟨C', h3, h4, h5⟩ := h.2 C ty m h1
  rw [cell_at h3, h5 _ (Array.getElem?_eq_some_iff.1 h2).1, if_pos (by omega), show ob + t - ob = t by omega]
theorem Turned.frozen {w wr : World} {gb ob k t : Nat} {f : Nat → Value} {v : Value} (h : Turned w wr gb ob k f) (hc : w.cell? ⟨gb, ob + t, none⟩ = some v) : wr.frozen? ⟨gb, ob + t, none⟩ = w.frozen? ⟨gb, ob + t, none⟩ := by
  obtain ⟨C, ty, m, h1, h2⟩ := cell_block hc
  obtain ⟨C', h3, h4, h5⟩ := h.2 C ty m h1
  unfold World.frozen?
  rw [h3, h1]

/-- Turned, and turned back: as it was. -/
theorem Turned.back {w w1 w2 w3 : World} {gb ob n : Nat} {f g : Nat → Value} (h : Turned w w1 gb ob n f) (hb : w2.heap[gb]? = w1.heap[gb]?) (h' : Turned w2 w3 gb ob n g) (hc : ∀ t, t < n → w.cell? ⟨gb, ob + t, none⟩ = some (g t)) (hn : 0 < n) : w3.heap[gb]? = w.heap[gb]? := by
  obtain ⟨C, ty, m, h1, h2⟩ := cell_block (hc 0 hn)
  obtain ⟨C1, h3, h4, h5⟩ := h.2 C ty m h1
  rw [h3] at hb
  obtain ⟨C3, h6, h7, h8⟩ := h'.2 C1 ty m hb
  rw [h6, h1]
  have : C3 = C := by
    apply Array.ext_getElem?
    intro o
    by_cases ho : o < C.size
    · rw [h8 o (by omega)]
      by_cases d : ob ≤ o ∧ o < ob + n
      · rw [if_pos d]
        have := hc (o - ob) (by omega)
        rw [cell_at h1, show ob + (o - ob) = o by omega] at this
        exact this.symm
      · rw [if_neg d, h5 o ho, if_neg d]
    · rw [Array.getElem?_eq_none (by omega), Array.getElem?_eq_none (by omega)]
  rw [this]

theorem u8_back (u : Int) (h0 : 0 ≤ u) (h1 : u ≤ 255) : IntKind.u8.wrap (IntKind.u8.wrap (u + 1) - 1) = u := by
  simp only [IntKind.wrap_u8]; omega

/-- Bytes of the call's own, in a loop that turns them. -/
def Row8 (w wr : World) (gx n : Nat) : Prop := Upd (fun x => x = gx) w.heap.size w wr ∧ ∀ t, t < n → ∃ u, wr.cell? ⟨gx, t, none⟩ = some (.int .u8 u) ∧ wr.frozen? ⟨gx, t, none⟩ = false

theorem Row8.step {w wr : World} {gx n k : Nat} (h : Row8 w wr gx n) (v : Int) : Row8 w (wr.setCell ⟨gx, k, none⟩ (.int .u8 v)) gx n := by
  refine ⟨h.1.setCell (Or.inl rfl) _, fun t ht => ?_⟩
  obtain ⟨u, h1, h2⟩ := h.2 t ht
  by_cases c : k = t
  · subst c
    exact ⟨v, cs_same h1, by rw [World.frozen?_setCell]; exact h2⟩
  · exact ⟨u, by rw [cs_other (addr_ne (Or.inr c))]; exact h1, by rw [World.frozen?_setCell]; exact h2⟩

end Go.Proofs.Yteehhbgjjamjiaa
