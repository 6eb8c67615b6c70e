/- Several texts as one. -/
import Derived.Test.YtoddemcmmijoaaaZB
import Derived.Laws.Rows

/- Record: keys, read. -/
namespace Go.Proofs.Ytoddemcmmijoaaa
open Go.RowKit
set_option maxRecDepth 100000

theorem But.same {R b : Nat} {w w' : World} (h : But R w w') {o : Obj} (hb : w.heap[b]? = some o) (hR : b ≠ R) : w'.heap[b]? = some o :=
  (h.block b (Array.getElem?_eq_some_iff.1 hb).1 hR).trans hb
theorem cell_of_heap {w : World} {b o : Nat} {cs : Array Value} {T : TypeId} (h : w.heap[b]? = some (.cells cs T)) : w.cell? ⟨b, o, none⟩ = cs[o]? := by
  simp [World.cell?, h]
theorem frozen_of_heap {w : World} {b o : Nat} {cs : Array Value} {T : TypeId} (h : w.heap[b]? = some (.cells cs T)) : w.frozen? ⟨b, o, none⟩ = false := by
  simp [World.frozen?, h]
theorem setCell_heap {w : World} {b o : Nat} {cs : Array Value} {T : TypeId} {u : Value} (h : w.heap[b]? = some (.cells cs T)) : (w.setCell ⟨b, o, none⟩ u).heap[b]? = some (.cells (cs.setIfInBounds o u) T) := by
  have hlt := (Array.getElem?_eq_some_iff.1 h).1
  have e : w.heap[b] = .cells cs T := by rw [Array.getElem?_eq_getElem hlt] at h; exact Option.some.inj h
  simp only [World.setCell]
  rw [Array.getElem?_eq_getElem (by simpa using hlt), Array.getElem_modify]
  simp [e]

theorem Rd.keep {w w' : World} {R lo : Nat} {zs : List Int} {er : Int} {un : Bool} (h : Rd w R lo zs er un) (hk : ∀ k, k = R ∨ k < lo → w'.heap[k]? = w.heap[k]?) : Rd w' R lo zs er un := by
  obtain ⟨v, h1, ao, cap, hv, hl, hn, ha⟩ := h.cb
  have c : ∀ o u, w.cell? ⟨R, o, none⟩ = some u → w'.cell? ⟨R, o, none⟩ = some u := fun o u e => (World.cell?_of_block (w := w) (hk R (.inl rfl))).trans e
  exact ⟨⟨v, c _ _ h1, ao, cap, hv, hl, hn, fun a e t ht => ⟨(World.cell?_of_block (w := w) (hk _ (.inr (ha a e t ht).2))).trans (ha a e t ht).1, (ha a e t ht).2⟩⟩, c _ _ h.ce, c _ _ h.cu, fun o => (World.frozen?_of_block (w := w) (hk R (.inl rfl))).trans (h.fr o), h.lt, h.byt, h.len⟩
theorem But.new {R b : Nat} {w w' : World} (h : But R w w') (hb : w.heap.size ≤ b) (o : Nat) (u : Value) : But R w (w'.setCell ⟨b, o, none⟩ u) :=
  ⟨h.os, h.tape, h.output, by have := h.size; simp only [World.setCell, Array.size_modify]; exact this, fun k hk hR => (Below.heap_setCell _ _ _ _ (fun e => by simp only at e; omega)).trans (h.block k hk hR)⟩
theorem Rd.other {w : World} {R lo b : Nat} {zs : List Int} {er : Int} {un : Bool} (h : Rd w R lo zs er un) (hb : R < b) (o : Nat) (u : Value) : Rd (w.setCell ⟨b, o, none⟩ u) R lo zs er un :=
  h.keep fun k hk => Below.heap_setCell _ _ _ _ (fun e => by simp only at e; have := h.lt; omega)

def RS.key (s : RS) : (Int × Int) × RS := ((s.fit32.1, s.fit32.2.num.1), s.fit32.2.num.2)
end Go.Proofs.Ytoddemcmmijoaaa

/- Record: lists, read. -/
namespace Go.Proofs.Ytoddemcmmijoaaa
open Go.RowKit
set_option maxRecDepth 100000

/-- Up to k parts, up to the first error. -/
def RS.iter {α : Type} (take : RS → α × RS) : Nat → RS → List α × RS
  | 0, s => ([], s)
  | k + 1, s => if (RS.iter take k s).2.er = 0 then ((RS.iter take k s).1 ++ [(take (RS.iter take k s).2).1], (take (RS.iter take k s).2).2) else RS.iter take k s
def RS.len (s : RS) : RS := s.num.2.must (decide (0 ≤ s.num.1 ∧ s.num.1 ≤ 4096))
/-- A list. -/
def RS.list {α : Type} (take : RS → α × RS) (s : RS) : List α × RS := RS.iter take s.num.1.toNat s.len
theorem iter_step {α : Type} {take : RS → α × RS} {k : Nat} {s : RS} (h : (RS.iter take k s).2.er = 0) : RS.iter take (k + 1) s = ((RS.iter take k s).1 ++ [(take (RS.iter take k s).2).1], (take (RS.iter take k s).2).2) := by
  simp only [RS.iter, h, if_true]
theorem iter_stop {α : Type} {take : RS → α × RS} {k : Nat} {s : RS} (h : (RS.iter take k s).2.er ≠ 0) : ∀ j, RS.iter take (k + j) s = RS.iter take k s
  | 0 => rfl
  | j + 1 => by
    have ih := iter_stop h j
    rw [← Nat.add_assoc, RS.iter, ih, if_neg h]
theorem iter_len {α : Type} (take : RS → α × RS) (s : RS) : ∀ k, (RS.iter take k s).1.length ≤ k
  | 0 => Nat.le_refl _
  | k + 1 => by
    have ih := iter_len take s k
    by_cases h : (RS.iter take k s).2.er = 0
    · rw [iter_step h]; simp; omega
    · rw [iter_stop h 1]; omega
theorem iter_ok {α : Type} {take : RS → α × RS} (s : RS) : ∀ k, (RS.iter take k s).2.er = 0 → (∀ j, j ≤ k → (RS.iter take j s).2.er = 0)
  | 0, h, j, hj => by obtain rfl : j = 0 := by omega
                      exact h
  | k + 1, h, j, hj => by
    by_cases hk : (RS.iter take k s).2.er = 0
    · by_cases e : j = k + 1
      · rw [e]; exact h
      · exact iter_ok s k hk j (by omega)
    · rw [iter_stop hk 1] at h
      exact absurd h hk
theorem len_ok {s : RS} (h : s.len.er = 0) : 0 ≤ s.num.1 ∧ s.num.1 ≤ 4096 := by
  unfold RS.len at h
  by_cases c : 0 ≤ s.num.1 ∧ s.num.1 ≤ 4096
  · exact c
  · rw [decide_eq_false c] at h
    by_cases e : s.num.2.er = 0
    · rw [must_false _ e] at h; simp at h
    · rw [must_er _ _ e] at h; exact absurd h e
theorem list_len {α : Type} (take : RS → α × RS) (s : RS) : (s.list take).1.length ≤ 4096 := by
  by_cases h : s.len.er = 0
  · have := len_ok h
    have := iter_len take s.len s.num.1.toNat
    unfold RS.list
    omega
  · unfold RS.list
    have := iter_stop (take := take) (k := 0) (s := s.len) h s.num.1.toNat
    rw [Nat.zero_add] at this
    rw [this]
    simp [RS.iter]
theorem own_keepR {w w' : World} {base R e size : Nat} {v : Value} {n : Nat} {xs : List Value} (h : w.ownsRow base e size v n xs) (hk : But R w w') (hR : R < base) : w'.ownsRow base e size v n xs := by
  refine ⟨h.1, ?_⟩
  rcases h.2 with hn | ⟨g, cap, cur, hv, hg, hh, r⟩
  · exact .inl hn
  · exact .inr ⟨g, cap, cur, hv, hg, hk.same hh (by omega), r⟩
theorem But.grown {R lo : Nat} {a w w' : World} {v : Value} {e size n : Nat} {xs : List Value} (h : But R a w) (ho : w.ownsRow lo e size v n xs) (hlo : a.heap.size ≤ lo) (hg : w.grownBy w' v.ownBlock) : But R a w' :=
  ⟨hg.os.trans h.os, hg.tape.trans h.tape, hg.output.trans h.output, Nat.le_trans h.size hg.size, fun k hk hR => (hg.block k (Nat.lt_of_lt_of_le hk h.size) (fun e => by have := (ho.lt k e.symm).1; omega)).trans (h.block k hk hR)⟩
theorem Rd.grown {R lo base : Nat} {w w' : World} {v : Value} {e size n : Nat} {xs : List Value} {zs : List Int} {er : Int} {un : Bool} (h : Rd w R lo zs er un) (ho : w.ownsRow base e size v n xs) (hb : R < base) (hg : w.grownBy w' v.ownBlock) : Rd w' R lo zs er un :=
  h.keep fun k hk => hg.block k (by have := h.rlt; have := h.lt; omega) (fun e => by have := (ho.lt k e.symm).1; have := h.lt; omega)
theorem own_shapeN {w : World} {base e size : Nat} {v : Value} {n : Nat} {xs : List Value} (h : w.ownsRow base e size v n xs) : ∃ ao cap, v = .slice ao n cap := by
  rcases h.2 with ⟨rfl, rfl⟩ | ⟨g, cap, cur, rfl, _⟩
  · exact ⟨none, 0, rfl⟩
  · exact ⟨_, cap, rfl⟩

theorem Try.info2 : (Try.prog.info? 2).map (fun i => (i.zero, i.size, i.bytes)) = some (some (.int .i64 0), 1, 8) := by kernel_rfl
theorem Try.info103 : (Try.prog.info? 103).map (fun i => (i.zero, i.size, i.bytes)) = some (some (.agg #[.int .i32 0, .int .i64 0]), 2, 16) := by kernel_rfl
def i64C (l : List Int) : List Value := ints .i64 l
theorem i64C_append (a b : List Int) : i64C (a ++ b) = i64C a ++ i64C b := ints_append _ _ _
def keyCs : List (Int × Int) → List Value
  | [] => []
  | k :: l => .int .i32 k.1 :: .int .i64 k.2 :: keyCs l
theorem keyCs_append (a b : List (Int × Int)) : keyCs (a ++ b) = keyCs a ++ keyCs b := by
  induction a with
  | nil => rfl
  | cons x r ih => simp [keyCs, ih]
end Go.Proofs.Ytoddemcmmijoaaa
