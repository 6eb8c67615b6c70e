/- Several texts as one. -/
import Derived.Test.YtggllgimlfchhaaGreatMem
import Derived.Test.YtggllgimlfchhaaGreatKA
import Derived.Laws.OwnMore
import Derived.RangeFuncBox

/- More on memory: appending what is seen to a row of one's own; a row of one element. -/
namespace Go.Proofs.YtggllgimlfchhaaGreat
open Go.RowKit
set_option maxRecDepth 100000

theorem grownBy_refl (w : World) (r : Option Nat) : w.grownBy w r := ⟨rfl, rfl, rfl, Nat.le_refl _, fun _ _ _ => rfl⟩

/-- append(s, x...) where s is the call's own and x is whatever slice of integers that is seen, nil too. -/
theorem wpList_append_sees {P : Program} {w : World} {ops : Array Oper} {rest : List Oper} {o : Oper} {a : Act} {Q : Exit → Act → World → Prop} (hgd : o.guard = none) (s x : Operand) (t : TypeId)
    (ho : o.op = .call { callee := .builtin .append, args := #[s, x], argTypes := #[t, t] })
    (base : Nat) (e : TypeId) (i : TypeInfo) (z : Value) (bytes : Nat) (ht : P.underlying t = some (.slice e)) (hi : P.info? e = some i) (hz : i.zero = some z)
    (hsize : i.size = 1) (hby : i.bytes = bytes) (hzs : z.cells.size = 1)
    (v : Value) (n : Nat) (xs : List Value) (hs : a.eval s = v) (hown : w.ownsRow base e 1 v n xs)
    (k : IntKind) (sv : Value) (zs : List Int) (hx : a.eval x = sv) (hsee : Sees w k sv zs)
    (h63 : n + zs.length ≤ maxLen) (hbytes : (n + zs.length) * bytes ≤ 140737488355328) (hbase : base ≤ w.heap.size)
    (h : ∀ v' w', w'.ownsRow base e 1 v' (n + zs.length) (xs ++ ints k zs) → w.grownBy w' v.ownBlock → wpList P ops Q rest (a.put o.dst v') w') : wpList P ops Q (o :: rest) a w := by
  obtain ⟨ao, cap, rfl, hl, hnil, hc⟩ := hsee
  cases ao with
  | none =>
    obtain rfl := hnil rfl
    obtain rfl : zs = [] := List.length_eq_zero_iff.1 (by omega)
    refine wpList_append_own_none hgd s x t ho base e i 1 ht hi v n xs hs hown hx ?_
    exact h v w (by simpa [ints] using hown) (grownBy_refl _ _)
  | some ad =>
    refine wpList_append_own w hgd s x t ho base e i z 1 bytes ht hi hz hsize hby hzs (by decide) v n xs hs hown ad zs.length cap (ints k zs) hx (by rw [ints_length]; omega) (fun j u hu => ?_) (ints_cell _ _) h63 hbytes hbase ?_
    · obtain ⟨hj, rfl⟩ := ints_get hu
      exact hc ad rfl j hj
    · intro v' w' ho' hg _
      exact h v' w' ho' hg

/-- A slice literal's row. -/
theorem own_new (w : World) (k : IntKind) (zs : List Int) (e : TypeId) (base n : Nat) (hn : n = zs.length) (hb : base ≤ w.heap.size) (hm : n ≤ maxLen) :
    (w.alloc (.cells (ints k zs).toArray e)).ownsRow base e 1 (.slice (some ⟨w.heap.size, 0, none⟩) n n) n (ints k zs) := by
  subst hn
  refine ⟨by rw [ints_length]; omega, .inr ⟨w.heap.size, zs.length, _, rfl, hb, heap_alloc_new w _, Nat.le_refl _, hm, by simp [ints], ?_⟩⟩
  simp only [Nat.mul_one]
  exact List.take_of_length_le (by rw [ints_length]; omega)

theorem own_drew {w : World} {base e size : Nat} {v : Value} {n : Nat} {xs : List Value} (h : w.ownsRow base e size v n xs) : w.drew.ownsRow base e size v n xs := h

/-- What is owned is still owned where nothing below the heap's end has turned. -/
theorem own_below {w w' : World} {base e size : Nat} {v : Value} {n : Nat} {xs : List Value} (h : w.ownsRow base e size v n xs) (hb : Below w.heap.size w w') : w'.ownsRow base e size v n xs := by
  refine ⟨h.1, ?_⟩
  rcases h.2 with hn | ⟨g, cap, cur, hv, hg, hh, r⟩
  · exact .inl hn
  · exact .inr ⟨g, cap, cur, hv, hg, (hb.block g (Array.getElem?_eq_some_iff.1 hh).1).trans hh, r⟩

theorem own_shape {w : World} {base e : Nat} {v : Value} {n : Nat} {xs : List Value} (h : w.ownsRow base e 1 v n xs) : ∃ ao cap, v = .slice ao n cap := by
  rcases h.2 with ⟨rfl, rfl⟩ | ⟨g, cap, cur, rfl, _⟩
  · exact ⟨none, 0, rfl⟩
  · exact ⟨_, cap, rfl⟩

end Go.Proofs.YtggllgimlfchhaaGreat

/- Record: the writer. -/
namespace Go.Proofs.YtggllgimlfchhaaGreat
open Go.RowKit
set_option maxRecDepth 100000

/-- append(s, x...), as a run. -/
theorem run_append_sees {w : World} (base : Nat) (v : Value) (xs : List Int) (hown : w.ownsRow base 5 1 v xs.length (ints .u8 xs)) (sv : Value) (zs : List Int) (hsee : Sees w .u8 sv zs) (hn : xs.length + zs.length ≤ 1099511627776) (hbase : base ≤ w.heap.size) (ty : TypeId) :
    ∃ v' w', (Builtin.append_ #[23, 23] ty #[v, sv]).run Tryz.prog w = .ok v' w' ∧ w'.ownsRow base 5 1 v' (xs ++ zs).length (ints .u8 (xs ++ zs)) ∧ w.grownBy w' v.ownBlock := by
  obtain ⟨i0, hi, hz0, hz1, hz2⟩ := info_parts Tryz.info5
  obtain ⟨ao, cap, rfl, hl, hnil, hc⟩ := hsee
  cases ao with
  | none =>
    obtain rfl := hnil rfl
    obtain rfl : zs = [] := List.length_eq_zero_iff.1 (by omega)
    exact ⟨v, w, run_append_owned_none (P := Tryz.prog) (w := w) base 23 ty 5 i0 1 Tryz.underlying23 hi v _ _ hown, by simpa using hown, grownBy_refl _ _⟩
  | some ad =>
    obtain ⟨v', w', h1, h2, h3, _⟩ := run_append_own (P := Tryz.prog) w base 23 ty 5 i0 (.int .u8 0) 1 1 Tryz.underlying23 hi hz0 hz1 hz2 rfl (by decide) v _ _ hown ad zs.length cap (ints .u8 zs) (by rw [ints_length]; omega)
      (fun j u hu => by obtain ⟨hj, rfl⟩ := ints_get hu; exact hc ad rfl j hj) (ints_cell _ _) (by unfold maxLen; omega) (by omega) hbase
    exact ⟨v', w', h1, by rw [ints_append, List.length_append]; exact h2, h3⟩

/-- Only the writer and its own rows of bytes are written. -/
structure Wrote (B lo : Nat) (w w' : World) : Prop where
  os : w'.os = w.os
  tape : w'.tape = w.tape
  output : w'.output = w.output
  size : w.heap.size ≤ w'.heap.size
  block : ∀ k, k < w.heap.size → k ≠ B → (k < lo ∨ ∀ cur, w.heap[k]? ≠ some (.cells cur 5 (0, 0))) → w'.heap[k]? = w.heap[k]?
theorem Wrote.refl (B lo : Nat) (w : World) : Wrote B lo w w := ⟨rfl, rfl, rfl, Nat.le_refl _, fun _ _ _ _ => rfl⟩
theorem Wrote.trans {B lo : Nat} {a b c : World} (h : Wrote B lo a b) (k : Wrote B lo b c) : Wrote B lo a c :=
  ⟨k.os.trans h.os, k.tape.trans h.tape, k.output.trans h.output, Nat.le_trans h.size k.size, fun i hi hB hc => by
    have e := h.block i hi hB hc
    exact (k.block i (Nat.lt_of_lt_of_le hi h.size) hB (hc.imp id (fun hc cur => by rw [e]; exact hc cur))).trans e⟩
theorem Wrote.of {B lo : Nat} {w w' : World} (h : Below w.heap.size w w') : Wrote B lo w w' := ⟨h.os, h.tape, h.output, h.size, fun k hk _ _ => h.block k hk⟩
theorem Wrote.grown {B lo : Nat} {w w' : World} {v : Value} {n : Nat} {xs : List Value} (ho : w.ownsRow lo 5 1 v n xs) (h : w.grownBy w' v.ownBlock) : Wrote B lo w w' :=
  ⟨h.os, h.tape, h.output, h.size, fun k hk _ hc => h.block k hk (by
    rcases ho.2 with ⟨rfl, _⟩ | ⟨g, cap, cur, rfl, hg, hh, _⟩
    · simp [Value.ownBlock]
    · simp only [Value.ownBlock, ne_eq, Option.some.injEq]
      rintro rfl
      rcases hc with hc | hc
      · omega
      · exact hc _ hh)⟩
theorem Wrote.set {B lo : Nat} {a w : World} (h : Wrote B lo a w) (o : Nat) (u : Value) : Wrote B lo a (w.setCell ⟨B, o, none⟩ u) :=
  h.trans ⟨rfl, rfl, rfl, by simp [World.setCell], fun k _ hB _ => Below.heap_setCell _ _ _ _ (fun e => hB e)⟩
theorem Wrote.drew {B lo : Nat} {a w : World} (h : Wrote B lo a w) : Wrote B lo a w.drew := ⟨h.os, h.tape, h.output, h.size, h.block⟩
/-- What lies below the writer is as it was. -/
theorem Wrote.below {B lo N : Nat} {w w' : World} (h : Wrote B lo w w') (hN : N ≤ B) (hl : N ≤ lo) (hs : N ≤ w.heap.size) : Below N w w' :=
  ⟨h.os, h.tape, h.output, h.size, fun k hk => h.block k (by omega) (by omega) (.inl (by omega))⟩
/-- A block of another type is as it was. -/
theorem Wrote.box {B lo b : Nat} {w w' : World} (h : Wrote B lo w w') {cs : Array Value} {T : TypeId} (hb : w.heap[b]? = some (.cells cs T (0, 0))) (hT : T ≠ 5) (hB : b ≠ B) : w'.heap[b]? = some (.cells cs T (0, 0)) :=
  (h.block b (Array.getElem?_eq_some_iff.1 hb).1 hB (.inr fun cur e => by rw [hb] at e; cases e; exact hT rfl)).trans hb

/-- The writer at block B has the bytes xs, in rows of its own from lo on. -/
structure Wr (w : World) (B lo : Nat) (xs : List Int) : Prop where
  own : ∃ v, w.cell? ⟨B, 0, none⟩ = some v ∧ w.ownsRow lo 5 1 v xs.length (ints .u8 xs)
  fr : ∀ o, w.frozen? ⟨B, o, none⟩ = false
  lt : B < lo
  le : lo ≤ w.heap.size

theorem Wr.below {w w' : World} {B lo : Nat} {xs : List Int} (h : Wr w B lo xs) (hb : Below w.heap.size w w') : Wr w' B lo xs := by
  obtain ⟨v, h1, h2⟩ := h.own
  have hl := h.lt; have hle := h.le
  exact ⟨⟨v, (hb.cell (p := ⟨B, 0, none⟩) (by show B < _; omega)).trans h1, own_below h2 hb⟩, fun o => (World.frozen?_of_block (w := w) (hb.block B (by omega))).trans (h.fr o), hl, Nat.le_trans hle hb.size⟩

/-- The writer's own append of what was made anew. -/
theorem Wr.step {w w1 : World} {B lo : Nat} {xs zs : List Int} {v x : Value} {n : Nat} (h : Wr w B lo xs) (hv : w.cell? ⟨B, 0, none⟩ = some v) (hb : Below w.heap.size w w1) (hx : w1.ownsRow w.heap.size 5 1 x n (ints .u8 zs)) (hn : xs.length + zs.length ≤ 1099511627776) (ty : TypeId) :
    ∃ av nv cv w2, (Builtin.append_ #[23, 23] ty #[v, x]).run Tryz.prog w1 = .ok (.slice av nv cv) w2 ∧ w2.frozen? ⟨B, 0, none⟩ = false ∧ (∃ u, w2.cell? ⟨B, 0, none⟩ = some u) ∧ Wr (w2.setCell ⟨B, 0, none⟩ (.slice av nv cv)) B lo (xs ++ zs) ∧ Wrote B lo w (w2.setCell ⟨B, 0, none⟩ (.slice av nv cv)) := by
  obtain ⟨v0, h1, h2⟩ := h.own
  rw [hv] at h1
  cases h1
  have hl := h.lt; have hle := h.le; have hs := hb.size
  have hw1 := h.below hb
  obtain ⟨_, hsee⟩ := sees_of_own hx
  have ho1 := own_below h2 hb
  obtain ⟨v', w2, hr, ho, hg⟩ := run_append_sees lo v xs ho1 x zs hsee hn (by omega) ty
  have hbk : w2.heap[B]? = w1.heap[B]? := hg.block B (by omega) (by
    intro e
    have := (ho1.lt B e.symm).1
    omega)
  have hc : w2.cell? ⟨B, 0, none⟩ = some v := (World.cell?_of_block (w := w1) hbk).trans ((hb.cell (p := ⟨B, 0, none⟩) (by show B < _; omega)).trans hv)
  have hf : ∀ o, w2.frozen? ⟨B, o, none⟩ = false := fun o => (World.frozen?_of_block (w := w1) hbk).trans (hw1.fr o)
  obtain ⟨av, cv, rfl⟩ := own_shape ho
  refine ⟨av, _, cv, w2, hr, hf 0, ⟨v, hc⟩, ⟨⟨_, World.cell?_setCell_same w2 _ _ hc, ?_⟩, fun o => by rw [World.frozen?_setCell]; exact hf o, hl, ?_⟩, (((Wrote.of hb).trans (Wrote.grown ho1 hg)).set 0 _)⟩
  · refine ho.kept (grownBy_setCell' w2 B _) ?_
    rcases ho.2 with ⟨e0, _⟩ | ⟨g, cap, cur, e0, hg', _⟩
    · exact .inl (by rw [e0]; rfl)
    · refine .inr fun e => ?_
      rw [e0] at e
      simp only [Value.ownBlock, Option.some.injEq] at e
      omega
  · have := hg.size
    simp [World.setCell]
    omega
end Go.Proofs.YtggllgimlfchhaaGreat
