/- Record: the reader. -/
import Derived.Test.YtoddemcmmijoaaaKY
namespace Go.Proofs.Ytoddemcmmijoaaa
open Go.RowKit
set_option maxRecDepth 100000

/-- Only block R is written. -/
structure But (R : Nat) (w w' : World) : Prop where
  os : w'.os = w.os
  tape : w'.tape = w.tape
  output : w'.output = w.output
  size : w.heap.size ≤ w'.heap.size
  block : ∀ k, k < w.heap.size → k ≠ R → w'.heap[k]? = w.heap[k]?
theorem But.refl (R : Nat) (w : World) : But R w w := ⟨rfl, rfl, rfl, Nat.le_refl _, fun _ _ _ => rfl⟩
theorem But.trans {R : Nat} {a b c : World} (h : But R a b) (k : But R b c) : But R a c :=
  ⟨k.os.trans h.os, k.tape.trans h.tape, k.output.trans h.output, Nat.le_trans h.size k.size, fun i hi hR => (k.block i (Nat.lt_of_lt_of_le hi h.size) hR).trans (h.block i hi hR)⟩
theorem But.of {R : Nat} {w w' : World} (h : Below w.heap.size w w') : But R w w' := ⟨h.os, h.tape, h.output, h.size, fun k hk _ => h.block k hk⟩
theorem But.set {R : Nat} {a w : World} (h : But R a w) (o : Nat) (u : Value) : But R a (w.setCell ⟨R, o, none⟩ u) :=
  h.trans ⟨rfl, rfl, rfl, by simp [World.setCell], fun k _ hR => Below.heap_setCell _ _ _ _ (fun e => hR e)⟩
theorem But.below {R N : Nat} {w w' : World} (h : But R w w') (hN : N ≤ R) (hs : N ≤ w.heap.size) : Below N w w' := ⟨h.os, h.tape, h.output, h.size, fun k hk => h.block k (by omega) (by omega)⟩

/-- The reader at block R: what is left, the first error, whether a number did not fit. -/
structure Rd (w : World) (R lo : Nat) (zs : List Int) (er : Int) (un : Bool) : Prop where
  cb : ∃ v, w.cell? ⟨R, 0, none⟩ = some v ∧ SeesB lo w .u8 v zs
  ce : w.cell? ⟨R, 1, none⟩ = some (.int .i64 er)
  cu : w.cell? ⟨R, 2, none⟩ = some (.bool un)
  fr : ∀ o, w.frozen? ⟨R, o, none⟩ = false
  lt : lo ≤ R
  byt : Byt zs
  len : zs.length ≤ 140737488351232
theorem Rd.rlt {w : World} {R lo : Nat} {zs : List Int} {er : Int} {un : Bool} (h : Rd w R lo zs er un) : R < w.heap.size := World.block_lt_of_cell? w _ h.ce
theorem Rd.below {w w' : World} {R lo : Nat} {zs : List Int} {er : Int} {un : Bool} (h : Rd w R lo zs er un) (hb : Below w.heap.size w w') : Rd w' R lo zs er un := by
  obtain ⟨v, h1, h2⟩ := h.cb
  have hr := h.rlt
  have hl := h.lt
  have c : ∀ o u, w.cell? ⟨R, o, none⟩ = some u → w'.cell? ⟨R, o, none⟩ = some u := fun o u e => (hb.cell (p := ⟨R, o, none⟩) hr).trans e
  exact ⟨⟨v, c _ _ h1, h2.below hb (by omega)⟩, c _ _ h.ce, c _ _ h.cu, fun o => (World.frozen?_of_block (w := w) (hb.block R hr)).trans (h.fr o), hl, h.byt, h.len⟩
theorem SeesB.setR {w : World} {R lo : Nat} {v : Value} {zs : List Int} (h : SeesB lo w .u8 v zs) (hl : lo ≤ R) (o : Nat) (u : Value) : SeesB lo (w.setCell ⟨R, o, none⟩ u) .u8 v zs :=
  h.below (B' := lo) ⟨rfl, rfl, rfl, by simp [World.setCell], fun k hk => Below.heap_setCell _ _ _ _ (fun e => by simp only at e; omega)⟩ (Nat.le_refl _)
/-- What is left, and the error, are set. -/
theorem Rd.set {w : World} {R lo : Nat} {zs zs' : List Int} {er er' : Int} {un : Bool} {v : Value} (h : Rd w R lo zs er un) (hv : SeesB lo w .u8 v zs') (hb : Byt zs') (hn : zs'.length ≤ 140737488351232) :
    Rd ((w.setCell ⟨R, 0, none⟩ v).setCell ⟨R, 1, none⟩ (.int .i64 er')) R lo zs' er' un := by
  obtain ⟨v0, h1, _⟩ := h.cb
  have n01 : (⟨R, 0, none⟩ : Addr) ≠ ⟨R, 1, none⟩ := by simp
  have n10 : (⟨R, 1, none⟩ : Addr) ≠ ⟨R, 0, none⟩ := by simp
  have n12 : (⟨R, 1, none⟩ : Addr) ≠ ⟨R, 2, none⟩ := by simp
  have n02 : (⟨R, 0, none⟩ : Addr) ≠ ⟨R, 2, none⟩ := by simp
  have e1 : (w.setCell ⟨R, 0, none⟩ v).cell? ⟨R, 1, none⟩ = some (.int .i64 er) := (World.cell?_setCell_other _ _ _ _ n01).trans h.ce
  refine ⟨⟨v, (World.cell?_setCell_other _ _ _ _ n10).trans (World.cell?_setCell_same _ _ _ h1), (hv.setR h.lt _ _).setR h.lt _ _⟩, World.cell?_setCell_same _ _ _ e1,
    (World.cell?_setCell_other _ _ _ _ n12).trans ((World.cell?_setCell_other _ _ _ _ n02).trans h.cu), fun o => ?_, h.lt, hb, hn⟩
  rw [World.frozen?_setCell, World.frozen?_setCell]
  exact h.fr o
theorem Rd.err {w : World} {R lo : Nat} {zs : List Int} {er er' : Int} {un : Bool} (h : Rd w R lo zs er un) : Rd (w.setCell ⟨R, 1, none⟩ (.int .i64 er')) R lo zs er' un := by
  obtain ⟨v0, h1, h2⟩ := h.cb
  have n10 : (⟨R, 1, none⟩ : Addr) ≠ ⟨R, 0, none⟩ := by simp
  have n12 : (⟨R, 1, none⟩ : Addr) ≠ ⟨R, 2, none⟩ := by simp
  refine ⟨⟨v0, (World.cell?_setCell_other _ _ _ _ n10).trans h1, h2.setR h.lt _ _⟩, World.cell?_setCell_same _ _ _ h.ce, (World.cell?_setCell_other _ _ _ _ n12).trans h.cu, fun o => ?_, h.lt, h.byt, h.len⟩
  rw [World.frozen?_setCell]
  exact h.fr o
theorem Rd.odd {w : World} {R lo : Nat} {zs : List Int} {er : Int} {un un' : Bool} (h : Rd w R lo zs er un) : Rd (w.setCell ⟨R, 2, none⟩ (.bool un')) R lo zs er un' := by
  obtain ⟨v0, h1, h2⟩ := h.cb
  have n20 : (⟨R, 2, none⟩ : Addr) ≠ ⟨R, 0, none⟩ := by simp
  have n21 : (⟨R, 2, none⟩ : Addr) ≠ ⟨R, 1, none⟩ := by simp
  refine ⟨⟨v0, (World.cell?_setCell_other _ _ _ _ n20).trans h1, h2.setR h.lt _ _⟩, (World.cell?_setCell_other _ _ _ _ n21).trans h.ce, World.cell?_setCell_same _ _ _ h.cu, fun o => ?_, h.lt, h.byt, h.len⟩
  rw [World.frozen?_setCell]
  exact h.fr o

/-! ### in pure terms: a reader is (what is left, the first error, unfit) -/
structure RS where
  zs : List Int
  er : Int
  un : Bool
def RS.num (s : RS) : Int × RS := if s.er = 0 then ((tn s.zs).1, ⟨s.zs.drop (tn s.zs).2.1, (tn s.zs).2.2, s.un⟩) else (0, s)
def RS.blob (s : RS) : List Int × RS := if s.er = 0 then ((tb s.zs).1, ⟨s.zs.drop (tb s.zs).2.1, (tb s.zs).2.2, s.un⟩) else ([], s)
def RS.must (s : RS) (b : Bool) : RS := if !b && decide (s.er = 0) then { s with er := 40 } else s
abbrev RdS (w : World) (R lo : Nat) (s : RS) : Prop := Rd w R lo s.zs s.er s.un

theorem tn_size (l : List Int) : (tn l).2.1 ≤ l.length := by
  by_cases h : (tn l).2.2 = 0
  · exact (tn_le l h).2
  · rw [(tn_no l h).2]; omega
theorem tb_size (l : List Int) : (tb l).2.1 ≤ l.length := by
  unfold tb
  split
  · simp
  · split
    · simp
    · rename_i h1 _
      split
      · simp
      · rename_i h2
        have := (tn_le l (by simpa using h1)).2
        simp only
        omega
/-- A row of one's own, behind a store into an elder block. -/
theorem own_setR {w : World} {base R e size : Nat} {v : Value} {n : Nat} {xs : List Value} (h : w.ownsRow base e size v n xs) (hR : R < base) (o : Nat) (u : Value) : (w.setCell ⟨R, o, none⟩ u).ownsRow base e size v n xs := by
  refine ⟨h.1, ?_⟩
  rcases h.2 with hn | ⟨g, cap, cur, hv, hg, hh, r⟩
  · exact .inl hn
  · exact .inr ⟨g, cap, cur, hv, hg, (Below.heap_setCell _ _ _ _ (fun e => by simp only at e; omega)).trans hh, r⟩

end Go.Proofs.Ytoddemcmmijoaaa
