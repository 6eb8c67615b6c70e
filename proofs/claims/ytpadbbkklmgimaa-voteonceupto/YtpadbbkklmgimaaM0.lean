/- What a vote is in memory, the program's ('IsV') and the document's ('IsR'); what is kept beside it ('Upd'). -/
import Derived.WalkKit
import Derived.Laws.AppendOwnNone
import Derived.Laws.IdiomStrings
namespace Go.Proofs.Ytpadbbkklmgimaa
open Go.RowKit

/-- A fact kept from the walk. -/
theorem hide {p : Prop} (h : p) : Hid p := h
theorem unhide {p : Prop} (h : Hid p) : p := h

/-- All blocks below N but those of S are as they were. -/
structure Upd (S : Nat → Prop) (N : Nat) (w w' : World) : Prop where
  os : w'.os = w.os
  tape : w'.tape = w.tape
  output : w'.output = w.output
  size : w.heap.size ≤ w'.heap.size
  block : ∀ k, k < N → ¬ S k → w'.heap[k]? = w.heap[k]?

theorem Upd.refl (S : Nat → Prop) (N : Nat) (w : World) : Upd S N w w := ⟨rfl, rfl, rfl, Nat.le_refl _, fun _ _ _ => rfl⟩
theorem Upd.trans {S : Nat → Prop} {N : Nat} {a b c : World} (h : Upd S N a b) (k : Upd S N b c) : Upd S N a c :=
  ⟨k.os.trans h.os, k.tape.trans h.tape, k.output.trans h.output, Nat.le_trans h.size k.size, fun i hi hs => (k.block i hi hs).trans (h.block i hi hs)⟩
theorem Upd.mono {S S' : Nat → Prop} {N N' : Nat} {w w' : World} (h : Upd S N w w') (hN : N' ≤ N) (hS : ∀ k, k < N' → S k → S' k) : Upd S' N' w w' :=
  ⟨h.os, h.tape, h.output, h.size, fun k hk hs => h.block k (by omega) (fun c => hs (hS k hk c))⟩
theorem Upd.less {S : Nat → Prop} {N N' : Nat} {w w' : World} (h : Upd S N w w') (hN : N' ≤ N) : Upd S N' w w' := h.mono hN fun _ _ c => c
theorem Upd.drew {S : Nat → Prop} {N : Nat} {a w : World} (h : Upd S N a w) : Upd S N a w.drew := ⟨h.os, h.tape, h.output, h.size, h.block⟩
theorem Upd.alloc {S : Nat → Prop} {N : Nat} {a w : World} (h : Upd S N a w) (hN : N ≤ w.heap.size) (o : Obj) : Upd S N a (w.alloc o) :=
  h.trans ⟨rfl, rfl, rfl, by simp, fun k hk _ => Below.heap_alloc _ _ _ (by omega)⟩
theorem Upd.setCell {S : Nat → Prop} {N : Nat} {a w : World} (h : Upd S N a w) {p : Addr} (hp : S p.block ∨ N ≤ p.block) (u : Value) : Upd S N a (w.setCell p u) :=
  h.trans ⟨rfl, rfl, rfl, by simp [World.setCell], fun k hk hs => Below.heap_setCell _ _ _ _ (by rintro rfl; rcases hp with hp | hp; exact hs hp; omega)⟩
theorem Upd.of {S : Nat → Prop} {B : Nat} {w w' : World} (h : Below B w w') : Upd S B w w' := ⟨h.os, h.tape, h.output, h.size, fun k hk _ => h.block k hk⟩
theorem Upd.below {S : Nat → Prop} {N B : Nat} {w w' : World} (h : Upd S N w w') (hB : B ≤ N) (hS : ∀ k, k < B → ¬ S k) : Below B w w' := ⟨h.os, h.tape, h.output, h.size, fun k hk => h.block k (by omega) (hS k hk)⟩
theorem Upd.cell {S : Nat → Prop} {N : Nat} {w w' : World} (h : Upd S N w w') {p : Addr} (hp : p.block < N) (hs : ¬ S p.block) : w'.cell? p = w.cell? p := World.cell?_of_block (w := w) (h.block p.block hp hs)
theorem Upd.frozen {S : Nat → Prop} {N : Nat} {w w' : World} (h : Upd S N w w') {p : Addr} (hp : p.block < N) (hs : ¬ S p.block) : w'.frozen? p = w.frozen? p := World.frozen?_of_block (w := w) (h.block p.block hp hs)

theorem addr_ne {b b' o o' : Nat} (h : b ≠ b' ∨ o ≠ o') : (⟨b, o, none⟩ : Addr) ≠ ⟨b', o', none⟩ := by
  intro e; simp only [Addr.mk.injEq, and_true] at e; omega
theorem cs_other {w : World} {a b : Addr} {v : Value} (h : a ≠ b) : (w.setCell a v).cell? b = w.cell? b := World.cell?_setCell_other w a b v h
theorem cs_same {w : World} {a : Addr} {v u : Value} (h : w.cell? a = some u) : (w.setCell a v).cell? a = some v := World.cell?_setCell_same w a v h

/-- A replica's vote: its group, its place, its term, to whom its vote is given, whose votes it has. -/
structure Vt where
  n : Nat
  self : Nat
  term : Int
  voted : Int
  vt : Nat → Bool

structure Vt.Ok (V : Vt) : Prop where
  pos : 0 < V.n
  le : V.n ≤ 5
  me : V.self < V.n
  t0 : 0 ≤ V.term
  t1 : V.term ≤ 1099511627776
  v0 : -1 ≤ V.voted
  v1 : V.voted < V.n

/-- The pointer to a block. -/
abbrev P0 (h : Nat) : Value := .pointer (some ⟨h, 0, none⟩)

/-- The program's vote V lies at block h. -/
structure IsV (w : World) (h : Nat) (V : Vt) : Prop where
  c0 : w.cell? ⟨h, 0, none⟩ = some (.int .i64 V.n)
  c1 : w.cell? ⟨h, 1, none⟩ = some (.int .i64 V.self)
  c2 : w.cell? ⟨h, 2, none⟩ = some (.int .i64 V.term)
  c3 : w.cell? ⟨h, 3, none⟩ = some (.int .i64 V.voted)
  cv : ∀ i, i < 5 → w.cell? ⟨h, 4 + i, none⟩ = some (.bool (V.vt i))
  fr : ∀ o, w.frozen? ⟨h, o, none⟩ = false

/-- The document's vote V lies at block r, its votes at block b. -/
structure IsR (w : World) (r b cap : Nat) (V : Vt) : Prop where
  ne : r ≠ b
  fit : V.n ≤ cap
  c0 : w.cell? ⟨r, 0, none⟩ = some (.int .i64 V.n)
  c1 : w.cell? ⟨r, 1, none⟩ = some (.int .i64 V.self)
  c2 : w.cell? ⟨r, 2, none⟩ = some (.int .i64 V.term)
  c3 : w.cell? ⟨r, 3, none⟩ = some (.int .i64 V.voted)
  c4 : w.cell? ⟨r, 4, none⟩ = some (.bool (V.vt V.self))
  c5 : w.cell? ⟨r, 5, none⟩ = some (.slice (some ⟨b, 0, none⟩) V.n cap)
  cv : ∀ i, i < V.n → w.cell? ⟨b, i, none⟩ = some (.bool (V.vt i))
  frR : ∀ o, w.frozen? ⟨r, o, none⟩ = false
  frB : ∀ o, w.frozen? ⟨b, o, none⟩ = false

theorem IsV.lt {w : World} {h : Nat} {V : Vt} (H : IsV w h V) : h < w.heap.size := World.block_lt_of_cell? w _ H.c0
theorem IsR.rlt {w : World} {r b cap : Nat} {V : Vt} (H : IsR w r b cap V) : r < w.heap.size := World.block_lt_of_cell? w _ H.c0
theorem IsR.blt {w : World} {r b cap : Nat} {V : Vt} (H : IsR w r b cap V) (h0 : 0 < V.n) : b < w.heap.size := World.block_lt_of_cell? w _ (H.cv 0 h0)

theorem IsV.keepB {w w' : World} {h : Nat} {V : Vt} (H : IsV w h V) (hh : w'.heap[h]? = w.heap[h]?) : IsV w' h V := by
  have ch : ∀ o, w'.cell? ⟨h, o, none⟩ = w.cell? ⟨h, o, none⟩ := fun o => World.cell?_of_block (w := w) hh
  have fh : ∀ o, w'.frozen? ⟨h, o, none⟩ = w.frozen? ⟨h, o, none⟩ := fun o => World.frozen?_of_block (w := w) hh
  exact ⟨by rw [ch, H.c0], by rw [ch, H.c1], by rw [ch, H.c2], by rw [ch, H.c3], fun i hi => by rw [ch, H.cv i hi], fun o => by rw [fh, H.fr]⟩
theorem IsV.below {w w' : World} {h : Nat} {V : Vt} (H : IsV w h V) (hb : Below w.heap.size w w') : IsV w' h V := H.keepB (hb.block h H.lt)
theorem IsV.upd {w w' : World} {h N : Nat} {V : Vt} {S : Nat → Prop} (H : IsV w h V) (hb : Upd S N w w') (hN : w.heap.size ≤ N) (hh : ¬ S h) : IsV w' h V :=
  H.keepB (hb.block h (by have := H.lt; omega) hh)
theorem IsV.alloc {w : World} {h : Nat} {V : Vt} (H : IsV w h V) (o : Obj) : IsV (w.alloc o) h V := H.below ((Below.refl _ _).alloc (Nat.le_refl _) o)
theorem IsV.drew {w : World} {h : Nat} {V : Vt} (H : IsV w h V) : IsV w.drew h V := H.keepB rfl

theorem IsR.keepB {w w' : World} {r b cap : Nat} {V : Vt} (H : IsR w r b cap V) (hr : w'.heap[r]? = w.heap[r]?) (hb : w'.heap[b]? = w.heap[b]?) : IsR w' r b cap V := by
  have cr : ∀ o, w'.cell? ⟨r, o, none⟩ = w.cell? ⟨r, o, none⟩ := fun o => World.cell?_of_block (w := w) hr
  have fr : ∀ o, w'.frozen? ⟨r, o, none⟩ = w.frozen? ⟨r, o, none⟩ := fun o => World.frozen?_of_block (w := w) hr
  have cb : ∀ o, w'.cell? ⟨b, o, none⟩ = w.cell? ⟨b, o, none⟩ := fun o => World.cell?_of_block (w := w) hb
  have fb : ∀ o, w'.frozen? ⟨b, o, none⟩ = w.frozen? ⟨b, o, none⟩ := fun o => World.frozen?_of_block (w := w) hb
  exact ⟨H.ne, H.fit, by rw [cr, H.c0], by rw [cr, H.c1], by rw [cr, H.c2], by rw [cr, H.c3], by rw [cr, H.c4], by rw [cr, H.c5], fun i hi => by rw [cb, H.cv i hi], fun o => by rw [fr, H.frR], fun o => by rw [fb, H.frB]⟩
theorem IsR.below {w w' : World} {r b cap : Nat} {V : Vt} (H : IsR w r b cap V) (h0 : 0 < V.n) (hb : Below w.heap.size w w') : IsR w' r b cap V := H.keepB (hb.block r H.rlt) (hb.block b (H.blt h0))
theorem IsR.upd {w w' : World} {r b cap N : Nat} {V : Vt} {S : Nat → Prop} (H : IsR w r b cap V) (h0 : 0 < V.n) (hb : Upd S N w w') (hN : w.heap.size ≤ N) (hr : ¬ S r) (hs : ¬ S b) : IsR w' r b cap V :=
  H.keepB (hb.block r (by have := H.rlt; omega) hr) (hb.block b (by have := H.blt h0; omega) hs)

/-- A cell of the program's vote is written. -/
theorem IsV.setTerm {w : World} {h : Nat} {V : Vt} (H : IsV w h V) (t : Int) : IsV (w.setCell ⟨h, 2, none⟩ (.int .i64 t)) h { V with term := t } := by
  have ch : ∀ o, o ≠ 2 → (w.setCell ⟨h, 2, none⟩ (.int .i64 t)).cell? ⟨h, o, none⟩ = w.cell? ⟨h, o, none⟩ := fun o ho => cs_other (addr_ne (Or.inr ho.symm))
  exact ⟨by rw [ch 0 (by decide)]; exact H.c0, by rw [ch 1 (by decide)]; exact H.c1, cs_same H.c2, by rw [ch 3 (by decide)]; exact H.c3, fun i hi => by rw [ch _ (by omega)]; exact H.cv i hi, fun o => by rw [World.frozen?_setCell]; exact H.fr o⟩
theorem IsV.setVoted {w : World} {h : Nat} {V : Vt} (H : IsV w h V) (t : Int) : IsV (w.setCell ⟨h, 3, none⟩ (.int .i64 t)) h { V with voted := t } := by
  have ch : ∀ o, o ≠ 3 → (w.setCell ⟨h, 3, none⟩ (.int .i64 t)).cell? ⟨h, o, none⟩ = w.cell? ⟨h, o, none⟩ := fun o ho => cs_other (addr_ne (Or.inr ho.symm))
  exact ⟨by rw [ch 0 (by decide)]; exact H.c0, by rw [ch 1 (by decide)]; exact H.c1, by rw [ch 2 (by decide)]; exact H.c2, cs_same H.c3, fun i hi => by rw [ch _ (by omega)]; exact H.cv i hi, fun o => by rw [World.frozen?_setCell]; exact H.fr o⟩
def Vt.setVt (V : Vt) (i : Nat) (x : Bool) : Vt := { V with vt := fun j => if j = i then x else V.vt j }
theorem IsV.setVt {w : World} {h : Nat} {V : Vt} (H : IsV w h V) (i : Nat) (hi : i < 5) (x : Bool) : IsV (w.setCell ⟨h, 4 + i, none⟩ (.bool x)) h (V.setVt i x) := by
  have ch : ∀ o, o ≠ 4 + i → (w.setCell ⟨h, 4 + i, none⟩ (.bool x)).cell? ⟨h, o, none⟩ = w.cell? ⟨h, o, none⟩ := fun o ho => cs_other (addr_ne (Or.inr ho.symm))
  refine ⟨by rw [ch 0 (by omega)]; exact H.c0, by rw [ch 1 (by omega)]; exact H.c1, by rw [ch 2 (by omega)]; exact H.c2, by rw [ch 3 (by omega)]; exact H.c3, fun j hj => ?_, fun o => by rw [World.frozen?_setCell]; exact H.fr o⟩
  show _ = some (Value.bool (if j = i then x else V.vt j))
  by_cases c : j = i
  · subst c; rw [if_pos rfl]; exact cs_same (H.cv j hi)
  · rw [if_neg c, ch _ (by omega)]; exact H.cv j hj

/-- What no call made: nil, or a struct whose group is of no replicas. -/
def IsNo (w : World) (v : Value) : Prop := v = .pointer none ∨ ∃ h, v = .pointer (some ⟨h, 0, none⟩) ∧ w.cell? ⟨h, 0, none⟩ = some (.int .i64 0)
theorem IsNo.drew {w : World} {v : Value} (h : IsNo w v) : IsNo w.drew v := h
theorem IsNo.below {w w' : World} {v : Value} (h : IsNo w v) (hb : Below w.heap.size w w') : IsNo w' v := by
  rcases h with rfl | ⟨k, rfl, hc⟩
  · exact Or.inl rfl
  · exact Or.inr ⟨k, rfl, (hb.cell (p := ⟨k, 0, none⟩) (World.block_lt_of_cell? w _ hc)).trans hc⟩

end Go.Proofs.Ytpadbbkklmgimaa
