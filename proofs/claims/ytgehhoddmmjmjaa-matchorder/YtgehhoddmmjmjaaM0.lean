/- What a book is in memory, the program's ('IsB') and the document's ('IsR'); what is kept beside it ('Upd'). -/
import Derived.Test.YtgehhoddmmjmjaaMP
import Derived.WalkKit
import Derived.Laws.AppendOwnNone
import Derived.Laws.IdiomStrings
namespace Go.Proofs.Ytgehhoddmmjmjaa
open Go.RowKit

/-- A fact kept from the walk. -/
theorem hide {p : Prop} (h : p) : Hid p := h
theorem unhide {p : Prop} (h : Hid p) : p := h

/-- All blocks below N but those of S are as they were. -/
structure Upd (S : Nat → Prop) (N : Nat) (w w' : World) : Prop where
  os : w'.os = w.os
  tape : w'.tape = w.tape
  output : w'.output = w.output
  size : w.heap.size ≤ w'.heap.size
  block : ∀ k, k < N → ¬ S k → w'.heap[k]? = w.heap[k]?

theorem Upd.refl (S : Nat → Prop) (N : Nat) (w : World) : Upd S N w w := ⟨rfl, rfl, rfl, Nat.le_refl _, fun _ _ _ => rfl⟩
theorem Upd.trans {S : Nat → Prop} {N : Nat} {a b c : World} (h : Upd S N a b) (k : Upd S N b c) : Upd S N a c :=
  ⟨k.os.trans h.os, k.tape.trans h.tape, k.output.trans h.output, Nat.le_trans h.size k.size, fun i hi hs => (k.block i hi hs).trans (h.block i hi hs)⟩
theorem Upd.mono {S S' : Nat → Prop} {N N' : Nat} {w w' : World} (h : Upd S N w w') (hN : N' ≤ N) (hS : ∀ k, k < N' → S k → S' k) : Upd S' N' w w' :=
  ⟨h.os, h.tape, h.output, h.size, fun k hk hs => h.block k (by omega) (fun c => hs (hS k hk c))⟩
theorem Upd.less {S : Nat → Prop} {N N' : Nat} {w w' : World} (h : Upd S N w w') (hN : N' ≤ N) : Upd S N' w w' := h.mono hN fun _ _ c => c
theorem Upd.drew {S : Nat → Prop} {N : Nat} {a w : World} (h : Upd S N a w) : Upd S N a w.drew := ⟨h.os, h.tape, h.output, h.size, h.block⟩
theorem Upd.alloc {S : Nat → Prop} {N : Nat} {a w : World} (h : Upd S N a w) (hN : N ≤ w.heap.size) (o : Obj) : Upd S N a (w.alloc o) :=
  h.trans ⟨rfl, rfl, rfl, by simp, fun k hk _ => Below.heap_alloc _ _ _ (by omega)⟩
theorem Upd.setCell {S : Nat → Prop} {N : Nat} {a w : World} (h : Upd S N a w) {p : Addr} (hp : S p.block ∨ N ≤ p.block) (u : Value) : Upd S N a (w.setCell p u) :=
  h.trans ⟨rfl, rfl, rfl, by simp [World.setCell], fun k hk hs => Below.heap_setCell _ _ _ _ (by rintro rfl; rcases hp with hp | hp; exact hs hp; omega)⟩
theorem Upd.of {S : Nat → Prop} {B : Nat} {w w' : World} (h : Below B w w') : Upd S B w w' := ⟨h.os, h.tape, h.output, h.size, fun k hk _ => h.block k hk⟩
theorem Upd.below {S : Nat → Prop} {N B : Nat} {w w' : World} (h : Upd S N w w') (hB : B ≤ N) (hS : ∀ k, k < B → ¬ S k) : Below B w w' := ⟨h.os, h.tape, h.output, h.size, fun k hk => h.block k (by omega) (hS k hk)⟩
theorem Upd.cell {S : Nat → Prop} {N : Nat} {w w' : World} (h : Upd S N w w') {p : Addr} (hp : p.block < N) (hs : ¬ S p.block) : w'.cell? p = w.cell? p := World.cell?_of_block (w := w) (h.block p.block hp hs)
theorem Upd.frozen {S : Nat → Prop} {N : Nat} {w w' : World} (h : Upd S N w w') {p : Addr} (hp : p.block < N) (hs : ¬ S p.block) : w'.frozen? p = w.frozen? p := World.frozen?_of_block (w := w) (h.block p.block hp hs)

theorem addr_ne {b b' o o' : Nat} (h : b ≠ b' ∨ o ≠ o') : (⟨b, o, none⟩ : Addr) ≠ ⟨b', o', none⟩ := by
  intro e; simp only [Addr.mk.injEq, and_true] at e; omega
theorem cs_other {w : World} {a b : Addr} {v : Value} (h : a ≠ b) : (w.setCell a v).cell? b = w.cell? b := World.cell?_setCell_other w a b v h
theorem cs_same {w : World} {a : Addr} {v u : Value} (h : w.cell? a = some u) : (w.setCell a v).cell? a = some v := World.cell?_setCell_same w a v h

/-- A leader's book: its group, its place, next and like of each, its own being the length. -/
structure Bk where
  n : Nat
  self : Nat
  nx : Nat → Int
  lk : Nat → Int

def Bk.len (B : Bk) : Int := B.lk B.self

structure Bk.Ok (B : Bk) : Prop where
  pos : 0 < B.n
  le : B.n ≤ 5
  me : B.self < B.n
  own : B.nx B.self = B.lk B.self
  l0 : ∀ i, i < B.n → 0 ≤ B.lk i
  ln : ∀ i, i < B.n → B.lk i ≤ B.nx i
  nl : ∀ i, i < B.n → B.nx i ≤ B.lk B.self
  lm : B.lk B.self ≤ 1099511627776

/-- The pointer to a block. -/
abbrev P0 (h : Nat) : Value := .pointer (some ⟨h, 0, none⟩)

/-- The program's book B lies at block h. -/
structure IsB (w : World) (h : Nat) (B : Bk) : Prop where
  c0 : w.cell? ⟨h, 0, none⟩ = some (.int .i64 B.n)
  c1 : w.cell? ⟨h, 1, none⟩ = some (.int .i64 B.self)
  cn : ∀ i, i < 5 → w.cell? ⟨h, 2 + i * 2, none⟩ = some (.int .i64 (B.nx i))
  cl : ∀ i, i < 5 → w.cell? ⟨h, 2 + i * 2 + 1, none⟩ = some (.int .i64 (B.lk i))
  fr : ∀ o, w.frozen? ⟨h, o, none⟩ = false

/-- The document's book B lies at block r, its numbers at blocks b and d. -/
structure IsR (w : World) (r b cb d cd : Nat) (B : Bk) : Prop where
  rb : r ≠ b
  rd : r ≠ d
  bd : b ≠ d
  fb : B.n ≤ cb
  fd : B.n ≤ cd
  c0 : w.cell? ⟨r, 0, none⟩ = some (.int .i64 B.n)
  c1 : w.cell? ⟨r, 1, none⟩ = some (.int .i64 B.self)
  c2 : w.cell? ⟨r, 2, none⟩ = some (.int .i64 (B.lk B.self))
  c3 : w.cell? ⟨r, 3, none⟩ = some (.slice (some ⟨b, 0, none⟩) B.n cb)
  c4 : w.cell? ⟨r, 4, none⟩ = some (.slice (some ⟨d, 0, none⟩) B.n cd)
  cx : ∀ i, i < B.n → i ≠ B.self → w.cell? ⟨b, i, none⟩ = some (.int .i64 (B.nx i))
  cy : ∀ i, i < B.n → i ≠ B.self → w.cell? ⟨d, i, none⟩ = some (.int .i64 (B.lk i))
  lb : b < w.heap.size
  ld : d < w.heap.size
  frR : ∀ o, w.frozen? ⟨r, o, none⟩ = false
  frB : ∀ o, w.frozen? ⟨b, o, none⟩ = false
  frD : ∀ o, w.frozen? ⟨d, o, none⟩ = false

theorem IsB.lt {w : World} {h : Nat} {B : Bk} (H : IsB w h B) : h < w.heap.size := World.block_lt_of_cell? w _ H.c0
theorem IsR.lt {w : World} {r b cb d cd : Nat} {B : Bk} (H : IsR w r b cb d cd B) : r < w.heap.size := World.block_lt_of_cell? w _ H.c0

theorem IsB.keepB {w w' : World} {h : Nat} {B : Bk} (H : IsB w h B) (hh : w'.heap[h]? = w.heap[h]?) : IsB w' h B := by
  have ch : ∀ o, w'.cell? ⟨h, o, none⟩ = w.cell? ⟨h, o, none⟩ := fun o => World.cell?_of_block (w := w) hh
  have fh : ∀ o, w'.frozen? ⟨h, o, none⟩ = w.frozen? ⟨h, o, none⟩ := fun o => World.frozen?_of_block (w := w) hh
  exact ⟨by rw [ch, H.c0], by rw [ch, H.c1], fun i hi => by rw [ch, H.cn i hi], fun i hi => by rw [ch, H.cl i hi], fun o => by rw [fh, H.fr]⟩
theorem IsB.below {w w' : World} {h : Nat} {B : Bk} (H : IsB w h B) (hb : Below w.heap.size w w') : IsB w' h B := H.keepB (hb.block h H.lt)
theorem IsB.upd {w w' : World} {h N : Nat} {B : Bk} {S : Nat → Prop} (H : IsB w h B) (hb : Upd S N w w') (hN : w.heap.size ≤ N) (hh : ¬ S h) : IsB w' h B :=
  H.keepB (hb.block h (by have := H.lt; omega) hh)
theorem IsB.alloc {w : World} {h : Nat} {B : Bk} (H : IsB w h B) (o : Obj) : IsB (w.alloc o) h B := H.below ((Below.refl _ _).alloc (Nat.le_refl _) o)
theorem IsB.drew {w : World} {h : Nat} {B : Bk} (H : IsB w h B) : IsB w.drew h B := H.keepB rfl
theorem IsB.ext {w : World} {h : Nat} {B C : Bk} (H : IsB w h B) (hn : B.n = C.n) (hs : B.self = C.self) (hx : ∀ i, i < 5 → B.nx i = C.nx i) (hl : ∀ i, i < 5 → B.lk i = C.lk i) : IsB w h C :=
  ⟨by rw [← hn]; exact H.c0, by rw [← hs]; exact H.c1, fun i hi => by rw [← hx i hi]; exact H.cn i hi, fun i hi => by rw [← hl i hi]; exact H.cl i hi, H.fr⟩

theorem IsR.keepB {w w' : World} {r b cb d cd : Nat} {B : Bk} (H : IsR w r b cb d cd B) (hr : w'.heap[r]? = w.heap[r]?) (hb : w'.heap[b]? = w.heap[b]?) (hd : w'.heap[d]? = w.heap[d]?) : IsR w' r b cb d cd B := by
  have cr : ∀ o, w'.cell? ⟨r, o, none⟩ = w.cell? ⟨r, o, none⟩ := fun o => World.cell?_of_block (w := w) hr
  have fr : ∀ o, w'.frozen? ⟨r, o, none⟩ = w.frozen? ⟨r, o, none⟩ := fun o => World.frozen?_of_block (w := w) hr
  have kb : ∀ o, w'.cell? ⟨b, o, none⟩ = w.cell? ⟨b, o, none⟩ := fun o => World.cell?_of_block (w := w) hb
  have fb : ∀ o, w'.frozen? ⟨b, o, none⟩ = w.frozen? ⟨b, o, none⟩ := fun o => World.frozen?_of_block (w := w) hb
  have kd : ∀ o, w'.cell? ⟨d, o, none⟩ = w.cell? ⟨d, o, none⟩ := fun o => World.cell?_of_block (w := w) hd
  have fd : ∀ o, w'.frozen? ⟨d, o, none⟩ = w.frozen? ⟨d, o, none⟩ := fun o => World.frozen?_of_block (w := w) hd
  have e1 : b < w'.heap.size := by
    rw [Array.getElem?_eq_getElem H.lb] at hb; exact (Array.getElem?_eq_some_iff.1 hb).1
  have e2 : d < w'.heap.size := by
    rw [Array.getElem?_eq_getElem H.ld] at hd; exact (Array.getElem?_eq_some_iff.1 hd).1
  exact ⟨H.rb, H.rd, H.bd, H.fb, H.fd, by rw [cr, H.c0], by rw [cr, H.c1], by rw [cr, H.c2], by rw [cr, H.c3], by rw [cr, H.c4], fun i hi hs => by rw [kb, H.cx i hi hs], fun i hi hs => by rw [kd, H.cy i hi hs], e1, e2, fun o => by rw [fr, H.frR], fun o => by rw [fb, H.frB], fun o => by rw [fd, H.frD]⟩
theorem IsR.below {w w' : World} {r b cb d cd : Nat} {B : Bk} (H : IsR w r b cb d cd B) (hb : Below w.heap.size w w') : IsR w' r b cb d cd B := H.keepB (hb.block r H.lt) (hb.block b H.lb) (hb.block d H.ld)
theorem IsR.upd {w w' : World} {r b cb d cd N : Nat} {B : Bk} {S : Nat → Prop} (H : IsR w r b cb d cd B) (hb : Upd S N w w') (hN : w.heap.size ≤ N) (hr : ¬ S r) (hs : ¬ S b) (hd : ¬ S d) : IsR w' r b cb d cd B :=
  H.keepB (hb.block r (by have := H.lt; omega) hr) (hb.block b (by have := H.lb; omega) hs) (hb.block d (by have := H.ld; omega) hd)
theorem IsR.drew {w : World} {r b cb d cd : Nat} {B : Bk} (H : IsR w r b cb d cd B) : IsR w.drew r b cb d cd B := H.keepB rfl rfl rfl

/-- One number set. -/
def set1 (f : Nat → Int) (i : Nat) (x : Int) : Nat → Int := fun j => if j = i then x else f j
theorem set1_at (f : Nat → Int) (i : Nat) (x : Int) : set1 f i x i = x := by simp [set1]
theorem set1_ne (f : Nat → Int) {i j : Nat} (x : Int) (h : j ≠ i) : set1 f i x j = f j := by simp [set1, h]

/-- A number of the program's book is written. -/
theorem IsB.setNx {w : World} {h : Nat} {B : Bk} (H : IsB w h B) (i : Nat) (hi : i < 5) (x : Int) : IsB (w.setCell ⟨h, 2 + i * 2, none⟩ (.int .i64 x)) h { B with nx := set1 B.nx i x } := by
  have ch : ∀ o, o ≠ 2 + i * 2 → (w.setCell ⟨h, 2 + i * 2, none⟩ (.int .i64 x)).cell? ⟨h, o, none⟩ = w.cell? ⟨h, o, none⟩ := fun o ho => cs_other (addr_ne (Or.inr ho.symm))
  refine ⟨by rw [ch 0 (by omega)]; exact H.c0, by rw [ch 1 (by omega)]; exact H.c1, fun j hj => ?_, fun j hj => by rw [ch _ (by omega)]; exact H.cl j hj, fun o => by rw [World.frozen?_setCell]; exact H.fr o⟩
  show _ = some (Value.int .i64 (set1 B.nx i x j))
  by_cases c : j = i
  · subst c; rw [set1_at]; exact cs_same (H.cn j hj)
  · rw [set1_ne _ _ c, ch _ (by omega)]; exact H.cn j hj
theorem IsB.setLk {w : World} {h : Nat} {B : Bk} (H : IsB w h B) (i : Nat) (hi : i < 5) (x : Int) : IsB (w.setCell ⟨h, 2 + i * 2 + 1, none⟩ (.int .i64 x)) h { B with lk := set1 B.lk i x } := by
  have ch : ∀ o, o ≠ 2 + i * 2 + 1 → (w.setCell ⟨h, 2 + i * 2 + 1, none⟩ (.int .i64 x)).cell? ⟨h, o, none⟩ = w.cell? ⟨h, o, none⟩ := fun o ho => cs_other (addr_ne (Or.inr ho.symm))
  refine ⟨by rw [ch 0 (by omega)]; exact H.c0, by rw [ch 1 (by omega)]; exact H.c1, fun j hj => by rw [ch _ (by omega)]; exact H.cn j hj, fun j hj => ?_, fun o => by rw [World.frozen?_setCell]; exact H.fr o⟩
  show _ = some (Value.int .i64 (set1 B.lk i x j))
  by_cases c : j = i
  · subst c; rw [set1_at]; exact cs_same (H.cl j hj)
  · rw [set1_ne _ _ c, ch _ (by omega)]; exact H.cl j hj

/-- What no call made: nil, or a struct whose group is of no replicas. -/
def IsNo (w : World) (v : Value) : Prop := v = .pointer none ∨ ∃ h, v = .pointer (some ⟨h, 0, none⟩) ∧ w.cell? ⟨h, 0, none⟩ = some (.int .i64 0)
theorem IsNo.drew {w : World} {v : Value} (h : IsNo w v) : IsNo w.drew v := h
theorem IsNo.below {w w' : World} {v : Value} (h : IsNo w v) (hb : Below w.heap.size w w') : IsNo w' v := by
  rcases h with rfl | ⟨k, rfl, hc⟩
  · exact Or.inl rfl
  · exact Or.inr ⟨k, rfl, (hb.cell (p := ⟨k, 0, none⟩) (World.block_lt_of_cell? w _ hc)).trans hc⟩

end Go.Proofs.Ytgehhoddmmjmjaa
