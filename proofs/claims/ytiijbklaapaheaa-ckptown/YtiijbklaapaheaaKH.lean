/- Several texts as one. -/
import Derived.Test.YtiijbklaapaheaaMath
import Derived.WalkKit
import Derived.Laws.AppendOwnNone
import Derived.Laws.IdiomStrings
import Derived.Test.YtiijbklaapaheaaKJ
import Derived.Test.YtiijbklaapaheaaRW

/- What a flash is in memory ('IsFl'), what is kept beside it ('Upd'). -/
namespace Go.Proofs.Ytiijbklaapaheaa
open Go.RowKit
set_option maxRecDepth 100000

/-- All blocks below N but those of S are as they were. -/
structure Upd (S : Nat → Prop) (N : Nat) (w w' : World) : Prop where
  os : w'.os = w.os
  tape : w'.tape = w.tape
  output : w'.output = w.output
  size : w.heap.size ≤ w'.heap.size
  block : ∀ k, k < N → ¬ S k → w'.heap[k]? = w.heap[k]?

theorem Upd.refl (S : Nat → Prop) (N : Nat) (w : World) : Upd S N w w := ⟨rfl, rfl, rfl, Nat.le_refl _, fun _ _ _ => rfl⟩
theorem Upd.trans {S : Nat → Prop} {N : Nat} {a b c : World} (h : Upd S N a b) (k : Upd S N b c) : Upd S N a c :=
  ⟨k.os.trans h.os, k.tape.trans h.tape, k.output.trans h.output, Nat.le_trans h.size k.size, fun i hi hs => (k.block i hi hs).trans (h.block i hi hs)⟩
theorem Upd.mono {S S' : Nat → Prop} {N N' : Nat} {w w' : World} (h : Upd S N w w') (hN : N' ≤ N) (hS : ∀ k, k < N' → S k → S' k) : Upd S' N' w w' :=
  ⟨h.os, h.tape, h.output, h.size, fun k hk hs => h.block k (by omega) (fun c => hs (hS k hk c))⟩
theorem Upd.less {S : Nat → Prop} {N N' : Nat} {w w' : World} (h : Upd S N w w') (hN : N' ≤ N) : Upd S N' w w' := h.mono hN fun _ _ c => c
theorem Upd.drew {S : Nat → Prop} {N : Nat} {a w : World} (h : Upd S N a w) : Upd S N a w.drew := ⟨h.os, h.tape, h.output, h.size, h.block⟩
theorem Upd.alloc {S : Nat → Prop} {N : Nat} {a w : World} (h : Upd S N a w) (hN : N ≤ w.heap.size) (o : Obj) : Upd S N a (w.alloc o) :=
  h.trans ⟨rfl, rfl, rfl, by simp, fun k hk _ => Below.heap_alloc _ _ _ (by omega)⟩
theorem Upd.setCell {S : Nat → Prop} {N : Nat} {a w : World} (h : Upd S N a w) {p : Addr} (hp : S p.block ∨ N ≤ p.block) (u : Value) : Upd S N a (w.setCell p u) :=
  h.trans ⟨rfl, rfl, rfl, by simp [World.setCell], fun k hk hs => Below.heap_setCell _ _ _ _ (by rintro rfl; rcases hp with hp | hp; exact hs hp; omega)⟩
theorem Upd.of {S : Nat → Prop} {B : Nat} {w w' : World} (h : Below B w w') : Upd S B w w' := ⟨h.os, h.tape, h.output, h.size, fun k hk _ => h.block k hk⟩
theorem Upd.below {S : Nat → Prop} {N B : Nat} {w w' : World} (h : Upd S N w w') (hB : B ≤ N) (hS : ∀ k, k < B → ¬ S k) : Below B w w' := ⟨h.os, h.tape, h.output, h.size, fun k hk => h.block k (by omega) (hS k hk)⟩
theorem Upd.cell {S : Nat → Prop} {N : Nat} {w w' : World} (h : Upd S N w w') {p : Addr} (hp : p.block < N) (hs : ¬ S p.block) : w'.cell? p = w.cell? p := World.cell?_of_block (w := w) (h.block p.block hp hs)
theorem Upd.frozen {S : Nat → Prop} {N : Nat} {w w' : World} (h : Upd S N w w') {p : Addr} (hp : p.block < N) (hs : ¬ S p.block) : w'.frozen? p = w.frozen? p := World.frozen?_of_block (w := w) (h.block p.block hp hs)

/-- A flash: blocks of sixteen pages (a page: a state and bytes), wear, fuse, power. -/
structure Fl where
  n : Nat
  st : Nat → Nat → Int
  bs : Nat → Nat → ByteArray
  wear : Nat → Int
  cnt : Int
  keep : Int
  down : Bool

/-- The flash F lies at block h (its struct) and block g (its blocks). -/
structure IsFl (w : World) (g h cap : Nat) (F : Fl) : Prop where
  ne : g ≠ h
  pos : 0 < F.n
  le : F.n ≤ 1024
  fit : F.n ≤ cap
  ptr : w.cell? ⟨h, 0, none⟩ = some (.slice (some ⟨g, 0, none⟩) F.n cap)
  cnt : w.cell? ⟨h, 1, none⟩ = some (.int .i64 F.cnt)
  keep : w.cell? ⟨h, 2, none⟩ = some (.int .i64 F.keep)
  down : w.cell? ⟨h, 3, none⟩ = some (.bool F.down)
  frH : ∀ o, w.frozen? ⟨h, o, none⟩ = false
  st : ∀ i j, i < F.n → j < 16 → w.cell? ⟨g, i * 33 + j * 2, none⟩ = some (.int .i64 (F.st i j))
  bs : ∀ i j, i < F.n → j < 16 → w.cell? ⟨g, i * 33 + j * 2 + 1, none⟩ = some (.string (F.bs i j))
  wear : ∀ i, i < F.n → w.cell? ⟨g, i * 33 + 32, none⟩ = some (.int .i64 (F.wear i))
  frG : ∀ o, w.frozen? ⟨g, o, none⟩ = false

/-- Its two blocks. -/
def Two (g h : Nat) : Nat → Prop := fun k => k = g ∨ k = h

theorem IsFl.hlt {w : World} {g h cap : Nat} {F : Fl} (H : IsFl w g h cap F) : h < w.heap.size := World.block_lt_of_cell? w _ H.ptr
theorem IsFl.glt {w : World} {g h cap : Nat} {F : Fl} (H : IsFl w g h cap F) : g < w.heap.size := World.block_lt_of_cell? w _ (H.wear 0 H.pos)

theorem IsFl.keepB {w w' : World} {g h cap : Nat} {F : Fl} (H : IsFl w g h cap F) (hg : w'.heap[g]? = w.heap[g]?) (hh : w'.heap[h]? = w.heap[h]?) : IsFl w' g h cap F := by
  have cg : ∀ o, w'.cell? ⟨g, o, none⟩ = w.cell? ⟨g, o, none⟩ := fun o => World.cell?_of_block (w := w) hg
  have ch : ∀ o, w'.cell? ⟨h, o, none⟩ = w.cell? ⟨h, o, none⟩ := fun o => World.cell?_of_block (w := w) hh
  have fg : ∀ o, w'.frozen? ⟨g, o, none⟩ = w.frozen? ⟨g, o, none⟩ := fun o => World.frozen?_of_block (w := w) hg
  have fh : ∀ o, w'.frozen? ⟨h, o, none⟩ = w.frozen? ⟨h, o, none⟩ := fun o => World.frozen?_of_block (w := w) hh
  refine ⟨H.ne, H.pos, H.le, H.fit, ?_, ?_, ?_, ?_, fun o => by rw [fh, H.frH], fun i j hi hj => ?_, fun i j hi hj => ?_, fun i hi => ?_, fun o => by rw [fg, H.frG]⟩
  · rw [ch, H.ptr]
  · rw [ch, H.cnt]
  · rw [ch, H.keep]
  · rw [ch, H.down]
  · rw [cg, H.st i j hi hj]
  · rw [cg, H.bs i j hi hj]
  · rw [cg, H.wear i hi]

theorem IsFl.below {w w' : World} {g h cap : Nat} {F : Fl} (H : IsFl w g h cap F) (hb : Below w.heap.size w w') : IsFl w' g h cap F :=
  H.keepB (hb.block g H.glt) (hb.block h H.hlt)
theorem IsFl.upd {w w' : World} {g h cap N : Nat} {F : Fl} {S : Nat → Prop} (H : IsFl w g h cap F) (hb : Upd S N w w') (hN : w.heap.size ≤ N) (hg : ¬ S g) (hh : ¬ S h) : IsFl w' g h cap F :=
  H.keepB (hb.block g (by have := H.glt; omega) hg) (hb.block h (by have := H.hlt; omega) hh)
theorem IsFl.alloc {w : World} {g h cap : Nat} {F : Fl} (H : IsFl w g h cap F) (o : Obj) : IsFl (w.alloc o) g h cap F :=
  H.below ((Below.refl _ _).alloc (Nat.le_refl _) o)
theorem IsFl.drew {w : World} {g h cap : Nat} {F : Fl} (H : IsFl w g h cap F) : IsFl w.drew g h cap F := H.keepB rfl rfl

theorem addr_ne {b b' o o' : Nat} (h : b ≠ b' ∨ o ≠ o') : (⟨b, o, none⟩ : Addr) ≠ ⟨b', o', none⟩ := by
  intro e; simp only [Addr.mk.injEq, and_true] at e; omega

theorem cs_other {w : World} {a b : Addr} {v : Value} (h : a ≠ b) : (w.setCell a v).cell? b = w.cell? b := World.cell?_setCell_other w a b v h
theorem cs_same {w : World} {a : Addr} {v u : Value} (h : w.cell? a = some u) : (w.setCell a v).cell? a = some v := World.cell?_setCell_same w a v h

/-- A cell of another block is written. -/
theorem IsFl.other {w : World} {g h cap : Nat} {F : Fl} (H : IsFl w g h cap F) (b o : Nat) (u : Value) (hg : b ≠ g) (hh : b ≠ h) : IsFl (w.setCell ⟨b, o, none⟩ u) g h cap F :=
  H.keepB (Below.heap_setCell _ _ _ _ (by simpa using hg.symm)) (Below.heap_setCell _ _ _ _ (by simpa using hh.symm))

theorem IsFl.setCnt {w : World} {g h cap : Nat} {F : Fl} (H : IsFl w g h cap F) (c : Int) : IsFl (w.setCell ⟨h, 1, none⟩ (.int .i64 c)) g h cap { F with cnt := c } := by
  have hn := H.ne
  have cg : ∀ o, (w.setCell ⟨h, 1, none⟩ (.int .i64 c)).cell? ⟨g, o, none⟩ = w.cell? ⟨g, o, none⟩ := fun o => cs_other (addr_ne (Or.inl hn.symm))
  have ch : ∀ o, o ≠ 1 → (w.setCell ⟨h, 1, none⟩ (.int .i64 c)).cell? ⟨h, o, none⟩ = w.cell? ⟨h, o, none⟩ := fun o ho => cs_other (addr_ne (Or.inr ho.symm))
  exact ⟨hn, H.pos, H.le, H.fit, by rw [ch 0 (by decide)]; exact H.ptr, cs_same H.cnt, by rw [ch 2 (by decide)]; exact H.keep, by rw [ch 3 (by decide)]; exact H.down, fun o => by rw [World.frozen?_setCell]; exact H.frH o,
    fun i j hi hj => by rw [cg]; exact H.st i j hi hj, fun i j hi hj => by rw [cg]; exact H.bs i j hi hj, fun i hi => by rw [cg]; exact H.wear i hi, fun o => by rw [World.frozen?_setCell]; exact H.frG o⟩
theorem IsFl.setKeep {w : World} {g h cap : Nat} {F : Fl} (H : IsFl w g h cap F) (c : Int) : IsFl (w.setCell ⟨h, 2, none⟩ (.int .i64 c)) g h cap { F with keep := c } := by
  have hn := H.ne
  have cg : ∀ o, (w.setCell ⟨h, 2, none⟩ (.int .i64 c)).cell? ⟨g, o, none⟩ = w.cell? ⟨g, o, none⟩ := fun o => cs_other (addr_ne (Or.inl hn.symm))
  have ch : ∀ o, o ≠ 2 → (w.setCell ⟨h, 2, none⟩ (.int .i64 c)).cell? ⟨h, o, none⟩ = w.cell? ⟨h, o, none⟩ := fun o ho => cs_other (addr_ne (Or.inr ho.symm))
  exact ⟨hn, H.pos, H.le, H.fit, by rw [ch 0 (by decide)]; exact H.ptr, by rw [ch 1 (by decide)]; exact H.cnt, cs_same H.keep, by rw [ch 3 (by decide)]; exact H.down, fun o => by rw [World.frozen?_setCell]; exact H.frH o,
    fun i j hi hj => by rw [cg]; exact H.st i j hi hj, fun i j hi hj => by rw [cg]; exact H.bs i j hi hj, fun i hi => by rw [cg]; exact H.wear i hi, fun o => by rw [World.frozen?_setCell]; exact H.frG o⟩
theorem IsFl.setDown {w : World} {g h cap : Nat} {F : Fl} (H : IsFl w g h cap F) (c : Bool) : IsFl (w.setCell ⟨h, 3, none⟩ (.bool c)) g h cap { F with down := c } := by
  have hn := H.ne
  have cg : ∀ o, (w.setCell ⟨h, 3, none⟩ (.bool c)).cell? ⟨g, o, none⟩ = w.cell? ⟨g, o, none⟩ := fun o => cs_other (addr_ne (Or.inl hn.symm))
  have ch : ∀ o, o ≠ 3 → (w.setCell ⟨h, 3, none⟩ (.bool c)).cell? ⟨h, o, none⟩ = w.cell? ⟨h, o, none⟩ := fun o ho => cs_other (addr_ne (Or.inr ho.symm))
  exact ⟨hn, H.pos, H.le, H.fit, by rw [ch 0 (by decide)]; exact H.ptr, by rw [ch 1 (by decide)]; exact H.cnt, by rw [ch 2 (by decide)]; exact H.keep, cs_same H.down, fun o => by rw [World.frozen?_setCell]; exact H.frH o,
    fun i j hi hj => by rw [cg]; exact H.st i j hi hj, fun i j hi hj => by rw [cg]; exact H.bs i j hi hj, fun i hi => by rw [cg]; exact H.wear i hi, fun o => by rw [World.frozen?_setCell]; exact H.frG o⟩

def Fl.setSt (F : Fl) (i j : Nat) (s : Int) : Fl := { F with st := fun i' j' => if i' = i ∧ j' = j then s else F.st i' j' }
def Fl.setBs (F : Fl) (i j : Nat) (b : ByteArray) : Fl := { F with bs := fun i' j' => if i' = i ∧ j' = j then b else F.bs i' j' }
def Fl.put (F : Fl) (i j : Nat) (s : Int) (b : ByteArray) : Fl := (F.setSt i j s).setBs i j b

theorem IsFl.setSt {w : World} {g h cap : Nat} {F : Fl} (H : IsFl w g h cap F) (i j : Nat) (hi : i < F.n) (hj : j < 16) (s : Int) : IsFl (w.setCell ⟨g, i * 33 + j * 2, none⟩ (.int .i64 s)) g h cap (F.setSt i j s) := by
  have hn := H.ne
  have ch : ∀ o, (w.setCell ⟨g, i * 33 + j * 2, none⟩ (.int .i64 s)).cell? ⟨h, o, none⟩ = w.cell? ⟨h, o, none⟩ := fun o => cs_other (addr_ne (Or.inl hn))
  have cg : ∀ o, o ≠ i * 33 + j * 2 → (w.setCell ⟨g, i * 33 + j * 2, none⟩ (.int .i64 s)).cell? ⟨g, o, none⟩ = w.cell? ⟨g, o, none⟩ := fun o ho => cs_other (addr_ne (Or.inr ho.symm))
  refine ⟨hn, H.pos, H.le, H.fit, by rw [ch]; exact H.ptr, by rw [ch]; exact H.cnt, by rw [ch]; exact H.keep, by rw [ch]; exact H.down, fun o => by rw [World.frozen?_setCell]; exact H.frH o,
    fun i' j' hi' hj' => ?_, fun i' j' hi' hj' => ?_, fun i' hi' => ?_, fun o => by rw [World.frozen?_setCell]; exact H.frG o⟩
  · show _ = some (Value.int .i64 (if i' = i ∧ j' = j then s else F.st i' j'))
    by_cases c : i' = i ∧ j' = j
    · obtain ⟨rfl, rfl⟩ := c
      rw [if_pos ⟨rfl, rfl⟩]
      exact cs_same (H.st i' j' hi hj)
    · rw [if_neg c, cg _ (by omega)]; exact H.st i' j' hi' hj'
  · rw [cg _ (by omega)]; exact H.bs i' j' hi' hj'
  · rw [cg _ (by omega)]; exact H.wear i' hi'
theorem IsFl.setBs {w : World} {g h cap : Nat} {F : Fl} (H : IsFl w g h cap F) (i j : Nat) (hi : i < F.n) (hj : j < 16) (s : ByteArray) : IsFl (w.setCell ⟨g, i * 33 + j * 2 + 1, none⟩ (.string s)) g h cap (F.setBs i j s) := by
  have hn := H.ne
  have ch : ∀ o, (w.setCell ⟨g, i * 33 + j * 2 + 1, none⟩ (.string s)).cell? ⟨h, o, none⟩ = w.cell? ⟨h, o, none⟩ := fun o => cs_other (addr_ne (Or.inl hn))
  have cg : ∀ o, o ≠ i * 33 + j * 2 + 1 → (w.setCell ⟨g, i * 33 + j * 2 + 1, none⟩ (.string s)).cell? ⟨g, o, none⟩ = w.cell? ⟨g, o, none⟩ := fun o ho => cs_other (addr_ne (Or.inr ho.symm))
  refine ⟨hn, H.pos, H.le, H.fit, by rw [ch]; exact H.ptr, by rw [ch]; exact H.cnt, by rw [ch]; exact H.keep, by rw [ch]; exact H.down, fun o => by rw [World.frozen?_setCell]; exact H.frH o,
    fun i' j' hi' hj' => ?_, fun i' j' hi' hj' => ?_, fun i' hi' => ?_, fun o => by rw [World.frozen?_setCell]; exact H.frG o⟩
  · rw [cg _ (by omega)]; exact H.st i' j' hi' hj'
  · show _ = some (Value.string (if i' = i ∧ j' = j then s else F.bs i' j'))
    by_cases c : i' = i ∧ j' = j
    · obtain ⟨rfl, rfl⟩ := c
      rw [if_pos ⟨rfl, rfl⟩]
      exact cs_same (H.bs i' j' hi hj)
    · rw [if_neg c, cg _ (by omega)]; exact H.bs i' j' hi' hj'
  · rw [cg _ (by omega)]; exact H.wear i' hi'

/-- A page is written. -/
theorem IsFl.put {w : World} {g h cap : Nat} {F : Fl} (H : IsFl w g h cap F) (i j : Nat) (hi : i < F.n) (hj : j < 16) (s : Int) (b : ByteArray) : IsFl ((w.setCell ⟨g, i * 33 + j * 2, none⟩ (.int .i64 s)).setCell ⟨g, i * 33 + j * 2 + 1, none⟩ (.string b)) g h cap (F.put i j s b) :=
  (H.setSt i j hi hj s).setBs i j hi hj b

def Fl.setWear (F : Fl) (i : Nat) (x : Int) : Fl := { F with wear := fun i' => if i' = i then x else F.wear i' }
theorem IsFl.setWear {w : World} {g h cap : Nat} {F : Fl} (H : IsFl w g h cap F) (i : Nat) (hi : i < F.n) (x : Int) : IsFl (w.setCell ⟨g, i * 33 + 32, none⟩ (.int .i64 x)) g h cap (F.setWear i x) := by
  have hn := H.ne
  have ch : ∀ o, (w.setCell ⟨g, i * 33 + 32, none⟩ (.int .i64 x)).cell? ⟨h, o, none⟩ = w.cell? ⟨h, o, none⟩ := fun o => cs_other (addr_ne (Or.inl hn))
  have cg : ∀ o, o ≠ i * 33 + 32 → (w.setCell ⟨g, i * 33 + 32, none⟩ (.int .i64 x)).cell? ⟨g, o, none⟩ = w.cell? ⟨g, o, none⟩ := fun o ho => cs_other (addr_ne (Or.inr ho.symm))
  refine ⟨hn, H.pos, H.le, H.fit, by rw [ch]; exact H.ptr, by rw [ch]; exact H.cnt, by rw [ch]; exact H.keep, by rw [ch]; exact H.down, fun o => by rw [World.frozen?_setCell]; exact H.frH o,
    fun i' j' hi' hj' => ?_, fun i' j' hi' hj' => ?_, fun i' hi' => ?_, fun o => by rw [World.frozen?_setCell]; exact H.frG o⟩
  · rw [cg _ (by omega)]; exact H.st i' j' hi' hj'
  · rw [cg _ (by omega)]; exact H.bs i' j' hi' hj'
  · show _ = some (Value.int .i64 (if i' = i then x else F.wear i'))
    by_cases c : i' = i
    · subst c; rw [if_pos rfl]; exact cs_same (H.wear i' hi)
    · rw [if_neg c, cg _ (by omega)]; exact H.wear i' hi'

/-- What no call made: nil, or a struct that has no blocks. -/
def IsNo (w : World) (v : Value) : Prop := v = .pointer none ∨ ∃ h, v = .pointer (some ⟨h, 0, none⟩) ∧ w.cell? ⟨h, 0, none⟩ = some (.slice none 0 0)

end Go.Proofs.Ytiijbklaapaheaa

/- What a script of operations shows; beginnings of slices; rows of bytes that are turned. -/
namespace Go.Proofs.Ytiijbklaapaheaa
open Go.RowKit
set_option maxRecDepth 100000

/-- An operation: eight numbers, and the bytes of a checkpoint. -/
structure OpV where
  x0 : Int
  f : Int
  n : Int
  slot : Int
  last : Int
  x6 : Int
  x7 : Int
  x8 : Int
  ao : Option Addr
  cap : Nat
  ds : List Int

instance : Inhabited OpV := ⟨⟨0, 0, 0, 0, 0, 0, 0, 0, none, 0, []⟩⟩

structure OpOk (w : World) (o : OpV) : Prop where
  sees : Sees w .u8 (.slice o.ao o.ds.length o.cap) o.ds
  byt : Byt o.ds
  len : o.ds.length ≤ 9223372036854775807

def OpV.cells (o : OpV) : List Value := [.int .i64 o.x0, .int .i64 o.f, .int .i64 o.n, .int .i64 o.slot, .int .i64 o.last, .slice o.ao o.ds.length o.cap, .int .i64 o.x6, .int .i64 o.x7, .int .i64 o.x8]
def OpV.agg (o : OpV) : Value := .agg #[.int .i64 o.x0, .int .i64 o.f, .int .i64 o.n, .int .i64 o.slot, .int .i64 o.last, .slice o.ao o.ds.length o.cap, .int .i64 o.x6, .int .i64 o.x7, .int .i64 o.x8]

theorem OpOk.below {w w' : World} {o : OpV} (h : OpOk w o) (hb : Below w.heap.size w w') : OpOk w' o := ⟨h.sees.below hb, h.byt, h.len⟩

/-- A slice of n operations. -/
def SeesOps (w : World) (v : Value) (n : Nat) (os : Nat → OpV) : Prop :=
  ∃ ao cap gb ob, v = .slice ao n cap ∧ n ≤ cap ∧ n ≤ 9223372036854775807 ∧ (0 < n → ao = some ⟨gb, ob, none⟩) ∧ ∀ t, t < n → OpOk w (os t) ∧
    w.cell? ⟨gb, ob + t * 9, none⟩ = some (.int .i64 (os t).x0) ∧ w.cell? ⟨gb, ob + t * 9 + 1, none⟩ = some (.int .i64 (os t).f) ∧ w.cell? ⟨gb, ob + t * 9 + 2, none⟩ = some (.int .i64 (os t).n) ∧
    w.cell? ⟨gb, ob + t * 9 + 3, none⟩ = some (.int .i64 (os t).slot) ∧ w.cell? ⟨gb, ob + t * 9 + 4, none⟩ = some (.int .i64 (os t).last) ∧ w.cell? ⟨gb, ob + t * 9 + 5, none⟩ = some (.slice (os t).ao (os t).ds.length (os t).cap) ∧
    w.cell? ⟨gb, ob + t * 9 + 6, none⟩ = some (.int .i64 (os t).x6) ∧ w.cell? ⟨gb, ob + t * 9 + 7, none⟩ = some (.int .i64 (os t).x7) ∧ w.cell? ⟨gb, ob + t * 9 + 8, none⟩ = some (.int .i64 (os t).x8)

theorem SeesOps.below {w w' : World} {v : Value} {n : Nat} {os : Nat → OpV} (h : SeesOps w v n os) (hb : Below w.heap.size w w') : SeesOps w' v n os := by
  obtain ⟨ao, cap, gb, ob, h1, h2, h3, h4, h5⟩ := h
  refine ⟨ao, cap, gb, ob, h1, h2, h3, h4, fun t ht => ?_⟩
  obtain ⟨k0, k1, k2, k3, k4, k5, k6, k7, k8, k9⟩ := h5 t ht
  have c : ∀ o v, w.cell? ⟨gb, o, none⟩ = some v → w'.cell? ⟨gb, o, none⟩ = some v := fun o v h => (hb.cell (p := ⟨gb, o, none⟩) (World.block_lt_of_cell? w _ h)).trans h
  exact ⟨k0.below hb, c _ _ k1, c _ _ k2, c _ _ k3, c _ _ k4, c _ _ k5, c _ _ k6, c _ _ k7, c _ _ k8, c _ _ k9⟩

theorem sees_take {w : World} {k : IntKind} {ao : Option Addr} {cap : Nat} {zs : List Int} (h : Sees w k (.slice ao zs.length cap) zs) (L : Nat) (hL : L ≤ zs.length) : Sees w k (.slice ao (zs.take L).length cap) (zs.take L) := by
  obtain ⟨ao', cap', e, h1, h2, h3⟩ := h
  simp only [Value.slice.injEq, true_and] at e
  obtain ⟨rfl, rfl⟩ := e
  have hl : (zs.take L).length = L := by simp; omega
  refine ⟨ao, cap, rfl, by rw [hl]; omega, h2, fun a ha t ht => ?_⟩
  rw [hl] at ht
  rw [h3 a ha t (by omega)]
  simp [List.getD, ht]

theorem sees_upd {S : Nat → Prop} {w w' : World} {N : Nat} {k : IntKind} {v : Value} {zs : List Int} (h : Sees w k v zs) (hu : Upd S N w w') (hN : w.heap.size ≤ N) (hs : ∀ ao n c, v = .slice ao n c → ∀ a, ao = some a → ¬ S a.block) : Sees w' k v zs := by
  obtain ⟨ao, cap, rfl, h1, h2, h3⟩ := h
  refine ⟨ao, cap, rfl, h1, h2, fun a ha t ht => ?_⟩
  have hb : (a.add t).block = a.block := by unfold Addr.add; split <;> rfl
  have := World.block_lt_of_cell? w _ (h3 a ha t ht)
  rw [hu.cell (by omega) (by rw [hb]; exact hs _ _ _ rfl a ha)]
  exact h3 a ha t ht

/-- A row of bytes at the block g, if there are any. -/
def Br (w : World) (g : Nat) (ao : Option Addr) (n : Nat) : Prop :=
  n = 0 ∨ (ao = some ⟨g, 0, none⟩ ∧ (∀ k, k < n → ∃ u, 0 ≤ u ∧ u ≤ 255 ∧ w.cell? ⟨g, k, none⟩ = some (.int .u8 u)) ∧ ∀ o, w.frozen? ⟨g, o, none⟩ = false)
theorem br_own {w : World} {base : Nat} {ao : Option Addr} {n cap : Nat} {ys : List Int} (h : w.ownsRow base 5 1 (.slice ao n cap) n (ints .u8 ys)) (hby : Byt ys) : n ≤ 9223372036854775807 ∧ ∃ g, base ≤ g ∧ (0 < n → g < w.heap.size) ∧ Br w g ao n := by
  have hl := (sees_of_own h).1
  rcases h.2 with ⟨_, h0⟩ | ⟨g, cp, cur, hv, hgb, _, hle, hmx, _⟩
  · exact ⟨by omega, base, Nat.le_refl _, (by omega), Or.inl h0⟩
  simp only [Value.slice.injEq, true_and] at hv
  obtain ⟨rfl, rfl⟩ := hv
  have hc : ∀ k, k < n → w.cell? ⟨g, k, none⟩ = some (.int .u8 (ys.getD k 0)) := fun k hk => by
    have := h.cells (g := g) rfl k (.int .u8 (ys.getD k 0)) (by simp [ints, List.getD, ← hl, hk])
    have hadd : (⟨g, 0, none⟩ : Addr).add k = ⟨g, k, none⟩ := by unfold Addr.add; split <;> simp_all
    rw [hadd] at this
    exact this
  exact ⟨by unfold maxLen at hmx; omega, g, hgb, fun h0 => World.block_lt_of_cell? w _ (hc 0 h0), Or.inr ⟨rfl, fun k hk => ⟨_, (hby.get k).1, (hby.get k).2, hc k hk⟩, fun o => h.frozenAt o⟩⟩
theorem Br.set {w : World} {g n k : Nat} {ao : Option Addr} (h : Br w g ao n) (hk : k < n) {u : Int} (hu : w.cell? ⟨g, k, none⟩ = some (.int .u8 u)) (v : Int) (h0 : 0 ≤ v) (h1 : v ≤ 255) : Br (w.setCell ⟨g, k, none⟩ (.int .u8 v)) g ao n := by
  rcases h with h | ⟨e, hc, hf⟩
  · omega
  refine Or.inr ⟨e, fun j hj => ?_, fun o => by rw [World.frozen?_setCell]; exact hf o⟩
  by_cases c : j = k
  · subst c; exact ⟨v, h0, h1, cs_same hu⟩
  · obtain ⟨x, x0, x1, hx⟩ := hc j hj
    exact ⟨x, x0, x1, by rw [cs_other (addr_ne (Or.inr (Ne.symm c)))]; exact hx⟩
theorem Br.upd {S : Nat → Prop} {w w' : World} {N g n : Nat} {ao : Option Addr} (h : Br w g ao n) (hu : Upd S N w w') (hN : 0 < n → g < N) (hs : ¬ S g) : Br w' g ao n := by
  rcases h with h | ⟨e, hc, hf⟩
  · exact Or.inl h
  rcases Nat.eq_zero_or_pos n with h0 | h0
  · exact Or.inl h0
  refine Or.inr ⟨e, fun k hk => ?_, fun o => ?_⟩
  · obtain ⟨x, x0, x1, hx⟩ := hc k hk
    exact ⟨x, x0, x1, by rw [hu.cell (hN h0) hs]; exact hx⟩
  · rw [hu.frozen (hN h0) hs]; exact hf o
theorem xor85 (u : Int) (h0 : 0 ≤ u) (h1 : u ≤ 255) : 0 ≤ bits .xor .u8 u 85 ∧ bits .xor .u8 u 85 ≤ 255 := by
  rw [u8_xor u 85 h0 (by omega) (by omega) (by omega)]
  have : u.toNat ^^^ (85 : Int).toNat < 2 ^ 8 := Nat.xor_lt_two_pow (by omega) (by decide)
  omega
theorem and40 (n : Int) : bits .and .i64 n 1099511627775 = n % 1099511627776 := by
  have h127 : (BitVec.ofInt 64 1099511627775).toNat = 2 ^ 40 - 1 := by decide
  have key : (BitVec.ofInt 64 n &&& BitVec.ofInt 64 1099511627775).toNat = (n % ((2 ^ 64 : Nat) : Int)).toNat % 2 ^ 40 := by
    rw [BitVec.toNat_and, BitVec.toNat_ofInt, h127, Nat.and_two_pow_sub_one_eq_mod]
  show IntKind.i64.wrap ((BitVec.ofInt 64 n &&& BitVec.ofInt 64 1099511627775).toNat : Nat) = n % 1099511627776
  rw [key, IntKind.wrap_i64]
  omega
end Go.Proofs.Ytiijbklaapaheaa

/- How bytes, a region, a checkpoint and operations, as the row hands them over, are seen by the walks; no bounds but the machine's. -/
namespace Go.Proofs.Ytiijbklaapaheaa
open Go.ChangeShapes Go.WideShapes Go.ChangeAt Go.RowKit Go.Deep
set_option maxRecDepth 100000

theorem Try.cells43 : Try.prog.cellsOf 43 = 9 := by kernel_rfl
theorem list6 {α : Type} {l : List α} (h : l.length = 6) : ∃ a b c d e f, l = [a, b, c, d, e, f] := by
  match l, h with
  | [a, b, c, d, e, f], _ => exact ⟨a, b, c, d, e, f, rfl⟩
theorem list9 {α : Type} {l : List α} (h : l.length = 9) : ∃ a b c d e f g i j, l = [a, b, c, d, e, f, g, i, j] := by
  match l, h with
  | [a, b, c, d, e, f, g, i, j], _ => exact ⟨a, b, c, d, e, f, g, i, j, rfl⟩

section
variable {H : Type} {enc : TypeId × Value → H} {W : World}

theorem trod_bytes {fuel : Nat} {cs : List Value} {x : DataW H × List MemPlace} (hf : DataW.trod enc Try.prog W 0 (fun _ => true) true fuel 22 cs = some x) : ∃ ao cap zs, cs = [.slice ao zs.length cap] ∧ Sees W .u8 (.slice ao zs.length cap) zs ∧ Byt zs ∧ zs.length ≤ 9223372036854775807 := by
  rcases open_ints Try.underlying22 Try.underlying5 (by kernel_rfl) hf with ⟨rfl, hx⟩ | ⟨a, len, cap, zs, rfl, _, hl, hm, hz, rfl, hcell, hwz⟩
  · exact ⟨none, 0, [], rfl, Sees.nil _ _, (fun b hb => by cases hb), by simp⟩
  · simp only [if_true] at hz
    have hlen : (zs.take len).length = len := by simp; omega
    refine ⟨_, cap, zs.take len, by rw [hlen], ⟨_, cap, rfl, by rw [hlen]; exact hl, (fun h => by cases h), fun a' h t ht => ?_⟩, (fun b hb => bounds_u8 (hwz b (List.mem_of_mem_take hb))), by rw [hlen]; unfold maxLen at hm; omega⟩
    obtain rfl := Option.some.inj h
    rw [hlen] at ht
    rw [hcell t (by omega)]
    simp [List.getD, ht]

theorem trod_region {fuel : Nat} {cs : List Value} {x : DataW H × List MemPlace} (hl : cs.length = 2) (hf : DataW.trod enc Try.prog W 0 (fun _ => true) true fuel 26 cs = some x) :
    ∃ a b : Int, cs = [.int .i64 a, .int .i64 b] ∧ (-9223372036854775808 ≤ a ∧ a ≤ 9223372036854775807) ∧ (-9223372036854775808 ≤ b ∧ b ≤ 9223372036854775807) := by
  obtain ⟨v0, v1, rfl⟩ := list2 hl
  obtain ⟨xs, n, _, _, _, hxl, hg⟩ := DataW.trod_struct Try.underlying26 hf
  obtain ⟨y0, y1, rfl⟩ := list2 hxl
  have g0 := hg 0 _ rfl
  have g1 := hg 1 _ rfl
  simp [Try.cells3] at g0 g1
  obtain ⟨n0, e0, _, w0⟩ := DataW.trod_int Try.underlying3 g0
  obtain ⟨n1, e1, _, w1⟩ := DataW.trod_int Try.underlying3 g1
  simp only [List.cons.injEq, and_true] at e0 e1
  subst e0 e1
  exact ⟨n0, n1, rfl, bounds_i64 w0, bounds_i64 w1⟩

theorem trod_saved {fuel : Nat} {cs : List Value} {x : DataW H × List MemPlace} (hl : cs.length = 3) (hf : DataW.trod enc Try.prog W 0 (fun _ => true) true fuel 24 cs = some x) :
    ∃ (s l : Int) (ao : Option Addr) (cap : Nat) (ds : List Int), cs = [.int .i64 s, .int .i64 l, .slice ao ds.length cap] ∧ Sees W .u8 (.slice ao ds.length cap) ds ∧ Byt ds ∧ ds.length ≤ 9223372036854775807 := by
  obtain ⟨v0, v1, v2, rfl⟩ := list3 hl
  obtain ⟨xs, n, _, _, _, hxl, hg⟩ := DataW.trod_struct Try.underlying24 hf
  obtain ⟨y0, y1, y2, rfl⟩ := list3 hxl
  have g0 := hg 0 _ rfl
  have g1 := hg 1 _ rfl
  have g2 := hg 2 _ rfl
  simp [Try.cells2, Try.cells22] at g0 g1 g2
  obtain ⟨n0, e0, _, _⟩ := DataW.trod_int Try.underlying2 g0
  obtain ⟨n1, e1, _, _⟩ := DataW.trod_int Try.underlying2 g1
  obtain ⟨ao, cap, zs, e2, hs, hb, hz⟩ := trod_bytes g2
  simp only [List.cons.injEq, and_true] at e0 e1 e2
  subst e0 e1 e2
  exact ⟨n0, n1, ao, cap, zs, rfl, hs, hb, hz⟩

/-- One operation. -/
theorem trod_op {fuel : Nat} {cs : List Value} {x : DataW H × List MemPlace} (hl : cs.length = 9) (hf : DataW.trod enc Try.prog W 0 (fun _ => true) true fuel 43 cs = some x) : ∃ o : OpV, cs = o.cells ∧ OpOk W o := by
  obtain ⟨v0, v1, v2, v3, v4, v5, v6, v7, v8, rfl⟩ := list9 hl
  obtain ⟨xs, n, _, _, _, hxl, hg⟩ := DataW.trod_struct Try.underlying43 hf
  obtain ⟨y0, y1, y2, y3, y4, y5, rfl⟩ := list6 hxl
  have g0 := hg 0 _ rfl
  have g1 := hg 1 _ rfl
  have g2 := hg 2 _ rfl
  have g3 := hg 3 _ rfl
  have g4 := hg 4 _ rfl
  have g5 := hg 5 _ rfl
  simp [Try.cells3, Try.cells24, Try.cells26] at g0 g1 g2 g3 g4 g5
  obtain ⟨n0, e0, _, _⟩ := DataW.trod_int Try.underlying3 g0
  obtain ⟨f, m, e1, _, _⟩ := trod_region rfl g1
  obtain ⟨s, l, ao, cap, ds, e2, hs, hb, hz⟩ := trod_saved rfl g2
  obtain ⟨n6, e6, _, _⟩ := DataW.trod_int Try.underlying3 g3
  obtain ⟨n7, e7, _, _⟩ := DataW.trod_int Try.underlying3 g4
  obtain ⟨n8, e8, _, _⟩ := DataW.trod_int Try.underlying3 g5
  simp only [List.cons.injEq, and_true] at e0 e1 e2 e6 e7 e8
  obtain ⟨rfl, rfl⟩ := e1
  obtain ⟨rfl, rfl, rfl⟩ := e2
  subst e0 e6 e7 e8
  exact ⟨⟨n0, f, m, s, l, n6, n7, n8, ao, cap, ds⟩, rfl, ⟨hs, hb, hz⟩⟩

theorem view_regionI {r : Reach} {b0 : Nat} {v : Value} {d : DataW H} {p : List MemPlace} (hval : Value.okWide Try.prog W r b0 26 v) (hf : DataW.Trod enc Try.prog W 0 (fun _ => true) true 26 v d p) :
    ∃ a b : Int, v = .agg #[.int .i64 a, .int .i64 b] ∧ (-9223372036854775808 ≤ a ∧ a ≤ 9223372036854775807) ∧ (-9223372036854775808 ≤ b ∧ b ≤ 9223372036854775807) := by
  obtain ⟨cs, rfl, hsz⟩ := okWide_struct Try.underlying26 hval
  obtain ⟨fuel, hf⟩ := hf
  rw [Try.cells26] at hsz
  have e : (Value.agg cs).cells.toList = cs.toList := by simp [Value.cells]
  rw [e] at hf
  obtain ⟨a, b, ho, hok⟩ := trod_region (by simpa using hsz) hf
  refine ⟨a, b, ?_, hok⟩
  rw [show cs = cs.toList.toArray by simp, ho]

theorem view_saved {r : Reach} {b0 : Nat} {v : Value} {d : DataW H} {p : List MemPlace} (hval : Value.okWide Try.prog W r b0 24 v) (hf : DataW.Trod enc Try.prog W 0 (fun _ => true) true 24 v d p) :
    ∃ (s l : Int) (ao : Option Addr) (cap : Nat) (ds : List Int), v = .agg #[.int .i64 s, .int .i64 l, .slice ao ds.length cap] ∧ Sees W .u8 (.slice ao ds.length cap) ds ∧ Byt ds ∧ ds.length ≤ 9223372036854775807 := by
  obtain ⟨cs, rfl, hsz⟩ := okWide_struct Try.underlying24 hval
  obtain ⟨fuel, hf⟩ := hf
  rw [Try.cells24] at hsz
  have e : (Value.agg cs).cells.toList = cs.toList := by simp [Value.cells]
  rw [e] at hf
  obtain ⟨s, l, ao, cap, ds, ho, hok⟩ := trod_saved (by simpa using hsz) hf
  refine ⟨s, l, ao, cap, ds, ?_, hok⟩
  rw [show cs = cs.toList.toArray by simp, ho]

/-- One operation as an argument. -/
theorem view_op {r : Reach} {b0 : Nat} {v : Value} {d : DataW H} {p : List MemPlace} (hval : Value.okWide Try.prog W r b0 43 v) (hf : DataW.Trod enc Try.prog W 0 (fun _ => true) true 43 v d p) : ∃ o : OpV, v = o.agg ∧ OpOk W o := by
  obtain ⟨cs, rfl, hsz⟩ := okWide_struct Try.underlying43 hval
  obtain ⟨fuel, hf⟩ := hf
  rw [Try.cells43] at hsz
  have e : (Value.agg cs).cells.toList = cs.toList := by simp [Value.cells]
  rw [e] at hf
  obtain ⟨o, ho, hok⟩ := trod_op (by simpa using hsz) hf
  refine ⟨o, ?_, hok⟩
  rw [show cs = cs.toList.toArray by simp, ho]
  rfl

/-- A script. -/
theorem view_ops {fuel : Nat} {a0 : Option Addr} {len cap : Nat} {x : DataW H × List MemPlace}
    (hf : DataW.trod enc Try.prog W 0 (fun _ => true) true fuel 41 (Value.slice a0 len cap).cells.toList = some x) : ∃ os : Nat → OpV, SeesOps W (.slice a0 len cap) len os := by
  rcases open_slice Try.underlying41 hf with ⟨hcs, hx⟩ | ⟨a, l, c, m, n, D, Pl, hcs, _, hl, hm, hmm, _, hx⟩
  · simp [Value.cells] at hcs
    obtain ⟨rfl, rfl, rfl⟩ := hcs
    exact ⟨fun _ => ⟨0, 0, 0, 0, 0, 0, 0, 0, none, 0, []⟩, none, 0, 0, 0, rfl, Nat.le_refl _, by omega, (fun h => by omega), (fun t h => by omega)⟩
  · simp [Value.cells] at hcs
    obtain ⟨rfl, rfl, rfl⟩ := hcs
    simp only [if_true] at hmm
    subst hmm
    obtain ⟨b, o, s⟩ := a
    have each : ∀ i, i < len → ∃ q : OpV, OpOk W q ∧ ∀ k, k < 9 → W.cell? ((⟨b, o, s⟩ : Addr).add (i * 9 + k)) = q.cells[k]? := by
      intro i hi
      obtain ⟨cs', h1, h2⟩ := hx i (by omega)
      rw [Try.cells43] at h1
      obtain ⟨_, hlen, hcell⟩ := World.cells?_some h1
      obtain ⟨q, rfl, hq⟩ := trod_op hlen h2
      refine ⟨q, hq, fun k hk => ?_⟩
      have := hcell k hk
      rw [add_add] at this
      exact this
    obtain ⟨q, hq⟩ := choose_lt each
    refine ⟨q, some ⟨b, o, s⟩, _, b, o, rfl, hl, by unfold maxLen at hm; omega, fun h0 => ?_, fun t ht => ?_⟩
    · have := (hq 0 h0).2 0 (by omega)
      have hspot : s = none := by
        have h' : W.cell? ((⟨b, o, s⟩ : Addr).add (0 * 9 + 0)) = some (.int .i64 (q 0).x0) := this
        simpa [Addr.add] using World.cell?_spot h'
      subst hspot
      rfl
    · have hs : s = none := by
        have h' : W.cell? ((⟨b, o, s⟩ : Addr).add (0 * 9 + 0)) = some (.int .i64 (q 0).x0) := (hq 0 (by omega)).2 0 (by omega)
        simpa [Addr.add] using World.cell?_spot h'
      subst hs
      have ad : ∀ j, (⟨b, o, none⟩ : Addr).add j = ⟨b, o + j, none⟩ := fun j => by unfold Addr.add; split <;> simp_all
      have c : ∀ k, k < 9 → W.cell? ⟨b, o + t * 9 + k, none⟩ = (q t).cells[k]? := fun k hk => by rw [← (hq t ht).2 k hk, ad, Nat.add_assoc]
      exact ⟨(hq t ht).1, c 0 (by omega), c 1 (by omega), c 2 (by omega), c 3 (by omega), c 4 (by omega), c 5 (by omega), c 6 (by omega), c 7 (by omega), c 8 (by omega)⟩
end
end Go.Proofs.Ytiijbklaapaheaa

/- How bytes and a checkpoint, as the row hands them over, are seen by the walks, with the greatest size that the row asks of each. -/
namespace Go.Proofs.Ytiijbklaapaheaa
open Go.ChangeShapes Go.WideShapes Go.ChangeAt Go.RowKit Go.Deep
set_option maxRecDepth 100000

theorem Try.bytesOf5 : Try.prog.bytesOf 5 = 1 := by kernel_rfl

section
variable {H : Type} {enc : TypeId × Value → H} {W : World}

theorem view_bytesR {fuel : Nat} {cs : List Value} {x : DataW H × List MemPlace} (hf : DataW.trod enc Try.prog W 0 (fun _ => true) true fuel 22 cs = some x) (hR : ∀ n ∈ x.1.weights Try.prog 22, n ≤ reachBytes) : ∃ ao cap zs, cs = [.slice ao zs.length cap] ∧ Sees W .u8 (.slice ao zs.length cap) zs ∧ Byt zs ∧ zs.length ≤ 140737488351232 := by
  rcases open_ints Try.underlying22 Try.underlying5 (by kernel_rfl) hf with ⟨rfl, hx⟩ | ⟨a, len, cap, zs, rfl, _, hl, hm, hz, rfl, hcell, hwz⟩
  · exact ⟨none, 0, [], rfl, Sees.nil _ _, (fun b hb => by cases hb), by simp⟩
  · simp only [if_true] at hz
    have hlen : (zs.take len).length = len := by simp; omega
    have hw : len ≤ 140737488351232 := by
      simp only [DataW.weights, Try.underlying22, Try.bytesOf5] at hR
      have h := hR _ (List.mem_cons_self ..)
      simp only [lits, List.length_map, List.length_take, List.length_drop, reachBytes] at h
      omega
    refine ⟨_, cap, zs.take len, by rw [hlen], ⟨_, cap, rfl, by rw [hlen]; exact hl, (fun h => by cases h), fun a' h t ht => ?_⟩, (fun b hb => bounds_u8 (hwz b (List.mem_of_mem_take hb))), by rw [hlen]; exact hw⟩
    obtain rfl := Option.some.inj h
    rw [hlen] at ht
    rw [hcell t (by omega)]
    simp [List.getD, ht]

theorem view_savedR {r : Reach} {b0 : Nat} {v : Value} {d : DataW H} {p : List MemPlace} (hval : Value.okWide Try.prog W r b0 24 v) (hf : DataW.Trod enc Try.prog W 0 (fun _ => true) true 24 v d p) (hR : ∀ n ∈ d.weights Try.prog 24, n ≤ reachBytes) :
    ∃ (s l : Int) (ao : Option Addr) (cap : Nat) (ds : List Int), v = .agg #[.int .i64 s, .int .i64 l, .slice ao ds.length cap] ∧ Sees W .u8 (.slice ao ds.length cap) ds ∧ Byt ds ∧ ds.length ≤ 140737488351232 := by
  obtain ⟨cs, rfl, hsz⟩ := okWide_struct Try.underlying24 hval
  obtain ⟨fuel, hf⟩ := hf
  rw [Try.cells24] at hsz
  have e : (Value.agg cs).cells.toList = cs.toList := by simp [Value.cells]
  rw [e] at hf
  obtain ⟨v0, v1, v2, hcs⟩ := list3 (show cs.toList.length = 3 by simpa using hsz)
  rw [hcs] at hf
  obtain ⟨xs, n, _, hx, _, hxl, hg⟩ := DataW.trod_struct Try.underlying24 hf
  obtain ⟨y0, y1, y2, rfl⟩ := list3 hxl
  obtain rfl : d = _ := congrArg Prod.fst hx
  have g0 := hg 0 _ rfl
  have g1 := hg 1 _ rfl
  have g2 := hg 2 _ rfl
  simp [Try.cells2, Try.cells22] at g0 g1 g2
  have hR2 : ∀ n ∈ y2.1.weights Try.prog 22, n ≤ reachBytes := fun n hn => hR n (by
    simp only [DataW.weights, Try.underlying24, List.map_cons, List.map_nil, DataW.weightsEach, List.mem_append]
    exact Or.inr (Or.inr (Or.inl hn)))
  obtain ⟨n0, e0, _, _⟩ := DataW.trod_int Try.underlying2 g0
  obtain ⟨n1, e1, _, _⟩ := DataW.trod_int Try.underlying2 g1
  obtain ⟨ao, cap, ds, e2, k1, k2, k3⟩ := view_bytesR g2 hR2
  simp only [List.cons.injEq, and_true] at e0 e1 e2
  subst e0 e1 e2
  refine ⟨n0, n1, ao, cap, ds, ?_, k1, k2, k3⟩
  rw [show cs = cs.toList.toArray by simp, hcs]
end
end Go.Proofs.Ytiijbklaapaheaa
