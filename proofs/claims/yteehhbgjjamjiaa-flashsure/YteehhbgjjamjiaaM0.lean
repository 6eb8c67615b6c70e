/- What a flash is in memory ('IsFl'), what is kept beside it ('Upd'). -/
import Derived.WalkKit
import Derived.Laws.AppendOwnNone
import Derived.Laws.IdiomStrings
namespace Go.Proofs.Yteehhbgjjamjiaa
open Go.RowKit

/-- A fact kept from the walk. -/
theorem hide {p : Prop} (h : p) : Hid p := h
theorem unhide {p : Prop} (h : Hid p) : p := h

/-- All blocks below N but those of S are as they were. -/
structure Upd (S : Nat → Prop) (N : Nat) (w w' : World) : Prop where
  os : w'.os = w.os
  tape : w'.tape = w.tape
  output : w'.output = w.output
  size : w.heap.size ≤ w'.heap.size
  block : ∀ k, k < N → ¬ S k → w'.heap[k]? = w.heap[k]?

theorem Upd.refl (S : Nat → Prop) (N : Nat) (w : World) : Upd S N w w := ⟨rfl, rfl, rfl, Nat.le_refl _, fun _ _ _ => rfl⟩
theorem Upd.trans {S : Nat → Prop} {N : Nat} {a b c : World} (h : Upd S N a b) (k : Upd S N b c) : Upd S N a c :=
  ⟨k.os.trans h.os, k.tape.trans h.tape, k.output.trans h.output, Nat.le_trans h.size k.size, fun i hi hs => (k.block i hi hs).trans (h.block i hi hs)⟩
theorem Upd.mono {S S' : Nat → Prop} {N N' : Nat} {w w' : World} (h : Upd S N w w') (hN : N' ≤ N) (hS : ∀ k, k < N' → S k → S' k) : Upd S' N' w w' :=
  ⟨h.os, h.tape, h.output, h.size, fun k hk hs => h.block k (by omega) (fun c => hs (hS k hk c))⟩
theorem Upd.less {S : Nat → Prop} {N N' : Nat} {w w' : World} (h : Upd S N w w') (hN : N' ≤ N) : Upd S N' w w' := h.mono hN fun _ _ c => c
theorem Upd.drew {S : Nat → Prop} {N : Nat} {a w : World} (h : Upd S N a w) : Upd S N a w.drew := ⟨h.os, h.tape, h.output, h.size, h.block⟩
theorem Upd.alloc {S : Nat → Prop} {N : Nat} {a w : World} (h : Upd S N a w) (hN : N ≤ w.heap.size) (o : Obj) : Upd S N a (w.alloc o) :=
  h.trans ⟨rfl, rfl, rfl, by simp, fun k hk _ => Below.heap_alloc _ _ _ (by omega)⟩
theorem Upd.setCell {S : Nat → Prop} {N : Nat} {a w : World} (h : Upd S N a w) {p : Addr} (hp : S p.block ∨ N ≤ p.block) (u : Value) : Upd S N a (w.setCell p u) :=
  h.trans ⟨rfl, rfl, rfl, by simp [World.setCell], fun k hk hs => Below.heap_setCell _ _ _ _ (by rintro rfl; rcases hp with hp | hp; exact hs hp; omega)⟩
theorem Upd.of {S : Nat → Prop} {B : Nat} {w w' : World} (h : Below B w w') : Upd S B w w' := ⟨h.os, h.tape, h.output, h.size, fun k hk _ => h.block k hk⟩
theorem Upd.below {S : Nat → Prop} {N B : Nat} {w w' : World} (h : Upd S N w w') (hB : B ≤ N) (hS : ∀ k, k < B → ¬ S k) : Below B w w' := ⟨h.os, h.tape, h.output, h.size, fun k hk => h.block k (by omega) (hS k hk)⟩
theorem Upd.cell {S : Nat → Prop} {N : Nat} {w w' : World} (h : Upd S N w w') {p : Addr} (hp : p.block < N) (hs : ¬ S p.block) : w'.cell? p = w.cell? p := World.cell?_of_block (w := w) (h.block p.block hp hs)
theorem Upd.frozen {S : Nat → Prop} {N : Nat} {w w' : World} (h : Upd S N w w') {p : Addr} (hp : p.block < N) (hs : ¬ S p.block) : w'.frozen? p = w.frozen? p := World.frozen?_of_block (w := w) (h.block p.block hp hs)

/-- A flash: blocks of sixteen pages (a page: a state and bytes), wear, fuse, power. -/
structure Fl where
  n : Nat
  st : Nat → Nat → Int
  bs : Nat → Nat → ByteArray
  wear : Nat → Int
  cnt : Int
  keep : Int
  down : Bool

/-- The flash F lies at block h (its struct) and block g (its blocks). -/
structure IsFl (w : World) (g h cap : Nat) (F : Fl) : Prop where
  ne : g ≠ h
  pos : 0 < F.n
  le : F.n ≤ 1024
  fit : F.n ≤ cap
  ptr : w.cell? ⟨h, 0, none⟩ = some (.slice (some ⟨g, 0, none⟩) F.n cap)
  cnt : w.cell? ⟨h, 1, none⟩ = some (.int .i64 F.cnt)
  keep : w.cell? ⟨h, 2, none⟩ = some (.int .i64 F.keep)
  down : w.cell? ⟨h, 3, none⟩ = some (.bool F.down)
  frH : ∀ o, w.frozen? ⟨h, o, none⟩ = false
  st : ∀ i j, i < F.n → j < 16 → w.cell? ⟨g, i * 33 + j * 2, none⟩ = some (.int .i64 (F.st i j))
  bs : ∀ i j, i < F.n → j < 16 → w.cell? ⟨g, i * 33 + j * 2 + 1, none⟩ = some (.string (F.bs i j))
  wear : ∀ i, i < F.n → w.cell? ⟨g, i * 33 + 32, none⟩ = some (.int .i64 (F.wear i))
  frG : ∀ o, w.frozen? ⟨g, o, none⟩ = false

/-- Its two blocks. -/
def Two (g h : Nat) : Nat → Prop := fun k => k = g ∨ k = h

theorem IsFl.hlt {w : World} {g h cap : Nat} {F : Fl} (H : IsFl w g h cap F) : h < w.heap.size := World.block_lt_of_cell? w _ H.ptr
theorem IsFl.glt {w : World} {g h cap : Nat} {F : Fl} (H : IsFl w g h cap F) : g < w.heap.size := World.block_lt_of_cell? w _ (H.wear 0 H.pos)

theorem IsFl.keepB {w w' : World} {g h cap : Nat} {F : Fl} (H : IsFl w g h cap F) (hg : w'.heap[g]? = w.heap[g]?) (hh : w'.heap[h]? = w.heap[h]?) : IsFl w' g h cap F := by
  have cg : ∀ o, w'.cell? ⟨g, o, none⟩ = w.cell? ⟨g, o, none⟩ := fun o => World.cell?_of_block (w := w) hg
  have ch : ∀ o, w'.cell? ⟨h, o, none⟩ = w.cell? ⟨h, o, none⟩ := fun o => World.cell?_of_block (w := w) hh
  have fg : ∀ o, w'.frozen? ⟨g, o, none⟩ = w.frozen? ⟨g, o, none⟩ := fun o => World.frozen?_of_block (w := w) hg
  have fh : ∀ o, w'.frozen? ⟨h, o, none⟩ = w.frozen? ⟨h, o, none⟩ := fun o => World.frozen?_of_block (w := w) hh
  refine ⟨H.ne, H.pos, H.le, H.fit, ?_, ?_, ?_, ?_, fun o => by rw [fh, H.frH], fun i j hi hj => ?_, fun i j hi hj => ?_, fun i hi => ?_, fun o => by rw [fg, H.frG]⟩
  · rw [ch, H.ptr]
  · rw [ch, H.cnt]
  · rw [ch, H.keep]
  · rw [ch, H.down]
  · rw [cg, H.st i j hi hj]
  · rw [cg, H.bs i j hi hj]
  · rw [cg, H.wear i hi]

theorem IsFl.below {w w' : World} {g h cap : Nat} {F : Fl} (H : IsFl w g h cap F) (hb : Below w.heap.size w w') : IsFl w' g h cap F :=
  H.keepB (hb.block g H.glt) (hb.block h H.hlt)
theorem IsFl.upd {w w' : World} {g h cap N : Nat} {F : Fl} {S : Nat → Prop} (H : IsFl w g h cap F) (hb : Upd S N w w') (hN : w.heap.size ≤ N) (hg : ¬ S g) (hh : ¬ S h) : IsFl w' g h cap F :=
  H.keepB (hb.block g (by have := H.glt; omega) hg) (hb.block h (by have := H.hlt; omega) hh)
theorem IsFl.alloc {w : World} {g h cap : Nat} {F : Fl} (H : IsFl w g h cap F) (o : Obj) : IsFl (w.alloc o) g h cap F :=
  H.below ((Below.refl _ _).alloc (Nat.le_refl _) o)
theorem IsFl.drew {w : World} {g h cap : Nat} {F : Fl} (H : IsFl w g h cap F) : IsFl w.drew g h cap F := H.keepB rfl rfl

theorem addr_ne {b b' o o' : Nat} (h : b ≠ b' ∨ o ≠ o') : (⟨b, o, none⟩ : Addr) ≠ ⟨b', o', none⟩ := by
  intro e; simp only [Addr.mk.injEq, and_true] at e; omega

theorem cs_other {w : World} {a b : Addr} {v : Value} (h : a ≠ b) : (w.setCell a v).cell? b = w.cell? b := World.cell?_setCell_other w a b v h
theorem cs_same {w : World} {a : Addr} {v u : Value} (h : w.cell? a = some u) : (w.setCell a v).cell? a = some v := World.cell?_setCell_same w a v h

/-- A cell of another block is written. -/
theorem IsFl.other {w : World} {g h cap : Nat} {F : Fl} (H : IsFl w g h cap F) (b o : Nat) (u : Value) (hg : b ≠ g) (hh : b ≠ h) : IsFl (w.setCell ⟨b, o, none⟩ u) g h cap F :=
  H.keepB (Below.heap_setCell _ _ _ _ (by simpa using hg.symm)) (Below.heap_setCell _ _ _ _ (by simpa using hh.symm))

theorem IsFl.setCnt {w : World} {g h cap : Nat} {F : Fl} (H : IsFl w g h cap F) (c : Int) : IsFl (w.setCell ⟨h, 1, none⟩ (.int .i64 c)) g h cap { F with cnt := c } := by
  have hn := H.ne
  have cg : ∀ o, (w.setCell ⟨h, 1, none⟩ (.int .i64 c)).cell? ⟨g, o, none⟩ = w.cell? ⟨g, o, none⟩ := fun o => cs_other (addr_ne (Or.inl hn.symm))
  have ch : ∀ o, o ≠ 1 → (w.setCell ⟨h, 1, none⟩ (.int .i64 c)).cell? ⟨h, o, none⟩ = w.cell? ⟨h, o, none⟩ := fun o ho => cs_other (addr_ne (Or.inr ho.symm))
  exact ⟨hn, H.pos, H.le, H.fit, by rw [ch 0 (by decide)]; exact H.ptr, cs_same H.cnt, by rw [ch 2 (by decide)]; exact H.keep, by rw [ch 3 (by decide)]; exact H.down, fun o => by rw [World.frozen?_setCell]; exact H.frH o,
    fun i j hi hj => by rw [cg]; exact H.st i j hi hj, fun i j hi hj => by rw [cg]; exact H.bs i j hi hj, fun i hi => by rw [cg]; exact H.wear i hi, fun o => by rw [World.frozen?_setCell]; exact H.frG o⟩
theorem IsFl.setKeep {w : World} {g h cap : Nat} {F : Fl} (H : IsFl w g h cap F) (c : Int) : IsFl (w.setCell ⟨h, 2, none⟩ (.int .i64 c)) g h cap { F with keep := c } := by
  have hn := H.ne
  have cg : ∀ o, (w.setCell ⟨h, 2, none⟩ (.int .i64 c)).cell? ⟨g, o, none⟩ = w.cell? ⟨g, o, none⟩ := fun o => cs_other (addr_ne (Or.inl hn.symm))
  have ch : ∀ o, o ≠ 2 → (w.setCell ⟨h, 2, none⟩ (.int .i64 c)).cell? ⟨h, o, none⟩ = w.cell? ⟨h, o, none⟩ := fun o ho => cs_other (addr_ne (Or.inr ho.symm))
  exact ⟨hn, H.pos, H.le, H.fit, by rw [ch 0 (by decide)]; exact H.ptr, by rw [ch 1 (by decide)]; exact H.cnt, cs_same H.keep, by rw [ch 3 (by decide)]; exact H.down, fun o => by rw [World.frozen?_setCell]; exact H.frH o,
    fun i j hi hj => by rw [cg]; exact H.st i j hi hj, fun i j hi hj => by rw [cg]; exact H.bs i j hi hj, fun i hi => by rw [cg]; exact H.wear i hi, fun o => by rw [World.frozen?_setCell]; exact H.frG o⟩
theorem IsFl.setDown {w : World} {g h cap : Nat} {F : Fl} (H : IsFl w g h cap F) (c : Bool) : IsFl (w.setCell ⟨h, 3, none⟩ (.bool c)) g h cap { F with down := c } := by
  have hn := H.ne
  have cg : ∀ o, (w.setCell ⟨h, 3, none⟩ (.bool c)).cell? ⟨g, o, none⟩ = w.cell? ⟨g, o, none⟩ := fun o => cs_other (addr_ne (Or.inl hn.symm))
  have ch : ∀ o, o ≠ 3 → (w.setCell ⟨h, 3, none⟩ (.bool c)).cell? ⟨h, o, none⟩ = w.cell? ⟨h, o, none⟩ := fun o ho => cs_other (addr_ne (Or.inr ho.symm))
  exact ⟨hn, H.pos, H.le, H.fit, by rw [ch 0 (by decide)]; exact H.ptr, by rw [ch 1 (by decide)]; exact H.cnt, by rw [ch 2 (by decide)]; exact H.keep, cs_same H.down, fun o => by rw [World.frozen?_setCell]; exact H.frH o,
    fun i j hi hj => by rw [cg]; exact H.st i j hi hj, fun i j hi hj => by rw [cg]; exact H.bs i j hi hj, fun i hi => by rw [cg]; exact H.wear i hi, fun o => by rw [World.frozen?_setCell]; exact H.frG o⟩

def Fl.setSt (F : Fl) (i j : Nat) (s : Int) : Fl := { F with st := fun i' j' => if i' = i ∧ j' = j then s else F.st i' j' }
def Fl.setBs (F : Fl) (i j : Nat) (b : ByteArray) : Fl := { F with bs := fun i' j' => if i' = i ∧ j' = j then b else F.bs i' j' }
def Fl.put (F : Fl) (i j : Nat) (s : Int) (b : ByteArray) : Fl := (F.setSt i j s).setBs i j b

theorem IsFl.setSt {w : World} {g h cap : Nat} {F : Fl} (H : IsFl w g h cap F) (i j : Nat) (hi : i < F.n) (hj : j < 16) (s : Int) : IsFl (w.setCell ⟨g, i * 33 + j * 2, none⟩ (.int .i64 s)) g h cap (F.setSt i j s) := by
  have hn := H.ne
  have ch : ∀ o, (w.setCell ⟨g, i * 33 + j * 2, none⟩ (.int .i64 s)).cell? ⟨h, o, none⟩ = w.cell? ⟨h, o, none⟩ := fun o => cs_other (addr_ne (Or.inl hn))
  have cg : ∀ o, o ≠ i * 33 + j * 2 → (w.setCell ⟨g, i * 33 + j * 2, none⟩ (.int .i64 s)).cell? ⟨g, o, none⟩ = w.cell? ⟨g, o, none⟩ := fun o ho => cs_other (addr_ne (Or.inr ho.symm))
  refine ⟨hn, H.pos, H.le, H.fit, by rw [ch]; exact H.ptr, by rw [ch]; exact H.cnt, by rw [ch]; exact H.keep, by rw [ch]; exact H.down, fun o => by rw [World.frozen?_setCell]; exact H.frH o,
    fun i' j' hi' hj' => ?_, fun i' j' hi' hj' => ?_, fun i' hi' => ?_, fun o => by rw [World.frozen?_setCell]; exact H.frG o⟩
  · show _ = some (Value.int .i64 (if i' = i ∧ j' = j then s else F.st i' j'))
    by_cases c : i' = i ∧ j' = j
    · obtain ⟨rfl, rfl⟩ := c
      rw [if_pos ⟨rfl, rfl⟩]
      exact cs_same (H.st i' j' hi hj)
    · rw [if_neg c, cg _ (by omega)]; exact H.st i' j' hi' hj'
  · rw [cg _ (by omega)]; exact H.bs i' j' hi' hj'
  · rw [cg _ (by omega)]; exact H.wear i' hi'
theorem IsFl.setBs {w : World} {g h cap : Nat} {F : Fl} (H : IsFl w g h cap F) (i j : Nat) (hi : i < F.n) (hj : j < 16) (s : ByteArray) : IsFl (w.setCell ⟨g, i * 33 + j * 2 + 1, none⟩ (.string s)) g h cap (F.setBs i j s) := by
  have hn := H.ne
  have ch : ∀ o, (w.setCell ⟨g, i * 33 + j * 2 + 1, none⟩ (.string s)).cell? ⟨h, o, none⟩ = w.cell? ⟨h, o, none⟩ := fun o => cs_other (addr_ne (Or.inl hn))
  have cg : ∀ o, o ≠ i * 33 + j * 2 + 1 → (w.setCell ⟨g, i * 33 + j * 2 + 1, none⟩ (.string s)).cell? ⟨g, o, none⟩ = w.cell? ⟨g, o, none⟩ := fun o ho => cs_other (addr_ne (Or.inr ho.symm))
  refine ⟨hn, H.pos, H.le, H.fit, by rw [ch]; exact H.ptr, by rw [ch]; exact H.cnt, by rw [ch]; exact H.keep, by rw [ch]; exact H.down, fun o => by rw [World.frozen?_setCell]; exact H.frH o,
    fun i' j' hi' hj' => ?_, fun i' j' hi' hj' => ?_, fun i' hi' => ?_, fun o => by rw [World.frozen?_setCell]; exact H.frG o⟩
  · rw [cg _ (by omega)]; exact H.st i' j' hi' hj'
  · show _ = some (Value.string (if i' = i ∧ j' = j then s else F.bs i' j'))
    by_cases c : i' = i ∧ j' = j
    · obtain ⟨rfl, rfl⟩ := c
      rw [if_pos ⟨rfl, rfl⟩]
      exact cs_same (H.bs i' j' hi hj)
    · rw [if_neg c, cg _ (by omega)]; exact H.bs i' j' hi' hj'
  · rw [cg _ (by omega)]; exact H.wear i' hi'

/-- A page is written. -/
theorem IsFl.put {w : World} {g h cap : Nat} {F : Fl} (H : IsFl w g h cap F) (i j : Nat) (hi : i < F.n) (hj : j < 16) (s : Int) (b : ByteArray) : IsFl ((w.setCell ⟨g, i * 33 + j * 2, none⟩ (.int .i64 s)).setCell ⟨g, i * 33 + j * 2 + 1, none⟩ (.string b)) g h cap (F.put i j s b) :=
  (H.setSt i j hi hj s).setBs i j hi hj b

def Fl.setWear (F : Fl) (i : Nat) (x : Int) : Fl := { F with wear := fun i' => if i' = i then x else F.wear i' }
theorem IsFl.setWear {w : World} {g h cap : Nat} {F : Fl} (H : IsFl w g h cap F) (i : Nat) (hi : i < F.n) (x : Int) : IsFl (w.setCell ⟨g, i * 33 + 32, none⟩ (.int .i64 x)) g h cap (F.setWear i x) := by
  have hn := H.ne
  have ch : ∀ o, (w.setCell ⟨g, i * 33 + 32, none⟩ (.int .i64 x)).cell? ⟨h, o, none⟩ = w.cell? ⟨h, o, none⟩ := fun o => cs_other (addr_ne (Or.inl hn))
  have cg : ∀ o, o ≠ i * 33 + 32 → (w.setCell ⟨g, i * 33 + 32, none⟩ (.int .i64 x)).cell? ⟨g, o, none⟩ = w.cell? ⟨g, o, none⟩ := fun o ho => cs_other (addr_ne (Or.inr ho.symm))
  refine ⟨hn, H.pos, H.le, H.fit, by rw [ch]; exact H.ptr, by rw [ch]; exact H.cnt, by rw [ch]; exact H.keep, by rw [ch]; exact H.down, fun o => by rw [World.frozen?_setCell]; exact H.frH o,
    fun i' j' hi' hj' => ?_, fun i' j' hi' hj' => ?_, fun i' hi' => ?_, fun o => by rw [World.frozen?_setCell]; exact H.frG o⟩
  · rw [cg _ (by omega)]; exact H.st i' j' hi' hj'
  · rw [cg _ (by omega)]; exact H.bs i' j' hi' hj'
  · show _ = some (Value.int .i64 (if i' = i then x else F.wear i'))
    by_cases c : i' = i
    · subst c; rw [if_pos rfl]; exact cs_same (H.wear i' hi)
    · rw [if_neg c, cg _ (by omega)]; exact H.wear i' hi'

/-- What no call made: nil, or a struct that has no blocks. -/
def IsNo (w : World) (v : Value) : Prop := v = .pointer none ∨ ∃ h, v = .pointer (some ⟨h, 0, none⟩) ∧ w.cell? ⟨h, 0, none⟩ = some (.slice none 0 0)

end Go.Proofs.Yteehhbgjjamjiaa
