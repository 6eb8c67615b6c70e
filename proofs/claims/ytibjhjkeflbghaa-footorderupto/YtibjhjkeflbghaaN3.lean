/- A footprint in memory: its box, its rows. -/
import Derived.Test.YtibjhjkeflbghaaN1
namespace Go.Proofs.Ytibjhjkeflbghaa
open Go.RowKit
set_option maxRecDepth 100000

def litR (a : Nat → Option Addr) (L c : Nat → Nat) : List Value := [.slice (a 0) (L 0) (c 0), .slice (a 1) (L 1) (c 1), .slice (a 2) (L 2) (c 2), .slice (a 3) (L 3) (c 3), .slice (a 4) (L 4) (c 4), .slice (a 5) (L 5) (c 5), .slice (a 6) (L 6) (c 6), .slice (a 7) (L 7) (c 7)]
theorem litR_at (a : Nat → Option Addr) (L c : Nat → Nat) {p : Nat} (hp : p < 8) : (litR a L c)[p]? = some (.slice (a p) (L p) (c p)) := by
  rcases (by omega : p = 0 ∨ p = 1 ∨ p = 2 ∨ p = 3 ∨ p = 4 ∨ p = 5 ∨ p = 6 ∨ p = 7) with rfl | rfl | rfl | rfl | rfl | rfl | rfl | rfl <;> rfl
/-- A footprint's eighteen cells. -/
def ftC (a : Nat → Option Addr) (L c : Nat → Nat) (a' : Nat → Option Addr) (L' c' : Nat → Nat) (pv tv : Value) : Array Value := #[.slice (a 0) (L 0) (c 0), .slice (a 1) (L 1) (c 1), .slice (a 2) (L 2) (c 2), .slice (a 3) (L 3) (c 3), .slice (a 4) (L 4) (c 4), .slice (a 5) (L 5) (c 5), .slice (a 6) (L 6) (c 6), .slice (a 7) (L 7) (c 7), .slice (a' 0) (L' 0) (c' 0), .slice (a' 1) (L' 1) (c' 1), .slice (a' 2) (L' 2) (c' 2), .slice (a' 3) (L' 3) (c' 3), .slice (a' 4) (L' 4) (c' 4), .slice (a' 5) (L' 5) (c' 5), .slice (a' 6) (L' 6) (c' 6), .slice (a' 7) (L' 7) (c' 7), pv, tv]
theorem ft_one0 (a : Nat → Option Addr) (L c : Nat → Nat) (a' : Nat → Option Addr) (L' c' : Nat → Nat) : (ftC a L c a' L' c' (.slice none 0 0) (.slice none 0 0)).all (·.oneCell') = true := by
  rw [← Array.all_toList]
  rfl
theorem ft_one {a : Nat → Option Addr} {L c : Nat → Nat} {a' : Nat → Option Addr} {L' c' : Nat → Nat} (p t : Option Addr) (m m' k k' : Nat) : (ftC a L c a' L' c' (.slice p m k) (.slice t m' k')).all (·.oneCell') = true := by
  rw [← Array.all_toList]
  rfl
def nil18 : Array Value := ftC (fun _ => none) (fun _ => 0) (fun _ => 0) (fun _ => none) (fun _ => 0) (fun _ => 0) (.slice none 0 0) (.slice none 0 0)
theorem Try.info32 : (Try.prog.info? 32).map (·.size) = some 18 := by kernel_rfl
section
variable {z : World} {b : Nat} {a : Nat → Option Addr} {L c : Nat → Nat} {a' : Nat → Option Addr} {L' c' : Nat → Nat} {pv tv : Value}
theorem ft_range0 (h : z.heap[b]? = some (.cells (ftC a L c a' L' c' pv tv) 32)) : z.rangeAt b 0 (litR a L c) := fun j v hj => by
  have hlt : j < 8 := (List.getElem?_eq_some_iff.1 hj).1
  rw [litR_at _ _ _ hlt] at hj
  rw [cell_at h, ← hj]
  rcases (by omega : j = 0 ∨ j = 1 ∨ j = 2 ∨ j = 3 ∨ j = 4 ∨ j = 5 ∨ j = 6 ∨ j = 7) with rfl | rfl | rfl | rfl | rfl | rfl | rfl | rfl <;> rfl
theorem ft_range8 (h : z.heap[b]? = some (.cells (ftC a L c a' L' c' pv tv) 32)) : z.rangeAt b 8 (litR a' L' c') := fun j v hj => by
  have hlt : j < 8 := (List.getElem?_eq_some_iff.1 hj).1
  rw [litR_at _ _ _ hlt] at hj
  rw [cell_at h, ← hj]
  rcases (by omega : j = 0 ∨ j = 1 ∨ j = 2 ∨ j = 3 ∨ j = 4 ∨ j = 5 ∨ j = 6 ∨ j = 7) with rfl | rfl | rfl | rfl | rfl | rfl | rfl | rfl <;> rfl
end
/-- A footprint in the block b, its rows from B on: what it reads and writes by partitions, its partitions, those that take part. -/
structure FtS (B b : Nat) (f f' : Nat → List Ky) (a : Nat → Option Addr) (L c : Nat → Nat) (a' : Nat → Option Addr) (L' c' : Nat → Nat) (pv tv : Value) (pl tl : List Int) (z : World) : Prop where
  box : z.heap[b]? = some (.cells (ftC a L c a' L' c' pv tv) 32)
  rd : Rows8 B z f (litR a L c)
  wt : Rows8 B z f' (litR a' L' c')
  ps : z.ownsRow B 3 1 pv pl.length (pl.flatMap nC)
  ts : z.ownsRow B 3 1 tv tl.length (tl.flatMap nC)
section
variable {B b : Nat} {f f' : Nat → List Ky} {a : Nat → Option Addr} {L c : Nat → Nat} {a' : Nat → Option Addr} {L' c' : Nat → Nat} {pv tv : Value} {pl tl : List Int} {z y : World}
theorem FtS.grow (h : FtS B b f f' a L c a' L' c' pv tv pl tl z) (hb : Below z.heap.size z y) : FtS B b f f' a L c a' L' c' pv tv pl tl y :=
  ⟨(hb.block _ (Array.getElem?_eq_some_iff.1 h.box).1).trans h.box, h.rd.below hb, h.wt.below hb, own_below h.ps hb, own_below h.ts hb⟩
theorem own_box {e size n : Nat} {v : Value} {xs : List Value} {base : Nat} {cs : Array Value} (hz : z.heap[b]? = some (.cells cs 32)) (he : e ≠ 32) (hb : ∀ j, j ≠ b → y.heap[j]? = z.heap[j]?) (h : z.ownsRow base e size v n xs) : y.ownsRow base e size v n xs := by
  refine ⟨h.1, ?_⟩
  rcases h.2 with hn | ⟨g', cap, cur, hv', hb', hh, r⟩
  · exact .inl hn
  · refine .inr ⟨g', cap, cur, hv', hb', (hb g' (fun e' => ?_)).trans hh, r⟩
    subst e'
    rw [hz] at hh
    simp only [Option.some.injEq, Obj.cells.injEq] at hh
    exact he hh.2.1.symm
theorem Rows8.box {rows : List Value} {g : Nat → List Ky} {cs : Array Value} (hz : z.heap[b]? = some (.cells cs 32)) (hb : ∀ j, j ≠ b → y.heap[j]? = z.heap[j]?) (h : Rows8 B z g rows) : Rows8 B y g rows := ⟨h.1, fun p v hv => own_box hz (by decide) hb (h.2.1 p v hv), h.2.2⟩
theorem FtS.setP (h : FtS B b f f' a L c a' L' c' pv tv pl tl z) {r : Value} {rl : List Int} (hr : z.ownsRow B 3 1 r rl.length (rl.flatMap nC)) : FtS B b f f' a L c a' L' c' r tv rl tl (z.setCell ⟨b, 16, none⟩ r) := by
  have hb : ∀ j, j ≠ b → (z.setCell ⟨b, 16, none⟩ r).heap[j]? = z.heap[j]? := fun j hj => setCell_far hj
  exact ⟨by rw [heap_setCell_same z _ _ _ _ _ h.box]; rfl, h.rd.box h.box hb, h.wt.box h.box hb, own_box h.box (by decide) hb hr, own_box h.box (by decide) hb h.ts⟩
theorem FtS.setT (h : FtS B b f f' a L c a' L' c' pv tv pl tl z) {r : Value} {rl : List Int} (hr : z.ownsRow B 3 1 r rl.length (rl.flatMap nC)) : FtS B b f f' a L c a' L' c' pv r pl rl (z.setCell ⟨b, 17, none⟩ r) := by
  have hb : ∀ j, j ≠ b → (z.setCell ⟨b, 17, none⟩ r).heap[j]? = z.heap[j]? := fun j hj => setCell_far hj
  exact ⟨by rw [heap_setCell_same z _ _ _ _ _ h.box]; rfl, h.rd.box h.box hb, h.wt.box h.box hb, own_box h.box (by decide) hb h.ps, own_box h.box (by decide) hb hr⟩
end
/-- How many keys a partition has: of what is read and written; of what is written. -/
def cnt2 (L L' : Nat → Nat) (p : Nat) : Int := 0 + L p + L' p
def cnt1 (L' : Nat → Nat) (p : Nat) : Int := 0 + L' p
def ptsL (L L' : Nat → Nat) : List Int := if hv (cnt2 L L') 8 = [] then [0] else hv (cnt2 L L') 8
def actL (L L' : Nat → Nat) : List Int := if hv (cnt1 L') 8 = [] then [(ptsL L L').getD 0 0] else hv (cnt1 L') 8
theorem ptsL_pos (L L' : Nat → Nat) : 0 < (ptsL L L').length := by
  unfold ptsL
  split
  · simp
  · rename_i h
    exact List.length_pos_iff.2 h
theorem own_oneN (w : World) (k : Int) {B : Nat} (hB : B ≤ w.heap.size) : (w.alloc (.cells #[.int .i64 k] 3)).ownsRow B 3 1 (.slice (some ⟨w.heap.size, 0, none⟩) 1 1) [k].length ([k].flatMap nC) :=
  ⟨rfl, .inr ⟨w.heap.size, 1, _, rfl, hB, heap_alloc_new w _, Nat.le_refl _, by unfold maxLen; omega, rfl, rfl⟩⟩
/-- Two arrays of slices beside each other. -/
theorem having2 {w : World} {g : Nat} {a : Nat → Option Addr} {L c : Nat → Nat} {a' : Nat → Option Addr} {L' c' : Nat → Nat} (h0 : w.rangeAt g 0 (litR a L c)) (h1 : w.rangeAt g 8 (litR a' L' c')) (hg : g < w.heap.size) (hl : ∀ p, p < 8 → L p ≤ 8796093022208) (hl' : ∀ p, p < 8 → L' p ≤ 8796093022208) :
    Calls Try.prog 37 #[.slice (some ⟨g, 0, none⟩) 2 2] w fun e w' => ∃ r, e = .returned r ∧ w'.ownsRow w.heap.size 3 1 r (hv (cnt2 L L') 8).length ((hv (cnt2 L L') 8).flatMap nC) ∧ Below w.heap.size w w' := by
  have := having_any (w := w) (g := g) (k := 2) (R := fun i => if i = 0 then litR a L c else litR a' L' c') (len := fun i => if i = 0 then L else L') (Nat.le_refl _) (fun i hi => by
    rcases (by omega : i = 0 ∨ i = 1) with rfl | rfl
    · exact h0
    · exact h1) (fun i hi => by
    rcases (by omega : i = 0 ∨ i = 1) with rfl | rfl <;> rfl) hg (fun i p hi hp => by
    rcases (by omega : i = 0 ∨ i = 1) with rfl | rfl
    · exact ⟨_, _, litR_at _ _ _ hp⟩
    · exact ⟨_, _, litR_at _ _ _ hp⟩) (fun i p hi hp => by
    rcases (by omega : i = 0 ∨ i = 1) with rfl | rfl
    · exact hl p hp
    · exact hl' p hp)
  exact this
theorem having1 {w : World} {g : Nat} {a' : Nat → Option Addr} {L' c' : Nat → Nat} (h1 : w.rangeAt g 0 (litR a' L' c')) (hg : g < w.heap.size) (hl' : ∀ p, p < 8 → L' p ≤ 8796093022208) :
    Calls Try.prog 37 #[.slice (some ⟨g, 0, none⟩) 1 1] w fun e w' => ∃ r, e = .returned r ∧ w'.ownsRow w.heap.size 3 1 r (hv (cnt1 L') 8).length ((hv (cnt1 L') 8).flatMap nC) ∧ Below w.heap.size w w' := by
  have := having_any (w := w) (g := g) (k := 1) (R := fun _ => litR a' L' c') (len := fun _ => L') (by decide) (fun i hi => by
    obtain rfl : i = 0 := by omega
    exact h1) (fun _ _ => rfl) hg (fun i p hi hp => ⟨_, _, litR_at _ _ _ hp⟩) (fun i p hi hp => hl' p hp)
  exact this
end Go.Proofs.Ytibjhjkeflbghaa
