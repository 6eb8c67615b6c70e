/- Checkpoints: the newest of two halves: in pure terms. -/
import Derived.Test.YtiijbklaapaheabCM
namespace Go.Proofs.Ytiijbklaapaheab
open Go.RowKit Go.Shelf
set_option maxRecDepth 100000

theorem readB_byt (F : Fl) (i j : Int) : Byt (F.readB i j) := by
  unfold Fl.readB
  split
  · exact bytesOf_byt _
  · intro b hb; cases hb
theorem pgs_byt (F : Fl) (f k : Nat) : ∀ i, ∀ l ∈ pgs F f i k, Byt l := by
  induction k with
  | zero => intro i l hl; cases hl
  | succ k ih =>
    intro i l hl
    rw [pgs_succ] at hl
    split at hl
    · cases hl
    · rcases List.mem_cons.1 hl with rfl | hl
      · exact readB_byt F _ _
      · exact ih _ _ hl
theorem pgs_len (F : Fl) (hP : ∀ i j, (F.readB i j).length ≤ 256) (f k : Nat) : ∀ i, (pgs F f i k).flatten.length ≤ k * 256 := by
  induction k with
  | zero => intro i; simp [pgs]
  | succ k ih =>
    intro i
    rw [pgs_succ]
    split
    · simp
    · have h1 := hP ((f + i / 16 : Nat) : Int) ((i % 16 : Nat) : Int)
      have h2 := ih (i + 1)
      rw [List.flatten_cons, List.length_append]; omega
theorem rdL_byt (F : Fl) (f n : Nat) : Byt (rdL F f n) := by
  intro b hb
  obtain ⟨l, hl, hbl⟩ := List.mem_flatten.1 hb
  exact pgs_byt F f _ 0 l hl b hbl
theorem rdL_len (F : Fl) (hP : ∀ i j, (F.readB i j).length ≤ 256) (f n : Nat) : (rdL F f n).length ≤ n * 4096 := by
  have := pgs_len F hP f (n * 16) 0
  unfold rdL; omega

/-- The best so far: which half, what it says. -/
structure Bst where
  at' : Int
  ck : Ck
def Bst.none : Bst := ⟨0, ⟨0, 0, 0, [], 0⟩⟩
def Bst.step (b : Bst) (i : Int) (c : Ck) : Bst := if c.err = 0 ∧ b.ck.num < c.num then ⟨i, c⟩ else b
/-- What the first k of two halves of m blocks each hold at best. -/
def nwk (F : Fl) (f m : Nat) : Nat → Bst
  | 0 => .none
  | k + 1 => (nwk F f m k).step k (dec (rdL F (f + k * m) m))

theorem decode_half {w : World} {v : Value} {F : Fl} {f n : Nat} (hP : ∀ i j, (F.readB i j).length ≤ 256) (hn : n ≤ 1048576) {base : Nat} (h : w.ownsRow base 5 1 v (rdL F f n).length (ints .u8 (rdL F f n))) :
    Calls Try.prog 21 #[v] w fun e w' => DecR w w' (dec (rdL F f n)) e :=
  decode_any v _ w (sees_of_own h).2 (rdL_byt F f n) (by have := rdL_len F hP f n; omega)

end Go.Proofs.Ytiijbklaapaheab
