/- The reader's blob. -/
import Derived.Test.YtoddemcmmijoaaaKT
namespace Go.Proofs.Ytoddemcmmijoaaa
open Go.RowKit
set_option maxRecDepth 100000

/-- The blob with which bytes begin, how many bytes all of it has, and what is wrong with them. -/
def tb (l : List Int) : List Int × Nat × Int :=
  if (tn l).2.2 ≠ 0 then ([], 0, (tn l).2.2)
  else if (tn l).1 < 0 then ([], 0, 11)
  else if (l.length : Int) - (tn l).2.1 < (tn l).1 then ([], 0, 10)
  else ((l.drop (tn l).2.1).take (tn l).1.toNat, (tn l).2.1 + (tn l).1.toNat, 0)

theorem tn_le (l : List Int) (h : (tn l).2.2 = 0) : 1 ≤ (tn l).2.1 ∧ (tn l).2.1 ≤ l.length := by
  cases l with
  | nil => simp [tn] at h
  | cons x r =>
    simp only [tn] at h ⊢
    by_cases c1 : 17 < x ∨ x = 1
    · simp only [if_pos c1] at h; simp at h
    simp only [if_neg c1] at h ⊢
    by_cases c2 : r.length < (x / 2).toNat
    · simp only [if_pos c2] at h; simp at h
    simp only [if_neg c2] at h ⊢
    by_cases c3 : wid (valL (r.take (x / 2).toNat)) ≠ (x / 2).toNat
    · simp only [if_pos c3] at h; simp at h
    simp only [if_neg c3] at h ⊢
    simp only [List.length_cons]
    by_cases c4 : x % 2 = 1
    · simp only [if_pos c4] at h ⊢
      by_cases c5 : valL (r.take (x / 2).toNat) ≤ 9223372036854775808
      · simp only [if_pos c5]; omega
      · simp only [if_neg c5] at h; simp at h
    · simp only [if_neg c4] at h ⊢
      by_cases c5 : valL (r.take (x / 2).toNat) < 9223372036854775808
      · simp only [if_pos c5]; omega
      · simp only [if_neg c5] at h; simp at h

/-- What the reader's blob answers. -/
def ReadsB (R : Nat) (v : Value) (p base : Nat) (w : World) (t : List Int × Nat × Int) (e : Ending) (w' : World) : Prop :=
  Below R w w' ∧ (t.2.2 = 0 → ∃ x, e = .returned x ∧ AtR w' R v (p + t.2.1) ∧ w'.ownsRow base 5 1 x t.1.length (ints .u8 t.1)) ∧ (t.2.2 ≠ 0 → e = GiveUp t.2.2)

end Go.Proofs.Ytoddemcmmijoaaa
