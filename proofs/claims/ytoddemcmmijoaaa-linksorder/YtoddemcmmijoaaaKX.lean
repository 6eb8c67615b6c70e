/- Several texts as one. -/
import Derived.Test.YtoddemcmmijoaaaYB

/- Record: keys, written. -/
namespace Go.Proofs.Ytoddemcmmijoaaa
open Go.RowKit
set_option maxRecDepth 100000

theorem sees_lit (w : World) (zs : List Int) (h : zs.length ≤ 9223372036854775807) : Sees (w.alloc (.cells (ints .i64 zs).toArray 2)) .i64 (.slice (some ⟨w.heap.size, 0, none⟩) zs.length zs.length) zs :=
  (sees_of_own (own_new w .i64 zs 2 w.heap.size zs.length rfl (Nat.le_refl _) (by unfold maxLen; omega))).2
theorem i64_of {l : List Int} (h : ∀ x ∈ l, -9223372036854775808 ≤ x ∧ x ≤ 9223372036854775807) : I64 l := fun t ht => by
  have e : l.getD t 0 = l[t] := by simp [List.getD, ht]
  rw [e]
  exact h _ (List.getElem_mem ht)
/-- The numbers of keys. -/
def keyN : List (Int × Int) → List Int
  | [] => []
  | k :: l => k.1 :: k.2 :: keyN l
theorem keyN_append (a b : List (Int × Int)) : keyN (a ++ b) = keyN a ++ keyN b := by
  induction a with
  | nil => rfl
  | cons x r ih => simp [keyN, ih]
theorem keyN_length (l : List (Int × Int)) : (keyN l).length = 2 * l.length := by
  induction l with
  | nil => rfl
  | cons x r ih => simp [keyN, ih]; omega
/-- Keys that lie in memory. -/
def OkK (l : List (Int × Int)) : Prop := ∀ k ∈ l, (-2147483648 ≤ k.1 ∧ k.1 ≤ 2147483647) ∧ (-9223372036854775808 ≤ k.2 ∧ k.2 ≤ 9223372036854775807)
theorem OkK.at {l : List (Int × Int)} (h : OkK l) {t : Nat} (ht : t < l.length) : (-2147483648 ≤ (l.getD t (0, 0)).1 ∧ (l.getD t (0, 0)).1 ≤ 2147483647) ∧ (-9223372036854775808 ≤ (l.getD t (0, 0)).2 ∧ (l.getD t (0, 0)).2 ≤ 9223372036854775807) := by
  have e : l.getD t (0, 0) = l[t] := by simp [List.getD, ht]
  rw [e]
  exact h _ (List.getElem_mem ht)

theorem take_keys (l : List (Int × Int)) (t : Nat) (ht : t < l.length) : keyN (l.take (t + 1)) = keyN (l.take t) ++ [(l.getD t (0, 0)).1, (l.getD t (0, 0)).2] := by
  have e : l.take (t + 1) = l.take t ++ [l.getD t (0, 0)] := by
    rw [List.take_add_one]
    simp [List.getD, ht]
  rw [e, keyN_append]
  rfl

end Go.Proofs.Ytoddemcmmijoaaa

/- Record: transactions, written. -/
namespace Go.Proofs.Ytoddemcmmijoaaa
open Go.RowKit
set_option maxRecDepth 100000

/-- A transaction's form. -/
def txnB (t : TxnD) : List Int :=
  putL [t.ses, t.req] ++ (putL [(t.code.length : Int)] ++ t.code) ++ putL [(t.args.length : Int)] ++ putL t.args ++ putL ((t.reads.length : Int) :: keyN t.reads) ++ putL ((t.writes.length : Int) :: keyN t.writes)
/-- What memory holds. -/
structure FitT (t : TxnD) : Prop where
  ses : -9223372036854775808 ≤ t.ses ∧ t.ses ≤ 9223372036854775807
  req : -9223372036854775808 ≤ t.req ∧ t.req ≤ 9223372036854775807
  code : Byt t.code
  args : ∀ x ∈ t.args, -9223372036854775808 ≤ x ∧ x ≤ 9223372036854775807
  reads : OkK t.reads
  writes : OkK t.writes
theorem mayK_le {l : List (Int × Int)} (h : mayK l = true) : l.length ≤ 16 := by
  unfold mayK at h
  simp at h
  exact h.1
theorem mayT_le {t : TxnD} (h : mayT t = true) : t.code.length ≤ 512 ∧ t.args.length ≤ 8 ∧ t.reads.length ≤ 16 ∧ t.writes.length ≤ 16 := by
  unfold mayT at h
  simp only [Bool.and_eq_true, decide_eq_true_eq] at h
  exact ⟨h.1.1.1.2, h.1.1.2, mayK_le h.1.2, mayK_le h.2⟩
theorem putL_le (l : List Int) : (putL l).length ≤ 9 * l.length := by rw [putL_length]; exact sizeL_le l

end Go.Proofs.Ytoddemcmmijoaaa
