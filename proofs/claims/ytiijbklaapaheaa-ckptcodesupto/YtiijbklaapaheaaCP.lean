/- Save. -/
import Derived.Test.YtiijbklaapaheaaCO
import Derived.Test.YtiijbklaapaheaaCE
import Derived.Test.YtiijbklaapaheaaCJ
import Derived.Test.YtiijbklaapaheaaJR
namespace Go.Proofs.Ytiijbklaapaheaa
open Go.RowKit
set_option maxRecDepth 100000

/-- Numbers that may be. -/
theorem dec_num (zs : List Int) : 0 ≤ (dec zs).num ∧ (dec zs).num ≤ 1099511627776 := by
  unfold dec
  split
  · exact ⟨by decide, by decide⟩
  split
  · exact ⟨by decide, by decide⟩
  split
  · exact ⟨by decide, by decide⟩
  split
  · exact ⟨by decide, by decide⟩
  · rename_i c
    simp only [Decidable.not_not] at c
    unfold faultE at c
    split at c
    · rename_i k
      exact ⟨Int.le_trans (by decide) k.1, k.2.1⟩
    · cases c
theorem nwk_num (F : Fl) (f m k : Nat) : 0 ≤ (nwk F f m k).ck.num ∧ (nwk F f m k).ck.num ≤ 1099511627776 ∧ (0 ≤ (nwk F f m k).at' ∧ ((nwk F f m k).at' < k ∨ (nwk F f m k).at' = 0)) := by
  induction k with
  | zero => exact ⟨Int.le_refl 0, (by decide : (0 : Int) ≤ 1099511627776), Int.le_refl 0, Or.inr rfl⟩
  | succ k ih =>
    rw [nwk]
    unfold Bst.step
    split
    · exact ⟨(dec_num _).1, (dec_num _).2, by show (0 : Int) ≤ (k : Int); omega, Or.inl (by show (k : Int) < ((k + 1 : Nat) : Int); omega)⟩
    · obtain ⟨h1, h2, h3, h4⟩ := ih
      exact ⟨h1, h2, h3, by rcases h4 with h | h; exact Or.inl (by omega); exact Or.inr h⟩

/-- To which half the next one is put. -/
def toH (c : Bst) : Nat := if 0 < c.ck.num then (1 - c.at').toNat else 0
def savW (F : Fl) (f m : Nat) (c : Bst) (slot last : Int) (ds : List Int) : Int × Fl :=
  if m * 4096 < (ckB (c.ck.num + 1) slot last ds).length then (3, F) else wrtH F (f + toH c * m) m (ckB (c.ck.num + 1) slot last ds)
/-- What Save does. -/
def sav (F : Fl) (f n : Int) (slot last : Int) (ds : List Int) : Int × Fl :=
  if regE F.n f n ≠ 0 then (regE F.n f n, F) else if faultE 1 slot last ds.length ≠ 0 then (faultE 1 slot last ds.length, F) else if F.down = true then (7, F)
  else if (nwk F f.toNat (n.toNat / 2) 2).ck.num = 1099511627776 then (6, F) else savW F f.toNat (n.toNat / 2) (nwk F f.toNat (n.toNat / 2) 2) slot last ds

theorem regE_is {n : Nat} {f b : Int} (h : regE n f b = 0) (hn : n ≤ 1024) : ∃ f' b' : Nat, f = f' ∧ b = b' ∧ 2 ≤ b' ∧ f' + b' ≤ n := by
  unfold regE at h
  split at h
  · cases h
  · rename_i c
    have c1 : ¬ f < 0 := fun e => c (Or.inl e)
    have c2 : ¬ b < 2 := fun e => c (Or.inr (Or.inl e))
    have c3 : ¬ ((n : Int) - f < b) := fun e => c (Or.inr (Or.inr (Or.inr e)))
    exact ⟨f.toNat, b.toNat, by omega, by omega, by omega, by omega⟩

theorem ckB_pos (a b c : Int) (ds : List Int) : 0 < (ckB a b c ds).length := by
  unfold ckB sealB
  rw [List.length_append, lowL_length]; omega
theorem ckB_le (a b c : Int) (ds : List Int) : (ckB a b c ds).length ≤ 53 + ds.length := by
  have h1 := bodyB_le a b c ds
  have h2 := sizeL_le [((bodyB a b c ds).length : Int)]
  unfold ckB sealB
  rw [List.length_append, List.length_append, lowL_length, putL_length]
  simp at h2
  omega
theorem row_of {y : World} {base : Nat} {v : Value} {zs : List Int} (h : y.ownsRow base 5 1 v zs.length (ints .u8 zs)) (h0 : 0 < zs.length) :
    ∃ gb cp, v = .slice (some ⟨gb, 0, none⟩) zs.length cp ∧ base ≤ gb ∧ gb < y.heap.size ∧ zs.length ≤ cp ∧ ∀ t, t < zs.length → y.cell? ⟨gb, t, none⟩ = some (.int .u8 (zs.getD t 0)) := by
  have h' := h
  rcases h.2 with ⟨_, hn⟩ | ⟨gb, cap, cur, rfl, hb, hg, hnc, _⟩
  · omega
  · refine ⟨gb, cap, rfl, hb, (Array.getElem?_eq_some_iff.1 hg).1, hnc, fun t ht => ?_⟩
    have := h'.cells (g := gb) rfl t (.int .u8 (zs.getD t 0)) (by simp [ints, List.getD, ht])
    have hadd : (⟨gb, 0, none⟩ : Addr).add t = ⟨gb, t, none⟩ := by unfold Addr.add; split <;> simp_all
    first | exact this | (rw [hadd] at this; exact this)
theorem ix_any (h f m ti fh : Nat) (ht : ti < 2) (hfh : f + ti * m = fh) (W : World) : Sem.run Try.prog (Instr.index 90 (.agg #[P0 h, .int .i64 f, .int .i64 m, P0 h, .int .i64 (f + m), .int .i64 m]) (.int .i64 ti)) W = .ok (.agg #[P0 h, .int .i64 fh, .int .i64 m]) W := by
  subst hfh
  rcases (show ti = 0 ∨ ti = 1 by omega) with rfl | rfl
  · have := ix0 h f m (f + m) m W
    simpa using this
  · have := ix1 h f m (f + m) m W
    simpa using this

end Go.Proofs.Ytiijbklaapaheaa
