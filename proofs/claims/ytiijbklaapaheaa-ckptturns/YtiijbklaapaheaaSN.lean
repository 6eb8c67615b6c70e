/- Save with nothing in the way: what is then found is what was saved. -/
import Derived.Test.YtiijbklaapaheaaRB
import Derived.Test.YtiijbklaapaheaaDB
import Derived.Test.YtiijbklaapaheaaKE
namespace Go.Proofs.Ytiijbklaapaheaa
open Go.RowKit
set_option maxRecDepth 100000

theorem nwk_two (F : Fl) (f m : Nat) : nwk F f m 2 = (Bst.none.step 0 (dec (rdL F f m))).step 1 (dec (rdL F (f + m) m)) := by
  show (Bst.none.step ((0 : Nat) : Int) (dec (rdL F (f + 0 * m) m))).step ((1 : Nat) : Int) (dec (rdL F (f + 1 * m) m)) = _
  rw [Nat.zero_mul, Nat.one_mul, Nat.add_zero]
  rfl
theorem step_ge (b : Bst) (i : Int) (c : Ck) : b.ck.num ≤ (b.step i c).ck.num ∧ (c.err = 0 → c.num ≤ (b.step i c).ck.num) := by
  unfold Bst.step
  split
  · rename_i h; exact ⟨by show b.ck.num ≤ c.num; omega, fun _ => Int.le_refl _⟩
  · rename_i h
    refine ⟨Int.le_refl _, fun e => ?_⟩
    by_cases k : b.ck.num < c.num
    · exact absurd ⟨e, k⟩ h
    · omega
theorem sav_new {F : Fl} (h : Fine F) (f m : Nat) (hn : f + m + m ≤ F.n) (slot last : Int) (ds : List Int) (hby : Byt ds) (hf : faultE ((nwk F f m 2).ck.num + 1) slot last ds.length = 0)
    (hz : (ckB ((nwk F f m 2).ck.num + 1) slot last ds).length ≤ m * 4096) (hl : (bodyB ((nwk F f m 2).ck.num + 1) slot last ds).length ≤ 1048576) :
    nwk (wrtH F (f + toH (nwk F f m 2) * m) m (ckB ((nwk F f m 2).ck.num + 1) slot last ds)).2 f m 2 = ⟨(toH (nwk F f m 2) : Nat), ⟨(nwk F f m 2).ck.num + 1, slot, last, ds, 0⟩⟩ := by
  obtain ⟨hnum, _, hat0, hat⟩ := nwk_num F f m 2
  have hB : Byt (ckB ((nwk F f m 2).ck.num + 1) slot last ds) := ((putL_byt _).append (bodyB_byt hby)).append (lowL_byte _ _)
  have htwo := nwk_two F f m
  generalize hc : nwk F f m 2 = c at *
  have ht : toH c = 0 ∨ toH c = 1 := by
    unfold toH
    split
    · omega
    · exact Or.inl rfl
  rw [nwk_two]
  rcases ht with e | e
  · rw [e, Nat.zero_mul, Nat.add_zero]
    obtain ⟨r, hr⟩ := rdL_back h f m (ckB (c.ck.num + 1) slot last ds) (by omega) hz hB
    rw [hr, dec_back r hf hl, rdL_other h f m (f + m) _ (by omega) hz (Or.inr (Nat.le_refl _))]
    have h1 := (step_ge (Bst.none.step 0 (dec (rdL F f m))) 1 (dec (rdL F (f + m) m))).2
    rw [← htwo] at h1
    rw [show Bst.none.step 0 ⟨c.ck.num + 1, slot, last, ds, 0⟩ = ⟨0, ⟨c.ck.num + 1, slot, last, ds, 0⟩⟩ by
      unfold Bst.step; rw [if_pos ⟨rfl, by show (0 : Int) < c.ck.num + 1; omega⟩]]
    unfold Bst.step
    rw [if_neg (fun k => by have := h1 k.1; have := k.2; simp only at this; omega)]
    rfl
  · rw [e, Nat.one_mul]
    obtain ⟨r, hr⟩ := rdL_back h (f + m) m (ckB (c.ck.num + 1) slot last ds) (by omega) hz hB
    rw [hr, dec_back r hf hl, rdL_other h (f + m) m f _ (by omega) hz (Or.inl (Nat.le_refl _))]
    have h1 := (step_ge (Bst.none.step 0 (dec (rdL F f m))) 1 (dec (rdL F (f + m) m))).1
    rw [← htwo] at h1
    generalize Bst.none.step 0 (dec (rdL F f m)) = b at h1 ⊢
    unfold Bst.step
    rw [if_pos ⟨rfl, by show b.ck.num < c.ck.num + 1; omega⟩]
    rfl
end Go.Proofs.Ytiijbklaapaheaa
