/- A transaction's locks by partitions, and its partitions, in pure terms. -/
import Derived.Test.YtibjhjkeflbghaaR0
import Derived.Test.YtibjhjkeflbghaaN6
import Derived.Test.YtibjhjkeflbghaaO0
namespace Go.Proofs.Ytibjhjkeflbghaa
open Go.RowKit
set_option maxRecDepth 100000

theorem lks_mem {R W : List Ky} {x : Lk} : x ∈ lks R W ↔ (x.1 ∈ R ∨ x.1 ∈ W) ∧ x.2 = decide (x.1 ∈ W) := by
  unfold lks
  rw [List.mem_map]
  constructor
  · rintro ⟨k, hk, rfl⟩
    exact ⟨by rw [srt_mem, List.mem_append] at hk; exact hk, rfl⟩
  · rintro ⟨h1, h2⟩
    exact ⟨x.1, by rw [srt_mem, List.mem_append]; exact h1, by rw [← h2]⟩
/-- The locks of the partitions below one. -/
def allP (n : Int) (L : List Lk) : Nat → List Lk
  | 0 => []
  | p + 1 => allP n L p ++ atP (p : Int) n L
theorem cut_len (f : Lk → Int) (m : Int) : ∀ L : List Lk, (L.filter fun x => decide (f x < m + 1)).length = (L.filter fun x => decide (f x < m)).length + (L.filter fun x => decide (f x = m)).length
  | [] => rfl
  | x :: r => by
    have ih := cut_len f m r
    by_cases h1 : f x < m
    · have h2 : f x < m + 1 := by omega
      have h3 : ¬ f x = m := by omega
      simp only [List.filter_cons, h1, h2, h3, decide_true, decide_false, if_true, Bool.false_eq_true, if_false, List.length_cons, ih]
      omega
    · by_cases h3 : f x = m
      · have h2 : f x < m + 1 := by omega
        simp only [List.filter_cons, h3, decide_true, if_true, List.length_cons]
        have e : (r.filter fun x => decide (f x < m + 1)).length = (r.filter fun x => decide (f x < m)).length + (r.filter fun x => decide (f x = m)).length := ih
        have h4 : decide (m < m) = false := decide_eq_false (by omega)
        have h5 : decide (m < m + 1) = true := decide_eq_true (by omega)
        simp only [h4, h5, if_true, Bool.false_eq_true, if_false, List.length_cons]
        omega
      · have h2 : ¬ f x < m + 1 := by omega
        simp only [List.filter_cons, h1, h2, h3, decide_false, Bool.false_eq_true, if_false, ih]
theorem allP_len (n : Int) (L : List Lk) : ∀ p : Nat, (allP n L p).length = (L.filter fun x => decide (partF x.1 n < (p : Int))).length
  | 0 => by
    have : (L.filter fun x => decide (partF x.1 n < ((0 : Nat) : Int))) = [] := by
      rw [List.filter_eq_nil_iff]
      intro x _ e
      have := partF_range x.1 n
      simp only [decide_eq_true_eq] at e
      omega
    rw [this]
    rfl
  | p + 1 => by
    have h := cut_len (fun x => partF x.1 n) (p : Int) L
    show (allP n L p ++ atP (p : Int) n L).length = _
    rw [List.length_append, allP_len n L p]
    unfold atP
    have e : ((p + 1 : Nat) : Int) = (p : Int) + 1 := by omega
    rw [e]
    exact h.symm
theorem allP_le (n : Int) (L : List Lk) (p : Nat) : (allP n L p).length ≤ L.length := by
  rw [allP_len]
  exact List.length_filter_le _ _
theorem part_8 (k : Ky) (n : Int) : 0 ≤ partF k n ∧ partF k n < 8 := by
  have := partF_range k n
  have := manyF_range n
  omega
theorem allP_8 (n : Int) (L : List Lk) : (allP n L 8).length = L.length := by
  rw [allP_len]
  have : (L.filter fun x => decide (partF x.1 n < ((8 : Nat) : Int))) = L := by
    rw [List.filter_eq_self]
    intro x _
    have := part_8 x.1 n
    exact decide_eq_true (by omega)
  rw [this]
theorem allP_mem {n : Int} {L : List Lk} {x : Lk} : ∀ {m p : Nat}, p < m → x ∈ atP (p : Int) n L → x ∈ allP n L m
  | 0, _, h, _ => by omega
  | m + 1, p, h, hx => by
    show x ∈ allP n L m ++ atP (m : Int) n L
    rw [List.mem_append]
    by_cases e : p = m
    · subst e; exact .inr hx
    · exact .inl (allP_mem (by omega) hx)
theorem mem_allP {n : Int} {L : List Lk} {x : Lk} (hx : x ∈ L) : x ∈ allP n L 8 := by
  have h := part_8 x.1 n
  refine allP_mem (p := (partF x.1 n).toNat) (by omega) ?_
  unfold atP
  rw [List.mem_filter]
  exact ⟨hx, decide_eq_true (by omega)⟩
/-- A partition has locks if it has keys. -/
theorem atP_pos (n : Int) (R W : List Ky) (p : Nat) : 0 < (atP (p : Int) n (lks R W)).length ↔ 0 < (inP n (srt R) p).length + (inP n (srt W) p).length := by
  have hpl : ∀ k, pl n k = p ↔ partF k n = (p : Int) := fun k => by
    have := partF_range k n
    unfold pl
    omega
  constructor
  · intro h
    obtain ⟨x, hx⟩ := List.exists_mem_of_length_pos h
    unfold atP at hx
    rw [List.mem_filter, lks_mem] at hx
    obtain ⟨⟨h1, _⟩, h2⟩ := hx
    have h3 := (hpl x.1).2 (of_decide_eq_true h2)
    rcases h1 with c | c
    · have : x.1 ∈ inP n (srt R) p := List.mem_filter.2 ⟨(srt_mem _ _).2 c, decide_eq_true h3⟩
      have := List.length_pos_of_mem this
      omega
    · have : x.1 ∈ inP n (srt W) p := List.mem_filter.2 ⟨(srt_mem _ _).2 c, decide_eq_true h3⟩
      have := List.length_pos_of_mem this
      omega
  · intro h
    have : ∃ k, (k ∈ R ∨ k ∈ W) ∧ pl n k = p := by
      by_cases c : 0 < (inP n (srt R) p).length
      · obtain ⟨k, hk⟩ := List.exists_mem_of_length_pos c
        obtain ⟨h1, h2⟩ := List.mem_filter.1 hk
        exact ⟨k, .inl ((srt_mem _ _).1 h1), of_decide_eq_true h2⟩
      · obtain ⟨k, hk⟩ := List.exists_mem_of_length_pos (show 0 < (inP n (srt W) p).length by omega)
        obtain ⟨h1, h2⟩ := List.mem_filter.1 hk
        exact ⟨k, .inr ((srt_mem _ _).1 h1), of_decide_eq_true h2⟩
    obtain ⟨k, hk, hp⟩ := this
    have : (k, decide (k ∈ W)) ∈ atP (p : Int) n (lks R W) := List.mem_filter.2 ⟨lks_mem.2 ⟨hk, rfl⟩, decide_eq_true ((hpl k).1 hp)⟩
    exact List.length_pos_of_mem this
theorem hv_mem {c : Nat → Int} {m : Nat} {q : Int} : q ∈ hv c m ↔ ∃ p : Nat, p < m ∧ 0 < c p ∧ q = (p : Int) := by
  unfold hv
  rw [List.mem_map]
  constructor
  · rintro ⟨p, hp, rfl⟩
    obtain ⟨h1, h2⟩ := List.mem_filter.1 hp
    exact ⟨p, List.mem_range.1 h1, of_decide_eq_true h2, rfl⟩
  · rintro ⟨p, h1, h2, rfl⟩
    exact ⟨p, List.mem_filter.2 ⟨List.mem_range.2 h1, decide_eq_true h2⟩, rfl⟩
theorem pts_mem {L L' : Nat → Nat} {p : Nat} (hp : p < 8) (h : 0 < L p + L' p) : (p : Int) ∈ ptsL L L' := by
  have hm : (p : Int) ∈ hv (cnt2 L L') 8 := hv_mem.2 ⟨p, hp, by unfold cnt2; omega, rfl⟩
  unfold ptsL
  rw [if_neg (fun e => by rw [e] at hm; cases hm)]
  exact hm
theorem act_pts {L L' : Nat → Nat} {q : Int} (h : q ∈ actL L L') : q ∈ ptsL L L' := by
  unfold actL at h
  split at h
  · rw [List.mem_singleton] at h
    subst h
    have hp := ptsL_pos L L'
    have e : (ptsL L L').getD 0 0 = (ptsL L L')[0] := by simp [List.getD, hp]
    rw [e]
    exact List.getElem_mem hp
  · obtain ⟨p, h1, h2, rfl⟩ := hv_mem.1 h
    exact pts_mem h1 (by unfold cnt1 at h2; omega)
theorem actL_pos (L L' : Nat → Nat) : 0 < (actL L L').length := by
  unfold actL
  split
  · simp
  · rename_i h
    exact List.length_pos_iff.2 h
end Go.Proofs.Ytibjhjkeflbghaa
