/- One form: what is taken of bytes is, put again, just the bytes that it had. -/
import Derived.Test.YtggllgimlfchhaaGreatKV
namespace Go.Proofs.YtggllgimlfchhaaGreat
open Go.RowKit
set_option maxRecDepth 100000

theorem numB_of (h : Int) (r : List Int) (hr : Byt r) (k : Nat) (hk : h / 2 = k) (hl : k ≤ r.length) (u : Int) (hu : valL (r.take k) = u) (hw : wid u = k) (n : Int) (hs : (h % 2 = 1 ∧ n = -u ∧ n < 0) ∨ (h % 2 = 0 ∧ n = u ∧ 0 ≤ n)) (h0 : 0 ≤ u) :
    numB n = h :: r.take k := by
  have hlen : (r.take k).length = k := by simp; omega
  have hlow := low_valL (r.take k) (hr.take k)
  rw [hlen, hu] at hlow
  rcases hs with ⟨h1, rfl, h3⟩ | ⟨h1, rfl, h3⟩
  · have hm : mag (-u) = u := by unfold mag; split <;> omega
    simp only [numB, hm, hw, if_pos h3, hlow]
    congr 1; omega
  · have hm : mag n = n := by unfold mag; split <;> omega
    simp only [numB, hm, hw, hlow]
    rw [if_neg (by omega)]
    congr 1; omega

theorem tn_put (l : List Int) (hl : Byt l) (h : (tn l).2.2 = 0) : numB (tn l).1 = l.take (tn l).2.1 ∧ -9223372036854775808 ≤ (tn l).1 ∧ (tn l).1 ≤ 9223372036854775807 := by
  cases l with
  | nil => simp [tn] at h
  | cons x r =>
    have hx := hl x (List.mem_cons_self ..)
    have hr : Byt r := fun b hb => hl b (List.mem_cons_of_mem _ hb)
    obtain ⟨k, hk⟩ : ∃ k, (x / 2).toNat = k := ⟨_, rfl⟩
    have hk2 : x / 2 = (k : Int) := by omega
    obtain ⟨u, hu⟩ : ∃ u, valL (r.take k) = u := ⟨_, rfl⟩
    have hv := (valL_bound (r.take k) (hr.take k)).1
    rw [hu] at hv
    simp only [tn, hk, hu] at h ⊢
    by_cases c1 : 17 < x ∨ x = 1
    · simp only [if_pos c1] at h; simp at h
    simp only [if_neg c1] at h ⊢
    by_cases c2 : r.length < k
    · simp only [if_pos c2] at h; simp at h
    simp only [if_neg c2] at h ⊢
    by_cases c3 : wid u ≠ k
    · simp only [if_pos c3] at h; simp at h
    simp only [if_neg c3] at h ⊢
    have hw : wid u = k := by simpa using c3
    have htk : (x :: r).take (1 + k) = x :: r.take k := by rw [Nat.add_comm, List.take_succ_cons]
    by_cases c4 : x % 2 = 1
    · simp only [if_pos c4] at h ⊢
      by_cases c5 : u ≤ 9223372036854775808
      · simp only [if_pos c5]
        have hu1 : 0 < u := by
          by_cases e : u = 0
          · subst e; have : k = 0 := by rw [← hw]; rfl
            omega
          · omega
        rw [htk]
        exact ⟨numB_of x r hr k hk2 (by omega) u hu hw (-u) (.inl ⟨c4, rfl, by omega⟩) hv, by omega, by omega⟩
      · simp only [if_neg c5] at h; simp at h
    · simp only [if_neg c4] at h ⊢
      by_cases c5 : u < 9223372036854775808
      · simp only [if_pos c5]
        rw [htk]
        exact ⟨numB_of x r hr k hk2 (by omega) u hu hw u (.inr ⟨by omega, rfl, hv⟩) hv, by omega, by omega⟩
      · simp only [if_neg c5] at h; simp at h

theorem tb_put (l : List Int) (hl : Byt l) (h : (tb l).2.2 = 0) : putL [((tb l).1.length : Int)] ++ (tb l).1 = l.take (tb l).2.1 ∧ 1 ≤ (tb l).2.1 ∧ (tb l).2.1 ≤ l.length ∧ (tb l).1.length ≤ l.length := by
  have hp := tn_put l hl
  have hle := tn_le l
  unfold tb at h ⊢
  generalize tn l = t at *
  obtain ⟨n, k, er⟩ := t
  simp only at *
  by_cases c1 : er ≠ 0
  · rw [if_pos c1] at h; exact absurd h c1
  rw [if_neg c1] at h ⊢
  have c1' : er = 0 := by simpa using c1
  have hp' := (hp c1').1
  have hle' := hle c1'
  by_cases c2 : n < 0
  · rw [if_pos c2] at h; simp at h
  rw [if_neg c2] at h ⊢
  by_cases c3 : (l.length : Int) - k < n
  · rw [if_pos c3] at h; simp at h
  rw [if_neg c3]
  have hlen : ((l.drop k).take n.toNat).length = n.toNat := by simp; omega
  simp only [hlen, putL, List.append_nil]
  refine ⟨?_, by omega, by omega, by omega⟩
  rw [show ((n.toNat : Nat) : Int) = n from by omega, hp', List.take_add]

end Go.Proofs.YtggllgimlfchhaaGreat
