/- What is put is taken: the mathematics. -/
import Derived.Test.YthdghnppledakaaWD
namespace Go.Proofs.Ythdghnppledakaa
open Go.RowKit

theorem tn_num (x : Int) (r : List Int) (h1 : -9223372036854775808 ≤ x) (h2 : x ≤ 9223372036854775807) : tn (numB x ++ r) = (x, 1 + wid (mag x), 0) := by
  obtain ⟨hm0, hm1⟩ := mag_bounds x h1 h2
  have hw8 := wid_le (mag x)
  have hlt := wid_lt (mag x) hm0 (by omega)
  have hll := lowL_length (wid (mag x)) (mag x)
  have hval := valL_low (wid (mag x)) (mag x) hm0 hlt
  have htk : (lowL (wid (mag x)) (mag x) ++ r).take (wid (mag x)) = lowL (wid (mag x)) (mag x) := by
    rw [List.take_append_of_le_length (by omega), List.take_of_length_le (by omega)]
  by_cases hx : x < 0
  · have hm : mag x = -x := by unfold mag; rw [if_pos hx]
    have hw1 : 1 ≤ wid (mag x) := by
      by_cases h0 : wid (mag x) = 0
      · rw [h0] at hlt; simp only [B256] at hlt; omega
      · omega
    have hnb : numB x ++ r = (2 * (wid (mag x) : Int) + 1) :: (lowL (wid (mag x)) (mag x) ++ r) := by unfold numB; rw [if_pos hx]; rfl
    rw [hnb]
    have hk : ((2 * (wid (mag x) : Int) + 1) / 2).toNat = wid (mag x) := by omega
    simp only [tn, hk, htk, hval]
    rw [if_neg (by omega), if_neg (by simp; omega), if_neg (by simp), if_pos (by omega), if_pos (by omega), hm]
    simp
  · have hm : mag x = x := by unfold mag; rw [if_neg hx]
    have hnb : numB x ++ r = (2 * (wid (mag x) : Int)) :: (lowL (wid (mag x)) (mag x) ++ r) := by unfold numB; rw [if_neg hx, Int.add_zero]; rfl
    rw [hnb]
    have hk : ((2 * (wid (mag x) : Int)) / 2).toNat = wid (mag x) := by omega
    simp only [tn, hk, htk, hval]
    rw [if_neg (by omega), if_neg (by simp; omega), if_neg (by simp), if_neg (by omega), if_pos (by omega), hm]

theorem nrun_put (l r : List Int) (hl : I64 l) (j : Nat) (hj : j ≤ l.length) : nrun (putL l ++ r) j = (l.take j, sizeL (l.take j), 0) := by
  induction j with
  | zero => simp [nrun, sizeL]
  | succ j ih =>
    have hih := ih (by omega)
    have hlt : j < l.length := by omega
    have hsplit : putL l = putL (l.take j) ++ (numB (l.getD j 0) ++ putL (l.drop (j + 1))) := by
      have h1 := putL_append (l.take (j + 1)) (l.drop (j + 1))
      rw [List.take_append_drop, putL_take l j hlt, List.append_assoc] at h1
      exact h1
    have hdrop : (putL l ++ r).drop (sizeL (l.take j)) = numB (l.getD j 0) ++ (putL (l.drop (j + 1)) ++ r) := by
      rw [hsplit, List.append_assoc, List.drop_append_of_le_length (by rw [putL_length]; omega), List.drop_of_length_le (by rw [putL_length]; omega)]
      simp
    have hb := hl j hlt
    simp only [nrun, hih, hdrop, tn_num _ _ hb.1 hb.2]
    rw [if_neg (by simp), if_neg (by simp), sizeL_take l j hlt, take_snoc l j hlt]

theorem tb_blob (d r : List Int) (hd : d.length ≤ 1099511627776) : tb (putL [(d.length : Int)] ++ d ++ r) = (d, sizeL [(d.length : Int)] + d.length, 0) := by
  have hp : putL [(d.length : Int)] = numB (d.length : Int) := by simp [putL]
  have hs : sizeL [(d.length : Int)] = 1 + wid (mag (d.length : Int)) := by simp [sizeL]
  rw [hp, hs, List.append_assoc]
  have ht := tn_num (d.length : Int) (d ++ r) (by omega) (by omega)
  unfold tb
  rw [ht]
  simp only
  rw [if_neg (by simp), if_neg (by omega)]
  have hnl := numB_length (d.length : Int)
  rw [if_neg (by simp [hnl]; omega)]
  rw [List.drop_append_of_le_length (by rw [hnl]; omega), List.drop_of_length_le (by rw [hnl]; omega)]
  simp

end Go.Proofs.Ythdghnppledakaa
