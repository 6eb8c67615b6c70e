/- Several texts as one. -/
import Derived.Test.YtiijbklaapaheaaWG
import Derived.Test.YtiijbklaapaheaaWH
import Derived.Test.YtiijbklaapaheaaKK

/- Contract of Unseal. -/
namespace Go.Proofs.Ytiijbklaapaheaa
open Go.RowKit
set_option maxRecDepth 100000

theorem sealR_any (R : Nat) (v : Value) (zs : List Int) (p : Nat) (w : World) (hat : AtR w R v p) (hs : SeesB R w .u8 v zs) (hby : Byt zs) (hm : zs.length ≤ 9223372036854775807) (hp : p ≤ zs.length) :
    Calls Try.prog 65 #[.pointer (some ⟨R, 0, none⟩)] w fun e w' => ReadsB R v p w.heap.size w (tu (zs.drop p)) e w' := by
  have hnum := number_any R v zs p w hat hs hby hm hp
  have hR := lt_of_block hat
  have hle := tn_le (zs.drop p)
  have hlen : (zs.drop p).length = zs.length - p := List.length_drop
  rw [hlen] at hle
  have hdd : ∀ q, (zs.drop p).drop q = zs.drop (p + q) := fun q => List.drop_drop
  unfold tu
  simp only [hlen, hdd]
  clear hdd hlen
  generalize tn (zs.drop p) = t at *
  obtain ⟨n, k, er⟩ := t
  simp only at *
  by_cases he : er ≠ 0
  · rw [if_pos he]
    refine (sealR_num R er w (hide (hnum.mono fun e w' h => ⟨h.2.2 he, h.1⟩))).mono ?_
    rintro e w' ⟨rfl, hb⟩
    exact ⟨hb, fun h0 => absurd h0 he, fun _ => rfl⟩
  have he0 : er = 0 := by simpa using he
  subst he0
  rw [if_neg he]
  have hle' := hle rfl
  by_cases hn : n < 0
  · rw [if_pos hn]
    refine (sealR_neg R n w hn (hide (hnum.mono fun e w' h => ⟨(h.2.1 rfl).1, h.1⟩))).mono ?_
    rintro e w' ⟨rfl, hb⟩
    exact ⟨hb, fun h0 => absurd h0 (by decide), fun _ => rfl⟩
  rw [if_neg hn]
  by_cases hl : 1048576 < n
  · rw [if_pos hl]
    refine (sealR_long R n w hl (hide (hnum.mono fun e w' h => ⟨(h.2.1 rfl).1, h.1⟩))).mono ?_
    rintro e w' ⟨rfl, hb⟩
    exact ⟨hb, fun h0 => absurd h0 (by decide), fun _ => rfl⟩
  rw [if_neg hl]
  by_cases hsh : ((zs.length - p : Nat) : Int) - k < n + 8
  · rw [if_pos hsh]
    by_cases hs1 : (zs.length : Int) - ((p + k : Nat) : Int) < n
    · refine (sealR_short1 R v zs (p + k) n w hs hm (by omega) (by omega) (by omega) hs1 (hide (hnum.mono fun e w' h => ⟨(h.2.1 rfl).1, h.1, (h.2.1 rfl).2.1⟩))).mono ?_
      rintro e w' ⟨rfl, hb⟩
      exact ⟨hb, fun h0 => absurd h0 (by decide), fun _ => rfl⟩
    · refine (sealR_short2 R v zs (p + k) n.toNat n w (by omega) hs hm (by omega) (by omega) (by omega) (hide (hnum.mono fun e w' h => ⟨(h.2.1 rfl).1, h.1, (h.2.1 rfl).2.1⟩))).mono ?_
      rintro e w' ⟨rfl, hb⟩
      exact ⟨hb, fun h0 => absurd h0 (by decide), fun _ => rfl⟩
  rw [if_neg hsh]
  rw [← Nat.add_assoc p k n.toNat]
  by_cases hb : valL ((zs.drop (p + k + n.toNat)).take 8) ≠ chkF c0 ((zs.drop (p + k)).take n.toNat)
  · rw [if_pos hb]
    refine (sealR_bad R v zs (p + k) n.toNat n w (by omega) hs hby hm (by omega) (by omega) hR hb (hide (hnum.mono fun e w' h => ⟨(h.2.1 rfl).1, h.1, (h.2.1 rfl).2.1⟩))).mono ?_
    rintro e w' ⟨rfl, hb⟩
    exact ⟨hb, fun h0 => absurd h0 (by decide), fun _ => rfl⟩
  rw [if_neg hb]
  refine (sealR_ok R v zs (p + k) n.toNat n w (by omega) hs hby hm (by omega) (by omega) hR (by simpa using hb) (hide (hnum.mono fun e w' h => ⟨(h.2.1 rfl).1, h.1, (h.2.1 rfl).2.1, (h.2.1 rfl).2.2⟩))).mono ?_
  rintro e w' ⟨x, rfl, hat', hbb, ho⟩
  refine ⟨hbb, fun _ => ⟨x, rfl, by rw [show p + (k + n.toNat + 8) = p + k + n.toNat + 8 by omega]; exact hat', ?_⟩, fun h => absurd rfl h⟩
  have hl : ((zs.drop (p + k)).take n.toNat).length = n.toNat := by simp; omega
  rw [hl]; exact ho

theorem tu_no (l : List Int) (h : (tu l).2.2 ≠ 0) : (tu l).1 = [] ∧ (tu l).2.1 = 0 := by
  unfold tu at h ⊢
  by_cases c1 : (tn l).2.2 ≠ 0
  · rw [if_pos c1]; exact ⟨rfl, rfl⟩
  rw [if_neg c1] at h ⊢
  by_cases c2 : (tn l).1 < 0
  · rw [if_pos c2]; exact ⟨rfl, rfl⟩
  rw [if_neg c2] at h ⊢
  by_cases c3 : 1048576 < (tn l).1
  · rw [if_pos c3]; exact ⟨rfl, rfl⟩
  rw [if_neg c3] at h ⊢
  by_cases c4 : (l.length : Int) - (tn l).2.1 < (tn l).1 + 8
  · rw [if_pos c4]; exact ⟨rfl, rfl⟩
  rw [if_neg c4] at h ⊢
  by_cases c5 : valL ((l.drop ((tn l).2.1 + (tn l).1.toNat)).take 8) ≠ chkF c0 ((l.drop (tn l).2.1).take (tn l).1.toNat)
  · rw [if_pos c5]; exact ⟨rfl, rfl⟩
  rw [if_neg c5] at h
  exact absurd rfl h

set_option maxHeartbeats 400000 in
/-- Unseal. -/
theorem unseal_any (bv : Value) (zs : List Int) (w : World) (hs : Sees w .u8 bv zs) (hby : Byt zs) (hm : zs.length ≤ 9223372036854775807) :
    Calls Try.prog 34 #[bv] w fun e w' => ∃ x, e = .returned (.tuple #[x, .int .i64 (tu zs).2.1, .int .i64 (tu zs).2.2]) ∧ w'.ownsRow w.heap.size 5 1 x (tu zs).1.length (ints .u8 (tu zs).1) ∧ Below w.heap.size w w' := by
  have hst := tw_sees hs
  have hnum := sealR_any (w.heap.size + 1) bv zs 0 (tw w bv) (tw_at w bv) hst hby hm (Nat.zero_le _)
  rw [List.drop_zero, tw_size] at hnum
  obtain ⟨ao, cap, rfl, hlc, hnil, hc⟩ := hs
  have key : Calls Try.prog 64 #[.slice ao zs.length cap, .func (Fn.func 65) #[] #[]] w fun e w' => ∃ x, e = .returned (.tuple #[x, .int .i64 (tu zs).2.1, .int .i64 (tu zs).2.2]) ∧ w'.ownsRow w.heap.size 5 1 x (tu zs).1.length (ints .u8 (tu zs).1) ∧ Below w.heap.size w w' := by
    by_cases he : (tu zs).2.2 = 0
    · refine (take37_44_ok ao zs.length cap (tu zs).2.1 w (fun x w' => w'.ownsRow (w.heap.size + 2) 5 1 x (tu zs).1.length (ints .u8 (tu zs).1)) (fun _ _ _ h => h) (fun _ _ _ h => ownsRow_setCell_below h (by show w.heap.size < _; omega) _) (fun _ _ _ h => h.alloc _) (hnum.mono ?_)).mono ?_
      · rintro e w' ⟨h1, h2, _⟩
        obtain ⟨x, h3, h4, h5⟩ := h2 he
        rw [Nat.zero_add] at h4
        exact ⟨x, h3, h4, h1, h5⟩
      · rintro e w' ⟨x, rfl, hb, ho⟩
        exact ⟨x, by rw [he], own_mono ho (by omega), hb⟩
    · refine (take37_44_no ao zs.length cap (tu zs).2.2 w (hnum.mono ?_)).mono ?_
      · rintro e w' ⟨h1, _, h3⟩
        exact ⟨h3 he, h1⟩
      · rintro e w' ⟨rfl, hb⟩
        obtain ⟨e1, e2⟩ := tu_no zs he
        rw [e1, e2]
        exact ⟨_, rfl, World.ownsRow_nil _ _ _ _, hb⟩
  have HK := hide key
  clear key hst hnum hc
  go_enter Try.func34, Try.ntmps34
  go_wp2_with (go_at_call 64; refine (unhide HK).mono ?_; rintro e w1 ⟨x, rfl, ho, hb⟩)
  go_ret3
  exact ⟨x, rfl, ho, hb⟩

end Go.Proofs.Ytiijbklaapaheaa

/- The document's own low, Seal and Unseal (package trivetref01). -/
namespace Go.Proofs.Ytiijbklaapaheaa
open Go.RowKit
set_option maxRecDepth 100000

theorem sh_pow (j : Nat) (h : Int) : h / 2 ^ (8 * j) = sh j h := by rw [sh_eq, B256_eq]; simp

set_option maxHeartbeats 800000 in
theorem refLow_any (h : Int) (w : World) (_h0 : 0 ≤ h) (_h1 : h ≤ 18446744073709551615) :
    Calls Try.prog 61 #[.int .u64 h] w fun e w' => ∃ v', e = .returned v' ∧ w'.ownsRow w.heap.size 5 1 v' 8 (ints .u8 (lowL 8 h)) ∧ Below w.heap.size w w' := by
  obtain ⟨i0, hi, hz0, hz1, hz2⟩ := info_parts Try.info5
  go_enter Try.func61, Try.ntmps61
  go_wp2
  go_loopw [3, 4] (fun vd vi wr => ∃ j : Nat, j ≤ 8 ∧ vi = .int .i64 j ∧ wr.ownsRow w.heap.size 5 1 vd j (ints .u8 (lowL j h)) ∧ Below w.heap.size w wr) (fun _ vi _ => 8 - (intOf vi).toNat)
  case atStart => exact ⟨0, Nat.zero_le _, rfl, World.ownsRow_nil _ _ _ _, Below.refl _ _⟩
  case round =>
    obtain ⟨j, hj, rfl, hownr, hnx⟩ := hrel
    have hsz := hnx.size
    by_cases hlt : j < 8
    · go_wp2_with (at_builtin; refine wpList_append_own _ rfl _ _ 22 rfl w.heap.size 5 i0 (.int .u8 0) 1 1 Try.underlying22 hi hz0 hz1 hz2 rfl (by decide) _ _ _ rfl (hownr.alloc _) ⟨wr.heap.size, 0, none⟩ 1 1 [.int .u8 (h / 2 ^ (8 * j) % 256)] rfl rfl ?c1 ?c2 ?c3 ?c4 ?c5 ?_)
      case c1 => exact cell_one_new _ _ _
      case c2 => intro y hy; simp at hy; subst hy; rfl
      case c3 => unfold maxLen; omega
      case c4 => omega
      case c5 => simp; omega
      intro v' w1 hown' hgrow _
      have hb1 : Below w.heap.size w w1 := (hnx.alloc (by omega) _).grown hgrow (by simp; omega) (own_block_le hownr)
      have ho2 : w1.ownsRow w.heap.size 5 1 v' (j + 1) (ints .u8 (lowL (j + 1) h)) := by rw [lowL_snoc, ints_append, ints_one, ← sh_pow]; exact hown'
      clear hown' hgrow hownr hnx
      go_wp2
      go_roundw
      case rel => exact ⟨j + 1, by omega, by go_num, ho2, hb1⟩
      case measure => simp [intOf]; omega
    · obtain rfl : j = 8 := by omega
      go_wp2
      go_ret
      exact ⟨_, rfl, hownr, hnx⟩

set_option maxHeartbeats 400000 in
theorem refSeal_long (ao : Option Addr) (len cap : Nat) (w : World) (h : 1048576 < len) (hm : len ≤ 140737488355328) :
    Calls Try.prog 31 #[.slice ao len cap] w fun e w' => e = .returned (.tuple #[.slice none 0 0, .int .i64 3]) ∧ w = w' := by
  go_enter Try.func31, Try.ntmps31
  go_wp2
  go_ret2
  exact ⟨rfl, rfl⟩

set_option maxHeartbeats 800000 in
theorem refSeal_ok (bv : Value) (zs : List Int) (w : World) (hs : Sees w .u8 bv zs) (hby : Byt zs) (hm : zs.length ≤ 1048576) :
    Calls Try.prog 31 #[bv] w fun e w' => ∃ x, e = .returned (.tuple #[x, .int .i64 0]) ∧ w'.ownsRow w.heap.size 5 1 x (sealB zs).length (ints .u8 (sealB zs)) ∧ Below w.heap.size w w' := by
  obtain ⟨i0, hi, hz0, hz1, hz2⟩ := info_parts Try.info5
  have HB := hide (refBlob_any (.slice none 0 0) bv [] zs w (Sees.nil _ _) hs (by simp; omega))
  have HC := hide (fun w' (h : Below w.heap.size w w') => refCheck_any bv zs w' (hs.below h) hby (by omega))
  obtain ⟨hc1, hc2⟩ := chkF_bounds c0 zs c0_bounds.1 c0_bounds.2
  have h9 := sizeL_le [(zs.length : Int)]
  simp only [List.length_singleton] at h9
  have hsl : (sealB zs).length = sizeL [(zs.length : Int)] + zs.length + 8 := by simp only [sealB, List.length_append, putL_length, lowL_length]
  have HSL := hide hsl
  clear hsl
  obtain ⟨ao, cap, rfl, hlc, hnil, hc⟩ := hs
  clear hc
  have HS : Hid (sealB zs = putL [(zs.length : Int)] ++ zs ++ lowL 8 (chkF c0 zs)) := rfl
  have HLL := hide (lowL_length 8 (chkF c0 zs))
  generalize chkF c0 zs = c at *
  go_enter Try.func31, Try.ntmps31
  go_wp2_with (go_at_call 32; refine (unhide HB).mono ?_; rintro e w1 ⟨x1, rfl, ho1, hb1⟩)
  have ho1' : w1.ownsRow w.heap.size 5 1 x1 (sizeL [(zs.length : Int)] + zs.length) (ints .u8 (putL [(zs.length : Int)] ++ zs)) := by simpa using ho1
  clear ho1
  go_wp2_with (first
    | (go_at_call 62; refine (unhide HC w1 hb1).mono ?_; rintro e w1' ⟨rfl, rfl⟩)
    | (go_at_call 61; refine (refLow_any c w1 hc1 hc2).mono ?_; rintro e w2 ⟨x2, rfl, ho2, hb2⟩; have hs2 := (sees_of_own ho2).2; have hor := own_below ho1' hb2)
    | (at_builtin; refine wpList_append_sees rfl _ _ 22 rfl w.heap.size 5 i0 (.int .u8 0) 1 Try.underlying22 hi hz0 hz1 hz2 rfl _ _ _ rfl hor .u8 _ _ rfl hs2 ?d1 ?d2 ?d3 ?_))
  case d1 => rw [HLL.out]; unfold maxLen; omega
  case d2 => rw [HLL.out]; omega
  case d3 => exact Nat.le_trans hb1.size hb2.size
  intro x3 w3 ho3 hg3
  have hbw2 : Below w.heap.size w w2 := hb1.trans (hb2.mono hb1.size)
  rw [HLL.out, ← ints_append] at ho3
  go_wp2
  go_ret2
  exact ⟨x3, rfl, by rw [HSL.out, HS.out]; simpa using ho3, hbw2.grown hg3 hbw2.size (own_block_le hor)⟩

theorem val_low (bs : List Int) (hb : Byt bs) (hl : bs.length = 8) (c : Int) (h0 : 0 ≤ c) (h1 : c ≤ 18446744073709551615) : lowL 8 c = bs ↔ valL bs = c := by
  constructor
  · intro h
    rw [← h]
    exact valL_low 8 c h0 (by rw [B256_8]; omega)
  · intro h
    rw [← h, ← hl]
    exact low_valL bs hb

end Go.Proofs.Ytiijbklaapaheaa

/- What is put is taken: the mathematics. -/
namespace Go.Proofs.Ytiijbklaapaheaa
open Go.RowKit
set_option maxRecDepth 100000

theorem tn_num (x : Int) (r : List Int) (h1 : -9223372036854775808 ≤ x) (h2 : x ≤ 9223372036854775807) : tn (numB x ++ r) = (x, 1 + wid (mag x), 0) := by
  obtain ⟨hm0, hm1⟩ := mag_bounds x h1 h2
  have hw8 := wid_le (mag x)
  have hlt := wid_lt (mag x) hm0 (by omega)
  have hll := lowL_length (wid (mag x)) (mag x)
  have hval := valL_low (wid (mag x)) (mag x) hm0 hlt
  have htk : (lowL (wid (mag x)) (mag x) ++ r).take (wid (mag x)) = lowL (wid (mag x)) (mag x) := by
    rw [List.take_append_of_le_length (by omega), List.take_of_length_le (by omega)]
  by_cases hx : x < 0
  · have hm : mag x = -x := by unfold mag; rw [if_pos hx]
    have hw1 : 1 ≤ wid (mag x) := by
      by_cases h0 : wid (mag x) = 0
      · rw [h0] at hlt; simp only [B256] at hlt; omega
      · omega
    have hnb : numB x ++ r = (2 * (wid (mag x) : Int) + 1) :: (lowL (wid (mag x)) (mag x) ++ r) := by unfold numB; rw [if_pos hx]; rfl
    rw [hnb]
    have hk : ((2 * (wid (mag x) : Int) + 1) / 2).toNat = wid (mag x) := by omega
    simp only [tn, hk, htk, hval]
    rw [if_neg (by omega), if_neg (by simp; omega), if_neg (by simp), if_pos (by omega), if_pos (by omega), hm]
    simp
  · have hm : mag x = x := by unfold mag; rw [if_neg hx]
    have hnb : numB x ++ r = (2 * (wid (mag x) : Int)) :: (lowL (wid (mag x)) (mag x) ++ r) := by unfold numB; rw [if_neg hx, Int.add_zero]; rfl
    rw [hnb]
    have hk : ((2 * (wid (mag x) : Int)) / 2).toNat = wid (mag x) := by omega
    simp only [tn, hk, htk, hval]
    rw [if_neg (by omega), if_neg (by simp; omega), if_neg (by simp), if_neg (by omega), if_pos (by omega), hm]

theorem nrun_put (l r : List Int) (hl : I64 l) (j : Nat) (hj : j ≤ l.length) : nrun (putL l ++ r) j = (l.take j, sizeL (l.take j), 0) := by
  induction j with
  | zero => simp [nrun, sizeL]
  | succ j ih =>
    have hih := ih (by omega)
    have hlt : j < l.length := by omega
    have hsplit : putL l = putL (l.take j) ++ (numB (l.getD j 0) ++ putL (l.drop (j + 1))) := by
      have h1 := putL_append (l.take (j + 1)) (l.drop (j + 1))
      rw [List.take_append_drop, putL_take l j hlt, List.append_assoc] at h1
      exact h1
    have hdrop : (putL l ++ r).drop (sizeL (l.take j)) = numB (l.getD j 0) ++ (putL (l.drop (j + 1)) ++ r) := by
      rw [hsplit, List.append_assoc, List.drop_append_of_le_length (by rw [putL_length]; omega), List.drop_of_length_le (by rw [putL_length]; omega)]
      simp
    have hb := hl j hlt
    simp only [nrun, hih, hdrop, tn_num _ _ hb.1 hb.2]
    rw [if_neg (by simp), if_neg (by simp), sizeL_take l j hlt, take_snoc l j hlt]

theorem tb_blob (d r : List Int) (hd : d.length ≤ 1099511627776) : tb (putL [(d.length : Int)] ++ d ++ r) = (d, sizeL [(d.length : Int)] + d.length, 0) := by
  have hp : putL [(d.length : Int)] = numB (d.length : Int) := by simp [putL]
  have hs : sizeL [(d.length : Int)] = 1 + wid (mag (d.length : Int)) := by simp [sizeL]
  rw [hp, hs, List.append_assoc]
  have ht := tn_num (d.length : Int) (d ++ r) (by omega) (by omega)
  unfold tb
  rw [ht]
  simp only
  rw [if_neg (by simp), if_neg (by omega)]
  have hnl := numB_length (d.length : Int)
  rw [if_neg (by simp [hnl]; omega)]
  rw [List.drop_append_of_le_length (by rw [hnl]; omega), List.drop_of_length_le (by rw [hnl]; omega)]
  simp

end Go.Proofs.Ytiijbklaapaheaa

/- Sealed bytes: whole, cut, changed: the mathematics. -/
namespace Go.Proofs.Ytiijbklaapaheaa
open Go.RowKit
set_option maxRecDepth 100000

theorem mul_back (a : Int) (ha : 0 ≤ a) (ha2 : a < 18446744073709551616) : ((a * 1099511628211) % 18446744073709551616 * (14886173955864302971 % 18446744073709551616)) % 18446744073709551616 = a := by
  rw [← Int.mul_emod, Int.mul_assoc, show (1099511628211 : Int) * 14886173955864302971 = 1 + 18446744073709551616 * 887285111055 from by decide]
  omega

theorem mul_inj (a b : Int) (ha : 0 ≤ a) (ha2 : a < 18446744073709551616) (hb : 0 ≤ b) (hb2 : b < 18446744073709551616) (h : (a * 1099511628211) % 18446744073709551616 = (b * 1099511628211) % 18446744073709551616) : a = b := by
  have h1 := mul_back a ha ha2
  rw [h, mul_back b hb hb2] at h1
  exact h1.symm

theorem getD_right (a b : List Int) (k : Nat) (h : a.length ≤ k) : (a ++ b).getD k 0 = b.getD (k - a.length) 0 := by
  simp [List.getD, List.getElem?_append_right h]
theorem getD_left (a b : List Int) (k : Nat) (h : k < a.length) : (a ++ b).getD k 0 = a.getD k 0 := by
  simp [List.getD, List.getElem?_append_left h]

theorem xor_bounds (h x : Int) (h0 : 0 ≤ h) (h1 : h ≤ 18446744073709551615) (x0 : 0 ≤ x) (x1 : x ≤ 18446744073709551615) : bits .xor .u64 h x = ((h.toNat ^^^ x.toNat : Nat) : Int) ∧ ((h.toNat ^^^ x.toNat : Nat) : Int) < 18446744073709551616 :=
  ⟨u64_xor h x h0 (by omega) x0 (by omega), Int.ofNat_lt.2 (Nat.xor_lt_two_pow (n := 64) (by omega) (by omega))⟩

theorem fstep_inj (h h' x x' : Int) (h0 : 0 ≤ h) (h1 : h ≤ 18446744073709551615) (h0' : 0 ≤ h') (h1' : h' ≤ 18446744073709551615) (x0 : 0 ≤ x) (x1 : x ≤ 255) (x0' : 0 ≤ x') (x1' : x' ≤ 255)
    (e : fstep h x = fstep h' x') : h.toNat ^^^ x.toNat = h'.toNat ^^^ x'.toNat := by
  unfold fstep at e
  rw [IntKind.wrap_u64, IntKind.wrap_u64] at e
  obtain ⟨e1, b1⟩ := xor_bounds h x h0 h1 x0 (by omega)
  obtain ⟨e2, b2⟩ := xor_bounds h' x' h0' h1' x0' (by omega)
  rw [e1, e2] at e
  exact Int.ofNat.inj (mul_inj _ _ (Int.natCast_nonneg _) b1 (Int.natCast_nonneg _) b2 e)

theorem nat_xor_cancel_left (a b c : Nat) (h : a ^^^ b = a ^^^ c) : b = c := by
  have := congrArg (a ^^^ ·) h
  simpa [← Nat.xor_assoc] using this

theorem nat_xor_cancel_right (a b c : Nat) (h : b ^^^ a = c ^^^ a) : b = c :=
  nat_xor_cancel_left a b c (by rw [Nat.xor_comm a b, Nat.xor_comm a c]; exact h)

theorem fstep_x (h x x' : Int) (h0 : 0 ≤ h) (h1 : h ≤ 18446744073709551615) (x0 : 0 ≤ x) (x1 : x ≤ 255) (x0' : 0 ≤ x') (x1' : x' ≤ 255) (e : fstep h x = fstep h x') : x = x' := by
  have := nat_xor_cancel_left _ _ _ (fstep_inj h h x x' h0 h1 h0 h1 x0 x1 x0' x1' e)
  omega

theorem fstep_h (h h' x : Int) (h0 : 0 ≤ h) (h1 : h ≤ 18446744073709551615) (h0' : 0 ≤ h') (h1' : h' ≤ 18446744073709551615) (x0 : 0 ≤ x) (x1 : x ≤ 255) (e : fstep h x = fstep h' x) : h = h' := by
  have := nat_xor_cancel_right _ _ _ (fstep_inj h h' x x h0 h1 h0' h1' x0 x1 x0 x1 e)
  omega

theorem chkF_h (l : List Int) (hl : Byt l) (h h' : Int) (h0 : 0 ≤ h) (h1 : h ≤ 18446744073709551615) (h0' : 0 ≤ h') (h1' : h' ≤ 18446744073709551615) (e : chkF h l = chkF h' l) : h = h' := by
  induction l generalizing h h' with
  | nil => exact e
  | cons x r ih =>
    have hx := hl x (List.mem_cons_self ..)
    have b1 := fstep_bounds h x
    have b2 := fstep_bounds h' x
    exact fstep_h h h' x h0 h1 h0' h1' hx.1 hx.2 (ih (fun z hz => hl z (List.mem_cons_of_mem _ hz)) _ _ b1.1 b1.2 b2.1 b2.2 e)

theorem chkF_set (l : List Int) (hl : Byt l) (h : Int) (h0 : 0 ≤ h) (h1 : h ≤ 18446744073709551615) (q : Nat) (hq : q < l.length) (y : Int) (y0 : 0 ≤ y) (y1 : y ≤ 255) (hy : y ≠ l.getD q 0) : chkF h (l.set q y) ≠ chkF h l := by
  induction l generalizing h q with
  | nil => simp at hq
  | cons x r ih =>
    have hx := hl x (List.mem_cons_self ..)
    have hr : Byt r := fun z hz => hl z (List.mem_cons_of_mem _ hz)
    have b1 := fstep_bounds h x
    have b2 := fstep_bounds h y
    cases q with
    | zero =>
      intro e
      simp only [List.set_cons_zero, chkF] at e
      have := fstep_x h y x h0 h1 y0 y1 hx.1 hx.2 (chkF_h r hr _ _ b2.1 b2.2 b1.1 b1.2 e)
      simp at hy
      exact hy this
    | succ q =>
      simp only [List.set_cons_succ, chkF]
      exact ih hr _ b1.1 b1.2 q (by simpa using hq) (by simpa using hy)

theorem sealB_parts (zs : List Int) : sealB zs = numB (zs.length : Int) ++ (zs ++ lowL 8 (chkF c0 zs)) := by
  simp [sealB, putL]

theorem sealB_length (zs : List Int) : (sealB zs).length = 1 + wid (mag (zs.length : Int)) + (zs.length + 8) := by
  rw [sealB_parts, List.length_append, List.length_append, lowL_length, numB_length]

/-- What stands behind a length of at most 1048576. -/
theorem tu_num (n : Nat) (hn : n ≤ 1048576) (r : List Int) : tu (numB (n : Int) ++ r) =
    if (r.length : Int) < n + 8 then ([], 0, 10)
    else if valL ((r.drop n).take 8) ≠ chkF c0 (r.take n) then ([], 0, 12)
    else (r.take n, 1 + wid (mag (n : Int)) + n + 8, 0) := by
  have ht := tn_num (n : Int) r (by omega) (by omega)
  have hl := numB_length (n : Int)
  unfold tu
  rw [ht]
  simp only
  have hd : (numB (n : Int) ++ r).drop (1 + wid (mag (n : Int))) = r := by
    rw [List.drop_append_of_le_length (by omega), List.drop_of_length_le (by omega)]; rfl
  rw [← List.drop_drop, hd, Int.toNat_natCast, if_neg (by simp), if_neg (by omega), if_neg (by omega)]
  have hlen : ((numB (n : Int) ++ r).length : Int) - ((1 + wid (mag (n : Int)) : Nat) : Int) = r.length := by
    rw [List.length_append, hl]; omega
  rw [hlen]

theorem tu_whole (zs r : List Int) (hz : zs.length ≤ 1048576) : tu (sealB zs ++ r) = (zs, (sealB zs).length, 0) := by
  obtain ⟨hc1, hc2⟩ := chkF_bounds c0 zs c0_bounds.1 c0_bounds.2
  have hll := lowL_length 8 (chkF c0 zs)
  rw [sealB_length, sealB_parts, List.append_assoc, tu_num _ hz]
  have h1 : (zs ++ lowL 8 (chkF c0 zs) ++ r).take zs.length = zs := by simp
  have h2 : ((zs ++ lowL 8 (chkF c0 zs) ++ r).drop zs.length).take 8 = lowL 8 (chkF c0 zs) := by
    rw [List.append_assoc, List.drop_append_of_le_length (Nat.le_refl _), List.drop_length, List.nil_append, List.take_append_of_le_length (by omega), List.take_of_length_le (by omega)]
  rw [h1, h2, valL_low 8 _ hc1 (by rw [B256_8]; omega)]
  rw [if_neg (by simp only [List.length_append, hll]; omega), if_neg (by simp)]
  simp only [Prod.mk.injEq, true_and, and_true]
  omega

theorem tu_cut (zs : List Int) (hz : zs.length ≤ 1048576) (m : Nat) (hm : m < (sealB zs).length) : (tu ((sealB zs).take m)).2.2 = 10 := by
  have hsl := sealB_length zs
  have hnl := numB_length (zs.length : Int)
  have hll := lowL_length 8 (chkF c0 zs)
  rw [sealB_parts]
  by_cases hh : 1 + wid (mag (zs.length : Int)) ≤ m
  · rw [List.take_append, List.take_of_length_le (by omega), tu_num _ hz, if_pos]
    rw [List.length_take, List.length_append, hll]
    omega
  · rw [List.take_append_of_le_length (by omega)]
    cases m with
    | zero => simp [tu, tn]
    | succ m =>
      have hw8 := wid_le (mag (zs.length : Int))
      have h10 : tn ((numB (zs.length : Int)).take (m + 1)) = (0, 0, 10) := by
        unfold numB
        rw [if_neg (by omega), Int.add_zero]
        simp only [List.take_succ_cons, tn]
        rw [if_neg (by omega), if_pos]
        rw [List.length_take, lowL_length]
        omega
      unfold tu
      rw [h10]
      simp

theorem tu_changed (zs : List Int) (hz : zs.length ≤ 1048576) (hb : Byt zs) (q : Nat) (hq : q < zs.length + 8) (y : Int) (y0 : 0 ≤ y) (y1 : y ≤ 255) (hy : y ≠ (sealB zs).getD (1 + wid (mag (zs.length : Int)) + q) 0) :
    (tu ((sealB zs).set (1 + wid (mag (zs.length : Int)) + q) y)).2.2 = 12 := by
  obtain ⟨hc1, hc2⟩ := chkF_bounds c0 zs c0_bounds.1 c0_bounds.2
  have hnl := numB_length (zs.length : Int)
  have hll := lowL_length 8 (chkF c0 zs)
  have hlb := lowL_byte 8 (chkF c0 zs)
  rw [sealB_parts] at hy ⊢
  rw [getD_right _ _ _ (by omega), hnl, show 1 + wid (mag (zs.length : Int)) + q - (1 + wid (mag (zs.length : Int))) = q by omega] at hy
  rw [List.set_append_right _ _ (by omega), hnl, show 1 + wid (mag (zs.length : Int)) + q - (1 + wid (mag (zs.length : Int))) = q by omega]
  by_cases hlt : q < zs.length
  · rw [getD_left _ _ _ hlt] at hy
    rw [List.set_append_left _ _ hlt]
    have hsl : (zs.set q y).length = zs.length := List.length_set
    have ht := tu_num zs.length hz (zs.set q y ++ lowL 8 (chkF c0 zs))
    rw [ht, if_neg (by rw [List.length_append, hsl, hll]; omega), if_pos]
    rw [← hsl, List.drop_left, List.take_left, List.take_of_length_le (by omega), valL_low 8 _ hc1 (by rw [B256_8]; omega)]
    exact fun e => chkF_set zs hb c0 c0_bounds.1 c0_bounds.2 q hlt y y0 y1 hy e.symm
  · rw [getD_right _ _ _ (by omega)] at hy
    rw [List.set_append_right _ _ (by omega)]
    have hsl : ((lowL 8 (chkF c0 zs)).set (q - zs.length) y).length = 8 := by rw [List.length_set, hll]
    rw [tu_num zs.length hz, if_neg (by rw [List.length_append, hsl]; omega), if_pos]
    rw [List.drop_left, List.take_left, List.take_of_length_le (by omega)]
    intro e
    have hb' : Byt ((lowL 8 (chkF c0 zs)).set (q - zs.length) y) := fun x hx => by
      rcases List.mem_or_eq_of_mem_set hx with hx | rfl
      · exact hlb x hx
      · exact ⟨y0, y1⟩
    have := (val_low _ hb' hsl _ hc1 hc2).2 e
    have h2 := congrArg (fun l => l.getD (q - zs.length) 0) this
    have hlt2 : q - zs.length < (lowL 8 (chkF c0 zs)).length := by omega
    rw [show ((lowL 8 (chkF c0 zs)).set (q - zs.length) y).getD (q - zs.length) 0 = y by simp [List.getD, hlt2]] at h2
    exact hy h2.symm

end Go.Proofs.Ytiijbklaapaheaa
