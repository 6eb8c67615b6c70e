/- Several texts as one. -/
import Derived.Test.YtiijbklaapaheaaWG
import Derived.Test.YtiijbklaapaheaaWH
import Derived.Test.YtiijbklaapaheaaKH

/- Contract of Unseal. -/
namespace Go.Proofs.Ytiijbklaapaheaa
open Go.RowKit
set_option maxRecDepth 100000

theorem sealR_any (R : Nat) (v : Value) (zs : List Int) (p : Nat) (w : World) (hat : AtR w R v p) (hs : SeesB R w .u8 v zs) (hby : Byt zs) (hm : zs.length ≤ 9223372036854775807) (hp : p ≤ zs.length) :
    Calls Try.prog 65 #[.pointer (some ⟨R, 0, none⟩)] w fun e w' => ReadsB R v p w.heap.size w (tu (zs.drop p)) e w' := by
  have hnum := number_any R v zs p w hat hs hby hm hp
  have hR := lt_of_block hat
  have hle := tn_le (zs.drop p)
  have hlen : (zs.drop p).length = zs.length - p := List.length_drop
  rw [hlen] at hle
  have hdd : ∀ q, (zs.drop p).drop q = zs.drop (p + q) := fun q => List.drop_drop
  unfold tu
  simp only [hlen, hdd]
  clear hdd hlen
  generalize tn (zs.drop p) = t at *
  obtain ⟨n, k, er⟩ := t
  simp only at *
  by_cases he : er ≠ 0
  · rw [if_pos he]
    refine (sealR_num R er w (hide (hnum.mono fun e w' h => ⟨h.2.2 he, h.1⟩))).mono ?_
    rintro e w' ⟨rfl, hb⟩
    exact ⟨hb, fun h0 => absurd h0 he, fun _ => rfl⟩
  have he0 : er = 0 := by simpa using he
  subst he0
  rw [if_neg he]
  have hle' := hle rfl
  by_cases hn : n < 0
  · rw [if_pos hn]
    refine (sealR_neg R n w hn (hide (hnum.mono fun e w' h => ⟨(h.2.1 rfl).1, h.1⟩))).mono ?_
    rintro e w' ⟨rfl, hb⟩
    exact ⟨hb, fun h0 => absurd h0 (by decide), fun _ => rfl⟩
  rw [if_neg hn]
  by_cases hl : 1048576 < n
  · rw [if_pos hl]
    refine (sealR_long R n w hl (hide (hnum.mono fun e w' h => ⟨(h.2.1 rfl).1, h.1⟩))).mono ?_
    rintro e w' ⟨rfl, hb⟩
    exact ⟨hb, fun h0 => absurd h0 (by decide), fun _ => rfl⟩
  rw [if_neg hl]
  by_cases hsh : ((zs.length - p : Nat) : Int) - k < n + 8
  · rw [if_pos hsh]
    by_cases hs1 : (zs.length : Int) - ((p + k : Nat) : Int) < n
    · refine (sealR_short1 R v zs (p + k) n w hs hm (by omega) (by omega) (by omega) hs1 (hide (hnum.mono fun e w' h => ⟨(h.2.1 rfl).1, h.1, (h.2.1 rfl).2.1⟩))).mono ?_
      rintro e w' ⟨rfl, hb⟩
      exact ⟨hb, fun h0 => absurd h0 (by decide), fun _ => rfl⟩
    · refine (sealR_short2 R v zs (p + k) n.toNat n w (by omega) hs hm (by omega) (by omega) (by omega) (hide (hnum.mono fun e w' h => ⟨(h.2.1 rfl).1, h.1, (h.2.1 rfl).2.1⟩))).mono ?_
      rintro e w' ⟨rfl, hb⟩
      exact ⟨hb, fun h0 => absurd h0 (by decide), fun _ => rfl⟩
  rw [if_neg hsh]
  rw [← Nat.add_assoc p k n.toNat]
  by_cases hb : valL ((zs.drop (p + k + n.toNat)).take 8) ≠ chkF c0 ((zs.drop (p + k)).take n.toNat)
  · rw [if_pos hb]
    refine (sealR_bad R v zs (p + k) n.toNat n w (by omega) hs hby hm (by omega) (by omega) hR hb (hide (hnum.mono fun e w' h => ⟨(h.2.1 rfl).1, h.1, (h.2.1 rfl).2.1⟩))).mono ?_
    rintro e w' ⟨rfl, hb⟩
    exact ⟨hb, fun h0 => absurd h0 (by decide), fun _ => rfl⟩
  rw [if_neg hb]
  refine (sealR_ok R v zs (p + k) n.toNat n w (by omega) hs hby hm (by omega) (by omega) hR (by simpa using hb) (hide (hnum.mono fun e w' h => ⟨(h.2.1 rfl).1, h.1, (h.2.1 rfl).2.1, (h.2.1 rfl).2.2⟩))).mono ?_
  rintro e w' ⟨x, rfl, hat', hbb, ho⟩
  refine ⟨hbb, fun _ => ⟨x, rfl, by rw [show p + (k + n.toNat + 8) = p + k + n.toNat + 8 by omega]; exact hat', ?_⟩, fun h => absurd rfl h⟩
  have hl : ((zs.drop (p + k)).take n.toNat).length = n.toNat := by simp; omega
  rw [hl]; exact ho

theorem tu_no (l : List Int) (h : (tu l).2.2 ≠ 0) : (tu l).1 = [] ∧ (tu l).2.1 = 0 := by
  unfold tu at h ⊢
  by_cases c1 : (tn l).2.2 ≠ 0
  · rw [if_pos c1]; exact ⟨rfl, rfl⟩
  rw [if_neg c1] at h ⊢
  by_cases c2 : (tn l).1 < 0
  · rw [if_pos c2]; exact ⟨rfl, rfl⟩
  rw [if_neg c2] at h ⊢
  by_cases c3 : 1048576 < (tn l).1
  · rw [if_pos c3]; exact ⟨rfl, rfl⟩
  rw [if_neg c3] at h ⊢
  by_cases c4 : (l.length : Int) - (tn l).2.1 < (tn l).1 + 8
  · rw [if_pos c4]; exact ⟨rfl, rfl⟩
  rw [if_neg c4] at h ⊢
  by_cases c5 : valL ((l.drop ((tn l).2.1 + (tn l).1.toNat)).take 8) ≠ chkF c0 ((l.drop (tn l).2.1).take (tn l).1.toNat)
  · rw [if_pos c5]; exact ⟨rfl, rfl⟩
  rw [if_neg c5] at h
  exact absurd rfl h

set_option maxHeartbeats 400000 in
/-- Unseal. -/
theorem unseal_any (bv : Value) (zs : List Int) (w : World) (hs : Sees w .u8 bv zs) (hby : Byt zs) (hm : zs.length ≤ 9223372036854775807) :
    Calls Try.prog 34 #[bv] w fun e w' => ∃ x, e = .returned (.tuple #[x, .int .i64 (tu zs).2.1, .int .i64 (tu zs).2.2]) ∧ w'.ownsRow w.heap.size 5 1 x (tu zs).1.length (ints .u8 (tu zs).1) ∧ Below w.heap.size w w' := by
  have hst := tw_sees hs
  have hnum := sealR_any (w.heap.size + 1) bv zs 0 (tw w bv) (tw_at w bv) hst hby hm (Nat.zero_le _)
  rw [List.drop_zero, tw_size] at hnum
  obtain ⟨ao, cap, rfl, hlc, hnil, hc⟩ := hs
  have key : Calls Try.prog 64 #[.slice ao zs.length cap, .func (Fn.func 65) #[] #[]] w fun e w' => ∃ x, e = .returned (.tuple #[x, .int .i64 (tu zs).2.1, .int .i64 (tu zs).2.2]) ∧ w'.ownsRow w.heap.size 5 1 x (tu zs).1.length (ints .u8 (tu zs).1) ∧ Below w.heap.size w w' := by
    by_cases he : (tu zs).2.2 = 0
    · refine (take37_44_ok ao zs.length cap (tu zs).2.1 w (fun x w' => w'.ownsRow (w.heap.size + 2) 5 1 x (tu zs).1.length (ints .u8 (tu zs).1)) (fun _ _ _ h => h) (fun _ _ _ h => ownsRow_setCell_below h (by show w.heap.size < _; omega) _) (fun _ _ _ h => h.alloc _) (hnum.mono ?_)).mono ?_
      · rintro e w' ⟨h1, h2, _⟩
        obtain ⟨x, h3, h4, h5⟩ := h2 he
        rw [Nat.zero_add] at h4
        exact ⟨x, h3, h4, h1, h5⟩
      · rintro e w' ⟨x, rfl, hb, ho⟩
        exact ⟨x, by rw [he], own_mono ho (by omega), hb⟩
    · refine (take37_44_no ao zs.length cap (tu zs).2.2 w (hnum.mono ?_)).mono ?_
      · rintro e w' ⟨h1, _, h3⟩
        exact ⟨h3 he, h1⟩
      · rintro e w' ⟨rfl, hb⟩
        obtain ⟨e1, e2⟩ := tu_no zs he
        rw [e1, e2]
        exact ⟨_, rfl, World.ownsRow_nil _ _ _ _, hb⟩
  have HK := hide key
  clear key hst hnum hc
  go_enter Try.func34, Try.ntmps34
  go_wp2_with (go_at_call 64; refine (unhide HK).mono ?_; rintro e w1 ⟨x, rfl, ho, hb⟩)
  go_ret3
  exact ⟨x, rfl, ho, hb⟩

end Go.Proofs.Ytiijbklaapaheaa

/- The document's own low, Seal and Unseal (package trivetref01). -/
namespace Go.Proofs.Ytiijbklaapaheaa
open Go.RowKit
set_option maxRecDepth 100000

theorem sh_pow (j : Nat) (h : Int) : h / 2 ^ (8 * j) = sh j h := by rw [sh_eq, B256_eq]; simp

set_option maxHeartbeats 800000 in
theorem refLow_any (h : Int) (w : World) (_h0 : 0 ≤ h) (_h1 : h ≤ 18446744073709551615) :
    Calls Try.prog 61 #[.int .u64 h] w fun e w' => ∃ v', e = .returned v' ∧ w'.ownsRow w.heap.size 5 1 v' 8 (ints .u8 (lowL 8 h)) ∧ Below w.heap.size w w' := by
  obtain ⟨i0, hi, hz0, hz1, hz2⟩ := info_parts Try.info5
  go_enter Try.func61, Try.ntmps61
  go_wp2
  go_loopw [3, 4] (fun vd vi wr => ∃ j : Nat, j ≤ 8 ∧ vi = .int .i64 j ∧ wr.ownsRow w.heap.size 5 1 vd j (ints .u8 (lowL j h)) ∧ Below w.heap.size w wr) (fun _ vi _ => 8 - (intOf vi).toNat)
  case atStart => exact ⟨0, Nat.zero_le _, rfl, World.ownsRow_nil _ _ _ _, Below.refl _ _⟩
  case round =>
    obtain ⟨j, hj, rfl, hownr, hnx⟩ := hrel
    have hsz := hnx.size
    by_cases hlt : j < 8
    · go_wp2_with (at_builtin; refine wpList_append_own _ rfl _ _ 22 rfl w.heap.size 5 i0 (.int .u8 0) 1 1 Try.underlying22 hi hz0 hz1 hz2 rfl (by decide) _ _ _ rfl (hownr.alloc _) ⟨wr.heap.size, 0, none⟩ 1 1 [.int .u8 (h / 2 ^ (8 * j) % 256)] rfl rfl ?c1 ?c2 ?c3 ?c4 ?c5 ?_)
      case c1 => exact cell_one_new _ _ _
      case c2 => intro y hy; simp at hy; subst hy; rfl
      case c3 => unfold maxLen; omega
      case c4 => omega
      case c5 => simp; omega
      intro v' w1 hown' hgrow _
      have hb1 : Below w.heap.size w w1 := (hnx.alloc (by omega) _).grown hgrow (by simp; omega) (own_block_le hownr)
      have ho2 : w1.ownsRow w.heap.size 5 1 v' (j + 1) (ints .u8 (lowL (j + 1) h)) := by rw [lowL_snoc, ints_append, ints_one, ← sh_pow]; exact hown'
      clear hown' hgrow hownr hnx
      go_wp2
      go_roundw
      case rel => exact ⟨j + 1, by omega, by go_num, ho2, hb1⟩
      case measure => simp [intOf]; omega
    · obtain rfl : j = 8 := by omega
      go_wp2
      go_ret
      exact ⟨_, rfl, hownr, hnx⟩

set_option maxHeartbeats 400000 in
theorem refSeal_long (ao : Option Addr) (len cap : Nat) (w : World) (h : 1048576 < len) (hm : len ≤ 140737488355328) :
    Calls Try.prog 31 #[.slice ao len cap] w fun e w' => e = .returned (.tuple #[.slice none 0 0, .int .i64 3]) ∧ w = w' := by
  go_enter Try.func31, Try.ntmps31
  go_wp2
  go_ret2
  exact ⟨rfl, rfl⟩

set_option maxHeartbeats 800000 in
theorem refSeal_ok (bv : Value) (zs : List Int) (w : World) (hs : Sees w .u8 bv zs) (hby : Byt zs) (hm : zs.length ≤ 1048576) :
    Calls Try.prog 31 #[bv] w fun e w' => ∃ x, e = .returned (.tuple #[x, .int .i64 0]) ∧ w'.ownsRow w.heap.size 5 1 x (sealB zs).length (ints .u8 (sealB zs)) ∧ Below w.heap.size w w' := by
  obtain ⟨i0, hi, hz0, hz1, hz2⟩ := info_parts Try.info5
  have HB := hide (refBlob_any (.slice none 0 0) bv [] zs w (Sees.nil _ _) hs (by simp; omega))
  have HC := hide (fun w' (h : Below w.heap.size w w') => refCheck_any bv zs w' (hs.below h) hby (by omega))
  obtain ⟨hc1, hc2⟩ := chkF_bounds c0 zs c0_bounds.1 c0_bounds.2
  have h9 := sizeL_le [(zs.length : Int)]
  simp only [List.length_singleton] at h9
  have hsl : (sealB zs).length = sizeL [(zs.length : Int)] + zs.length + 8 := by simp only [sealB, List.length_append, putL_length, lowL_length]
  have HSL := hide hsl
  clear hsl
  obtain ⟨ao, cap, rfl, hlc, hnil, hc⟩ := hs
  clear hc
  have HS : Hid (sealB zs = putL [(zs.length : Int)] ++ zs ++ lowL 8 (chkF c0 zs)) := rfl
  have HLL := hide (lowL_length 8 (chkF c0 zs))
  generalize chkF c0 zs = c at *
  go_enter Try.func31, Try.ntmps31
  go_wp2_with (go_at_call 32; refine (unhide HB).mono ?_; rintro e w1 ⟨x1, rfl, ho1, hb1⟩)
  have ho1' : w1.ownsRow w.heap.size 5 1 x1 (sizeL [(zs.length : Int)] + zs.length) (ints .u8 (putL [(zs.length : Int)] ++ zs)) := by simpa using ho1
  clear ho1
  go_wp2_with (first
    | (go_at_call 62; refine (unhide HC w1 hb1).mono ?_; rintro e w1' ⟨rfl, rfl⟩)
    | (go_at_call 61; refine (refLow_any c w1 hc1 hc2).mono ?_; rintro e w2 ⟨x2, rfl, ho2, hb2⟩; have hs2 := (sees_of_own ho2).2; have hor := own_below ho1' hb2)
    | (at_builtin; refine wpList_append_sees rfl _ _ 22 rfl w.heap.size 5 i0 (.int .u8 0) 1 Try.underlying22 hi hz0 hz1 hz2 rfl _ _ _ rfl hor .u8 _ _ rfl hs2 ?d1 ?d2 ?d3 ?_))
  case d1 => rw [HLL.out]; unfold maxLen; omega
  case d2 => rw [HLL.out]; omega
  case d3 => exact Nat.le_trans hb1.size hb2.size
  intro x3 w3 ho3 hg3
  have hbw2 : Below w.heap.size w w2 := hb1.trans (hb2.mono hb1.size)
  rw [HLL.out, ← ints_append] at ho3
  go_wp2
  go_ret2
  exact ⟨x3, rfl, by rw [HSL.out, HS.out]; simpa using ho3, hbw2.grown hg3 hbw2.size (own_block_le hor)⟩

theorem val_low (bs : List Int) (hb : Byt bs) (hl : bs.length = 8) (c : Int) (h0 : 0 ≤ c) (h1 : c ≤ 18446744073709551615) : lowL 8 c = bs ↔ valL bs = c := by
  constructor
  · intro h
    rw [← h]
    exact valL_low 8 c h0 (by rw [B256_8]; omega)
  · intro h
    rw [← h, ← hl]
    exact low_valL bs hb

end Go.Proofs.Ytiijbklaapaheaa
