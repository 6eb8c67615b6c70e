/- The document's own low, Seal and Unseal (package trivetref01). -/
import Derived.Test.YthdghnppledakaaWI
import Derived.Test.YthdghnppledakaaR2
namespace Go.Proofs.Ythdghnppledakaa
open Go.RowKit

theorem sh_pow (j : Nat) (h : Int) : h / 2 ^ (8 * j) = sh j h := by rw [sh_eq, B256_eq]; simp

set_option maxHeartbeats 800000 in
theorem refLow_any (h : Int) (w : World) (_h0 : 0 ≤ h) (_h1 : h ≤ 18446744073709551615) :
    Calls Try.prog 43 #[.int .u64 h] w fun e w' => ∃ v', e = .returned v' ∧ w'.ownsRow w.heap.size 5 1 v' 8 (ints .u8 (lowL 8 h)) ∧ Below w.heap.size w w' := by
  obtain ⟨i0, hi, hz0, hz1, hz2⟩ := info_parts Try.info5
  go_enter Try.func43, Try.ntmps43
  go_wp2
  go_loopw [3, 4] (fun vd vi wr => ∃ j : Nat, j ≤ 8 ∧ vi = .int .i64 j ∧ wr.ownsRow w.heap.size 5 1 vd j (ints .u8 (lowL j h)) ∧ Below w.heap.size w wr) (fun _ vi _ => 8 - (intOf vi).toNat)
  case atStart => exact ⟨0, Nat.zero_le _, rfl, World.ownsRow_nil _ _ _ _, Below.refl _ _⟩
  case round =>
    obtain ⟨j, hj, rfl, hownr, hnx⟩ := hrel
    have hsz := hnx.size
    by_cases hlt : j < 8
    · go_wp2_with (at_builtin; refine wpList_append_own _ rfl _ _ 22 rfl w.heap.size 5 i0 (.int .u8 0) 1 1 Try.underlying22 hi hz0 hz1 hz2 rfl (by decide) _ _ _ rfl (hownr.alloc _) ⟨wr.heap.size, 0, none⟩ 1 1 [.int .u8 (h / 2 ^ (8 * j) % 256)] rfl rfl ?c1 ?c2 ?c3 ?c4 ?c5 ?_)
      case c1 => exact cell_one_new _ _ _
      case c2 => intro y hy; simp at hy; subst hy; rfl
      case c3 => unfold maxLen; omega
      case c4 => omega
      case c5 => simp; omega
      intro v' w1 hown' hgrow _
      have hb1 : Below w.heap.size w w1 := (hnx.alloc (by omega) _).grown hgrow (by simp; omega) (own_block_le hownr)
      have ho2 : w1.ownsRow w.heap.size 5 1 v' (j + 1) (ints .u8 (lowL (j + 1) h)) := by rw [lowL_snoc, ints_append, ints_one, ← sh_pow]; exact hown'
      clear hown' hgrow hownr hnx
      go_wp2
      go_roundw
      case rel => exact ⟨j + 1, by omega, by go_num, ho2, hb1⟩
      case measure => simp [intOf]; omega
    · obtain rfl : j = 8 := by omega
      go_wp2
      go_ret
      exact ⟨_, rfl, hownr, hnx⟩

set_option maxHeartbeats 400000 in
theorem refSeal_long (ao : Option Addr) (len cap : Nat) (w : World) (h : 1048576 < len) (hm : len ≤ 140737488355328) :
    Calls Try.prog 24 #[.slice ao len cap] w fun e w' => e = .returned (.tuple #[.slice none 0 0, .int .i64 3]) ∧ w = w' := by
  go_enter Try.func24, Try.ntmps24
  go_wp2
  go_ret2
  exact ⟨rfl, rfl⟩

set_option maxHeartbeats 800000 in
theorem refSeal_ok (bv : Value) (zs : List Int) (w : World) (hs : Sees w .u8 bv zs) (hby : Byt zs) (hm : zs.length ≤ 1048576) :
    Calls Try.prog 24 #[bv] w fun e w' => ∃ x, e = .returned (.tuple #[x, .int .i64 0]) ∧ w'.ownsRow w.heap.size 5 1 x (sealB zs).length (ints .u8 (sealB zs)) ∧ Below w.heap.size w w' := by
  obtain ⟨i0, hi, hz0, hz1, hz2⟩ := info_parts Try.info5
  have HB := hide (refBlob_any (.slice none 0 0) bv [] zs w (Sees.nil _ _) hs (by simp; omega))
  have HC := hide (fun w' (h : Below w.heap.size w w') => refCheck_any bv zs w' (hs.below h) hby (by omega))
  obtain ⟨hc1, hc2⟩ := chkF_bounds c0 zs c0_bounds.1 c0_bounds.2
  have h9 := sizeL_le [(zs.length : Int)]
  simp only [List.length_singleton] at h9
  have hsl : (sealB zs).length = sizeL [(zs.length : Int)] + zs.length + 8 := by simp only [sealB, List.length_append, putL_length, lowL_length]
  have HSL := hide hsl
  clear hsl
  obtain ⟨ao, cap, rfl, hlc, hnil, hc⟩ := hs
  clear hc
  have HS : Hid (sealB zs = putL [(zs.length : Int)] ++ zs ++ lowL 8 (chkF c0 zs)) := rfl
  have HLL := hide (lowL_length 8 (chkF c0 zs))
  generalize chkF c0 zs = c at *
  go_enter Try.func24, Try.ntmps24
  go_wp2_with (go_at_call 21; refine (unhide HB).mono ?_; rintro e w1 ⟨x1, rfl, ho1, hb1⟩)
  have ho1' : w1.ownsRow w.heap.size 5 1 x1 (sizeL [(zs.length : Int)] + zs.length) (ints .u8 (putL [(zs.length : Int)] ++ zs)) := by simpa using ho1
  clear ho1
  go_wp2_with (first
    | (go_at_call 28; refine (unhide HC w1 hb1).mono ?_; rintro e w1' ⟨rfl, rfl⟩)
    | (go_at_call 43; refine (refLow_any c w1 hc1 hc2).mono ?_; rintro e w2 ⟨x2, rfl, ho2, hb2⟩; have hs2 := (sees_of_own ho2).2; have hor := own_below ho1' hb2)
    | (at_builtin; refine wpList_append_sees rfl _ _ 22 rfl w.heap.size 5 i0 (.int .u8 0) 1 Try.underlying22 hi hz0 hz1 hz2 rfl _ _ _ rfl hor .u8 _ _ rfl hs2 ?d1 ?d2 ?d3 ?_))
  case d1 => rw [HLL.out]; unfold maxLen; omega
  case d2 => rw [HLL.out]; omega
  case d3 => exact Nat.le_trans hb1.size hb2.size
  intro x3 w3 ho3 hg3
  have hbw2 : Below w.heap.size w w2 := hb1.trans (hb2.mono hb1.size)
  rw [HLL.out, ← ints_append] at ho3
  go_wp2
  go_ret2
  exact ⟨x3, rfl, by rw [HSL.out, HS.out]; simpa using ho3, hbw2.grown hg3 hbw2.size (own_block_le hor)⟩

theorem val_low (bs : List Int) (hb : Byt bs) (hl : bs.length = 8) (c : Int) (h0 : 0 ≤ c) (h1 : c ≤ 18446744073709551615) : lowL 8 c = bs ↔ valL bs = c := by
  constructor
  · intro h
    rw [← h]
    exact valL_low 8 c h0 (by rw [B256_8]; omega)
  · intro h
    rw [← h, ← hl]
    exact low_valL bs hb

end Go.Proofs.Ythdghnppledakaa
