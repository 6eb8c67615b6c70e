/- Several texts as one. -/
import Derived.Test.YtggllgimlfchhaaGreatWI
import Derived.Test.YtggllgimlfchhaaGreatR2
import Derived.Deep.RegionWith

/- The document's own low, Seal and Unseal (package trivetref01). -/
namespace Go.Proofs.YtggllgimlfchhaaGreat
open Go.RowKit
set_option maxRecDepth 100000

theorem sh_pow (j : Nat) (h : Int) : h / 2 ^ (8 * j) = sh j h := by rw [sh_eq, B256_eq]; simp

set_option maxHeartbeats 800000 in
theorem refLow_any (h : Int) (w : World) (_h0 : 0 ≤ h) (_h1 : h ≤ 18446744073709551615) :
    Calls Tryz.prog 85 #[.int .u64 h] w fun e w' => ∃ v', e = .returned v' ∧ w'.ownsRow w.heap.size 5 1 v' 8 (ints .u8 (lowL 8 h)) ∧ Below w.heap.size w w' := by
  obtain ⟨i0, hi, hz0, hz1, hz2⟩ := info_parts Tryz.info5
  go_enter Tryz.func85, Tryz.ntmps85
  go_wp2
  go_loopw [3, 4] (fun vd vi wr => ∃ j : Nat, j ≤ 8 ∧ vi = .int .i64 j ∧ wr.ownsRow w.heap.size 5 1 vd j (ints .u8 (lowL j h)) ∧ Below w.heap.size w wr) (fun _ vi _ => 8 - (intOf vi).toNat)
  case atStart => exact ⟨0, Nat.zero_le _, rfl, World.ownsRow_nil _ _ _ _, Below.refl _ _⟩
  case round =>
    obtain ⟨j, hj, rfl, hownr, hnx⟩ := hrel
    have hsz := hnx.size
    by_cases hlt : j < 8
    · go_wp2_with (at_builtin; refine wpList_append_own _ rfl _ _ 23 rfl w.heap.size 5 i0 (.int .u8 0) 1 1 Tryz.underlying23 hi hz0 hz1 hz2 rfl (by decide) _ _ _ rfl (hownr.alloc _) ⟨wr.heap.size, 0, none⟩ 1 1 [.int .u8 (h / 2 ^ (8 * j) % 256)] rfl rfl ?c1 ?c2 ?c3 ?c4 ?c5 ?_)
      case c1 => exact cell_one_new _ _ _
      case c2 => intro y hy; simp at hy; subst hy; rfl
      case c3 => unfold maxLen; omega
      case c4 => omega
      case c5 => simp; omega
      intro v' w1 hown' hgrow _
      have hb1 : Below w.heap.size w w1 := (hnx.alloc (by omega) _).grown hgrow (by simp; omega) (own_block_le hownr)
      have ho2 : w1.ownsRow w.heap.size 5 1 v' (j + 1) (ints .u8 (lowL (j + 1) h)) := by rw [lowL_snoc, ints_append, ints_one, ← sh_pow]; exact hown'
      clear hown' hgrow hownr hnx
      go_wp2
      go_roundw
      case rel => exact ⟨j + 1, by omega, by go_num, ho2, hb1⟩
      case measure => simp [intOf]; omega
    · obtain rfl : j = 8 := by omega
      go_wp2
      go_ret
      exact ⟨_, rfl, hownr, hnx⟩

set_option maxHeartbeats 400000 in
theorem refSeal_long (ao : Option Addr) (len cap : Nat) (w : World) (h : 1048576 < len) (hm : len ≤ 140737488355328) :
    Calls Tryz.prog 43 #[.slice ao len cap] w fun e w' => e = .returned (.tuple #[.slice none 0 0, .int .i64 3]) ∧ w = w' := by
  go_enter Tryz.func43, Tryz.ntmps43
  go_wp2
  go_ret2
  exact ⟨rfl, rfl⟩

set_option maxHeartbeats 800000 in
theorem refSeal_ok (bv : Value) (zs : List Int) (w : World) (hs : Sees w .u8 bv zs) (hby : Byt zs) (hm : zs.length ≤ 1048576) :
    Calls Tryz.prog 43 #[bv] w fun e w' => ∃ x, e = .returned (.tuple #[x, .int .i64 0]) ∧ w'.ownsRow w.heap.size 5 1 x (sealB zs).length (ints .u8 (sealB zs)) ∧ Below w.heap.size w w' := by
  obtain ⟨i0, hi, hz0, hz1, hz2⟩ := info_parts Tryz.info5
  have HB := hide (refBlob_any (.slice none 0 0) bv [] zs w (Sees.nil _ _) hs (by simp; omega))
  have HC := hide (fun w' (h : Below w.heap.size w w') => refCheck_any bv zs w' (hs.below h) hby (by omega))
  obtain ⟨hc1, hc2⟩ := chkF_bounds c0 zs c0_bounds.1 c0_bounds.2
  have h9 := sizeL_le [(zs.length : Int)]
  simp only [List.length_singleton] at h9
  have hsl : (sealB zs).length = sizeL [(zs.length : Int)] + zs.length + 8 := by simp only [sealB, List.length_append, putL_length, lowL_length]
  have HSL := hide hsl
  clear hsl
  obtain ⟨ao, cap, rfl, hlc, hnil, hc⟩ := hs
  clear hc
  have HS : Hid (sealB zs = putL [(zs.length : Int)] ++ zs ++ lowL 8 (chkF c0 zs)) := rfl
  have HLL := hide (lowL_length 8 (chkF c0 zs))
  generalize chkF c0 zs = c at *
  go_enter Tryz.func43, Tryz.ntmps43
  go_wp2_with (go_at_call 84; refine (unhide HB).mono ?_; rintro e w1 ⟨x1, rfl, ho1, hb1⟩)
  have ho1' : w1.ownsRow w.heap.size 5 1 x1 (sizeL [(zs.length : Int)] + zs.length) (ints .u8 (putL [(zs.length : Int)] ++ zs)) := by simpa using ho1
  clear ho1
  go_wp2_with (first
    | (go_at_call 86; refine (unhide HC w1 hb1).mono ?_; rintro e w1' ⟨rfl, rfl⟩)
    | (go_at_call 85; refine (refLow_any c w1 hc1 hc2).mono ?_; rintro e w2 ⟨x2, rfl, ho2, hb2⟩; have hs2 := (sees_of_own ho2).2; have hor := own_below ho1' hb2)
    | (at_builtin; refine wpList_append_sees rfl _ _ 23 rfl w.heap.size 5 i0 (.int .u8 0) 1 Tryz.underlying23 hi hz0 hz1 hz2 rfl _ _ _ rfl hor .u8 _ _ rfl hs2 ?d1 ?d2 ?d3 ?_))
  case d1 => rw [HLL.out]; unfold maxLen; omega
  case d2 => rw [HLL.out]; omega
  case d3 => exact Nat.le_trans hb1.size hb2.size
  intro x3 w3 ho3 hg3
  have hbw2 : Below w.heap.size w w2 := hb1.trans (hb2.mono hb1.size)
  rw [HLL.out, ← ints_append] at ho3
  go_wp2
  go_ret2
  exact ⟨x3, rfl, by rw [HSL.out, HS.out]; simpa using ho3, hbw2.grown hg3 hbw2.size (own_block_le hor)⟩

theorem val_low (bs : List Int) (hb : Byt bs) (hl : bs.length = 8) (c : Int) (h0 : 0 ≤ c) (h1 : c ≤ 18446744073709551615) : lowL 8 c = bs ↔ valL bs = c := by
  constructor
  · intro h
    rw [← h]
    exact valL_low 8 c h0 (by rw [B256_8]; omega)
  · intro h
    rw [← h, ← hl]
    exact low_valL bs hb

end Go.Proofs.YtggllgimlfchhaaGreat

/- The document's own Unseal (package trivetref01). -/
namespace Go.Proofs.YtggllgimlfchhaaGreat
open Go.RowKit
set_option maxRecDepth 100000

/-- What comes of the check: b: it is another one. -/
def UPost (b : Bool) (K : Nat) (bs : List Int) (w : World) (e : Ending) (w' : World) : Prop :=
  ∃ x, (if b = true then e = .returned (.tuple #[.slice none 0 0, .int .i64 0, .int .i64 12]) else e = .returned (.tuple #[x, .int .i64 (K : Int), .int .i64 0]) ∧ Sees w' .u8 x bs) ∧ Below w.heap.size w w'

set_option maxHeartbeats 800000 in
/-- The part behind the tests: what is sealed, and its check. -/
theorem refUnseal_rest (ao : Option Addr) (cap k m : Nat) (zs : List Int) (w : World) (hs : Sees w .u8 (.slice ao zs.length cap) zs) (hby : Byt zs) (hm : zs.length ≤ 140737488351232) (hlc : zs.length ≤ cap) (hk : k + m + 8 ≤ zs.length) (hm1 : m ≤ 1048576)
    (HT : Hid (Calls Tryz.prog 100 #[.slice ao zs.length cap] w fun e w' => e = .returned (.tuple #[.int .i64 (m : Int), .int .i64 (k : Int), .int .i64 0]) ∧ w = w')) (b : Bool)
    (hb : (!((strOf (lowL 8 (chkF c0 ((zs.drop k).take m)))).toList == (strOf ((zs.drop (k + m)).take 8)).toList)) = b) :
    Calls Tryz.prog 52 #[.slice ao zs.length cap] w fun e w' => UPost b (k + m + 8) ((zs.drop k).take m) w e w' := by
  obtain ⟨i0, hi, hz0, hz1, hz2⟩ := info_parts Tryz.info5
  have hck : ¬ cap = k := by omega
  have hck2 : ¬ cap = k + m := by omega
  have hcut := (hs.upto.cut k m (by omega)).sees
  rw [if_neg hck] at hcut
  have hcut2 : Sees w .u8 (.slice (Option.map (·.add k) ao) (k + m - k) (cap - k)) ((zs.drop k).take m) := by rw [show k + m - k = m by omega]; exact hcut
  have htl := (hs.upto.cut (k + m) 8 (by omega)).sees
  rw [if_neg hck2] at htl
  have htl2 : Sees w .u8 (.slice (Option.map (·.add (k + m)) ao) (k + m + 8 - (k + m)) (cap - (k + m))) ((zs.drop (k + m)).take 8) := by rw [show k + m + 8 - (k + m) = 8 by omega]; exact htl
  have e1 : ((k : Int) + (m : Int)).toNat = k + m := by omega
  have e2 : ((k : Int) + (m : Int) + 8).toNat = k + m + 8 := by omega
  have htl3 : Sees w .u8 (.slice (Option.map (fun x => x.add ((k : Int) + (m : Int)).toNat) ao) (((k : Int) + (m : Int) + 8).toNat - ((k : Int) + (m : Int)).toNat) (cap - ((k : Int) + (m : Int)).toNat)) ((zs.drop (k + m)).take 8) := by rw [e1, e2]; exact htl2
  have hlen : ((zs.drop k).take m).length = m := by simp; omega
  have hb1 : Byt ((zs.drop k).take m) := (hby.drop _).take _
  have hb2 : Byt ((zs.drop (k + m)).take 8) := (hby.drop _).take _
  have HCV := hide (fun w' (h : Below w.heap.size w w') => run_conv_sees (P := Tryz.prog) w' 23 9 5 _ _ Tryz.underlying23 Tryz.underlying5 Tryz.underlying9 (htl3.below h) hb2)
  generalize (zs.drop k).take m = bs at *
  generalize (zs.drop (k + m)).take 8 = ts at *
  have HCH := hide (fun (v : Value) w' (h : Sees w' .u8 v bs) => refCheck_any v bs w' h hb1 (by omega))
  obtain ⟨hc1, hc2⟩ := chkF_bounds c0 bs c0_bounds.1 c0_bounds.2
  generalize chkF c0 bs = c at *
  have HBB := hide hb
  clear hb
  have HLEN := hide hlen
  clear hcut htl htl2 htl3 e1 e2 hs hlen
  have hI1 : (k : Int) + (m : Int) + 8 ≤ (cap : Int) := by omega
  have hI0 : (0 : Int) ≤ (k : Int) + (m : Int) := by omega
  have hI2 : (k : Int) + (m : Int) ≤ (k : Int) + (m : Int) + 8 := by omega
  have hm2 : (m : Int) ≤ 1048576 := by omega
  have hm0 : (0 : Int) ≤ (m : Int) := by omega
  have hmk : (m : Int) + 8 ≤ (zs.length : Int) - (k : Int) := by omega
  go_enter Tryz.func52, Tryz.ntmps52
  go_wp2_with (first
    | (go_at_call 100; refine (unhide HT).mono ?_; rintro e w1 ⟨rfl, rfl⟩)
    | (at_builtin; refine wpList_append_sees rfl _ _ 23 rfl w.heap.size 5 i0 (.int .u8 0) 1 Tryz.underlying23 hi hz0 hz1 hz2 rfl _ _ _ rfl (World.ownsRow_nil _ _ _ _) .u8 _ bs rfl hcut2 ?d1 ?d2 ?d3 ?_))
  case d1 => rw [HLEN.out]; unfold maxLen; omega
  case d2 => rw [HLEN.out]; omega
  case d3 => omega
  intro v2 w2 ho2 hg2
  have hbw2 : Below w.heap.size w w2 := (Below.refl _ _).grown hg2 (Nat.le_refl _) (fun k h => by cases h)
  have ho3 : w2.ownsRow w.heap.size 5 1 v2 bs.length (ints .u8 bs) := by simpa using ho2
  have hs2 := (sees_of_own ho3).2
  have hcvA := unhide HCV w2.drew hbw2.drew
  clear ho2 ho3 hg2 hcut2
  have hwr : IntKind.i64.wrap ((k : Int) + (m : Int) + 8) = (k : Int) + (m : Int) + 8 := by rw [IntKind.wrap_i64]; omega
  go_wp2
  go_region_with (first
    | (go_at_call 86; refine (unhide HCH v2 _ (by exact hs2.keep fun _ _ h => h)).mono ?_; rintro e w3 ⟨rfl, rfl⟩)
    | (go_at_call 85; refine (refLow_any c _ hc1 hc2).mono ?_; rintro e w4 ⟨x4, rfl, ho4, hb4⟩; have hbw4 : Below w.heap.size w w4 := hbw2.drew.trans (hb4.mono hbw2.size); have hcvB := unhide HCV w4 hbw4; have hcvL := run_conv_sees (P := Tryz.prog) w4 23 9 5 x4 _ Tryz.underlying23 Tryz.underlying5 Tryz.underlying9 (sees_of_own ho4).2 (lowL_byte 8 c)))
  all_goals rw [HBB.out]
  all_goals clear hcvA hcvB hcvL HCV HCH hwr
  all_goals cases b
  all_goals go_wp2
  all_goals go_ret3
  all_goals unfold UPost
  all_goals first
    | exact ⟨v2, ⟨congrArg (fun z => Ending.returned (.tuple #[v2, .int .i64 z, .int .i64 0])) (show (k : Int) + (m : Int) + 8 = ((k + m + 8 : Nat) : Int) by omega), hs2.below (by exact (Below.refl _ _).drew.trans hb4)⟩, hbw4⟩
    | exact ⟨v2, rfl, hbw4⟩

end Go.Proofs.YtggllgimlfchhaaGreat
