/- The document's own Blob, TakeBlob and Nums (package trivetref01): they come to the same. -/
import Derived.Test.YthdghnppledakaaR0
import Derived.Test.YthdghnppledakaaR1
import Derived.Test.YthdghnppledakaaWE
import Derived.Test.YthdghnppledakaaOneM
namespace Go.Proofs.Ythdghnppledakaa
open Go.RowKit

theorem sees_empty (w : World) (k : IntKind) (ao : Option Addr) : Sees w k (.slice ao 0 0) [] := ⟨ao, 0, rfl, Nat.le_refl _, fun _ => rfl, fun a _ t ht => by simp at ht⟩

set_option maxHeartbeats 800000 in
theorem refBlob_any (bv dv : Value) (zs ds : List Int) (w : World) (hs : Sees w .u8 bv zs) (hd : Sees w .u8 dv ds) (hn : zs.length + ds.length + 64 ≤ 140737488355328) :
    Calls Try.prog 21 #[bv, dv] w fun e w' => ∃ v', e = .returned v' ∧ w'.ownsRow w.heap.size 5 1 v' (zs.length + sizeL [(ds.length : Int)] + ds.length) (ints .u8 (zs ++ putL [(ds.length : Int)] ++ ds)) ∧ Below w.heap.size w w' := by
  obtain ⟨i0, hi, hz0, hz1, hz2⟩ := info_parts Try.info5
  have hI := I64_one (ds.length : Int) (by omega) (by omega)
  have h9 := sizeL_le [(ds.length : Int)]
  simp only [List.length_singleton] at h9
  have hb0 : Below w.heap.size w (w.alloc (.cells #[.int .i64 (ds.length : Int)] 2)) := (Below.refl _ _).alloc (Nat.le_refl _) _
  have HP := hide (refPut_any bv _ zs [(ds.length : Int)] _ (hs.below hb0) (sees_one w ds.length) (by simp) hI (by omega))
  have hd0 := hd
  obtain ⟨ao, cap, rfl, hlc, hnil, hc⟩ := hd0
  clear hc
  go_enter Try.func21, Try.ntmps21
  go_wp2_with (first
    | (go_at_call 14; refine (unhide HP).mono ?_; rintro e w1 ⟨v1, rfl, ho1, hb1⟩)
    | (at_builtin; refine wpList_append_sees rfl _ _ 22 rfl w.heap.size 5 i0 (.int .u8 0) 1 Try.underlying22 hi hz0 hz1 hz2 rfl _ _ _ rfl (own_mono ho1 (by simp)) .u8 _ ds rfl (hd.below (hb0.trans (hb1.mono (by simp)))) ?d1 ?d2 ?d3 ?_))
  case d1 => unfold maxLen; omega
  case d2 => omega
  case d3 => have := hb1.size; simp at this; omega
  intro v2 w2 ho2 hg2
  have hbw1 : Below w.heap.size w w1 := hb0.trans (hb1.mono (by simp))
  go_wp2
  go_ret
  exact ⟨_, rfl, by rw [ints_append]; exact ho2, hbw1.grown hg2 hbw1.size (own_block_le (own_mono ho1 (by simp)))⟩

set_option maxHeartbeats 800000 in
theorem refTakeBlob_any (bv : Value) (zs : List Int) (w : World) (hs : Sees w .u8 bv zs) (hby : Byt zs) (hm : zs.length ≤ 140737488351232) :
    Calls Try.prog 17 #[bv] w fun e w' => ∃ x, e = .returned (.tuple #[x, .int .i64 (tb zs).2.1, .int .i64 (tb zs).2.2]) ∧ Sees w' .u8 x (tb zs).1 ∧ Below w.heap.size w w' := by
  obtain ⟨i0, hi, hz0, hz1, hz2⟩ := info_parts Try.info5
  have HT := hide (refTake_any bv zs w hs hby (by omega))
  have hle := tn_le zs
  have hp := tn_put zs hby
  unfold tb
  generalize tn zs = t at *
  obtain ⟨n, k, er⟩ := t
  dsimp only at hle hp ⊢
  obtain ⟨ao, cap, rfl, hlc, hnil, hc⟩ := hs
  have hs : Sees w .u8 (.slice ao zs.length cap) zs := ⟨ao, cap, rfl, hlc, hnil, hc⟩
  clear hc hnil
  by_cases he : er ≠ 0
  · rw [if_pos he]
    have hef : (er != 0) = true := by rw [bne_iff_ne]; exact he
    clear hle hp
    go_enter Try.func17, Try.ntmps17
    go_wp2_with (go_at_call 10; refine (unhide HT).mono ?_; rintro e w1 ⟨rfl, rfl⟩)
    go_ret3
    exact ⟨_, rfl, Sees.nil _ _, Below.refl _ _⟩
  have he0 : er = 0 := by simpa using he
  subst he0
  rw [if_neg he]
  obtain ⟨hk1, hk2⟩ := hle rfl
  obtain ⟨_, hn1, hn2⟩ := hp rfl
  clear hp hle he
  by_cases hn : n < 0
  · rw [if_pos hn]
    go_enter Try.func17, Try.ntmps17
    go_wp2_with (go_at_call 10; refine (unhide HT).mono ?_; rintro e w1 ⟨rfl, rfl⟩)
    go_ret3
    exact ⟨_, rfl, Sees.nil _ _, Below.refl _ _⟩
  rw [if_neg hn]
  by_cases hsh : (zs.length : Int) - k < n
  · rw [if_pos hsh]
    go_enter Try.func17, Try.ntmps17
    go_wp2_with (go_at_call 10; refine (unhide HT).mono ?_; rintro e w1 ⟨rfl, rfl⟩)
    go_ret3
    exact ⟨_, rfl, Sees.nil _ _, Below.refl _ _⟩
  rw [if_neg hsh]
  obtain ⟨m, rfl⟩ := Int.eq_ofNat_of_zero_le (by omega : 0 ≤ n)
  rw [Int.toNat_natCast]
  have hcut := (hs.upto.cut k m (by omega)).sees
  have hlen : ((zs.drop k).take m).length = m := by simp; omega
  have HLEN := hide hlen
  clear hs hlen hn1 hn2
  by_cases hck : cap = k
  · obtain rfl : m = 0 := by omega
    clear hcut
    have hse := sees_empty w .u8 ao
    subst hck
    go_enter Try.func17, Try.ntmps17
    go_wp2_with (first
      | (go_at_call 10; refine (unhide HT).mono ?_; rintro e w1 ⟨rfl, rfl⟩)
      | (at_builtin; refine wpList_append_sees rfl _ _ 22 rfl w.heap.size 5 i0 (.int .u8 0) 1 Try.underlying22 hi hz0 hz1 hz2 rfl _ _ _ rfl (World.ownsRow_nil _ _ _ _) .u8 _ [] rfl hse ?d1 ?d2 ?d3 ?_))
    case d1 => unfold maxLen; simp
    case d2 => simp
    case d3 => omega
    intro v2 w2 ho2 hg2
    go_wp2
    go_ret3
    have hb2 : Below w.heap.size w w2 := (Below.refl _ _).grown hg2 (Nat.le_refl _) (fun k h => by cases h)
    have ho3 : w2.ownsRow w.heap.size 5 1 v2 0 (ints .u8 []) := by simpa using ho2
    exact ⟨v2, rfl, by simpa using (sees_of_own ho3).2, hb2⟩
  · rw [if_neg hck] at hcut
    have hcut2 : Sees w .u8 (.slice (Option.map (·.add k) ao) (k + m - k) (cap - k)) ((zs.drop k).take m) := by rw [show k + m - k = m by omega]; exact hcut
    clear hcut
    generalize (zs.drop k).take m = ds at *
    go_enter Try.func17, Try.ntmps17
    go_wp2_with (first
      | (go_at_call 10; refine (unhide HT).mono ?_; rintro e w1 ⟨rfl, rfl⟩)
      | (at_builtin; refine wpList_append_sees rfl _ _ 22 rfl w.heap.size 5 i0 (.int .u8 0) 1 Try.underlying22 hi hz0 hz1 hz2 rfl _ _ _ rfl (World.ownsRow_nil _ _ _ _) .u8 _ ds rfl hcut2 ?d1 ?d2 ?d3 ?_))
    case d1 => rw [HLEN.out]; unfold maxLen; omega
    case d2 => rw [HLEN.out]; omega
    case d3 => omega
    intro v2 w2 ho2 hg2
    go_wp2
    go_ret3
    have hb2 : Below w.heap.size w w2 := (Below.refl _ _).grown hg2 (Nat.le_refl _) (fun k h => by cases h)
    have ho3 : w2.ownsRow w.heap.size 5 1 v2 ds.length (ints .u8 ds) := by simpa using ho2
    exact ⟨v2, congrArg (fun z => Ending.returned (.tuple #[v2, .int .i64 z, .int .i64 0])) (show (k : Int) + (m : Int) = ((k + m : Nat) : Int) by omega), (sees_of_own ho3).2, hb2⟩

end Go.Proofs.Ythdghnppledakaa
