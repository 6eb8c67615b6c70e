/- The document's Full. -/
import Derived.Test.YteehhbgjjamjiaaM7
namespace Go.Proofs.Yteehhbgjjamjiaa
open Go.RowKit

theorem rep_snoc (k : Nat) : List.replicate (k + 1) (255 : Int) = List.replicate k 255 ++ [255] := List.replicate_succ'

def lenOf : Value → Nat | .slice _ n _ => n | _ => 0

set_option maxRecDepth 100000 in
set_option maxHeartbeats 800000 in
theorem full_any (bv : Value) (zs : List Int) (w : World) (hs : Sees w .u8 bv zs) (hl : zs.length ≤ 256) :
    Calls Try.prog 30 #[bv] w fun e w' => ∃ x, e = .returned x ∧ Sees w' .u8 x (pageL zs) ∧ Below w.heap.size w w' := by
  obtain ⟨i0, hi, hz0, hz1, hz2⟩ := info_parts Try.info5
  have HS := hide hs
  go_enter Try.func30, Try.ntmps30
  go_wp2_with (at_builtin; refine wpList_append_sees rfl _ _ 28 rfl w.heap.size 5 i0 (.int .u8 0) 1 Try.underlying28 hi hz0 hz1 hz2 rfl _ 0 [] rfl (World.ownsRow_nil _ _ _ _) .u8 _ zs rfl ?d0 ?d1 ?d2 ?d3 ?_)
  case d0 => exact unhide HS
  case d1 => unfold maxLen; omega
  case d2 => omega
  case d3 => exact Nat.le_refl _
  intro x w1 ho hg
  have hb1 : Below w.heap.size w w1 := (Below.refl _ _).grown hg (Nat.le_refl _) (fun k hk => by simp [Value.ownBlock] at hk)
  have ho : w1.ownsRow w.heap.size 5 1 x zs.length (ints .u8 zs) := by simpa using ho
  have HO := hide ho
  have HB := hide hb1
  clear ho hg hb1 hs
  go_wp2
  go_loopw [3] (fun v wr => ∃ k : Nat, zs.length + k ≤ 256 ∧ wr.ownsRow w.heap.size 5 1 v (zs.length + k) (ints .u8 (zs ++ List.replicate k 255)) ∧ Below w.heap.size w wr) (fun v _ => 256 - lenOf v)
  case atStart => exact ⟨0, by omega, by simpa using unhide HO, unhide HB⟩
  case round =>
    obtain ⟨k, hk, hown, hbl⟩ := hrel
    obtain ⟨ao, cp, rfl⟩ := own_shape hown
    have HO := hide hown
    have HBL := hide hbl
    by_cases hlt : zs.length + k < 256
    · clear hown hbl
      go_wp2_with (at_builtin; refine wpList_append_sees rfl _ _ 28 rfl w.heap.size 5 i0 (.int .u8 0) 1 Try.underlying28 hi hz0 hz1 hz2 rfl _ _ _ rfl (own_below (unhide HO) ((Below.refl _ _).alloc (Nat.le_refl _) _)) .u8 _ [255] rfl ?d0 ?d1 ?d2 ?d3 ?_)
      case d0 => exact sees_new wr .u8 [255] 5 1 rfl
      case d1 => unfold maxLen; simp; omega
      case d2 => simp; omega
      case d3 => exact Nat.le_trans (unhide HBL).size (by simp)
      intro x' w2 ho' hg'
      have ho2 : w2.ownsRow w.heap.size 5 1 x' (zs.length + (k + 1)) (ints .u8 (zs ++ List.replicate (k + 1) 255)) := by
        rw [rep_snoc, ← List.append_assoc, ints_append]; exact ho'
      have hb2 : Below w.heap.size w w2 := ((unhide HBL).alloc (unhide HBL).size _).grown hg' (Nat.le_trans (unhide HBL).size (by simp)) (own_block_le (unhide HO))
      obtain ⟨ao', cp', rfl⟩ := own_shape ho2
      have HO2 := hide ho2
      have HB2 := hide hb2
      clear ho' hg' ho2 hb2
      go_wp2
      go_roundw
      case rel => exact ⟨k + 1, by omega, unhide HO2, unhide HB2⟩
      case measure => simp [lenOf]; omega
    · obtain ⟨k', hk'⟩ : ∃ k', k' = 256 - zs.length := ⟨_, rfl⟩
      have : k = 256 - zs.length := by omega
      clear hown hbl
      go_wp2
      go_ret
      refine ⟨_, rfl, ?_, unhide HBL⟩
      have := (sees_of_own (unhide HO)).2
      unfold pageL
      rw [show 256 - zs.length = k by omega]
      exact this

end Go.Proofs.Yteehhbgjjamjiaa
