/- The document's own Unseal (package trivetref01). -/
import Derived.Test.YthdghnppledakaaR4
import Derived.Deep.RegionWith
namespace Go.Proofs.Ythdghnppledakaa
open Go.RowKit

/-- What comes of the check: b: it is another one. -/
def UPost (b : Bool) (K : Nat) (bs : List Int) (w : World) (e : Ending) (w' : World) : Prop :=
  ∃ x, (if b = true then e = .returned (.tuple #[.slice none 0 0, .int .i64 0, .int .i64 12]) else e = .returned (.tuple #[x, .int .i64 (K : Int), .int .i64 0]) ∧ Sees w' .u8 x bs) ∧ Below w.heap.size w w'

set_option maxHeartbeats 800000 in
/-- The part behind the tests: what is sealed, and its check. -/
theorem refUnseal_rest (ao : Option Addr) (cap k m : Nat) (zs : List Int) (w : World) (hs : Sees w .u8 (.slice ao zs.length cap) zs) (hby : Byt zs) (hm : zs.length ≤ 140737488351232) (hlc : zs.length ≤ cap) (hk : k + m + 8 ≤ zs.length) (hm1 : m ≤ 1048576)
    (HT : Hid (Calls Try.prog 10 #[.slice ao zs.length cap] w fun e w' => e = .returned (.tuple #[.int .i64 (m : Int), .int .i64 (k : Int), .int .i64 0]) ∧ w = w')) (b : Bool)
    (hb : (!((strOf (lowL 8 (chkF c0 ((zs.drop k).take m)))).toList == (strOf ((zs.drop (k + m)).take 8)).toList)) = b) :
    Calls Try.prog 26 #[.slice ao zs.length cap] w fun e w' => UPost b (k + m + 8) ((zs.drop k).take m) w e w' := by
  obtain ⟨i0, hi, hz0, hz1, hz2⟩ := info_parts Try.info5
  have hck : ¬ cap = k := by omega
  have hck2 : ¬ cap = k + m := by omega
  have hcut := (hs.upto.cut k m (by omega)).sees
  rw [if_neg hck] at hcut
  have hcut2 : Sees w .u8 (.slice (Option.map (·.add k) ao) (k + m - k) (cap - k)) ((zs.drop k).take m) := by rw [show k + m - k = m by omega]; exact hcut
  have htl := (hs.upto.cut (k + m) 8 (by omega)).sees
  rw [if_neg hck2] at htl
  have htl2 : Sees w .u8 (.slice (Option.map (·.add (k + m)) ao) (k + m + 8 - (k + m)) (cap - (k + m))) ((zs.drop (k + m)).take 8) := by rw [show k + m + 8 - (k + m) = 8 by omega]; exact htl
  have e1 : ((k : Int) + (m : Int)).toNat = k + m := by omega
  have e2 : ((k : Int) + (m : Int) + 8).toNat = k + m + 8 := by omega
  have htl3 : Sees w .u8 (.slice (Option.map (fun x => x.add ((k : Int) + (m : Int)).toNat) ao) (((k : Int) + (m : Int) + 8).toNat - ((k : Int) + (m : Int)).toNat) (cap - ((k : Int) + (m : Int)).toNat)) ((zs.drop (k + m)).take 8) := by rw [e1, e2]; exact htl2
  have hlen : ((zs.drop k).take m).length = m := by simp; omega
  have hb1 : Byt ((zs.drop k).take m) := (hby.drop _).take _
  have hb2 : Byt ((zs.drop (k + m)).take 8) := (hby.drop _).take _
  have HCV := hide (fun w' (h : Below w.heap.size w w') => run_conv_sees (P := Try.prog) w' 22 9 5 _ _ Try.underlying22 Try.underlying5 Try.underlying9 (htl3.below h) hb2)
  generalize (zs.drop k).take m = bs at *
  generalize (zs.drop (k + m)).take 8 = ts at *
  have HCH := hide (fun (v : Value) w' (h : Sees w' .u8 v bs) => refCheck_any v bs w' h hb1 (by omega))
  obtain ⟨hc1, hc2⟩ := chkF_bounds c0 bs c0_bounds.1 c0_bounds.2
  generalize chkF c0 bs = c at *
  have HBB := hide hb
  clear hb
  have HLEN := hide hlen
  clear hcut htl htl2 htl3 e1 e2 hs hlen
  have hI1 : (k : Int) + (m : Int) + 8 ≤ (cap : Int) := by omega
  have hI0 : (0 : Int) ≤ (k : Int) + (m : Int) := by omega
  have hI2 : (k : Int) + (m : Int) ≤ (k : Int) + (m : Int) + 8 := by omega
  have hm2 : (m : Int) ≤ 1048576 := by omega
  have hm0 : (0 : Int) ≤ (m : Int) := by omega
  have hmk : (m : Int) + 8 ≤ (zs.length : Int) - (k : Int) := by omega
  go_enter Try.func26, Try.ntmps26
  go_wp2_with (first
    | (go_at_call 10; refine (unhide HT).mono ?_; rintro e w1 ⟨rfl, rfl⟩)
    | (at_builtin; refine wpList_append_sees rfl _ _ 22 rfl w.heap.size 5 i0 (.int .u8 0) 1 Try.underlying22 hi hz0 hz1 hz2 rfl _ _ _ rfl (World.ownsRow_nil _ _ _ _) .u8 _ bs rfl hcut2 ?d1 ?d2 ?d3 ?_))
  case d1 => rw [HLEN.out]; unfold maxLen; omega
  case d2 => rw [HLEN.out]; omega
  case d3 => omega
  intro v2 w2 ho2 hg2
  have hbw2 : Below w.heap.size w w2 := (Below.refl _ _).grown hg2 (Nat.le_refl _) (fun k h => by cases h)
  have ho3 : w2.ownsRow w.heap.size 5 1 v2 bs.length (ints .u8 bs) := by simpa using ho2
  have hs2 := (sees_of_own ho3).2
  have hcvA := unhide HCV w2.drew hbw2.drew
  clear ho2 ho3 hg2 hcut2
  have hwr : IntKind.i64.wrap ((k : Int) + (m : Int) + 8) = (k : Int) + (m : Int) + 8 := by rw [IntKind.wrap_i64]; omega
  go_wp2
  go_region_with (first
    | (go_at_call 28; refine (unhide HCH v2 _ (by exact hs2.keep fun _ _ h => h)).mono ?_; rintro e w3 ⟨rfl, rfl⟩)
    | (go_at_call 43; refine (refLow_any c _ hc1 hc2).mono ?_; rintro e w4 ⟨x4, rfl, ho4, hb4⟩; have hbw4 : Below w.heap.size w w4 := hbw2.drew.trans (hb4.mono hbw2.size); have hcvB := unhide HCV w4 hbw4; have hcvL := run_conv_sees (P := Try.prog) w4 22 9 5 x4 _ Try.underlying22 Try.underlying5 Try.underlying9 (sees_of_own ho4).2 (lowL_byte 8 c)))
  all_goals rw [HBB.out]
  all_goals clear hcvA hcvB hcvL HCV HCH hwr
  all_goals cases b
  all_goals go_wp2
  all_goals go_ret3
  all_goals unfold UPost
  all_goals first
    | exact ⟨v2, ⟨congrArg (fun z => Ending.returned (.tuple #[v2, .int .i64 z, .int .i64 0])) (show (k : Int) + (m : Int) + 8 = ((k + m + 8 : Nat) : Int) by omega), hs2.below (by exact (Below.refl _ _).drew.trans hb4)⟩, hbw4⟩
    | exact ⟨v2, rfl, hbw4⟩

end Go.Proofs.Ythdghnppledakaa
