/- Contracts of Seal and of the reader's sealed bytes. -/
import Derived.Test.YthdghnppledakabWA
import Derived.Test.YthdghnppledakabWF
import Derived.Test.YthdghnppledakabMem2
namespace Go.Proofs.Ythdghnppledakab
open Go.RowKit

/-- Sealed bytes. -/
def sealB (zs : List Int) : List Int := putL [(zs.length : Int)] ++ zs ++ lowL 8 (chkF c0 zs)

set_option maxHeartbeats 400000 in
theorem seal_long (ao : Option Addr) (len cap : Nat) (w : World) (h : 1048576 < len) (hm : len ≤ 140737488355328) :
    Calls Try.prog 8 #[.slice ao len cap] w fun e w' => e = .returned (.tuple #[.slice none 0 0, .int .i64 3]) ∧ w = w' := by
  go_enter Try.func8, Try.ntmps8
  go_wp2
  go_ret2
  exact ⟨rfl, rfl⟩

set_option maxHeartbeats 800000 in
theorem seal_ok (bv : Value) (zs : List Int) (w : World) (hs : Sees w .u8 bv zs) (hby : Byt zs) (hm : zs.length ≤ 1048576) :
    Calls Try.prog 8 #[bv] w fun e w' => ∃ x, e = .returned (.tuple #[x, .int .i64 0]) ∧ w'.ownsRow w.heap.size 5 1 x (sealB zs).length (ints .u8 (sealB zs)) ∧ Below w.heap.size w w' := by
  have HB := hide (blob_any (.slice none 0 0) bv [] zs w (Sees.nil _ _) hs (by simp; omega))
  have HC := hide (fun w' (h : Below w.heap.size w w') => check_one w' bv zs (hs.below h) hby (by omega))
  obtain ⟨hc1, hc2⟩ := chkF_bounds c0 zs c0_bounds.1 c0_bounds.2
  have h9 := sizeL_le [(zs.length : Int)]
  have hsl : (sealB zs).length = sizeL [(zs.length : Int)] + zs.length + 8 := by simp only [sealB, List.length_append, putL_length, lowL_length]
  have HSL := hide hsl
  clear hsl
  obtain ⟨ao, cap, rfl, hlc, hnil, hc⟩ := hs
  clear hc
  have HS : Hid (sealB zs = putL [(zs.length : Int)] ++ zs ++ lowL 8 (chkF c0 zs)) := rfl
  generalize chkF c0 zs = c at *
  go_enter Try.func8, Try.ntmps8
  go_wp2_with (go_at_call 6; refine (unhide HB).mono ?_; rintro e w1 ⟨x1, rfl, ho1, hb1⟩)
  have ho1' : w1.ownsRow w.heap.size 5 1 x1 (sizeL [(zs.length : Int)] + zs.length) (ints .u8 (putL [(zs.length : Int)] ++ zs)) := by simpa using ho1
  clear ho1
  go_wp2_with (go_at_call 18; refine (unhide HC w1 hb1).mono ?_; rintro e w1' ⟨rfl, rfl⟩)
  have hsz := hb1.size
  simp only [List.length_singleton] at h9
  refine (putLow_any w.heap.size x1 _ _ c 8 _ hc1 (by omega) (by omega) (ho1'.alloc _) (by simp; omega)).mono ?_
  rintro e w2 ⟨x2, rfl, ho2, hk2⟩
  go_wp2
  go_ret2
  exact ⟨x2, rfl, by rw [HSL.out, HS.out]; exact ho2, (hb1.alloc hsz _).trans hk2.below⟩

end Go.Proofs.Ythdghnppledakab
