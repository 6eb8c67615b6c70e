/- FormNums' walk. -/
import Derived.Test.YthdghnppledakaaWB
import Derived.Test.YthdghnppledakaaR0
import Derived.Test.YthdghnppledakaaR1
namespace Go.Proofs.Ythdghnppledakaa
open Go.RowKit

theorem equal_same (av bv : Value) (xs : List Int) (w : World) (ha : Sees w .u8 av xs) (hb : Sees w .u8 bv xs) (hx : Byt xs) :
    Calls Try.prog 12 #[av, bv] w fun e w' => e = .returned (.bool true) ∧ w = w' := by
  refine (equal_any av bv xs xs w ha hb hx hx).mono ?_
  rintro e w' ⟨rfl, rfl⟩
  exact ⟨by simp, rfl⟩

theorem putL_byte (l : List Int) : Byt (putL l) := by
  induction l with
  | nil => intro b hb; cases hb
  | cons x r ih => exact Byt.append (numB_byte x) ih

set_option maxHeartbeats 1000000 in
theorem formNums_walk (bv lv : Value) (zs l : List Int) (w : World) (hs : Sees w .u8 bv zs) (hls : Sees w .i64 lv l) (hby : Byt zs) (hb : I64 l) (hz : zs.length ≤ 1048576) (hl : l.length ≤ 1048576) :
    Calls Try.prog 3 #[bv, lv] w fun e w' => e = .returned (.bool true) ∧ Below w.heap.size w w' := by
  have h9 := sizeL_le l
  have hbd : Byt (zs ++ putL l) := hby.append (putL_byte l)
  have HT := hide (takeNum_any bv zs w hs hby (by omega))
  have HR := hide (fun w' (h : Below w.heap.size w w') => refTake_any bv zs w' (hs.below h) hby (by omega))
  have HN := hide (fun w' (h : Below w.heap.size w w') => num_any bv lv zs l w' (hs.below h) (hls.below h) (by omega) hb (by omega))
  have HP := hide (fun w' (h : Below w.heap.size w w') => refPut_any bv lv zs l w' (hs.below h) (hls.below h) (by omega) hb (by omega))
  have HP0 := hide (fun w' (h : Below w.heap.size w w') => refPut_any (.slice none 0 0) lv [] l w' (Sees.nil _ _) (hls.below h) (by omega) hb (by simp; omega))
  have HS := hide (fun w' (h : Below w.heap.size w w') => size_sees lv l w' (hls.below h) (by omega) hb)
  clear hb
  generalize tn zs = t at *
  obtain ⟨n, k, er⟩ := t
  obtain ⟨ao, cap, rfl, hlc, hnil, hc⟩ := hs
  clear hc hls
  go_enter Try.func3, Try.ntmps3
  go_wp2_with (go_at_call 9; refine (unhide HT).mono ?_; rintro e w1 ⟨rfl, hb1⟩)
  go_wp2_with (go_at_call 10; refine (unhide HR w1 hb1).mono ?_; rintro e w1' ⟨rfl, rfl⟩)
  go_wp2_with (go_at_call 11; refine (live_any w1).mono ?_; rintro e w2 ⟨rfl, hb2'⟩)
  have hb2 : Below w.heap.size w w2 := hb1.trans (hb2'.mono hb1.size)
  go_wp2_with (go_at_call 13; refine (unhide HN w2 hb2).mono ?_; rintro e w3 ⟨x, rfl, hx, hb3'⟩)
  have hb3 : Below w.heap.size w w3 := hb2.trans (hb3'.mono hb2.size)
  go_wp2_with (go_at_call 14; refine (unhide HP w3 hb3).mono ?_; rintro e w4 ⟨y, rfl, hy, hb4'⟩)
  have hb4 : Below w.heap.size w w4 := hb3.trans (hb4'.mono hb3.size)
  have HE := hide (equal_same x y _ w4 ((sees_of_own hx).2.below hb4') (sees_of_own hy).2 hbd)
  clear hx hy
  go_wp2_with (first
    | (go_at_call 12; refine (unhide HE).mono ?_; rintro e w4' ⟨rfl, rfl⟩)
    | (go_at_call 15; refine (unhide HS w4 hb4).mono ?_; rintro e w4' ⟨rfl, rfl⟩)
    | (go_at_call 14; refine (unhide HP0 w4 hb4).mono ?_; rintro e w5 ⟨z, rfl, hzo, hb5'⟩; obtain ⟨ao5, cap5, rfl⟩ := own_shape hzo))
  go_ret
  exact ⟨rfl, hb4.trans (hb5'.mono hb4.size)⟩

end Go.Proofs.Ythdghnppledakaa
