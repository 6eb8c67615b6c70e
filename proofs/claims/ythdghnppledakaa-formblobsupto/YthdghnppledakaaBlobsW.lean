/- FormBlobs' walk. -/
import Derived.Test.YthdghnppledakaaR3
import Derived.Test.YthdghnppledakaaNumsW
namespace Go.Proofs.Ythdghnppledakaa
open Go.RowKit

theorem tb_byte (l : List Int) (hl : Byt l) : Byt (tb l).1 := by
  unfold tb
  by_cases c1 : (tn l).2.2 ≠ 0
  · rw [if_pos c1]; intro b hb; cases hb
  rw [if_neg c1]
  by_cases c2 : (tn l).1 < 0
  · rw [if_pos c2]; intro b hb; cases hb
  rw [if_neg c2]
  by_cases c3 : (l.length : Int) - (tn l).2.1 < (tn l).1
  · rw [if_pos c3]; intro b hb; cases hb
  rw [if_neg c3]
  exact (hl.drop _).take _

theorem nrun_len (l : List Int) (j : Nat) : (nrun l j).1.length ≤ l.length := by
  have h := nrun_le l j
  by_cases e : (nrun l j).2.2 = 0
  · have := h.2.1 e; omega
  · rw [(h.2.2 e).1]; exact Nat.zero_le _

set_option maxHeartbeats 1600000 in
theorem formBlobs_walk (bv dv : Value) (zs ds : List Int) (n : Int) (w : World) (hs : Sees w .u8 bv zs) (hd : Sees w .u8 dv ds) (hby : Byt zs) (hdy : Byt ds) (hz : zs.length ≤ 1048576) (hdl : ds.length ≤ 1048576) (hn1 : n ≤ 9223372036854775807) :
    Calls Try.prog 4 #[bv, dv, .int .i64 n] w fun e w' => e = .returned (.bool true) ∧ Below w.heap.size w w' := by
  have h9 := sizeL_le [(ds.length : Int)]
  have HB := hide (takeBlob_any bv zs w hs hby (by omega))
  have HRB := hide (fun w' (h : Below w.heap.size w w') => refTakeBlob_any bv zs w' (hs.below h) hby (by omega))
  have HN := hide (fun w' (h : Below w.heap.size w w') => nums_any bv zs n w' (hs.below h) hby (by omega) hn1)
  have HRN := hide (fun w' (h : Below w.heap.size w w') => refNums_any bv zs n w' (hs.below h) hby (by omega) hn1)
  have HP := hide (fun w' (h : Below w.heap.size w w') => blob_any bv dv zs ds w' (hs.below h) (hd.below h) (by omega))
  have HRP := hide (fun w' (h : Below w.heap.size w w') => refBlob_any bv dv zs ds w' (hs.below h) (hd.below h) (by omega))
  have hbd : Byt (zs ++ putL [(ds.length : Int)] ++ ds) := (hby.append (putL_byte _)).append hdy
  have htb := tb_byte zs hby
  have hnl := nrun_len zs n.toNat
  have hrb : Byt (zs.drop (nrun zs n.toNat).2.1) := hby.drop _
  clear hs hd h9
  generalize tb zs = t at *
  generalize nrun zs n.toNat = s at *
  obtain ⟨bs, k, er⟩ := t
  obtain ⟨ms, k2, er2⟩ := s
  dsimp only at htb hnl hrb
  generalize zs ++ putL [(ds.length : Int)] ++ ds = A at *
  generalize zs.length + sizeL [(ds.length : Int)] + ds.length = Al at *
  generalize hR : zs.drop k2 = R at *
  clear hR
  go_enter Try.func4, Try.ntmps4
  go_wp2_with (go_at_call 16; refine (unhide HB).mono ?_; rintro e w1 ⟨x1, rfl, hx1, hb1⟩)
  go_wp2_with (go_at_call 17; refine (unhide HRB w1 hb1).mono ?_; rintro e w2 ⟨x2, rfl, hx2, hb2'⟩)
  have hb2 : Below w.heap.size w w2 := hb1.trans (hb2'.mono hb1.size)
  have hx1 := (sees_of_own hx1).2.below hb2'
  go_wp2_with (go_at_call 18; refine (unhide HN w2 hb2).mono ?_; rintro e w3 ⟨x3, y3, rfl, hx3, hy3, hb3'⟩)
  have hb3 : Below w.heap.size w w3 := hb2.trans (hb3'.mono hb2.size)
  have hx1 := hx1.below hb3'
  have hx2 := hx2.below hb3'
  go_wp2_with (go_at_call 19; refine (unhide HRN w3 hb3).mono ?_; rintro e w4 ⟨x4, y4, rfl, hx4, hy4, hb4'⟩)
  have hb4 : Below w.heap.size w w4 := hb3.trans (hb4'.mono hb3.size)
  have hx1 := hx1.below hb4'
  have hx2 := hx2.below hb4'
  have hx3 := hx3.below hb4'
  have hy3 := hy3.below hb4'
  go_wp2_with (go_at_call 11; refine (live_any w4).mono ?_; rintro e w5 ⟨rfl, hb5'⟩)
  have hb5 : Below w.heap.size w w5 := hb4.trans (hb5'.mono hb4.size)
  go_wp2_with (go_at_call 20; refine (unhide HP w5 hb5).mono ?_; rintro e w6 ⟨x6, rfl, hx6, hb6'⟩)
  have hb6 : Below w.heap.size w w6 := hb5.trans (hb6'.mono hb5.size)
  go_wp2_with (go_at_call 21; refine (unhide HRP w6 hb6).mono ?_; rintro e w7 ⟨x7, rfl, hx7, hb7'⟩)
  have hb7 : Below w.heap.size w w7 := hb6.trans (hb7'.mono hb6.size)
  have hb47 : Below w4.heap.size w4 w7 := (hb5'.trans (hb6'.mono hb5'.size)).trans (hb7'.mono (Nat.le_trans hb5'.size hb6'.size))
  have HE1 := hide (equal_same x6 x7 A w7 ((sees_of_own hx6).2.below hb7') (sees_of_own hx7).2 hbd)
  have HE2 := hide (equal_same x1 x2 bs w7 (hx1.below hb47) (hx2.below hb47) htb)
  have HE3 := hide (sliceEq_same x3 x4 ms w7 (hx3.below hb47) (hx4.below hb47) (by omega))
  have HE4 := hide (fun j => equal_same y3 y4 R (w7.drewN j) ((hy3.below hb47).keep fun _ _ h => h) ((hy4.below hb47).keep fun _ _ h => h) hrb)
  clear hx1 hx2 hx3 hx4 hy3 hy4 hx6 hx7 HB HRB HN HRN HP HRP
  refine (unhide HE1).mono ?_
  rintro e w7' ⟨rfl, rfl⟩
  go_wp2_with fail
  refine (unhide HE2).mono ?_
  rintro e w7' ⟨rfl, rfl⟩
  go_wp2_with (go_at_call 22; refine (unhide HE3).mono ?_; rintro e w8 ⟨rfl, j8, rfl⟩)
  refine (unhide HE4 j8).mono ?_
  rintro e w9 ⟨rfl, rfl⟩
  go_wp2
  go_ret
  exact ⟨rfl, below_drewN hb7 j8⟩

end Go.Proofs.Ythdghnppledakaa
