/- FormSeals' walk. -/
import Derived.Test.YthdghnppledakaaR6
import Derived.Test.YthdghnppledakaaNumsW
namespace Go.Proofs.Ythdghnppledakaa
open Go.RowKit

theorem sealB_byte (zs : List Int) (h : Byt zs) : Byt (sealB zs) := ((putL_byte _).append h).append (lowL_byte 8 _)

theorem flat_len (ls : List (List Int)) (k : Nat) : (ls.take k).flatten.length ≤ ls.flatten.length := by
  have h : ls.flatten = (ls.take k).flatten ++ (ls.drop k).flatten := by rw [← List.flatten_append, List.take_append_drop]
  rw [h, List.length_append]; omega

set_option maxHeartbeats 1600000 in
theorem formSeals_walk (bv lv : Value) (zs : List Int) (vs : List Value) (ls : List (List Int)) (w : World) (hs : Sees w .u8 bv zs) (hv : SeesV w lv vs ls) (hby : Byt zs) (hfb : Byt ls.flatten) (hz : zs.length ≤ 1048576) (hvl : vs.length ≤ 1048576) (hfl : ls.flatten.length ≤ 1048576) :
    Calls Try.prog 5 #[bv, lv] w fun e w' => e = .returned (.bool true) ∧ Below w.heap.size w w' := by
  obtain ⟨i0, hi, hz0, hz1, hz2⟩ := info_parts Try.info5
  have HS := hide (seal_ok bv zs w hs hby hz)
  have HRS := hide (fun w' (h : Below w.heap.size w w') => refSeal_ok bv zs w' (hs.below h) hby hz)
  have HU := hide (fun w' (h : Below w.heap.size w w') => unseal_any bv zs w' (hs.below h) hby (by omega))
  have HRU := hide (fun w' (h : Below w.heap.size w w') => refUnseal_any bv zs w' (hs.below h) hby (by omega))
  have HC := hide (fun w' (h : Below w.heap.size w w') => check_any lv vs ls w' (hv.below h) (by omega))
  have hsb := sealB_byte zs hby
  have htu := tu_byte zs hby
  have HV := hide hv
  obtain ⟨⟨aol, capl, rfl, hlcl, hnill, hcl⟩, hlsl, hall⟩ := hv
  have HLS := hide hlsl
  clear hs hlsl
  generalize tu zs = t at *
  obtain ⟨us, k, er⟩ := t
  dsimp only at htu
  generalize sealB zs = sb at *
  go_enter Try.func5, Try.ntmps5
  go_wp2_with (go_at_call 23; refine (unhide HS).mono ?_; rintro e w1 ⟨x1, rfl, hx1, hb1⟩)
  go_wp2_with (go_at_call 24; refine (unhide HRS w1 hb1).mono ?_; rintro e w2 ⟨x2, rfl, hx2, hb2'⟩)
  have hb2 : Below w.heap.size w w2 := hb1.trans (hb2'.mono hb1.size)
  have hx1 := (sees_of_own hx1).2.below hb2'
  have hx2 := (sees_of_own hx2).2
  go_wp2_with (go_at_call 25; refine (unhide HU w2 hb2).mono ?_; rintro e w3 ⟨x3, rfl, hx3, hb3'⟩)
  have hb3 : Below w.heap.size w w3 := hb2.trans (hb3'.mono hb2.size)
  have hx1 := hx1.below hb3'
  have hx2 := hx2.below hb3'
  have hx3 := (sees_of_own hx3).2
  go_wp2_with (go_at_call 26; refine (unhide HRU w3 hb3).mono ?_; rintro e w4 ⟨x4, rfl, hx4, hb4'⟩)
  have hb4 : Below w.heap.size w w4 := hb3.trans (hb4'.mono hb3.size)
  have HX := hide (fun w' (h : Below w4.heap.size w4 w') => And.intro (hx1.below (hb4'.trans (h.mono hb4'.size))) (And.intro (hx2.below (hb4'.trans (h.mono hb4'.size))) (And.intro (hx3.below (hb4'.trans (h.mono hb4'.size))) (hx4.below h))))
  clear hx1 hx2 hx3 hx4 HS HRS HU HRU hb1 hb2 hb3 hb2' hb3' hb4'
  go_loopw [15, 42] (fun va vi wr => ∃ j : Nat, j ≤ vs.length ∧ vi = .int .i64 j ∧ wr.ownsRow w4.heap.size 5 1 va (ls.take j).flatten.length (ints .u8 (ls.take j).flatten) ∧ Below w4.heap.size w4 wr)
    (fun _ vi _ => vs.length - (intOf vi).toNat)
  case atStart => exact ⟨0, Nat.zero_le _, rfl, World.ownsRow_nil _ _ _ _, Below.refl _ _⟩
  case round =>
    obtain ⟨j, hj, rfl, hownr, hnx⟩ := hrel
    have hsz := hnx.size
    have hbwr : Below w.heap.size w wr := hb4.trans (hnx.mono hb4.size)
    by_cases hlt : j < vs.length
    · cases aol with
      | none => have := hnill rfl; omega
      | some a =>
        have hcj0 := hcl a rfl j hlt
        have hcj : wr.cell? (a.add j) = some (vs.getD j .nilIface) := (hbwr.cell (World.block_lt_of_cell? w _ hcj0)).trans hcj0
        have hsj := (hall j hlt).1.below hbwr
        have hfs := flat_snoc ls j (by rw [HLS.out]; exact hlt)
        have hfl2 := flat_len ls (j + 1)
        have HFS := hide hfs
        rw [hfs, List.length_append] at hfl2
        clear hcl hall hnill hcj0 hfs
        generalize ls.getD j [] = ps at *
        generalize vs.getD j .nilIface = pv at *
        go_wp2_with (at_builtin; refine wpList_append_sees rfl _ _ 22 rfl w4.heap.size 5 i0 (.int .u8 0) 1 Try.underlying22 hi hz0 hz1 hz2 rfl _ _ _ rfl hownr .u8 _ ps rfl hsj ?d1 ?d2 ?d3 ?_)
        case d1 => unfold maxLen; omega
        case d2 => omega
        case d3 => exact hsz
        intro v2 w2 ho2 hg2
        have ho3 : w2.ownsRow w4.heap.size 5 1 v2 (ls.take (j + 1)).flatten.length (ints .u8 (ls.take (j + 1)).flatten) := by
          rw [HFS.out, List.length_append, ints_append]; simpa using ho2
        have hbn : Below w4.heap.size w4 w2 := hnx.grown hg2 hsz (own_block_le hownr)
        clear ho2 hg2 hownr hsj hcj
        go_wp2
        go_roundw
        case rel => exact ⟨j + 1, by omega, by go_num, ho3, hbn⟩
        case measure => simp [intOf]; omega
    · obtain rfl : j = vs.length := by omega
      rw [List.take_of_length_le (by rw [HLS.out]; omega)] at hownr
      clear hcl hall hnill
      have hsA := (sees_of_own hownr).2
      go_wp2_with (go_at_call 11; refine (live_any wr).mono ?_; rintro e w5 ⟨rfl, hb5'⟩)
      have hb5 : Below w.heap.size w w5 := hbwr.trans (hb5'.mono hbwr.size)
      have hb45 : Below w4.heap.size w4 w5 := hnx.trans (hb5'.mono hsz)
      obtain ⟨g1, g2, g3, g4⟩ := unhide HX w5 hb45
      have HE1 := hide (equal_same x1 x2 sb w5 g1 g2 hsb)
      have HE2 := hide (equal_same x3 x4 us w5 g3 g4 htu)
      have HC5 := hide (unhide HC w5 hb5)
      have HR5 := hide (refCheck_any _ ls.flatten w5 (hsA.below hb5') hfb (by omega))
      clear g1 g2 g3 g4 HX HC hownr hsA
      refine (unhide HE1).mono ?_
      rintro e w5' ⟨rfl, rfl⟩
      go_wp2_with fail
      refine (unhide HE2).mono ?_
      rintro e w5' ⟨rfl, rfl⟩
      go_wp2_with (first
        | (go_at_call 27; refine (unhide HC5).mono ?_; rintro e w5' ⟨rfl, rfl⟩)
        | (go_at_call 28; refine (unhide HR5).mono ?_; rintro e w5' ⟨rfl, rfl⟩))
      go_ret
      exact ⟨rfl, hb5⟩

end Go.Proofs.Ythdghnppledakaa
