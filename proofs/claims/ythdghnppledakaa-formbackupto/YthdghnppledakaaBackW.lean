/- FormBack's walk. -/
import Derived.Test.YthdghnppledakaaWB
import Derived.Test.YthdghnppledakaaWE
import Derived.Test.YthdghnppledakaaBackM
import Derived.Test.YthdghnppledakaaNumsW
namespace Go.Proofs.Ythdghnppledakaa
open Go.RowKit

set_option maxHeartbeats 1000000 in
theorem formBack_walk (lv dv bv : Value) (l d b : List Int) (w : World) (hls : Sees w .i64 lv l) (hds : Sees w .u8 dv d) (hbs : Sees w .u8 bv b) (hl64 : I64 l) (hd : Byt d) (hb : Byt b)
    (hl : l.length ≤ 1048576) (hdl : d.length ≤ 1048576) (hbl : b.length ≤ 1048576) (hsum : l.length + d.length + b.length ≤ 1048576) :
    Calls Try.prog 6 #[lv, dv, bv] w fun e w' => e = .returned (.bool true) ∧ Below w.heap.size w w' := by
  obtain ⟨i0, hi, hz0, hz1, hz2⟩ := info_parts Try.info5
  have h9 := sizeL_le l
  have h9d := sizeL_le [(d.length : Int)]
  simp only [List.length_singleton] at h9d
  have hpl := putL_length l
  have hpd := putL_length [(d.length : Int)]
  have hrun := nrun_put l (putL [(d.length : Int)] ++ d ++ b) hl64 l.length (Nat.le_refl _)
  rw [List.take_length] at hrun
  have htb := tb_blob d b (by omega)
  -- all bytes
  obtain ⟨A, hA⟩ : ∃ A, putL l ++ putL [(d.length : Int)] ++ d ++ b = A := ⟨_, rfl⟩
  have hA2 : putL l ++ (putL [(d.length : Int)] ++ d ++ b) = A := by rw [← hA]; simp
  rw [hA2] at hrun
  have hAl : A.length = sizeL l + sizeL [(d.length : Int)] + d.length + b.length := by rw [← hA]; simp [hpl, hpd]; omega
  have hAb : Byt A := by rw [← hA]; exact (((putL_byte l).append (putL_byte _)).append hd).append hb
  have hAd : A.drop (sizeL l) = putL [(d.length : Int)] ++ d ++ b := by
    rw [← hA2, List.drop_append_of_le_length (by omega), List.drop_of_length_le (by omega)]; rfl
  have hRb : Byt (putL [(d.length : Int)] ++ d ++ b) := ((putL_byte _).append hd).append hb
  obtain ⟨B, hB⟩ : ∃ B, putL [(d.length : Int)] ++ d ++ b = B := ⟨_, rfl⟩
  rw [hB] at htb hAd hRb
  have hBl : B.length = sizeL [(d.length : Int)] + d.length + b.length := by rw [← hB]; simp [hpd]; omega
  have hBd : B.drop (sizeL [(d.length : Int)] + d.length) = b := by
    rw [← hB, List.drop_append_of_le_length (by simp [hpd]), List.drop_of_length_le (by simp [hpd])]; rfl
  obtain ⟨kk, hkk⟩ : ∃ kk, sizeL [(d.length : Int)] + d.length = kk := ⟨_, rfl⟩
  rw [hkk] at htb hBd
  have hkB : kk ≤ B.length := by omega
  have hBk : B.length - kk = b.length := by omega
  have HN := hide (num_any (.slice none 0 0) lv [] l w (Sees.nil _ _) hls (by omega) hl64 (by simp; omega))
  have HBl := hide (fun (xv : Value) w' (hx : Sees w' .u8 xv (putL l)) (h : Below w.heap.size w w') => blob_any xv dv (putL l) d w' hx (hds.below h) (by rw [hpl]; omega))
  have HNs := hide (fun (xv : Value) w' (hx : Sees w' .u8 xv A) => nums_any xv A (l.length : Int) w' hx hAb (by omega) (by omega))
  have HT := hide (fun (xv : Value) w' (hx : Sees w' .u8 xv B) => takeBlob_any xv B w' hx hRb (by omega))
  rw [Int.toNat_natCast] at HNs
  simp only [hrun, hAd] at HNs
  simp only [htb] at HT
  obtain ⟨aol, capl, rfl, hlcl, hnill, hcl⟩ := hls
  have hls : Sees w .i64 (.slice aol l.length capl) l := ⟨aol, capl, rfl, hlcl, hnill, hcl⟩
  clear hcl hrun htb hnill
  have HAx := hide hA
  have HBd := hide hBd
  have HAl := hide hAl
  have HBl2 := hide hBl
  have HPL := hide hpl
  have HBk := hide hBk
  clear hA hA2 hAl hAd hBd hB hBl hpl hpd hkk hBk
  go_enter Try.func6, Try.ntmps6
  go_wp2_with (go_at_call 13; refine (unhide HN).mono ?_; rintro e w1 ⟨x1, rfl, ho1, hb1⟩)
  have hs1 : Sees w1 .u8 x1 (putL l) := by have := (sees_of_own ho1).2; simpa using this
  go_wp2_with (first
    | (go_at_call 20; refine (unhide HBl x1 w1 hs1 hb1).mono ?_; rintro e w2 ⟨x2, rfl, ho2, hb2'⟩)
    | (at_builtin; refine wpList_append_sees rfl _ _ 22 rfl w1.heap.size 5 i0 (.int .u8 0) 1 Try.underlying22 hi hz0 hz1 hz2 rfl _ _ _ rfl ho2 .u8 _ _ rfl (hbs.below (hb1.trans (hb2'.mono hb1.size))) ?d1 ?d2 ?d3 ?_))
  case d1 => rw [HPL.out]; unfold maxLen; omega
  case d2 => rw [HPL.out]; omega
  case d3 => exact hb2'.size
  intro x3 w3 ho3 hg3
  have hb2 : Below w.heap.size w w2 := hb1.trans (hb2'.mono hb1.size)
  have hb3 : Below w.heap.size w w3 := hb2.grown hg3 hb2.size (own_block_le (own_mono ho2 hb1.size))
  have hs3 : Sees w3 .u8 x3 A := by
    have ho3' : w3.ownsRow w1.heap.size 5 1 x3 ((putL l).length + sizeL [(d.length : Int)] + d.length + b.length) (ints .u8 A) := by
      rw [← HAx.out]; simpa [ints] using ho3
    exact (sees_of_own ho3').2
  clear ho3 hg3 ho2 ho1 hs1 HN HBl
  go_wp2_with (go_at_call 18; refine (unhide HNs x3 w3 hs3).mono ?_; rintro e w4 ⟨x4, y4, rfl, hx4, hy4, hb4'⟩)
  have hb4 : Below w.heap.size w w4 := hb3.trans (hb4'.mono hb3.size)
  clear HNs hs3
  go_wp2_with (go_at_call 11; refine (live_any w4).mono ?_; rintro e w5 ⟨rfl, hb5'⟩)
  have hb5 : Below w.heap.size w w5 := hb4.trans (hb5'.mono hb4.size)
  have HEq := hide (sliceEq_same x4 _ l w5 (hx4.below hb5') (hls.below hb5) (by omega))
  have hy5 := hy4.below hb5'
  clear hx4 hy4 hls
  go_wp2_with (go_at_call 22; refine (unhide HEq).mono ?_; rintro e w6' ⟨rfl, j6, rfl⟩)
  have hb56 : Below w5.heap.size w5 (w5.drewN j6) := below_drewN (Below.refl _ _) j6
  have hb6 : Below w.heap.size w (w5.drewN j6) := below_drewN hb5 j6
  have hy6 := hy5.below hb56
  clear hy5 HEq hb56
  generalize w5.drewN j6 = w6 at *
  obtain ⟨aoy, capy, rfl, hlcy, hnily, hcy⟩ := hy6
  have hy6 : Sees w6 .u8 (.slice aoy B.length capy) B := ⟨aoy, capy, rfl, hlcy, hnily, hcy⟩
  clear hcy
  have HT6 := hide (unhide HT _ w6 hy6)
  clear HT
  have hcut := fun w' (h : Below w6.heap.size w6 w') => (hy6.below h).drop kk hkB
  rw [HBd.out] at hcut
  have HC := hide hcut
  clear hcut hy6
  have HQ1 := hide (fun (xv : Value) w' (hx : Sees w' .u8 xv d) (h : Below w.heap.size w w') => equal_same xv dv d w' hx (hds.below h) hd)
  have HQ2 := hide (fun (xv : Value) w' (hx : Sees w' .u8 xv b) (h : Below w.heap.size w w') => equal_same xv bv b w' hx (hbs.below h) hb)
  clear hds hbs
  by_cases hck : capy = kk
  · have hbl0 : b.length = 0 := by have := HBk.out; omega
    have hb0 : b = [] := List.length_eq_zero_iff.1 hbl0
    subst hck
    clear HC hbl0
    go_wp2_with (go_at_call 16; refine (unhide HT6).mono ?_; rintro e w7 ⟨x7, rfl, ho7, hb7'⟩)
    have hb7 : Below w.heap.size w w7 := hb6.trans (hb7'.mono hb6.size)
    have hx7 := (sees_of_own ho7).2
    refine (unhide HQ1 x7 w7 hx7 hb7).mono ?_
    rintro e w7' ⟨rfl, rfl⟩
    go_wp2_with fail
    refine (unhide HQ2 _ w7 (by rw [hb0]; exact ⟨aoy, 0, rfl, Nat.le_refl _, fun _ => rfl, fun a _ t ht => by simp at ht⟩) hb7).mono ?_
    rintro e w7' ⟨rfl, rfl⟩
    go_wp2
    go_ret
    exact ⟨rfl, hb7⟩
  · rw [if_neg hck] at HC
    go_wp2_with (go_at_call 16; refine (unhide HT6).mono ?_; rintro e w7 ⟨x7, rfl, ho7, hb7'⟩)
    have hb7 : Below w.heap.size w w7 := hb6.trans (hb7'.mono hb6.size)
    have hx7 := (sees_of_own ho7).2
    refine (unhide HQ1 x7 w7 hx7 hb7).mono ?_
    rintro e w7' ⟨rfl, rfl⟩
    go_wp2_with fail
    refine (unhide HQ2 _ w7 (unhide HC w7 hb7') hb7).mono ?_
    rintro e w7' ⟨rfl, rfl⟩
    go_wp2
    go_ret
    exact ⟨rfl, hb7⟩

end Go.Proofs.Ythdghnppledakaa
