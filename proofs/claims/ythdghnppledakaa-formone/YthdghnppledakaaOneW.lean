/- FormOne's walk. -/
import Derived.Test.YthdghnppledakaaWB
import Derived.Test.YthdghnppledakaaOneM
import Derived.Deep.RegionHeld3
namespace Go.Proofs.Ythdghnppledakaa
open Go.RowKit

theorem Sees.take {w : World} {k : IntKind} {ao : Option Addr} {cap : Nat} {zs : List Int} (h : Sees w k (.slice ao zs.length cap) zs) (n : Nat) (hn : n ≤ zs.length) : Sees w k (.slice ao n cap) (zs.take n) := by
  obtain ⟨ao', cap', hv, hl, hnil, ha⟩ := h
  simp only [Value.slice.injEq, true_and] at hv
  obtain ⟨rfl, rfl⟩ := hv
  have hlen : (zs.take n).length = n := by simp; omega
  refine ⟨ao, cap, by rw [hlen], by rw [hlen]; omega, hnil, fun a e t ht => ?_⟩
  rw [hlen] at ht
  rw [ha a e t (by omega)]
  simp [List.getD, ht]

theorem equal_true (av bv : Value) (xs ys : List Int) (w : World) (ha : Sees w .u8 av xs) (hb : Sees w .u8 bv ys) (hx : Byt xs) (h : xs = ys) :
    Calls Try.prog 12 #[av, bv] w fun e w' => e = .returned (.bool true) ∧ w = w' := by
  subst h
  refine (equal_any av bv xs xs w ha hb hx hx).mono ?_
  rintro e w' ⟨rfl, rfl⟩
  exact ⟨by simp, rfl⟩

theorem put_one (n : Int) (W : World) (h1 : -9223372036854775808 ≤ n) (h2 : n ≤ 9223372036854775807) :
    Calls Try.prog 13 #[.slice none 0 0, .slice (some ⟨W.heap.size, 0, none⟩) 1 1] (W.alloc (.cells #[.int .i64 n] 2)).drew fun e w' => ∃ x, e = .returned x ∧ Sees w' .u8 x (numB n) ∧ Below W.heap.size W w' := by
  have hs : Sees (W.alloc (.cells #[.int .i64 n] 2)).drew .i64 (.slice (some ⟨W.heap.size, 0, none⟩) 1 1) [n] := (sees_one W n).keep fun _ _ h => h
  have h9 := sizeL_le [n]
  simp only [List.length_singleton] at h9
  refine (num_any _ _ [] [n] _ (Sees.nil _ _) hs (by simp) (I64_one n h1 h2) (by simp; omega)).mono ?_
  rintro e w' ⟨x, rfl, ho, hb⟩
  simp only [putL, List.append_nil, List.nil_append] at ho
  exact ⟨x, rfl, (sees_of_own ho).2, (((Below.refl _ _).alloc (Nat.le_refl _) _).drew).trans (hb.mono (by show W.heap.size ≤ (W.alloc _).heap.size; simp))⟩

theorem put_blob (dv : Value) (ds : List Int) (w : World) (hd : Sees w .u8 dv ds) (hn : ds.length + 64 ≤ 140737488355328) :
    Calls Try.prog 20 #[.slice none 0 0, dv] w fun e w' => ∃ x, e = .returned x ∧ Sees w' .u8 x (putL [(ds.length : Int)] ++ ds) ∧ Below w.heap.size w w' := by
  refine (blob_any _ _ [] ds w (Sees.nil _ _) hd (by simp; omega)).mono ?_
  rintro e w' ⟨x, rfl, ho, hb⟩
  simp only [List.nil_append] at ho
  exact ⟨x, rfl, (sees_of_own ho).2, hb⟩

set_option maxHeartbeats 1000000 in
theorem one_ok_ok (bv : Value) (zs : List Int) (w : World) (hs : Sees w .u8 bv zs) (hby : Byt zs) (hm : zs.length ≤ 140737488351232) (he : (tn zs).2.2 = 0) (he2 : (tb zs).2.2 = 0) :
    Calls Try.prog 7 #[bv] w fun e w' => e = .returned (.bool true) ∧ Below w.heap.size w w' := by
  have HT := hide (takeNum_any bv zs w hs hby (by omega))
  have HB := hide (fun w' (hb : Below w.heap.size w w') => takeBlob_any bv zs w' (hs.below hb) hby (by omega))
  have HP := hide (tn_put zs hby)
  have HQ := hide (tb_put zs hby)
  have HL := hide (tn_le zs)
  generalize tn zs = t at *
  generalize tb zs = s at *
  obtain ⟨n, k, er⟩ := t
  obtain ⟨ds, k2, er2⟩ := s
  dsimp only at he he2
  have hs0 := hs
  obtain ⟨ao, cap, rfl, hlc, hnil, hc⟩ := hs
  clear hc
  subst he
  obtain ⟨hk1, hk2⟩ := unhide HL rfl
  obtain ⟨hp1, hp2, hp3⟩ := unhide HP rfl
  dsimp only at hk1 hk2 hp1 hp2 hp3
  have hf1 : decide ((k : Int) < 1) = false := decide_eq_false (by omega)
  have hf2 : decide (zs.length < k) = false := decide_eq_false (by omega)
  have hi1 : (0 : Int) ≤ (k : Int) := by omega
  have hi2 : (k : Int) ≤ (cap : Int) := by omega
  subst he2
  obtain ⟨hq1, hq2, hq3, hq4⟩ := unhide HQ rfl
  dsimp only at hq1 hq2 hq3 hq4
  have hg1 : decide ((k2 : Int) < 1) = false := decide_eq_false (by omega)
  have hg2 : decide (zs.length < k2) = false := decide_eq_false (by omega)
  have hj1 : (0 : Int) ≤ (k2 : Int) := by omega
  have hj2 : (k2 : Int) ≤ (cap : Int) := by omega
  have hbd : Byt (putL [(ds.length : Int)] ++ ds) := by rw [hq1]; exact hby.take _
  have HQ1 := hide hq1
  clear hq1
  clear HP HL HQ
  go_enter Try.func7, Try.ntmps7
  go_wp2_with (go_at_call 9; refine (unhide HT).mono ?_; rintro e w1 ⟨rfl, hb1⟩)
  clear HT
  go_region_held3 (fun _ => True) (trivial) ((first | (go_at_call 13; refine (put_one n w1 hp2 hp3).mono ?_; rintro e w2 ⟨x, rfl, hx, hb2⟩) | (go_at_call 12; refine (equal_true _ _ _ _ _ hx ((hs0.below (hb1.trans (hb2.mono hb1.size))).take k hk2) (numB_byte n) hp1).mono ?_; rintro e w3 ⟨rfl, rfl⟩)))
  have hbA : Below w.heap.size w w2 := hb1.trans (hb2.mono hb1.size)
  clear hf1 hf2 hi1 hi2 hp1 hp2 hp3 hx hb2 hb1
  go_wp2_with (go_at_call 16; refine (unhide HB w2 hbA).mono ?_; rintro e w5 ⟨y, rfl, hoY, hb5⟩)
  have hb5w : Below w.heap.size w w5 := hbA.trans (hb5.mono hbA.size)
  have hsY := (sees_of_own hoY).2
  clear HB hoY hb5 hbA
  go_region_held3 (fun _ => True) (trivial) ((first | (go_at_call 20; refine (put_blob y ds _ (by exact hsY.keep fun _ _ h => h) (by omega)).mono ?_; rintro e w6 ⟨x6, rfl, hx6, hb6⟩) | (go_at_call 12; refine (equal_true _ _ _ _ _ hx6 ((hs0.below (hb5w.drew.trans (hb6.mono hb5w.size))).take k2 hq3) hbd (unhide HQ1)).mono ?_; rintro e w7 ⟨rfl, rfl⟩)))
  have hbZ : Below w.heap.size w w6 := hb5w.drew.trans (hb6.mono hb5w.size)
  go_wp2_with (go_at_call 11; refine (live_any w6).mono ?_; rintro e w8 ⟨rfl, hb8⟩)
  go_ret
  exact ⟨rfl, hbZ.trans (hb8.mono hbZ.size)⟩

set_option maxHeartbeats 1000000 in
theorem one_ok_no (bv : Value) (zs : List Int) (w : World) (hs : Sees w .u8 bv zs) (hby : Byt zs) (hm : zs.length ≤ 140737488351232) (he : (tn zs).2.2 = 0) (he2 : (tb zs).2.2 ≠ 0) :
    Calls Try.prog 7 #[bv] w fun e w' => e = .returned (.bool true) ∧ Below w.heap.size w w' := by
  have HT := hide (takeNum_any bv zs w hs hby (by omega))
  have HB := hide (fun w' (hb : Below w.heap.size w w') => takeBlob_any bv zs w' (hs.below hb) hby (by omega))
  have HP := hide (tn_put zs hby)
  have HQ := hide (tb_put zs hby)
  have HL := hide (tn_le zs)
  generalize tn zs = t at *
  generalize tb zs = s at *
  obtain ⟨n, k, er⟩ := t
  obtain ⟨ds, k2, er2⟩ := s
  dsimp only at he he2
  have hs0 := hs
  obtain ⟨ao, cap, rfl, hlc, hnil, hc⟩ := hs
  clear hc
  subst he
  obtain ⟨hk1, hk2⟩ := unhide HL rfl
  obtain ⟨hp1, hp2, hp3⟩ := unhide HP rfl
  dsimp only at hk1 hk2 hp1 hp2 hp3
  have hf1 : decide ((k : Int) < 1) = false := decide_eq_false (by omega)
  have hf2 : decide (zs.length < k) = false := decide_eq_false (by omega)
  have hi1 : (0 : Int) ≤ (k : Int) := by omega
  have hi2 : (k : Int) ≤ (cap : Int) := by omega
  have hef2 : (er2 == 0) = false := beq_eq_false_iff_ne.2 he2
  clear HP HL HQ
  go_enter Try.func7, Try.ntmps7
  go_wp2_with (go_at_call 9; refine (unhide HT).mono ?_; rintro e w1 ⟨rfl, hb1⟩)
  clear HT
  go_region_held3 (fun _ => True) (trivial) ((first | (go_at_call 13; refine (put_one n w1 hp2 hp3).mono ?_; rintro e w2 ⟨x, rfl, hx, hb2⟩) | (go_at_call 12; refine (equal_true _ _ _ _ _ hx ((hs0.below (hb1.trans (hb2.mono hb1.size))).take k hk2) (numB_byte n) hp1).mono ?_; rintro e w3 ⟨rfl, rfl⟩)))
  have hbA : Below w.heap.size w w2 := hb1.trans (hb2.mono hb1.size)
  clear hf1 hf2 hi1 hi2 hp1 hp2 hp3 hx hb2 hb1
  go_wp2_with (go_at_call 16; refine (unhide HB w2 hbA).mono ?_; rintro e w5 ⟨y, rfl, hoY, hb5⟩)
  have hb5w : Below w.heap.size w w5 := hbA.trans (hb5.mono hbA.size)
  clear HB hoY hb5 hbA
  go_quiet (fail)
  have hbZ : Below w.heap.size w (w5.drewN nq) := below_drewN hb5w nq
  generalize w5.drewN nq = w6 at *
  go_wp2_with (go_at_call 11; refine (live_any w6).mono ?_; rintro e w8 ⟨rfl, hb8⟩)
  go_ret
  exact ⟨rfl, hbZ.trans (hb8.mono hbZ.size)⟩

set_option maxHeartbeats 1000000 in
theorem one_no_ok (bv : Value) (zs : List Int) (w : World) (hs : Sees w .u8 bv zs) (hby : Byt zs) (hm : zs.length ≤ 140737488351232) (he : (tn zs).2.2 ≠ 0) (he2 : (tb zs).2.2 = 0) :
    Calls Try.prog 7 #[bv] w fun e w' => e = .returned (.bool true) ∧ Below w.heap.size w w' := by
  have HT := hide (takeNum_any bv zs w hs hby (by omega))
  have HB := hide (fun w' (hb : Below w.heap.size w w') => takeBlob_any bv zs w' (hs.below hb) hby (by omega))
  have HP := hide (tn_put zs hby)
  have HQ := hide (tb_put zs hby)
  have HL := hide (tn_le zs)
  generalize tn zs = t at *
  generalize tb zs = s at *
  obtain ⟨n, k, er⟩ := t
  obtain ⟨ds, k2, er2⟩ := s
  dsimp only at he he2
  have hs0 := hs
  obtain ⟨ao, cap, rfl, hlc, hnil, hc⟩ := hs
  clear hc
  have hef : (er == 0) = false := beq_eq_false_iff_ne.2 he
  subst he2
  obtain ⟨hq1, hq2, hq3, hq4⟩ := unhide HQ rfl
  dsimp only at hq1 hq2 hq3 hq4
  have hg1 : decide ((k2 : Int) < 1) = false := decide_eq_false (by omega)
  have hg2 : decide (zs.length < k2) = false := decide_eq_false (by omega)
  have hj1 : (0 : Int) ≤ (k2 : Int) := by omega
  have hj2 : (k2 : Int) ≤ (cap : Int) := by omega
  have hbd : Byt (putL [(ds.length : Int)] ++ ds) := by rw [hq1]; exact hby.take _
  have HQ1 := hide hq1
  clear hq1
  clear HP HL HQ
  go_enter Try.func7, Try.ntmps7
  go_wp2_with (go_at_call 9; refine (unhide HT).mono ?_; rintro e w1 ⟨rfl, hb1⟩)
  clear HT
  go_quiet (fail)
  have hbA : Below w.heap.size w (w1.drewN nq) := below_drewN hb1 nq
  clear hb1 hef
  generalize w1.drewN nq = w2 at *
  go_wp2_with (go_at_call 16; refine (unhide HB w2 hbA).mono ?_; rintro e w5 ⟨y, rfl, hoY, hb5⟩)
  have hb5w : Below w.heap.size w w5 := hbA.trans (hb5.mono hbA.size)
  have hsY := (sees_of_own hoY).2
  clear HB hoY hb5 hbA
  go_region_held3 (fun _ => True) (trivial) ((first | (go_at_call 20; refine (put_blob y ds _ (by exact hsY.keep fun _ _ h => h) (by omega)).mono ?_; rintro e w6 ⟨x6, rfl, hx6, hb6⟩) | (go_at_call 12; refine (equal_true _ _ _ _ _ hx6 ((hs0.below (hb5w.drew.trans (hb6.mono hb5w.size))).take k2 hq3) hbd (unhide HQ1)).mono ?_; rintro e w7 ⟨rfl, rfl⟩)))
  have hbZ : Below w.heap.size w w6 := hb5w.drew.trans (hb6.mono hb5w.size)
  go_wp2_with (go_at_call 11; refine (live_any w6).mono ?_; rintro e w8 ⟨rfl, hb8⟩)
  go_ret
  exact ⟨rfl, hbZ.trans (hb8.mono hbZ.size)⟩

set_option maxHeartbeats 1000000 in
theorem one_no_no (bv : Value) (zs : List Int) (w : World) (hs : Sees w .u8 bv zs) (hby : Byt zs) (hm : zs.length ≤ 140737488351232) (he : (tn zs).2.2 ≠ 0) (he2 : (tb zs).2.2 ≠ 0) :
    Calls Try.prog 7 #[bv] w fun e w' => e = .returned (.bool true) ∧ Below w.heap.size w w' := by
  have HT := hide (takeNum_any bv zs w hs hby (by omega))
  have HB := hide (fun w' (hb : Below w.heap.size w w') => takeBlob_any bv zs w' (hs.below hb) hby (by omega))
  have HP := hide (tn_put zs hby)
  have HQ := hide (tb_put zs hby)
  have HL := hide (tn_le zs)
  generalize tn zs = t at *
  generalize tb zs = s at *
  obtain ⟨n, k, er⟩ := t
  obtain ⟨ds, k2, er2⟩ := s
  dsimp only at he he2
  have hs0 := hs
  obtain ⟨ao, cap, rfl, hlc, hnil, hc⟩ := hs
  clear hc
  have hef : (er == 0) = false := beq_eq_false_iff_ne.2 he
  have hef2 : (er2 == 0) = false := beq_eq_false_iff_ne.2 he2
  clear HP HL HQ
  go_enter Try.func7, Try.ntmps7
  go_wp2_with (go_at_call 9; refine (unhide HT).mono ?_; rintro e w1 ⟨rfl, hb1⟩)
  clear HT
  go_quiet (fail)
  have hbA : Below w.heap.size w (w1.drewN nq) := below_drewN hb1 nq
  clear hb1 hef
  generalize w1.drewN nq = w2 at *
  go_wp2_with (go_at_call 16; refine (unhide HB w2 hbA).mono ?_; rintro e w5 ⟨y, rfl, hoY, hb5⟩)
  have hb5w : Below w.heap.size w w5 := hbA.trans (hb5.mono hbA.size)
  clear HB hoY hb5 hbA
  go_quiet (fail)
  have hbZ : Below w.heap.size w (w5.drewN nq) := below_drewN hb5w nq
  generalize w5.drewN nq = w6 at *
  go_wp2_with (go_at_call 11; refine (live_any w6).mono ?_; rintro e w8 ⟨rfl, hb8⟩)
  go_ret
  exact ⟨rfl, hbZ.trans (hb8.mono hbZ.size)⟩

theorem formOne_walk (bv : Value) (zs : List Int) (w : World) (hs : Sees w .u8 bv zs) (hby : Byt zs) (hm : zs.length ≤ 140737488351232) :
    Calls Try.prog 7 #[bv] w fun e w' => e = .returned (.bool true) ∧ Below w.heap.size w w' := by
  by_cases h1 : (tn zs).2.2 = 0
  · by_cases h2 : (tb zs).2.2 = 0
    · exact one_ok_ok bv zs w hs hby hm h1 h2
    · exact one_ok_no bv zs w hs hby hm h1 h2
  · by_cases h2 : (tb zs).2.2 = 0
    · exact one_no_ok bv zs w hs hby hm h1 h2
    · exact one_no_no bv zs w hs hby hm h1 h2

end Go.Proofs.Ythdghnppledakaa
