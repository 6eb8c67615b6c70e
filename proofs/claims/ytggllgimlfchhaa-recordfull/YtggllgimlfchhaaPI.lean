/- RecordFull's walk. -/
import Derived.Test.YtggllgimlfchhaaPB
import Derived.Test.YtggllgimlfchhaaPH
import Derived.Test.YtggllgimlfchhaaZJ
import Derived.Deep.RegionHeld3
import Derived.Deep.OwnRows
namespace Go.Proofs.Ytggllgimlfchhaa
open Go.RowKit Go.Deep
set_option maxRecDepth 100000

theorem nle {L N : Nat} (h : 1048576 - L = N) : N ≤ 1048576 := by omega
theorem wM {N F M : Nat} (h : N + F = M) (hn : N ≤ 1048576) (hf : F ≤ 2000) : IntKind.i64.wrap ((N : Int) + F) = M := by
  rw [wrap_i64 _ (by omega) (by omega)]; omega
theorem wM' {N F M : Nat} (h : N + F = M) (hn : N ≤ 1048576) (hf : F ≤ 2000) : wrap64 ((N : Int) + F) = M := by unfold wrap64; omega
theorem lM {N F : Nat} (hn : N ≤ 1048576) (hf : F ≤ 2000) : N + F ≤ 140737488355328 := by omega
theorem putL_byt (l : List Int) : Byt (putL l) := by
  induction l with
  | nil => intro b hb; cases hb
  | cons x r ih => exact Byt.append (numB_byte x) ih
theorem txnB_byt {t : TxnD} (hf : FitT t) : Byt (txnB t) := by
  unfold txnB
  exact (((((putL_byt _).append ((putL_byt _).append hf.code)).append (putL_byt _)).append (putL_byt _)).append (putL_byt _)).append (putL_byt _)
theorem made_sees (w : World) (N : Nat) : Sees (w.alloc (.cells (madeCells #[.int .u8 0] N) 5)).drew .u8 (.slice (some ⟨w.heap.size, 0, none⟩) N N) (List.replicate N 0) := by
  refine ⟨some ⟨w.heap.size, 0, none⟩, N, by simp, by simp, (fun h => by cases h), fun a e k hk => ?_⟩
  obtain rfl := Option.some.inj e
  have hk' : k < N := by simpa using hk
  have ha : (⟨w.heap.size, 0, none⟩ : Addr).add k = ⟨w.heap.size, k, none⟩ := by unfold Addr.add; split <;> simp_all
  have hc : (w.alloc (.cells (madeCells #[.int .u8 0] N) 5)).cell? ⟨w.heap.size, k, none⟩ = (madeCells #[.int .u8 0] N)[k]? := World.cell?_alloc_new ..
  rw [ha]
  refine hc.trans ?_
  simp [madeCells, hk', List.getD, Nat.mod_one]

set_option maxHeartbeats 400000 in
theorem full_out (cs : Array Value) (t : TxnD) (left : Int) (w : World) (hT : SeesT w cs t) (hb : left < 0 ∨ 1024 < left) :
    Calls Try.prog 5 #[.agg cs, .int .i64 left] w fun e w' => e = .returned (.bool true) ∧ Below w.heap.size w w' := by
  obtain ⟨cv, av, rv, wv, rfl, _⟩ := hT
  have hal : Below w.heap.size w (w.alloc (.cells #[.int .i64 t.ses, .int .i64 t.req, cv, av, rv, wv] 35)) := (Below.refl _ _).alloc (Nat.le_refl _) _
  have HAL := hide hal
  clear hal
  rcases hb with hb | hb
  · go_enter Try.func5, Try.ntmps5
    go_wp2_with fail
    refine (begun_any _).mono ?_
    rintro e w1 ⟨rfl, hb1⟩
    have HB1 : Hid (Below w.heap.size w w1) := (unhide HAL).trans (hb1.mono (by simp))
    clear hb1
    go_wp2_with fail
    refine (begun_any _).mono ?_
    rintro e w2 ⟨rfl, hb2⟩
    have HB2 : Hid (Below w.heap.size w w2) := (unhide HB1).trans (hb2.mono (unhide HB1).size)
    clear hb2
    go_wp2_with fail
    go_ret
    exact ⟨rfl, unhide HB2⟩
  · have hb0 : ¬ left < 0 := by omega
    go_enter Try.func5, Try.ntmps5
    go_wp2_with fail
    refine (begun_any _).mono ?_
    rintro e w1 ⟨rfl, hb1⟩
    have HB1 : Hid (Below w.heap.size w w1) := (unhide HAL).trans (hb1.mono (by simp))
    clear hb1
    go_wp2_with fail
    refine (begun_any _).mono ?_
    rintro e w2 ⟨rfl, hb2⟩
    have HB2 : Hid (Below w.heap.size w w2) := (unhide HB1).trans (hb2.mono (unhide HB1).size)
    clear hb2
    go_wp2_with fail
    go_ret
    exact ⟨rfl, unhide HB2⟩

set_option maxHeartbeats 1600000 in
theorem full_in (cs : Array Value) (t : TxnD) (L : Nat) (w : World) (hT : SeesT w cs t) (hf : FitT t) (hL : L ≤ 1024) :
    Calls Try.prog 5 #[.agg cs, .int .i64 (L : Int)] w fun e w' => e = .returned (.bool true) ∧ Below w.heap.size w w' := by
  have HT := hide hT
  obtain ⟨cv, av, rv, wv, rfl, k1, k2, k3, k4⟩ := hT
  obtain ⟨ac, cc, rfl, _⟩ := k1
  obtain ⟨aa, ca, rfl, _⟩ := k2
  obtain ⟨ar, cr, _, _, rfl, _⟩ := k3
  obtain ⟨aw, cw, _, _, rfl, _⟩ := k4
  have hal : Below w.heap.size w (w.alloc (.cells #[.int .i64 t.ses, .int .i64 t.req, .slice ac t.code.length cc, .slice aa t.args.length ca, .slice ar t.reads.length cr, .slice aw t.writes.length cw] 35)) := (Below.refl _ _).alloc (Nat.le_refl _) _
  have HAL := hide hal
  have HBX : Hid (∀ x, Below (w.heap.size + 1) (w.alloc (.cells #[.int .i64 t.ses, .int .i64 t.req, .slice ac t.code.length cc, .slice aa t.args.length ca, .slice ar t.reads.length cr, .slice aw t.writes.length cw] 35)) x → x.cell? ⟨w.heap.size, 0, none⟩ = some (.int .i64 t.ses) ∧ x.cell? ⟨w.heap.size, 1, none⟩ = some (.int .i64 t.req) ∧ x.cell? ⟨w.heap.size, 2, none⟩ = some (.slice ac t.code.length cc) ∧ x.cell? ⟨w.heap.size, 3, none⟩ = some (.slice aa t.args.length ca) ∧ x.cell? ⟨w.heap.size, 4, none⟩ = some (.slice ar t.reads.length cr) ∧ x.cell? ⟨w.heap.size, 5, none⟩ = some (.slice aw t.writes.length cw)) := fun x hb => by
    have hx : x.heap[w.heap.size]? = some (.cells #[.int .i64 t.ses, .int .i64 t.req, .slice ac t.code.length cc, .slice aa t.args.length ca, .slice ar t.reads.length cr, .slice aw t.writes.length cw] 35) := (hb.block _ (Nat.lt_succ_self _)).trans (heap_alloc_new w _)
    exact ⟨cell_heap hx, cell_heap hx, cell_heap hx, cell_heap hx, cell_heap hx, cell_heap hx⟩
  have h0 : ¬ (L : Int) < 0 := by omega
  have h1 : ¬ (1024 : Int) < L := by omega
  obtain ⟨N, hN⟩ : ∃ N : Nat, 1048576 - L = N := ⟨_, rfl⟩
  have hwN : IntKind.i64.wrap (N : Int) = N := wrap_i64 _ (by omega) (by omega)
  have hsub : (1048576 : Int) - (L : Int) = (N : Int) := by omega
  clear hal
  go_enter Try.func5, Try.ntmps5
  go_wp2_with fail
  refine (begun_any _).mono ?_
  rintro e w1 ⟨rfl, hb1⟩
  have HB1 : Hid (Below w.heap.size w w1) := (unhide HAL).trans (hb1.mono (by simp))
  have HX1 : Hid (Below (w.heap.size + 1) (w.alloc (.cells #[.int .i64 t.ses, .int .i64 t.req, .slice ac t.code.length cc, .slice aa t.args.length ca, .slice ar t.reads.length cr, .slice aw t.writes.length cw] 35)) w1) := hb1.mono (by simp)
  clear hb1
  go_wp2_with fail
  have hmk := run_make_row' (P := Try.prog) 26 5 (.int .u8 0) 1 Try.underlying26 Try.info5 rfl .i64 .i64 N (by omega) (by omega)
  have hc0 := unhide HBX w1 (unhide HX1)
  refine wp_region_held_drew (S := fun x => x.cell? ⟨w.heap.size, 0, none⟩ = some (.int .i64 t.ses) ∧ x.cell? ⟨w.heap.size, 1, none⟩ = some (.int .i64 t.req) ∧ x.cell? ⟨w.heap.size, 2, none⟩ = some (.slice ac t.code.length cc) ∧ x.cell? ⟨w.heap.size, 3, none⟩ = some (.slice aa t.args.length ca) ∧ x.cell? ⟨w.heap.size, 4, none⟩ = some (.slice ar t.reads.length cr) ∧ x.cell? ⟨w.heap.size, 5, none⟩ = some (.slice aw t.writes.length cw)) (by kernel_rfl) hc0 (fun hHeld => ?_)
  refine wpAnyH_take (i := 0) (v := ?v1x0) rfl (by kernel_rfl) (by kernel_rfl) (by kernel_rfl) (fun _ _ _ h => h) (Or.inl ⟨by rfl, ?hy1x0⟩) (by assumption) ?rest1x0
  case hy1x0 => intro w hSw; obtain ⟨s0, s1, s2, s3, s4, s5⟩ := hSw; go_simp <;> with_reducible rfl
  simp only [Act.put, List.getElem_toArray, List.getElem_cons_zero, List.setIfInBounds_toArray, List.set_cons_zero, List.set_cons_succ]
  refine wpAnyH_take (i := 1) (v := (.int .i64 (N : Int))) rfl (by kernel_rfl) (by kernel_rfl) (by kernel_rfl) (fun _ _ _ h => h) (Or.inl ⟨by rfl, ?hy2x1⟩) (by assumption) ?rest2x1
  case hy2x1 => intro w hSw; obtain ⟨s0, s1, s2, s3, s4, s5⟩ := hSw; go_simp <;> with_reducible rfl
  simp only [Act.put, List.getElem_toArray, List.getElem_cons_zero, List.getElem_cons_succ, List.setIfInBounds_toArray, List.set_cons_zero, List.set_cons_succ]
  refine wpAnyH_take (i := 3) (v := (.agg #[.int .i64 t.ses, .int .i64 t.req, .slice ac t.code.length cc, .slice aa t.args.length ca, .slice ar t.reads.length cr, .slice aw t.writes.length cw])) rfl (by kernel_rfl) (by kernel_rfl) (by kernel_rfl) (fun _ _ _ h => h) (Or.inl ⟨by rfl, ?hy3x3⟩) (by assumption) ?rest3x3
  case hy3x3 => intro w hSw; obtain ⟨s0, s1, s2, s3, s4, s5⟩ := hSw; go_simp <;> with_reducible rfl
  simp only [Act.put, List.getElem_toArray, List.getElem_cons_zero, List.getElem_cons_succ, List.setIfInBounds_toArray, List.set_cons_zero, List.set_cons_succ]
  refine wpAnyH_ready (rs := [2]) (by kernel_rfl) (by simp) ?_
  refine AllReadyH.cons rfl (fun K hK => ?_) AllReadyH.nil
  go_simp
  have hz2 : Below w1.heap.size w1 (w1.alloc (.cells (madeCells #[.int .u8 0] N) 5)).drew := ((Below.refl _ _).alloc (Nat.le_refl _) _).drew
  have hsz1 := (unhide HX1).size
  simp only [World.size_alloc] at hsz1
  have HX2 : Hid (Below (w.heap.size + 1) (w.alloc (.cells #[.int .i64 t.ses, .int .i64 t.req, .slice ac t.code.length cc, .slice aa t.args.length ca, .slice ar t.reads.length cr, .slice aw t.writes.length cw] 35)) (w1.alloc (.cells (madeCells #[.int .u8 0] N) 5)).drew) := (unhide HX1).trans (hz2.mono hsz1)
  have HB2 : Hid (Below w.heap.size w (w1.alloc (.cells (madeCells #[.int .u8 0] N) 5)).drew) := (unhide HB1).trans (hz2.mono (unhide HB1).size)
  obtain ⟨Z, hZ⟩ : ∃ Z, List.replicate N (0 : Int) = Z := ⟨_, rfl⟩
  have hZl : Z.length = N := by rw [← hZ]; simp
  have hms := made_sees w1 N
  rw [hZ] at hms
  have HP := hide (PutTxn_any w.heap.size _ Z _ t _ (unhide HB2).size hms (by omega) (fun w' hb => (unhide HT).below ((unhide HB2).trans hb)) hf)
  have HZL := hide hZl
  have HFT := hide hf
  have HCT : Hid (∀ w', Below w.heap.size w w' → Calls Try.prog 25 #[.agg #[.int .i64 t.ses, .int .i64 t.req, .slice ac t.code.length cc, .slice aa t.args.length ca, .slice ar t.reads.length cr, .slice aw t.writes.length cw]] w' fun e w'' => e = .returned (.int .i64 (if mayT t then 0 else 40)) ∧ Below w'.heap.size w' w'') := fun w' hb => checkTxn_any _ t w' ((unhide HT).below hb)
  have HTF : Hid (mayT t = true → ∀ w', Below w.heap.size w w' → Calls Try.prog 20 #[.agg #[.int .i64 t.ses, .int .i64 t.req, .slice ac t.code.length cc, .slice aa t.args.length ca, .slice ar t.reads.length cr, .slice aw t.writes.length cw]] w' fun e w'' => ∃ v, e = .returned v ∧ w''.ownsRow w'.heap.size 5 1 v (txnB t).length (ints .u8 (txnB t)) ∧ Below w'.heap.size w' w'') := fun hm w' hb => txnForm_any _ t w' ((unhide HT).below hb) hf hm
  have hby : Byt (txnB t) := txnB_byt hf
  clear hz2 hZ hms hf
  refine hK _ _ (unhide HBX _ (unhide HX2)) ?_
  clear hK hHeld
  intro hHeld
  refine wpAnyH_ready (rs := [4]) (by kernel_rfl) (by simp) ?_
  refine AllReadyH.cons rfl (fun K hK => ?_) AllReadyH.nil
  go_simp
  refine (unhide HP).mono ?_
  rintro e w3 ⟨x, rfl, hox, hb3⟩
  refine hK _ _ (unhide HBX _ ((unhide HX2).trans (hb3.mono (by simp; omega)))) ?_
  clear hK hHeld
  intro hHeld
  have HX3 : Hid (Below (w.heap.size + 1) (w.alloc (.cells #[.int .i64 t.ses, .int .i64 t.req, .slice ac t.code.length cc, .slice aa t.args.length ca, .slice ar t.reads.length cr, .slice aw t.writes.length cw] 35)) w3) := (unhide HX2).trans (hb3.mono (by simp; omega))
  have HB3 : Hid (Below w.heap.size w w3) := (unhide HB2).trans (hb3.mono (unhide HB2).size)
  obtain ⟨ax, cx, rfl⟩ := own_shape hox
  have HOX := hide hox
  clear hox hb3
  refine wpAnyH_take (i := 5) (v := ?v4x5) rfl (by kernel_rfl) (by kernel_rfl) (by kernel_rfl) (fun _ _ _ h => h) (Or.inl ⟨by rfl, ?hy4x5⟩) (by assumption) ?rest4x5
  case hy4x5 => intro w hSw; obtain ⟨s0, s1, s2, s3, s4, s5⟩ := hSw; go_simp <;> with_reducible rfl
  simp only [Act.put, List.getElem_toArray, List.getElem_cons_zero, List.getElem_cons_succ, List.setIfInBounds_toArray, List.set_cons_zero, List.set_cons_succ]
  refine wpAnyH_take (i := 6) (v := ?v5x6) rfl (by kernel_rfl) (by kernel_rfl) (by kernel_rfl) (fun _ _ _ h => h) (Or.inl ⟨by rfl, ?hy5x6⟩) (by assumption) ?rest5x6
  case hy5x6 => intro w hSw; obtain ⟨s0, s1, s2, s3, s4, s5⟩ := hSw; go_simp <;> with_reducible rfl
  simp only [Act.put, List.getElem_toArray, List.getElem_cons_zero, List.getElem_cons_succ, List.setIfInBounds_toArray, List.set_cons_zero, List.set_cons_succ]
  refine wpAnyH_take (i := 8) (v := ?v6x8) rfl (by kernel_rfl) (by kernel_rfl) (by kernel_rfl) (fun _ _ _ h => h) (Or.inl ⟨by rfl, ?hy6x8⟩) (by assumption) ?rest6x8
  case hy6x8 => intro w hSw; obtain ⟨s0, s1, s2, s3, s4, s5⟩ := hSw; go_simp <;> with_reducible rfl
  simp only [Act.put, List.getElem_toArray, List.getElem_cons_zero, List.getElem_cons_succ, List.setIfInBounds_toArray, List.set_cons_zero, List.set_cons_succ]
  refine wpAnyH_take (i := 7) (v := ?v7x7) rfl (by kernel_rfl) (by kernel_rfl) (by kernel_rfl) (fun _ _ _ h => h) (Or.inl ⟨by rfl, ?hy7x7⟩) (by assumption) ?rest7x7
  case hy7x7 => intro w hSw; obtain ⟨s0, s1, s2, s3, s4, s5⟩ := hSw; go_simp <;> with_reducible rfl
  simp only [Act.put, List.getElem_toArray, List.getElem_cons_zero, List.getElem_cons_succ, List.setIfInBounds_toArray, List.set_cons_zero, List.set_cons_succ]
  refine wpAnyH_take (i := 9) (v := ?v8x9) rfl (by kernel_rfl) (by kernel_rfl) (by kernel_rfl) (fun _ _ _ h => h) (Or.inl ⟨by rfl, ?hy8x9⟩) (by assumption) ?rest8x9
  case hy8x9 => intro w hSw; obtain ⟨s0, s1, s2, s3, s4, s5⟩ := hSw; go_simp <;> with_reducible rfl
  simp only [Act.put, List.getElem_toArray, List.getElem_cons_zero, List.getElem_cons_succ, List.setIfInBounds_toArray, List.set_cons_zero, List.set_cons_succ]
  refine wpAnyH_done (by kernel_rfl) ?_ _
  have hc3 := unhide HBX _ (unhide HX3)
  obtain ⟨d0, d1, d2, d3, d4, d5⟩ := hc3
  clear HP
  cases hmy : mayT t with
  | false =>
    have hE : putE Z t = 40 := putE_no hmy
    have hPB : (putB Z t).length = 0 := by unfold putB; rw [hE]; rfl
    have HC := hide (unhide HCT w3 (unhide HB3))
    rw [hmy] at HC
    simp only [Bool.false_eq_true, if_false] at HC
    rw [hE, hPB]
    clear HCT HTF hE hPB HOX
    go_wp2_with fail
    refine (unhide HC).mono ?_
    rintro e w4 ⟨rfl, hb4⟩
    have HB4 : Hid (Below w.heap.size w w4) := (unhide HB3).trans (hb4.mono (unhide HB3).size)
    clear hb4 HC
    go_wp2_with fail
    go_ret
    exact ⟨rfl, unhide HB4⟩
  | true =>
    have HC := hide (unhide HCT w3 (unhide HB3))
    rw [hmy] at HC
    simp only [if_true] at HC
    have HTF2 := hide (unhide HTF hmy)
    obtain ⟨F, hF⟩ : ∃ F, (txnB t).length = F := ⟨_, rfl⟩
    have hF2 := txnB_le hmy
    rw [hF] at HTF2 hF2
    have hZF := hZl
    by_cases hlong : L < F
    · have hE : putE Z t = 3 := putE_long hmy (by rw [hZl, hF]; omega)
      have hPB : (putB Z t).length = 0 := by unfold putB; rw [hE]; rfl
      rw [hE, hPB]
      have hgt : (L : Int) < (F : Int) := by omega
      clear HCT HTF hE hPB HOX hF
      go_wp2_with fail
      refine (unhide HC).mono ?_
      rintro e w4 ⟨rfl, hb4⟩
      have HB4 : Hid (Below w.heap.size w w4) := (unhide HB3).trans (hb4.mono (unhide HB3).size)
      have HX4 : Hid (Below (w.heap.size + 1) (w.alloc (.cells #[.int .i64 t.ses, .int .i64 t.req, .slice ac t.code.length cc, .slice aa t.args.length ca, .slice ar t.reads.length cr, .slice aw t.writes.length cw] 35)) w4) := (unhide HX3).trans (hb4.mono (by have := (unhide HX3).size; simp only [World.size_alloc] at this; omega))
      obtain ⟨f0, f1, f2, f3, f4, f5⟩ := unhide HBX _ (unhide HX4)
      have HTF3 := hide (unhide HTF2 w4 (unhide HB4))
      clear hb4 HC HTF2
      go_wp2_with fail
      refine (unhide HTF3).mono ?_
      rintro e w5 ⟨v5, rfl, ho5, hb5⟩
      obtain ⟨a5, c5, rfl⟩ := own_shape ho5
      have HB5 : Hid (Below w.heap.size w w5) := (unhide HB4).trans (hb5.mono (unhide HB4).size)
      clear hb5 ho5 HTF3
      go_wp2_with fail
      go_ret
      exact ⟨rfl, unhide HB5⟩
    · have hE : putE Z t = 0 := putE_ok hmy (by rw [hZl, hF]; omega)
      have hPB : putB Z t = Z ++ txnB t := by unfold putB; rw [hE]; rfl
      rw [hPB] at HOX
      have hPL : (putB Z t).length = N + F := by rw [hPB, List.length_append, hZl, hF]
      rw [hE, hPL]
      have hNFl : (Z ++ txnB t).length = N + F := by rw [List.length_append, hZl, hF]
      rw [hNFl] at HOX
      obtain ⟨M, hM⟩ : ∃ M : Nat, N + F = M := ⟨_, rfl⟩
      rw [hM] at HOX ⊢
      have hM2 : (M : Int) = (N : Int) + F := by omega
      have hgt : ¬ (L : Int) < (F : Int) := by omega
      have hwM : wrap64 ((N : Int) + F) = M := wM' hM (nle hN) hF2
      have hwM2 : IntKind.i64.wrap ((N : Int) + F) = M := wM hM (nle hN) hF2
      have hNM : (Z ++ txnB t).length ≤ 140737488355328 := by rw [hNFl]; exact lM (nle hN) hF2
      have HNM := hide hNM
      have HBY := hide hby
      clear HCT HTF hE hPL hNFl hPB hF hby hNM
      go_wp2_with fail
      refine (unhide HC).mono ?_
      rintro e w4 ⟨rfl, hb4⟩
      have HB4 : Hid (Below w.heap.size w w4) := (unhide HB3).trans (hb4.mono (unhide HB3).size)
      have HX4 : Hid (Below (w.heap.size + 1) (w.alloc (.cells #[.int .i64 t.ses, .int .i64 t.req, .slice ac t.code.length cc, .slice aa t.args.length ca, .slice ar t.reads.length cr, .slice aw t.writes.length cw] 35)) w4) := (unhide HX3).trans (hb4.mono (by have := (unhide HX3).size; simp only [World.size_alloc] at this; omega))
      obtain ⟨f0, f1, f2, f3, f4, f5⟩ := unhide HBX _ (unhide HX4)
      have HTF3 := hide (unhide HTF2 w4 (unhide HB4))
      have HOX4 := hide (own_below (unhide HOX) hb4)
      clear hb4 HC HTF2 HOX
      go_wp2_with fail
      refine (unhide HTF3).mono ?_
      rintro e w5 ⟨v5, rfl, ho5, hb5⟩
      have HB5 : Hid (Below w.heap.size w w5) := (unhide HB4).trans (hb5.mono (unhide HB4).size)
      have HHS := hide (hasSuffix_yes _ _ Z (txnB t) w5 (sees_of_own (own_below (unhide HOX4) hb5)).2 (sees_of_own ho5).2 (unhide HBY) (unhide HNM))
      obtain ⟨a5, c5, rfl⟩ := own_shape ho5
      clear hb5 ho5 HTF3 HOX4
      go_wp2_with fail
      refine (unhide HHS).mono ?_
      rintro e w6 ⟨rfl, rfl⟩
      go_wp2_with fail
      go_ret
      exact ⟨rfl, unhide HB5⟩

theorem recordFull_walk (cs : Array Value) (t : TxnD) (left : Int) (w : World) (hT : SeesT w cs t) (hf : FitT t) :
    Calls Try.prog 5 #[.agg cs, .int .i64 left] w fun e w' => e = .returned (.bool true) ∧ Below w.heap.size w w' := by
  by_cases h : left < 0 ∨ 1024 < left
  · exact full_out cs t left w hT h
  · obtain ⟨L, rfl⟩ : ∃ L : Nat, left = L := ⟨left.toNat, by omega⟩
    exact full_in cs t L w hT hf (by omega)
end Go.Proofs.Ytggllgimlfchhaa
