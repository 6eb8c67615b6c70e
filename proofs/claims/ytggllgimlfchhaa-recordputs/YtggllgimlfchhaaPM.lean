/- The document's own PutError (package trivetref04). -/
import Derived.Test.YtggllgimlfchhaaPG
import Derived.Test.YtggllgimlfchhaaXD
namespace Go.Proofs.Ytggllgimlfchhaa
open Go.RowKit
set_option maxRecDepth 100000

theorem room_no {a b : Nat} (h : 1048576 < a + b) : (1048576 : Int) - a < b := by omega
theorem room_yes {a b : Nat} (h : ¬ 1048576 < a + b) : ¬ (1048576 : Int) - a < b := by omega
theorem room_wrap {a : Nat} (h : a ≤ 140737488355328) : wrap64 ((1048576 : Int) - a) = 1048576 - a := by unfold wrap64; omega
theorem room_wrapi {a : Nat} (h : a ≤ 140737488355328) : IntKind.i64.wrap ((1048576 : Int) - a) = 1048576 - a := wrap_i64 _ (by omega) (by omega)
set_option maxHeartbeats 800000 in
theorem putError_any (bv : Value) (zs : List Int) (cs : Array Value) (t : TxnD) (w : World) (hz : Sees w .u8 bv zs) (hzl : zs.length ≤ 140737488355328) (hT : SeesT w cs t) (hf : FitT t) :
    Calls Try.prog 18 #[bv, .agg cs] w fun r w' => r = .returned (.int .i64 (putE zs t)) ∧ Below w.heap.size w w' := by
  have HT := hide hT
  obtain ⟨ab, cb, rfl, _⟩ := hz
  obtain ⟨cv, av, rv, wv, rfl, k1, k2, k3, k4⟩ := hT
  obtain ⟨ac, cc, rfl, _⟩ := k1
  obtain ⟨aa, ca, rfl, _⟩ := k2
  obtain ⟨ar, cr, _, _, rfl, _⟩ := k3
  obtain ⟨aw, cw, _, _, rfl, _⟩ := k4
  have HFT := hide hf
  obtain ⟨s, es⟩ : ∃ x, t.ses = x := ⟨_, rfl⟩
  obtain ⟨q, eq⟩ : ∃ x, t.req = x := ⟨_, rfl⟩
  obtain ⟨cn, ec⟩ : ∃ x, t.code.length = x := ⟨_, rfl⟩
  obtain ⟨an, ea⟩ : ∃ x, t.args.length = x := ⟨_, rfl⟩
  obtain ⟨rn, er⟩ : ∃ x, t.reads.length = x := ⟨_, rfl⟩
  obtain ⟨wn, ew⟩ : ∃ x, t.writes.length = x := ⟨_, rfl⟩
  rw [es, eq, ec, ea, er, ew] at HT
  rw [es, eq, ec, ea, er, ew]
  clear es eq ec ea er ew hf
  have hal : Below w.heap.size w (w.alloc (.cells #[.int .i64 s, .int .i64 q, .slice ac cn cc, .slice aa an ca, .slice ar rn cr, .slice aw wn cw] 35)) := (Below.refl _ _).alloc (Nat.le_refl _) _
  have HAL := hide hal
  have HBX : Hid (∀ x, Below (w.heap.size + 1) (w.alloc (.cells #[.int .i64 s, .int .i64 q, .slice ac cn cc, .slice aa an ca, .slice ar rn cr, .slice aw wn cw] 35)) x → x.cell? ⟨w.heap.size, 0, none⟩ = some (.int .i64 s) ∧ x.cell? ⟨w.heap.size, 1, none⟩ = some (.int .i64 q) ∧ x.cell? ⟨w.heap.size, 2, none⟩ = some (.slice ac cn cc) ∧ x.cell? ⟨w.heap.size, 3, none⟩ = some (.slice aa an ca) ∧ x.cell? ⟨w.heap.size, 4, none⟩ = some (.slice ar rn cr) ∧ x.cell? ⟨w.heap.size, 5, none⟩ = some (.slice aw wn cw)) := fun x hb => by
    have hx : x.heap[w.heap.size]? = some (.cells #[.int .i64 s, .int .i64 q, .slice ac cn cc, .slice aa an ca, .slice ar rn cr, .slice aw wn cw] 35) := (hb.block _ (Nat.lt_succ_self _)).trans (heap_alloc_new w _)
    exact ⟨cell_heap hx, cell_heap hx, cell_heap hx, cell_heap hx, cell_heap hx, cell_heap hx⟩
  obtain ⟨ZL, hZL⟩ : ∃ n, zs.length = n := ⟨_, rfl⟩
  rw [hZL] at hzl ⊢
  have HM := hide (mayTxn_any _ t _ ((unhide HT).below hal))
  obtain ⟨d0, d1, d2, d3, d4, d5⟩ := unhide HBX _ (Below.refl _ _)
  clear hal
  cases hmy : mayT t with
  | false =>
    rw [putE_no hmy]
    rw [hmy] at HM
    go_enter Try.func18, Try.ntmps18
    go_wp2_with fail
    refine (unhide HM).mono ?_
    rintro r w2 ⟨rfl, hb2⟩
    have HB2 : Hid (Below w.heap.size w w2) := (unhide HAL).trans (hb2.mono (by simp))
    clear hb2 HM
    go_wp2_with fail
    go_ret
    exact ⟨rfl, unhide HB2⟩
  | true =>
    rw [hmy] at HM
    have hw1 := room_wrap hzl
    have hw2 := room_wrapi hzl
    have HTF : Hid (∀ w', Below w.heap.size w w' → Calls Try.prog 20 #[.agg #[.int .i64 s, .int .i64 q, .slice ac cn cc, .slice aa an ca, .slice ar rn cr, .slice aw wn cw]] w' fun e w'' => ∃ v, e = .returned v ∧ w''.ownsRow w'.heap.size 5 1 v (txnB t).length (ints .u8 (txnB t)) ∧ Below w'.heap.size w' w'') := fun w' hb => txnForm_any _ t w' ((unhide HT).below hb) (unhide HFT) hmy
    obtain ⟨F, hF⟩ : ∃ F, (txnB t).length = F := ⟨_, rfl⟩
    rw [hF] at HTF
    obtain ⟨PE, hPE⟩ : ∃ e, putE zs t = e := ⟨_, rfl⟩
    rw [hPE]
    by_cases hbig : 1048576 < ZL + F
    · have hE : PE = 3 := hPE.symm.trans (putE_long hmy (by rw [hZL, hF]; exact hbig))
      subst hE
      have hr := room_no hbig
      clear hbig hPE hF hZL
      go_enter Try.func18, Try.ntmps18
      go_wp2_with fail
      refine (unhide HM).mono ?_
      rintro r w2 ⟨rfl, hb2⟩
      have HB2 : Hid (Below w.heap.size w w2) := (unhide HAL).trans (hb2.mono (by simp))
      obtain ⟨f0, f1, f2, f3, f4, f5⟩ := unhide HBX w2 (hb2.mono (by simp))
      have HTF2 := hide (unhide HTF w2 (unhide HB2))
      clear hb2 HM
      go_wp2_with fail
      refine (unhide HTF2).mono ?_
      rintro r w3 ⟨v3, rfl, ho3, hb3⟩
      obtain ⟨a3, c3, rfl⟩ := own_shape ho3
      have HB3 : Hid (Below w.heap.size w w3) := (unhide HB2).trans (hb3.mono (unhide HB2).size)
      clear hb3 ho3 HTF2
      go_wp2_with fail
      go_ret
      exact ⟨rfl, unhide HB3⟩
    · have hE : PE = 0 := hPE.symm.trans (putE_ok hmy (by rw [hZL, hF]; exact hbig))
      subst hE
      have hr := room_yes hbig
      clear hbig hPE hF hZL
      go_enter Try.func18, Try.ntmps18
      go_wp2_with fail
      refine (unhide HM).mono ?_
      rintro r w2 ⟨rfl, hb2⟩
      have HB2 : Hid (Below w.heap.size w w2) := (unhide HAL).trans (hb2.mono (by simp))
      obtain ⟨f0, f1, f2, f3, f4, f5⟩ := unhide HBX w2 (hb2.mono (by simp))
      have HTF2 := hide (unhide HTF w2 (unhide HB2))
      clear hb2 HM
      go_wp2_with fail
      refine (unhide HTF2).mono ?_
      rintro r w3 ⟨v3, rfl, ho3, hb3⟩
      obtain ⟨a3, c3, rfl⟩ := own_shape ho3
      have HB3 : Hid (Below w.heap.size w w3) := (unhide HB2).trans (hb3.mono (unhide HB2).size)
      clear hb3 ho3 HTF2
      go_wp2_with fail
      all_goals try (exfalso; exact Int.not_lt.mpr hr (by assumption))
      go_ret
      exact ⟨rfl, unhide HB3⟩
end Go.Proofs.Ytggllgimlfchhaa
