/- Record: PutTxn. -/
import Derived.Test.YtggllgimlfchhaaPA
import Derived.Test.YtggllgimlfchhaaKE
import Derived.Test.YtggllgimlfchhaaPG
namespace Go.Proofs.Ytggllgimlfchhaa
open Go.RowKit
set_option maxRecDepth 100000

theorem txnB_le' {t : TxnD} (h : mayT t = true) : (txnB t).length ≤ 2000 := txnB_le h
theorem sum_fits {a b : Nat} (h : a ≤ 140737488355328) (h' : b ≤ 2000) : wrap64 ((a : Int) + b) = (a : Int) + b := by unfold wrap64; omega
theorem sum_long {a b : Nat} (h : 1048576 < a + b) : (1048576 : Int) < (a : Int) + b := by omega
theorem sum_short {a b : Nat} (h : ¬ 1048576 < a + b) : ¬ (1048576 : Int) < (a : Int) + b := by omega
theorem sum_room {a b : Nat} (h : ¬ 1048576 < a + b) : a + b ≤ 549755813888 := by omega
set_option maxHeartbeats 1000000 in
theorem PutTxn_any (N : Nat) (bv : Value) (zs : List Int) (cs : Array Value) (t : TxnD) (w : World) (hN : N ≤ w.heap.size) (hz : Sees w .u8 bv zs) (hzl : zs.length ≤ 140737488355328) (hT : ∀ w', Below N w w' → SeesT w' cs t) (hf : FitT t) :
    Calls Try.prog 17 #[bv, .agg cs] w fun r w' => ∃ x, r = .returned (.tuple #[x, .int .i64 (putE zs t)]) ∧ w'.ownsRow w.heap.size 5 1 x (putB zs t).length (ints .u8 (putB zs t)) ∧ Below w.heap.size w w' := by
  have HZ := hide hz
  obtain ⟨ab, cb, rfl, _⟩ := hz
  obtain ⟨_, _, _, _, rfl, k1, k2, k3, k4⟩ := hT w (Below.refl _ _)
  obtain ⟨ac, cc, rfl, _⟩ := k1
  obtain ⟨aa, ca, rfl, _⟩ := k2
  obtain ⟨ar, cr, _, _, rfl, _⟩ := k3
  obtain ⟨aw, cw, _, _, rfl, _⟩ := k4
  have HFT := hide hf
  obtain ⟨s, es⟩ : ∃ x, t.ses = x := ⟨_, rfl⟩
  obtain ⟨q, eq⟩ : ∃ x, t.req = x := ⟨_, rfl⟩
  obtain ⟨cn, ec⟩ : ∃ x, t.code.length = x := ⟨_, rfl⟩
  obtain ⟨an, ea⟩ : ∃ x, t.args.length = x := ⟨_, rfl⟩
  obtain ⟨rn, er⟩ : ∃ x, t.reads.length = x := ⟨_, rfl⟩
  obtain ⟨wn, ew⟩ : ∃ x, t.writes.length = x := ⟨_, rfl⟩
  rw [es, eq, ec, ea, er, ew] at hT
  rw [es, eq, ec, ea, er, ew]
  have HT := hide hT
  clear hT hf es eq ec ea er ew
  have hal : Below w.heap.size w (w.alloc (.cells #[.int .i64 s, .int .i64 q, .slice ac cn cc, .slice aa an ca, .slice ar rn cr, .slice aw wn cw] 35)) := (Below.refl _ _).alloc (Nat.le_refl _) _
  have HM := hide (txnMayBe_any _ t (w.alloc (.cells #[.int .i64 s, .int .i64 q, .slice ac cn cc, .slice aa an ca, .slice ar rn cr, .slice aw wn cw] 35)) (unhide HT _ (hal.mono hN)))
  have HB := hide hal
  have HBX : Hid (∀ w', Below (w.heap.size + 1) (w.alloc (.cells #[.int .i64 s, .int .i64 q, .slice ac cn cc, .slice aa an ca, .slice ar rn cr, .slice aw wn cw] 35)) w' → w'.cell? ⟨w.heap.size, 0, none⟩ = some (.int .i64 s) ∧ w'.cell? ⟨w.heap.size, 1, none⟩ = some (.int .i64 q) ∧ w'.cell? ⟨w.heap.size, 2, none⟩ = some (.slice ac cn cc) ∧ w'.cell? ⟨w.heap.size, 3, none⟩ = some (.slice aa an ca) ∧ w'.cell? ⟨w.heap.size, 4, none⟩ = some (.slice ar rn cr) ∧ w'.cell? ⟨w.heap.size, 5, none⟩ = some (.slice aw wn cw)) := fun w' hb => by
    have hx : w'.heap[w.heap.size]? = some (.cells #[.int .i64 s, .int .i64 q, .slice ac cn cc, .slice aa an ca, .slice ar rn cr, .slice aw wn cw] 35) := (hb.block _ (Nat.lt_succ_self _)).trans (heap_alloc_new w _)
    exact ⟨cell_heap hx, cell_heap hx, cell_heap hx, cell_heap hx, cell_heap hx, cell_heap hx⟩
  obtain ⟨ZL, hZL⟩ : ∃ n, zs.length = n := ⟨_, rfl⟩
  rw [hZL] at hzl
  have HZL := hide hZL
  obtain ⟨PE, hPE⟩ : ∃ e, putE zs t = e := ⟨_, rfl⟩
  obtain ⟨PB, hPB⟩ : ∃ e, putB zs t = e := ⟨_, rfl⟩
  rw [hPE, hPB, hZL]
  have HPE := hide hPE
  have HPB := hide hPB
  clear hal hPE hPB hZL
  cases hmy : mayT t with
  | false =>
    rw [hmy] at HM
    have hE : PE = 40 := (unhide HPE).symm.trans (putE_no hmy)
    have hB : PB = [] := (unhide HPB).symm.trans (by unfold putB; rw [if_neg (by rw [putE_no hmy]; decide)])
    subst hE hB
    clear HPE HPB
    go_enter Try.func17, Try.ntmps17
    go_wp2_with fail
    refine (unhide HM).mono ?_
    rintro r w2 ⟨rfl, hb2⟩
    have HB2 : Hid (Below w.heap.size w w2) := (unhide HB).trans (hb2.mono (by simp))
    clear hb2 HM
    go_wp2_with fail
    go_ret2
    exact ⟨.slice none 0 0, rfl, World.ownsRow_nil _ _ _ _, unhide HB2⟩
  | true =>
    rw [hmy] at HM
    have hty := txnB_le' hmy
    have HLE := hide hty
    clear hty
    go_enter Try.func17, Try.ntmps17
    go_wp2_with fail
    refine (unhide HM).mono ?_
    rintro r w2 ⟨rfl, hb2⟩
    have HB2 : Hid (Below w.heap.size w w2) := (unhide HB).trans (hb2.mono (by simp))
    have HB1 : Hid (Below (w.heap.size + 1) (w.alloc (.cells #[.int .i64 s, .int .i64 q, .slice ac cn cc, .slice aa an ca, .slice ar rn cr, .slice aw wn cw] 35)) w2) := hb2.mono (by simp)
    clear hb2 HM
    have hz1 : Below w2.heap.size w2 ((w2.alloc (.cells #[.slice none 0 0] 84)).alloc (.cells #[.pointer (some ⟨w2.heap.size, 0, none⟩)] 86)) := ((Below.refl _ _).alloc (Nat.le_refl _) _).alloc (by simp) _
    have hWr : Wr ((w2.alloc (.cells #[.slice none 0 0] 84)).alloc (.cells #[.pointer (some ⟨w2.heap.size, 0, none⟩)] 86)) w2.heap.size (w2.heap.size + 1) [] := by
      refine ⟨⟨.slice none 0 0, ?_, World.ownsRow_nil _ _ _ _⟩, fun o => ?_, by omega, by simp⟩
      · rw [World.cell?_alloc_lt _ _ _ (by simp), World.cell?_alloc_new]; rfl
      · rw [World.frozen?_alloc_past _ _ _ (by simp), World.frozen?_alloc_at _ _ _ _ rfl]
    have hsz2 := (unhide HB2).size
    have HC := hide (txn_any (N := N) hWr _ t (by omega) (fun w' hb' => unhide HT w' (((unhide HB2).mono hN).trans ((hz1.mono (by omega)).trans hb'))) (unhide HFT) hmy (by simp))
    simp only [List.nil_append] at HC
    have HBW : Hid (∀ w', Wrote w2.heap.size (w2.heap.size + 1) ((w2.alloc (.cells #[.slice none 0 0] 84)).alloc (.cells #[.pointer (some ⟨w2.heap.size, 0, none⟩)] 86)) w' → w'.cell? ⟨w2.heap.size + 1, 0, none⟩ = some (.pointer (some ⟨w2.heap.size, 0, none⟩)) ∧ Below w.heap.size w w') := fun w' k => by
      have e : (w2.alloc (.cells #[.slice none 0 0] 84)).heap.size = w2.heap.size + 1 := by simp
      have b1 : ((w2.alloc (.cells #[.slice none 0 0] 84)).alloc (.cells #[.pointer (some ⟨w2.heap.size, 0, none⟩)] 86)).heap[w2.heap.size + 1]? = some (.cells #[.pointer (some ⟨w2.heap.size, 0, none⟩)] 86) := by have := heap_alloc_new (w2.alloc (.cells #[.slice none 0 0] 84)) (.cells #[.pointer (some ⟨w2.heap.size, 0, none⟩)] 86); rw [e] at this; exact this
      have c1 := k.block (w2.heap.size + 1) (by simp) (by omega) (.inr fun cur e => by rw [b1] at e; cases e)
      refine ⟨?_, ?_⟩
      · rw [World.cell?_of_block (a := ⟨w2.heap.size + 1, 0, none⟩) c1, ← e, World.cell?_alloc_new]; rfl
      · exact ((unhide HB2).trans (hz1.mono hsz2)).trans (k.below (by omega) (by omega) (by simp only [World.size_alloc]; omega))
    obtain ⟨b0, b1, b2, b3, b4, b5⟩ := unhide HBX _ ((unhide HB1).trans (hz1.mono (by have := (unhide HB1).size; simp only [World.size_alloc] at this; omega)))
    obtain ⟨d0', d1', d2', d3', d4', d5'⟩ := unhide HBX w2 (unhide HB1)
    have HSZ := hide hsz2
    clear hWr hz1 hsz2
    go_wp2_with fail
    refine (unhide HC).mono ?_
    rintro r w3 ⟨rfl, hw3, hwr3⟩
    obtain ⟨d0, hbl⟩ := unhide HBW w3 hwr3
    obtain ⟨xv, hxc, hxo⟩ := hw3.own
    obtain ⟨ax, cx, rfl⟩ := own_shape hxo
    have hlen := unhide HLE
    have HXO := hide hxo
    obtain ⟨TL, hTL⟩ : ∃ n, (txnB t).length = n := ⟨_, rfl⟩
    have HTL := hide hTL
    rw [hTL] at hxc hlen
    have hsum : wrap64 ((ZL : Int) + TL) = (ZL : Int) + TL := sum_fits hzl hlen
    by_cases hbig : 1048576 < ZL + TL
    · have hE : PE = 3 := (unhide HPE).symm.trans (putE_long hmy (by rw [unhide HZL, unhide HTL]; exact hbig))
      have hB : PB = [] := (unhide HPB).symm.trans (by unfold putB; rw [unhide HPE, hE]; rfl)
      subst hE hB
      have hgt : (1048576 : Int) < (ZL : Int) + TL := sum_long hbig
      have HF := hide hbl
      clear HPE HPB hw3 hwr3 hbl hxo HC hTL
      go_wp2_with fail
      go_ret2
      exact ⟨.slice none 0 0, rfl, World.ownsRow_nil _ _ _ _, unhide HF⟩
    · have hE : PE = 0 := (unhide HPE).symm.trans (putE_ok hmy (by rw [unhide HZL, unhide HTL]; exact hbig))
      have hB : PB = zs ++ txnB t := (unhide HPB).symm.trans (by unfold putB; rw [unhide HPE, hE]; rfl)
      subst hE
      have hng : ¬ (1048576 : Int) < (ZL : Int) + TL := sum_short hbig
      have hal3 : Below w3.heap.size w3 (w3.alloc (.cells #[.slice ab ZL cb, .slice ax TL cx] 26)) := (Below.refl _ _).alloc (Nat.le_refl _) _
      have hx4 : (w3.alloc (.cells #[.slice ab ZL cb, .slice ax TL cx] 26)).heap[w3.heap.size]? = some (.cells #[.slice ab ZL cb, .slice ax TL cx] 26) := heap_alloc_new w3 _
      have sz := ((unhide HZ).below hbl).below hal3
      have sx := ((sees_of_own hxo).2).below hal3
      rw [unhide HZL] at sz
      rw [hTL] at sx
      have HQ := hide (concat_any w3.heap.size _ _ zs (txnB t) _ (cell_heap hx4) (cell_heap hx4) sz sx (by rw [unhide HZL, hTL]; exact sum_room hbig))
      have HF : Hid (Below w.heap.size w (w3.alloc (.cells #[.slice ab ZL cb, .slice ax TL cx] 26))) := hbl.trans (hal3.mono hbl.size)
      have HB := hide hB
      clear HPE HPB hw3 hwr3 hbl hxo HC hTL hal3 hx4 sz sx hB
      go_wp2_with fail
      all_goals try (exfalso; exact Int.not_lt.mpr hng (by assumption))
      refine (unhide HQ).mono ?_
      rintro r w4 ⟨x4, rfl, ho4, hb4⟩
      obtain ⟨a4, c4, rfl⟩ := own_shape ho4
      obtain ⟨n4, hn4⟩ : ∃ n, (zs ++ txnB t).length = n := ⟨_, rfl⟩
      have HG : Hid (w4.ownsRow w.heap.size 5 1 (.slice a4 (zs ++ txnB t).length c4) PB.length (ints .u8 PB) ∧ Below w.heap.size w w4) := ⟨by rw [unhide HB]; exact own_mono ho4 (unhide HF).size, (unhide HF).trans (hb4.mono (unhide HF).size)⟩
      rw [hn4] at HG
      rw [hn4]
      clear ho4 hb4 hn4
      go_wp2_with fail
      go_ret2
      exact ⟨.slice a4 n4 c4, rfl, unhide HG⟩
end Go.Proofs.Ytggllgimlfchhaa
