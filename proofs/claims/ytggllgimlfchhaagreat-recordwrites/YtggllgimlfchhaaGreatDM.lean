/- Record: the document's Marshal. -/
import Derived.Test.YtggllgimlfchhaaGreatDK
import Derived.Test.YtggllgimlfchhaaGreatDL
import Derived.Test.YtggllgimlfchhaaGreatCH
import Derived.Test.YtggllgimlfchhaaGreatR4
namespace Go.Proofs.YtggllgimlfchhaaGreat
open Go.RowKit
set_option maxRecDepth 100000

theorem mayMsg_kind {m : MsgD} (h : mayMsg m = true) : 1 ≤ m.kind ∧ m.kind ≤ 6 := by
  rw [← mays_same] at h
  simp only [refMay, Bool.and_eq_true, decide_eq_true_eq] at h
  omega
theorem msgForm_any (cs : Array Value) (m : MsgD) (w : World) (hM : SeesM w cs m) (hfit : FitM m) (hF : -9223372036854775808 ≤ m.frm ∧ m.frm ≤ 9223372036854775807) (hO : -9223372036854775808 ≤ m.to ∧ m.to ≤ 9223372036854775807) (hm : mayMsg m = true) :
    Calls Tryz.prog 42 #[.agg cs] w fun e w' => ∃ v', e = .returned v' ∧ w'.ownsRow w.heap.size 5 1 v' (msgB m).length (ints .u8 (msgB m)) ∧ Below w.heap.size w w' := by
  have hk := mayMsg_kind hm
  by_cases h1 : m.kind = 1
  · exact msgForm1_any cs m w hM hfit hF hO h1 hm
  by_cases h2 : m.kind = 2
  · exact msgForm2_any cs m w hM hfit hF hO h2 hm
  by_cases h3 : m.kind = 3
  · exact msgForm3_any cs m w hM hfit hF hO h3 hm
  by_cases h4 : m.kind = 4
  · exact msgForm4_any cs m w hM hfit hF hO h4 hm
  by_cases h5 : m.kind = 5
  · exact msgForm5_any cs m w hM hfit hF hO h5 hm
  exact msgForm6_any cs m w hM hfit hF hO (by omega) hm

set_option maxHeartbeats 1600000 in
theorem refMarshal_any (cs : Array Value) (m : MsgD) (w : World) (hM : SeesM w cs m) (oM : OkM m) (hfit : FitM m)
    (hf : -9223372036854775808 ≤ m.frm ∧ m.frm ≤ 9223372036854775807) (ht : -9223372036854775808 ≤ m.to ∧ m.to ≤ 9223372036854775807) :
    Calls Tryz.prog 18 #[.agg cs] w fun r w' => ∃ x, r = .returned (.tuple #[x, .int .i64 (marE m)]) ∧ w'.ownsRow w.heap.size 5 1 x (marB m).length (ints .u8 (marB m)) ∧ Below w.heap.size w w' := by
  have HMB : Hid (∀ x, Below w.heap.size w x → Calls Tryz.prog 36 #[.agg cs] x fun e y => e = .returned (.bool (mayMsg m)) ∧ Below x.heap.size x y) := fun x hx => mays_same m ▸ mayMsg_any cs m x (hM.below hx) oM (okM_plain oM)
  have HMF : Hid (mayMsg m = true → ∀ x, Below w.heap.size w x → Calls Tryz.prog 42 #[.agg cs] x fun e w' => ∃ v', e = .returned v' ∧ w'.ownsRow x.heap.size 5 1 v' (msgB m).length (ints .u8 (msgB m)) ∧ Below x.heap.size x w') := fun hm x hb => msgForm_any cs m x (hM.below hb) hfit hf ht hm
  have HBY := hide (msgB_byt hfit oM)
  obtain ⟨aK, aF, aO, aT, aS, aL, aC, aY, la, ll, lc, ek, ef, en, ta, tl, tc, ps, pi, pm, da, dl, dc, rfl, _, _, _⟩ := hM.shape
  have hal : Below w.heap.size w (w.alloc (.cells #[.int .i64 aK, .int .i64 aF, .int .i64 aO, .int .i64 aT, .int .i64 aS, .int .i64 aL, .int .i64 aC, .bool aY, .slice la ll lc, .int .i64 ek, .int .i64 ef, .int .i64 en, .slice ta tl tc, .int .i64 ps, .int .i64 pi, .int .i64 pm, .slice da dl dc] 34)) := (Below.refl _ _).alloc (Nat.le_refl _) _
  have HW1 : Hid ((w.alloc (.cells #[.int .i64 aK, .int .i64 aF, .int .i64 aO, .int .i64 aT, .int .i64 aS, .int .i64 aL, .int .i64 aC, .bool aY, .slice la ll lc, .int .i64 ek, .int .i64 ef, .int .i64 en, .slice ta tl tc, .int .i64 ps, .int .i64 pi, .int .i64 pm, .slice da dl dc] 34)).heap[w.heap.size]? = some (.cells #[.int .i64 aK, .int .i64 aF, .int .i64 aO, .int .i64 aT, .int .i64 aS, .int .i64 aL, .int .i64 aC, .bool aY, .slice la ll lc, .int .i64 ek, .int .i64 ef, .int .i64 en, .slice ta tl tc, .int .i64 ps, .int .i64 pi, .int .i64 pm, .slice da dl dc] 34)) := heap_alloc_new w _
  have hs1 : (w.alloc (.cells #[.int .i64 aK, .int .i64 aF, .int .i64 aO, .int .i64 aT, .int .i64 aS, .int .i64 aL, .int .i64 aC, .bool aY, .slice la ll lc, .int .i64 ek, .int .i64 ef, .int .i64 en, .slice ta tl tc, .int .i64 ps, .int .i64 pi, .int .i64 pm, .slice da dl dc] 34)).heap.size = w.heap.size + 1 := by simp
  obtain ⟨w1, hw1⟩ : ∃ y, w.alloc (.cells #[.int .i64 aK, .int .i64 aF, .int .i64 aO, .int .i64 aT, .int .i64 aS, .int .i64 aL, .int .i64 aC, .bool aY, .slice la ll lc, .int .i64 ek, .int .i64 ef, .int .i64 en, .slice ta tl tc, .int .i64 ps, .int .i64 pi, .int .i64 pm, .slice da dl dc] 34) = y := ⟨_, rfl⟩
  rw [hw1] at hal HW1 hs1
  have HB1 := hide hal
  have HS1 := hide hs1
  have HC1 := hide (unhide HMB w1 hal)
  clear hal hs1 hM oM hfit hf ht HMB
  cases hmm : mayMsg m with
  | false =>
    have e1 : marE m = 40 := by simp [marE, hmm]
    have e2 : marB m = [] := by simp [marB, e1]
    rw [e1, e2]
    rw [hmm] at HC1
    clear HMF e1 e2
    go_enter Tryz.func18, Tryz.ntmps18
    go_wp2_with (first | rw [hw1] | refine wpList_load_wanted (by rfl) 34 _ rfl w.heap.size rfl 34 _ (0, 0) _ (unhide HW1) Tryz.underlying34 rfl (by kernel_rfl) ?_)
    refine (unhide HC1).mono ?_
    rintro e w2 ⟨rfl, hb2⟩
    have HB2 : Hid (Below w.heap.size w w2) := (unhide HB1).trans (hb2.mono (unhide HB1).size)
    clear hb2 HC1
    go_wp2_with fail
    go_ret2
    exact ⟨_, rfl, World.ownsRow_nil _ _ _ _, unhide HB2⟩
  | true =>
  rw [hmm] at HC1
  have hle := msgB_le hmm
  have HMF2 := hide (unhide HMF hmm)
  clear HMF
  go_enter Tryz.func18, Tryz.ntmps18
  go_wp2_with (first | rw [hw1] | refine wpList_load_wanted (by rfl) 34 _ rfl w.heap.size rfl 34 _ (0, 0) _ (unhide HW1) Tryz.underlying34 rfl (by kernel_rfl) ?_)
  refine (unhide HC1).mono ?_
  rintro e w2 ⟨rfl, hb2⟩
  have hx2 : w2.heap[w.heap.size]? = some (.cells #[.int .i64 aK, .int .i64 aF, .int .i64 aO, .int .i64 aT, .int .i64 aS, .int .i64 aL, .int .i64 aC, .bool aY, .slice la ll lc, .int .i64 ek, .int .i64 ef, .int .i64 en, .slice ta tl tc, .int .i64 ps, .int .i64 pi, .int .i64 pm, .slice da dl dc] 34) := (hb2.block _ (Array.getElem?_eq_some_iff.1 (unhide HW1)).1).trans (unhide HW1)
  have HX2 := hide hx2
  have HB2 : Hid (Below w.heap.size w w2) := (unhide HB1).trans (hb2.mono (unhide HB1).size)
  have HC2 := hide (unhide HMF2 w2 (unhide HB2))
  clear hb2 HC1 hx2 HMF2
  go_wp2_with (refine wpList_load_wanted (by rfl) 34 _ rfl w.heap.size rfl 34 _ (0, 0) _ (unhide HX2) Tryz.underlying34 rfl (by kernel_rfl) ?_)
  refine (unhide HC2).mono ?_
  rintro r w3 ⟨v3, rfl, o3, r3⟩
  have HB3 : Hid (Below w.heap.size w w3) := (unhide HB2).trans (r3.mono (unhide HB2).size)
  have HS3 := hide (sees_of_own o3).2
  obtain ⟨a3, c3, rfl⟩ := own_shape o3
  obtain ⟨zs, hzs⟩ : ∃ z, msgB m = z := ⟨_, rfl⟩
  have HZS := hide hzs
  rw [hzs] at hle HBY HS3
  rw [hzs]
  clear o3 r3 HC2 hzs
  by_cases hl : 1048576 < zs.length
  · have e1 : marE m = 3 := by simp [marE, hmm, unhide HZS, hl]
    have e2 : marB m = [] := by simp [marB, e1]
    have HE1 := hide e1
    have HE2 := hide e2
    clear e1 e2 HS3 HBY
    obtain ⟨n3, hn3⟩ : ∃ x, zs.length = x := ⟨_, rfl⟩
    rw [hn3] at hl hle
    rw [hn3]
    clear hn3
    go_wp2_with fail
    go_ret2
    rw [unhide HE1, unhide HE2]
    exact ⟨_, rfl, World.ownsRow_nil _ _ _ _, unhide HB3⟩
  · have e1 : marE m = 0 := by simp [marE, hmm, unhide HZS, hl]
    have e2 : marB m = sealB zs := by simp [marB, e1, unhide HZS]
    have HE1 := hide e1
    have HE2 := hide e2
    have HC3 := hide (refSeal_ok _ zs w3 (unhide HS3) (unhide HBY) (by omega))
    clear e1 e2 HS3 HBY
    obtain ⟨n3, hn3⟩ : ∃ x, zs.length = x := ⟨_, rfl⟩
    rw [hn3] at hl hle HC3
    rw [hn3]
    clear hn3
    go_wp2_with fail
    refine (unhide HC3).mono ?_
    rintro r w4 ⟨v4, rfl, o4, r4⟩
    have HF := hide (And.intro (own_mono o4 (unhide HB3).size) ((unhide HB3).trans (r4.mono (unhide HB3).size)))
    obtain ⟨a4, c4, rfl⟩ := own_shape o4
    obtain ⟨n4, hn4⟩ : ∃ x, (sealB zs).length = x := ⟨_, rfl⟩
    rw [hn4] at HF
    rw [hn4]
    have HN4 := hide hn4
    clear o4 r4 HC3 hn4
    go_wp2_with fail
    go_ret2
    rw [unhide HE1, unhide HE2, unhide HN4]
    exact ⟨_, rfl, unhide HF⟩
end Go.Proofs.YtggllgimlfchhaaGreat
