/- Several texts as one. -/
import Derived.Test.YtggllgimlfchhaaGreatKQ
import Derived.Test.YtggllgimlfchhaaGreatFE

/- The document's own Unseal, whole (package trivetref01): it comes to the same. -/
namespace Go.Proofs.YtggllgimlfchhaaGreat
open Go.RowKit
set_option maxRecDepth 100000

set_option maxHeartbeats 800000 in
theorem refUnseal_any (bv : Value) (zs : List Int) (w : World) (hs : Sees w .u8 bv zs) (hby : Byt zs) (hm : zs.length ≤ 140737488351232) :
    Calls Tryz.prog 52 #[bv] w fun e w' => ∃ x, e = .returned (.tuple #[x, .int .i64 (tu zs).2.1, .int .i64 (tu zs).2.2]) ∧ Sees w' .u8 x (tu zs).1 ∧ Below w.heap.size w w' := by
  have HT := hide (refTake_any bv zs w hs hby (by omega))
  have hle := tn_le zs
  have hp := tn_put zs hby
  unfold tu
  generalize tn zs = t at *
  obtain ⟨n, k, er⟩ := t
  dsimp only at hle hp ⊢
  obtain ⟨ao, cap, rfl, hlc, hnil, hc⟩ := hs
  have hs : Sees w .u8 (.slice ao zs.length cap) zs := ⟨ao, cap, rfl, hlc, hnil, hc⟩
  clear hc hnil
  by_cases he : er ≠ 0
  · rw [if_pos he]
    have hef : (er != 0) = true := by rw [bne_iff_ne]; exact he
    clear hle hp
    go_enter Tryz.func52, Tryz.ntmps52
    go_wp2_with (go_at_call 100; refine (unhide HT).mono ?_; rintro e w1 ⟨rfl, rfl⟩)
    go_ret3
    exact ⟨_, rfl, Sees.nil _ _, Below.refl _ _⟩
  have he0 : er = 0 := by simpa using he
  subst he0
  rw [if_neg he]
  obtain ⟨hk1, hk2⟩ := hle rfl
  obtain ⟨_, hn1, hn2⟩ := hp rfl
  clear hp hle he
  by_cases hn : n < 0
  · rw [if_pos hn]
    go_enter Tryz.func52, Tryz.ntmps52
    go_wp2_with (go_at_call 100; refine (unhide HT).mono ?_; rintro e w1 ⟨rfl, rfl⟩)
    go_ret3
    exact ⟨_, rfl, Sees.nil _ _, Below.refl _ _⟩
  rw [if_neg hn]
  by_cases hl : 1048576 < n
  · rw [if_pos hl]
    go_enter Tryz.func52, Tryz.ntmps52
    go_wp2_with (go_at_call 100; refine (unhide HT).mono ?_; rintro e w1 ⟨rfl, rfl⟩)
    go_ret3
    exact ⟨_, rfl, Sees.nil _ _, Below.refl _ _⟩
  rw [if_neg hl]
  by_cases hsh : (zs.length : Int) - k < n + 8
  · rw [if_pos hsh]
    go_enter Tryz.func52, Tryz.ntmps52
    go_wp2_with (go_at_call 100; refine (unhide HT).mono ?_; rintro e w1 ⟨rfl, rfl⟩)
    go_ret3
    exact ⟨_, rfl, Sees.nil _ _, Below.refl _ _⟩
  rw [if_neg hsh]
  obtain ⟨m, rfl⟩ := Int.eq_ofNat_of_zero_le (by omega : 0 ≤ n)
  rw [Int.toNat_natCast]
  have hb2 : Byt ((zs.drop (k + m)).take 8) := (hby.drop _).take _
  have hl2 : ((zs.drop (k + m)).take 8).length = 8 := by simp; omega
  obtain ⟨hc1, hc2⟩ := chkF_bounds c0 ((zs.drop k).take m) c0_bounds.1 c0_bounds.2
  have hvl := val_low _ hb2 hl2 _ hc1 hc2
  have hbe := str_beq (lowL_byte 8 (chkF c0 ((zs.drop k).take m))) hb2
  refine (refUnseal_rest ao cap k m zs w hs hby hm hlc (by omega) (by omega) HT _ rfl).mono ?_
  rintro e w' ⟨x, h1, hb⟩
  rw [hbe] at h1
  by_cases hv : valL ((zs.drop (k + m)).take 8) = chkF c0 ((zs.drop k).take m)
  · rw [if_neg (show ¬ (valL ((zs.drop (k + m)).take 8) ≠ chkF c0 ((zs.drop k).take m)) from fun h => h hv)]
    rw [decide_eq_true (hvl.2 hv), if_neg (by decide)] at h1
    exact ⟨x, h1.1, h1.2, hb⟩
  · rw [if_pos (show valL ((zs.drop (k + m)).take 8) ≠ chkF c0 ((zs.drop k).take m) from hv)]
    rw [decide_eq_false (fun h => hv (hvl.1 h)), if_pos (by decide)] at h1
    exact ⟨_, h1, Sees.nil _ _, hb⟩

theorem tu_byte (l : List Int) (hl : Byt l) : Byt (tu l).1 := by
  by_cases h : (tu l).2.2 ≠ 0
  · rw [(tu_no l h).1]; intro b hb; cases hb
  · unfold tu at h ⊢
    by_cases c1 : (tn l).2.2 ≠ 0
    · rw [if_pos c1]; intro b hb; cases hb
    rw [if_neg c1]
    by_cases c2 : (tn l).1 < 0
    · rw [if_pos c2]; intro b hb; cases hb
    rw [if_neg c2]
    by_cases c3 : 1048576 < (tn l).1
    · rw [if_pos c3]; intro b hb; cases hb
    rw [if_neg c3]
    by_cases c4 : (l.length : Int) - (tn l).2.1 < (tn l).1 + 8
    · rw [if_pos c4]; intro b hb; cases hb
    rw [if_neg c4]
    by_cases c5 : valL ((l.drop ((tn l).2.1 + (tn l).1.toNat)).take 8) ≠ chkF c0 ((l.drop (tn l).2.1).take (tn l).1.toNat)
    · rw [if_pos c5]; intro b hb; cases hb
    rw [if_neg c5]
    exact (hl.drop _).take _

end Go.Proofs.YtggllgimlfchhaaGreat

/- Record: the document's TakeEntry and Unmarshal. -/
namespace Go.Proofs.YtggllgimlfchhaaGreat
open Go.RowKit
set_option maxRecDepth 100000

theorem Dr.otherRow {w : World} {R lo b : Nat} {z0 : List Int} {s : RS} (h : Dr w R lo z0 s) (hb : R < b) (cs : Array Value) : Dr (w.setRow b cs) R lo z0 s := h.keep fun k hk => setRow_other _ _ _ _ (by omega)

set_option maxHeartbeats 3200000 in
theorem refTakeEntry_any (bv : Value) (zs : List Int) (w : World) (hs : Sees w .u8 bv zs) (hby : Byt zs) (hm : zs.length ≤ 140737488351232) :
    Calls Tryz.prog 21 #[bv] w fun e w' => ∃ cs, e = .returned (.tuple #[.agg cs, .int .i64 (dtakeE zs).2]) ∧ OwnE w.heap.size w' cs (dtakeE zs).1 ∧ Below w.heap.size w w' := by
  obtain ⟨ao, cap, rfl, _⟩ := id hs
  have hal : Below w.heap.size w ((w.alloc (.cells #[.int .i64 0, .int .i64 0, .int .i64 0, .slice none 0 0] 29)).alloc (.cells #[.slice ao zs.length cap, .int .i64 0, .int .i64 0, .bool false] 81)) := ((Below.refl _ _).alloc (Nat.le_refl _) _).alloc (by simp) _
  have hszw : (w.alloc (.cells #[.int .i64 0, .int .i64 0, .int .i64 0, .slice none 0 0] 29)).heap.size = w.heap.size + 1 := by simp
  have hRb : ((w.alloc (.cells #[.int .i64 0, .int .i64 0, .int .i64 0, .slice none 0 0] 29)).alloc (.cells #[.slice ao zs.length cap, .int .i64 0, .int .i64 0, .bool false] 81)).heap[w.heap.size + 1]? = some (.cells #[.slice ao zs.length cap, .int .i64 0, .int .i64 0, .bool false] 81) := by have := heap_alloc_new (w.alloc (.cells #[.int .i64 0, .int .i64 0, .int .i64 0, .slice none 0 0] 29)) (.cells #[.slice ao zs.length cap, .int .i64 0, .int .i64 0, .bool false] 81); rw [hszw] at this; exact this
  have hZb : ((w.alloc (.cells #[.int .i64 0, .int .i64 0, .int .i64 0, .slice none 0 0] 29)).alloc (.cells #[.slice ao zs.length cap, .int .i64 0, .int .i64 0, .bool false] 81)).heap[w.heap.size]? = some (.cells #[.int .i64 0, .int .i64 0, .int .i64 0, .slice none 0 0] 29) := (Below.heap_alloc _ _ _ (by simp)).trans (heap_alloc_new w _)
  have hRd : Dr ((w.alloc (.cells #[.int .i64 0, .int .i64 0, .int .i64 0, .slice none 0 0] 29)).alloc (.cells #[.slice ao zs.length cap, .int .i64 0, .int .i64 0, .bool false] 81)) (w.heap.size + 1) w.heap.size zs ⟨zs, 0, false⟩ :=
    ⟨⟨_, cell_of_heap hRb, hs.upto.below hal (Nat.le_refl _)⟩, ⟨0, cell_of_heap hRb, Nat.zero_le _, rfl⟩, cell_of_heap hRb, cell_of_heap hRb, fun o => frozen_of_heap hRb, by omega, hby, hm⟩
  obtain ⟨ent, s1, hes⟩ : ∃ e s', (RS.mk zs 0 false).dentry = (e, s') := ⟨_, _, rfl⟩
  have hbyt := (dentry_byt (s := ⟨zs, 0, false⟩) hby).2
  have hte : dtakeE zs = (if s1.fin.fault (mayE ent) = 0 then (ent, 0) else (dE, s1.fin.fault (mayE ent))) := by simp only [dtakeE, hes]
  have HC0 := hide (entry_d hRd)
  rw [hes] at hbyt HC0
  simp only at hbyt HC0
  have HRT := hide hbyt
  have HZ0 := hide hZb
  have HB0 : Hid (Below w.heap.size w ((w.alloc (.cells #[.int .i64 0, .int .i64 0, .int .i64 0, .slice none 0 0] 29)).alloc (.cells #[.slice ao zs.length cap, .int .i64 0, .int .i64 0, .bool false] 81))) := hal
  have HSZ0 : Hid (((w.alloc (.cells #[.int .i64 0, .int .i64 0, .int .i64 0, .slice none 0 0] 29)).alloc (.cells #[.slice ao zs.length cap, .int .i64 0, .int .i64 0, .bool false] 81)).heap.size = w.heap.size + 2) := by show _ = _; simp
  obtain ⟨F, hF⟩ : ∃ F, s1.fin.fault (mayE ent) = F := ⟨_, rfl⟩
  rw [hF] at hte
  have HF := hide hF
  clear hal hRd hRb hZb hes hbyt hby hm hs hF
  obtain ⟨TE, hTE⟩ : ∃ r, dtakeE zs = r := ⟨_, rfl⟩
  rw [hTE] at hte ⊢
  have HTE := hide hte
  clear hTE hte
  go_enter Tryz.func21, Tryz.ntmps21
  go_wp2_with fail
  refine (unhide HC0).mono ?_
  rintro e y1 ⟨cs, rfl, hoe, p1, q1⟩
  obtain ⟨tv, rfl, hot⟩ := hoe
  obtain ⟨ax, ct, rfl⟩ := hot.shape
  have hsz0 := unhide HSZ0
  have hz1 : y1.heap[w.heap.size]? = some (.cells #[.int .i64 0, .int .i64 0, .int .i64 0, .slice none 0 0] 29) := q1.same (unhide HZ0) (by omega)
  have hb1 : Below w.heap.size w y1 := (unhide HB0).trans (q1.below (by omega) (by omega))
  have hsy := q1.size
  obtain ⟨ek, ek'⟩ : ∃ x, ent.kind = x := ⟨_, rfl⟩
  obtain ⟨ef, ef'⟩ : ∃ x, ent.frm = x := ⟨_, rfl⟩
  obtain ⟨en, en'⟩ : ∃ x, ent.num = x := ⟨_, rfl⟩
  obtain ⟨tl, tl'⟩ : ∃ x, ent.txns.length = x := ⟨_, rfl⟩
  rw [tl'] at hot
  rw [ek', ef', en', tl']
  have hal1 : Below y1.heap.size y1 (y1.alloc (.cells #[.int .i64 ek, .int .i64 ef, .int .i64 en, .slice ax tl ct] 29)) := (Below.refl _ _).alloc (Nat.le_refl _) _
  have hx1 : (y1.alloc (.cells #[.int .i64 ek, .int .i64 ef, .int .i64 en, .slice ax tl ct] 29)).heap[y1.heap.size]? = some (.cells #[.int .i64 ek, .int .i64 ef, .int .i64 en, .slice ax tl ct] 29) := heap_alloc_new y1 _
  have hz1b : (y1.alloc (.cells #[.int .i64 ek, .int .i64 ef, .int .i64 en, .slice ax tl ct] 29)).heap[w.heap.size]? = some (.cells #[.int .i64 0, .int .i64 0, .int .i64 0, .slice none 0 0] 29) := (Below.heap_alloc _ _ _ (by omega)).trans hz1
  have hot1 : OwnTs (w.heap.size + 2) (y1.alloc (.cells #[.int .i64 ek, .int .i64 ef, .int .i64 en, .slice ax tl ct] 29)) (.slice ax tl ct) ent.txns := (hot.mono (by omega)).below hal1
  have HC1 := hide (end_d (p1.below hal1))
  have HX1 := hide (And.intro hx1 hz1b)
  have HOT1 := hide hot1
  have HBw1 : Hid (Below w.heap.size w (y1.alloc (.cells #[.int .i64 ek, .int .i64 ef, .int .i64 en, .slice ax tl ct] 29))) := hb1.trans (hal1.mono hb1.size)
  have HEQ : Hid ((#[.int .i64 ent.kind, .int .i64 ent.frm, .int .i64 ent.num, .slice ax tl ct] : Array Value) = #[.int .i64 ek, .int .i64 ef, .int .i64 en, .slice ax tl ct]) := by show _ = _; rw [ek', ef', en']
  have HYS : Hid (w.heap.size + 2 ≤ y1.heap.size) := by show _ ≤ _; omega
  clear p1 q1 hot hot1 hx1 hz1b hal1 hz1 hb1 hsy ek' ef' en' tl' HC0 hsz0
  obtain ⟨B1, hB1⟩ : ∃ B, y1.heap.size = B := ⟨_, rfl⟩
  rw [hB1] at HX1 HYS
  go_wp2_with fail
  refine (unhide HC1).mono ?_
  rintro e y2 ⟨rfl, p2, q2⟩
  have hB1s := unhide HYS
  have hx2 := q2.same (unhide HX1).1 (by omega)
  have hz2 := q2.same (unhide HX1).2 (by omega)
  have hot2 := (unhide HOT1).but q2 (by omega)
  have hseeE : SeesE y2 #[.int .i64 ek, .int .i64 ef, .int .i64 en, .slice ax tl ct] ent := ⟨_, (unhide HEQ).symm, hot2.sees (unhide HRT).1 (unhide HRT).2⟩
  have HC2 := hide (mayEntry_any _ ent y2 hseeE (fun t ht => ⟨((unhide HRT).2 t ht).code, by have := ((unhide HRT).2 t ht).args; omega⟩))
  have HBw2 : Hid (Below w.heap.size w y2) := (unhide HBw1).trans (q2.below (by omega) (by have := (unhide HBw1).size; omega))
  have t0 : y2.cell? ⟨B1, 0, none⟩ = some (.int .i64 ek) := cell_of_heap hx2
  have t1 : y2.cell? ⟨B1, 1, none⟩ = some (.int .i64 ef) := cell_of_heap hx2
  have t2 : y2.cell? ⟨B1, 2, none⟩ = some (.int .i64 en) := cell_of_heap hx2
  have t3 : y2.cell? ⟨B1, 3, none⟩ = some (.slice ax tl ct) := cell_of_heap hx2
  have HX2 := hide (And.intro hx2 hz2)
  have HP2 := hide p2
  have HOT2 := hide hot2
  have HS2 : Hid (B1 < y2.heap.size ∧ w.heap.size < y2.heap.size) := ⟨(Array.getElem?_eq_some_iff.1 hx2).1, (Array.getElem?_eq_some_iff.1 hz2).1⟩
  clear p2 q2 hx2 hz2 hot2 hseeE HC1
  go_wp2_with fail
  refine (unhide HC2).mono ?_
  rintro e y3 ⟨rfl, hb3⟩
  have HC3 := hide (ends_d ((unhide HP2).below hb3) (mayE ent))
  have hx3 : y3.heap[B1]? = some (.cells #[.int .i64 ek, .int .i64 ef, .int .i64 en, .slice ax tl ct] 29) := (hb3.block B1 (unhide HS2).1).trans (unhide HX2).1
  have hz3 : y3.heap[w.heap.size]? = some (.cells #[.int .i64 0, .int .i64 0, .int .i64 0, .slice none 0 0] 29) := (hb3.block w.heap.size (unhide HS2).2).trans (unhide HX2).2
  have HOT3 := hide ((unhide HOT2).below hb3)
  have HBw3 : Hid (Below w.heap.size w y3) := (unhide HBw2).trans (hb3.mono (unhide HBw2).size)
  rw [unhide HF] at HC3
  have u0 : y3.cell? ⟨B1, 0, none⟩ = some (.int .i64 ek) := cell_of_heap hx3
  have u1 : y3.cell? ⟨B1, 1, none⟩ = some (.int .i64 ef) := cell_of_heap hx3
  have u2 : y3.cell? ⟨B1, 2, none⟩ = some (.int .i64 en) := cell_of_heap hx3
  have u3 : y3.cell? ⟨B1, 3, none⟩ = some (.slice ax tl ct) := cell_of_heap hx3
  have z0 : y3.cell? ⟨w.heap.size, 0, none⟩ = some (.int .i64 0) := cell_of_heap hz3
  have z1 : y3.cell? ⟨w.heap.size, 1, none⟩ = some (.int .i64 0) := cell_of_heap hz3
  have z2 : y3.cell? ⟨w.heap.size, 2, none⟩ = some (.int .i64 0) := cell_of_heap hz3
  have z3 : y3.cell? ⟨w.heap.size, 3, none⟩ = some (.slice none 0 0) := cell_of_heap hz3
  have fz : ∀ o, y3.frozen? ⟨w.heap.size, o, none⟩ = false := fun o => frozen_of_heap hz3
  have HZ3 := hide hz3
  clear hb3 hx3 hz3 HC2
  go_wp2_with fail
  refine (unhide HC3).mono ?_
  rintro e y4 ⟨rfl, rfl⟩
  clear HC3
  by_cases hF0 : F = 0
  · subst hF0
    have hTE : TE = (ent, 0) := (unhide HTE).trans (if_pos rfl)
    have HT := hide hTE
    clear hTE
    go_wp2
    refine bodyPost_ret (results_cell_row_tmp rfl _ _ w.heap.size 29 #[.int .i64 ek, .int .i64 ef, .int .i64 en, .slice ax tl ct] (0, 0) _ rfl (setCell_heap (setCell_heap (setCell_heap (setCell_heap (unhide HZ3))))) Tryz.underlying29 rfl (by kernel_rfl)) rfl ?_
    rw [unhide HT]
    exact ⟨_, rfl, ⟨_, (unhide HEQ).symm, (((((unhide HOT3).setR (by omega)).setR (by omega)).setR (by omega)).setR (by omega)).mono (by omega)⟩, (((((unhide HBw3).setCell (p := ⟨w.heap.size, 0, none⟩) (Nat.le_refl _) _).setCell (p := ⟨w.heap.size, 1, none⟩) (Nat.le_refl _) _).setCell (p := ⟨w.heap.size, 2, none⟩) (Nat.le_refl _) _).setCell (p := ⟨w.heap.size, 3, none⟩) (Nat.le_refl _) _)⟩
  · have hTE : TE = (dE, F) := (unhide HTE).trans (if_neg hF0)
    have HT := hide hTE
    have hFb : (F != 0) = true := by simpa using hF0
    clear hTE
    go_wp2
    refine bodyPost_ret (results_cell_row_tmp rfl _ _ w.heap.size 29 #[.int .i64 0, .int .i64 0, .int .i64 0, .slice none 0 0] (0, 0) _ rfl (setCell_heap (setCell_heap (setCell_heap (setCell_heap (unhide HZ3))))) Tryz.underlying29 rfl (by kernel_rfl)) rfl ?_
    rw [unhide HT]
    exact ⟨_, rfl, ⟨_, rfl, OwnTs.nil _ _⟩, (((((unhide HBw3).setCell (p := ⟨w.heap.size, 0, none⟩) (Nat.le_refl _) _).setCell (p := ⟨w.heap.size, 1, none⟩) (Nat.le_refl _) _).setCell (p := ⟨w.heap.size, 2, none⟩) (Nat.le_refl _) _).setCell (p := ⟨w.heap.size, 3, none⟩) (Nat.le_refl _) _)⟩

set_option maxHeartbeats 1600000 in
theorem refUnmarshal_any (bv : Value) (zs : List Int) (w : World) (hs : Sees w .u8 bv zs) (hby : Byt zs) (hm : zs.length ≤ 140737488351232) :
    Calls Tryz.prog 23 #[bv] w fun e w' => ∃ cs, e = .returned (.tuple #[.agg cs, .int .i64 (dunm zs).2]) ∧ OwnM w.heap.size w' cs (dunm zs).1 ∧ Below w.heap.size w w' := by
  have hsm := tu_small zs
  have hbt := tu_byt hby
  obtain ⟨d, sz, er, htu⟩ : ∃ d sz er, tu zs = (d, sz, er) := ⟨_, _, _, rfl⟩
  obtain ⟨U, hU⟩ : ∃ u, dunm zs = u := ⟨_, rfl⟩
  have hUN : U = if er ≠ 0 then (dG, er) else if sz < zs.length then (dG, 13) else finM (RS.mk d 0 false).dmsg := by rw [← hU]; simp only [dunm, htu]
  have hal : Below w.heap.size w (w.alloc (.cells #[.int .i64 0, .int .i64 0, .int .i64 0, .int .i64 0, .int .i64 0, .int .i64 0, .int .i64 0, .bool false, .slice none 0 0, .int .i64 0, .int .i64 0, .int .i64 0, .slice none 0 0, .int .i64 0, .int .i64 0, .int .i64 0, .slice none 0 0] 34)) := (Below.refl _ _).alloc (Nat.le_refl _) _
  have hz0 : (w.alloc (.cells #[.int .i64 0, .int .i64 0, .int .i64 0, .int .i64 0, .int .i64 0, .int .i64 0, .int .i64 0, .bool false, .slice none 0 0, .int .i64 0, .int .i64 0, .int .i64 0, .slice none 0 0, .int .i64 0, .int .i64 0, .int .i64 0, .slice none 0 0] 34)).heap[w.heap.size]? = some (.cells #[.int .i64 0, .int .i64 0, .int .i64 0, .int .i64 0, .int .i64 0, .int .i64 0, .int .i64 0, .bool false, .slice none 0 0, .int .i64 0, .int .i64 0, .int .i64 0, .slice none 0 0, .int .i64 0, .int .i64 0, .int .i64 0, .slice none 0 0] 34) := heap_alloc_new w _
  have hs0 : (w.alloc (.cells #[.int .i64 0, .int .i64 0, .int .i64 0, .int .i64 0, .int .i64 0, .int .i64 0, .int .i64 0, .bool false, .slice none 0 0, .int .i64 0, .int .i64 0, .int .i64 0, .slice none 0 0, .int .i64 0, .int .i64 0, .int .i64 0, .slice none 0 0] 34)).heap.size = w.heap.size + 1 := by simp
  have HC0 := hide (refUnseal_any _ zs _ (hs.below hal) hby hm)
  rw [htu] at HC0 hsm hbt
  simp only at HC0 hsm hbt
  rw [hU]
  obtain ⟨ao, cap, rfl, _⟩ := hs
  obtain ⟨len, hlen⟩ : ∃ n, zs.length = n := ⟨_, rfl⟩
  rw [hlen] at HC0 hUN hm
  rw [hlen]
  obtain ⟨w1, hw1⟩ : ∃ y, w.alloc (.cells #[.int .i64 0, .int .i64 0, .int .i64 0, .int .i64 0, .int .i64 0, .int .i64 0, .int .i64 0, .bool false, .slice none 0 0, .int .i64 0, .int .i64 0, .int .i64 0, .slice none 0 0, .int .i64 0, .int .i64 0, .int .i64 0, .slice none 0 0] 34) = y := ⟨_, rfl⟩
  rw [hw1] at hal hz0 hs0 HC0
  have HAL := hide hal
  have HZ0 := hide hz0
  have HS0 := hide hs0
  have HSM := hide hsm
  have HBT := hide hbt
  have HUN := hide hUN
  clear hal hz0 hs0 hsm hbt hUN htu hU hlen hby
  go_enter Tryz.func23, Tryz.ntmps23
  go_wp2_with (rw [hw1])
  refine (unhide HC0).mono ?_
  rintro e w2 ⟨x, rfl, ox, hb2⟩
  have hB2 : Below w.heap.size w w2 := (unhide HAL).trans (hb2.mono (unhide HAL).size)
  have hz2 : w2.heap[w.heap.size]? = some (.cells #[.int .i64 0, .int .i64 0, .int .i64 0, .int .i64 0, .int .i64 0, .int .i64 0, .int .i64 0, .bool false, .slice none 0 0, .int .i64 0, .int .i64 0, .int .i64 0, .slice none 0 0, .int .i64 0, .int .i64 0, .int .i64 0, .slice none 0 0] 34) := (hb2.block _ (by have := unhide HS0; omega)).trans (unhide HZ0)
  have HOX := hide ox
  obtain ⟨xa, xc, rfl, _⟩ := ox
  have HB2 := hide hB2
  have HZ2 := hide hz2
  clear hb2 hB2 HC0 hz2
  by_cases he : er = 0
  case neg =>
    have heb : (er != 0) = true := by simpa using he
    have hU : U = (dG, er) := (unhide HUN).trans (if_pos he)
    have HU := hide hU
    clear hU HUN
    obtain ⟨dl, hdl⟩ : ∃ n, d.length = n := ⟨_, rfl⟩
    rw [hdl]
    clear hdl HOX
    go_wp2_with (refine wpList_store_row rfl 34 _ _ rfl w.heap.size _ _ rfl rfl 34 (unhide HZ2) (by kernel_rfl) rfl (by first | kernel_rfl | simp [Value.oneCell']) ?_)
    refine bodyPost_ret (results_cell_row_tmp rfl _ _ w.heap.size 34 #[.int .i64 0, .int .i64 0, .int .i64 0, .int .i64 0, .int .i64 0, .int .i64 0, .int .i64 0, .bool false, .slice none 0 0, .int .i64 0, .int .i64 0, .int .i64 0, .slice none 0 0, .int .i64 0, .int .i64 0, .int .i64 0, .slice none 0 0] (0, 0) _ rfl (setRow_heap _ _ _ _ _ _ (unhide HZ2)) Tryz.underlying34 rfl (by kernel_rfl)) rfl ?_
    rw [unhide HU]
    exact ⟨_, rfl, ownM_zero _ _, below_setRow (unhide HB2) (Nat.le_refl _)⟩
  subst he
  by_cases hsz : (sz : Int) < (len : Int)
  · have hU : U = (dG, 13) := (unhide HUN).trans ((if_neg (by simp)).trans (if_pos (by omega)))
    have HU := hide hU
    clear hU HUN
    obtain ⟨dl, hdl⟩ : ∃ n, d.length = n := ⟨_, rfl⟩
    rw [hdl]
    clear hdl HOX
    go_wp2_with (refine wpList_store_row rfl 34 _ _ rfl w.heap.size _ _ rfl rfl 34 (unhide HZ2) (by kernel_rfl) rfl (by first | kernel_rfl | simp [Value.oneCell']) ?_)
    refine bodyPost_ret (results_cell_row_tmp rfl _ _ w.heap.size 34 #[.int .i64 0, .int .i64 0, .int .i64 0, .int .i64 0, .int .i64 0, .int .i64 0, .int .i64 0, .bool false, .slice none 0 0, .int .i64 0, .int .i64 0, .int .i64 0, .slice none 0 0, .int .i64 0, .int .i64 0, .int .i64 0, .slice none 0 0] (0, 0) _ rfl (setRow_heap _ _ _ _ _ _ (unhide HZ2)) Tryz.underlying34 rfl (by kernel_rfl)) rfl ?_
    rw [unhide HU]
    exact ⟨_, rfl, ownM_zero _ _, below_setRow (unhide HB2) (Nat.le_refl _)⟩
  have hU : U = finM (RS.mk d 0 false).dmsg := (unhide HUN).trans ((if_neg (by simp)).trans (if_neg (by omega)))
  have hrm := dmsg_byt (s := RS.mk d 0 false) (unhide HBT)
  have hx := unhide HOX
  have hal3 : Below w2.heap.size w2 (w2.alloc (.cells #[.slice xa d.length xc, .int .i64 0, .int .i64 0, .bool false] 81)) := (Below.refl _ _).alloc (Nat.le_refl _) _
  have hR3 : (w2.alloc (.cells #[.slice xa d.length xc, .int .i64 0, .int .i64 0, .bool false] 81)).heap[w2.heap.size]? = some (.cells #[.slice xa d.length xc, .int .i64 0, .int .i64 0, .bool false] 81) := heap_alloc_new w2 _
  have hRd : Dr (w2.alloc (.cells #[.slice xa d.length xc, .int .i64 0, .int .i64 0, .bool false] 81)) w2.heap.size w2.heap.size d ⟨d, 0, false⟩ :=
    ⟨⟨_, cell_of_heap hR3, hx.upto.below hal3 (Nat.le_refl _)⟩, ⟨0, cell_of_heap hR3, Nat.zero_le _, rfl⟩, cell_of_heap hR3, cell_of_heap hR3, fun o => frozen_of_heap hR3, Nat.le_refl _, unhide HBT, by have := unhide HSM; show d.length ≤ _; omega⟩
  have hs2 : w.heap.size < w2.heap.size := (Array.getElem?_eq_some_iff.1 (unhide HZ2)).1
  have hz3 : (w2.alloc (.cells #[.slice xa d.length xc, .int .i64 0, .int .i64 0, .bool false] 81)).heap[w.heap.size]? = some (.cells #[.int .i64 0, .int .i64 0, .int .i64 0, .int .i64 0, .int .i64 0, .int .i64 0, .int .i64 0, .bool false, .slice none 0 0, .int .i64 0, .int .i64 0, .int .i64 0, .slice none 0 0, .int .i64 0, .int .i64 0, .int .i64 0, .slice none 0 0] 34) := (hal3.block _ hs2).trans (unhide HZ2)
  have hs3 : (w2.alloc (.cells #[.slice xa d.length xc, .int .i64 0, .int .i64 0, .bool false] 81)).heap.size = w2.heap.size + 1 := by simp
  have hC := msg_d hRd
  obtain ⟨mg, s1, hms⟩ : ∃ m s', (RS.mk d 0 false).dmsg = (m, s') := ⟨_, _, rfl⟩
  rw [hms] at hC hrm hU
  simp only at hC hrm
  obtain ⟨F, hF⟩ : ∃ F, s1.fin.fault (mayMsg mg) = F := ⟨_, rfl⟩
  have hU2 : U = if F = 0 then (mg, 0) else (dG, F) := by rw [hU, ← hF]; rfl
  obtain ⟨w3, hw3⟩ : ∃ y, w2.alloc (.cells #[.slice xa d.length xc, .int .i64 0, .int .i64 0, .bool false] 81) = y := ⟨_, rfl⟩
  rw [hw3] at hal3 hRd hz3 hs3 hC
  have hB3 : Below w.heap.size w w3 := (unhide HB2).trans (hal3.mono (unhide HB2).size)
  obtain ⟨R, hR⟩ : ∃ n, w2.heap.size = n := ⟨_, rfl⟩
  rw [hR] at hC hs2 hs3
  obtain ⟨dn, hdl⟩ : ∃ n, d.length = n := ⟨_, rfl⟩
  rw [hdl] at hw3
  rw [hdl]
  have HC3 := hide hC
  have HRM := hide hrm
  have HF := hide hF
  have HU := hide hU2
  have HZ3 := hide hz3
  have HB3 := hide hB3
  have HS3 := hide hs3
  clear hU hrm hx hal3 hR3 hRd hz3 hs3 hC hms hF hU2 hB3 hdl HOX HUN HBT HSM
  go_wp2_with (first | rw [hw3] | rw [hR])
  refine (unhide HC3).mono ?_
  rintro e y1 ⟨cs, rfl, om, p1, q1⟩
  have hS3 := unhide HS3
  have hz1 : y1.heap[w.heap.size]? = some (.cells #[.int .i64 0, .int .i64 0, .int .i64 0, .int .i64 0, .int .i64 0, .int .i64 0, .int .i64 0, .bool false, .slice none 0 0, .int .i64 0, .int .i64 0, .int .i64 0, .slice none 0 0, .int .i64 0, .int .i64 0, .int .i64 0, .slice none 0 0] 34) := q1.same (unhide HZ3) (by omega)
  have hb1 : Below w.heap.size w y1 := (unhide HB3).trans (q1.below (by omega) (by omega))
  have hsy : R + 1 ≤ y1.heap.size := by have := q1.size; omega
  obtain ⟨lv, tv, dv, rfl, o1, o2, o3⟩ := om
  obtain ⟨la, lc, rfl⟩ := o1.shape
  obtain ⟨ta, tc, rfl⟩ := o2.shape
  obtain ⟨da, dc, rfl⟩ := own_shape o3
  have om2 : OwnM (R + 1) y1 _ mg := OwnM.mono ⟨_, _, _, rfl, o1, o2, o3⟩ (by omega)
  obtain ⟨aK, eK⟩ : ∃ x, mg.kind = x := ⟨_, rfl⟩
  obtain ⟨aF, eF⟩ : ∃ x, mg.frm = x := ⟨_, rfl⟩
  obtain ⟨aO, eO⟩ : ∃ x, mg.to = x := ⟨_, rfl⟩
  obtain ⟨aT, eT⟩ : ∃ x, mg.term = x := ⟨_, rfl⟩
  obtain ⟨aS, eS⟩ : ∃ x, mg.slot = x := ⟨_, rfl⟩
  obtain ⟨aL, eL⟩ : ∃ x, mg.last = x := ⟨_, rfl⟩
  obtain ⟨aC, eC⟩ : ∃ x, mg.commit = x := ⟨_, rfl⟩
  obtain ⟨aY, eY⟩ : ∃ x, mg.yes = x := ⟨_, rfl⟩
  obtain ⟨ll, el⟩ : ∃ x, mg.list.length = x := ⟨_, rfl⟩
  obtain ⟨ek, eek⟩ : ∃ x, mg.ent.kind = x := ⟨_, rfl⟩
  obtain ⟨ef, eef⟩ : ∃ x, mg.ent.frm = x := ⟨_, rfl⟩
  obtain ⟨en, een⟩ : ∃ x, mg.ent.num = x := ⟨_, rfl⟩
  obtain ⟨tl, etl⟩ : ∃ x, mg.ent.txns.length = x := ⟨_, rfl⟩
  obtain ⟨ps, eps⟩ : ∃ x, mg.part.slot = x := ⟨_, rfl⟩
  obtain ⟨pi, epi⟩ : ∃ x, mg.part.idx = x := ⟨_, rfl⟩
  obtain ⟨pm, epm⟩ : ∃ x, mg.part.many = x := ⟨_, rfl⟩
  obtain ⟨dl, edl⟩ : ∃ x, mg.part.data.length = x := ⟨_, rfl⟩
  rw [eK, eF, eO, eT, eS, eL, eC, eY, el, eek, eef, een, etl, eps, epi, epm, edl] at om2
  rw [eK, eF, eO, eT, eS, eL, eC, eY, el, eek, eef, een, etl, eps, epi, epm, edl]
  clear o1 o2 o3 eK eF eO eT eS eL eC eY el eek eef een etl eps epi epm edl
  have hal4 : Below y1.heap.size y1 (y1.alloc (.cells #[.int .i64 0, .int .i64 0, .int .i64 0, .int .i64 0, .int .i64 0, .int .i64 0, .int .i64 0, .bool false, .slice none 0 0, .int .i64 0, .int .i64 0, .int .i64 0, .slice none 0 0, .int .i64 0, .int .i64 0, .int .i64 0, .slice none 0 0] 34)) := (Below.refl _ _).alloc (Nat.le_refl _) _
  have hx4 : (y1.alloc (.cells #[.int .i64 0, .int .i64 0, .int .i64 0, .int .i64 0, .int .i64 0, .int .i64 0, .int .i64 0, .bool false, .slice none 0 0, .int .i64 0, .int .i64 0, .int .i64 0, .slice none 0 0, .int .i64 0, .int .i64 0, .int .i64 0, .slice none 0 0] 34)).heap[y1.heap.size]? = some (.cells #[.int .i64 0, .int .i64 0, .int .i64 0, .int .i64 0, .int .i64 0, .int .i64 0, .int .i64 0, .bool false, .slice none 0 0, .int .i64 0, .int .i64 0, .int .i64 0, .slice none 0 0, .int .i64 0, .int .i64 0, .int .i64 0, .slice none 0 0] 34) := heap_alloc_new y1 _
  have hz4 : (y1.alloc (.cells #[.int .i64 0, .int .i64 0, .int .i64 0, .int .i64 0, .int .i64 0, .int .i64 0, .int .i64 0, .bool false, .slice none 0 0, .int .i64 0, .int .i64 0, .int .i64 0, .slice none 0 0, .int .i64 0, .int .i64 0, .int .i64 0, .slice none 0 0] 34)).heap[w.heap.size]? = some (.cells #[.int .i64 0, .int .i64 0, .int .i64 0, .int .i64 0, .int .i64 0, .int .i64 0, .int .i64 0, .bool false, .slice none 0 0, .int .i64 0, .int .i64 0, .int .i64 0, .slice none 0 0, .int .i64 0, .int .i64 0, .int .i64 0, .slice none 0 0] 34) := (Below.heap_alloc _ _ _ (by omega)).trans hz1
  obtain ⟨ya, hya⟩ : ∃ y, y1.alloc (.cells #[.int .i64 0, .int .i64 0, .int .i64 0, .int .i64 0, .int .i64 0, .int .i64 0, .int .i64 0, .bool false, .slice none 0 0, .int .i64 0, .int .i64 0, .int .i64 0, .slice none 0 0, .int .i64 0, .int .i64 0, .int .i64 0, .slice none 0 0] 34) = y := ⟨_, rfl⟩
  obtain ⟨M, hM⟩ : ∃ n, y1.heap.size = n := ⟨_, rfl⟩
  rw [hya] at hal4 hx4 hz4
  rw [hM] at hx4 hsy
  have pa := p1.below hal4
  have oma : OwnM (R + 1) ya #[.int .i64 aK, .int .i64 aF, .int .i64 aO, .int .i64 aT, .int .i64 aS, .int .i64 aL, .int .i64 aC, .bool aY, .slice la ll lc, .int .i64 ek, .int .i64 ef, .int .i64 en, .slice ta tl tc, .int .i64 ps, .int .i64 pi, .int .i64 pm, .slice da dl dc] mg := om2.same fun k _ hl => hal4.block k hl
  have hba : Below w.heap.size w ya := hb1.trans (hal4.mono hb1.size)
  have hsa : M + 1 ≤ ya.heap.size := by have := (Array.getElem?_eq_some_iff.1 hx4).1; omega
  have hxb := setRow_heap ya M _ #[.int .i64 aK, .int .i64 aF, .int .i64 aO, .int .i64 aT, .int .i64 aS, .int .i64 aL, .int .i64 aC, .bool aY, .slice la ll lc, .int .i64 ek, .int .i64 ef, .int .i64 en, .slice ta tl tc, .int .i64 ps, .int .i64 pi, .int .i64 pm, .slice da dl dc] 34 (0, 0) hx4
  have hzb : (ya.setRow M #[.int .i64 aK, .int .i64 aF, .int .i64 aO, .int .i64 aT, .int .i64 aS, .int .i64 aL, .int .i64 aC, .bool aY, .slice la ll lc, .int .i64 ek, .int .i64 ef, .int .i64 en, .slice ta tl tc, .int .i64 ps, .int .i64 pi, .int .i64 pm, .slice da dl dc]).heap[w.heap.size]? = some (.cells #[.int .i64 0, .int .i64 0, .int .i64 0, .int .i64 0, .int .i64 0, .int .i64 0, .int .i64 0, .bool false, .slice none 0 0, .int .i64 0, .int .i64 0, .int .i64 0, .slice none 0 0, .int .i64 0, .int .i64 0, .int .i64 0, .slice none 0 0] 34) := (setRow_other _ _ _ _ (by omega)).trans hz4
  have pb := pa.otherRow (b := M) (by omega) #[.int .i64 aK, .int .i64 aF, .int .i64 aO, .int .i64 aT, .int .i64 aS, .int .i64 aL, .int .i64 aC, .bool aY, .slice la ll lc, .int .i64 ek, .int .i64 ef, .int .i64 en, .slice ta tl tc, .int .i64 ps, .int .i64 pi, .int .i64 pm, .slice da dl dc]
  have hbb := below_setRow hba (cs := #[.int .i64 aK, .int .i64 aF, .int .i64 aO, .int .i64 aT, .int .i64 aS, .int .i64 aL, .int .i64 aC, .bool aY, .slice la ll lc, .int .i64 ek, .int .i64 ef, .int .i64 en, .slice ta tl tc, .int .i64 ps, .int .i64 pi, .int .i64 pm, .slice da dl dc]) (g := M) (by omega)
  have omb : OwnM (R + 1) (ya.setRow M #[.int .i64 aK, .int .i64 aF, .int .i64 aO, .int .i64 aT, .int .i64 aS, .int .i64 aL, .int .i64 aC, .bool aY, .slice la ll lc, .int .i64 ek, .int .i64 ef, .int .i64 en, .slice ta tl tc, .int .i64 ps, .int .i64 pi, .int .i64 pm, .slice da dl dc]) #[.int .i64 aK, .int .i64 aF, .int .i64 aO, .int .i64 aT, .int .i64 aS, .int .i64 aL, .int .i64 aC, .bool aY, .slice la ll lc, .int .i64 ek, .int .i64 ef, .int .i64 en, .slice ta tl tc, .int .i64 ps, .int .i64 pi, .int .i64 pm, .slice da dl dc] mg := ownM_setRow oma hx4 _
  obtain ⟨yb, hyb⟩ : ∃ y, ya.setRow M #[.int .i64 aK, .int .i64 aF, .int .i64 aO, .int .i64 aT, .int .i64 aS, .int .i64 aL, .int .i64 aC, .bool aY, .slice la ll lc, .int .i64 ek, .int .i64 ef, .int .i64 en, .slice ta tl tc, .int .i64 ps, .int .i64 pi, .int .i64 pm, .slice da dl dc] = y := ⟨_, rfl⟩
  rw [hyb] at hxb hzb pb hbb omb
  have HX4 := hide hx4
  have HXB := hide (And.intro hxb hzb)
  have HBB := hide hbb
  have HOB := hide omb
  have HC4 := hide (end_d pb)
  have hMR : R < M := by omega
  clear hz1 hb1 hsy om2 hal4 hx4 hz4 pa oma hba hsa hxb hzb pb hbb omb p1 q1 HC3
  go_wp2_with (first | rw [hya] | rw [hyb] | rw [hM] | refine wpList_store_row rfl 34 _ _ rfl M _ _ rfl rfl 34 (unhide HX4) (by kernel_rfl) rfl (by first | kernel_rfl | simp [Value.oneCell']) ?_)
  refine (unhide HC4).mono ?_
  rintro e y2 ⟨rfl, p2, q2⟩
  have hx2 := q2.same (unhide HXB).1 (by omega)
  have hz2 := q2.same (unhide HXB).2 (by omega)
  have om2 : OwnM (R + 1) y2 #[.int .i64 aK, .int .i64 aF, .int .i64 aO, .int .i64 aT, .int .i64 aS, .int .i64 aL, .int .i64 aC, .bool aY, .slice la ll lc, .int .i64 ek, .int .i64 ef, .int .i64 en, .slice ta tl tc, .int .i64 ps, .int .i64 pi, .int .i64 pm, .slice da dl dc] mg := (unhide HOB).same (but_same q2 (by omega))
  have hb2 : Below w.heap.size w y2 := (unhide HBB).trans (q2.below (by omega) (by have := (unhide HBB).size; omega))
  have HC5 := hide (mays_same mg ▸ mayMsg_any _ mg y2 (om2.sees (unhide HRM)) (unhide HRM).ok (okM_plain (unhide HRM).ok) : Calls Tryz.prog 36 #[.agg #[.int .i64 aK, .int .i64 aF, .int .i64 aO, .int .i64 aT, .int .i64 aS, .int .i64 aL, .int .i64 aC, .bool aY, .slice la ll lc, .int .i64 ek, .int .i64 ef, .int .i64 en, .slice ta tl tc, .int .i64 ps, .int .i64 pi, .int .i64 pm, .slice da dl dc]] y2 fun e w' => e = .returned (.bool (mayMsg mg)) ∧ Below y2.heap.size y2 w')
  have HX2 := hide (And.intro hx2 hz2)
  have HXM := hide hx2
  have HP2 := hide p2
  have HO2 := hide om2
  have HBw := hide hb2
  clear p2 q2 hx2 hz2 om2 hb2 HC4 HX4
  go_wp2_with (refine wpList_load_wanted (by rfl) 34 _ rfl M rfl 34 _ (0, 0) _ (unhide HXM) Tryz.underlying34 rfl (by kernel_rfl) ?_)
  refine (unhide HC5).mono ?_
  rintro e y3 ⟨rfl, hb3⟩
  have HC6 := hide (ends_d ((unhide HP2).below hb3) (mayMsg mg))
  rw [unhide HF] at HC6
  have hx3 : y3.heap[M]? = some (.cells #[.int .i64 aK, .int .i64 aF, .int .i64 aO, .int .i64 aT, .int .i64 aS, .int .i64 aL, .int .i64 aC, .bool aY, .slice la ll lc, .int .i64 ek, .int .i64 ef, .int .i64 en, .slice ta tl tc, .int .i64 ps, .int .i64 pi, .int .i64 pm, .slice da dl dc] 34) := (hb3.block _ (Array.getElem?_eq_some_iff.1 (unhide HX2).1).1).trans (unhide HX2).1
  have hz3 : y3.heap[w.heap.size]? = some (.cells #[.int .i64 0, .int .i64 0, .int .i64 0, .int .i64 0, .int .i64 0, .int .i64 0, .int .i64 0, .bool false, .slice none 0 0, .int .i64 0, .int .i64 0, .int .i64 0, .slice none 0 0, .int .i64 0, .int .i64 0, .int .i64 0, .slice none 0 0] 34) := (hb3.block _ (Array.getElem?_eq_some_iff.1 (unhide HX2).2).1).trans (unhide HX2).2
  have hb4 : Below w.heap.size w y3 := (unhide HBw).trans (hb3.mono (unhide HBw).size)
  have om3 : OwnM (R + 1) y3 #[.int .i64 aK, .int .i64 aF, .int .i64 aO, .int .i64 aT, .int .i64 aS, .int .i64 aL, .int .i64 aC, .bool aY, .slice la ll lc, .int .i64 ek, .int .i64 ef, .int .i64 en, .slice ta tl tc, .int .i64 ps, .int .i64 pi, .int .i64 pm, .slice da dl dc] mg := (unhide HO2).same fun k _ hl => hb3.block k hl
  have HX3 := hide hx3
  have HZ9 := hide hz3
  have HB9 := hide hb4
  have HO9 : Hid (∀ cs, OwnM w.heap.size (y3.setRow w.heap.size cs) #[.int .i64 aK, .int .i64 aF, .int .i64 aO, .int .i64 aT, .int .i64 aS, .int .i64 aL, .int .i64 aC, .bool aY, .slice la ll lc, .int .i64 ek, .int .i64 ef, .int .i64 en, .slice ta tl tc, .int .i64 ps, .int .i64 pi, .int .i64 pm, .slice da dl dc] mg) := fun cs => (om3.same (row_same cs (by omega))).mono (by omega)
  clear hb3 hx3 hz3 hb4 om3 HC5 HXM
  go_wp2_with fail
  refine (unhide HC6).mono ?_
  rintro e y4 ⟨rfl, rfl⟩
  clear HC6
  by_cases hF0 : F = 0
  · subst hF0
    have hU : U = (mg, 0) := (unhide HU).trans (if_pos rfl)
    have HU1 := hide hU
    clear hU HU
    go_wp2_with (first | refine wpList_load_row rfl 34 _ rfl M rfl 34 _ (0, 0) _ (unhide HX3) Tryz.underlying34 rfl (by kernel_rfl) ?_ | refine wpList_store_row rfl 34 _ _ rfl w.heap.size _ _ rfl rfl 34 (unhide HZ9) (by kernel_rfl) rfl (by first | kernel_rfl | simp [Value.oneCell']) ?_)
    refine bodyPost_ret (results_cell_row_tmp rfl _ _ w.heap.size 34 #[.int .i64 aK, .int .i64 aF, .int .i64 aO, .int .i64 aT, .int .i64 aS, .int .i64 aL, .int .i64 aC, .bool aY, .slice la ll lc, .int .i64 ek, .int .i64 ef, .int .i64 en, .slice ta tl tc, .int .i64 ps, .int .i64 pi, .int .i64 pm, .slice da dl dc] (0, 0) _ rfl (setRow_heap _ _ _ _ _ _ (unhide HZ9)) Tryz.underlying34 rfl (by kernel_rfl)) rfl ?_
    rw [unhide HU1]
    exact ⟨_, rfl, unhide HO9 _, below_setRow (unhide HB9) (Nat.le_refl _)⟩
  · have hU : U = (dG, F) := (unhide HU).trans (if_neg hF0)
    have HU1 := hide hU
    have hFb : (F != 0) = true := by simpa using hF0
    clear hU HU
    go_wp2_with (refine wpList_store_row rfl 34 _ _ rfl w.heap.size _ _ rfl rfl 34 (unhide HZ9) (by kernel_rfl) rfl (by first | kernel_rfl | simp [Value.oneCell']) ?_)
    refine bodyPost_ret (results_cell_row_tmp rfl _ _ w.heap.size 34 #[.int .i64 0, .int .i64 0, .int .i64 0, .int .i64 0, .int .i64 0, .int .i64 0, .int .i64 0, .bool false, .slice none 0 0, .int .i64 0, .int .i64 0, .int .i64 0, .slice none 0 0, .int .i64 0, .int .i64 0, .int .i64 0, .slice none 0 0] (0, 0) _ rfl (setRow_heap _ _ _ _ _ _ (unhide HZ9)) Tryz.underlying34 rfl (by kernel_rfl)) rfl ?_
    rw [unhide HU1]
    exact ⟨_, rfl, ownM_zero _ _, below_setRow (unhide HB9) (Nat.le_refl _)⟩
end Go.Proofs.YtggllgimlfchhaaGreat
