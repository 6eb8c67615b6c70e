/- Record: the document's yes, Entry, PartForm. -/
import Derived.Test.YtggllgimlfchhaaGreatDG
import Derived.Test.YtggllgimlfchhaaGreatGR
import Derived.Deep.RegionHeld3
namespace Go.Proofs.YtggllgimlfchhaaGreat
open Go.RowKit
set_option maxRecDepth 100000

set_option maxHeartbeats 800000 in
theorem refYes_any (bv : Value) (zs : List Int) (y : Bool) (w : World) (hs : Sees w .u8 bv zs) (hn : zs.length ≤ 1000000000) :
    Calls Tryz.prog 81 #[bv, .bool y] w fun e w' => ∃ v', e = .returned v' ∧ w'.ownsRow w.heap.size 5 1 v' (zs ++ putL [if y then 1 else 0]).length (ints .u8 (zs ++ putL [if y then 1 else 0])) ∧ Below w.heap.size w w' := by
  have hN : ∀ q : Int, (q = 0 ∨ q = 1) → Calls Tryz.prog 75 #[bv, .slice (some ⟨w.heap.size, 0, none⟩) 1 1] (w.alloc (.cells #[.int .i64 q] 2)) fun e w' => ∃ v', e = .returned v' ∧ w'.ownsRow w.heap.size 5 1 v' (zs ++ putL [q]).length (ints .u8 (zs ++ putL [q])) ∧ Below w.heap.size w w' := fun q hq => by
    have hal : Below w.heap.size w (w.alloc (.cells #[.int .i64 q] 2)) := (Below.refl _ _).alloc (Nat.le_refl _) _
    exact (refn_any bv _ zs [q] _ (hs.below hal) (sees_lit w [q] (by simp)) (by simp) (i64_of fun x hx => by simp at hx; omega) (by have : sizeL [q] ≤ 9 := sizeL_le [q]; omega)).mono fun e w' ⟨v, h1, h2, h3⟩ => ⟨v, h1, own_mono h2 (by simp), hal.trans (h3.mono (by simp))⟩
  have HN0 := hide (hN 0 (.inl rfl))
  have HN1 := hide (hN 1 (.inr rfl))
  obtain ⟨a1, c1, rfl, _⟩ := hs
  clear hN
  cases y with
  | false =>
    simp only [Bool.false_eq_true, if_false]
    go_enter Tryz.func81, Tryz.ntmps81
    go_wp2_with fail
    refine (unhide HN0).mono ?_
    rintro e y1 ⟨v, rfl, p1, r1⟩
    have HF := hide (And.intro p1 r1)
    clear p1 r1
    go_wp2_with fail
    go_ret
    exact ⟨_, rfl, unhide HF⟩
  | true =>
    simp only [if_true]
    go_enter Tryz.func81, Tryz.ntmps81
    go_wp2_with fail
    refine (unhide HN1).mono ?_
    rintro e y1 ⟨v, rfl, p1, r1⟩
    have HF := hide (And.intro p1 r1)
    clear p1 r1
    go_wp2_with fail
    go_ret
    exact ⟨_, rfl, unhide HF⟩

set_option maxHeartbeats 800000 in
theorem refEntry_any (cs : Array Value) (e : EntD) (w : World) (hE : SeesE w cs e) (hf : FitE e) :
    Calls Tryz.prog 16 #[.agg cs] w fun r w' => ∃ x, r = .returned (.tuple #[x, .int .i64 (if mayE e then 0 else 40)]) ∧ w'.ownsRow w.heap.size 5 1 x (if mayE e then entB e else []).length (ints .u8 (if mayE e then entB e else [])) ∧ Below w.heap.size w w' := by
  have HME : Hid (∀ x, Below w.heap.size w x → Calls Tryz.prog 34 #[.agg cs] x fun r y => r = .returned (.bool (mayE e)) ∧ Below x.heap.size x y) := fun x hb => mayEntry_any cs e x (hE.below hb) hf.ok
  have HEF : Hid (mayE e = true → ∀ x, Below w.heap.size w x → Calls Tryz.prog 38 #[.agg cs] x fun r w' => ∃ v, r = .returned v ∧ w'.ownsRow x.heap.size 5 1 v (entB e).length (ints .u8 (entB e)) ∧ Below x.heap.size x w') := fun hm x hb => entryForm_any cs e x (hE.below hb) hf hm
  obtain ⟨tv, rfl, hs⟩ := hE
  obtain ⟨ta, tc, _, _, rfl, _⟩ := hs
  have hal : Below w.heap.size w (w.alloc (.cells #[.int .i64 e.kind, .int .i64 e.frm, .int .i64 e.num, .slice ta e.txns.length tc] 29)) := (Below.refl _ _).alloc (Nat.le_refl _) _
  have hx1 : (w.alloc (.cells #[.int .i64 e.kind, .int .i64 e.frm, .int .i64 e.num, .slice ta e.txns.length tc] 29)).heap[w.heap.size]? = some (.cells #[.int .i64 e.kind, .int .i64 e.frm, .int .i64 e.num, .slice ta e.txns.length tc] 29) := heap_alloc_new w _
  obtain ⟨k, ek⟩ : ∃ x, e.kind = x := ⟨_, rfl⟩
  obtain ⟨f, ef⟩ : ∃ x, e.frm = x := ⟨_, rfl⟩
  obtain ⟨n, en⟩ : ∃ x, e.num = x := ⟨_, rfl⟩
  obtain ⟨tl, et⟩ : ∃ x, e.txns.length = x := ⟨_, rfl⟩
  rw [ek, ef, en, et] at hal hx1 HME HEF
  rw [ek, ef, en, et]
  clear ek ef en et hf
  obtain ⟨w1, hw1⟩ : ∃ y, w.alloc (.cells #[.int .i64 k, .int .i64 f, .int .i64 n, .slice ta tl tc] 29) = y := ⟨_, rfl⟩
  rw [hw1] at hal hx1
  have HX1 := hide hx1
  have HB1 := hide hal
  have HC1 := hide (unhide HME w1 hal)
  have c0 : w1.cell? ⟨w.heap.size, 0, none⟩ = some (.int .i64 k) := cell_of_heap hx1
  have c1 : w1.cell? ⟨w.heap.size, 1, none⟩ = some (.int .i64 f) := cell_of_heap hx1
  have c2 : w1.cell? ⟨w.heap.size, 2, none⟩ = some (.int .i64 n) := cell_of_heap hx1
  have c3 : w1.cell? ⟨w.heap.size, 3, none⟩ = some (.slice ta tl tc) := cell_of_heap hx1
  clear hal hx1 HME
  cases hmm : mayE e with
  | false =>
    rw [hmm] at HC1
    simp only [Bool.false_eq_true, if_false]
    clear HEF
    go_enter Tryz.func16, Tryz.ntmps16
    go_wp2_with (rw [hw1])
    refine (unhide HC1).mono ?_
    rintro e w2 ⟨rfl, hb2⟩
    have HB2 : Hid (Below w.heap.size w w2) := (unhide HB1).trans (hb2.mono (unhide HB1).size)
    clear hb2
    go_wp2_with fail
    go_ret2
    exact ⟨_, rfl, World.ownsRow_nil _ _ _ _, unhide HB2⟩
  | true =>
    rw [hmm] at HC1
    simp only [if_true]
    have hle := entB_le hmm
    have hef := unhide HEF hmm
    have HEF2 := hide hef
    clear HEF hef
    go_enter Tryz.func16, Tryz.ntmps16
    go_wp2_with (rw [hw1])
    refine (unhide HC1).mono ?_
    rintro r w2 ⟨rfl, hb2⟩
    have hx2 : w2.heap[w.heap.size]? = some (.cells #[.int .i64 k, .int .i64 f, .int .i64 n, .slice ta tl tc] 29) := (hb2.block _ (Array.getElem?_eq_some_iff.1 (unhide HX1)).1).trans (unhide HX1)
    have d0 : w2.cell? ⟨w.heap.size, 0, none⟩ = some (.int .i64 k) := cell_of_heap hx2
    have d1 : w2.cell? ⟨w.heap.size, 1, none⟩ = some (.int .i64 f) := cell_of_heap hx2
    have d2 : w2.cell? ⟨w.heap.size, 2, none⟩ = some (.int .i64 n) := cell_of_heap hx2
    have d3 : w2.cell? ⟨w.heap.size, 3, none⟩ = some (.slice ta tl tc) := cell_of_heap hx2
    have hB2 : Below w.heap.size w w2 := (unhide HB1).trans (hb2.mono (unhide HB1).size)
    have HB2 := hide hB2
    have HC2 := hide (unhide HEF2 w2 hB2)
    clear hb2 hx2 hB2 c0 c1 c2 c3 HC1
    go_wp2_with fail
    refine (unhide HC2).mono ?_
    rintro r w3 ⟨v3, rfl, o3, r3⟩
    have HF := hide (And.intro (own_mono o3 (unhide HB2).size) ((unhide HB2).trans (r3.mono (unhide HB2).size)))
    obtain ⟨a3, c3, rfl⟩ := own_shape o3
    obtain ⟨n3, hn3⟩ : ∃ x, (entB e).length = x := ⟨_, rfl⟩
    rw [hn3] at HF hle
    have HN3 := hide hn3
    rw [hn3]
    clear o3 r3 HC2 hn3
    go_wp2_with fail
    go_ret2
    rw [unhide HN3]
    exact ⟨_, rfl, unhide HF⟩

set_option maxHeartbeats 1600000 in
theorem partForm_any (cs : Array Value) (p : PtD) (w : World) (hP : SeesP w cs p) (hf : FitP p) (hl : p.data.length ≤ 16384) :
    Calls Tryz.prog 83 #[.agg cs] w fun e w' => ∃ v', e = .returned v' ∧ w'.ownsRow w.heap.size 5 1 v' (ptB p).length (ints .u8 (ptB p)) ∧ Below w.heap.size w w' := by
  obtain ⟨a, b, c, d⟩ := p
  obtain ⟨_, rfl, hs⟩ := hP
  obtain ⟨f1, f2, f3⟩ := hf
  simp only at hs f1 f2 f3 hl
  unfold ptB
  simp only
  have HS : Hid (∀ x, Below w.heap.size w x → Sees x .u8 _ d) := fun x hb => hs.below hb
  obtain ⟨da, dc, rfl, _⟩ := hs
  obtain ⟨dl, hdl⟩ : ∃ x, d.length = x := ⟨_, rfl⟩
  rw [hdl] at HS hl
  rw [hdl]
  have HDL := hide hdl
  have hal : Below w.heap.size w (w.alloc (.cells #[.int .i64 a, .int .i64 b, .int .i64 c, .slice da dl dc] 32)) := (Below.refl _ _).alloc (Nat.le_refl _) _
  have hx1 : (w.alloc (.cells #[.int .i64 a, .int .i64 b, .int .i64 c, .slice da dl dc] 32)).heap[w.heap.size]? = some (.cells #[.int .i64 a, .int .i64 b, .int .i64 c, .slice da dl dc] 32) := heap_alloc_new w _
  have hsz : (w.alloc (.cells #[.int .i64 a, .int .i64 b, .int .i64 c, .slice da dl dc] 32)).heap.size = w.heap.size + 1 := by simp
  obtain ⟨w1, hw1⟩ : ∃ y, w.alloc (.cells #[.int .i64 a, .int .i64 b, .int .i64 c, .slice da dl dc] 32) = y := ⟨_, rfl⟩
  rw [hw1] at hal hx1 hsz
  have HX : Hid (∀ x, Below (w.heap.size + 1) w1 x → x.heap[w.heap.size]? = some (.cells #[.int .i64 a, .int .i64 b, .int .i64 c, .slice da dl dc] 32)) := fun x hb => (hb.block _ (by omega)).trans hx1
  have HBW : Hid (∀ x, Below (w.heap.size + 1) w1 x → Below w.heap.size w x) := fun x hb => hal.trans (hb.mono (by omega))
  have HC0 : Hid (∀ x, Below (w.heap.size + 1) w1 x → x.cell? ⟨w.heap.size, 0, none⟩ = some (.int .i64 a)) := fun x hb => cell_of_heap (unhide HX x hb)
  have HC1 : Hid (∀ x, Below (w.heap.size + 1) w1 x → x.cell? ⟨w.heap.size, 1, none⟩ = some (.int .i64 b)) := fun x hb => cell_of_heap (unhide HX x hb)
  have HC2 : Hid (∀ x, Below (w.heap.size + 1) w1 x → x.cell? ⟨w.heap.size, 2, none⟩ = some (.int .i64 c)) := fun x hb => cell_of_heap (unhide HX x hb)
  have HC3 : Hid (∀ x, Below (w.heap.size + 1) w1 x → x.cell? ⟨w.heap.size, 3, none⟩ = some (.slice da dl dc)) := fun x hb => cell_of_heap (unhide HX x hb)
  have HB2 : Hid (Below (w.heap.size + 1) w1 (w1.alloc (.cells #[.int .i64 a, .int .i64 b, .int .i64 c] 2)).drew) := ((Below.refl _ _).alloc (by omega) _).drew
  have HN1 := hide (refn_any (.slice none 0 0) _ [] [a, b, c] _ (Sees.nil _ _) ((sees_lit w1 [a, b, c] (by simp)).below (Below.refl _ _).drew) (by simp) (i64_of fun x hx => by simp at hx; rcases hx with rfl | rfl | rfl <;> assumption) (by have : sizeL [a, b, c] ≤ 27 := sizeL_le [a, b, c]; simp; omega))
  simp only [List.length_cons, List.length_nil, Nat.reduceAdd, List.nil_append] at HN1
  have HSZ := hide hsz
  clear hal hx1 f1 f2 f3 hdl hsz
  go_enter Tryz.func83, Tryz.ntmps83
  go_wp2_with (rw [hw1])
  refine wp_region_held_drew (S := fun x => Below (w.heap.size + 1) w1 x) (by kernel_rfl) ((Below.refl _ _).drew) (fun hHeld => ?_)
  refine wpAnyH_take (i := 0) (v := ?v1x0) rfl (by kernel_rfl) (by kernel_rfl) (by kernel_rfl) (fun _ _ _ h => h) (Or.inl ⟨by rfl, ?hy1x0⟩) (by assumption) ?rest1x0
  case hy1x0 => intro w hSw; go_simp <;> with_reducible rfl
  simp only [Act.put, List.getElem_toArray, List.getElem_cons_zero, List.setIfInBounds_toArray, List.set_cons_zero, List.set_cons_succ]
  refine wpAnyH_take (i := 1) (v := (.int .i64 a)) rfl (by kernel_rfl) (by kernel_rfl) (by kernel_rfl) (fun _ _ _ h => h) (Or.inl ⟨by rfl, ?hy2x1⟩) (by assumption) ?rest2x1
  case hy2x1 => intro w hSw; have g0 := unhide HC0 _ hSw; go_simp <;> with_reducible rfl
  simp only [Act.put, List.getElem_toArray, List.getElem_cons_zero, List.getElem_cons_succ, List.setIfInBounds_toArray, List.set_cons_zero, List.set_cons_succ]
  refine wpAnyH_take (i := 2) (v := ?v3x2) rfl (by kernel_rfl) (by kernel_rfl) (by kernel_rfl) (fun _ _ _ h => h) (Or.inl ⟨by rfl, ?hy3x2⟩) (by assumption) ?rest3x2
  case hy3x2 => intro w hSw; go_simp <;> with_reducible rfl
  simp only [Act.put, List.getElem_toArray, List.getElem_cons_zero, List.getElem_cons_succ, List.setIfInBounds_toArray, List.set_cons_zero, List.set_cons_succ]
  refine wpAnyH_take (i := 3) (v := (.int .i64 b)) rfl (by kernel_rfl) (by kernel_rfl) (by kernel_rfl) (fun _ _ _ h => h) (Or.inl ⟨by rfl, ?hy4x3⟩) (by assumption) ?rest4x3
  case hy4x3 => intro w hSw; have g0 := unhide HC1 _ hSw; go_simp <;> with_reducible rfl
  simp only [Act.put, List.getElem_toArray, List.getElem_cons_zero, List.getElem_cons_succ, List.setIfInBounds_toArray, List.set_cons_zero, List.set_cons_succ]
  refine wpAnyH_take (i := 4) (v := ?v5x4) rfl (by kernel_rfl) (by kernel_rfl) (by kernel_rfl) (fun _ _ _ h => h) (Or.inl ⟨by rfl, ?hy5x4⟩) (by assumption) ?rest5x4
  case hy5x4 => intro w hSw; go_simp <;> with_reducible rfl
  simp only [Act.put, List.getElem_toArray, List.getElem_cons_zero, List.getElem_cons_succ, List.setIfInBounds_toArray, List.set_cons_zero, List.set_cons_succ]
  refine wpAnyH_take (i := 5) (v := (.int .i64 c)) rfl (by kernel_rfl) (by kernel_rfl) (by kernel_rfl) (fun _ _ _ h => h) (Or.inl ⟨by rfl, ?hy6x5⟩) (by assumption) ?rest6x5
  case hy6x5 => intro w hSw; have g0 := unhide HC2 _ hSw; go_simp <;> with_reducible rfl
  simp only [Act.put, List.getElem_toArray, List.getElem_cons_zero, List.getElem_cons_succ, List.setIfInBounds_toArray, List.set_cons_zero, List.set_cons_succ]
  refine wpAnyH_take (i := 8) (v := ?v7x8) rfl (by kernel_rfl) (by kernel_rfl) (by kernel_rfl) (fun _ _ _ h => h) (Or.inl ⟨by rfl, ?hy7x8⟩) (by assumption) ?rest7x8
  case hy7x8 => intro w hSw; go_simp <;> with_reducible rfl
  simp only [Act.put, List.getElem_toArray, List.getElem_cons_zero, List.getElem_cons_succ, List.setIfInBounds_toArray, List.set_cons_zero, List.set_cons_succ]
  refine wpAnyH_take (i := 9) (v := (.slice da dl dc)) rfl (by kernel_rfl) (by kernel_rfl) (by kernel_rfl) (fun _ _ _ h => h) (Or.inl ⟨by rfl, ?hy8x9⟩) (by assumption) ?rest8x9
  case hy8x9 => intro w hSw; have g0 := unhide HC3 _ hSw; go_simp <;> with_reducible rfl
  simp only [Act.put, List.getElem_toArray, List.getElem_cons_zero, List.getElem_cons_succ, List.setIfInBounds_toArray, List.set_cons_zero, List.set_cons_succ]
  refine wpAnyH_ready (rs := [6]) (by kernel_rfl) (by simp) ?_
  refine AllReadyH.cons rfl (fun K hK => ?_) AllReadyH.nil
  go_simp
  refine hK _ _ (unhide HB2) ?_
  clear hK hHeld
  intro hHeld
  refine wpAnyH_ready (rs := [7]) (by kernel_rfl) (by simp) ?_
  refine AllReadyH.cons rfl (fun K hK => ?_) AllReadyH.nil
  go_simp
  refine (unhide HN1).mono ?_
  rintro e y2 ⟨v2, rfl, o2, r2⟩
  refine hK _ _ ((unhide HB2).trans (r2.mono (by simp [unhide HSZ]))) ?_
  clear hK hHeld
  have HB3 : Hid (Below (w.heap.size + 1) w1 y2) := (unhide HB2).trans (r2.mono (by simp [unhide HSZ]))
  have HO2 := hide o2
  have HT2 := hide (refBlob_any _ _ (putL [a, b, c]) d y2 (sees_of_own o2).2 (unhide HS y2 (unhide HBW y2 (unhide HB3))) (by have l1 := putL_le [a, b, c]; have := unhide HDL; simp only [List.length_cons, List.length_nil] at l1; omega))
  rw [unhide HDL] at HT2
  obtain ⟨a2, c2, rfl⟩ := own_shape o2
  clear o2 r2 HN1
  intro hHeld
  refine wpAnyH_ready (rs := [10]) (by kernel_rfl) (by simp) ?_
  refine AllReadyH.cons rfl (fun K hK => ?_) AllReadyH.nil
  go_simp
  refine (unhide HT2).mono ?_
  rintro e y3 ⟨v3, rfl, o3, r3⟩
  refine hK _ _ ((unhide HB3).trans (r3.mono (by have := (unhide HB3).size; have := unhide HSZ; omega))) ?_
  clear hK hHeld
  intro hHeld
  refine wpAnyH_take (i := 11) (v := ?v9x11) rfl (by kernel_rfl) (by kernel_rfl) (by kernel_rfl) (fun _ _ _ h => h) (Or.inl ⟨by rfl, ?hy9x11⟩) (by assumption) ?rest9x11
  case hy9x11 => intro w hSw; go_simp <;> with_reducible rfl
  simp only [Act.put, List.getElem_toArray, List.getElem_cons_zero, List.getElem_cons_succ, List.setIfInBounds_toArray, List.set_cons_zero, List.set_cons_succ]
  refine wpAnyH_done (by kernel_rfl) ?_ _
  have HF : Hid (y3.ownsRow w.heap.size 5 1 v3 (putL [a, b, c] ++ (putL [(dl : Int)] ++ d)).length (ints .u8 (putL [a, b, c] ++ (putL [(dl : Int)] ++ d))) ∧ Below w.heap.size w y3) := by
    show _ ∧ _
    have hb3 := unhide HBW y2 (unhide HB3)
    have h1 := own_mono o3 (hb3.size)
    have e1 : (putL [a, b, c]).length + sizeL [(dl : Int)] + dl = (putL [a, b, c] ++ (putL [(dl : Int)] ++ d)).length := by
      have := unhide HDL
      simp only [List.length_append, putL_length]
      omega
    rw [e1, List.append_assoc] at h1
    exact ⟨h1, hb3.trans (r3.mono hb3.size)⟩
  clear o3 r3 hHeld
  go_wp2
  go_ret
  exact ⟨_, rfl, unhide HF⟩
end Go.Proofs.YtggllgimlfchhaaGreat
