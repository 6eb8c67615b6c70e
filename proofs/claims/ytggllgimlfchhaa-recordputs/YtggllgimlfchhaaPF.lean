/- The document's own TxnForm, Errno, CheckTxn, PutError (package trivetref04). -/
import Derived.Test.YtggllgimlfchhaaPC
import Derived.Test.YtggllgimlfchhaaXD
import Derived.Deep.RegionHeld3
namespace Go.Proofs.Ytggllgimlfchhaa
open Go.RowKit
set_option maxRecDepth 100000

theorem own_seesL {w : World} {base n : Nat} {v : Value} {xs : List Int} (h : w.ownsRow base 5 1 v n (ints .u8 xs)) : ∃ ao cap, v = .slice ao n cap ∧ Sees w .u8 (.slice ao n cap) xs := by
  obtain ⟨ao, cap, rfl⟩ := own_shape h
  exact ⟨ao, cap, rfl, (sees_of_own h).2⟩

set_option maxHeartbeats 3200000 in
theorem txnForm_any (cs : Array Value) (t : TxnD) (w : World) (hT : SeesT w cs t) (hf : FitT t) (hm : mayT t = true) :
    Calls Try.prog 20 #[.agg cs] w fun e w' => ∃ v, e = .returned v ∧ w'.ownsRow w.heap.size 5 1 v (txnB t).length (ints .u8 (txnB t)) ∧ Below w.heap.size w w' := by
  obtain ⟨m1, m2, m3, m4⟩ := mayT_le hm
  obtain ⟨cv, av, rv, wv, rfl, k1, k2, k3, k4⟩ := hT
  have HC := hide k1
  have HA := hide k2
  have HR := hide k3
  have HW := hide k4
  obtain ⟨ac, cc, rfl, _⟩ := k1
  obtain ⟨aa, ca, rfl, _⟩ := k2
  obtain ⟨ar, cr, _, _, rfl, _⟩ := k3
  obtain ⟨aw, cw, _, _, rfl, _⟩ := k4
  have HFT := hide hf
  have hfs := hf.ses
  have hfq := hf.req
  obtain ⟨s, es⟩ : ∃ x, t.ses = x := ⟨_, rfl⟩
  obtain ⟨q, eq⟩ : ∃ x, t.req = x := ⟨_, rfl⟩
  obtain ⟨cn, ec⟩ : ∃ x, t.code.length = x := ⟨_, rfl⟩
  obtain ⟨an, ea⟩ : ∃ x, t.args.length = x := ⟨_, rfl⟩
  obtain ⟨rn, er⟩ : ∃ x, t.reads.length = x := ⟨_, rfl⟩
  obtain ⟨wn, ew⟩ : ∃ x, t.writes.length = x := ⟨_, rfl⟩
  have htb : txnB t = putL [s, q] ++ putL [(cn : Int)] ++ t.code ++ putL [(an : Int)] ++ putL t.args ++ putL ((rn : Int) :: keyN t.reads) ++ putL ((wn : Int) :: keyN t.writes) := by unfold txnB; rw [es, eq, ec, ea, er, ew]; simp only [List.append_assoc]
  have HTB := hide htb
  have HE : Hid (t.code.length = cn ∧ t.args.length = an ∧ t.reads.length = rn ∧ t.writes.length = wn) := ⟨ec, ea, er, ew⟩
  rw [es] at hfs
  rw [eq] at hfq
  rw [ec] at HC m1
  rw [ea] at HA m2
  rw [er] at HR m3
  rw [ew] at HW m4
  rw [es, eq, ec, ea, er, ew]
  clear hf hm es eq ec ea er ew htb
  obtain ⟨TB, hTB⟩ : ∃ x, txnB t = x := ⟨_, rfl⟩
  rw [hTB] at HTB ⊢
  clear hTB
  have hal : Below w.heap.size w (w.alloc (.cells #[.int .i64 s, .int .i64 q, .slice ac cn cc, .slice aa an ca, .slice ar rn cr, .slice aw wn cw] 35)) := (Below.refl _ _).alloc (Nat.le_refl _) _
  have HAL := hide hal
  have HBX : Hid (∀ w', Below (w.heap.size + 1) (w.alloc (.cells #[.int .i64 s, .int .i64 q, .slice ac cn cc, .slice aa an ca, .slice ar rn cr, .slice aw wn cw] 35)) w' → w'.cell? ⟨w.heap.size, 0, none⟩ = some (.int .i64 s) ∧ w'.cell? ⟨w.heap.size, 1, none⟩ = some (.int .i64 q) ∧ w'.cell? ⟨w.heap.size, 2, none⟩ = some (.slice ac cn cc) ∧ w'.cell? ⟨w.heap.size, 3, none⟩ = some (.slice aa an ca) ∧ w'.cell? ⟨w.heap.size, 4, none⟩ = some (.slice ar rn cr) ∧ w'.cell? ⟨w.heap.size, 5, none⟩ = some (.slice aw wn cw)) := fun w' hb => by
    have hx : w'.heap[w.heap.size]? = some (.cells #[.int .i64 s, .int .i64 q, .slice ac cn cc, .slice aa an ca, .slice ar rn cr, .slice aw wn cw] 35) := (hb.block _ (Nat.lt_succ_self _)).trans (heap_alloc_new w _)
    exact ⟨cell_heap hx, cell_heap hx, cell_heap hx, cell_heap hx, cell_heap hx, cell_heap hx⟩
  clear hal
  go_enter Try.func20, Try.ntmps20
  go_wp2_with fail
  have hz1 : Below (w.alloc (.cells #[.int .i64 s, .int .i64 q, .slice ac cn cc, .slice aa an ca, .slice ar rn cr, .slice aw wn cw] 35)).heap.size (w.alloc (.cells #[.int .i64 s, .int .i64 q, .slice ac cn cc, .slice aa an ca, .slice ar rn cr, .slice aw wn cw] 35)) ((w.alloc (.cells #[.int .i64 s, .int .i64 q, .slice ac cn cc, .slice aa an ca, .slice ar rn cr, .slice aw wn cw] 35)).alloc (.cells #[.int .i64 s, .int .i64 q] 2)).drew := ((Below.refl _ _).alloc (Nat.le_refl _) _).drew
  have hw01 : (w.alloc (.cells #[.int .i64 s, .int .i64 q, .slice ac cn cc, .slice aa an ca, .slice ar rn cr, .slice aw wn cw] 35)).heap.size = w.heap.size + 1 := by simp
  have HX1 : Hid (Below (w.heap.size + 1) (w.alloc (.cells #[.int .i64 s, .int .i64 q, .slice ac cn cc, .slice aa an ca, .slice ar rn cr, .slice aw wn cw] 35)) ((w.alloc (.cells #[.int .i64 s, .int .i64 q, .slice ac cn cc, .slice aa an ca, .slice ar rn cr, .slice aw wn cw] 35)).alloc (.cells #[.int .i64 s, .int .i64 q] 2)).drew) := by have := hz1; rwa [hw01] at this
  have HN1 := hide (refn_any (.slice none 0 0) _ [] [s, q] ((w.alloc (.cells #[.int .i64 s, .int .i64 q, .slice ac cn cc, .slice aa an ca, .slice ar rn cr, .slice aw wn cw] 35)).alloc (.cells #[.int .i64 s, .int .i64 q] 2)).drew (Sees.nil _ _) ((sees_lit (w.alloc (.cells #[.int .i64 s, .int .i64 q, .slice ac cn cc, .slice aa an ca, .slice ar rn cr, .slice aw wn cw] 35)) [s, q] (by simp)).below (Below.refl _ _).drew) (by simp) (i64_of fun x hx => by simp at hx; rcases hx with rfl | rfl <;> omega) (by have : sizeL [s, q] ≤ 18 := sizeL_le [s, q]; simp; omega))
  have hl1 : ([] ++ putL [s, q]).length ≤ 18 := by have := putL_le [s, q]; simp at this ⊢; omega
  obtain ⟨b1, hb1⟩ : ∃ b, [] ++ putL [s, q] = b := ⟨_, rfl⟩
  rw [hb1] at HN1 hl1
  have HB1 := hide hb1
  have hc0 := unhide HBX _ (Below.refl _ _)
  simp only [List.length_cons, List.length_nil, Nat.reduceAdd, hw01] at HN1
  clear hz1 hb1
  refine wp_region_held_drew (S := fun x => x.cell? ⟨w.heap.size, 0, none⟩ = some (.int .i64 s) ∧ x.cell? ⟨w.heap.size, 1, none⟩ = some (.int .i64 q) ∧ x.cell? ⟨w.heap.size, 2, none⟩ = some (.slice ac cn cc) ∧ x.cell? ⟨w.heap.size, 3, none⟩ = some (.slice aa an ca) ∧ x.cell? ⟨w.heap.size, 4, none⟩ = some (.slice ar rn cr) ∧ x.cell? ⟨w.heap.size, 5, none⟩ = some (.slice aw wn cw)) (by kernel_rfl) hc0 (fun hHeld => ?_)
  refine wpAnyH_take (i := 0) (v := ?v1x0) rfl (by kernel_rfl) (by kernel_rfl) (by kernel_rfl) (fun _ _ _ h => h) (Or.inl ⟨by rfl, ?hy1x0⟩) (by assumption) ?rest1x0
  case hy1x0 => intro w hSw; obtain ⟨s0, s1, s2, s3, s4, s5⟩ := hSw; go_simp <;> with_reducible rfl
  simp only [Act.put, List.getElem_toArray, List.getElem_cons_zero, List.setIfInBounds_toArray, List.set_cons_zero, List.set_cons_succ]
  refine wpAnyH_take (i := 1) (v := (.int .i64 s)) rfl (by kernel_rfl) (by kernel_rfl) (by kernel_rfl) (fun _ _ _ h => h) (Or.inl ⟨by rfl, ?hy2x1⟩) (by assumption) ?rest2x1
  case hy2x1 => intro w hSw; obtain ⟨s0, s1, s2, s3, s4, s5⟩ := hSw; go_simp <;> with_reducible rfl
  simp only [Act.put, List.getElem_toArray, List.getElem_cons_zero, List.getElem_cons_succ, List.setIfInBounds_toArray, List.set_cons_zero, List.set_cons_succ]
  refine wpAnyH_take (i := 2) (v := ?v3x2) rfl (by kernel_rfl) (by kernel_rfl) (by kernel_rfl) (fun _ _ _ h => h) (Or.inl ⟨by rfl, ?hy3x2⟩) (by assumption) ?rest3x2
  case hy3x2 => intro w hSw; obtain ⟨s0, s1, s2, s3, s4, s5⟩ := hSw; go_simp <;> with_reducible rfl
  simp only [Act.put, List.getElem_toArray, List.getElem_cons_zero, List.getElem_cons_succ, List.setIfInBounds_toArray, List.set_cons_zero, List.set_cons_succ]
  refine wpAnyH_take (i := 3) (v := (.int .i64 q)) rfl (by kernel_rfl) (by kernel_rfl) (by kernel_rfl) (fun _ _ _ h => h) (Or.inl ⟨by rfl, ?hy4x3⟩) (by assumption) ?rest4x3
  case hy4x3 => intro w hSw; obtain ⟨s0, s1, s2, s3, s4, s5⟩ := hSw; go_simp <;> with_reducible rfl
  simp only [Act.put, List.getElem_toArray, List.getElem_cons_zero, List.getElem_cons_succ, List.setIfInBounds_toArray, List.set_cons_zero, List.set_cons_succ]
  refine wpAnyH_take (i := 6) (v := ?v5x6) rfl (by kernel_rfl) (by kernel_rfl) (by kernel_rfl) (fun _ _ _ h => h) (Or.inl ⟨by rfl, ?hy5x6⟩) (by assumption) ?rest5x6
  case hy5x6 => intro w hSw; obtain ⟨s0, s1, s2, s3, s4, s5⟩ := hSw; go_simp <;> with_reducible rfl
  simp only [Act.put, List.getElem_toArray, List.getElem_cons_zero, List.getElem_cons_succ, List.setIfInBounds_toArray, List.set_cons_zero, List.set_cons_succ]
  refine wpAnyH_take (i := 7) (v := (.slice ac cn cc)) rfl (by kernel_rfl) (by kernel_rfl) (by kernel_rfl) (fun _ _ _ h => h) (Or.inl ⟨by rfl, ?hy6x7⟩) (by assumption) ?rest6x7
  case hy6x7 => intro w hSw; obtain ⟨s0, s1, s2, s3, s4, s5⟩ := hSw; go_simp <;> with_reducible rfl
  simp only [Act.put, List.getElem_toArray, List.getElem_cons_zero, List.getElem_cons_succ, List.setIfInBounds_toArray, List.set_cons_zero, List.set_cons_succ]
  refine wpAnyH_ready (rs := [4]) (by kernel_rfl) (by simp) ?_
  refine AllReadyH.cons rfl (fun K hK => ?_) AllReadyH.nil
  go_simp
  refine hK _ _ (unhide HBX _ (unhide HX1)) ?_
  clear hK hHeld
  intro hHeld
  refine wpAnyH_ready (rs := [5]) (by kernel_rfl) (by simp) ?_
  refine AllReadyH.cons rfl (fun K hK => ?_) AllReadyH.nil
  go_simp
  refine (unhide HN1).mono ?_
  rintro e y1 ⟨v1, rfl, ho1, hy1⟩
  refine hK _ _ (unhide HBX _ ((unhide HX1).trans (hy1.mono (by simp)))) ?_
  clear hK hHeld
  intro hHeld
  have HX2 : Hid (Below (w.heap.size + 1) (w.alloc (.cells #[.int .i64 s, .int .i64 q, .slice ac cn cc, .slice aa an ca, .slice ar rn cr, .slice aw wn cw] 35)) y1) := (unhide HX1).trans (hy1.mono (by simp))
  have HXW2 : Hid (Below w.heap.size w y1) := (unhide HAL).trans ((unhide HX2).mono (by omega))
  obtain ⟨a1, c1, rfl, hs1⟩ := own_seesL ho1
  clear HN1 HX1 ho1 hy1
  have HN2 := hide (refBlob_any _ _ b1 t.code y1 hs1 ((unhide HC).below (unhide HXW2)) (by have := (unhide HE).1; omega))
  obtain ⟨b2, hb2⟩ : ∃ b, b1 ++ putL [(cn : Int)] ++ t.code = b := ⟨_, rfl⟩
  have hl2 : b2.length ≤ 600 := by rw [← hb2]; have := putL_le [(cn : Int)]; have := (unhide HE).1; simp at *; omega
  have hb2l : b1.length + sizeL [(cn : Int)] + cn = b2.length := by rw [← hb2, List.length_append, List.length_append, putL_length, (unhide HE).1]
  rw [(unhide HE).1, hb2, hb2l] at HN2
  have HB2 := hide hb2
  clear hs1 hb2l hb2
  refine wpAnyH_ready (rs := [8]) (by kernel_rfl) (by simp) ?_
  refine AllReadyH.cons rfl (fun K hK => ?_) AllReadyH.nil
  go_simp
  refine (unhide HN2).mono ?_
  rintro e y2 ⟨v2, rfl, ho2, hy2⟩
  refine hK _ _ (unhide HBX _ ((unhide HX2).trans (hy2.mono (by have := (unhide HX2).size; simp only [World.size_alloc] at this; omega)))) ?_
  clear hK hHeld
  intro hHeld
  have HX3 : Hid (Below (w.heap.size + 1) (w.alloc (.cells #[.int .i64 s, .int .i64 q, .slice ac cn cc, .slice aa an ca, .slice ar rn cr, .slice aw wn cw] 35)) y2) := (unhide HX2).trans (hy2.mono (by have := (unhide HX2).size; simp only [World.size_alloc] at this; omega))
  obtain ⟨a2, c2, rfl, hs2⟩ := own_seesL ho2
  have HS2 := hide hs2
  clear HN2 HX2 HXW2 ho2 hy2 hs2
  refine wpAnyH_take (i := 9) (v := ?v7x9) rfl (by kernel_rfl) (by kernel_rfl) (by kernel_rfl) (fun _ _ _ h => h) (Or.inl ⟨by rfl, ?hy7x9⟩) (by assumption) ?rest7x9
  case hy7x9 => intro w hSw; obtain ⟨s0, s1, s2, s3, s4, s5⟩ := hSw; go_simp <;> with_reducible rfl
  simp only [Act.put, List.getElem_toArray, List.getElem_cons_zero, List.getElem_cons_succ, List.setIfInBounds_toArray, List.set_cons_zero, List.set_cons_succ]
  refine wpAnyH_done (by kernel_rfl) ?_ _
  go_wp2_with fail
  have hz3 : Below y2.heap.size y2 (y2.alloc (.cells #[.int .i64 (an : Int)] 2)).drew := ((Below.refl _ _).alloc (Nat.le_refl _) _).drew
  have hg3 : w.heap.size + 1 ≤ y2.heap.size := by have := (unhide HX3).size; simp only [World.size_alloc] at this; omega
  have HG3 := hide hg3
  have HX4 : Hid (Below (w.heap.size + 1) (w.alloc (.cells #[.int .i64 s, .int .i64 q, .slice ac cn cc, .slice aa an ca, .slice ar rn cr, .slice aw wn cw] 35)) (y2.alloc (.cells #[.int .i64 (an : Int)] 2)).drew) := (unhide HX3).trans (hz3.mono hg3)
  have HN3 := hide (refn_any _ _ b2 [(an : Int)] (y2.alloc (.cells #[.int .i64 (an : Int)] 2)).drew ((unhide HS2).below hz3) ((sees_lit y2 [(an : Int)] (by simp)).below (Below.refl _ _).drew) (by simp) (i64_of fun x hx => by simp at hx; subst hx; omega) (by have : sizeL [(an : Int)] ≤ 9 := sizeL_le [(an : Int)]; omega))
  obtain ⟨b3, hb3⟩ : ∃ b, b2 ++ putL [(an : Int)] = b := ⟨_, rfl⟩
  have hl3 : b3.length ≤ 700 := by rw [← hb3]; have := putL_le [(an : Int)]; simp at *; omega
  rw [hb3] at HN3
  have HB3 := hide hb3
  have hc3 := unhide HBX _ (unhide HX3)
  simp only [List.length_cons, List.length_nil, Nat.reduceAdd] at HN3
  clear hz3 hb3 hc0
  refine wp_region_held_drew (S := fun x => x.cell? ⟨w.heap.size, 0, none⟩ = some (.int .i64 s) ∧ x.cell? ⟨w.heap.size, 1, none⟩ = some (.int .i64 q) ∧ x.cell? ⟨w.heap.size, 2, none⟩ = some (.slice ac cn cc) ∧ x.cell? ⟨w.heap.size, 3, none⟩ = some (.slice aa an ca) ∧ x.cell? ⟨w.heap.size, 4, none⟩ = some (.slice ar rn cr) ∧ x.cell? ⟨w.heap.size, 5, none⟩ = some (.slice aw wn cw)) (by kernel_rfl) hc3 (fun hHeld => ?_)
  refine wpAnyH_take (i := 0) (v := ?v8x0) rfl (by kernel_rfl) (by kernel_rfl) (by kernel_rfl) (fun _ _ _ h => h) (Or.inl ⟨by rfl, ?hy8x0⟩) (by assumption) ?rest8x0
  case hy8x0 => intro w hSw; obtain ⟨s0, s1, s2, s3, s4, s5⟩ := hSw; go_simp <;> with_reducible rfl
  simp only [Act.put, List.getElem_toArray, List.getElem_cons_zero, List.setIfInBounds_toArray, List.set_cons_zero, List.set_cons_succ]
  refine wpAnyH_take (i := 1) (v := ?v9x1) rfl (by kernel_rfl) (by kernel_rfl) (by kernel_rfl) (fun _ _ _ h => h) (Or.inl ⟨by rfl, ?hy9x1⟩) (by assumption) ?rest9x1
  case hy9x1 => intro w hSw; obtain ⟨s0, s1, s2, s3, s4, s5⟩ := hSw; go_simp <;> with_reducible rfl
  simp only [Act.put, List.getElem_toArray, List.getElem_cons_zero, List.getElem_cons_succ, List.setIfInBounds_toArray, List.set_cons_zero, List.set_cons_succ]
  refine wpAnyH_take (i := 2) (v := (.slice aa an ca)) rfl (by kernel_rfl) (by kernel_rfl) (by kernel_rfl) (fun _ _ _ h => h) (Or.inl ⟨by rfl, ?hy10x2⟩) (by assumption) ?rest10x2
  case hy10x2 => intro w hSw; obtain ⟨s0, s1, s2, s3, s4, s5⟩ := hSw; go_simp <;> with_reducible rfl
  simp only [Act.put, List.getElem_toArray, List.getElem_cons_zero, List.getElem_cons_succ, List.setIfInBounds_toArray, List.set_cons_zero, List.set_cons_succ]
  refine wpAnyH_take (i := 3) (v := ?v11x3) rfl (by kernel_rfl) (by kernel_rfl) (by kernel_rfl) (fun _ _ _ h => h) (Or.inl ⟨by rfl, ?hy11x3⟩) (by assumption) ?rest11x3
  case hy11x3 => intro w hSw; obtain ⟨s0, s1, s2, s3, s4, s5⟩ := hSw; go_simp <;> with_reducible rfl
  simp only [Act.put, List.getElem_toArray, List.getElem_cons_zero, List.getElem_cons_succ, List.setIfInBounds_toArray, List.set_cons_zero, List.set_cons_succ]
  refine wpAnyH_take (i := 6) (v := ?v12x6) rfl (by kernel_rfl) (by kernel_rfl) (by kernel_rfl) (fun _ _ _ h => h) (Or.inl ⟨by rfl, ?hy12x6⟩) (by assumption) ?rest12x6
  case hy12x6 => intro w hSw; obtain ⟨s0, s1, s2, s3, s4, s5⟩ := hSw; go_simp <;> with_reducible rfl
  simp only [Act.put, List.getElem_toArray, List.getElem_cons_zero, List.getElem_cons_succ, List.setIfInBounds_toArray, List.set_cons_zero, List.set_cons_succ]
  refine wpAnyH_take (i := 7) (v := (.slice aa an ca)) rfl (by kernel_rfl) (by kernel_rfl) (by kernel_rfl) (fun _ _ _ h => h) (Or.inl ⟨by rfl, ?hy13x7⟩) (by assumption) ?rest13x7
  case hy13x7 => intro w hSw; obtain ⟨s0, s1, s2, s3, s4, s5⟩ := hSw; go_simp <;> with_reducible rfl
  simp only [Act.put, List.getElem_toArray, List.getElem_cons_zero, List.getElem_cons_succ, List.setIfInBounds_toArray, List.set_cons_zero, List.set_cons_succ]
  refine wpAnyH_ready (rs := [4]) (by kernel_rfl) (by simp) ?_
  refine AllReadyH.cons rfl (fun K hK => ?_) AllReadyH.nil
  go_simp
  refine hK _ _ (unhide HBX _ (unhide HX4)) ?_
  clear hK hHeld
  intro hHeld
  refine wpAnyH_ready (rs := [5]) (by kernel_rfl) (by simp) ?_
  refine AllReadyH.cons rfl (fun K hK => ?_) AllReadyH.nil
  go_simp
  refine (unhide HN3).mono ?_
  rintro e y3 ⟨v3, rfl, ho3, hy3⟩
  refine hK _ _ (unhide HBX _ ((unhide HX4).trans (hy3.mono (by have := unhide HG3; simp; omega)))) ?_
  clear hK hHeld
  intro hHeld
  have HX5 : Hid (Below (w.heap.size + 1) (w.alloc (.cells #[.int .i64 s, .int .i64 q, .slice ac cn cc, .slice aa an ca, .slice ar rn cr, .slice aw wn cw] 35)) y3) := (unhide HX4).trans (hy3.mono (by have := unhide HG3; simp; omega))
  have HXW5 : Hid (Below w.heap.size w y3) := (unhide HAL).trans ((unhide HX5).mono (by omega))
  obtain ⟨a3, c3, rfl, hs3⟩ := own_seesL ho3
  clear HN3 HX4 ho3 hy3
  have HN4 := hide (refn_any _ _ b3 t.args y3 hs3 ((unhide HA).below (unhide HXW5)) (by have := (unhide HE).2.1; omega) (i64_of (unhide HFT).args) (by have := sizeL_le t.args; have := (unhide HE).2.1; omega))
  obtain ⟨b4, hb4⟩ : ∃ b, b3 ++ putL t.args = b := ⟨_, rfl⟩
  have hl4 : b4.length ≤ 800 := by rw [← hb4]; have := putL_le t.args; have := (unhide HE).2.1; simp at *; omega
  rw [hb4] at HN4
  have HB4 := hide hb4
  clear hs3 hb4
  refine wpAnyH_ready (rs := [8]) (by kernel_rfl) (by simp) ?_
  refine AllReadyH.cons rfl (fun K hK => ?_) AllReadyH.nil
  go_simp
  refine (unhide HN4).mono ?_
  rintro e y4 ⟨v4, rfl, ho4, hy4⟩
  refine hK _ _ (unhide HBX _ ((unhide HX5).trans (hy4.mono (by have := (unhide HX5).size; simp only [World.size_alloc] at this; omega)))) ?_
  clear hK hHeld
  intro hHeld
  have HX6 : Hid (Below (w.heap.size + 1) (w.alloc (.cells #[.int .i64 s, .int .i64 q, .slice ac cn cc, .slice aa an ca, .slice ar rn cr, .slice aw wn cw] 35)) y4) := (unhide HX5).trans (hy4.mono (by have := (unhide HX5).size; simp only [World.size_alloc] at this; omega))
  have HXW6 : Hid (Below w.heap.size w y4.drew) := ((unhide HAL).trans ((unhide HX6).mono (by omega))).drew
  obtain ⟨a4, c4, rfl, hs4⟩ := own_seesL ho4
  have HS4 := hide hs4
  clear HN4 HX5 HXW5 ho4 hy4 hs4
  refine wpAnyH_take (i := 9) (v := ?v14x9) rfl (by kernel_rfl) (by kernel_rfl) (by kernel_rfl) (fun _ _ _ h => h) (Or.inl ⟨by rfl, ?hy14x9⟩) (by assumption) ?rest14x9
  case hy14x9 => intro w hSw; obtain ⟨s0, s1, s2, s3, s4, s5⟩ := hSw; go_simp <;> with_reducible rfl
  simp only [Act.put, List.getElem_toArray, List.getElem_cons_zero, List.getElem_cons_succ, List.setIfInBounds_toArray, List.set_cons_zero, List.set_cons_succ]
  refine wpAnyH_done (by kernel_rfl) ?_ _
  go_wp2_with fail
  have HN5 := hide (refKeys_any _ b4 _ t.reads y4.drew ((unhide HS4).below (Below.refl _ _).drew) ((unhide HR).below (unhide HXW6)) (unhide HFT).reads (by have := (unhide HE).2.2.1; omega) (by omega))
  rw [(unhide HE).2.2.1] at HN5
  obtain ⟨b5, hb5⟩ : ∃ b, b4 ++ putL ((rn : Int) :: keyN t.reads) = b := ⟨_, rfl⟩
  have hl5 : b5.length ≤ 1400 := by rw [← hb5]; have := putL_le ((rn : Int) :: keyN t.reads); have := (unhide HE).2.2.1; simp [keyN_length] at *; omega
  rw [hb5] at HN5
  have HB5 := hide hb5
  have hc4 := unhide HBX _ (unhide HX6)
  have HX6d : Hid (Below (w.heap.size + 1) (w.alloc (.cells #[.int .i64 s, .int .i64 q, .slice ac cn cc, .slice aa an ca, .slice ar rn cr, .slice aw wn cw] 35)) y4.drew) := (unhide HX6).drew
  clear hb5 hc3
  refine wp_region_held_drew (S := fun x => x.cell? ⟨w.heap.size, 0, none⟩ = some (.int .i64 s) ∧ x.cell? ⟨w.heap.size, 1, none⟩ = some (.int .i64 q) ∧ x.cell? ⟨w.heap.size, 2, none⟩ = some (.slice ac cn cc) ∧ x.cell? ⟨w.heap.size, 3, none⟩ = some (.slice aa an ca) ∧ x.cell? ⟨w.heap.size, 4, none⟩ = some (.slice ar rn cr) ∧ x.cell? ⟨w.heap.size, 5, none⟩ = some (.slice aw wn cw)) (by kernel_rfl) hc4 (fun hHeld => ?_)
  refine wpAnyH_take (i := 0) (v := ?v15x0) rfl (by kernel_rfl) (by kernel_rfl) (by kernel_rfl) (fun _ _ _ h => h) (Or.inl ⟨by rfl, ?hy15x0⟩) (by assumption) ?rest15x0
  case hy15x0 => intro w hSw; obtain ⟨s0, s1, s2, s3, s4, s5⟩ := hSw; go_simp <;> with_reducible rfl
  simp only [Act.put, List.getElem_toArray, List.getElem_cons_zero, List.setIfInBounds_toArray, List.set_cons_zero, List.set_cons_succ]
  refine wpAnyH_take (i := 1) (v := ?v16x1) rfl (by kernel_rfl) (by kernel_rfl) (by kernel_rfl) (fun _ _ _ h => h) (Or.inl ⟨by rfl, ?hy16x1⟩) (by assumption) ?rest16x1
  case hy16x1 => intro w hSw; obtain ⟨s0, s1, s2, s3, s4, s5⟩ := hSw; go_simp <;> with_reducible rfl
  simp only [Act.put, List.getElem_toArray, List.getElem_cons_zero, List.getElem_cons_succ, List.setIfInBounds_toArray, List.set_cons_zero, List.set_cons_succ]
  refine wpAnyH_take (i := 2) (v := (.slice ar rn cr)) rfl (by kernel_rfl) (by kernel_rfl) (by kernel_rfl) (fun _ _ _ h => h) (Or.inl ⟨by rfl, ?hy17x2⟩) (by assumption) ?rest17x2
  case hy17x2 => intro w hSw; obtain ⟨s0, s1, s2, s3, s4, s5⟩ := hSw; go_simp <;> with_reducible rfl
  simp only [Act.put, List.getElem_toArray, List.getElem_cons_zero, List.getElem_cons_succ, List.setIfInBounds_toArray, List.set_cons_zero, List.set_cons_succ]
  refine wpAnyH_take (i := 4) (v := ?v18x4) rfl (by kernel_rfl) (by kernel_rfl) (by kernel_rfl) (fun _ _ _ h => h) (Or.inl ⟨by rfl, ?hy18x4⟩) (by assumption) ?rest18x4
  case hy18x4 => intro w hSw; obtain ⟨s0, s1, s2, s3, s4, s5⟩ := hSw; go_simp <;> with_reducible rfl
  simp only [Act.put, List.getElem_toArray, List.getElem_cons_zero, List.getElem_cons_succ, List.setIfInBounds_toArray, List.set_cons_zero, List.set_cons_succ]
  refine wpAnyH_take (i := 5) (v := (.slice aw wn cw)) rfl (by kernel_rfl) (by kernel_rfl) (by kernel_rfl) (fun _ _ _ h => h) (Or.inl ⟨by rfl, ?hy19x5⟩) (by assumption) ?rest19x5
  case hy19x5 => intro w hSw; obtain ⟨s0, s1, s2, s3, s4, s5⟩ := hSw; go_simp <;> with_reducible rfl
  simp only [Act.put, List.getElem_toArray, List.getElem_cons_zero, List.getElem_cons_succ, List.setIfInBounds_toArray, List.set_cons_zero, List.set_cons_succ]
  refine wpAnyH_ready (rs := [3]) (by kernel_rfl) (by simp) ?_
  refine AllReadyH.cons rfl (fun K hK => ?_) AllReadyH.nil
  go_simp
  refine (unhide HN5).mono ?_
  rintro e y5 ⟨v5, rfl, ho5, hy5⟩
  refine hK _ _ (unhide HBX _ ((unhide HX6d).trans (hy5.mono (by have := (unhide HX6d).size; simp only [World.size_alloc] at this; omega)))) ?_
  clear hK hHeld
  intro hHeld
  have HX7 : Hid (Below (w.heap.size + 1) (w.alloc (.cells #[.int .i64 s, .int .i64 q, .slice ac cn cc, .slice aa an ca, .slice ar rn cr, .slice aw wn cw] 35)) y5) := (unhide HX6d).trans (hy5.mono (by have := (unhide HX6d).size; simp only [World.size_alloc] at this; omega))
  have HXW7 : Hid (Below w.heap.size w y5) := (unhide HAL).trans ((unhide HX7).mono (by omega))
  obtain ⟨a5, c5, rfl, hs5⟩ := own_seesL ho5
  have HN6 := hide (refKeys_any _ b5 _ t.writes y5 hs5 ((unhide HW).below (unhide HXW7)) (unhide HFT).writes (by have := (unhide HE).2.2.2; omega) (by omega))
  rw [(unhide HE).2.2.2] at HN6
  have hb6 : b5 ++ putL ((wn : Int) :: keyN t.writes) = TB := by rw [unhide HTB, ← unhide HB5, ← unhide HB4, ← unhide HB3, ← unhide HB2, ← unhide HB1]; simp only [List.nil_append]
  rw [hb6] at HN6
  clear HN5 HX6 HX6d HXW6 ho5 hy5 hs5 hb6
  refine wpAnyH_ready (rs := [6]) (by kernel_rfl) (by simp) ?_
  refine AllReadyH.cons rfl (fun K hK => ?_) AllReadyH.nil
  go_simp
  refine (unhide HN6).mono ?_
  rintro e y6 ⟨v6, rfl, ho6, hy6⟩
  refine hK _ _ (unhide HBX _ ((unhide HX7).trans (hy6.mono (by have := (unhide HX7).size; simp only [World.size_alloc] at this; omega)))) ?_
  clear hK hHeld
  intro hHeld
  have HF : Hid (y6.ownsRow w.heap.size 5 1 v6 TB.length (ints .u8 TB) ∧ Below w.heap.size w y6) := ⟨own_mono ho6 (unhide HXW7).size, (unhide HXW7).trans (hy6.mono (unhide HXW7).size)⟩
  clear HN6 ho6 hy6
  refine wpAnyH_take (i := 7) (v := ?v20x7) rfl (by kernel_rfl) (by kernel_rfl) (by kernel_rfl) (fun _ _ _ h => h) (Or.inl ⟨by rfl, ?hy20x7⟩) (by assumption) ?rest20x7
  case hy20x7 => intro w hSw; obtain ⟨s0, s1, s2, s3, s4, s5⟩ := hSw; go_simp <;> with_reducible rfl
  simp only [Act.put, List.getElem_toArray, List.getElem_cons_zero, List.getElem_cons_succ, List.setIfInBounds_toArray, List.set_cons_zero, List.set_cons_succ]
  refine wpAnyH_done (by kernel_rfl) ?_ _
  go_wp2_with fail
  go_ret
  exact ⟨_, rfl, unhide HF⟩
end Go.Proofs.Ytggllgimlfchhaa
