/- Several texts as one. -/
import Derived.Test.YtldapckooohigaaDoorJE

/- rising: a map gone through, and sorted. -/
namespace Go.Proofs.YtldapckooohigaaDoor
open Go.RowKit
open Go.ChangeMaps (setBlock heap_setBlock_same heap_setBlock_other)
set_option maxRecDepth 100000

theorem perm_push {α : Type} (bn : α → Nat) (p : Nat → Bool) : ∀ (l : List α), (l.map bn).Nodup → ∀ x ∈ l, p (bn x) = false → (l.filter fun y => p (bn y) || bn y == bn x).Perm (x :: l.filter fun y => p (bn y))
  | [], _, x, hx, _ => by cases hx
  | y :: r, hn, x, hx, hp => by
    have hn' := List.nodup_cons.1 hn
    rcases List.mem_cons.1 hx with rfl | hx
    · rw [List.filter_cons_of_pos (by simp), List.filter_cons_of_neg (by simp [hp])]
      refine List.Perm.cons _ (List.Perm.of_eq (List.filter_congr fun z hz => ?_))
      have : bn z ≠ bn x := fun e => hn'.1 (e ▸ List.mem_map.2 ⟨z, hz, rfl⟩)
      simp [this]
    · have hne : bn y ≠ bn x := fun e => hn'.1 (e ▸ List.mem_map.2 ⟨x, hx, rfl⟩)
      have ih := perm_push bn p r hn'.2 x hx hp
      by_cases hy : p (bn y) = true
      · rw [List.filter_cons_of_pos (by simp [hy]), List.filter_cons_of_pos (p := fun y => p (bn y)) hy]
        exact (List.Perm.cons _ ih).trans (List.Perm.swap ..)
      · rw [List.filter_cons_of_neg (by simp [hy, hne]), List.filter_cons_of_neg (p := fun y => p (bn y)) hy]
        exact ih
theorem rtC : RT chC 4 30 40 32 := ⟨chC_len, chC_one, by decide, Tryd.underlying30, by
  obtain ⟨i, hi, hz, hs1, hb⟩ := info_parts (show (Tryd.prog.info? 40).map (fun i => (i.zero, i.size, i.bytes)) = some (some (.agg #[.int .i32 0, .int .i64 0, .int .i64 0, .bool false]), 4, 32) by kernel_rfl)
  exact ⟨i, _, hi, hz, hs1, hb, rfl⟩⟩
theorem sees_oneC (w : World) (c : Ch) : SeesL chC 4 (w.alloc (.cells #[.int .i32 c.1.1, .int .i64 c.1.2, .int .i64 c.2.1, .bool c.2.2] 40)) (.slice (some ⟨w.heap.size, 0, none⟩) 1 1) [c] := by
  refine ⟨_, 1, w.heap.size, 0, rfl, by simp, by simp, (fun h => by cases h), fun _ => rfl, fun t y hy j hj => ?_⟩
  obtain ⟨ht, rfl⟩ := List.getElem?_eq_some_iff.1 hy
  obtain rfl : t = 0 := by simpa using ht
  rw [cell_at (heap_alloc_new w _)]
  rcases (by omega : j = 0 ∨ j = 1 ∨ j = 2 ∨ j = 3) with rfl | rfl | rfl | rfl <;> rfl
/-- Where the range over the map stands. -/
structure Rg (w : World) (mb : Nat) (es : Array MapEntry) (clock : Nat) (D : List Ch) (seen : Array Nat) (o : Value) (wr : World) : Prop where
  it : wr.heap[w.heap.size]? = some (.mapIter (some mb) clock seen clock)
  mp : wr.heap[mb]? = some (.map es clock)
  bel : Below w.heap.size w wr
  own : ∃ D' : List Ch, wr.ownsRow w.heap.size 40 4 o D'.length (D'.flatMap chC) ∧ D'.Perm (((es.toList.zip D).filter fun y => seen.contains y.1.born).map (·.2))
theorem zip_facts {es : Array MapEntry} {clock : Nat} {D : List Ch} (hst : Stp es clock) (hes : es.toList.map (fun e => (e.key, e.val)) = (D.map chE).map fun q => (keyV q.1.1 q.1.2, q.2)) :
    ((es.toList.zip D).map fun y => y.1.born).Nodup ∧ (es.toList.zip D).map (·.2) = D ∧ ∀ e ∈ es.toList, ∃ c ∈ D, (e, c) ∈ es.toList.zip D ∧ e.key = keyV c.1.1 c.1.2 ∧ e.val = (chE c).2 := by
  have hl : es.toList.length = D.length := by simpa using congrArg List.length hes
  refine ⟨?_, ?_, fun e he => ?_⟩
  · have : (es.toList.zip D).map (fun y => y.1.born) = ((es.toList.zip D).map (·.1)).map (·.born) := by rw [List.map_map]; rfl
    rw [this, List.map_fst_zip (by omega)]
    exact hst.2
  · exact List.map_snd_zip (by omega)
  · obtain ⟨i, hi, rfl⟩ := List.getElem_of_mem he
    have hiD : i < D.length := by omega
    refine ⟨D[i], List.getElem_mem _, ?_, ?_⟩
    · have : (es.toList.zip D)[i]? = some (es.toList[i], D[i]) := by rw [List.getElem?_zip_eq_some]; exact ⟨List.getElem?_eq_getElem hi, List.getElem?_eq_getElem hiD⟩
      exact List.mem_of_getElem? this
    · have h4 : (es.toList.map (fun e => (e.key, e.val)))[i]? = some (es.toList[i].key, es.toList[i].val) := by rw [List.getElem?_map, List.getElem?_eq_getElem hi]; rfl
      rw [hes, List.map_map, List.getElem?_map, List.getElem?_eq_getElem hiD] at h4
      simp only [Option.map_some, Option.some.injEq, Prod.mk.injEq, Function.comp] at h4
      exact ⟨h4.1.symm, h4.2.symm⟩
end Go.Proofs.YtldapckooohigaaDoor

/- rising. -/
namespace Go.Proofs.YtldapckooohigaaDoor
open Go.RowKit
open Go.ChangeMaps (setBlock heap_setBlock_same heap_setBlock_other)
set_option maxRecDepth 100000

theorem heap_setBlock_at {w : World} {r : Nat} {o o' : Obj} (h : w.heap[r]? = some o) : (setBlock w r o').heap[r]? = some o' := by
  have := (Array.getElem?_eq_some_iff.1 h).1
  simp [setBlock, this]
theorem heap_setBlock_ne {w : World} {r j : Nat} (o' : Obj) (h : j ≠ r) : (setBlock w r o').heap[j]? = w.heap[j]? := by
  simp [setBlock, Ne.symm h]
set_option maxHeartbeats 1600000 in
theorem rising_any {w : World} {mb : Nat} {D : List Ch} (hm : MapAt w mb (D.map chE)) (hn : (keysD D).Nodup) (hll : D.length < 4398046511104) :
    Calls Tryd.prog 32 #[.map (some mb)] w fun e w' => ∃ x D', e = .returned x ∧ w'.ownsRow w.heap.size 40 4 x D'.length (D'.flatMap chC) ∧ RisesC D' ∧ D'.Perm D ∧ Below w.heap.size w w' := by
  obtain ⟨es, clock, hb, hes, hst⟩ := hm
  obtain ⟨zn, zs, zf⟩ := zip_facts hst hes
  have hlt := (Array.getElem?_eq_some_iff.1 hb).1
  have hrg := run_range_map (P := Tryd.prog) w 67 38 40 mb es clock Tryd.underlying67 hb
  obtain ⟨y0, hy0⟩ : ∃ y, w.alloc (.mapIter (some mb) clock #[] clock) = y := ⟨_, rfl⟩
  rw [hy0] at hrg
  have HI0 : Hid (Rg w mb es clock D #[] (.slice none 0 0) y0) := ⟨hy0 ▸ heap_alloc_new w _, by rw [← hy0]; exact ((below_box (.mapIter (some mb) clock #[] clock)).block mb hlt).trans hb, hy0 ▸ below_box _, [], own_nil _ _ _ _, by simp⟩
  have HZ := hide (And.intro zn (And.intro zs zf))
  have HB := hide hb
  have HST := hide hst
  have HN := hide hn
  have HLL := hide hll
  clear hb hes hst zn zs zf hlt hn hll
  go_enter Tryd.func32, Tryd.ntmps32
  go_wp2
  go_loopw [3] (fun o wr => ∃ seen, Rg w mb es clock D seen o wr) (fun _ wr => (leftOf es (wr.iterSeen w.heap.size)).size)
  case atStart => exact ⟨#[], unhide HI0⟩
  case round =>
    obtain ⟨seen, hr⟩ := hrel
    obtain ⟨zn, zs, zf⟩ := unhide HZ
    have hseen : wr.iterSeen w.heap.size = seen := by unfold World.iterSeen; rw [hr.it]
    obtain ⟨D', how, hpe⟩ := hr.own
    obtain ⟨ov, oc, hov⟩ := own_shape how
    subst hov
    rcases run_next_at (P := Tryd.prog) wr 0 w.heap.size mb clock clock seen es clock hr.it hr.mp (unhide HST).1 (Nat.le_refl _) with ⟨h0, hrun⟩ | ⟨e, he, w1, hal, hrun⟩
    · have hnx : ∀ ty, (Instr.next (.pointer (some ⟨w.heap.size, 0, none⟩)) false ty).run Tryd.prog wr = _ := fun _ => hrun
      have hall : ((es.toList.zip D).filter fun y => seen.contains y.1.born) = es.toList.zip D := List.filter_eq_self.2 fun y hy => all_seen es seen h0 y.1 (List.of_mem_zip hy).1
      rw [hall, zs] at hpe
      have hnk : (D'.map (·.1)).Nodup := (hpe.map _).nodup_iff.2 (unhide HN)
      have hl := hpe.length_eq
      have HC := hide (sortD_any how hnk (by have := unhide HLL; omega) hr.bel.size)
      have HBL := hide hr.bel
      have HPE := hide hpe
      obtain ⟨n, hnn⟩ : ∃ n, D'.length = n := ⟨_, rfl⟩
      have HNN := hide hnn
      rw [hnn] at HC
      rw [hnn]
      clear hrun hr hall how hpe hnk h0 hseen zn zs zf hl hnn
      go_wp2_with (go_at_call 45; refine (unhide HC).mono ?_; rintro e w2 ⟨rfl, hq⟩; have HQ := hide hq; clear hq)
      go_ret
      obtain ⟨D2, q1, q2, q3, q4⟩ := unhide HQ
      have hl3 := q3.length_eq
      have hres : w2.ownsRow w.heap.size 40 4 (.slice ov n oc) D2.length (D2.flatMap chC) := by rw [hl3, unhide HNN]; exact q1
      exact ⟨.slice ov n oc, D2, rfl, hres, q2, q3.trans (unhide HPE), (unhide HBL).trans q4⟩
    · have hmem := mem_left he
      obtain ⟨c, hcD, hcz, hck, hcv⟩ := zf e hmem.1
      have hcv' : e.val = .agg #[.int .i32 c.1.1, .int .i64 c.1.2, .int .i64 c.2.1, .bool c.2.2] := hcv
      rw [hck, hcv'] at hrun
      have hnx : ∀ ty, (Instr.next (.pointer (some ⟨w.heap.size, 0, none⟩)) false ty).run Tryd.prog wr = _ := fun _ => hrun
      have hw1 : Below wr.heap.size wr w1 := by
        rcases hal with rfl | rfl
        · exact Below.refl _ _
        · exact (Below.refl _ _).drew
      have hit1 : w1.heap[w.heap.size]? = some (.mapIter (some mb) clock seen clock) := (hw1.block _ (Array.getElem?_eq_some_iff.1 hr.it).1).trans hr.it
      have hmp1 : w1.heap[mb]? = some (.map es clock) := (hw1.block _ (Array.getElem?_eq_some_iff.1 hr.mp).1).trans hr.mp
      have how1 := own_below how hw1
      have hb1 : Below w.heap.size w w1 := hr.bel.trans (hw1.mono hr.bel.size)
      have hmne : mb ≠ w.heap.size := fun e1 => by rw [e1, hit1] at hmp1; cases hmp1
      obtain ⟨w2, hw2⟩ : ∃ y, setBlock w1 w.heap.size (.mapIter (some mb) clock (seen.push e.born) clock) = y := ⟨_, rfl⟩
      rw [hw2] at hnx hrun
      have hit2 : w2.heap[w.heap.size]? = some (.mapIter (some mb) clock (seen.push e.born) clock) := hw2 ▸ heap_setBlock_at hit1
      have hne2 : ∀ j, j ≠ w.heap.size → w2.heap[j]? = w1.heap[j]? := fun j hj => hw2 ▸ heap_setBlock_ne _ hj
      have hsz2 : w2.heap.size = w1.heap.size := by rw [← hw2]; simp [setBlock]
      have hmp2 : w2.heap[mb]? = some (.map es clock) := (hne2 mb hmne).trans hmp1
      have hb2 : Below w.heap.size w w2 := hb1.trans ⟨by rw [← hw2]; rfl, by rw [← hw2]; rfl, by rw [← hw2]; rfl, by omega, fun j hj => hne2 j (by omega)⟩
      have how2 : w2.ownsRow w.heap.size 40 4 (.slice ov D'.length oc) D'.length (D'.flatMap chC) := by
        refine ⟨how1.1, ?_⟩
        rcases how1.2 with hn | ⟨g', cap', cur, hv, hb', hh, r⟩
        · exact .inl hn
        · exact .inr ⟨g', cap', cur, hv, hb', (hne2 g' fun e1 => by rw [e1, hit1] at hh; cases hh).trans hh, r⟩
      have hen : (Instr.entry (.pointer (some ⟨w.heap.size, 0, none⟩))).run Tryd.prog w2 = .ok (.tuple #[e.key, e.val]) w2 := run_entry_at w2 w.heap.size mb clock seen es clock e hit2 hmp2 hmem.1 (unhide HST).2
      rw [hck, hcv'] at hen
      obtain ⟨y1, hy1⟩ : ∃ y, w2.alloc (.cells #[.int .i32 c.1.1, .int .i64 c.1.2, .int .i64 c.2.1, .bool c.2.2] 40) = y := ⟨_, rfl⟩
      have b1 : Below w2.heap.size w2 y1 := hy1 ▸ below_box _
      have x1 : y1.heap[w2.heap.size]? = some (.cells #[.int .i32 c.1.1, .int .i64 c.1.2, .int .i64 c.2.1, .bool c.2.2] 40) := hy1 ▸ heap_alloc_new w2 _
      have c0 : y1.cell? ⟨w2.heap.size, 0, none⟩ = some (.int .i32 c.1.1) := cell_at x1
      have c1 : y1.cell? ⟨w2.heap.size, 1, none⟩ = some (.int .i64 c.1.2) := cell_at x1
      have c2 : y1.cell? ⟨w2.heap.size, 2, none⟩ = some (.int .i64 c.2.1) := cell_at x1
      have c3 : y1.cell? ⟨w2.heap.size, 3, none⟩ = some (.bool c.2.2) := cell_at x1
      have hby1 : Below w.heap.size w y1 := hb2.trans (b1.mono hb2.size)
      have hbox : Below y1.heap.size y1 (y1.alloc (.cells #[.int .i32 c.1.1, .int .i64 c.1.2, .int .i64 c.2.1, .bool c.2.2] 40)) := below_box _
      have hlD : D'.length ≤ D.length := by
        rw [hpe.length_eq, List.length_map]
        refine Nat.le_trans (List.length_filter_le _ _) ?_
        rw [← List.length_map (f := (·.2)), zs]
        exact Nat.le_refl _
      have hll := unhide HLL
      obtain ⟨ao, cap, y3, r2, o3, b3, oth⟩ := rtC.appB (l := D') 30 (own_below (own_below how2 b1) hbox) (sees_oneC y1 c) (by simp; omega) (by simp; omega) (by have := hby1.size; simp; omega)
      have hb3 : Below w.heap.size w y3 := (hby1.trans (hbox.mono hby1.size)).trans b3
      have hit3 : y3.heap[w.heap.size]? = some (.mapIter (some mb) clock (seen.push e.born) clock) := oth _ _ ((hbox.block _ (by have := hby1.size; have := (Array.getElem?_eq_some_iff.1 hit2).1; have := b1.size; omega)).trans ((b1.block _ (Array.getElem?_eq_some_iff.1 hit2).1).trans hit2)) (fun cs e1 => by cases e1)
      have hmp3 : y3.heap[mb]? = some (.map es clock) := oth _ _ ((hbox.block _ (by have := (Array.getElem?_eq_some_iff.1 hmp2).1; have := b1.size; omega)).trans ((b1.block _ (Array.getElem?_eq_some_iff.1 hmp2).1).trans hmp2)) (fun cs e1 => by cases e1)
      have hR : Rg w mb es clock D (seen.push e.born) (.slice ao (D'.length + 1) cap) y3 := by
        refine ⟨hit3, hmp3, hb3, D' ++ [c], by rw [List.length_append]; exact o3, ?_⟩
        have hpp := perm_push (fun y : MapEntry × Ch => y.1.born) (fun b => seen.contains b) (es.toList.zip D) zn (e, c) hcz hmem.2
        have hfe : ((es.toList.zip D).filter fun y => (seen.push e.born).contains y.1.born) = (es.toList.zip D).filter fun y => seen.contains y.1.born || y.1.born == e.born := List.filter_congr fun y _ => contains_push _ _ _
        rw [hfe]
        refine List.Perm.trans ?_ (hpp.map _).symm
        rw [List.map_cons]
        exact (List.perm_append_singleton c D').trans (List.Perm.cons c hpe)
      have HR := hide hR
      have HM := hide (left_shrinks es seen e he)
      have r2' : (Builtin.append_ #[30, 30] 30 #[.slice ov D'.length oc, .slice (some ⟨y1.heap.size, 0, none⟩) 1 1]).run Tryd.prog (y1.alloc (.cells #[.int .i32 c.1.1, .int .i64 c.1.2, .int .i64 c.2.1, .bool c.2.2] 40)) = .ok (.slice ao (D'.length + 1) cap) y3 := r2
      have HR2 := hide r2'
      have HS3 : Hid (y3.iterSeen w.heap.size = seen.push e.born) := by show y3.iterSeen w.heap.size = _; unfold World.iterSeen; rw [hit3]
      clear hr zn zs zf how hpe hmem hcD hcz hck hcv hcv' hrun hw1 hit1 hmp1 how1 hb1 hmne hw2 hit2 hne2 hsz2 hmp2 hb2 how2 b1 x1 hby1 hbox hlD hll r2 o3 b3 oth hb3 hit3 hmp3 hR r2' hal he
      go_wp2_with (first | rw [hy1] | (refine wpList_append_wanted (by rfl) _ _ 30 rfl rfl rfl (unhide HR2) ?_))
      go_roundw
      case rel => exact ⟨_, unhide HR⟩
      case measure => rw [unhide HS3, hseen]; exact unhide HM
end Go.Proofs.YtldapckooohigaaDoor
