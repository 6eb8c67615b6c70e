/- A transaction's keys by partitions: the program's. -/
import Derived.Test.YtibjhjkeflbghaaL7
import Derived.Test.YtibjhjkeflbghaaG1
import Derived.Laws.CopyRow
import Derived.Laws.Rows
namespace Go.Proofs.Ytibjhjkeflbghaa
open Go.RowKit
set_option maxRecDepth 100000

/-- Eight rows of one's own, a partition each. -/
def Rows8 (base : Nat) (w : World) (f : Nat → List Ky) (rows : List Value) : Prop := rows.length = 8 ∧ (∀ (p : Nat) (v : Value), rows[p]? = some v → w.ownsRow base 37 2 v (f p).length ((f p).flatMap kC)) ∧ ∀ (p q : Nat) (v u : Value) (b : Nat), rows[p]? = some v → rows[q]? = some u → p ≠ q → v.ownBlock = some b → u.ownBlock ≠ some b
theorem Rows8.below {base : Nat} {w w' : World} {f : Nat → List Ky} {rows : List Value} (h : Rows8 base w f rows) (hb : Below w.heap.size w w') : Rows8 base w' f rows := ⟨h.1, fun p v hv => own_below (h.2.1 p v hv) hb, h.2.2⟩
theorem Rows8.mono {base base' : Nat} {w : World} {f : Nat → List Ky} {rows : List Value} (h : Rows8 base w f rows) (hb : base' ≤ base) : Rows8 base' w f rows := ⟨h.1, fun p v hv => own_mono (h.2.1 p v hv) hb, h.2.2⟩
theorem list8 {α : Type} {l : List α} (h : l.length = 8) : ∃ a b c d e f g i, l = [a, b, c, d, e, f, g, i] := by
  match l, h with
  | [a, b, c, d, e, f, g, i], _ => exact ⟨a, b, c, d, e, f, g, i, rfl⟩
theorem inP_far (n : Int) (l : List Ky) (p : Nat) (h : (manyF n).toNat ≤ p) : inP n l p = [] := by
  unfold inP
  rw [List.filter_eq_nil_iff]
  intro k _ e
  have := pl_lt n k
  simp only [decide_eq_true_eq] at e
  omega
/-- What Split told, and nothing of the partitions that there are not. -/
theorem rows8_of {base m : Nat} {w : World} {n : Int} {l : List Ky} {rows : List Value} (hm : (manyF n).toNat = m) (hl : rows.length = m) (ho : ∀ (p : Nat) (v : Value), rows[p]? = some v → w.ownsRow base 37 2 v (inP n l p).length ((inP n l p).flatMap kC)) (ha : ∀ (p q : Nat) (v u : Value) (b : Nat), rows[p]? = some v → rows[q]? = some u → p ≠ q → v.ownBlock = some b → u.ownBlock ≠ some b) (hm8 : m ≤ 8) :
    Rows8 base w (inP n l) (rows ++ List.replicate (8 - m) (Value.slice none 0 0)) := by
  have hget : ∀ (p : Nat) (v : Value), (rows ++ List.replicate (8 - m) (Value.slice none 0 0))[p]? = some v → rows[p]? = some v ∨ (m ≤ p ∧ v = .slice none 0 0) := fun p v hv => by
    by_cases h : p < rows.length
    · rw [List.getElem?_append_left h] at hv
      exact .inl hv
    · rw [List.getElem?_append_right (by omega)] at hv
      exact .inr ⟨by omega, (List.mem_replicate.1 (List.mem_of_getElem? hv)).2⟩
  refine ⟨by simp; omega, fun p v hv => ?_, fun p q v u b hv hu hpq hb => ?_⟩
  · rcases hget p v hv with h | ⟨h, rfl⟩
    · exact ho p v h
    · rw [inP_far n l p (by omega)]
      exact own_nil _ _ _ _
  · rcases hget p v hv with h | ⟨h, rfl⟩
    · rcases hget q u hu with h' | ⟨h', rfl⟩
      · exact ha p q v u b h h' hpq hb
      · simp [Value.ownBlock]
    · simp [Value.ownBlock] at hb
theorem copy_upon {P : Program} {o : Oper} {a : Act} {w w' : World} {K : Act → World → Prop} {Q : Exit → Act → World → Prop} {s x : Operand} {t t' : TypeId} {v sv v' : Value}
    (ho : o.op = .call { callee := .builtin .copy, args := #[s, x], argTypes := #[t, t'] }) (hs : a.eval s = v) (hx : a.eval x = sv) (hr : (Builtin.copy_ #[t, t'] o.type #[v, sv]).run P w = .ok v' w') (h : K (a.put o.dst v') w') : Oper.wp P o a w K Q := by
  unfold Oper.wp
  simp [execOp, ho, resolve, invoke, builtin, hs, hx, hr, Result.andThen]
  exact h
theorem wpList_store_row {P : Program} {ops : Array Oper} {rest : List Oper} {op : Oper} {a : Act} {w : World} {Q : Exit → Act → World → Prop} (hgd : op.guard = none) (ty : TypeId) (x y : Operand) (ho : op.op = .store ty x y)
    (g : Nat) (old cells : Array Value) (hx : a.eval x = .pointer (some ⟨g, 0, none⟩)) (hy : a.eval y = .agg cells) (t : TypeId) (hg : w.heap[g]? = some (.cells old t (0, 0)))
    (hi : (P.info? ty).map (·.size) = some cells.size) (hs : old.size = cells.size) (h1 : cells.all (·.oneCell') = true)
    (h : wpList P ops Q rest (a.put op.dst undef) (w.setRow g cells)) : wpList P ops Q (op :: rest) a w :=
  wpList_plain hgd fun _ hK => by
    unfold Oper.wp execOp
    simp only [ho, hx, hy, Instr.storeAt, Instr.sureAddr, Sem.run_bind, Sem.run_pure, Result.andThen_ok, run_storeVar_row w g t ty old cells hg hi hs h1]
    exact hK _ _ h
theorem below_setRow {b g : Nat} {w w' : World} {cs : Array Value} (h : Below b w w') (hg : b ≤ g) : Below b w (w'.setRow g cs) :=
  ⟨h.os, h.tape, h.output, by rw [setRow_size]; exact h.size, fun k hk => (setRow_other _ _ _ _ (by omega)).trans (h.block k hk)⟩
theorem info24s : (Try.prog.info? 24).map (·.size) = some 1 := by kernel_rfl
theorem Try.info29 : (Try.prog.info? 29).map (·.size) = some 8 := by kernel_rfl
def nil8 : Array Value := #[.slice none 0 0, .slice none 0 0, .slice none 0 0, .slice none 0 0, .slice none 0 0, .slice none 0 0, .slice none 0 0, .slice none 0 0]
theorem own_setRow {w : World} {base e size n g : Nat} {v : Value} {xs : List Value} {cs : Array Value} (h : w.ownsRow base e size v n xs) (hg : g < base) : (w.setRow g cs).ownsRow base e size v n xs := by
  refine ⟨h.1, ?_⟩
  rcases h.2 with hn | ⟨g', cap, cur, hv, hb, hh, r⟩
  · exact .inl hn
  · exact .inr ⟨g', cap, cur, hv, hb, (setRow_other _ _ _ _ (by omega)).trans hh, r⟩

set_option maxHeartbeats 1600000 in
theorem fsplit_any {v : Value} {l : List Ky} {w : World} (n : Int) (hs : SeesL kC 2 w v l) (hok : ∀ k ∈ l, OkK k) (hll : l.length ≤ 8796093021952) :
    Calls Try.prog 36 #[.int .i64 n, v] w fun e w' => ∃ rows, e = .returned (.agg rows.toArray) ∧ Rows8 w.heap.size w' (inP n (srt l)) rows ∧ Below w.heap.size w w' := by
  obtain ⟨Y0, hY0⟩ : ∃ y, w.alloc (.cells nil8 29) = y := ⟨_, rfl⟩
  obtain ⟨Y, hY⟩ : ∃ y, Y0.alloc (.cells nil8 29) = y := ⟨_, rfl⟩
  have b0 : Below w.heap.size w Y0 := hY0 ▸ below_box _
  have z0 : Y0.heap.size = w.heap.size + 1 := by rw [← hY0]; simp
  have bY : Below w.heap.size w Y := hY ▸ b0.alloc b0.size _
  have x0 : Y0.heap[w.heap.size]? = some (.cells nil8 29) := by rw [← hY0]; exact heap_alloc_new w _
  have xY : Y.heap[w.heap.size]? = some (.cells nil8 29) := by rw [← hY]; exact (Below.heap_alloc Y0 _ _ (by omega)).trans x0
  have uY : Y.heap[Y0.heap.size]? = some (.cells nil8 29) := by rw [← hY]; exact heap_alloc_new Y0 _
  have hsz : Y0.heap.size < Y.heap.size := by rw [← hY]; simp
  have HSP := hide (split_any n ((hs.below kC_len bY).below kC_len (Below.refl _ _).drew) hok hll : Calls Try.prog 52 #[.int .i64 n, v] Y.drew _)
  have hmr := manyF_range n
  obtain ⟨m, hm⟩ : ∃ m, (manyF n).toNat = m := ⟨_, rfl⟩
  have hm8 : m ≤ 8 := by omega
  rw [hm] at HSP
  have HM := hide hm
  have HX := hide (And.intro b0 (And.intro z0 (And.intro bY (And.intro xY (And.intro uY hsz)))))
  have HY0 := hide hY0
  have HY := hide hY
  obtain ⟨av, cv, hv⟩ := hs.shape
  subst hv
  clear hs hok hll b0 z0 bY x0 xY uY hsz hm hmr hY0 hY
  go_enter Try.func36, Try.ntmps36
  go_wp2_with (first | rw [show w.alloc (.cells #[.slice none 0 0, .slice none 0 0, .slice none 0 0, .slice none 0 0, .slice none 0 0, .slice none 0 0, .slice none 0 0, .slice none 0 0] 29) = Y0 from unhide HY0] | rw [show Y0.alloc (.cells #[.slice none 0 0, .slice none 0 0, .slice none 0 0, .slice none 0 0, .slice none 0 0, .slice none 0 0, .slice none 0 0, .slice none 0 0] 29) = Y from unhide HY])
  refine wp_region_held_drew (S := fun x => True) (by kernel_rfl) trivial (fun hHeld => ?_)
  refine wpAnyH_take (i := 0) (v := ?v1x0) rfl (by kernel_rfl) (by kernel_rfl) (by kernel_rfl) (fun _ _ _ h => h) (Or.inl ⟨by rfl, ?hy1x0⟩) (by assumption) ?rest1x0
  case hy1x0 => intro w hSw; go_simp <;> with_reducible rfl
  simp only [Act.put, List.getElem_toArray, List.getElem_cons_zero, List.setIfInBounds_toArray, List.set_cons_zero, List.set_cons_succ]
  refine wpAnyH_take (i := 1) (v := ?v2x1) rfl (by kernel_rfl) (by kernel_rfl) (by kernel_rfl) (fun _ _ _ h => h) (Or.inl ⟨by rfl, ?hy2x1⟩) (by assumption) ?rest2x1
  case hy2x1 => intro w hSw; go_simp <;> with_reducible rfl
  simp only [Act.put, List.getElem_toArray, List.getElem_cons_zero, List.getElem_cons_succ, List.setIfInBounds_toArray, List.set_cons_zero, List.set_cons_succ]
  refine wpAnyH_take (i := 2) (v := ?v3x2) rfl (by kernel_rfl) (by kernel_rfl) (by kernel_rfl) (fun _ _ _ h => h) (Or.inl ⟨by rfl, ?hy3x2⟩) (by assumption) ?rest3x2
  case hy3x2 => intro w hSw; go_simp <;> with_reducible rfl
  simp only [Act.put, List.getElem_toArray, List.getElem_cons_zero, List.getElem_cons_succ, List.setIfInBounds_toArray, List.set_cons_zero, List.set_cons_succ]
  refine wpAnyH_ready (rs := [3]) (by kernel_rfl) (by simp) ?_
  refine AllReadyH.cons rfl (fun K hK => ?_) AllReadyH.nil
  go_simp
  refine (unhide HSP).mono ?_
  rintro e w1 ⟨g1, rfl, hpt, hb1⟩
  refine hK _ _ trivial ?_
  clear hK hHeld
  have HPT := hide hpt
  have HB1 := hide hb1
  clear hpt hb1 HSP
  intro hHeld
  obtain ⟨hg1, rows, hrl, hrh, hro, hra⟩ := unhide HPT
  obtain ⟨b0, z0, bY, xY, uY, hsz⟩ := unhide HX
  have hb1' : Below Y.heap.size Y w1 := ((Below.refl _ _).drew).trans ((unhide HB1).mono (Nat.le_refl _))
  have u1 : w1.heap[Y0.heap.size]? = some (.cells nil8 29) := (hb1'.block _ hsz).trans uY
  have x1 : w1.heap[w.heap.size]? = some (.cells nil8 29) := (hb1'.block _ (by omega)).trans xY
  have hcp := run_copy_row (P := Try.prog) w1 89 89 3 24 Y0.heap.size 0 8 8 ⟨g1, 0, none⟩ m m nil8 29 rows Try.underlying89 info24s u1 (by rw [hrl]; exact (Nat.min_eq_left hm8).symm) (fun j u hj => by
    have e : (⟨g1, 0, none⟩ : Addr).add j = ⟨g1, j, none⟩ := add_at g1 j
    rw [e, cell_at hrh]
    simpa using hj) (by show 0 + rows.length ≤ 8; omega) (fun u hu => by
    obtain ⟨p, hp⟩ := List.getElem?_of_mem hu
    obtain ⟨ao, cap, e⟩ := own_shape (hro p u hp)
    rw [e]; rfl)
  have e8 : (nil8.toList.take 0 ++ rows ++ nil8.toList.drop (0 + rows.length)).toArray = (rows ++ List.replicate (8 - m) (Value.slice none 0 0)).toArray := by
    have : nil8.toList = List.replicate 8 (Value.slice none 0 0) := rfl
    rw [this, List.take_zero, List.nil_append, Nat.zero_add, List.drop_replicate, hrl]
  rw [e8] at hcp
  have h8 := rows8_of (unhide HM) hrl hro hra hm8
  obtain ⟨F, hF⟩ : ∃ F, rows ++ List.replicate (8 - m) (Value.slice none 0 0) = F := ⟨_, rfl⟩
  rw [hF] at hcp h8
  obtain ⟨f0, f1, f2, f3, f4, f5, f6, f7, hFe⟩ := list8 h8.1
  obtain ⟨w2, hw2⟩ : ∃ z, w1.setRow Y0.heap.size F.toArray = z := ⟨_, rfl⟩
  rw [hw2] at hcp
  have hF1 : F.toArray.all (·.oneCell') = true := by
    rw [List.all_toArray, List.all_eq_true]
    intro u hu
    obtain ⟨p, hp⟩ := List.getElem?_of_mem hu
    obtain ⟨ao, cap, e⟩ := own_shape (h8.2.1 p u hp)
    rw [e]; rfl
  have u2 : w2.heap[Y0.heap.size]? = some (.cells F.toArray 29) := by rw [← hw2, setRow_heap w1 Y0.heap.size _ _ 29 (0, 0) u1]
  have x2 : w2.heap[w.heap.size]? = some (.cells nil8 29) := by rw [← hw2, setRow_other _ _ _ _ (by omega)]; exact x1
  have hb2 : Below w.heap.size w w2 := hw2 ▸ below_setRow (bY.trans (hb1'.mono bY.size)) b0.size
  have o2 : Rows8 Y.heap.size w2 (inP n (srt l)) F := ⟨h8.1, fun p u hp => hw2 ▸ own_setRow (h8.2.1 p u hp) hsz, h8.2.2⟩
  have HF := hide (And.intro u2 (And.intro x2 (And.intro hb2 (And.intro o2 (And.intro hF1 hFe)))))
  have HCP := hide hcp
  clear hcp e8 h8 hF hFe hw2 hF1 u2 x2 hb2 o2 hrl hrh hro hra hg1 b0 z0 bY xY uY hsz hb1' u1 x1
  refine wpAnyH_ready (rs := [4]) (by kernel_rfl) (by simp) ?_
  refine AllReadyH.cons rfl (fun K hK => ?_) AllReadyH.nil
  rw [if_pos (by rfl)]
  refine copy_upon rfl rfl rfl (unhide HCP) ?_
  simp only [Act.put, List.getElem_toArray, List.getElem_cons_zero, List.getElem_cons_succ, List.setIfInBounds_toArray, List.set_cons_zero, List.set_cons_succ]
  refine hK _ _ trivial ?_
  clear hK hHeld
  intro hHeld
  refine wpAnyH_done (by kernel_rfl) ?_ _
  obtain ⟨u2, x2, hb2, o2, hF1, hFe⟩ := unhide HF
  have hFs : F.toArray.size = 8 := by rw [List.size_toArray]; exact o2.1
  have h29 : (Try.prog.info? 29).map (·.size) = some F.toArray.size := by rw [hFs]; exact Try.info29
  have x3 : (w2.setRow w.heap.size F.toArray).heap[w.heap.size]? = some (.cells F.toArray 29) := by rw [setRow_heap w2 w.heap.size _ _ 29 (0, 0) x2]
  have hb3 : Below w.heap.size w (w2.setRow w.heap.size F.toArray) := below_setRow hb2 (Nat.le_refl _)
  have o3 : Rows8 w.heap.size (w2.setRow w.heap.size F.toArray) (inP n (srt l)) F := ⟨o2.1, fun p u hp => own_mono (own_setRow (o2.2.1 p u hp) (by obtain ⟨b0, z0, bY, xY, uY, hsz⟩ := unhide HX; omega)) (unhide HX).2.2.1.size, o2.2.2⟩
  have HU := hide (And.intro u2 (And.intro x2 (And.intro hF1 (And.intro hFs h29))))
  have HO := hide (And.intro x3 (And.intro hb3 o3))
  clear u2 x2 hb2 o2 hF1 hFe hFs h29 x3 hb3 o3
  obtain ⟨A, hA⟩ : ∃ A, F.toArray = A := ⟨_, rfl⟩
  rw [hA] at HU HO
  have hns : nil8.size = A.size := (unhide HU).2.2.2.1.symm
  have HNS := hide hns
  have HA := hide hA
  clear hA hns
  go_wp2_with (first | (refine wpList_load_row rfl 29 _ rfl Y0.heap.size rfl 29 A (0, 0) _ (unhide HU).1 Try.underlying29 rfl (unhide HU).2.2.2.2 ?_) | (refine wpList_store_row rfl 29 _ _ rfl w.heap.size nil8 A rfl rfl 29 (unhide HU).2.1 (unhide HU).2.2.2.2 (unhide HNS) (unhide HU).2.2.1 ?_))
  exact bodyPost_ret (results_cell_row rfl _ _ w.heap.size 29 _ (0, 0) _ rfl (unhide HO).1 Try.underlying29 rfl (unhide HU).2.2.2.2) rfl ⟨F, by rw [unhide HA], (unhide HO).2.2, (unhide HO).2.1⟩
end Go.Proofs.Ytibjhjkeflbghaa
