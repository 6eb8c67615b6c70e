/- Record: TakeTxn. -/
import Derived.Test.YtggllgimlfchhaaKG
import Derived.Deep.RegionHeld3
namespace Go.Proofs.Ytggllgimlfchhaa
open Go.RowKit
set_option maxRecDepth 100000

theorem results_cell_tmp_two {P : Program} {fn : Func} {p u v : Tmp} {ty : TypeId} (h : fn.results = #[.cell p ty, .tmp u, .tmp v]) (tmps : Array Value) (w : World) :
    (results fn tmps).run P w =
      ((asAddr (tmps.getD p undef)).run P w).andThen fun a w₁ => ((loadVar ty a).run P w₁).andThen fun x w₂ => .ok (.tuple #[x, tmps.getD u undef, tmps.getD v undef]) w₂ := by
  simp only [results, h]
  simp [Sem.run_bind, Result.andThen]
theorem results_cell_row_tmp2 {P : Program} {fn : Func} {p u v : Tmp} {ty : TypeId} (h : fn.results = #[.cell p ty, .tmp u, .tmp v]) (tmps : Array Value) (w : World) (g : Nat) (t : TypeId) (cs : Array Value) (fr : Nat × Nat) (d : TypeDesc)
    (hp : tmps.getD p undef = .pointer (some ⟨g, 0, none⟩)) (hg : w.heap[g]? = some (.cells cs t fr))
    (hu : P.underlying ty = some d) (hd : (match d with | .struct _ | .array _ _ => true | _ => false) = true) (hi : (P.info? ty).map (·.size) = some cs.size) :
    (results fn tmps).run P w = .ok (.tuple #[.agg cs, tmps.getD u undef, tmps.getD v undef]) w := by
  rw [results_cell_tmp_two h, hp]
  simp [asAddr, run_loadVar_row w g t ty cs fr d hg hu hd hi, Result.andThen]

/-- What bytes say as a transaction with which they begin. -/
def takeT (zs : List Int) : TxnD × Nat × Int :=
  let r := (RS.mk zs 0 false).txn
  let e := r.2.fault (mayT r.1)
  if e = 0 then (r.1, zs.length - r.2.zs.length, 0) else (dT, 0, e)
theorem OwnT.mono {base base' : Nat} {w : World} {cs : Array Value} {t : TxnD} (h : OwnT base w cs t) (hb : base' ≤ base) : OwnT base' w cs t := by
  obtain ⟨cv, av, rv, wv, h0, h1, h2, h3, h4⟩ := h
  exact ⟨cv, av, rv, wv, h0, own_monoN h1 hb, own_monoN h2 hb, own_monoN h3 hb, own_monoN h4 hb⟩
theorem OwnT.nil (base : Nat) (w : World) : OwnT base w #[.int .i64 0, .int .i64 0, .slice none 0 0, .slice none 0 0, .slice none 0 0, .slice none 0 0] dT := ⟨_, _, _, _, rfl, World.ownsRow_nil _ _ _ _, World.ownsRow_nil _ _ _ _, World.ownsRow_nil _ _ _ _, World.ownsRow_nil _ _ _ _⟩
theorem sub_len {a b : Nat} (h : b ≤ a) (ha : a ≤ 140737488351232) : wrap64 ((a : Int) - b) = ((a - b : Nat) : Int) := by unfold wrap64; omega

theorem sub_leni {a b : Nat} (h : b ≤ a) (ha : a ≤ 140737488351232) : IntKind.i64.wrap ((a : Int) - b) = ((a - b : Nat) : Int) := by rw [wrap_i64 _ (by omega) (by omega)]; omega
theorem num_zlen (s : RS) : s.num.2.zs.length ≤ s.zs.length := by unfold RS.num; split <;> simp
theorem blob_zlen (s : RS) : s.blob.2.zs.length ≤ s.zs.length := by unfold RS.blob; split <;> simp
theorem must_zlen (s : RS) (b : Bool) : (s.must b).zs.length ≤ s.zs.length := by unfold RS.must; split <;> simp
theorem iter_zlen {α : Type} {take : RS → α × RS} (ht : ∀ s : RS, (take s).2.zs.length ≤ s.zs.length) (s : RS) : ∀ k, (RS.iter take k s).2.zs.length ≤ s.zs.length
  | 0 => Nat.le_refl _
  | k + 1 => by
    have ih := iter_zlen ht s k
    by_cases he : (RS.iter take k s).2.er = 0
    · rw [iter_step he]; exact Nat.le_trans (ht _) ih
    · rw [iter_stop he 1]; exact ih
theorem list_zlen {α : Type} {take : RS → α × RS} (ht : ∀ s : RS, (take s).2.zs.length ≤ s.zs.length) (s : RS) : (s.list take).2.zs.length ≤ s.zs.length :=
  Nat.le_trans (iter_zlen ht _ _) (Nat.le_trans (must_zlen _ _) (num_zlen s))
theorem fit_zlen (s : RS) : s.fit32.2.zs.length ≤ s.zs.length := by
  unfold RS.fit32
  simp only
  split <;> exact num_zlen s
theorem key_zlen (s : RS) : s.key.2.zs.length ≤ s.zs.length := Nat.le_trans (num_zlen _) (fit_zlen s)
theorem txn_zlen (s : RS) : s.txn.2.zs.length ≤ s.zs.length :=
  Nat.le_trans (list_zlen key_zlen _) (Nat.le_trans (list_zlen key_zlen _) (Nat.le_trans (list_zlen num_zlen _) (Nat.le_trans (blob_zlen _) (Nat.le_trans (num_zlen _) (num_zlen _)))))

set_option maxHeartbeats 800000 in
theorem TakeTxn_any (bv : Value) (zs : List Int) (w : World) (hs : Sees w .u8 bv zs) (hby : Byt zs) (hm : zs.length ≤ 140737488351232) :
    Calls Try.prog 21 #[bv] w fun e w' => ∃ cs, e = .returned (.tuple #[.agg cs, .int .i64 (takeT zs).2.1, .int .i64 (takeT zs).2.2]) ∧ OwnT w.heap.size w' cs (takeT zs).1 ∧ Below w.heap.size w w' := by
  obtain ⟨ao, cap, rfl, _⟩ := id hs
  have hal : Below w.heap.size w ((w.alloc (.cells #[.int .i64 0, .int .i64 0, .slice none 0 0, .slice none 0 0, .slice none 0 0, .slice none 0 0] 35)).alloc (.cells #[.slice ao zs.length cap, .int .i64 0, .bool false] 94)) := ((Below.refl _ _).alloc (Nat.le_refl _) _).alloc (by simp) _
  have hszw : (w.alloc (.cells #[.int .i64 0, .int .i64 0, .slice none 0 0, .slice none 0 0, .slice none 0 0, .slice none 0 0] 35)).heap.size = w.heap.size + 1 := by simp
  have hRb : ((w.alloc (.cells #[.int .i64 0, .int .i64 0, .slice none 0 0, .slice none 0 0, .slice none 0 0, .slice none 0 0] 35)).alloc (.cells #[.slice ao zs.length cap, .int .i64 0, .bool false] 94)).heap[w.heap.size + 1]? = some (.cells #[.slice ao zs.length cap, .int .i64 0, .bool false] 94) := by have := heap_alloc_new (w.alloc (.cells #[.int .i64 0, .int .i64 0, .slice none 0 0, .slice none 0 0, .slice none 0 0, .slice none 0 0] 35)) (.cells #[.slice ao zs.length cap, .int .i64 0, .bool false] 94); rw [hszw] at this; exact this
  have hZb : ((w.alloc (.cells #[.int .i64 0, .int .i64 0, .slice none 0 0, .slice none 0 0, .slice none 0 0, .slice none 0 0] 35)).alloc (.cells #[.slice ao zs.length cap, .int .i64 0, .bool false] 94)).heap[w.heap.size]? = some (.cells #[.int .i64 0, .int .i64 0, .slice none 0 0, .slice none 0 0, .slice none 0 0, .slice none 0 0] 35) := (Below.heap_alloc _ _ _ (by simp)).trans (heap_alloc_new w _)
  have hRd : RdS ((w.alloc (.cells #[.int .i64 0, .int .i64 0, .slice none 0 0, .slice none 0 0, .slice none 0 0, .slice none 0 0] 35)).alloc (.cells #[.slice ao zs.length cap, .int .i64 0, .bool false] 94)) (w.heap.size + 1) w.heap.size ⟨zs, 0, false⟩ :=
    ⟨⟨_, cell_of_heap hRb, hs.upto.below hal (Nat.le_refl _)⟩, cell_of_heap hRb, cell_of_heap hRb, fun o => frozen_of_heap hRb, by omega, hby, hm⟩
  obtain ⟨ent, s1, hes⟩ : ∃ e s', (RS.mk zs 0 false).txn = (e, s') := ⟨_, _, rfl⟩
  have hbyt := (txn_byt (s := ⟨zs, 0, false⟩) hby).2
  have hzl := txn_zlen ⟨zs, 0, false⟩
  have hte : takeT zs = (if s1.fault (mayT ent) = 0 then (ent, zs.length - s1.zs.length, 0) else (dT, 0, s1.fault (mayT ent))) := by simp only [takeT, hes]
  have HC0 := hide (txn_r hRd)
  rw [hes] at hbyt HC0 hzl
  simp only at hbyt HC0 hzl
  have HRT := hide hbyt
  have HZ0 := hide hZb
  have HB0 : Hid (Below w.heap.size w ((w.alloc (.cells #[.int .i64 0, .int .i64 0, .slice none 0 0, .slice none 0 0, .slice none 0 0, .slice none 0 0] 35)).alloc (.cells #[.slice ao zs.length cap, .int .i64 0, .bool false] 94))) := hal
  have HSZ0 : Hid (((w.alloc (.cells #[.int .i64 0, .int .i64 0, .slice none 0 0, .slice none 0 0, .slice none 0 0, .slice none 0 0] 35)).alloc (.cells #[.slice ao zs.length cap, .int .i64 0, .bool false] 94)).heap.size = w.heap.size + 2) := by show _ = _; simp
  obtain ⟨F, hF⟩ : ∃ F, s1.fault (mayT ent) = F := ⟨_, rfl⟩
  rw [hF] at hte
  have HF := hide hF
  have hsub := sub_len hzl hm
  have hsubi := sub_leni hzl hm
  clear hal hRd hRb hZb hes hbyt hby hs hF
  obtain ⟨TE, hTE⟩ : ∃ r, takeT zs = r := ⟨_, rfl⟩
  rw [hTE] at hte ⊢
  have HTE := hide hte
  clear hTE hte
  go_enter Try.func21, Try.ntmps21
  go_wp2_with fail
  refine (unhide HC0).mono ?_
  rintro e y1 ⟨cs, rfl, hoe, p1, q1⟩
  obtain ⟨cv, av, rv, wv, rfl, o1, o2, o3, o4⟩ := hoe
  obtain ⟨a3, c3, rfl⟩ := own_shapeN o1
  obtain ⟨a4, c4, rfl⟩ := own_shapeN o2
  obtain ⟨a5, c5, rfl⟩ := own_shapeN o3
  obtain ⟨a6, c6, rfl⟩ := own_shapeN o4
  obtain ⟨n1, e1⟩ : ∃ x, ent.ses = x := ⟨_, rfl⟩
  obtain ⟨n2, e2⟩ : ∃ x, ent.req = x := ⟨_, rfl⟩
  obtain ⟨m3, e3⟩ : ∃ x, ent.code.length = x := ⟨_, rfl⟩
  obtain ⟨m4, e4⟩ : ∃ x, ent.args.length = x := ⟨_, rfl⟩
  obtain ⟨m5, e5⟩ : ∃ x, ent.reads.length = x := ⟨_, rfl⟩
  obtain ⟨m6, e6⟩ : ∃ x, ent.writes.length = x := ⟨_, rfl⟩
  have hot : OwnT ((w.alloc (.cells #[.int .i64 0, .int .i64 0, .slice none 0 0, .slice none 0 0, .slice none 0 0, .slice none 0 0] 35)).alloc (.cells #[.slice ao zs.length cap, .int .i64 0, .bool false] 94)).heap.size y1 #[.int .i64 n1, .int .i64 n2, .slice a3 m3 c3, .slice a4 m4 c4, .slice a5 m5 c5, .slice a6 m6 c6] ent := ⟨_, _, _, _, by rw [e1, e2], by rw [e3] at o1 ⊢; exact o1, by rw [e4] at o2 ⊢; exact o2, by rw [e5] at o3 ⊢; exact o3, by rw [e6] at o4 ⊢; exact o4⟩
  rw [e1, e2, e3, e4, e5, e6]
  have hsz0 := unhide HSZ0
  have hz1 : y1.heap[w.heap.size]? = some (.cells #[.int .i64 0, .int .i64 0, .slice none 0 0, .slice none 0 0, .slice none 0 0, .slice none 0 0] 35) := q1.same (unhide HZ0) (by omega)
  have hb1 : Below w.heap.size w y1 := (unhide HB0).trans (q1.below (by omega) (by omega))
  have hsy := q1.size
  have hal1 : Below y1.heap.size y1 (y1.alloc (.cells #[.int .i64 n1, .int .i64 n2, .slice a3 m3 c3, .slice a4 m4 c4, .slice a5 m5 c5, .slice a6 m6 c6] 35)) := (Below.refl _ _).alloc (Nat.le_refl _) _
  have hx1 : (y1.alloc (.cells #[.int .i64 n1, .int .i64 n2, .slice a3 m3 c3, .slice a4 m4 c4, .slice a5 m5 c5, .slice a6 m6 c6] 35)).heap[y1.heap.size]? = some (.cells #[.int .i64 n1, .int .i64 n2, .slice a3 m3 c3, .slice a4 m4 c4, .slice a5 m5 c5, .slice a6 m6 c6] 35) := heap_alloc_new y1 _
  have hz1b : (y1.alloc (.cells #[.int .i64 n1, .int .i64 n2, .slice a3 m3 c3, .slice a4 m4 c4, .slice a5 m5 c5, .slice a6 m6 c6] 35)).heap[w.heap.size]? = some (.cells #[.int .i64 0, .int .i64 0, .slice none 0 0, .slice none 0 0, .slice none 0 0, .slice none 0 0] 35) := (Below.heap_alloc _ _ _ (by omega)).trans hz1
  have hot1 : OwnT (w.heap.size + 2) (y1.alloc (.cells #[.int .i64 n1, .int .i64 n2, .slice a3 m3 c3, .slice a4 m4 c4, .slice a5 m5 c5, .slice a6 m6 c6] 35)) #[.int .i64 n1, .int .i64 n2, .slice a3 m3 c3, .slice a4 m4 c4, .slice a5 m5 c5, .slice a6 m6 c6] ent := (hot.mono (by omega)).below hal1
  have HP1 := hide (p1.below hal1)
  have HX1 := hide (And.intro hx1 hz1b)
  have HOT1 := hide hot1
  have HBw1 : Hid (Below w.heap.size w (y1.alloc (.cells #[.int .i64 n1, .int .i64 n2, .slice a3 m3 c3, .slice a4 m4 c4, .slice a5 m5 c5, .slice a6 m6 c6] 35))) := hb1.trans (hal1.mono hb1.size)
  have HC2 := hide (txnMayBe_any _ ent _ (hot1.sees (unhide HRT)))
  have HYS : Hid (w.heap.size + 2 ≤ y1.heap.size) := by show _ ≤ _; omega
  clear p1 q1 hot hot1 hx1 hz1b hal1 hz1 hb1 hsy e1 e2 e3 e4 e5 e6 o1 o2 o3 o4 HC0 hsz0
  obtain ⟨y2, hy2⟩ : ∃ y, y1.alloc (.cells #[.int .i64 n1, .int .i64 n2, .slice a3 m3 c3, .slice a4 m4 c4, .slice a5 m5 c5, .slice a6 m6 c6] 35) = y := ⟨_, rfl⟩
  rw [hy2] at HP1 HX1 HOT1 HBw1 HC2
  obtain ⟨B1, hB1⟩ : ∃ B, y1.heap.size = B := ⟨_, rfl⟩
  rw [hB1] at HX1 HYS
  have t0 : y2.cell? ⟨B1, 0, none⟩ = some (.int .i64 n1) := cell_of_heap (unhide HX1).1
  have t1 : y2.cell? ⟨B1, 1, none⟩ = some (.int .i64 n2) := cell_of_heap (unhide HX1).1
  have t2 : y2.cell? ⟨B1, 2, none⟩ = some (.slice a3 m3 c3) := cell_of_heap (unhide HX1).1
  have t3 : y2.cell? ⟨B1, 3, none⟩ = some (.slice a4 m4 c4) := cell_of_heap (unhide HX1).1
  have t4 : y2.cell? ⟨B1, 4, none⟩ = some (.slice a5 m5 c5) := cell_of_heap (unhide HX1).1
  have t5 : y2.cell? ⟨B1, 5, none⟩ = some (.slice a6 m6 c6) := cell_of_heap (unhide HX1).1
  have HS2 : Hid (B1 < y2.heap.size ∧ w.heap.size < y2.heap.size) := ⟨(Array.getElem?_eq_some_iff.1 (unhide HX1).1).1, (Array.getElem?_eq_some_iff.1 (unhide HX1).2).1⟩
  go_wp2_with (rw [hy2, hB1])
  refine (unhide HC2).mono ?_
  rintro e y3 ⟨rfl, hb3⟩
  have hrd := (unhide HP1).below hb3
  have HC3 := hide (fault_r hrd (mayT ent))
  obtain ⟨vb, hvb, hsb⟩ := hrd.cb
  obtain ⟨ab, cb, rfl, _⟩ := hsb.sees
  have hx3 : y3.heap[B1]? = some (.cells #[.int .i64 n1, .int .i64 n2, .slice a3 m3 c3, .slice a4 m4 c4, .slice a5 m5 c5, .slice a6 m6 c6] 35) := (hb3.block B1 (unhide HS2).1).trans (unhide HX1).1
  have hz3 : y3.heap[w.heap.size]? = some (.cells #[.int .i64 0, .int .i64 0, .slice none 0 0, .slice none 0 0, .slice none 0 0, .slice none 0 0] 35) := (hb3.block w.heap.size (unhide HS2).2).trans (unhide HX1).2
  have HOT3 := hide ((unhide HOT1).below hb3)
  have HBw3 : Hid (Below w.heap.size w y3) := (unhide HBw1).trans (hb3.mono (unhide HBw1).size)
  have hB1s := unhide HYS
  rw [unhide HF] at HC3
  have u0 : y3.cell? ⟨B1, 0, none⟩ = some (.int .i64 n1) := cell_of_heap hx3
  have u1 : y3.cell? ⟨B1, 1, none⟩ = some (.int .i64 n2) := cell_of_heap hx3
  have u2 : y3.cell? ⟨B1, 2, none⟩ = some (.slice a3 m3 c3) := cell_of_heap hx3
  have u3 : y3.cell? ⟨B1, 3, none⟩ = some (.slice a4 m4 c4) := cell_of_heap hx3
  have u4 : y3.cell? ⟨B1, 4, none⟩ = some (.slice a5 m5 c5) := cell_of_heap hx3
  have u5 : y3.cell? ⟨B1, 5, none⟩ = some (.slice a6 m6 c6) := cell_of_heap hx3
  have z0 : y3.cell? ⟨w.heap.size, 0, none⟩ = some (.int .i64 0) := cell_of_heap hz3
  have z1 : y3.cell? ⟨w.heap.size, 1, none⟩ = some (.int .i64 0) := cell_of_heap hz3
  have z2 : y3.cell? ⟨w.heap.size, 2, none⟩ = some (.slice none 0 0) := cell_of_heap hz3
  have z3 : y3.cell? ⟨w.heap.size, 3, none⟩ = some (.slice none 0 0) := cell_of_heap hz3
  have z4 : y3.cell? ⟨w.heap.size, 4, none⟩ = some (.slice none 0 0) := cell_of_heap hz3
  have z5 : y3.cell? ⟨w.heap.size, 5, none⟩ = some (.slice none 0 0) := cell_of_heap hz3
  have fz : ∀ o, y3.frozen? ⟨w.heap.size, o, none⟩ = false := fun o => frozen_of_heap hz3
  have HZ3 := hide hz3
  clear hb3 hx3 hz3 HC2 hrd hsb
  go_wp2_with fail
  refine (unhide HC3).mono ?_
  rintro e y4 ⟨rfl, rfl⟩
  clear HC3
  by_cases hF0 : F = 0
  · subst hF0
    have hTE : TE = (ent, zs.length - s1.zs.length, 0) := (unhide HTE).trans (if_pos rfl)
    have HT := hide hTE
    clear hTE
    have hS : y3.cell? ⟨B1, 0, none⟩ = some (.int .i64 n1) ∧ y3.cell? ⟨B1, 1, none⟩ = some (.int .i64 n2) ∧ y3.cell? ⟨B1, 2, none⟩ = some (.slice a3 m3 c3) ∧ y3.cell? ⟨B1, 3, none⟩ = some (.slice a4 m4 c4) ∧ y3.cell? ⟨B1, 4, none⟩ = some (.slice a5 m5 c5) ∧ y3.cell? ⟨B1, 5, none⟩ = some (.slice a6 m6 c6) ∧ y3.cell? ⟨w.heap.size + 1, 0, none⟩ = some (.slice ab s1.zs.length cb) := ⟨u0, u1, u2, u3, u4, u5, hvb⟩
    have HSS : Hid (∀ x : World, x.cell? ⟨B1, 0, none⟩ = some (.int .i64 n1) ∧ x.cell? ⟨B1, 1, none⟩ = some (.int .i64 n2) ∧ x.cell? ⟨B1, 2, none⟩ = some (.slice a3 m3 c3) ∧ x.cell? ⟨B1, 3, none⟩ = some (.slice a4 m4 c4) ∧ x.cell? ⟨B1, 4, none⟩ = some (.slice a5 m5 c5) ∧ x.cell? ⟨B1, 5, none⟩ = some (.slice a6 m6 c6) ∧ x.cell? ⟨w.heap.size + 1, 0, none⟩ = some (.slice ab s1.zs.length cb) → ∀ o v, (x.setCell ⟨w.heap.size, o, none⟩ v).cell? ⟨B1, 0, none⟩ = some (.int .i64 n1) ∧ (x.setCell ⟨w.heap.size, o, none⟩ v).cell? ⟨B1, 1, none⟩ = some (.int .i64 n2) ∧ (x.setCell ⟨w.heap.size, o, none⟩ v).cell? ⟨B1, 2, none⟩ = some (.slice a3 m3 c3) ∧ (x.setCell ⟨w.heap.size, o, none⟩ v).cell? ⟨B1, 3, none⟩ = some (.slice a4 m4 c4) ∧ (x.setCell ⟨w.heap.size, o, none⟩ v).cell? ⟨B1, 4, none⟩ = some (.slice a5 m5 c5) ∧ (x.setCell ⟨w.heap.size, o, none⟩ v).cell? ⟨B1, 5, none⟩ = some (.slice a6 m6 c6) ∧ (x.setCell ⟨w.heap.size, o, none⟩ v).cell? ⟨w.heap.size + 1, 0, none⟩ = some (.slice ab s1.zs.length cb)) := fun x hx o v => by
      have n1 : ∀ k, (⟨w.heap.size, o, none⟩ : Addr) ≠ ⟨B1, k, none⟩ := fun k e => by have := congrArg Addr.block e; simp only at this; omega
      have n2 : (⟨w.heap.size, o, none⟩ : Addr) ≠ ⟨w.heap.size + 1, 0, none⟩ := by simp
      obtain ⟨q0, q1, q2, q3, q4, q5, q6⟩ := hx
      exact ⟨(World.cell?_setCell_other _ _ _ _ (n1 0)).trans q0, (World.cell?_setCell_other _ _ _ _ (n1 1)).trans q1, (World.cell?_setCell_other _ _ _ _ (n1 2)).trans q2, (World.cell?_setCell_other _ _ _ _ (n1 3)).trans q3, (World.cell?_setCell_other _ _ _ _ (n1 4)).trans q4, (World.cell?_setCell_other _ _ _ _ (n1 5)).trans q5, (World.cell?_setCell_other _ _ _ _ n2).trans q6⟩
    have hS6 := unhide HSS _ (unhide HSS _ (unhide HSS _ (unhide HSS _ (unhide HSS _ (unhide HSS _ hS 0 (.int .i64 n1)) 1 (.int .i64 n2)) 2 (.slice a3 m3 c3)) 3 (.slice a4 m4 c4)) 4 (.slice a5 m5 c5)) 5 (.slice a6 m6 c6)
    have HDR : Hid (∀ x : World, x.cell? ⟨B1, 0, none⟩ = some (.int .i64 n1) ∧ x.cell? ⟨B1, 1, none⟩ = some (.int .i64 n2) ∧ x.cell? ⟨B1, 2, none⟩ = some (.slice a3 m3 c3) ∧ x.cell? ⟨B1, 3, none⟩ = some (.slice a4 m4 c4) ∧ x.cell? ⟨B1, 4, none⟩ = some (.slice a5 m5 c5) ∧ x.cell? ⟨B1, 5, none⟩ = some (.slice a6 m6 c6) ∧ x.cell? ⟨w.heap.size + 1, 0, none⟩ = some (.slice ab s1.zs.length cb) → x.drew.cell? ⟨B1, 0, none⟩ = some (.int .i64 n1) ∧ x.drew.cell? ⟨B1, 1, none⟩ = some (.int .i64 n2) ∧ x.drew.cell? ⟨B1, 2, none⟩ = some (.slice a3 m3 c3) ∧ x.drew.cell? ⟨B1, 3, none⟩ = some (.slice a4 m4 c4) ∧ x.drew.cell? ⟨B1, 4, none⟩ = some (.slice a5 m5 c5) ∧ x.drew.cell? ⟨B1, 5, none⟩ = some (.slice a6 m6 c6) ∧ x.drew.cell? ⟨w.heap.size + 1, 0, none⟩ = some (.slice ab s1.zs.length cb)) := fun x h => h
    have hZ9 : ((((((y3.setCell ⟨w.heap.size, 0, none⟩ (.int .i64 n1)).setCell ⟨w.heap.size, 1, none⟩ (.int .i64 n2)).setCell ⟨w.heap.size, 2, none⟩ (.slice a3 m3 c3)).setCell ⟨w.heap.size, 3, none⟩ (.slice a4 m4 c4)).setCell ⟨w.heap.size, 4, none⟩ (.slice a5 m5 c5)).setCell ⟨w.heap.size, 5, none⟩ (.slice a6 m6 c6)).heap[w.heap.size]? = some (.cells #[.int .i64 n1, .int .i64 n2, .slice a3 m3 c3, .slice a4 m4 c4, .slice a5 m5 c5, .slice a6 m6 c6] 35) := (setCell_heap (setCell_heap (setCell_heap (setCell_heap (setCell_heap (setCell_heap (unhide HZ3)))))))
    have hO9 : OwnT (w.heap.size + 2) ((((((y3.setCell ⟨w.heap.size, 0, none⟩ (.int .i64 n1)).setCell ⟨w.heap.size, 1, none⟩ (.int .i64 n2)).setCell ⟨w.heap.size, 2, none⟩ (.slice a3 m3 c3)).setCell ⟨w.heap.size, 3, none⟩ (.slice a4 m4 c4)).setCell ⟨w.heap.size, 4, none⟩ (.slice a5 m5 c5)).setCell ⟨w.heap.size, 5, none⟩ (.slice a6 m6 c6)) #[.int .i64 n1, .int .i64 n2, .slice a3 m3 c3, .slice a4 m4 c4, .slice a5 m5 c5, .slice a6 m6 c6] ent := (((((((unhide HOT3).setR (by omega)).setR (by omega)).setR (by omega)).setR (by omega)).setR (by omega)).setR (by omega))
    have hB9 : Below w.heap.size w ((((((y3.setCell ⟨w.heap.size, 0, none⟩ (.int .i64 n1)).setCell ⟨w.heap.size, 1, none⟩ (.int .i64 n2)).setCell ⟨w.heap.size, 2, none⟩ (.slice a3 m3 c3)).setCell ⟨w.heap.size, 3, none⟩ (.slice a4 m4 c4)).setCell ⟨w.heap.size, 4, none⟩ (.slice a5 m5 c5)).setCell ⟨w.heap.size, 5, none⟩ (.slice a6 m6 c6)) := (((((((unhide HBw3).setCell (p := ⟨w.heap.size, 0, none⟩) (Nat.le_refl _) _).setCell (p := ⟨w.heap.size, 1, none⟩) (Nat.le_refl _) _).setCell (p := ⟨w.heap.size, 2, none⟩) (Nat.le_refl _) _).setCell (p := ⟨w.heap.size, 3, none⟩) (Nat.le_refl _) _).setCell (p := ⟨w.heap.size, 4, none⟩) (Nat.le_refl _) _).setCell (p := ⟨w.heap.size, 5, none⟩) (Nat.le_refl _) _)
    obtain ⟨y9, hy9⟩ : ∃ y, ((((((y3.setCell ⟨w.heap.size, 0, none⟩ (.int .i64 n1)).setCell ⟨w.heap.size, 1, none⟩ (.int .i64 n2)).setCell ⟨w.heap.size, 2, none⟩ (.slice a3 m3 c3)).setCell ⟨w.heap.size, 3, none⟩ (.slice a4 m4 c4)).setCell ⟨w.heap.size, 4, none⟩ (.slice a5 m5 c5)).setCell ⟨w.heap.size, 5, none⟩ (.slice a6 m6 c6)) = y := ⟨_, rfl⟩
    rw [hy9] at hS6 hZ9 hO9 hB9
    have hS9 := unhide HDR y9 hS6
    have HZ9 := hide hZ9
    have HO9 := hide hO9
    have HB9 := hide hB9.drew
    clear hZ9 hO9 hB9 hS6 HSS HDR HOT3 HBw3 HZ3
    go_wp2_with fail
    refine wp_region_held_drew (S := fun x => x.cell? ⟨B1, 0, none⟩ = some (.int .i64 n1) ∧ x.cell? ⟨B1, 1, none⟩ = some (.int .i64 n2) ∧ x.cell? ⟨B1, 2, none⟩ = some (.slice a3 m3 c3) ∧ x.cell? ⟨B1, 3, none⟩ = some (.slice a4 m4 c4) ∧ x.cell? ⟨B1, 4, none⟩ = some (.slice a5 m5 c5) ∧ x.cell? ⟨B1, 5, none⟩ = some (.slice a6 m6 c6) ∧ x.cell? ⟨w.heap.size + 1, 0, none⟩ = some (.slice ab s1.zs.length cb)) (by kernel_rfl) hS (fun hHeld => ?_)
    refine wpAnyH_take (i := 0) (v := (.agg #[.int .i64 n1, .int .i64 n2, .slice a3 m3 c3, .slice a4 m4 c4, .slice a5 m5 c5, .slice a6 m6 c6])) rfl (by kernel_rfl) (by kernel_rfl) (by kernel_rfl) (fun _ _ _ h => h) (Or.inl ⟨by rfl, ?hy1x0⟩) (by assumption) ?rest1x0
    case hy1x0 => intro w hSw; obtain ⟨q0, q1, q2, q3, q4, q5, q6⟩ := hSw; go_simp <;> with_reducible rfl
    simp only [Act.put, List.getElem_toArray, List.getElem_cons_zero, List.setIfInBounds_toArray, List.set_cons_zero, List.set_cons_succ]
    refine wpAnyH_take (i := 1) (v := ?v2x1) rfl (by kernel_rfl) (by kernel_rfl) (by kernel_rfl) (fun _ _ _ h => h) (Or.inl ⟨by rfl, ?hy2x1⟩) (by assumption) ?rest2x1
    case hy2x1 => intro w hSw; obtain ⟨q0, q1, q2, q3, q4, q5, q6⟩ := hSw; go_simp <;> with_reducible rfl
    simp only [Act.put, List.getElem_toArray, List.getElem_cons_zero, List.getElem_cons_succ, List.setIfInBounds_toArray, List.set_cons_zero, List.set_cons_succ]
    refine wpAnyH_take (i := 2) (v := ?v3x2) rfl (by kernel_rfl) (by kernel_rfl) (by kernel_rfl) (fun _ _ _ h => h) (Or.inl ⟨by rfl, ?hy3x2⟩) (by assumption) ?rest3x2
    case hy3x2 => intro w hSw; obtain ⟨q0, q1, q2, q3, q4, q5, q6⟩ := hSw; go_simp <;> with_reducible rfl
    simp only [Act.put, List.getElem_toArray, List.getElem_cons_zero, List.getElem_cons_succ, List.setIfInBounds_toArray, List.set_cons_zero, List.set_cons_succ]
    refine wpAnyH_take (i := 3) (v := ?v4x3) rfl (by kernel_rfl) (by kernel_rfl) (by kernel_rfl) (fun _ _ _ h => h) (Or.inl ⟨by rfl, ?hy4x3⟩) (by assumption) ?rest4x3
    case hy4x3 => intro w hSw; obtain ⟨q0, q1, q2, q3, q4, q5, q6⟩ := hSw; go_simp <;> with_reducible rfl
    simp only [Act.put, List.getElem_toArray, List.getElem_cons_zero, List.getElem_cons_succ, List.setIfInBounds_toArray, List.set_cons_zero, List.set_cons_succ]
    refine wpAnyH_take (i := 4) (v := ?v5x4) rfl (by kernel_rfl) (by kernel_rfl) (by kernel_rfl) (fun _ _ _ h => h) (Or.inl ⟨by rfl, ?hy5x4⟩) (by assumption) ?rest5x4
    case hy5x4 => intro w hSw; obtain ⟨q0, q1, q2, q3, q4, q5, q6⟩ := hSw; go_simp <;> with_reducible rfl
    simp only [Act.put, List.getElem_toArray, List.getElem_cons_zero, List.getElem_cons_succ, List.setIfInBounds_toArray, List.set_cons_zero, List.set_cons_succ]
    refine wpAnyH_take (i := 5) (v := ?v6x5) rfl (by kernel_rfl) (by kernel_rfl) (by kernel_rfl) (fun _ _ _ h => h) (Or.inl ⟨by rfl, ?hy6x5⟩) (by assumption) ?rest6x5
    case hy6x5 => intro w hSw; obtain ⟨q0, q1, q2, q3, q4, q5, q6⟩ := hSw; go_simp <;> with_reducible rfl
    simp only [Act.put, List.getElem_toArray, List.getElem_cons_zero, List.getElem_cons_succ, List.setIfInBounds_toArray, List.set_cons_zero, List.set_cons_succ]
    refine wpAnyH_take (i := 6) (v := (.slice ab s1.zs.length cb)) rfl (by kernel_rfl) (by kernel_rfl) (by kernel_rfl) (fun _ _ _ h => h) (Or.inl ⟨by rfl, ?hy7x6⟩) (by assumption) ?rest7x6
    case hy7x6 => intro w hSw; obtain ⟨q0, q1, q2, q3, q4, q5, q6⟩ := hSw; go_simp <;> with_reducible rfl
    simp only [Act.put, List.getElem_toArray, List.getElem_cons_zero, List.getElem_cons_succ, List.setIfInBounds_toArray, List.set_cons_zero, List.set_cons_succ]
    refine wpAnyH_take (i := 7) (v := ?v8x7) rfl (by kernel_rfl) (by kernel_rfl) (by kernel_rfl) (fun _ _ _ h => h) (Or.inl ⟨by rfl, ?hy8x7⟩) (by assumption) ?rest8x7
    case hy8x7 => intro w hSw; obtain ⟨q0, q1, q2, q3, q4, q5, q6⟩ := hSw; go_simp <;> with_reducible rfl
    simp only [Act.put, List.getElem_toArray, List.getElem_cons_zero, List.getElem_cons_succ, List.setIfInBounds_toArray, List.set_cons_zero, List.set_cons_succ]
    refine wpAnyH_take (i := 8) (v := (.int .i64 ((zs.length - s1.zs.length : Nat) : Int))) rfl (by kernel_rfl) (by kernel_rfl) (by kernel_rfl) (fun _ _ _ h => h) (Or.inl ⟨by rfl, ?hy9x8⟩) (by assumption) ?rest9x8
    case hy9x8 => intro w hSw; obtain ⟨q0, q1, q2, q3, q4, q5, q6⟩ := hSw; go_simp <;> with_reducible rfl
    simp only [Act.put, List.getElem_toArray, List.getElem_cons_zero, List.getElem_cons_succ, List.setIfInBounds_toArray, List.set_cons_zero, List.set_cons_succ]
    refine wpAnyH_ready (rs := [9]) (by kernel_rfl) (by simp) ?_
    refine AllReadyH.cons rfl (fun K hK => ?_) AllReadyH.nil
    go_simp
    refine hK _ _ hS9 ?_
    clear hK hHeld
    intro hHeld
    refine wpAnyH_take (i := 10) (v := ?v10x10) rfl (by kernel_rfl) (by kernel_rfl) (by kernel_rfl) (fun _ _ _ h => h) (Or.inl ⟨by rfl, ?hy10x10⟩) (by assumption) ?rest10x10
    case hy10x10 => intro w hSw; obtain ⟨q0, q1, q2, q3, q4, q5, q6⟩ := hSw; go_simp <;> with_reducible rfl
    simp only [Act.put, List.getElem_toArray, List.getElem_cons_zero, List.getElem_cons_succ, List.setIfInBounds_toArray, List.set_cons_zero, List.set_cons_succ]
    refine wpAnyH_take (i := 11) (v := ?v11x11) rfl (by kernel_rfl) (by kernel_rfl) (by kernel_rfl) (fun _ _ _ h => h) (Or.inl ⟨by rfl, ?hy11x11⟩) (by assumption) ?rest11x11
    case hy11x11 => intro w hSw; obtain ⟨q0, q1, q2, q3, q4, q5, q6⟩ := hSw; go_simp <;> with_reducible rfl
    simp only [Act.put, List.getElem_toArray, List.getElem_cons_zero, List.getElem_cons_succ, List.setIfInBounds_toArray, List.set_cons_zero, List.set_cons_succ]
    refine wpAnyH_done (by kernel_rfl) ?_ _
    go_wp2
    refine bodyPost_ret (results_cell_row_tmp2 rfl _ _ w.heap.size 35 #[.int .i64 n1, .int .i64 n2, .slice a3 m3 c3, .slice a4 m4 c4, .slice a5 m5 c5, .slice a6 m6 c6] (0, 0) _ rfl (unhide HZ9) Try.underlying35 rfl (by kernel_rfl)) rfl ?_
    rw [unhide HT]
    exact ⟨_, rfl, (unhide HO9).mono (by omega), unhide HB9⟩
  · have hTE : TE = (dT, 0, F) := (unhide HTE).trans (if_neg hF0)
    have HT := hide hTE
    have hFb : (F != 0) = true := by simpa using hF0
    clear hTE
    go_wp2
    refine bodyPost_ret (results_cell_row_tmp2 rfl _ _ w.heap.size 35 #[.int .i64 0, .int .i64 0, .slice none 0 0, .slice none 0 0, .slice none 0 0, .slice none 0 0] (0, 0) _ rfl (setCell_heap (setCell_heap (setCell_heap (setCell_heap (setCell_heap (setCell_heap (unhide HZ3))))))) Try.underlying35 rfl (by kernel_rfl)) rfl ?_
    rw [unhide HT]
    exact ⟨_, rfl, OwnT.nil _ _, (((((((unhide HBw3).setCell (p := ⟨w.heap.size, 0, none⟩) (Nat.le_refl _) _).setCell (p := ⟨w.heap.size, 1, none⟩) (Nat.le_refl _) _).setCell (p := ⟨w.heap.size, 2, none⟩) (Nat.le_refl _) _).setCell (p := ⟨w.heap.size, 3, none⟩) (Nat.le_refl _) _).setCell (p := ⟨w.heap.size, 4, none⟩) (Nat.le_refl _) _).setCell (p := ⟨w.heap.size, 5, none⟩) (Nat.le_refl _) _)⟩
end Go.Proofs.Ytggllgimlfchhaa
