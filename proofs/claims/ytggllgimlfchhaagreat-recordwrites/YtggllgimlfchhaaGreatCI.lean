/- RecordChecks: the walk. -/
import Derived.Test.YtggllgimlfchhaaGreatGU
import Derived.Deep.RegionHeld3
namespace Go.Proofs.YtggllgimlfchhaaGreat
open Go.RowKit
set_option maxRecDepth 100000

theorem run_loadE {ρ : Operand → Value} {o : Oper} {s : Operand} {w : World} {g T : Nat} {cs : Array Value} {fs : Array Field} {v : Value} (ho : o.op = .load T s) (hs : ρ s = .pointer (some ⟨g, 0, none⟩)) (hg : w.heap[g]? = some (.cells cs T))
    (hu : Tryz.prog.underlying T = some (.struct fs)) (hi : (Tryz.prog.info? T).map (·.size) = some cs.size) (hv : Value.agg cs = v) :
    Sem.run Tryz.prog (execOp ρ o) w = .ok (.value v) w := by
  subst hv
  have h := run_loadVar_row (P := Tryz.prog) w g T T cs (0, 0) _ hg hu rfl hi
  unfold execOp
  rw [ho]
  simp only [hs, Instr.loadAt]
  simp [Instr.sureAddr, h]

set_option maxHeartbeats 3200000 in
theorem recordChecks_walk {w : World} {kv : Value} {ts tq ak af an : Int} {t1 t2 t3 t4 aa : Option Addr} {n1 c1 n2 c2 n3 c3 n4 c4 aL ac : Nat} {m0 m1 m2 m3 m4 m5 m6 mek mef men mps mpi mpm : Int} {mY : Bool} {mla mta mda : Option Addr} {mlL mlc mtL mtc mdL mdc : Nat} {E1 E2 E3 E4 : Int}
    (h7 : ∀ x, Below w.heap.size w x → Calls Tryz.prog 7 #[kv] x fun e y => e = .returned (.int .i64 E1) ∧ Below x.heap.size x y) (h8 : ∀ x, Below w.heap.size w x → Calls Tryz.prog 8 #[kv] x fun e y => e = .returned (.int .i64 E1) ∧ Below x.heap.size x y) (h9 : ∀ x, Below w.heap.size w x → Calls Tryz.prog 9 #[.agg #[.int .i64 ts, .int .i64 tq, .slice t1 n1 c1, .slice t2 n2 c2, .slice t3 n3 c3, .slice t4 n4 c4]] x fun e y => e = .returned (.int .i64 E2) ∧ Below x.heap.size x y) (h10 : ∀ x, Below w.heap.size w x → Calls Tryz.prog 10 #[.agg #[.int .i64 ts, .int .i64 tq, .slice t1 n1 c1, .slice t2 n2 c2, .slice t3 n3 c3, .slice t4 n4 c4]] x fun e y => e = .returned (.int .i64 E2) ∧ Below x.heap.size x y) (h11 : ∀ x, Below w.heap.size w x → Calls Tryz.prog 11 #[.agg #[.int .i64 ak, .int .i64 af, .int .i64 an, .slice aa aL ac]] x fun e y => e = .returned (.int .i64 E3) ∧ Below x.heap.size x y) (h12 : ∀ x, Below w.heap.size w x → Calls Tryz.prog 12 #[.agg #[.int .i64 ak, .int .i64 af, .int .i64 an, .slice aa aL ac]] x fun e y => e = .returned (.int .i64 E3) ∧ Below x.heap.size x y) (h13 : ∀ x, Below w.heap.size w x → Calls Tryz.prog 13 #[.agg #[.int .i64 m0, .int .i64 m1, .int .i64 m2, .int .i64 m3, .int .i64 m4, .int .i64 m5, .int .i64 m6, .bool mY, .slice mla mlL mlc, .int .i64 mek, .int .i64 mef, .int .i64 men, .slice mta mtL mtc, .int .i64 mps, .int .i64 mpi, .int .i64 mpm, .slice mda mdL mdc]] x fun e y => e = .returned (.int .i64 E4) ∧ Below x.heap.size x y) (h14 : ∀ x, Below w.heap.size w x → Calls Tryz.prog 14 #[.agg #[.int .i64 m0, .int .i64 m1, .int .i64 m2, .int .i64 m3, .int .i64 m4, .int .i64 m5, .int .i64 m6, .bool mY, .slice mla mlL mlc, .int .i64 mek, .int .i64 mef, .int .i64 men, .slice mta mtL mtc, .int .i64 mps, .int .i64 mpi, .int .i64 mpm, .slice mda mdL mdc]] x fun e y => e = .returned (.int .i64 E4) ∧ Below x.heap.size x y) :
    Calls Tryz.prog 3 #[kv, .agg #[.int .i64 ts, .int .i64 tq, .slice t1 n1 c1, .slice t2 n2 c2, .slice t3 n3 c3, .slice t4 n4 c4], .agg #[.int .i64 ak, .int .i64 af, .int .i64 an, .slice aa aL ac], .agg #[.int .i64 m0, .int .i64 m1, .int .i64 m2, .int .i64 m3, .int .i64 m4, .int .i64 m5, .int .i64 m6, .bool mY, .slice mla mlL mlc, .int .i64 mek, .int .i64 mef, .int .i64 men, .slice mta mtL mtc, .int .i64 mps, .int .i64 mpi, .int .i64 mpm, .slice mda mdL mdc]] w fun e w' => e = .returned (.bool true) ∧ Below w.heap.size w w' := by
  have H7 := hide h7
  have H8 := hide h8
  have H9 := hide h9
  have H10 := hide h10
  have H11 := hide h11
  have H12 := hide h12
  have H13 := hide h13
  have H14 := hide h14
  have hB3 : Below w.heap.size w (((w.alloc (.cells #[.int .i64 ts, .int .i64 tq, .slice t1 n1 c1, .slice t2 n2 c2, .slice t3 n3 c3, .slice t4 n4 c4] 26)).alloc (.cells #[.int .i64 ak, .int .i64 af, .int .i64 an, .slice aa aL ac] 29)).alloc (.cells #[.int .i64 m0, .int .i64 m1, .int .i64 m2, .int .i64 m3, .int .i64 m4, .int .i64 m5, .int .i64 m6, .bool mY, .slice mla mlL mlc, .int .i64 mek, .int .i64 mef, .int .i64 men, .slice mta mtL mtc, .int .i64 mps, .int .i64 mpi, .int .i64 mpm, .slice mda mdL mdc] 34)) := (((Below.refl _ _).alloc (Nat.le_refl _) _).alloc (by simp) _).alloc (by simp; omega) _
  have hS3 : (((w.alloc (.cells #[.int .i64 ts, .int .i64 tq, .slice t1 n1 c1, .slice t2 n2 c2, .slice t3 n3 c3, .slice t4 n4 c4] 26)).alloc (.cells #[.int .i64 ak, .int .i64 af, .int .i64 an, .slice aa aL ac] 29)).alloc (.cells #[.int .i64 m0, .int .i64 m1, .int .i64 m2, .int .i64 m3, .int .i64 m4, .int .i64 m5, .int .i64 m6, .bool mY, .slice mla mlL mlc, .int .i64 mek, .int .i64 mef, .int .i64 men, .slice mta mtL mtc, .int .i64 mps, .int .i64 mpi, .int .i64 mpm, .slice mda mdL mdc] 34)).heap.size = w.heap.size + 3 := by simp
  have e1 : (w.alloc (.cells #[.int .i64 ts, .int .i64 tq, .slice t1 n1 c1, .slice t2 n2 c2, .slice t3 n3 c3, .slice t4 n4 c4] 26)).heap.size = w.heap.size + 1 := by simp
  have e2 : ((w.alloc (.cells #[.int .i64 ts, .int .i64 tq, .slice t1 n1 c1, .slice t2 n2 c2, .slice t3 n3 c3, .slice t4 n4 c4] 26)).alloc (.cells #[.int .i64 ak, .int .i64 af, .int .i64 an, .slice aa aL ac] 29)).heap.size = w.heap.size + 1 + 1 := by simp
  have g0 : (((w.alloc (.cells #[.int .i64 ts, .int .i64 tq, .slice t1 n1 c1, .slice t2 n2 c2, .slice t3 n3 c3, .slice t4 n4 c4] 26)).alloc (.cells #[.int .i64 ak, .int .i64 af, .int .i64 an, .slice aa aL ac] 29)).alloc (.cells #[.int .i64 m0, .int .i64 m1, .int .i64 m2, .int .i64 m3, .int .i64 m4, .int .i64 m5, .int .i64 m6, .bool mY, .slice mla mlL mlc, .int .i64 mek, .int .i64 mef, .int .i64 men, .slice mta mtL mtc, .int .i64 mps, .int .i64 mpi, .int .i64 mpm, .slice mda mdL mdc] 34)).heap[w.heap.size]? = some (.cells #[.int .i64 ts, .int .i64 tq, .slice t1 n1 c1, .slice t2 n2 c2, .slice t3 n3 c3, .slice t4 n4 c4] 26) := (Below.heap_alloc _ _ _ (by omega)).trans ((Below.heap_alloc _ _ _ (by omega)).trans (heap_alloc_new w _))
  have g1 : (((w.alloc (.cells #[.int .i64 ts, .int .i64 tq, .slice t1 n1 c1, .slice t2 n2 c2, .slice t3 n3 c3, .slice t4 n4 c4] 26)).alloc (.cells #[.int .i64 ak, .int .i64 af, .int .i64 an, .slice aa aL ac] 29)).alloc (.cells #[.int .i64 m0, .int .i64 m1, .int .i64 m2, .int .i64 m3, .int .i64 m4, .int .i64 m5, .int .i64 m6, .bool mY, .slice mla mlL mlc, .int .i64 mek, .int .i64 mef, .int .i64 men, .slice mta mtL mtc, .int .i64 mps, .int .i64 mpi, .int .i64 mpm, .slice mda mdL mdc] 34)).heap[w.heap.size + 1]? = some (.cells #[.int .i64 ak, .int .i64 af, .int .i64 an, .slice aa aL ac] 29) := (Below.heap_alloc _ _ _ (by omega)).trans (by have := heap_alloc_new (w.alloc (.cells #[.int .i64 ts, .int .i64 tq, .slice t1 n1 c1, .slice t2 n2 c2, .slice t3 n3 c3, .slice t4 n4 c4] 26)) (.cells #[.int .i64 ak, .int .i64 af, .int .i64 an, .slice aa aL ac] 29); rwa [e1] at this)
  have g2 : (((w.alloc (.cells #[.int .i64 ts, .int .i64 tq, .slice t1 n1 c1, .slice t2 n2 c2, .slice t3 n3 c3, .slice t4 n4 c4] 26)).alloc (.cells #[.int .i64 ak, .int .i64 af, .int .i64 an, .slice aa aL ac] 29)).alloc (.cells #[.int .i64 m0, .int .i64 m1, .int .i64 m2, .int .i64 m3, .int .i64 m4, .int .i64 m5, .int .i64 m6, .bool mY, .slice mla mlL mlc, .int .i64 mek, .int .i64 mef, .int .i64 men, .slice mta mtL mtc, .int .i64 mps, .int .i64 mpi, .int .i64 mpm, .slice mda mdL mdc] 34)).heap[w.heap.size + 1 + 1]? = some (.cells #[.int .i64 m0, .int .i64 m1, .int .i64 m2, .int .i64 m3, .int .i64 m4, .int .i64 m5, .int .i64 m6, .bool mY, .slice mla mlL mlc, .int .i64 mek, .int .i64 mef, .int .i64 men, .slice mta mtL mtc, .int .i64 mps, .int .i64 mpi, .int .i64 mpm, .slice mda mdL mdc] 34) := by have := heap_alloc_new ((w.alloc (.cells #[.int .i64 ts, .int .i64 tq, .slice t1 n1 c1, .slice t2 n2 c2, .slice t3 n3 c3, .slice t4 n4 c4] 26)).alloc (.cells #[.int .i64 ak, .int .i64 af, .int .i64 an, .slice aa aL ac] 29)) (.cells #[.int .i64 m0, .int .i64 m1, .int .i64 m2, .int .i64 m3, .int .i64 m4, .int .i64 m5, .int .i64 m6, .bool mY, .slice mla mlL mlc, .int .i64 mek, .int .i64 mef, .int .i64 men, .slice mta mtL mtc, .int .i64 mps, .int .i64 mpi, .int .i64 mpm, .slice mda mdL mdc] 34); rwa [e2] at this
  obtain ⟨w3, hw3⟩ : ∃ y, (((w.alloc (.cells #[.int .i64 ts, .int .i64 tq, .slice t1 n1 c1, .slice t2 n2 c2, .slice t3 n3 c3, .slice t4 n4 c4] 26)).alloc (.cells #[.int .i64 ak, .int .i64 af, .int .i64 an, .slice aa aL ac] 29)).alloc (.cells #[.int .i64 m0, .int .i64 m1, .int .i64 m2, .int .i64 m3, .int .i64 m4, .int .i64 m5, .int .i64 m6, .bool mY, .slice mla mlL mlc, .int .i64 mek, .int .i64 mef, .int .i64 men, .slice mta mtL mtc, .int .i64 mps, .int .i64 mpi, .int .i64 mpm, .slice mda mdL mdc] 34)) = y := ⟨_, rfl⟩
  rw [hw3] at hB3 hS3 g0 g1 g2
  have HX : Hid (∀ x, Below (w.heap.size + 3) w3 x → x.heap[w.heap.size]? = some (.cells #[.int .i64 ts, .int .i64 tq, .slice t1 n1 c1, .slice t2 n2 c2, .slice t3 n3 c3, .slice t4 n4 c4] 26) ∧ x.heap[w.heap.size + 1]? = some (.cells #[.int .i64 ak, .int .i64 af, .int .i64 an, .slice aa aL ac] 29) ∧ x.heap[w.heap.size + 1 + 1]? = some (.cells #[.int .i64 m0, .int .i64 m1, .int .i64 m2, .int .i64 m3, .int .i64 m4, .int .i64 m5, .int .i64 m6, .bool mY, .slice mla mlL mlc, .int .i64 mek, .int .i64 mef, .int .i64 men, .slice mta mtL mtc, .int .i64 mps, .int .i64 mpi, .int .i64 mpm, .slice mda mdL mdc] 34)) := fun x hb => ⟨(hb.block _ (by omega)).trans g0, (hb.block _ (by omega)).trans g1, (hb.block _ (by omega)).trans g2⟩
  have HBW : Hid (∀ x, Below (w.heap.size + 3) w3 x → Below w.heap.size w x) := fun x hb => hB3.trans (hb.mono (by omega))
  have HTR : Hid (∀ x y, Below (w.heap.size + 3) w3 x → Below x.heap.size x y → Below (w.heap.size + 3) w3 y) := fun x y h1 h2 => h1.trans (h2.mono (by have := h1.size; omega))
  clear h7 h8 h9 h10 h11 h12 h13 h14 hB3 hS3 e1 e2 g0 g1 g2
  go_enter Tryz.func3, Tryz.ntmps3
  go_wp2_with (rw [hw3])
  obtain ⟨vt, hvt⟩ : ∃ v, Value.agg #[.int .i64 ts, .int .i64 tq, .slice t1 n1 c1, .slice t2 n2 c2, .slice t3 n3 c3, .slice t4 n4 c4] = v := ⟨_, rfl⟩
  obtain ⟨ve, hve⟩ : ∃ v, Value.agg #[.int .i64 ak, .int .i64 af, .int .i64 an, .slice aa aL ac] = v := ⟨_, rfl⟩
  obtain ⟨vm, hvm⟩ : ∃ v, Value.agg #[.int .i64 m0, .int .i64 m1, .int .i64 m2, .int .i64 m3, .int .i64 m4, .int .i64 m5, .int .i64 m6, .bool mY, .slice mla mlL mlc, .int .i64 mek, .int .i64 mef, .int .i64 men, .slice mta mtL mtc, .int .i64 mps, .int .i64 mpi, .int .i64 mpm, .slice mda mdL mdc] = v := ⟨_, rfl⟩
  rw [hvt, hve, hvm]
  rw [hvt] at H9
  rw [hvt] at H10
  rw [hve] at H11
  rw [hve] at H12
  rw [hvm] at H13
  rw [hvm] at H14
  have HVt := hide hvt
  have HVe := hide hve
  have HVm := hide hvm
  clear hvt hve hvm
  have HB1 : Hid (Below (w.heap.size + 3) w3 w3.drew) := (Below.refl _ _).drew
  refine wp_region_held_drew (S := fun x => Below (w.heap.size + 3) w3 x) (by kernel_rfl) (unhide HB1) (fun hHeld => ?_)
  refine wpAnyH_ready (rs := [0]) (by as_aux_lemma => kernel_rfl) (by simp) ?_
  refine AllReadyH.cons rfl (fun K hK => ?_) AllReadyH.nil
  go_simp
  refine (begun_any _).mono ?_
  rintro e y1 ⟨rfl, hb1⟩
  refine hK _ _ (unhide HTR _ _ (unhide HB1) hb1) ?_
  clear hK hHeld
  have HB2 : Hid (Below (w.heap.size + 3) w3 y1) := unhide HTR _ _ (unhide HB1) hb1
  clear hb1 HB1
  intro hHeld
  refine wpAnyH_take (i := 1) (v := (.bool true)) rfl (by as_aux_lemma => kernel_rfl) (by as_aux_lemma => kernel_rfl) (by as_aux_lemma => kernel_rfl) (fun _ _ _ h => h) (Or.inl ⟨by rfl, ?hy1x1⟩) (by assumption) ?rest1x1
  case hy1x1 => intro w hSw; go_simp <;> with_reducible rfl
  simp only [Act.put, List.getElem_toArray, List.getElem_cons_zero, List.getElem_cons_succ, List.setIfInBounds_toArray, List.set_cons_zero, List.set_cons_succ]
  refine wpAnyH_take (i := 2) (v := (kv)) rfl (by as_aux_lemma => kernel_rfl) (by as_aux_lemma => kernel_rfl) (by as_aux_lemma => kernel_rfl) (fun _ _ _ h => h) (Or.inl ⟨by rfl, ?hy2x2⟩) (by assumption) ?rest2x2
  case hy2x2 => intro w hSw; go_simp <;> with_reducible rfl
  simp only [Act.put, List.getElem_toArray, List.getElem_cons_zero, List.getElem_cons_succ, List.setIfInBounds_toArray, List.set_cons_zero, List.set_cons_succ]
  refine wpAnyH_take (i := 4) (v := (kv)) rfl (by as_aux_lemma => kernel_rfl) (by as_aux_lemma => kernel_rfl) (by as_aux_lemma => kernel_rfl) (fun _ _ _ h => h) (Or.inl ⟨by rfl, ?hy3x4⟩) (by assumption) ?rest3x4
  case hy3x4 => intro w hSw; go_simp <;> with_reducible rfl
  simp only [Act.put, List.getElem_toArray, List.getElem_cons_zero, List.getElem_cons_succ, List.setIfInBounds_toArray, List.set_cons_zero, List.set_cons_succ]
  refine wpAnyH_ready (rs := [3]) (by as_aux_lemma => kernel_rfl) (by simp) ?_
  refine AllReadyH.cons rfl (fun K hK => ?_) AllReadyH.nil
  go_simp
  refine (unhide H7 _ (unhide HBW _ (unhide HB2))).mono ?_
  rintro e y2 ⟨rfl, hb2⟩
  refine hK _ _ (unhide HTR _ _ (unhide HB2) hb2) ?_
  clear hK hHeld
  have HB3 : Hid (Below (w.heap.size + 3) w3 y2) := unhide HTR _ _ (unhide HB2) hb2
  clear hb2 HB2
  intro hHeld
  refine wpAnyH_ready (rs := [5]) (by as_aux_lemma => kernel_rfl) (by simp) ?_
  refine AllReadyH.cons rfl (fun K hK => ?_) AllReadyH.nil
  go_simp
  refine (unhide H8 _ (unhide HBW _ (unhide HB3))).mono ?_
  rintro e y3 ⟨rfl, hb3⟩
  refine hK _ _ (unhide HTR _ _ (unhide HB3) hb3) ?_
  clear hK hHeld
  have HB4 : Hid (Below (w.heap.size + 3) w3 y3) := unhide HTR _ _ (unhide HB3) hb3
  clear hb3 HB3
  intro hHeld
  refine wpAnyH_take (i := 6) (v := (.bool true)) rfl (by as_aux_lemma => kernel_rfl) (by as_aux_lemma => kernel_rfl) (by as_aux_lemma => kernel_rfl) (fun _ _ _ h => h) (Or.inl ⟨by rfl, ?hy4x6⟩) (by assumption) ?rest4x6
  case hy4x6 => intro w hSw; go_simp <;> with_reducible rfl
  simp only [Act.put, List.getElem_toArray, List.getElem_cons_zero, List.getElem_cons_succ, List.setIfInBounds_toArray, List.set_cons_zero, List.set_cons_succ]
  refine wpAnyH_take (i := 7) (v := (.bool true)) rfl (by as_aux_lemma => kernel_rfl) (by as_aux_lemma => kernel_rfl) (by as_aux_lemma => kernel_rfl) (fun _ _ _ h => h) (Or.inl ⟨by rfl, ?hy5x7⟩) (by assumption) ?rest5x7
  case hy5x7 => intro w hSw; go_simp <;> with_reducible rfl
  simp only [Act.put, List.getElem_toArray, List.getElem_cons_zero, List.getElem_cons_succ, List.setIfInBounds_toArray, List.set_cons_zero, List.set_cons_succ]
  refine wpAnyH_take (i := 8) (v := (.bool true)) rfl (by as_aux_lemma => kernel_rfl) (by as_aux_lemma => kernel_rfl) (by as_aux_lemma => kernel_rfl) (fun _ _ _ h => h) (Or.inl ⟨by rfl, ?hy6x8⟩) (by assumption) ?rest6x8
  case hy6x8 => intro w hSw; go_simp <;> with_reducible rfl
  simp only [Act.put, List.getElem_toArray, List.getElem_cons_zero, List.getElem_cons_succ, List.setIfInBounds_toArray, List.set_cons_zero, List.set_cons_succ]
  refine wpAnyH_take (i := 9) (v := vt) rfl (by as_aux_lemma => kernel_rfl) (by as_aux_lemma => kernel_rfl) (by as_aux_lemma => kernel_rfl) (fun _ _ _ h => h) (Or.inl ⟨by rfl, ?hy7x9⟩) (by assumption) ?rest7x9
  case hy7x9 => intro w hSw; exact run_loadE rfl rfl (unhide HX _ hSw).1 Tryz.underlying26 (by kernel_rfl) (unhide HVt)
  simp only [Act.put, List.getElem_toArray, List.getElem_cons_zero, List.getElem_cons_succ, List.setIfInBounds_toArray, List.set_cons_zero, List.set_cons_succ]
  refine wpAnyH_take (i := 11) (v := vt) rfl (by as_aux_lemma => kernel_rfl) (by as_aux_lemma => kernel_rfl) (by as_aux_lemma => kernel_rfl) (fun _ _ _ h => h) (Or.inl ⟨by rfl, ?hy8x11⟩) (by assumption) ?rest8x11
  case hy8x11 => intro w hSw; exact run_loadE rfl rfl (unhide HX _ hSw).1 Tryz.underlying26 (by kernel_rfl) (unhide HVt)
  simp only [Act.put, List.getElem_toArray, List.getElem_cons_zero, List.getElem_cons_succ, List.setIfInBounds_toArray, List.set_cons_zero, List.set_cons_succ]
  refine wpAnyH_ready (rs := [10]) (by as_aux_lemma => kernel_rfl) (by simp) ?_
  refine AllReadyH.cons rfl (fun K hK => ?_) AllReadyH.nil
  go_simp
  refine (unhide H9 _ (unhide HBW _ (unhide HB4))).mono ?_
  rintro e y4 ⟨rfl, hb4⟩
  refine hK _ _ (unhide HTR _ _ (unhide HB4) hb4) ?_
  clear hK hHeld
  have HB5 : Hid (Below (w.heap.size + 3) w3 y4) := unhide HTR _ _ (unhide HB4) hb4
  clear hb4 HB4
  intro hHeld
  refine wpAnyH_ready (rs := [12]) (by as_aux_lemma => kernel_rfl) (by simp) ?_
  refine AllReadyH.cons rfl (fun K hK => ?_) AllReadyH.nil
  go_simp
  refine (unhide H10 _ (unhide HBW _ (unhide HB5))).mono ?_
  rintro e y5 ⟨rfl, hb5⟩
  refine hK _ _ (unhide HTR _ _ (unhide HB5) hb5) ?_
  clear hK hHeld
  have HB6 : Hid (Below (w.heap.size + 3) w3 y5) := unhide HTR _ _ (unhide HB5) hb5
  clear hb5 HB5
  intro hHeld
  refine wpAnyH_take (i := 13) (v := (.bool true)) rfl (by as_aux_lemma => kernel_rfl) (by as_aux_lemma => kernel_rfl) (by as_aux_lemma => kernel_rfl) (fun _ _ _ h => h) (Or.inl ⟨by rfl, ?hy9x13⟩) (by assumption) ?rest9x13
  case hy9x13 => intro w hSw; go_simp <;> with_reducible rfl
  simp only [Act.put, List.getElem_toArray, List.getElem_cons_zero, List.getElem_cons_succ, List.setIfInBounds_toArray, List.set_cons_zero, List.set_cons_succ]
  refine wpAnyH_take (i := 14) (v := (.bool true)) rfl (by as_aux_lemma => kernel_rfl) (by as_aux_lemma => kernel_rfl) (by as_aux_lemma => kernel_rfl) (fun _ _ _ h => h) (Or.inl ⟨by rfl, ?hy10x14⟩) (by assumption) ?rest10x14
  case hy10x14 => intro w hSw; go_simp <;> with_reducible rfl
  simp only [Act.put, List.getElem_toArray, List.getElem_cons_zero, List.getElem_cons_succ, List.setIfInBounds_toArray, List.set_cons_zero, List.set_cons_succ]
  refine wpAnyH_take (i := 15) (v := (.bool true)) rfl (by as_aux_lemma => kernel_rfl) (by as_aux_lemma => kernel_rfl) (by as_aux_lemma => kernel_rfl) (fun _ _ _ h => h) (Or.inl ⟨by rfl, ?hy11x15⟩) (by assumption) ?rest11x15
  case hy11x15 => intro w hSw; go_simp <;> with_reducible rfl
  simp only [Act.put, List.getElem_toArray, List.getElem_cons_zero, List.getElem_cons_succ, List.setIfInBounds_toArray, List.set_cons_zero, List.set_cons_succ]
  refine wpAnyH_take (i := 16) (v := ve) rfl (by as_aux_lemma => kernel_rfl) (by as_aux_lemma => kernel_rfl) (by as_aux_lemma => kernel_rfl) (fun _ _ _ h => h) (Or.inl ⟨by rfl, ?hy12x16⟩) (by assumption) ?rest12x16
  case hy12x16 => intro w hSw; exact run_loadE rfl rfl (unhide HX _ hSw).2.1 Tryz.underlying29 (by kernel_rfl) (unhide HVe)
  simp only [Act.put, List.getElem_toArray, List.getElem_cons_zero, List.getElem_cons_succ, List.setIfInBounds_toArray, List.set_cons_zero, List.set_cons_succ]
  refine wpAnyH_take (i := 18) (v := ve) rfl (by as_aux_lemma => kernel_rfl) (by as_aux_lemma => kernel_rfl) (by as_aux_lemma => kernel_rfl) (fun _ _ _ h => h) (Or.inl ⟨by rfl, ?hy13x18⟩) (by assumption) ?rest13x18
  case hy13x18 => intro w hSw; exact run_loadE rfl rfl (unhide HX _ hSw).2.1 Tryz.underlying29 (by kernel_rfl) (unhide HVe)
  simp only [Act.put, List.getElem_toArray, List.getElem_cons_zero, List.getElem_cons_succ, List.setIfInBounds_toArray, List.set_cons_zero, List.set_cons_succ]
  refine wpAnyH_ready (rs := [17]) (by as_aux_lemma => kernel_rfl) (by simp) ?_
  refine AllReadyH.cons rfl (fun K hK => ?_) AllReadyH.nil
  go_simp
  refine (unhide H11 _ (unhide HBW _ (unhide HB6))).mono ?_
  rintro e y6 ⟨rfl, hb6⟩
  refine hK _ _ (unhide HTR _ _ (unhide HB6) hb6) ?_
  clear hK hHeld
  have HB7 : Hid (Below (w.heap.size + 3) w3 y6) := unhide HTR _ _ (unhide HB6) hb6
  clear hb6 HB6
  intro hHeld
  refine wpAnyH_ready (rs := [19]) (by as_aux_lemma => kernel_rfl) (by simp) ?_
  refine AllReadyH.cons rfl (fun K hK => ?_) AllReadyH.nil
  go_simp
  refine (unhide H12 _ (unhide HBW _ (unhide HB7))).mono ?_
  rintro e y7 ⟨rfl, hb7⟩
  refine hK _ _ (unhide HTR _ _ (unhide HB7) hb7) ?_
  clear hK hHeld
  have HB8 : Hid (Below (w.heap.size + 3) w3 y7) := unhide HTR _ _ (unhide HB7) hb7
  clear hb7 HB7
  intro hHeld
  refine wpAnyH_take (i := 20) (v := (.bool true)) rfl (by as_aux_lemma => kernel_rfl) (by as_aux_lemma => kernel_rfl) (by as_aux_lemma => kernel_rfl) (fun _ _ _ h => h) (Or.inl ⟨by rfl, ?hy14x20⟩) (by assumption) ?rest14x20
  case hy14x20 => intro w hSw; go_simp <;> with_reducible rfl
  simp only [Act.put, List.getElem_toArray, List.getElem_cons_zero, List.getElem_cons_succ, List.setIfInBounds_toArray, List.set_cons_zero, List.set_cons_succ]
  refine wpAnyH_take (i := 21) (v := (.bool true)) rfl (by as_aux_lemma => kernel_rfl) (by as_aux_lemma => kernel_rfl) (by as_aux_lemma => kernel_rfl) (fun _ _ _ h => h) (Or.inl ⟨by rfl, ?hy15x21⟩) (by assumption) ?rest15x21
  case hy15x21 => intro w hSw; go_simp <;> with_reducible rfl
  simp only [Act.put, List.getElem_toArray, List.getElem_cons_zero, List.getElem_cons_succ, List.setIfInBounds_toArray, List.set_cons_zero, List.set_cons_succ]
  refine wpAnyH_take (i := 22) (v := (.bool true)) rfl (by as_aux_lemma => kernel_rfl) (by as_aux_lemma => kernel_rfl) (by as_aux_lemma => kernel_rfl) (fun _ _ _ h => h) (Or.inl ⟨by rfl, ?hy16x22⟩) (by assumption) ?rest16x22
  case hy16x22 => intro w hSw; go_simp <;> with_reducible rfl
  simp only [Act.put, List.getElem_toArray, List.getElem_cons_zero, List.getElem_cons_succ, List.setIfInBounds_toArray, List.set_cons_zero, List.set_cons_succ]
  refine wpAnyH_take (i := 23) (v := vm) rfl (by as_aux_lemma => kernel_rfl) (by as_aux_lemma => kernel_rfl) (by as_aux_lemma => kernel_rfl) (fun _ _ _ h => h) (Or.inl ⟨by rfl, ?hy17x23⟩) (by assumption) ?rest17x23
  case hy17x23 => intro w hSw; exact run_loadE rfl rfl (unhide HX _ hSw).2.2 Tryz.underlying34 (by kernel_rfl) (unhide HVm)
  simp only [Act.put, List.getElem_toArray, List.getElem_cons_zero, List.getElem_cons_succ, List.setIfInBounds_toArray, List.set_cons_zero, List.set_cons_succ]
  refine wpAnyH_take (i := 25) (v := vm) rfl (by as_aux_lemma => kernel_rfl) (by as_aux_lemma => kernel_rfl) (by as_aux_lemma => kernel_rfl) (fun _ _ _ h => h) (Or.inl ⟨by rfl, ?hy18x25⟩) (by assumption) ?rest18x25
  case hy18x25 => intro w hSw; exact run_loadE rfl rfl (unhide HX _ hSw).2.2 Tryz.underlying34 (by kernel_rfl) (unhide HVm)
  simp only [Act.put, List.getElem_toArray, List.getElem_cons_zero, List.getElem_cons_succ, List.setIfInBounds_toArray, List.set_cons_zero, List.set_cons_succ]
  refine wpAnyH_ready (rs := [24]) (by as_aux_lemma => kernel_rfl) (by simp) ?_
  refine AllReadyH.cons rfl (fun K hK => ?_) AllReadyH.nil
  go_simp
  refine (unhide H13 _ (unhide HBW _ (unhide HB8))).mono ?_
  rintro e y8 ⟨rfl, hb8⟩
  refine hK _ _ (unhide HTR _ _ (unhide HB8) hb8) ?_
  clear hK hHeld
  have HB9 : Hid (Below (w.heap.size + 3) w3 y8) := unhide HTR _ _ (unhide HB8) hb8
  clear hb8 HB8
  intro hHeld
  refine wpAnyH_ready (rs := [26]) (by as_aux_lemma => kernel_rfl) (by simp) ?_
  refine AllReadyH.cons rfl (fun K hK => ?_) AllReadyH.nil
  go_simp
  refine (unhide H14 _ (unhide HBW _ (unhide HB9))).mono ?_
  rintro e y9 ⟨rfl, hb9⟩
  refine hK _ _ (unhide HTR _ _ (unhide HB9) hb9) ?_
  clear hK hHeld
  have HB10 : Hid (Below (w.heap.size + 3) w3 y9) := unhide HTR _ _ (unhide HB9) hb9
  clear hb9 HB9
  intro hHeld
  refine wpAnyH_take (i := 27) (v := (.bool true)) rfl (by as_aux_lemma => kernel_rfl) (by as_aux_lemma => kernel_rfl) (by as_aux_lemma => kernel_rfl) (fun _ _ _ h => h) (Or.inl ⟨by rfl, ?hy19x27⟩) (by assumption) ?rest19x27
  case hy19x27 => intro w hSw; go_simp <;> with_reducible rfl
  simp only [Act.put, List.getElem_toArray, List.getElem_cons_zero, List.getElem_cons_succ, List.setIfInBounds_toArray, List.set_cons_zero, List.set_cons_succ]
  refine wpAnyH_take (i := 28) (v := (.bool true)) rfl (by as_aux_lemma => kernel_rfl) (by as_aux_lemma => kernel_rfl) (by as_aux_lemma => kernel_rfl) (fun _ _ _ h => h) (Or.inl ⟨by rfl, ?hy20x28⟩) (by assumption) ?rest20x28
  case hy20x28 => intro w hSw; go_simp <;> with_reducible rfl
  simp only [Act.put, List.getElem_toArray, List.getElem_cons_zero, List.getElem_cons_succ, List.setIfInBounds_toArray, List.set_cons_zero, List.set_cons_succ]
  refine wpAnyH_take (i := 29) (v := (.bool true)) rfl (by as_aux_lemma => kernel_rfl) (by as_aux_lemma => kernel_rfl) (by as_aux_lemma => kernel_rfl) (fun _ _ _ h => h) (Or.inl ⟨by rfl, ?hy21x29⟩) (by assumption) ?rest21x29
  case hy21x29 => intro w hSw; go_simp <;> with_reducible rfl
  simp only [Act.put, List.getElem_toArray, List.getElem_cons_zero, List.getElem_cons_succ, List.setIfInBounds_toArray, List.set_cons_zero, List.set_cons_succ]
  refine wpAnyH_done (by as_aux_lemma => kernel_rfl) ?_ _
  have HF := hide (unhide HBW _ (unhide HB10))
  clear HTR HBW
  go_wp2
  go_ret
  exact ⟨rfl, unhide HF⟩
end Go.Proofs.YtggllgimlfchhaaGreat
