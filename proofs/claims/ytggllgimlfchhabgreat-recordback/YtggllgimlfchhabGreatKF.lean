/- Several texts as one. -/
import Derived.Test.YtggllgimlfchhabGreatKD
import Derived.Deep.RegionHeld3
import Derived.Test.YtggllgimlfchhabGreatKG

/- Loads of whole structs. -/
namespace Go.Proofs.YtggllgimlfchhabGreat
open Go.RowKit
set_option maxRecDepth 100000

theorem run_loadE {ρ : Operand → Value} {o : Oper} {s : Operand} {w : World} {g T : Nat} {cs : Array Value} {fs : Array Field} {v : Value} (ho : o.op = .load T s) (hs : ρ s = .pointer (some ⟨g, 0, none⟩)) (hg : w.heap[g]? = some (.cells cs T))
    (hu : Tryz.prog.underlying T = some (.struct fs)) (hi : (Tryz.prog.info? T).map (·.size) = some cs.size) (hv : Value.agg cs = v) :
    Sem.run Tryz.prog (execOp ρ o) w = .ok (.value v) w := by
  subst hv
  have h := run_loadVar_row (P := Tryz.prog) w g T T cs (0, 0) _ hg hu rfl hi
  unfold execOp
  rw [ho]
  simp only [hs, Instr.loadAt]
  simp [Instr.sureAddr, h]

end Go.Proofs.YtggllgimlfchhabGreat

/- Record: a message written. -/
namespace Go.Proofs.YtggllgimlfchhabGreat
open Go.RowKit
set_option maxRecDepth 100000

/-- A message's form. -/
def msgB (m : MsgD) : List Int := putL [m.kind, m.frm, m.to] ++ flsB (fieldsL m.kind) m
theorem mayMsg_fields {m : MsgD} (h : mayMsg m = true) : ∀ f ∈ fieldsL m.kind, fMay f m = true := by
  obtain ⟨k, f, t, a, b, c, d, y, l, e, p⟩ := m
  intro q hq
  by_cases h1 : k = 1
  case pos =>
    subst h1
    simp only [mayMsg, fieldsL, runF, fMay, wout, if_true, if_false, Int.reduceEq, Bool.and_eq_true, decide_eq_true_eq] at h
    simp only [fieldsL, if_true, if_false, Int.reduceEq, List.mem_cons, List.not_mem_nil, or_false] at hq
    rcases hq with rfl | rfl | rfl <;> simp_all [fMay]
  by_cases h2 : k = 2
  case pos =>
    subst h2
    simp only [mayMsg, fieldsL, runF, fMay, wout, if_true, if_false, Int.reduceEq, Bool.and_eq_true, decide_eq_true_eq] at h
    simp only [fieldsL, if_true, if_false, Int.reduceEq, List.mem_cons, List.not_mem_nil, or_false] at hq
    rcases hq with rfl | rfl <;> simp_all [fMay]
  by_cases h3 : k = 3
  case pos =>
    subst h3
    simp only [mayMsg, fieldsL, runF, fMay, wout, if_true, if_false, Int.reduceEq, Bool.and_eq_true, decide_eq_true_eq] at h
    simp only [fieldsL, if_true, if_false, Int.reduceEq, List.mem_cons, List.not_mem_nil, or_false] at hq
    rcases hq with rfl | rfl | rfl | rfl | rfl <;> simp_all [fMay]
  by_cases h4 : k = 4
  case pos =>
    subst h4
    simp only [mayMsg, fieldsL, runF, fMay, wout, if_true, if_false, Int.reduceEq, Bool.and_eq_true, decide_eq_true_eq] at h
    simp only [fieldsL, if_true, if_false, Int.reduceEq, List.mem_cons, List.not_mem_nil, or_false] at hq
    rcases hq with rfl | rfl | rfl <;> simp_all [fMay]
  by_cases h5 : k = 5
  case pos =>
    subst h5
    simp only [mayMsg, fieldsL, runF, fMay, wout, if_true, if_false, Int.reduceEq, Bool.and_eq_true, decide_eq_true_eq] at h
    simp only [fieldsL, if_true, if_false, Int.reduceEq, List.mem_cons, List.not_mem_nil, or_false] at hq
    rcases hq with rfl | rfl | rfl | rfl <;> simp_all [fMay]
  by_cases h6 : k = 6
  case pos =>
    subst h6
    simp only [mayMsg, fieldsL, runF, fMay, wout, if_true, if_false, Int.reduceEq, Bool.and_eq_true, decide_eq_true_eq] at h
    simp only [fieldsL, if_true, if_false, Int.reduceEq, List.mem_cons, List.not_mem_nil, or_false] at hq
    rcases hq with rfl <;> simp_all [fMay]
  simp only [fieldsL, h1, h2, h3, h4, h5, h6, if_false] at hq
  cases hq
theorem mayMsg_some {m : MsgD} (h : mayMsg m = true) : fieldsL m.kind ≠ [] := by
  intro e
  simp [mayMsg, e] at h
theorem fls_small (m : MsgD) : ∀ L : List Int, (∀ f ∈ L, 0 ≤ f ∧ f ≤ 4) → (flsB L m).length ≤ 9 * L.length
  | [], _ => by simp [flsB]
  | f :: r, h => by
    have ih := fls_small m r (fun x hx => h x (List.mem_cons_of_mem _ hx))
    have hf := h f (List.mem_cons_self ..)
    have h1 : (fB f m).length ≤ 9 := by
      have p := fun q : Int => putL_le [q]
      simp only [List.length_cons, List.length_nil] at p
      unfold fB
      split
      · exact p _
      split
      · exact p _
      split
      · exact p _
      split
      · exact p _
      split
      · exact p _
      · omega
    have e : flsB (f :: r) m = fB f m ++ flsB r m := by simp [flsB]
    rw [e, List.length_append, List.length_cons]
    omega
theorem fields_pre (k : Int) (m : MsgD) (t : Nat) (ht : t < (fieldsL k).length) : (flsB ((fieldsL k).take t) m).length ≤ 1000 := by
  have h : ∀ f ∈ (fieldsL k).take t, 0 ≤ f ∧ f ≤ 4 := by
    unfold fieldsL at ht ⊢
    repeat' split
    all_goals simp_all
    all_goals (intro f hf; have hs : t = 0 ∨ t = 1 ∨ t = 2 ∨ t = 3 ∨ t = 4 := (by omega); rcases hs with rfl | rfl | rfl | rfl | rfl <;> simp at hf ht <;> omega)
  have := fls_small m _ h
  have h5 := fieldsL_len k
  simp only [List.length_take] at this
  omega

set_option maxHeartbeats 800000 in
theorem newMessageWriter_any (w : World) : Calls Tryz.prog 33 #[] w fun r w' => r = .returned (.agg #[.pointer (some ⟨w.heap.size + 1, 0, none⟩), .pointer (some ⟨w.heap.size + 1, 0, none⟩), .pointer (some ⟨w.heap.size + 1, 0, none⟩)]) ∧ Wr w' (w.heap.size + 1) (w.heap.size + 2) [] ∧ Below w.heap.size w w' := by
  obtain ⟨P, hP⟩ : ∃ P, Value.pointer (some ⟨w.heap.size + 1, 0, none⟩) = P := ⟨_, rfl⟩
  have hz : Below w.heap.size w ((w.alloc (.cells #[.pointer none, .pointer none, .pointer none] 76)).alloc (.cells #[.slice none 0 0] 58)) := ((Below.refl _ _).alloc (Nat.le_refl _) _).alloc (by simp) _
  have e0 : (w.alloc (.cells #[.pointer none, .pointer none, .pointer none] 76)).heap.size = w.heap.size + 1 := by simp
  have h0 : ((w.alloc (.cells #[.pointer none, .pointer none, .pointer none] 76)).alloc (.cells #[.slice none 0 0] 58)).heap[w.heap.size]? = some (.cells #[.pointer none, .pointer none, .pointer none] 76) := (Below.heap_alloc _ _ _ (by simp)).trans (heap_alloc_new w _)
  have h1 : ((w.alloc (.cells #[.pointer none, .pointer none, .pointer none] 76)).alloc (.cells #[.slice none 0 0] 58)).heap[w.heap.size + 1]? = some (.cells #[.slice none 0 0] 58) := by have := heap_alloc_new (w.alloc (.cells #[.pointer none, .pointer none, .pointer none] 76)) (.cells #[.slice none 0 0] 58); rw [e0] at this; exact this
  have hs : ((w.alloc (.cells #[.pointer none, .pointer none, .pointer none] 76)).alloc (.cells #[.slice none 0 0] 58)).heap.size = w.heap.size + 2 := by simp
  obtain ⟨y0, hy0⟩ : ∃ y, ((w.alloc (.cells #[.pointer none, .pointer none, .pointer none] 76)).alloc (.cells #[.slice none 0 0] 58)) = y := ⟨_, rfl⟩
  rw [hy0] at hz h0 h1 hs
  have HZ0 := hide h0
  have HB9 : Hid (Below w.heap.size w (y0.setRow w.heap.size #[.pointer (some ⟨w.heap.size + 1, 0, none⟩), .pointer (some ⟨w.heap.size + 1, 0, none⟩), .pointer (some ⟨w.heap.size + 1, 0, none⟩)])) := below_setRow hz (Nat.le_refl _)
  have HZ9 : Hid ((y0.setRow w.heap.size #[.pointer (some ⟨w.heap.size + 1, 0, none⟩), .pointer (some ⟨w.heap.size + 1, 0, none⟩), .pointer (some ⟨w.heap.size + 1, 0, none⟩)]).heap[w.heap.size]? = some (.cells #[.pointer (some ⟨w.heap.size + 1, 0, none⟩), .pointer (some ⟨w.heap.size + 1, 0, none⟩), .pointer (some ⟨w.heap.size + 1, 0, none⟩)] 76)) := setRow_heap _ _ _ _ _ _ h0
  have h19 : (y0.setRow w.heap.size #[.pointer (some ⟨w.heap.size + 1, 0, none⟩), .pointer (some ⟨w.heap.size + 1, 0, none⟩), .pointer (some ⟨w.heap.size + 1, 0, none⟩)]).heap[w.heap.size + 1]? = some (.cells #[.slice none 0 0] 58) := (setRow_other _ _ _ _ (by omega)).trans h1
  have HW9 : Hid (Wr (y0.setRow w.heap.size #[.pointer (some ⟨w.heap.size + 1, 0, none⟩), .pointer (some ⟨w.heap.size + 1, 0, none⟩), .pointer (some ⟨w.heap.size + 1, 0, none⟩)]) (w.heap.size + 1) (w.heap.size + 2) []) := ⟨⟨.slice none 0 0, cell_of_heap h19, World.ownsRow_nil _ _ _ _⟩, fun o => frozen_of_heap h19, by omega, by rw [setRow_size, hs]; exact Nat.le_refl _⟩
  obtain ⟨y9, hy9⟩ : ∃ y, y0.setRow w.heap.size #[.pointer (some ⟨w.heap.size + 1, 0, none⟩), .pointer (some ⟨w.heap.size + 1, 0, none⟩), .pointer (some ⟨w.heap.size + 1, 0, none⟩)] = y := ⟨_, rfl⟩
  rw [hy9] at HB9 HZ9 HW9
  clear hz e0 h0 h1 hs h19 hP
  go_enter Tryz.func33, Tryz.ntmps33
  go_wp2_with (first | rw [hy9] | rw [hy0] | refine wpList_store_row rfl 76 _ _ rfl w.heap.size _ _ rfl rfl 76 (unhide HZ0) (by kernel_rfl) rfl (by first | kernel_rfl | simp [Value.oneCell']) ?_)
  refine bodyPost_ret (results_cell_row rfl _ _ w.heap.size 76 #[.pointer (some ⟨w.heap.size + 1, 0, none⟩), .pointer (some ⟨w.heap.size + 1, 0, none⟩), .pointer (some ⟨w.heap.size + 1, 0, none⟩)] (0, 0) _ rfl (unhide HZ9) Tryz.underlying76 rfl (by kernel_rfl)) rfl ?_
  exact ⟨rfl, unhide HW9, unhide HB9⟩
end Go.Proofs.YtggllgimlfchhabGreat

/- Record: message, as it is written. -/
namespace Go.Proofs.YtggllgimlfchhabGreat
open Go.RowKit
set_option maxRecDepth 100000

set_option maxHeartbeats 1600000 in
theorem message_any {w0 w : World} {B lo : Nat} (h : Wr w B lo []) (cs : Array Value) (m : MsgD) (hM : SeesM w0 cs m) (hb0 : Below w0.heap.size w0 w) (hN : w0.heap.size ≤ B) (hfit : FitM m)
    (hk : -9223372036854775808 ≤ m.kind ∧ m.kind ≤ 9223372036854775807) (hf : -9223372036854775808 ≤ m.frm ∧ m.frm ≤ 9223372036854775807) (ht : -9223372036854775808 ≤ m.to ∧ m.to ≤ 9223372036854775807) (hm : mayMsg m = true) :
    Calls Tryz.prog 34 #[.agg #[.pointer (some ⟨B, 0, none⟩), .pointer (some ⟨B, 0, none⟩), .pointer (some ⟨B, 0, none⟩)], .agg cs] w fun e w' => e = .returned (.tuple #[]) ∧ Wr w' B lo (msgB m) ∧ Wrote B lo w w' := by
  have hlt := h.lt; have hle := h.le
  have HFA : Hid (∀ (x : World) (g : Nat) (zs : List Int), Wr x B lo zs → zs.length ≤ 1000 → Below w0.heap.size w0 x → x.heap[g]? = some (.cells ((fieldsL m.kind).map (Value.int .i64)).toArray 109) → g ≠ B → Calls Tryz.prog 70 #[.agg #[.pointer (some ⟨B, 0, none⟩), .pointer (some ⟨B, 0, none⟩), .pointer (some ⟨B, 0, none⟩)], .agg cs, .slice (some ⟨g, 0, none⟩) (fieldsL m.kind).length (fieldsL m.kind).length] x fun e w' => e = .returned (.tuple #[]) ∧ Wr w' B lo (zs ++ flsB (fieldsL m.kind) m) ∧ Wrote B lo x w') :=
    fun x g zs hx hz hb hg hgB => fields_any hx cs m (fieldsL m.kind) hM hb hN hfit hg hgB (fun f hf => ⟨fieldsL_le _ f hf, mayMsg_fields hm f hf⟩) (fieldsL_len _) hz (fun t ht => fields_pre _ m t ht)
  have HNE := hide (mayMsg_some hm)
  unfold msgB
  obtain ⟨aK, aF, aO, aT, aS, aL, aC, aY, la, ll, lc, ek, ef, en, ta, tl, tc, ps, pi, pm, da, dl, dc, rfl, eK, eF, eO⟩ := hM.shape
  rw [eK] at hk HFA HNE
  rw [eF] at hf
  rw [eO] at ht
  rw [eK, eF, eO]
  clear eK eF eO hM hfit hm
  have hal : Below w.heap.size w ((w.alloc (.cells #[.pointer (some ⟨B, 0, none⟩), .pointer (some ⟨B, 0, none⟩), .pointer (some ⟨B, 0, none⟩)] 76)).alloc (.cells #[.int .i64 aK, .int .i64 aF, .int .i64 aO, .int .i64 aT, .int .i64 aS, .int .i64 aL, .int .i64 aC, .bool aY, .slice la ll lc, .int .i64 ek, .int .i64 ef, .int .i64 en, .slice ta tl tc, .int .i64 ps, .int .i64 pi, .int .i64 pm, .slice da dl dc] 30)) := ((Below.refl _ _).alloc (Nat.le_refl _) _).alloc (by simp) _
  have e0 : (w.alloc (.cells #[.pointer (some ⟨B, 0, none⟩), .pointer (some ⟨B, 0, none⟩), .pointer (some ⟨B, 0, none⟩)] 76)).heap.size = w.heap.size + 1 := by simp
  have b0 : ((w.alloc (.cells #[.pointer (some ⟨B, 0, none⟩), .pointer (some ⟨B, 0, none⟩), .pointer (some ⟨B, 0, none⟩)] 76)).alloc (.cells #[.int .i64 aK, .int .i64 aF, .int .i64 aO, .int .i64 aT, .int .i64 aS, .int .i64 aL, .int .i64 aC, .bool aY, .slice la ll lc, .int .i64 ek, .int .i64 ef, .int .i64 en, .slice ta tl tc, .int .i64 ps, .int .i64 pi, .int .i64 pm, .slice da dl dc] 30)).heap[w.heap.size]? = some (.cells #[.pointer (some ⟨B, 0, none⟩), .pointer (some ⟨B, 0, none⟩), .pointer (some ⟨B, 0, none⟩)] 76) := (Below.heap_alloc _ _ _ (by simp)).trans (heap_alloc_new w _)
  have b1 : ((w.alloc (.cells #[.pointer (some ⟨B, 0, none⟩), .pointer (some ⟨B, 0, none⟩), .pointer (some ⟨B, 0, none⟩)] 76)).alloc (.cells #[.int .i64 aK, .int .i64 aF, .int .i64 aO, .int .i64 aT, .int .i64 aS, .int .i64 aL, .int .i64 aC, .bool aY, .slice la ll lc, .int .i64 ek, .int .i64 ef, .int .i64 en, .slice ta tl tc, .int .i64 ps, .int .i64 pi, .int .i64 pm, .slice da dl dc] 30)).heap[w.heap.size + 1]? = some (.cells #[.int .i64 aK, .int .i64 aF, .int .i64 aO, .int .i64 aT, .int .i64 aS, .int .i64 aL, .int .i64 aC, .bool aY, .slice la ll lc, .int .i64 ek, .int .i64 ef, .int .i64 en, .slice ta tl tc, .int .i64 ps, .int .i64 pi, .int .i64 pm, .slice da dl dc] 30) := by have := heap_alloc_new (w.alloc (.cells #[.pointer (some ⟨B, 0, none⟩), .pointer (some ⟨B, 0, none⟩), .pointer (some ⟨B, 0, none⟩)] 76)) (.cells #[.int .i64 aK, .int .i64 aF, .int .i64 aO, .int .i64 aT, .int .i64 aS, .int .i64 aL, .int .i64 aC, .bool aY, .slice la ll lc, .int .i64 ek, .int .i64 ef, .int .i64 en, .slice ta tl tc, .int .i64 ps, .int .i64 pi, .int .i64 pm, .slice da dl dc] 30); rw [e0] at this; exact this
  obtain ⟨w2, hw2⟩ : ∃ y, ((w.alloc (.cells #[.pointer (some ⟨B, 0, none⟩), .pointer (some ⟨B, 0, none⟩), .pointer (some ⟨B, 0, none⟩)] 76)).alloc (.cells #[.int .i64 aK, .int .i64 aF, .int .i64 aO, .int .i64 aT, .int .i64 aS, .int .i64 aL, .int .i64 aC, .bool aY, .slice la ll lc, .int .i64 ek, .int .i64 ef, .int .i64 en, .slice ta tl tc, .int .i64 ps, .int .i64 pi, .int .i64 pm, .slice da dl dc] 30)) = y := ⟨_, rfl⟩
  rw [hw2] at hal b0 b1
  have HBX : Hid (∀ x : World, Wrote B lo w2 x → x.heap[w.heap.size]? = some (.cells #[.pointer (some ⟨B, 0, none⟩), .pointer (some ⟨B, 0, none⟩), .pointer (some ⟨B, 0, none⟩)] 76) ∧ x.heap[w.heap.size + 1]? = some (.cells #[.int .i64 aK, .int .i64 aF, .int .i64 aO, .int .i64 aT, .int .i64 aS, .int .i64 aL, .int .i64 aC, .bool aY, .slice la ll lc, .int .i64 ek, .int .i64 ef, .int .i64 en, .slice ta tl tc, .int .i64 ps, .int .i64 pi, .int .i64 pm, .slice da dl dc] 30)) := fun x kx => ⟨kx.box b0 (by decide) (by omega), kx.box b1 (by decide) (by omega)⟩
  have HC0 : Hid (∀ x : World, Wrote B lo w2 x → x.cell? ⟨w.heap.size + 1, 0, none⟩ = some (.int .i64 aK)) := fun x kx => cell_of_heap (unhide HBX x kx).2
  have c0 : w2.cell? ⟨w.heap.size, 0, none⟩ = some (.pointer (some ⟨B, 0, none⟩)) := cell_of_heap b0
  have c1 : w2.cell? ⟨w.heap.size + 1, 0, none⟩ = some (.int .i64 aK) := cell_of_heap b1
  have c2 : w2.cell? ⟨w.heap.size + 1, 1, none⟩ = some (.int .i64 aF) := cell_of_heap b1
  have c3 : w2.cell? ⟨w.heap.size + 1, 2, none⟩ = some (.int .i64 aO) := cell_of_heap b1
  have hz : Below w2.heap.size w2 (w2.alloc (.cells #[.int .i64 aK, .int .i64 aF, .int .i64 aO] 2)) := (Below.refl _ _).alloc (Nat.le_refl _) _
  have HN1 := hide (nums_any ((h.below hal).below hz) _ [aK, aF, aO] (sees_lit w2 [aK, aF, aO] (by simp)) (by simp) (i64_of fun x hx => by simp at hx; rcases hx with rfl | rfl | rfl <;> assumption) (by have : sizeL [aK, aF, aO] ≤ 27 := sizeL_le [aK, aF, aO]; simp; omega))
  simp only [List.length_cons, List.length_nil, Nat.reduceAdd, List.nil_append] at HN1
  have HW2 : Hid (Wrote B lo w w2) := Wrote.of hal
  have HX0 : Hid (Wrote B lo w2 (w2.alloc (.cells #[.int .i64 aK, .int .i64 aF, .int .i64 aO] 2))) := Wrote.of hz
  have HWB : Hid (∀ x, Wrote B lo w2 x → Below w0.heap.size w0 x) := fun x k => hb0.trans (((Wrote.of (B := B) (lo := lo) hal).trans k).below hN (by omega) (by have := hb0.size; omega))
  clear h hal hz b0 b1 e0 hk hf ht hb0
  go_enter Tryz.func34, Tryz.ntmps34
  go_wp2_with (rw [hw2])
  refine (unhide HN1).mono ?_
  rintro e y1 ⟨rfl, p1, r1⟩
  have hX1 := (unhide HX0).trans r1
  have HX1 := hide hX1
  have HP1 := hide p1
  clear p1 r1 hX1 HN1 c0 c1 c2 c3
  go_wp2_with fail
  obtain ⟨vw, hvw⟩ : ∃ v, Value.agg #[.pointer (some ⟨B, 0, none⟩), .pointer (some ⟨B, 0, none⟩), .pointer (some ⟨B, 0, none⟩)] = v := ⟨_, rfl⟩
  obtain ⟨vm, hvm⟩ : ∃ v, Value.agg #[.int .i64 aK, .int .i64 aF, .int .i64 aO, .int .i64 aT, .int .i64 aS, .int .i64 aL, .int .i64 aC, .bool aY, .slice la ll lc, .int .i64 ek, .int .i64 ef, .int .i64 en, .slice ta tl tc, .int .i64 ps, .int .i64 pi, .int .i64 pm, .slice da dl dc] = v := ⟨_, rfl⟩
  rw [hvw, hvm]
  rw [hvw, hvm] at HFA
  have HVw := hide hvw
  have HVm := hide hvm
  clear hvw hvm
  refine wp_region_held_drew (S := fun x => Wrote B lo w2 x) (by kernel_rfl) (unhide HX1).drew (fun hHeld => ?_)
  refine wpAnyH_take (i := 0) (v := vw) rfl (by kernel_rfl) (by kernel_rfl) (by kernel_rfl) (fun _ _ _ h => h) (Or.inl ⟨by rfl, ?hy1x0⟩) (by assumption) ?rest1x0
  case hy1x0 => intro w hSw; exact run_loadE rfl rfl (unhide HBX _ hSw).1 Tryz.underlying76 (by kernel_rfl) (unhide HVw)
  simp only [Act.put, List.getElem_toArray, List.getElem_cons_zero, List.setIfInBounds_toArray, List.set_cons_zero, List.set_cons_succ]
  refine wpAnyH_take (i := 1) (v := vm) rfl (by kernel_rfl) (by kernel_rfl) (by kernel_rfl) (fun _ _ _ h => h) (Or.inl ⟨by rfl, ?hy2x1⟩) (by assumption) ?rest2x1
  case hy2x1 => intro w hSw; exact run_loadE rfl rfl (unhide HBX _ hSw).2 Tryz.underlying30 (by kernel_rfl) (unhide HVm)
  simp only [Act.put, List.getElem_toArray, List.getElem_cons_zero, List.getElem_cons_succ, List.setIfInBounds_toArray, List.set_cons_zero, List.set_cons_succ]
  refine wpAnyH_take (i := 2) (v := ?v3x2) rfl (by kernel_rfl) (by kernel_rfl) (by kernel_rfl) (fun _ _ _ h => h) (Or.inl ⟨by rfl, ?hy3x2⟩) (by assumption) ?rest3x2
  case hy3x2 => intro w hSw; go_simp <;> with_reducible rfl
  simp only [Act.put, List.getElem_toArray, List.getElem_cons_zero, List.getElem_cons_succ, List.setIfInBounds_toArray, List.set_cons_zero, List.set_cons_succ]
  refine wpAnyH_take (i := 3) (v := (.int .i64 aK)) rfl (by kernel_rfl) (by kernel_rfl) (by kernel_rfl) (fun _ _ _ h => h) (Or.inl ⟨by rfl, ?hy4x3⟩) (by assumption) ?rest4x3
  case hy4x3 => intro w hSw; have g0 := unhide HC0 _ hSw; go_simp <;> with_reducible rfl
  simp only [Act.put, List.getElem_toArray, List.getElem_cons_zero, List.getElem_cons_succ, List.setIfInBounds_toArray, List.set_cons_zero, List.set_cons_succ]
  refine wpAnyH_ready (rs := [4]) (by kernel_rfl) (by simp) ?_
  refine AllReadyH.cons rfl (fun K hK => ?_) AllReadyH.nil
  go_simp
  refine (fieldsOf_at aK _).mono ?_
  rintro e y2 ⟨v, rfl, hv, hb2⟩
  refine hK _ _ ((unhide HX1).drew.trans (Wrote.of hb2)) ?_
  clear hK hHeld
  refine hv.elim (fun hv1 => absurd hv1.1 (unhide HNE)) (fun hv2 => ?_)
  clear hv
  obtain ⟨g, rfl, hg, hgh⟩ := hv2
  have HX2 : Hid (Wrote B lo w2 y2) := (unhide HX1).drew.trans (Wrote.of hb2)
  have HP2 : Hid (Wr y2 B lo (putL [aK, aF, aO])) := ((unhide HP1).below (Below.refl _ _).drew).below hb2
  have hgB : g ≠ B := by have a1 := (unhide HP1).lt; have a2 := (unhide HP1).le; have a3 : y1.heap.size ≤ g := hg; omega
  have HF5 := hide (unhide HFA y2 g _ (unhide HP2) (by have l1 := putL_le [aK, aF, aO]; simp only [List.length_cons, List.length_nil] at l1; omega) (unhide HWB _ (unhide HX2)) hgh hgB)
  clear hb2 hg hgh hgB
  intro hHeld
  refine wpAnyH_ready (rs := [5]) (by kernel_rfl) (by simp) ?_
  refine AllReadyH.cons rfl (fun K hK => ?_) AllReadyH.nil
  go_simp
  refine (unhide HF5).mono ?_
  rintro e y3 ⟨rfl, q1, q2⟩
  refine hK _ _ ((unhide HX2).trans q2) ?_
  clear hK hHeld
  have HF : Hid (Wr y3 B lo (putL [aK, aF, aO] ++ flsB (fieldsL aK) m) ∧ Wrote B lo w y3) := ⟨q1, (unhide HW2).trans ((unhide HX2).trans q2)⟩
  clear q1 q2
  intro hHeld
  refine wpAnyH_done (by kernel_rfl) ?_ _
  go_wp2
  go_end0
  exact ⟨rfl, unhide HF⟩
end Go.Proofs.YtggllgimlfchhabGreat
