/- Several texts as one. -/
import Derived.Test.YtggllgimlfchhabGreatKZ33
import Derived.Test.YtggllgimlfchhabGreatKD
import Derived.Test.YtggllgimlfchhabGreatKS
import Derived.Test.YtggllgimlfchhabGreatKN

/- Record: flags, termed entries and parts, read. -/
namespace Go.Proofs.YtggllgimlfchhabGreat
open Go.RowKit
set_option maxRecDepth 100000

theorem own_same {w w' : World} {base e size : Nat} {v : Value} {n : Nat} {xs : List Value} (h : w.ownsRow base e size v n xs) (hk : ∀ k, base ≤ k → k < w.heap.size → w'.heap[k]? = w.heap[k]?) : w'.ownsRow base e size v n xs := by
  refine ⟨h.1, ?_⟩
  rcases h.2 with hn | ⟨g, cap, cur, hv, hg, hh, r⟩
  · exact .inl hn
  · exact .inr ⟨g, cap, cur, hv, hg, (hk g hg (Array.getElem?_eq_some_iff.1 hh).1).trans hh, r⟩
theorem OwnT.same {base : Nat} {w w' : World} {cs : Array Value} {t : TxnD} (h : OwnT base w cs t) (hk : ∀ k, base ≤ k → k < w.heap.size → w'.heap[k]? = w.heap[k]?) : OwnT base w' cs t := by
  obtain ⟨cv, av, rv, wv, h0, h1, h2, h3, h4⟩ := h
  exact ⟨cv, av, rv, wv, h0, own_same h1 hk, own_same h2 hk, own_same h3 hk, own_same h4 hk⟩
theorem OwnTs.same {base : Nat} {w w' : World} {x : Value} {l : List TxnD} (h : OwnTs base w x l) (hk : ∀ k, base ≤ k → k < w.heap.size → w'.heap[k]? = w.heap[k]?) : OwnTs base w' x l := by
  obtain ⟨vs, h1, h2, h3⟩ := h
  exact ⟨vs, h1, own_same h2 hk, fun p hp => (h3 p hp).same hk⟩
theorem But.newRow {R b : Nat} {w w' : World} (h : But R w w') (hb : w.heap.size ≤ b) (cs : Array Value) : But R w (w'.setRow b cs) :=
  ⟨h.os, h.tape, h.output, by rw [setRow_size]; exact h.size, fun k hk hR => (setRow_other _ _ _ _ (by omega)).trans (h.block k hk hR)⟩
theorem Rd.otherRow {w : World} {R lo b : Nat} {zs : List Int} {er : Int} {un : Bool} (h : Rd w R lo zs er un) (hb : R < b) (cs : Array Value) : Rd (w.setRow b cs) R lo zs er un :=
  h.keep fun k hk => setRow_other _ _ _ _ (by have := h.lt; omega)
theorem row_same {w : World} {base b : Nat} (cs : Array Value) (hb : b < base) : ∀ k, base ≤ k → k < w.heap.size → (w.setRow b cs).heap[k]? = w.heap[k]? := fun k hk _ => setRow_other _ _ _ _ (by omega)

def RS.flag (s : RS) : Bool × RS := (decide (s.num.1 = 1), s.num.2.must (decide (s.num.1 = 0 ∨ s.num.1 = 1)))
set_option maxHeartbeats 400000 in
theorem flag_r {w : World} {R lo : Nat} {s : RS} (h : RdS w R lo s) :
    Calls Tryz.prog 115 #[.pointer (some ⟨R, 0, none⟩)] w fun e w' => e = .returned (.bool s.flag.1) ∧ RdS w' R lo s.flag.2 ∧ But R w w' := by
  have HT := hide (num_r h)
  unfold RS.flag
  clear h
  generalize s.num = p at HT ⊢
  obtain ⟨n, s1⟩ := p
  simp only at HT ⊢
  obtain ⟨bb, hbb⟩ : ∃ b', decide (n = 0 ∨ n = 1) = b' := ⟨_, rfl⟩
  rw [hbb]
  go_enter Tryz.func115, Tryz.ntmps115
  go_wp2_with fail
  refine (unhide HT).mono ?_
  rintro e w1 ⟨rfl, h1, h2⟩
  have HM := hide (must_r h1 bb)
  have HB := hide h2
  clear h1 h2
  by_cases c1 : n = 0
  · subst c1
    obtain rfl : bb = true := hbb.symm.trans (by decide)
    go_wp2_with fail
    refine (unhide HM).mono ?_
    rintro e w2 ⟨rfl, h3, h4⟩
    have HR := hide (And.intro h3 ((unhide HB).trans h4))
    clear h3 h4
    go_wp2
    go_ret
    exact ⟨rfl, unhide HR⟩
  · by_cases c2 : n = 1
    · subst c2
      obtain rfl : bb = true := hbb.symm.trans (by decide)
      go_wp2_with fail
      refine (unhide HM).mono ?_
      rintro e w2 ⟨rfl, h3, h4⟩
      have HR := hide (And.intro h3 ((unhide HB).trans h4))
      clear h3 h4
      go_wp2
      go_ret
      exact ⟨rfl, unhide HR⟩
    · have c1b : (n == 0) = false := by simpa using c1
      have c2b : (n == 1) = false := by simpa using c2
      have c2d : decide (n = 1) = false := decide_eq_false c2
      obtain rfl : bb = false := hbb.symm.trans (decide_eq_false (fun h => h.elim c1 c2))
      have HC2 := hide c2d
      go_wp2_with fail
      refine (unhide HM).mono ?_
      rintro e w2 ⟨rfl, h3, h4⟩
      have HR := hide (And.intro h3 ((unhide HB).trans h4))
      clear h3 h4
      go_wp2
      go_ret
      exact ⟨by simp [c2], unhide HR⟩

def RS.termed (s : RS) : TmD × RS := (⟨s.num.1, s.num.2.entry.1⟩, s.num.2.entry.2)
set_option maxHeartbeats 800000 in
theorem termed_r {w : World} {R lo : Nat} {s : RS} (h : RdS w R lo s) :
    Calls Tryz.prog 117 #[.pointer (some ⟨R, 0, none⟩)] w fun e w' => ∃ tv, e = .returned (.agg #[.int .i64 s.termed.1.term, .int .i64 s.termed.1.ent.kind, .int .i64 s.termed.1.ent.frm, .int .i64 s.termed.1.ent.num, tv]) ∧ OwnTs w.heap.size w' tv s.termed.1.ent.txns ∧ RdS w' R lo s.termed.2 ∧ But R w w' := by
  obtain ⟨a, s1, e1⟩ : ∃ n s', s.num = (n, s') := ⟨_, _, rfl⟩
  obtain ⟨k, f, n, l, s2, e2⟩ : ∃ k f n l s', s1.entry = (⟨k, f, n, l⟩, s') := ⟨_, _, _, _, _, rfl⟩
  have et : s.termed = (⟨a, ⟨k, f, n, l⟩⟩, s2) := by simp only [RS.termed, e1, e2]
  rw [et]
  simp only
  have HE2 := hide e2
  have hr := h.rlt
  have hal : Below w.heap.size w (w.alloc (.cells #[.int .i64 0, .int .i64 0, .int .i64 0, .int .i64 0, .slice none 0 0] 52)) := (Below.refl _ _).alloc (Nat.le_refl _) _
  have HT := hide (num_r (h.below hal))
  have HB0 : Hid (But R w (w.alloc (.cells #[.int .i64 0, .int .i64 0, .int .i64 0, .int .i64 0, .slice none 0 0] 52))) := But.of hal
  have HX : Hid ((w.alloc (.cells #[.int .i64 0, .int .i64 0, .int .i64 0, .int .i64 0, .slice none 0 0] 52)).heap[w.heap.size]? = some (.cells #[.int .i64 0, .int .i64 0, .int .i64 0, .int .i64 0, .slice none 0 0] 52)) := heap_alloc_new w _
  have HSZ : Hid (w.heap.size + 1 ≤ (w.alloc (.cells #[.int .i64 0, .int .i64 0, .int .i64 0, .int .i64 0, .slice none 0 0] 52)).heap.size) := by show _ ≤ _; simp
  rw [e1] at HT
  simp only at HT
  clear h hal e1 e2 et
  go_enter Tryz.func117, Tryz.ntmps117
  go_wp2_with fail
  refine (unhide HT).mono ?_
  rintro e w1 ⟨rfl, h1, h2⟩
  have HT2 := hide (entry_r h1)
  rw [unhide HE2] at HT2
  simp only at HT2
  have HB1 := hide ((unhide HB0).trans h2)
  have HX1 := hide (h2.same (unhide HX) (by omega))
  have HSZ1 : Hid (w.heap.size + 1 ≤ w1.heap.size) := Nat.le_trans (unhide HSZ) h2.size
  clear h1 h2 HT
  go_wp2_with fail
  refine (unhide HT2).mono ?_
  rintro e w2 ⟨cs, rfl, ⟨tv, rfl, ot⟩, h1, h2⟩
  obtain ⟨ta, tc, rfl⟩ := ot.shape
  have hx2 := h2.same (unhide HX1) (by omega)
  have HX2 := hide hx2
  have HF : Hid (∀ cs, OwnTs w.heap.size (w2.setRow w.heap.size cs) (.slice ta l.length tc) l ∧ RdS (w2.setRow w.heap.size cs) R lo s2 ∧ But R w (w2.setRow w.heap.size cs)) := fun cs =>
    ⟨((ot.mono (unhide HSZ1)).same (row_same cs (by omega))).mono (by omega), h1.otherRow hr cs, ((unhide HB1).trans h2).newRow (Nat.le_refl _) cs⟩
  clear ot h1 h2 hx2 HT2
  obtain ⟨L, hL⟩ : ∃ n, l.length = n := ⟨_, rfl⟩
  rw [hL] at HF
  rw [hL]
  clear hL
  go_wp2_with (refine wpList_store_row rfl 52 _ _ rfl w.heap.size _ _ rfl rfl 52 (unhide HX2) (by kernel_rfl) rfl (by first | kernel_rfl | simp [Value.oneCell']) ?_)
  refine bodyPost_ret (results_cell_row rfl _ _ w.heap.size 52 #[.int .i64 a, .int .i64 k, .int .i64 f, .int .i64 n, .slice ta L tc] (0, 0) _ rfl (setRow_heap _ _ _ _ _ _ (unhide HX2)) Tryz.underlying52 rfl (by kernel_rfl)) rfl ?_
  exact ⟨_, rfl, unhide HF _⟩

def RS.part (s : RS) : PtD × RS := (⟨s.num.1, s.num.2.num.1, s.num.2.num.2.num.1, s.num.2.num.2.num.2.blob.1⟩, s.num.2.num.2.num.2.blob.2)
set_option maxHeartbeats 800000 in
theorem part_r {w : World} {R lo : Nat} {s : RS} (h : RdS w R lo s) :
    Calls Tryz.prog 118 #[.pointer (some ⟨R, 0, none⟩)] w fun e w' => ∃ dv, e = .returned (.agg #[.int .i64 s.part.1.slot, .int .i64 s.part.1.idx, .int .i64 s.part.1.many, dv]) ∧ w'.ownsRow w.heap.size 5 1 dv s.part.1.data.length (ints .u8 s.part.1.data) ∧ RdS w' R lo s.part.2 ∧ But R w w' := by
  obtain ⟨a, s1, e1⟩ : ∃ n s', s.num = (n, s') := ⟨_, _, rfl⟩
  obtain ⟨b, s2, e2⟩ : ∃ n s', s1.num = (n, s') := ⟨_, _, rfl⟩
  obtain ⟨c, s3, e3⟩ : ∃ n s', s2.num = (n, s') := ⟨_, _, rfl⟩
  obtain ⟨l, s4, e4⟩ : ∃ n s', s3.blob = (n, s') := ⟨_, _, rfl⟩
  have et : s.part = (⟨a, b, c, l⟩, s4) := by simp only [RS.part, e1, e2, e3, e4]
  rw [et]
  simp only
  have HE2 := hide e2
  have HE3 := hide e3
  have HE4 := hide e4
  have hr := h.rlt
  have hal : Below w.heap.size w (w.alloc (.cells #[.int .i64 0, .int .i64 0, .int .i64 0, .slice none 0 0] 28)) := (Below.refl _ _).alloc (Nat.le_refl _) _
  have HT := hide (num_r (h.below hal))
  have HB0 : Hid (But R w (w.alloc (.cells #[.int .i64 0, .int .i64 0, .int .i64 0, .slice none 0 0] 28))) := But.of hal
  have HX : Hid ((w.alloc (.cells #[.int .i64 0, .int .i64 0, .int .i64 0, .slice none 0 0] 28)).heap[w.heap.size]? = some (.cells #[.int .i64 0, .int .i64 0, .int .i64 0, .slice none 0 0] 28)) := heap_alloc_new w _
  have HSZ : Hid (w.heap.size + 1 ≤ (w.alloc (.cells #[.int .i64 0, .int .i64 0, .int .i64 0, .slice none 0 0] 28)).heap.size) := by show _ ≤ _; simp
  rw [e1] at HT
  simp only at HT
  clear h hal e1 e2 e3 e4 et
  go_enter Tryz.func118, Tryz.ntmps118
  go_wp2_with fail
  refine (unhide HT).mono ?_
  rintro e w1 ⟨rfl, h1, h2⟩
  have HT1 := hide (fit_r h1)
  have HB1 := hide ((unhide HB0).trans h2)
  have HX1 := hide (h2.same (unhide HX) (by omega))
  have HSZ1 : Hid (w.heap.size + 1 ≤ w1.heap.size) := Nat.le_trans (unhide HSZ) h2.size
  clear h1 h2 HT
  rw [unhide HE2] at HT1
  simp only at HT1
  go_wp2_with fail
  refine (unhide HT1).mono ?_
  rintro e w2 ⟨rfl, h1, h2⟩
  have HT2 := hide (fit_r h1)
  have HB2 := hide ((unhide HB1).trans h2)
  have HX2 := hide (h2.same (unhide HX1) (by omega))
  have HSZ2 : Hid (w.heap.size + 1 ≤ w2.heap.size) := Nat.le_trans (unhide HSZ1) h2.size
  clear h1 h2 HT1
  rw [unhide HE3] at HT2
  simp only at HT2
  go_wp2_with fail
  refine (unhide HT2).mono ?_
  rintro e w3 ⟨rfl, h1, h2⟩
  have HT3 := hide (blob_r h1)
  have HB3 := hide ((unhide HB2).trans h2)
  have HX3 := hide (h2.same (unhide HX2) (by omega))
  have HSZ3 : Hid (w.heap.size + 1 ≤ w3.heap.size) := Nat.le_trans (unhide HSZ2) h2.size
  clear h1 h2 HT2
  rw [unhide HE4] at HT3
  simp only at HT3
  go_wp2_with fail
  refine (unhide HT3).mono ?_
  rintro e w4 ⟨dv, rfl, ot, h1, h2⟩
  obtain ⟨ta, tc, rfl⟩ := own_shape ot
  have hx2 := h2.same (unhide HX3) (by omega)
  have HX4 := hide hx2
  have HF : Hid (∀ cs, (w4.setRow w.heap.size cs).ownsRow w.heap.size 5 1 (.slice ta l.length tc) l.length (ints .u8 l) ∧ RdS (w4.setRow w.heap.size cs) R lo s4 ∧ But R w (w4.setRow w.heap.size cs)) := fun cs =>
    ⟨own_mono (own_same (own_mono ot (unhide HSZ3)) (row_same cs (by omega))) (by omega), h1.otherRow hr cs, ((unhide HB3).trans h2).newRow (Nat.le_refl _) cs⟩
  clear ot h1 h2 hx2 HT3
  obtain ⟨L, hL⟩ : ∃ n, l.length = n := ⟨_, rfl⟩
  have HLL := hide hL
  rw [hL] at HF
  rw [hL]
  clear hL
  go_wp2_with (refine wpList_store_row rfl 28 _ _ rfl w.heap.size _ _ rfl rfl 28 (unhide HX4) (by kernel_rfl) rfl (by first | kernel_rfl | simp [Value.oneCell']) ?_)
  refine bodyPost_ret (results_cell_row rfl _ _ w.heap.size 28 #[.int .i64 a, .int .i64 b, .int .i64 c, .slice ta L tc] (0, 0) _ rfl (setRow_heap _ _ _ _ _ _ (unhide HX4)) Tryz.underlying28 rfl (by kernel_rfl)) rfl ?_
  rw [unhide HLL]
  exact ⟨_, rfl, unhide HF _⟩
end Go.Proofs.YtggllgimlfchhabGreat

/- Messages and keys as arguments. -/
namespace Go.Proofs.YtggllgimlfchhabGreat
open Go.ChangeShapes Go.WideShapes Go.ChangeAt Go.RowKit Go.Deep
set_option maxRecDepth 100000

theorem Tryz.cells25 : Tryz.prog.cellsOf 25 = 1 := by kernel_rfl
theorem Tryz.cells28 : Tryz.prog.cellsOf 28 = 4 := by kernel_rfl
theorem Tryz.cells30 : Tryz.prog.cellsOf 30 = 17 := by kernel_rfl
theorem Tryz.cells52 : Tryz.prog.cellsOf 52 = 5 := by kernel_rfl
theorem Tryz.cells4 : Tryz.prog.cellsOf 4 = 1 := by kernel_rfl

section
variable {H : Type} {enc : TypeId × Value → H} {W : World}

theorem view_entC {fuel : Nat} {cs : List Value} {x : DataW H × List MemPlace} (hl : cs.length = 4) (hf : DataW.trod enc Tryz.prog W 0 (fun _ => true) true fuel 24 cs = some x) :
    ∃ (e : EntD) (tv : Value), cs = [.int .i64 e.kind, .int .i64 e.frm, .int .i64 e.num, tv] ∧ SeesTs W tv e.txns ∧ OkTs e.txns := by
  obtain ⟨xs, n, _, rfl, _, hxl, hg⟩ := DataW.trod_struct Tryz.underlying24 hf
  obtain ⟨y0, y1, y2, y3, rfl⟩ := list4 hxl
  obtain ⟨v0, v1, v2, v3, rfl⟩ := list4 hl
  have g0 := hg 0 _ rfl
  have g1 := hg 1 _ rfl
  have g2 := hg 2 _ rfl
  have g3 := hg 3 _ rfl
  simp [Tryz.cells2, Tryz.cells3, Tryz.cells22] at g0 g1 g2 g3
  obtain ⟨n0, e0, _, w0⟩ := DataW.trod_int Tryz.underlying3 g0
  obtain ⟨n1, e1, _, w1⟩ := DataW.trod_int Tryz.underlying3 g1
  obtain ⟨n2, e2, _, w2⟩ := DataW.trod_int Tryz.underlying2 g2
  obtain ⟨u3, l, e3, k1, k2, k3⟩ := view_txns g3
  simp only [List.cons.injEq, and_true] at e0 e1 e2 e3
  subst e0 e1 e2 e3
  exact ⟨⟨n0, n1, n2, l⟩, v3, rfl, k1, fun t ht => ⟨(k2 t ht).code, k3 t ht⟩⟩
abbrev TM2 := TmD × Value
def tmCells (p : TM2) : List Value := [.int .i64 p.1.term, .int .i64 p.1.ent.kind, .int .i64 p.1.ent.frm, .int .i64 p.1.ent.num, p.2]
instance : Inhabited TM2 := ⟨(dM, .slice none 0 0)⟩
theorem list5 {α : Type} {l : List α} (h : l.length = 5) : ∃ a0 a1 a2 a3 a4, l = [a0, a1, a2, a3, a4] := by
  match l, h with
  | [a0, a1, a2, a3, a4], _ => exact ⟨a0, a1, a2, a3, a4, rfl⟩
theorem view_tmC {fuel : Nat} {cs : List Value} {x : DataW H × List MemPlace} (hl : cs.length = 5) (hf : DataW.trod enc Tryz.prog W 0 (fun _ => true) true fuel 52 cs = some x) :
    ∃ p : TM2, cs = tmCells p ∧ (SeesTs W p.2 p.1.ent.txns ∧ OkTs p.1.ent.txns) := by
  obtain ⟨xs, n, _, rfl, _, hxl, hg⟩ := DataW.trod_struct Tryz.underlying52 hf
  obtain ⟨y0, y1, rfl⟩ := list2 hxl
  obtain ⟨v0, v1, v2, v3, v4, rfl⟩ := list5 hl
  have g0 := hg 0 _ rfl
  have g1 := hg 1 _ rfl
  simp [Tryz.cells2, Tryz.cells24] at g0 g1
  obtain ⟨n0, e0, _, w0⟩ := DataW.trod_int Tryz.underlying2 g0
  obtain ⟨e, tv, e1, k1, k2⟩ := view_entC rfl g1
  simp only [List.cons.injEq, and_true] at e0 e1
  obtain ⟨rfl, rfl, rfl, rfl⟩ := e1
  subst e0
  exact ⟨(⟨n0, e⟩, v4), rfl, k1, k2⟩
theorem view_tmsC {fuel : Nat} {cs : List Value} {x : DataW H × List MemPlace} (hf : DataW.trod enc Tryz.prog W 0 (fun _ => true) true fuel 25 cs = some x) : ∃ v l, cs = [v] ∧ SeesTms W v l ∧ OkTms l := by
  obtain ⟨a0, cap, gb, ob, l, rfl, h1, h2, h3, h4⟩ := view_list (α := TM2) Tryz.underlying25 Tryz.cells52 (by decide) tmCells (fun p => SeesTs W p.2 p.1.ent.txns ∧ OkTs p.1.ent.txns) (fun _ => rfl) (fun _ _ _ hl hf => view_tmC hl hf) hf
  have hm : ∀ t ∈ l.map (·.1), OkTs t.ent.txns := fun t ht => by
    obtain ⟨p, hp, rfl⟩ := List.mem_map.1 ht
    obtain ⟨i, hi, rfl⟩ := List.getElem_of_mem hp
    have := (h4 i hi).1
    have e : l.getD i default = l[i] := by simp [List.getD, hi]
    rw [e] at this
    exact this.2
  refine ⟨_, l.map (·.1), rfl, ⟨a0, cap, gb, ob, by simp, by simpa using h1, by simpa using h2, by simpa using h3, fun t ht => ?_⟩, fun t ht => hm t ht⟩
  have htl : t < l.length := by simpa using ht
  obtain ⟨hk, hc⟩ := h4 t htl
  have e : l.getD t default = l[t] := by simp [List.getD, htl]
  have e2 : (l.map (·.1)).getD t dM = l[t].1 := by simp [List.getD, htl]
  rw [e] at hk hc
  rw [e2]
  exact ⟨_, hc 0 (by omega), hc 1 (by omega), hc 2 (by omega), hc 3 (by omega), hc 4 (by omega), hk.1⟩
theorem view_ptC {fuel : Nat} {cs : List Value} {x : DataW H × List MemPlace} (hl : cs.length = 4) (hf : DataW.trod enc Tryz.prog W 0 (fun _ => true) true fuel 28 cs = some x) :
    ∃ (p : PtD) (dv : Value), cs = [.int .i64 p.slot, .int .i64 p.idx, .int .i64 p.many, dv] ∧ Sees W .u8 dv p.data ∧ Byt p.data := by
  obtain ⟨xs, n, _, rfl, _, hxl, hg⟩ := DataW.trod_struct Tryz.underlying28 hf
  obtain ⟨y0, y1, y2, y3, rfl⟩ := list4 hxl
  obtain ⟨v0, v1, v2, v3, rfl⟩ := list4 hl
  have g0 := hg 0 _ rfl
  have g1 := hg 1 _ rfl
  have g2 := hg 2 _ rfl
  have g3 := hg 3 _ rfl
  simp [Tryz.cells2, Tryz.cells3, Tryz.cells26] at g0 g1 g2 g3
  obtain ⟨n0, e0, _, w0⟩ := DataW.trod_int Tryz.underlying2 g0
  obtain ⟨n1, e1, _, w1⟩ := DataW.trod_int Tryz.underlying3 g1
  obtain ⟨n2, e2, _, w2⟩ := DataW.trod_int Tryz.underlying3 g2
  obtain ⟨u3, l, e3, k1, k2⟩ := view_bytes g3
  simp only [List.cons.injEq, and_true] at e0 e1 e2 e3
  subst e0 e1 e2 e3
  exact ⟨⟨n0, n1, n2, l⟩, v3, rfl, k1, k2⟩
theorem list11 {α : Type} {l : List α} (h : l.length = 11) : ∃ a0 a1 a2 a3 a4 a5 a6 a7 a8 a9 a10, l = [a0, a1, a2, a3, a4, a5, a6, a7, a8, a9, a10] := by
  match l, h with
  | [a0, a1, a2, a3, a4, a5, a6, a7, a8, a9, a10], _ => exact ⟨a0, a1, a2, a3, a4, a5, a6, a7, a8, a9, a10, rfl⟩
theorem list17 {α : Type} {l : List α} (h : l.length = 17) : ∃ a0 a1 a2 a3 a4 a5 a6 a7 a8 a9 a10 a11 a12 a13 a14 a15 a16, l = [a0, a1, a2, a3, a4, a5, a6, a7, a8, a9, a10, a11, a12, a13, a14, a15, a16] := by
  match l, h with
  | [a0, a1, a2, a3, a4, a5, a6, a7, a8, a9, a10, a11, a12, a13, a14, a15, a16], _ => exact ⟨a0, a1, a2, a3, a4, a5, a6, a7, a8, a9, a10, a11, a12, a13, a14, a15, a16, rfl⟩
/-- A message as an argument. -/
theorem view_msgA {r : Reach} {b0 : Nat} {v : Value} {d : DataW H} {p : List MemPlace} (hval : Value.okWide Tryz.prog W r b0 30 v) (hf : DataW.Trod enc Tryz.prog W 0 (fun _ => true) true 30 v d p) :
    ∃ cs m, v = .agg cs ∧ SeesM W cs m ∧ OkM m := by
  obtain ⟨cs, rfl, hsz⟩ := okWide_struct Tryz.underlying30 hval
  obtain ⟨fuel, hf⟩ := hf
  rw [Tryz.cells30] at hsz
  have e : (Value.agg cs).cells.toList = cs.toList := by simp [Value.cells]
  rw [e] at hf
  obtain ⟨xs, n, _, hx, _, hxl, hg⟩ := DataW.trod_struct Tryz.underlying30 hf
  obtain ⟨y0, y1, y2, y3, y4, y5, y6, y7, y8, y9, y10, rfl⟩ := list11 hxl
  obtain ⟨v0, v1, v2, v3, v4, v5, v6, v7, v8, v9, v10, v11, v12, v13, v14, v15, v16, hcs⟩ := list17 (l := cs.toList) (by simpa using hsz)
  rw [hcs] at hg
  have g0 := hg 0 _ rfl
  have g1 := hg 1 _ rfl
  have g2 := hg 2 _ rfl
  have g3 := hg 3 _ rfl
  have g4 := hg 4 _ rfl
  have g5 := hg 5 _ rfl
  have g6 := hg 6 _ rfl
  have g7 := hg 7 _ rfl
  have g8 := hg 8 _ rfl
  have g9 := hg 9 _ rfl
  have g10 := hg 10 _ rfl
  simp [Tryz.cells2, Tryz.cells3, Tryz.cells4, Tryz.cells24, Tryz.cells25, Tryz.cells28] at g0 g1 g2 g3 g4 g5 g6 g7 g8 g9 g10
  obtain ⟨n0, e0, _, _⟩ := DataW.trod_int Tryz.underlying3 g0
  obtain ⟨n1, e1, _, _⟩ := DataW.trod_int Tryz.underlying3 g1
  obtain ⟨n2, e2, _, _⟩ := DataW.trod_int Tryz.underlying3 g2
  obtain ⟨n3, e3, _, _⟩ := DataW.trod_int Tryz.underlying2 g3
  obtain ⟨n4, e4, _, _⟩ := DataW.trod_int Tryz.underlying2 g4
  obtain ⟨n5, e5, _, _⟩ := DataW.trod_int Tryz.underlying2 g5
  obtain ⟨n6, e6, _, _⟩ := DataW.trod_int Tryz.underlying2 g6
  obtain ⟨bY, e7, _⟩ := DataW.trod_bool Tryz.underlying4 g7
  obtain ⟨lv, ml, e8, a1, a2⟩ := view_tmsC g8
  obtain ⟨en, tv, e9, b1, b2⟩ := view_entC rfl g9
  obtain ⟨pt, dv, e10, c1, c2⟩ := view_ptC rfl g10
  simp only [List.cons.injEq, and_true] at e0 e1 e2 e3 e4 e5 e6 e7 e8 e9 e10
  obtain ⟨rfl, rfl, rfl, rfl⟩ := e9
  obtain ⟨rfl, rfl, rfl, rfl⟩ := e10
  subst e0 e1 e2 e3 e4 e5 e6 e7 e8
  refine ⟨cs, ⟨n0, n1, n2, n3, n4, n5, n6, bY, ml, en, pt⟩, rfl, ⟨v8, v12, v16, ?_, a1, b1, c1⟩, ⟨a2, b2, c2⟩⟩
  have : cs = (cs.toList).toArray := by simp
  rw [this, hcs]
/-- Keys as an argument. -/
theorem view_keysA {r : Reach} {b0 : Nat} {v : Value} {d : DataW H} {p : List MemPlace} (hval : Value.okWide Tryz.prog W r b0 68 v) (hf : DataW.Trod enc Tryz.prog W 0 (fun _ => true) true 68 v d p) : ∃ l, SeesK W v l := by
  obtain ⟨a, len, cap, rfl⟩ := okWide_slice Tryz.underlying68 hval
  obtain ⟨fuel, hf⟩ := hf
  obtain ⟨v, l, hv, hs, _⟩ := view_keys hf
  simp [Value.cells] at hv
  subst hv
  exact ⟨l, hs⟩
end
end Go.Proofs.YtggllgimlfchhabGreat

/- Record: lists of termed entries, read. -/
namespace Go.Proofs.YtggllgimlfchhabGreat
open Go.RowKit
set_option maxRecDepth 100000

theorem OwnT.grownM {base base' size' n' : Nat} {w w' : World} {cs : Array Value} {t : TxnD} {v' : Value} {xs' : List Value} (h : OwnT base w cs t) (h' : w.ownsRow base' 52 size' v' n' xs') (hg : w.grownBy w' v'.ownBlock) : OwnT base w' cs t := by
  obtain ⟨cv, av, rv, wv, h0, h1, h2, h3, h4⟩ := h
  exact ⟨cv, av, rv, wv, h0, own_other h1 h' (by decide) hg, own_other h2 h' (by decide) hg, own_other h3 h' (by decide) hg, own_other h4 h' (by decide) hg⟩
theorem OwnTs.grownM {base base' size' n' : Nat} {w w' : World} {x : Value} {l : List TxnD} {v' : Value} {xs' : List Value} (h : OwnTs base w x l) (h' : w.ownsRow base' 52 size' v' n' xs') (hg : w.grownBy w' v'.ownBlock) : OwnTs base w' x l := by
  obtain ⟨vs, h1, h2, h3⟩ := h
  exact ⟨vs, h1, own_other h2 h' (by decide) hg, fun p hp => (h3 p hp).grownM h' hg⟩
/-- A list of termed entries in rows of one's own. -/
def OwnTms (base : Nat) (w : World) (x : Value) (l : List TmD) : Prop :=
  ∃ vs : List TM2, vs.map (·.1) = l ∧ w.ownsRow base 52 5 x l.length (vs.flatMap tmCells) ∧ ∀ p ∈ vs, OwnTs base w p.2 p.1.ent.txns
theorem OwnTms.nil (base : Nat) (w : World) : OwnTms base w (.slice none 0 0) [] := ⟨[], rfl, World.ownsRow_nil _ _ _ _, fun p hp => by cases hp⟩
theorem OwnTms.shape {base : Nat} {w : World} {x : Value} {l : List TmD} (h : OwnTms base w x l) : ∃ ao cap, x = .slice ao l.length cap := by
  obtain ⟨_, _, h1, _⟩ := h
  exact own_shapeN h1
theorem OwnTms.same {base : Nat} {w w' : World} {x : Value} {l : List TmD} (h : OwnTms base w x l) (hk : ∀ k, base ≤ k → k < w.heap.size → w'.heap[k]? = w.heap[k]?) : OwnTms base w' x l := by
  obtain ⟨vs, h1, h2, h3⟩ := h
  exact ⟨vs, h1, own_same h2 hk, fun p hp => (h3 p hp).same hk⟩
theorem OwnTms.mono {base base' : Nat} {w : World} {x : Value} {l : List TmD} (h : OwnTms base w x l) (hb : base' ≤ base) : OwnTms base' w x l := by
  obtain ⟨vs, h1, h2, h3⟩ := h
  exact ⟨vs, h1, own_monoN h2 hb, fun p hp => (h3 p hp).mono hb⟩
theorem Tryz.info52 : (Tryz.prog.info? 52).map (fun i => (i.zero, i.size, i.bytes)) = some (some (.agg #[.int .i64 0, .int .i64 0, .int .i64 0, .int .i64 0, .slice none 0 0]), 5, 56) := by kernel_rfl

set_option maxHeartbeats 3200000 in
theorem takeTms_r {w : World} {R lo : Nat} {s : RS} (h : RdS w R lo s) :
    Calls Tryz.prog 116 #[.pointer (some ⟨R, 0, none⟩), .func (.func 117) #[.pointer (some ⟨R, 0, none⟩)] #[]] w fun e w' => ∃ x, e = .returned x ∧ OwnTms w.heap.size w' x (s.list RS.termed).1 ∧ RdS w' R lo (s.list RS.termed).2 ∧ But R w w' := by
  obtain ⟨i0, hi, hz0, hz1, hz2⟩ := info_parts Tryz.info52
  have HN := hide (num_r h)
  have HRl := hide h.rlt
  obtain ⟨n, hn⟩ : ∃ n, s.num.1 = n := ⟨_, rfl⟩
  obtain ⟨s1, hs1⟩ : ∃ s1, s.num.2 = s1 := ⟨_, rfl⟩
  obtain ⟨s2, hs2⟩ : ∃ s2, s.len = s2 := ⟨_, rfl⟩
  obtain ⟨RES, hRES⟩ : ∃ r, s.list RS.termed = r := ⟨_, rfl⟩
  have hm : s1.must (decide (0 ≤ n ∧ n ≤ 4096)) = s2 := by rw [← hn, ← hs1, ← hs2]; rfl
  have hl : RES = RS.iter RS.termed n.toNat s2 := by rw [← hRES, ← hs2, ← hn]; rfl
  have HLO : Hid (s2.er = 0 → 0 ≤ n ∧ n ≤ 4096) := fun e => by rw [← hs2] at e; rw [← hn]; exact len_ok e
  rw [hRES]
  rw [hn, hs1] at HN
  have HRES := hide hl
  have HM := hide hm
  clear h hn hs1 hs2 hRES hl hm
  go_enter Tryz.func116, Tryz.ntmps116
  go_wp2_with fail
  refine (unhide HN).mono ?_
  rintro e w1 ⟨rfl, h1, h2⟩
  obtain ⟨bb, hbb⟩ : ∃ b', decide (0 ≤ n ∧ n ≤ 4096) = b' := ⟨_, rfl⟩
  rw [hbb] at HM
  have HMu := hide (must_r h1 bb)
  rw [unhide HM] at HMu
  have HB1 := hide h2
  have hpass : (if 0 ≤ n then decide (n ≤ 4096) else false) = bb := by
    rw [← hbb]
    by_cases c : 0 ≤ n <;> simp [c]
  have HP := hide hpass
  clear h1 h2 HN hbb hpass HM
  have key : Calls Tryz.prog 89 #[.pointer (some ⟨R, 0, none⟩), .bool (if 0 ≤ n then decide (n ≤ 4096) else false)] w1 fun e w' => e = .returned (.tuple #[]) ∧ RdS w' R lo s2 ∧ But R w1 w' := by rw [unhide HP]; exact unhide HMu
  have HK : Hid (∀ b, (if 0 ≤ n then decide (n ≤ 4096) else false) = b → Calls Tryz.prog 89 #[.pointer (some ⟨R, 0, none⟩), .bool b] w1 fun e w' => e = .returned (.tuple #[]) ∧ RdS w' R lo s2 ∧ But R w1 w') := fun b hb => by rw [← hb]; exact key
  clear key HMu
  have fin : ∀ (wm : World), RdS wm R lo s2 → But R w wm → True := fun _ _ _ => trivial
  clear fin HP
  by_cases c1 : 0 ≤ n
  case neg =>
    go_wp2_with fail
    refine (unhide HK false (by rw [if_neg (by omega)])).mono ?_
    rintro e w2 ⟨rfl, h3, h4⟩
    have HF : Hid (OwnTms w.heap.size w2 (.slice none 0 0) RES.1 ∧ RdS w2 R lo RES.2 ∧ But R w w2) := by
      have e : RES = ([], s2) := by rw [unhide HRES, show n.toNat = 0 by omega]; rfl
      rw [e]
      exact ⟨OwnTms.nil _ _, h3, (unhide HB1).trans h4⟩
    clear h3 h4
    have c2 : ¬ (0 : Int) < n := by omega
    go_wp2
    go_loopw [6, 7] (fun v c wr => v = .slice none 0 0 ∧ c = .int .i64 0 ∧ wr = w2) (fun _ _ _ => 0)
    case atStart => exact ⟨rfl, rfl, rfl⟩
    case round =>
      obtain ⟨rfl, rfl, rfl⟩ := hrel
      go_wp2
      go_ret
      exact ⟨_, rfl, unhide HF⟩
  by_cases c2 : n ≤ 4096
  case neg =>
    have c2b : decide (n ≤ 4096) = false := decide_eq_false c2
    go_wp2_with fail
    refine (unhide HK false (by rw [if_pos (by omega), c2b])).mono ?_
    rintro e w2 ⟨rfl, h3, h4⟩
    have he2 : s2.er ≠ 0 := fun e => by have := (unhide HLO e).2; omega
    have HF : Hid (OwnTms w.heap.size w2 (.slice none 0 0) RES.1 ∧ RdS w2 R lo RES.2 ∧ But R w w2) := by
      have e := iter_stop (take := RS.termed) (k := 0) (s := s2) he2 n.toNat
      rw [Nat.zero_add, ← unhide HRES] at e
      rw [e]
      exact ⟨OwnTms.nil _ _, h3, (unhide HB1).trans h4⟩
    have g1 := h3.ce
    clear h3 h4
    generalize s2.er = er2 at g1 he2
    have he2b : (er2 == 0) = false := by simpa using he2
    go_wp2
    go_loopw [6, 7] (fun v c wr => v = .slice none 0 0 ∧ c = .int .i64 0 ∧ wr = w2) (fun _ _ _ => 0)
    case atStart => exact ⟨rfl, rfl, rfl⟩
    case round =>
      obtain ⟨rfl, rfl, rfl⟩ := hrel
      have c0 : (0 : Int) < n := by omega
      go_wp2
      go_ret
      exact ⟨_, rfl, unhide HF⟩
  have c2b : decide (n ≤ 4096) = true := decide_eq_true c2
  obtain ⟨m, rfl⟩ : ∃ m : Nat, n = m := ⟨n.toNat, by omega⟩
  go_wp2_with fail
  refine (unhide HK true (by rw [if_pos (by omega), c2b])).mono ?_
  rintro e w2 ⟨rfl, h3, h4⟩
  have HR2 := hide h3
  have HB2 := hide ((unhide HB1).trans h4)
  clear h3 h4 HK c1 c2b
  go_wp2
  go_loopw [6, 7] (fun v c wr => ∃ i : Nat, i ≤ m ∧ c = .int .i64 i ∧ OwnTms w.heap.size wr v (RS.iter RS.termed i s2).1 ∧ RdS wr R lo (RS.iter RS.termed i s2).2 ∧ But R w wr) (fun _ c _ => m - (intOf c).toNat)
  case atStart => exact ⟨0, by omega, rfl, OwnTms.nil _ _, unhide HR2, unhide HB2⟩
  case round =>
    obtain ⟨i, him, rfl, ho, hr, hb⟩ := hrel
    obtain ⟨ao, ca, rfl⟩ := ho.shape
    have g1 := hr.ce
    have hil := iter_len RS.termed s2 i
    by_cases hlt : i < m
    · by_cases he : (RS.iter RS.termed i s2).2.er = 0
      · rw [he] at g1
        have hst := iter_step he
        have HST := hide hst
        have HO := hide ho
        have HRr := hide hr
        have HB := hide hb
        have HT := hide (termed_r hr)
        clear ho hr hb hst he
        generalize RS.iter RS.termed i s2 = it at *
        obtain ⟨L, sI⟩ := it
        simp only at HST HO HRr HT hil g1 ⊢
        go_wp2_with fail
        refine (unhide HT).mono ?_
        rintro e w3 ⟨tv, rfl, hot, q1, q2⟩
        have hsz := (unhide HB).size
        have hrl := unhide HRl
        obtain ⟨vs, hvs, hrow, hall⟩ := unhide HO
        have ho3 := own_keepR hrow q2 hrl
        obtain ⟨k1, c1', rfl⟩ := hot.shape
        obtain ⟨d, hd⟩ : ∃ d, sI.termed.1 = d := ⟨_, rfl⟩
        rw [hd] at hot
        rw [hd]
        have hot := hot.mono hsz
        have hal : Below w3.heap.size w3 (w3.alloc (.cells #[.int .i64 d.term, .int .i64 d.ent.kind, .int .i64 d.ent.frm, .int .i64 d.ent.num, .slice k1 d.ent.txns.length c1'] 52)) := (Below.refl _ _).alloc (Nat.le_refl _) _
        have HO3 := hide (own_below ho3 hal)
        have HR3 := hide (q1.below hal)
        have HB3 := hide (((unhide HB).trans q2).trans (But.of hal))
        have HALL : Hid (∀ p ∈ vs ++ [(d, .slice k1 d.ent.txns.length c1')], OwnTs w.heap.size (w3.alloc (.cells #[.int .i64 d.term, .int .i64 d.ent.kind, .int .i64 d.ent.frm, .int .i64 d.ent.num, .slice k1 d.ent.txns.length c1'] 52)) p.2 p.1.ent.txns) := fun p hp => by
          rcases List.mem_append.1 hp with hp | hp
          · exact ((hall p hp).but q2 hrl).below hal
          · rw [List.mem_singleton] at hp
            subst hp
            exact hot.below hal
        have HVS := hide hvs
        have HD := hide hd
        have HSZ3 : Hid (w.heap.size ≤ (w3.alloc (.cells #[.int .i64 d.term, .int .i64 d.ent.kind, .int .i64 d.ent.frm, .int .i64 d.ent.num, .slice k1 d.ent.txns.length c1'] 52)).heap.size) := (unhide HB3).size
        clear q1 q2 ho3 hal HT hsz hall hrow hot hvs hd
        obtain ⟨d1, ⟨d2, d3, d4, d5⟩⟩ := d
        simp only at HO3 HR3 HB3 HALL HVS HD HSZ3 ⊢
        go_wp2_with (at_builtin; refine wpList_append_own _ rfl _ _ 25 rfl w.heap.size 52 i0 (.agg #[.int .i64 0, .int .i64 0, .int .i64 0, .int .i64 0, .slice none 0 0]) 5 56 Tryz.underlying25 hi hz0 hz1 hz2 rfl (by decide) _ _ _ rfl (unhide HO3) ⟨w3.heap.size, 0, none⟩ 1 1 [.int .i64 d1, .int .i64 d2, .int .i64 d3, .int .i64 d4, .slice k1 d5.length c1'] rfl rfl ?d0 ?d1 ?d2 ?d3 ?d4 ?_)
        case d1 => exact ⟨rfl, rfl, rfl, rfl, rfl⟩
        case d2 => unfold maxLen; omega
        case d3 => omega
        case d4 => have := unhide HSZ3; simpa using this
        intro v' w4 ho4 hg4 _
        obtain ⟨ao', ca', rfl⟩ := own_shapeN ho4
        have HF : Hid (OwnTms w.heap.size w4 (.slice ao' (L.length + 1) ca') (RS.iter RS.termed (i + 1) s2).1 ∧ RdS w4 R lo (RS.iter RS.termed (i + 1) s2).2 ∧ But R w w4) := by
          rw [unhide HST]
          refine ⟨⟨_, ?_, ?_, fun p hp => (unhide HALL p hp).grownM (unhide HO3) hg4⟩, (unhide HR3).grown (unhide HO3) hrl hg4, (unhide HB3).grown (unhide HO3) (Nat.le_refl _) hg4⟩
          · rw [List.map_append, unhide HVS]
            simp only [List.map_cons, List.map_nil, unhide HD]
          · rw [List.flatMap_append, List.length_append]
            simp only [List.flatMap_cons, List.flatMap_nil, List.append_nil, List.length_cons, List.length_nil]
            exact ho4
        clear ho4 hg4
        go_wp2
        go_roundw
        case rel => exact ⟨i + 1, by omega, by go_num, (unhide HF).1, (unhide HF).2.1, (unhide HF).2.2⟩
        case measure => simp [intOf]; omega
      · have hE : RES = RS.iter RS.termed i s2 := by
          have e := iter_stop (take := RS.termed) (k := i) (s := s2) he (m - i)
          rw [show i + (m - i) = m by omega] at e
          rw [unhide HRES, Int.toNat_natCast, e]
        have HF : Hid (OwnTms w.heap.size wr (.slice ao (RS.iter RS.termed i s2).1.length ca) RES.1 ∧ RdS wr R lo RES.2 ∧ But R w wr) := by rw [hE]; exact ⟨ho, hr, hb⟩
        clear ho hr hb hE
        generalize (RS.iter RS.termed i s2).2.er = er2 at g1 he
        have heb : (er2 == 0) = false := by simpa using he
        generalize (RS.iter RS.termed i s2).1.length = L0 at *
        go_wp2
        go_ret
        exact ⟨_, rfl, unhide HF⟩
    · obtain rfl : i = m := by omega
      have hE : RES = RS.iter RS.termed i s2 := by rw [unhide HRES, Int.toNat_natCast]
      have HF : Hid (OwnTms w.heap.size wr (.slice ao (RS.iter RS.termed i s2).1.length ca) RES.1 ∧ RdS wr R lo RES.2 ∧ But R w wr) := by rw [hE]; exact ⟨ho, hr, hb⟩
      clear ho hr hb hE g1
      generalize (RS.iter RS.termed i s2).1.length = L0 at *
      go_wp2
      go_ret
      exact ⟨_, rfl, unhide HF⟩
end Go.Proofs.YtggllgimlfchhabGreat
