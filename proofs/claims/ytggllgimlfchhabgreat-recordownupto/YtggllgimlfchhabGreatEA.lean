/- Record: flags, termed entries and parts, read. -/
import Derived.Test.YtggllgimlfchhabGreatJU
import Derived.Test.YtggllgimlfchhabGreatCD
namespace Go.Proofs.YtggllgimlfchhabGreat
open Go.RowKit
set_option maxRecDepth 100000

theorem own_same {w w' : World} {base e size : Nat} {v : Value} {n : Nat} {xs : List Value} (h : w.ownsRow base e size v n xs) (hk : ∀ k, base ≤ k → k < w.heap.size → w'.heap[k]? = w.heap[k]?) : w'.ownsRow base e size v n xs := by
  refine ⟨h.1, ?_⟩
  rcases h.2 with hn | ⟨g, cap, cur, hv, hg, hh, r⟩
  · exact .inl hn
  · exact .inr ⟨g, cap, cur, hv, hg, (hk g hg (Array.getElem?_eq_some_iff.1 hh).1).trans hh, r⟩
theorem OwnT.same {base : Nat} {w w' : World} {cs : Array Value} {t : TxnD} (h : OwnT base w cs t) (hk : ∀ k, base ≤ k → k < w.heap.size → w'.heap[k]? = w.heap[k]?) : OwnT base w' cs t := by
  obtain ⟨cv, av, rv, wv, h0, h1, h2, h3, h4⟩ := h
  exact ⟨cv, av, rv, wv, h0, own_same h1 hk, own_same h2 hk, own_same h3 hk, own_same h4 hk⟩
theorem OwnTs.same {base : Nat} {w w' : World} {x : Value} {l : List TxnD} (h : OwnTs base w x l) (hk : ∀ k, base ≤ k → k < w.heap.size → w'.heap[k]? = w.heap[k]?) : OwnTs base w' x l := by
  obtain ⟨vs, h1, h2, h3⟩ := h
  exact ⟨vs, h1, own_same h2 hk, fun p hp => (h3 p hp).same hk⟩
theorem But.newRow {R b : Nat} {w w' : World} (h : But R w w') (hb : w.heap.size ≤ b) (cs : Array Value) : But R w (w'.setRow b cs) :=
  ⟨h.os, h.tape, h.output, by rw [setRow_size]; exact h.size, fun k hk hR => (setRow_other _ _ _ _ (by omega)).trans (h.block k hk hR)⟩
theorem Rd.otherRow {w : World} {R lo b : Nat} {zs : List Int} {er : Int} {un : Bool} (h : Rd w R lo zs er un) (hb : R < b) (cs : Array Value) : Rd (w.setRow b cs) R lo zs er un :=
  h.keep fun k hk => setRow_other _ _ _ _ (by have := h.lt; omega)
theorem row_same {w : World} {base b : Nat} (cs : Array Value) (hb : b < base) : ∀ k, base ≤ k → k < w.heap.size → (w.setRow b cs).heap[k]? = w.heap[k]? := fun k hk _ => setRow_other _ _ _ _ (by omega)

def RS.flag (s : RS) : Bool × RS := (decide (s.num.1 = 1), s.num.2.must (decide (s.num.1 = 0 ∨ s.num.1 = 1)))
set_option maxHeartbeats 400000 in
theorem flag_r {w : World} {R lo : Nat} {s : RS} (h : RdS w R lo s) :
    Calls Tryz.prog 115 #[.pointer (some ⟨R, 0, none⟩)] w fun e w' => e = .returned (.bool s.flag.1) ∧ RdS w' R lo s.flag.2 ∧ But R w w' := by
  have HT := hide (num_r h)
  unfold RS.flag
  clear h
  generalize s.num = p at HT ⊢
  obtain ⟨n, s1⟩ := p
  simp only at HT ⊢
  obtain ⟨bb, hbb⟩ : ∃ b', decide (n = 0 ∨ n = 1) = b' := ⟨_, rfl⟩
  rw [hbb]
  go_enter Tryz.func115, Tryz.ntmps115
  go_wp2_with fail
  refine (unhide HT).mono ?_
  rintro e w1 ⟨rfl, h1, h2⟩
  have HM := hide (must_r h1 bb)
  have HB := hide h2
  clear h1 h2
  by_cases c1 : n = 0
  · subst c1
    obtain rfl : bb = true := hbb.symm.trans (by decide)
    go_wp2_with fail
    refine (unhide HM).mono ?_
    rintro e w2 ⟨rfl, h3, h4⟩
    have HR := hide (And.intro h3 ((unhide HB).trans h4))
    clear h3 h4
    go_wp2
    go_ret
    exact ⟨rfl, unhide HR⟩
  · by_cases c2 : n = 1
    · subst c2
      obtain rfl : bb = true := hbb.symm.trans (by decide)
      go_wp2_with fail
      refine (unhide HM).mono ?_
      rintro e w2 ⟨rfl, h3, h4⟩
      have HR := hide (And.intro h3 ((unhide HB).trans h4))
      clear h3 h4
      go_wp2
      go_ret
      exact ⟨rfl, unhide HR⟩
    · have c1b : (n == 0) = false := by simpa using c1
      have c2b : (n == 1) = false := by simpa using c2
      have c2d : decide (n = 1) = false := decide_eq_false c2
      obtain rfl : bb = false := hbb.symm.trans (decide_eq_false (fun h => h.elim c1 c2))
      have HC2 := hide c2d
      go_wp2_with fail
      refine (unhide HM).mono ?_
      rintro e w2 ⟨rfl, h3, h4⟩
      have HR := hide (And.intro h3 ((unhide HB).trans h4))
      clear h3 h4
      go_wp2
      go_ret
      exact ⟨by simp [c2], unhide HR⟩

def RS.termed (s : RS) : TmD × RS := (⟨s.num.1, s.num.2.entry.1⟩, s.num.2.entry.2)
set_option maxHeartbeats 800000 in
theorem termed_r {w : World} {R lo : Nat} {s : RS} (h : RdS w R lo s) :
    Calls Tryz.prog 117 #[.pointer (some ⟨R, 0, none⟩)] w fun e w' => ∃ tv, e = .returned (.agg #[.int .i64 s.termed.1.term, .int .i64 s.termed.1.ent.kind, .int .i64 s.termed.1.ent.frm, .int .i64 s.termed.1.ent.num, tv]) ∧ OwnTs w.heap.size w' tv s.termed.1.ent.txns ∧ RdS w' R lo s.termed.2 ∧ But R w w' := by
  obtain ⟨a, s1, e1⟩ : ∃ n s', s.num = (n, s') := ⟨_, _, rfl⟩
  obtain ⟨k, f, n, l, s2, e2⟩ : ∃ k f n l s', s1.entry = (⟨k, f, n, l⟩, s') := ⟨_, _, _, _, _, rfl⟩
  have et : s.termed = (⟨a, ⟨k, f, n, l⟩⟩, s2) := by simp only [RS.termed, e1, e2]
  rw [et]
  simp only
  have HE2 := hide e2
  have hr := h.rlt
  have hal : Below w.heap.size w (w.alloc (.cells #[.int .i64 0, .int .i64 0, .int .i64 0, .int .i64 0, .slice none 0 0] 52)) := (Below.refl _ _).alloc (Nat.le_refl _) _
  have HT := hide (num_r (h.below hal))
  have HB0 : Hid (But R w (w.alloc (.cells #[.int .i64 0, .int .i64 0, .int .i64 0, .int .i64 0, .slice none 0 0] 52))) := But.of hal
  have HX : Hid ((w.alloc (.cells #[.int .i64 0, .int .i64 0, .int .i64 0, .int .i64 0, .slice none 0 0] 52)).heap[w.heap.size]? = some (.cells #[.int .i64 0, .int .i64 0, .int .i64 0, .int .i64 0, .slice none 0 0] 52)) := heap_alloc_new w _
  have HSZ : Hid (w.heap.size + 1 ≤ (w.alloc (.cells #[.int .i64 0, .int .i64 0, .int .i64 0, .int .i64 0, .slice none 0 0] 52)).heap.size) := by show _ ≤ _; simp
  rw [e1] at HT
  simp only at HT
  clear h hal e1 e2 et
  go_enter Tryz.func117, Tryz.ntmps117
  go_wp2_with fail
  refine (unhide HT).mono ?_
  rintro e w1 ⟨rfl, h1, h2⟩
  have HT2 := hide (entry_r h1)
  rw [unhide HE2] at HT2
  simp only at HT2
  have HB1 := hide ((unhide HB0).trans h2)
  have HX1 := hide (h2.same (unhide HX) (by omega))
  have HSZ1 : Hid (w.heap.size + 1 ≤ w1.heap.size) := Nat.le_trans (unhide HSZ) h2.size
  clear h1 h2 HT
  go_wp2_with fail
  refine (unhide HT2).mono ?_
  rintro e w2 ⟨cs, rfl, ⟨tv, rfl, ot⟩, h1, h2⟩
  obtain ⟨ta, tc, rfl⟩ := ot.shape
  have hx2 := h2.same (unhide HX1) (by omega)
  have HX2 := hide hx2
  have HF : Hid (∀ cs, OwnTs w.heap.size (w2.setRow w.heap.size cs) (.slice ta l.length tc) l ∧ RdS (w2.setRow w.heap.size cs) R lo s2 ∧ But R w (w2.setRow w.heap.size cs)) := fun cs =>
    ⟨((ot.mono (unhide HSZ1)).same (row_same cs (by omega))).mono (by omega), h1.otherRow hr cs, ((unhide HB1).trans h2).newRow (Nat.le_refl _) cs⟩
  clear ot h1 h2 hx2 HT2
  obtain ⟨L, hL⟩ : ∃ n, l.length = n := ⟨_, rfl⟩
  rw [hL] at HF
  rw [hL]
  clear hL
  go_wp2_with (refine wpList_store_row rfl 52 _ _ rfl w.heap.size _ _ rfl rfl 52 (unhide HX2) (by kernel_rfl) rfl (by first | kernel_rfl | simp [Value.oneCell']) ?_)
  refine bodyPost_ret (results_cell_row rfl _ _ w.heap.size 52 #[.int .i64 a, .int .i64 k, .int .i64 f, .int .i64 n, .slice ta L tc] (0, 0) _ rfl (setRow_heap _ _ _ _ _ _ (unhide HX2)) Tryz.underlying52 rfl (by kernel_rfl)) rfl ?_
  exact ⟨_, rfl, unhide HF _⟩

def RS.part (s : RS) : PtD × RS := (⟨s.num.1, s.num.2.num.1, s.num.2.num.2.num.1, s.num.2.num.2.num.2.blob.1⟩, s.num.2.num.2.num.2.blob.2)
set_option maxHeartbeats 800000 in
theorem part_r {w : World} {R lo : Nat} {s : RS} (h : RdS w R lo s) :
    Calls Tryz.prog 118 #[.pointer (some ⟨R, 0, none⟩)] w fun e w' => ∃ dv, e = .returned (.agg #[.int .i64 s.part.1.slot, .int .i64 s.part.1.idx, .int .i64 s.part.1.many, dv]) ∧ w'.ownsRow w.heap.size 5 1 dv s.part.1.data.length (ints .u8 s.part.1.data) ∧ RdS w' R lo s.part.2 ∧ But R w w' := by
  obtain ⟨a, s1, e1⟩ : ∃ n s', s.num = (n, s') := ⟨_, _, rfl⟩
  obtain ⟨b, s2, e2⟩ : ∃ n s', s1.num = (n, s') := ⟨_, _, rfl⟩
  obtain ⟨c, s3, e3⟩ : ∃ n s', s2.num = (n, s') := ⟨_, _, rfl⟩
  obtain ⟨l, s4, e4⟩ : ∃ n s', s3.blob = (n, s') := ⟨_, _, rfl⟩
  have et : s.part = (⟨a, b, c, l⟩, s4) := by simp only [RS.part, e1, e2, e3, e4]
  rw [et]
  simp only
  have HE2 := hide e2
  have HE3 := hide e3
  have HE4 := hide e4
  have hr := h.rlt
  have hal : Below w.heap.size w (w.alloc (.cells #[.int .i64 0, .int .i64 0, .int .i64 0, .slice none 0 0] 28)) := (Below.refl _ _).alloc (Nat.le_refl _) _
  have HT := hide (num_r (h.below hal))
  have HB0 : Hid (But R w (w.alloc (.cells #[.int .i64 0, .int .i64 0, .int .i64 0, .slice none 0 0] 28))) := But.of hal
  have HX : Hid ((w.alloc (.cells #[.int .i64 0, .int .i64 0, .int .i64 0, .slice none 0 0] 28)).heap[w.heap.size]? = some (.cells #[.int .i64 0, .int .i64 0, .int .i64 0, .slice none 0 0] 28)) := heap_alloc_new w _
  have HSZ : Hid (w.heap.size + 1 ≤ (w.alloc (.cells #[.int .i64 0, .int .i64 0, .int .i64 0, .slice none 0 0] 28)).heap.size) := by show _ ≤ _; simp
  rw [e1] at HT
  simp only at HT
  clear h hal e1 e2 e3 e4 et
  go_enter Tryz.func118, Tryz.ntmps118
  go_wp2_with fail
  refine (unhide HT).mono ?_
  rintro e w1 ⟨rfl, h1, h2⟩
  have HT1 := hide (fit_r h1)
  have HB1 := hide ((unhide HB0).trans h2)
  have HX1 := hide (h2.same (unhide HX) (by omega))
  have HSZ1 : Hid (w.heap.size + 1 ≤ w1.heap.size) := Nat.le_trans (unhide HSZ) h2.size
  clear h1 h2 HT
  rw [unhide HE2] at HT1
  simp only at HT1
  go_wp2_with fail
  refine (unhide HT1).mono ?_
  rintro e w2 ⟨rfl, h1, h2⟩
  have HT2 := hide (fit_r h1)
  have HB2 := hide ((unhide HB1).trans h2)
  have HX2 := hide (h2.same (unhide HX1) (by omega))
  have HSZ2 : Hid (w.heap.size + 1 ≤ w2.heap.size) := Nat.le_trans (unhide HSZ1) h2.size
  clear h1 h2 HT1
  rw [unhide HE3] at HT2
  simp only at HT2
  go_wp2_with fail
  refine (unhide HT2).mono ?_
  rintro e w3 ⟨rfl, h1, h2⟩
  have HT3 := hide (blob_r h1)
  have HB3 := hide ((unhide HB2).trans h2)
  have HX3 := hide (h2.same (unhide HX2) (by omega))
  have HSZ3 : Hid (w.heap.size + 1 ≤ w3.heap.size) := Nat.le_trans (unhide HSZ2) h2.size
  clear h1 h2 HT2
  rw [unhide HE4] at HT3
  simp only at HT3
  go_wp2_with fail
  refine (unhide HT3).mono ?_
  rintro e w4 ⟨dv, rfl, ot, h1, h2⟩
  obtain ⟨ta, tc, rfl⟩ := own_shape ot
  have hx2 := h2.same (unhide HX3) (by omega)
  have HX4 := hide hx2
  have HF : Hid (∀ cs, (w4.setRow w.heap.size cs).ownsRow w.heap.size 5 1 (.slice ta l.length tc) l.length (ints .u8 l) ∧ RdS (w4.setRow w.heap.size cs) R lo s4 ∧ But R w (w4.setRow w.heap.size cs)) := fun cs =>
    ⟨own_mono (own_same (own_mono ot (unhide HSZ3)) (row_same cs (by omega))) (by omega), h1.otherRow hr cs, ((unhide HB3).trans h2).newRow (Nat.le_refl _) cs⟩
  clear ot h1 h2 hx2 HT3
  obtain ⟨L, hL⟩ : ∃ n, l.length = n := ⟨_, rfl⟩
  have HLL := hide hL
  rw [hL] at HF
  rw [hL]
  clear hL
  go_wp2_with (refine wpList_store_row rfl 28 _ _ rfl w.heap.size _ _ rfl rfl 28 (unhide HX4) (by kernel_rfl) rfl (by first | kernel_rfl | simp [Value.oneCell']) ?_)
  refine bodyPost_ret (results_cell_row rfl _ _ w.heap.size 28 #[.int .i64 a, .int .i64 b, .int .i64 c, .slice ta L tc] (0, 0) _ rfl (setRow_heap _ _ _ _ _ _ (unhide HX4)) Tryz.underlying28 rfl (by kernel_rfl)) rfl ?_
  rw [unhide HLL]
  exact ⟨_, rfl, unhide HF _⟩
end Go.Proofs.YtggllgimlfchhabGreat
