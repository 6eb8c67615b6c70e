/- Several texts as one. -/
import Derived.Test.YtggllgimlfchhabGreatKI
import Derived.Test.YtggllgimlfchhabGreatKE

/- Record: a message's fields, read. -/
namespace Go.Proofs.YtggllgimlfchhabGreat
open Go.RowKit
set_option maxRecDepth 100000

/-- Only the blocks R and M are written. -/
structure But2 (R M : Nat) (w w' : World) : Prop where
  os : w'.os = w.os
  tape : w'.tape = w.tape
  output : w'.output = w.output
  size : w.heap.size ≤ w'.heap.size
  block : ∀ k, k < w.heap.size → k ≠ R → k ≠ M → w'.heap[k]? = w.heap[k]?
theorem But2.refl (R M : Nat) (w : World) : But2 R M w w := ⟨rfl, rfl, rfl, Nat.le_refl _, fun _ _ _ _ => rfl⟩
theorem But2.on {R M : Nat} {a b c : World} (h : But2 R M a b) (k : But R b c) : But2 R M a c :=
  ⟨k.os.trans h.os, k.tape.trans h.tape, k.output.trans h.output, Nat.le_trans h.size k.size, fun i hi hR hM => (k.block i (Nat.lt_of_lt_of_le hi h.size) hR).trans (h.block i hi hR hM)⟩
theorem But2.set {R M : Nat} {a w : World} (h : But2 R M a w) (o : Nat) (u : Value) : But2 R M a (w.setCell ⟨M, o, none⟩ u) :=
  ⟨h.os, h.tape, h.output, by have := h.size; simp only [World.setCell, Array.size_modify]; exact this, fun k hk hR hM => (Below.heap_setCell _ _ _ _ (fun e => hM e)).trans (h.block k hk hR hM)⟩
theorem But2.but {R M : Nat} {a w w' : World} (h : But R a w) (k : But2 R M w w') (hM : a.heap.size ≤ M) : But R a w' :=
  ⟨k.os.trans h.os, k.tape.trans h.tape, k.output.trans h.output, Nat.le_trans h.size k.size, fun i hi hR => (k.block i (Nat.lt_of_lt_of_le hi h.size) hR (by omega)).trans (h.block i hi hR)⟩
/-- A message in rows of one's own. -/
def OwnM (base : Nat) (w : World) (cs : Array Value) (m : MsgD) : Prop :=
  ∃ lv tv dv, cs = #[.int .i64 m.kind, .int .i64 m.frm, .int .i64 m.to, .int .i64 m.term, .int .i64 m.slot, .int .i64 m.last, .int .i64 m.commit, .bool m.yes, lv, .int .i64 m.ent.kind, .int .i64 m.ent.frm, .int .i64 m.ent.num, tv, .int .i64 m.part.slot, .int .i64 m.part.idx, .int .i64 m.part.many, dv] ∧ OwnTms base w lv m.list ∧ OwnTs base w tv m.ent.txns ∧ w.ownsRow base 5 1 dv m.part.data.length (ints .u8 m.part.data)
theorem OwnM.same {base : Nat} {w w' : World} {cs : Array Value} {m : MsgD} (h : OwnM base w cs m) (hk : ∀ k, base ≤ k → k < w.heap.size → w'.heap[k]? = w.heap[k]?) : OwnM base w' cs m := by
  obtain ⟨lv, tv, dv, h0, h1, h2, h3⟩ := h
  exact ⟨lv, tv, dv, h0, h1.same hk, h2.same hk, own_same h3 hk⟩
theorem OwnM.mono {base base' : Nat} {w : World} {cs : Array Value} {m : MsgD} (h : OwnM base w cs m) (hb : base' ≤ base) : OwnM base' w cs m := by
  obtain ⟨lv, tv, dv, h0, h1, h2, h3⟩ := h
  exact ⟨lv, tv, dv, h0, h1.mono hb, h2.mono hb, own_mono h3 hb⟩
theorem cell_same {w : World} {base b o : Nat} {u : Value} (hb : b < base) : ∀ k, base ≤ k → k < w.heap.size → (w.setCell ⟨b, o, none⟩ u).heap[k]? = w.heap[k]? := fun k hk _ => Below.heap_setCell _ _ _ _ (fun e => by simp only at e; omega)
theorem but_same {w w' : World} {base R : Nat} (h : But R w w') (hb : R < base) : ∀ k, base ≤ k → k < w.heap.size → w'.heap[k]? = w.heap[k]? := fun k hk hl => h.block k hl (by omega)

/-- A field, read. -/
def RS.field (f : Int) (m : MsgD) (s : RS) : MsgD × RS :=
  if f = 0 then ({ m with term := s.num.1 }, s.num.2) else if f = 1 then ({ m with slot := s.num.1 }, s.num.2) else if f = 2 then ({ m with last := s.num.1 }, s.num.2) else if f = 3 then ({ m with commit := s.num.1 }, s.num.2) else if f = 4 then ({ m with yes := s.flag.1 }, s.flag.2) else if f = 5 then ({ m with list := (s.list RS.termed).1 }, (s.list RS.termed).2) else if f = 6 then ({ m with ent := s.entry.1 }, s.entry.2) else ({ m with part := s.part.1 }, s.part.2)
def RS.fields (F : List Int) (m : MsgD) (s : RS) : MsgD × RS := F.foldl (fun p f => RS.field f p.1 p.2) (m, s)
theorem take_fields (F : List Int) (m : MsgD) (s : RS) (t : Nat) (ht : t < F.length) : RS.fields (F.take (t + 1)) m s = RS.field F[t] (RS.fields (F.take t) m s).1 (RS.fields (F.take t) m s).2 := by
  unfold RS.fields
  rw [List.take_succ_eq_append_getElem ht, List.foldl_append]
  rfl

set_option maxHeartbeats 400000 in
theorem fields_none {w : World} {R M : Nat} : Calls Tryz.prog 76 #[.pointer (some ⟨R, 0, none⟩), .pointer (some ⟨M, 0, none⟩), .slice none 0 0] w fun e w' => e = .returned (.tuple #[]) ∧ w = w' := by
  go_enter Tryz.func76, Tryz.ntmps76
  go_wp2
  go_loopw [10] (fun c wr => c = .int .i64 0 ∧ wr = w) (fun _ _ => 0)
  case atStart => exact ⟨rfl, rfl⟩
  case round =>
    obtain ⟨rfl, rfl⟩ := hrel
    go_wp2
    go_end0
    exact ⟨rfl, rfl⟩

set_option maxHeartbeats 3200000 in
theorem fields_r {w : World} {R M lo g : Nat} {s : RS} {cs : Array Value} {m : MsgD} (F : List Int) (h : RdS w R lo s) (hM : w.heap[M]? = some (.cells cs 30)) (hRM : R < M) (ho : OwnM (M + 1) w cs m)
    (hg : w.heap[g]? = some (.cells (F.map (Value.int .i64)).toArray 109)) (hgR : g ≠ R) (hgM : g ≠ M) (hF : ∀ f ∈ F, 0 ≤ f ∧ f ≤ 7) (hlen : F.length ≤ 5) :
    Calls Tryz.prog 76 #[.pointer (some ⟨R, 0, none⟩), .pointer (some ⟨M, 0, none⟩), .slice (some ⟨g, 0, none⟩) F.length F.length] w fun e w' => e = .returned (.tuple #[]) ∧ ∃ cs, w'.heap[M]? = some (.cells cs 30) ∧ OwnM (M + 1) w' cs (RS.fields (F) m s).1 ∧ RdS w' R lo (RS.fields (F) m s).2 ∧ But2 R M w w' := by
  have hMs : M < w.heap.size := (Array.getElem?_eq_some_iff.1 hM).1
  have HF := hide hF
  obtain ⟨n, hnF⟩ : ∃ n, F.length = n := ⟨_, rfl⟩
  rw [hnF] at hlen
  rw [hnF]
  have HNF := hide hnF
  have HG : Hid (∀ x, But2 R M w x → x.heap[g]? = some (.cells (F.map (Value.int .i64)).toArray 109)) := fun x hx => (hx.block g (Array.getElem?_eq_some_iff.1 hg).1 hgR hgM).trans hg
  have HS : Hid (∃ cs, w.heap[M]? = some (.cells cs 30) ∧ OwnM (M + 1) w cs (RS.fields (F.take 0) m s).1 ∧ RdS w R lo (RS.fields (F.take 0) m s).2 ∧ But2 R M w w) := ⟨cs, hM, ho, h, But2.refl _ _ _⟩
  clear h hM ho hg hF hnF
  go_enter Tryz.func76, Tryz.ntmps76
  go_wp2_with fail
  go_loopw [10] (fun c wr => ∃ t : Nat, t ≤ n ∧ c = .int .i64 t ∧ ∃ cs, wr.heap[M]? = some (.cells cs 30) ∧ OwnM (M + 1) wr cs (RS.fields (F.take t) m s).1 ∧ RdS wr R lo (RS.fields (F.take t) m s).2 ∧ But2 R M w wr) (fun c _ => n - (intOf c).toNat)
  case atStart => exact ⟨0, by omega, rfl, unhide HS⟩
  case round =>
    obtain ⟨t, ht, rfl, cw, hM, ho, hr, hb⟩ := hrel
    by_cases hlt : t < n
    · have hltF : t < F.length := by rw [unhide HNF]; exact hlt
      have x2 := unhide HG wr hb
      obtain ⟨f, hf⟩ : ∃ f, F[t] = f := ⟨_, rfl⟩
      have hcf' : wr.cell? ⟨g, t, none⟩ = some (.int .i64 f) := by
        rw [cell_of_row _ _ _ _ _ _ x2]
        simp [hltF, hf]
      have hcf : wr.cell? ⟨g, 0 + t, none⟩ = some (.int .i64 f) := by rw [Nat.zero_add]; exact hcf'
      have hff := unhide HF f (by rw [← hf]; exact List.getElem_mem hltF)
      have htk := take_fields F m s t hltF
      rw [hf] at htk
      have hMw : M + 1 ≤ wr.heap.size := Nat.succ_le_of_lt (Array.getElem?_eq_some_iff.1 hM).1
      generalize RS.fields (F.take t) m s = P at ho hr htk
      obtain ⟨mc, sc⟩ := P
      simp only at ho hr htk
      obtain ⟨lv, tv, dv, rfl, o1, o2, o3⟩ := ho
      obtain ⟨la, lc, rfl⟩ := o1.shape
      obtain ⟨ta, tc, rfl⟩ := o2.shape
      obtain ⟨da, dc, rfl⟩ := own_shape o3
      obtain ⟨aK, aF, aO, aT, aS, aL, aC, aY, LL, ⟨ek, ef, en, LT⟩, ⟨ps, pi, pm, LD⟩⟩ := mc
      simp only at hM o1 o2 o3 htk
      obtain ⟨ll, hll⟩ : ∃ n, LL.length = n := ⟨_, rfl⟩
      obtain ⟨tl, htl⟩ : ∃ n, LT.length = n := ⟨_, rfl⟩
      obtain ⟨dl, hdl⟩ : ∃ n, LD.length = n := ⟨_, rfl⟩
      rw [hll] at hM o1
      rw [htl] at hM o2
      rw [hdl] at hM o3
      have HM := hide hM
      have HB := hide hb
      have HO : Hid (∀ y, But R wr y → OwnTms (M + 1) y (.slice la ll lc) LL ∧ OwnTs (M + 1) y (.slice ta tl tc) LT ∧ y.ownsRow (M + 1) 5 1 (.slice da dl dc) dl (ints .u8 LD)) := fun y hy => ⟨o1.same (but_same hy (by omega)), o2.same (but_same hy (by omega)), own_same o3 (but_same hy (by omega))⟩
      have HTK := hide htk
      have HLL := hide hll
      have HTL := hide htl
      have HDL := hide hdl
      have HR := hide hr
      have HMW := hide hMw
      clear hM hb o1 o2 o3 htk hll htl hdl hr hMw x2 hf
      by_cases h0 : f = 0
      case pos =>
        subst h0
        obtain ⟨v, s2, e2⟩ : ∃ n s', sc.num = (n, s') := ⟨_, _, rfl⟩
        have htk : RS.fields (F.take (t + 1)) m s = (⟨aK, aF, aO, v, aS, aL, aC, aY, LL, ⟨ek, ef, en, LT⟩, ⟨ps, pi, pm, LD⟩⟩, s2) := (unhide HTK).trans (by simp [RS.field, e2])
        have HC := hide (num_r (unhide HR))
        rw [e2] at HC
        simp only at HC
        have HTK2 := hide htk
        clear htk e2 hff HTK
        go_wp2_with fail
        refine (unhide HC).mono ?_
        rintro e y1 ⟨rfl, p, q⟩
        have hy := q.same (unhide HM) (by omega)
        have k3 : y1.cell? ⟨M, 3, none⟩ = some (.int .i64 aT) := cell_of_heap hy
        have fz : ∀ o, y1.frozen? ⟨M, o, none⟩ = false := fun o => frozen_of_heap hy
        have HRR : Hid (∃ cs, (y1.setCell ⟨M, 3, none⟩ (.int .i64 v)).heap[M]? = some (.cells cs 30) ∧ OwnM (M + 1) (y1.setCell ⟨M, 3, none⟩ (.int .i64 v)) cs (RS.fields (F.take (t + 1)) m s).1 ∧ RdS (y1.setCell ⟨M, 3, none⟩ (.int .i64 v)) R lo (RS.fields (F.take (t + 1)) m s).2 ∧ But2 R M w (y1.setCell ⟨M, 3, none⟩ (.int .i64 v))) := by
          rw [unhide HTK2]
          refine ⟨#[.int .i64 aK, .int .i64 aF, .int .i64 aO, .int .i64 v, .int .i64 aS, .int .i64 aL, .int .i64 aC, .bool aY, .slice la ll lc, .int .i64 ek, .int .i64 ef, .int .i64 en, .slice ta tl tc, .int .i64 ps, .int .i64 pi, .int .i64 pm, .slice da dl dc], (setCell_heap hy), ⟨_, _, _, rfl, ?_⟩, (p.other hRM _ _), (((unhide HB).on q).set _ _)⟩
          simp only
          rw [unhide HDL]
          exact ⟨((unhide HO y1 q).1.same (cell_same (Nat.lt_succ_self M))), ((unhide HO y1 q).2.1.same (cell_same (Nat.lt_succ_self M))), (own_same (unhide HO y1 q).2.2 (cell_same (Nat.lt_succ_self M)))⟩
        clear p q hy HC
        go_wp2
        go_roundw
        case rel => exact ⟨t + 1, by omega, by go_num, unhide HRR⟩
        case measure => simp [intOf]; omega
      by_cases h1 : f = 1
      case pos =>
        subst h1
        obtain ⟨v, s2, e2⟩ : ∃ n s', sc.num = (n, s') := ⟨_, _, rfl⟩
        have htk : RS.fields (F.take (t + 1)) m s = (⟨aK, aF, aO, aT, v, aL, aC, aY, LL, ⟨ek, ef, en, LT⟩, ⟨ps, pi, pm, LD⟩⟩, s2) := (unhide HTK).trans (by simp [RS.field, e2])
        have HC := hide (num_r (unhide HR))
        rw [e2] at HC
        simp only at HC
        have HTK2 := hide htk
        clear htk e2 hff HTK
        go_wp2_with fail
        refine (unhide HC).mono ?_
        rintro e y1 ⟨rfl, p, q⟩
        have hy := q.same (unhide HM) (by omega)
        have k4 : y1.cell? ⟨M, 4, none⟩ = some (.int .i64 aS) := cell_of_heap hy
        have fz : ∀ o, y1.frozen? ⟨M, o, none⟩ = false := fun o => frozen_of_heap hy
        have HRR : Hid (∃ cs, (y1.setCell ⟨M, 4, none⟩ (.int .i64 v)).heap[M]? = some (.cells cs 30) ∧ OwnM (M + 1) (y1.setCell ⟨M, 4, none⟩ (.int .i64 v)) cs (RS.fields (F.take (t + 1)) m s).1 ∧ RdS (y1.setCell ⟨M, 4, none⟩ (.int .i64 v)) R lo (RS.fields (F.take (t + 1)) m s).2 ∧ But2 R M w (y1.setCell ⟨M, 4, none⟩ (.int .i64 v))) := by
          rw [unhide HTK2]
          refine ⟨#[.int .i64 aK, .int .i64 aF, .int .i64 aO, .int .i64 aT, .int .i64 v, .int .i64 aL, .int .i64 aC, .bool aY, .slice la ll lc, .int .i64 ek, .int .i64 ef, .int .i64 en, .slice ta tl tc, .int .i64 ps, .int .i64 pi, .int .i64 pm, .slice da dl dc], (setCell_heap hy), ⟨_, _, _, rfl, ?_⟩, (p.other hRM _ _), (((unhide HB).on q).set _ _)⟩
          simp only
          rw [unhide HDL]
          exact ⟨((unhide HO y1 q).1.same (cell_same (Nat.lt_succ_self M))), ((unhide HO y1 q).2.1.same (cell_same (Nat.lt_succ_self M))), (own_same (unhide HO y1 q).2.2 (cell_same (Nat.lt_succ_self M)))⟩
        clear p q hy HC
        go_wp2
        go_roundw
        case rel => exact ⟨t + 1, by omega, by go_num, unhide HRR⟩
        case measure => simp [intOf]; omega
      by_cases h2 : f = 2
      case pos =>
        subst h2
        obtain ⟨v, s2, e2⟩ : ∃ n s', sc.num = (n, s') := ⟨_, _, rfl⟩
        have htk : RS.fields (F.take (t + 1)) m s = (⟨aK, aF, aO, aT, aS, v, aC, aY, LL, ⟨ek, ef, en, LT⟩, ⟨ps, pi, pm, LD⟩⟩, s2) := (unhide HTK).trans (by simp [RS.field, e2])
        have HC := hide (num_r (unhide HR))
        rw [e2] at HC
        simp only at HC
        have HTK2 := hide htk
        clear htk e2 hff HTK
        go_wp2_with fail
        refine (unhide HC).mono ?_
        rintro e y1 ⟨rfl, p, q⟩
        have hy := q.same (unhide HM) (by omega)
        have k5 : y1.cell? ⟨M, 5, none⟩ = some (.int .i64 aL) := cell_of_heap hy
        have fz : ∀ o, y1.frozen? ⟨M, o, none⟩ = false := fun o => frozen_of_heap hy
        have HRR : Hid (∃ cs, (y1.setCell ⟨M, 5, none⟩ (.int .i64 v)).heap[M]? = some (.cells cs 30) ∧ OwnM (M + 1) (y1.setCell ⟨M, 5, none⟩ (.int .i64 v)) cs (RS.fields (F.take (t + 1)) m s).1 ∧ RdS (y1.setCell ⟨M, 5, none⟩ (.int .i64 v)) R lo (RS.fields (F.take (t + 1)) m s).2 ∧ But2 R M w (y1.setCell ⟨M, 5, none⟩ (.int .i64 v))) := by
          rw [unhide HTK2]
          refine ⟨#[.int .i64 aK, .int .i64 aF, .int .i64 aO, .int .i64 aT, .int .i64 aS, .int .i64 v, .int .i64 aC, .bool aY, .slice la ll lc, .int .i64 ek, .int .i64 ef, .int .i64 en, .slice ta tl tc, .int .i64 ps, .int .i64 pi, .int .i64 pm, .slice da dl dc], (setCell_heap hy), ⟨_, _, _, rfl, ?_⟩, (p.other hRM _ _), (((unhide HB).on q).set _ _)⟩
          simp only
          rw [unhide HDL]
          exact ⟨((unhide HO y1 q).1.same (cell_same (Nat.lt_succ_self M))), ((unhide HO y1 q).2.1.same (cell_same (Nat.lt_succ_self M))), (own_same (unhide HO y1 q).2.2 (cell_same (Nat.lt_succ_self M)))⟩
        clear p q hy HC
        go_wp2
        go_roundw
        case rel => exact ⟨t + 1, by omega, by go_num, unhide HRR⟩
        case measure => simp [intOf]; omega
      by_cases h3 : f = 3
      case pos =>
        subst h3
        obtain ⟨v, s2, e2⟩ : ∃ n s', sc.num = (n, s') := ⟨_, _, rfl⟩
        have htk : RS.fields (F.take (t + 1)) m s = (⟨aK, aF, aO, aT, aS, aL, v, aY, LL, ⟨ek, ef, en, LT⟩, ⟨ps, pi, pm, LD⟩⟩, s2) := (unhide HTK).trans (by simp [RS.field, e2])
        have HC := hide (num_r (unhide HR))
        rw [e2] at HC
        simp only at HC
        have HTK2 := hide htk
        clear htk e2 hff HTK
        go_wp2_with fail
        refine (unhide HC).mono ?_
        rintro e y1 ⟨rfl, p, q⟩
        have hy := q.same (unhide HM) (by omega)
        have k6 : y1.cell? ⟨M, 6, none⟩ = some (.int .i64 aC) := cell_of_heap hy
        have fz : ∀ o, y1.frozen? ⟨M, o, none⟩ = false := fun o => frozen_of_heap hy
        have HRR : Hid (∃ cs, (y1.setCell ⟨M, 6, none⟩ (.int .i64 v)).heap[M]? = some (.cells cs 30) ∧ OwnM (M + 1) (y1.setCell ⟨M, 6, none⟩ (.int .i64 v)) cs (RS.fields (F.take (t + 1)) m s).1 ∧ RdS (y1.setCell ⟨M, 6, none⟩ (.int .i64 v)) R lo (RS.fields (F.take (t + 1)) m s).2 ∧ But2 R M w (y1.setCell ⟨M, 6, none⟩ (.int .i64 v))) := by
          rw [unhide HTK2]
          refine ⟨#[.int .i64 aK, .int .i64 aF, .int .i64 aO, .int .i64 aT, .int .i64 aS, .int .i64 aL, .int .i64 v, .bool aY, .slice la ll lc, .int .i64 ek, .int .i64 ef, .int .i64 en, .slice ta tl tc, .int .i64 ps, .int .i64 pi, .int .i64 pm, .slice da dl dc], (setCell_heap hy), ⟨_, _, _, rfl, ?_⟩, (p.other hRM _ _), (((unhide HB).on q).set _ _)⟩
          simp only
          rw [unhide HDL]
          exact ⟨((unhide HO y1 q).1.same (cell_same (Nat.lt_succ_self M))), ((unhide HO y1 q).2.1.same (cell_same (Nat.lt_succ_self M))), (own_same (unhide HO y1 q).2.2 (cell_same (Nat.lt_succ_self M)))⟩
        clear p q hy HC
        go_wp2
        go_roundw
        case rel => exact ⟨t + 1, by omega, by go_num, unhide HRR⟩
        case measure => simp [intOf]; omega
      by_cases h4 : f = 4
      case pos =>
        subst h4
        obtain ⟨v, s2, e2⟩ : ∃ n s', sc.flag = (n, s') := ⟨_, _, rfl⟩
        have htk : RS.fields (F.take (t + 1)) m s = (⟨aK, aF, aO, aT, aS, aL, aC, v, LL, ⟨ek, ef, en, LT⟩, ⟨ps, pi, pm, LD⟩⟩, s2) := (unhide HTK).trans (by simp [RS.field, e2])
        have HC := hide (flag_r (unhide HR))
        rw [e2] at HC
        simp only at HC
        have HTK2 := hide htk
        clear htk e2 hff HTK
        go_wp2_with fail
        refine (unhide HC).mono ?_
        rintro e y1 ⟨rfl, p, q⟩
        have hy := q.same (unhide HM) (by omega)
        have k7 : y1.cell? ⟨M, 7, none⟩ = some (.bool aY) := cell_of_heap hy
        have fz : ∀ o, y1.frozen? ⟨M, o, none⟩ = false := fun o => frozen_of_heap hy
        have HRR : Hid (∃ cs, (y1.setCell ⟨M, 7, none⟩ (.bool v)).heap[M]? = some (.cells cs 30) ∧ OwnM (M + 1) (y1.setCell ⟨M, 7, none⟩ (.bool v)) cs (RS.fields (F.take (t + 1)) m s).1 ∧ RdS (y1.setCell ⟨M, 7, none⟩ (.bool v)) R lo (RS.fields (F.take (t + 1)) m s).2 ∧ But2 R M w (y1.setCell ⟨M, 7, none⟩ (.bool v))) := by
          rw [unhide HTK2]
          refine ⟨#[.int .i64 aK, .int .i64 aF, .int .i64 aO, .int .i64 aT, .int .i64 aS, .int .i64 aL, .int .i64 aC, .bool v, .slice la ll lc, .int .i64 ek, .int .i64 ef, .int .i64 en, .slice ta tl tc, .int .i64 ps, .int .i64 pi, .int .i64 pm, .slice da dl dc], (setCell_heap hy), ⟨_, _, _, rfl, ?_⟩, (p.other hRM _ _), (((unhide HB).on q).set _ _)⟩
          simp only
          rw [unhide HDL]
          exact ⟨((unhide HO y1 q).1.same (cell_same (Nat.lt_succ_self M))), ((unhide HO y1 q).2.1.same (cell_same (Nat.lt_succ_self M))), (own_same (unhide HO y1 q).2.2 (cell_same (Nat.lt_succ_self M)))⟩
        clear p q hy HC
        go_wp2
        go_roundw
        case rel => exact ⟨t + 1, by omega, by go_num, unhide HRR⟩
        case measure => simp [intOf]; omega
      by_cases h5 : f = 5
      case pos =>
        subst h5
        obtain ⟨v, s2, e2⟩ : ∃ n s', sc.list RS.termed = (n, s') := ⟨_, _, rfl⟩
        have htk : RS.fields (F.take (t + 1)) m s = (⟨aK, aF, aO, aT, aS, aL, aC, aY, v, ⟨ek, ef, en, LT⟩, ⟨ps, pi, pm, LD⟩⟩, s2) := (unhide HTK).trans (by simp [RS.field, e2])
        have HC := hide (takeTms_r (unhide HR))
        rw [e2] at HC
        simp only at HC
        have HTK2 := hide htk
        clear htk e2 hff HTK
        go_wp2_with fail
        refine (unhide HC).mono ?_
        rintro e y1 ⟨xv, rfl, ox, p, q⟩
        have hy := q.same (unhide HM) (by omega)
        obtain ⟨xa, xc, rfl⟩ := ox.shape
        have OX := ox.mono (unhide HMW)
        obtain ⟨xl, hxl⟩ : ∃ n, v.length = n := ⟨_, rfl⟩
        rw [hxl] at OX
        rw [hxl]
        have HXL := hide hxl
        clear ox hxl
        have k8 : y1.cell? ⟨M, 8, none⟩ = some (.slice la ll lc) := cell_of_heap hy
        have fz : ∀ o, y1.frozen? ⟨M, o, none⟩ = false := fun o => frozen_of_heap hy
        have HRR : Hid (∃ cs, (y1.setCell ⟨M, 8, none⟩ (.slice xa xl xc)).heap[M]? = some (.cells cs 30) ∧ OwnM (M + 1) (y1.setCell ⟨M, 8, none⟩ (.slice xa xl xc)) cs (RS.fields (F.take (t + 1)) m s).1 ∧ RdS (y1.setCell ⟨M, 8, none⟩ (.slice xa xl xc)) R lo (RS.fields (F.take (t + 1)) m s).2 ∧ But2 R M w (y1.setCell ⟨M, 8, none⟩ (.slice xa xl xc))) := by
          rw [unhide HTK2]
          refine ⟨#[.int .i64 aK, .int .i64 aF, .int .i64 aO, .int .i64 aT, .int .i64 aS, .int .i64 aL, .int .i64 aC, .bool aY, .slice xa xl xc, .int .i64 ek, .int .i64 ef, .int .i64 en, .slice ta tl tc, .int .i64 ps, .int .i64 pi, .int .i64 pm, .slice da dl dc], (setCell_heap hy), ⟨_, _, _, rfl, ?_⟩, (p.other hRM _ _), (((unhide HB).on q).set _ _)⟩
          simp only
          rw [unhide HDL]
          exact ⟨(OX.same (cell_same (Nat.lt_succ_self M))), ((unhide HO y1 q).2.1.same (cell_same (Nat.lt_succ_self M))), (own_same (unhide HO y1 q).2.2 (cell_same (Nat.lt_succ_self M)))⟩
        clear p q hy HC OX
        go_wp2
        go_roundw
        case rel => exact ⟨t + 1, by omega, by go_num, unhide HRR⟩
        case measure => simp [intOf]; omega
      by_cases h6 : f = 6
      case pos =>
        subst h6
        obtain ⟨⟨v1, v2, v3, v⟩, s2, e2⟩ : ∃ (n : EntD) (s' : RS), sc.entry = (n, s') := ⟨_, _, rfl⟩
        have htk : RS.fields (F.take (t + 1)) m s = (⟨aK, aF, aO, aT, aS, aL, aC, aY, LL, ⟨v1, v2, v3, v⟩, ⟨ps, pi, pm, LD⟩⟩, s2) := (unhide HTK).trans (by simp [RS.field, e2])
        have HC := hide (entry_r (unhide HR))
        rw [e2] at HC
        simp only at HC
        have HTK2 := hide htk
        clear htk e2 hff HTK
        go_wp2_with fail
        refine (unhide HC).mono ?_
        rintro e y1 ⟨xcs, rfl, ⟨xv, rfl, ox⟩, p, q⟩
        have hy := q.same (unhide HM) (by omega)
        obtain ⟨xa, xc, rfl⟩ := ox.shape
        have OX := ox.mono (unhide HMW)
        simp only at OX ⊢
        obtain ⟨xl, hxl⟩ : ∃ n, v.length = n := ⟨_, rfl⟩
        rw [hxl] at OX
        rw [hxl]
        have HXL := hide hxl
        clear ox hxl
        have k9 : y1.cell? ⟨M, 9, none⟩ = some (.int .i64 ek) := cell_of_heap hy
        have k10 : y1.cell? ⟨M, 10, none⟩ = some (.int .i64 ef) := cell_of_heap hy
        have k11 : y1.cell? ⟨M, 11, none⟩ = some (.int .i64 en) := cell_of_heap hy
        have k12 : y1.cell? ⟨M, 12, none⟩ = some (.slice ta tl tc) := cell_of_heap hy
        have fz : ∀ o, y1.frozen? ⟨M, o, none⟩ = false := fun o => frozen_of_heap hy
        have HRR : Hid (∃ cs, ((((y1.setCell ⟨M, 9, none⟩ (.int .i64 v1)).setCell ⟨M, 10, none⟩ (.int .i64 v2)).setCell ⟨M, 11, none⟩ (.int .i64 v3)).setCell ⟨M, 12, none⟩ (.slice xa xl xc)).heap[M]? = some (.cells cs 30) ∧ OwnM (M + 1) ((((y1.setCell ⟨M, 9, none⟩ (.int .i64 v1)).setCell ⟨M, 10, none⟩ (.int .i64 v2)).setCell ⟨M, 11, none⟩ (.int .i64 v3)).setCell ⟨M, 12, none⟩ (.slice xa xl xc)) cs (RS.fields (F.take (t + 1)) m s).1 ∧ RdS ((((y1.setCell ⟨M, 9, none⟩ (.int .i64 v1)).setCell ⟨M, 10, none⟩ (.int .i64 v2)).setCell ⟨M, 11, none⟩ (.int .i64 v3)).setCell ⟨M, 12, none⟩ (.slice xa xl xc)) R lo (RS.fields (F.take (t + 1)) m s).2 ∧ But2 R M w ((((y1.setCell ⟨M, 9, none⟩ (.int .i64 v1)).setCell ⟨M, 10, none⟩ (.int .i64 v2)).setCell ⟨M, 11, none⟩ (.int .i64 v3)).setCell ⟨M, 12, none⟩ (.slice xa xl xc))) := by
          rw [unhide HTK2]
          refine ⟨#[.int .i64 aK, .int .i64 aF, .int .i64 aO, .int .i64 aT, .int .i64 aS, .int .i64 aL, .int .i64 aC, .bool aY, .slice la ll lc, .int .i64 v1, .int .i64 v2, .int .i64 v3, .slice xa xl xc, .int .i64 ps, .int .i64 pi, .int .i64 pm, .slice da dl dc], (setCell_heap (setCell_heap (setCell_heap (setCell_heap hy)))), ⟨_, _, _, rfl, ?_⟩, ((((p.other hRM _ _).other hRM _ _).other hRM _ _).other hRM _ _), ((((((unhide HB).on q).set _ _).set _ _).set _ _).set _ _)⟩
          simp only
          rw [unhide HDL]
          exact ⟨(((((unhide HO y1 q).1.same (cell_same (Nat.lt_succ_self M))).same (cell_same (Nat.lt_succ_self M))).same (cell_same (Nat.lt_succ_self M))).same (cell_same (Nat.lt_succ_self M))), ((((OX.same (cell_same (Nat.lt_succ_self M))).same (cell_same (Nat.lt_succ_self M))).same (cell_same (Nat.lt_succ_self M))).same (cell_same (Nat.lt_succ_self M))), (own_same (own_same (own_same (own_same (unhide HO y1 q).2.2 (cell_same (Nat.lt_succ_self M))) (cell_same (Nat.lt_succ_self M))) (cell_same (Nat.lt_succ_self M))) (cell_same (Nat.lt_succ_self M)))⟩
        clear p q hy HC OX
        go_wp2
        go_roundw
        case rel => exact ⟨t + 1, by omega, by go_num, unhide HRR⟩
        case measure => simp [intOf]; omega
      by_cases h7 : f = 7
      case pos =>
        subst h7
        obtain ⟨⟨v1, v2, v3, v⟩, s2, e2⟩ : ∃ (n : PtD) (s' : RS), sc.part = (n, s') := ⟨_, _, rfl⟩
        have htk : RS.fields (F.take (t + 1)) m s = (⟨aK, aF, aO, aT, aS, aL, aC, aY, LL, ⟨ek, ef, en, LT⟩, ⟨v1, v2, v3, v⟩⟩, s2) := (unhide HTK).trans (by simp [RS.field, e2])
        have HC := hide (part_r (unhide HR))
        rw [e2] at HC
        simp only at HC
        have HTK2 := hide htk
        clear htk e2 hff HTK
        go_wp2_with fail
        refine (unhide HC).mono ?_
        rintro e y1 ⟨xv, rfl, ox, p, q⟩
        have hy := q.same (unhide HM) (by omega)
        obtain ⟨xa, xc, rfl⟩ := own_shape ox
        have OX := own_mono ox (unhide HMW)
        simp only at OX ⊢
        obtain ⟨xl, hxl⟩ : ∃ n, v.length = n := ⟨_, rfl⟩
        rw [hxl] at OX
        rw [hxl]
        have HXL := hide hxl
        clear ox hxl
        have k13 : y1.cell? ⟨M, 13, none⟩ = some (.int .i64 ps) := cell_of_heap hy
        have k14 : y1.cell? ⟨M, 14, none⟩ = some (.int .i64 pi) := cell_of_heap hy
        have k15 : y1.cell? ⟨M, 15, none⟩ = some (.int .i64 pm) := cell_of_heap hy
        have k16 : y1.cell? ⟨M, 16, none⟩ = some (.slice da dl dc) := cell_of_heap hy
        have fz : ∀ o, y1.frozen? ⟨M, o, none⟩ = false := fun o => frozen_of_heap hy
        have HRR : Hid (∃ cs, ((((y1.setCell ⟨M, 13, none⟩ (.int .i64 v1)).setCell ⟨M, 14, none⟩ (.int .i64 v2)).setCell ⟨M, 15, none⟩ (.int .i64 v3)).setCell ⟨M, 16, none⟩ (.slice xa xl xc)).heap[M]? = some (.cells cs 30) ∧ OwnM (M + 1) ((((y1.setCell ⟨M, 13, none⟩ (.int .i64 v1)).setCell ⟨M, 14, none⟩ (.int .i64 v2)).setCell ⟨M, 15, none⟩ (.int .i64 v3)).setCell ⟨M, 16, none⟩ (.slice xa xl xc)) cs (RS.fields (F.take (t + 1)) m s).1 ∧ RdS ((((y1.setCell ⟨M, 13, none⟩ (.int .i64 v1)).setCell ⟨M, 14, none⟩ (.int .i64 v2)).setCell ⟨M, 15, none⟩ (.int .i64 v3)).setCell ⟨M, 16, none⟩ (.slice xa xl xc)) R lo (RS.fields (F.take (t + 1)) m s).2 ∧ But2 R M w ((((y1.setCell ⟨M, 13, none⟩ (.int .i64 v1)).setCell ⟨M, 14, none⟩ (.int .i64 v2)).setCell ⟨M, 15, none⟩ (.int .i64 v3)).setCell ⟨M, 16, none⟩ (.slice xa xl xc))) := by
          rw [unhide HTK2]
          refine ⟨#[.int .i64 aK, .int .i64 aF, .int .i64 aO, .int .i64 aT, .int .i64 aS, .int .i64 aL, .int .i64 aC, .bool aY, .slice la ll lc, .int .i64 ek, .int .i64 ef, .int .i64 en, .slice ta tl tc, .int .i64 v1, .int .i64 v2, .int .i64 v3, .slice xa xl xc], (setCell_heap (setCell_heap (setCell_heap (setCell_heap hy)))), ⟨_, _, _, rfl, ?_⟩, ((((p.other hRM _ _).other hRM _ _).other hRM _ _).other hRM _ _), ((((((unhide HB).on q).set _ _).set _ _).set _ _).set _ _)⟩
          simp only
          rw [unhide HXL]
          exact ⟨(((((unhide HO y1 q).1.same (cell_same (Nat.lt_succ_self M))).same (cell_same (Nat.lt_succ_self M))).same (cell_same (Nat.lt_succ_self M))).same (cell_same (Nat.lt_succ_self M))), (((((unhide HO y1 q).2.1.same (cell_same (Nat.lt_succ_self M))).same (cell_same (Nat.lt_succ_self M))).same (cell_same (Nat.lt_succ_self M))).same (cell_same (Nat.lt_succ_self M))), (own_same (own_same (own_same (own_same OX (cell_same (Nat.lt_succ_self M))) (cell_same (Nat.lt_succ_self M))) (cell_same (Nat.lt_succ_self M))) (cell_same (Nat.lt_succ_self M)))⟩
        clear p q hy HC OX
        go_wp2
        go_roundw
        case rel => exact ⟨t + 1, by omega, by go_num, unhide HRR⟩
        case measure => simp [intOf]; omega
      omega
    · obtain rfl : n = t := by omega
      rw [List.take_of_length_le (by rw [unhide HNF]; exact Nat.le_refl _)] at ho hr
      have HE : Hid (∃ cs, wr.heap[M]? = some (.cells cs 30) ∧ OwnM (M + 1) wr cs (RS.fields (F) m s).1 ∧ RdS wr R lo (RS.fields (F) m s).2 ∧ But2 R M w wr) := ⟨cw, hM, ho, hr, hb⟩
      clear hM ho hr hb
      go_wp2
      go_end0
      exact ⟨rfl, unhide HE⟩
end Go.Proofs.YtggllgimlfchhabGreat

/- Record: messages, read. -/
namespace Go.Proofs.YtggllgimlfchhabGreat
open Go.RowKit
set_option maxRecDepth 100000

/-- A message, read. -/
def RS.msg (s : RS) : MsgD × RS :=
  RS.fields (fieldsL (s.kind 1 6).1) ⟨(s.kind 1 6).1, (s.kind 1 6).2.num.1, (s.kind 1 6).2.num.2.num.1, 0, 0, 0, 0, false, [], ⟨0, 0, 0, []⟩, ⟨0, 0, 0, []⟩⟩ (s.kind 1 6).2.num.2.num.2

set_option maxHeartbeats 1600000 in
theorem message_r {w : World} {R lo : Nat} {s : RS} (h : RdS w R lo s) :
    Calls Tryz.prog 37 #[.pointer (some ⟨R, 0, none⟩)] w fun e w' => ∃ cs, e = .returned (.agg cs) ∧ OwnM w.heap.size w' cs s.msg.1 ∧ RdS w' R lo s.msg.2 ∧ But R w w' := by
  have hr := h.rlt
  obtain ⟨k, s1, e1⟩ : ∃ n s', s.kind 1 6 = (n, s') := ⟨_, _, rfl⟩
  obtain ⟨f, s2, e2⟩ : ∃ n s', s1.num = (n, s') := ⟨_, _, rfl⟩
  obtain ⟨t, s3, e3⟩ : ∃ n s', s2.num = (n, s') := ⟨_, _, rfl⟩
  have et : s.msg = RS.fields (fieldsL k) ⟨k, f, t, 0, 0, 0, 0, false, [], ⟨0, 0, 0, []⟩, ⟨0, 0, 0, []⟩⟩ s3 := by simp only [RS.msg, e1, e2, e3]
  obtain ⟨⟨aK, aF, aO, aT, aS, aL, aC, aY, LL, ⟨ek, ef, en, LT⟩, ⟨ps, pi, pm, LD⟩⟩, sF, eF⟩ : ∃ (a : MsgD) (b : RS), RS.fields (fieldsL k) ⟨k, f, t, 0, 0, 0, 0, false, [], ⟨0, 0, 0, []⟩, ⟨0, 0, 0, []⟩⟩ s3 = (a, b) := ⟨_, _, rfl⟩
  rw [et, eF]
  simp only
  have HE2 := hide e2
  have HE3 := hide e3
  have HEF := hide eF
  have hal : Below w.heap.size w (w.alloc (.cells #[.int .i64 0, .int .i64 0, .int .i64 0, .int .i64 0, .int .i64 0, .int .i64 0, .int .i64 0, .bool false, .slice none 0 0, .int .i64 0, .int .i64 0, .int .i64 0, .slice none 0 0, .int .i64 0, .int .i64 0, .int .i64 0, .slice none 0 0] 30)) := (Below.refl _ _).alloc (Nat.le_refl _) _
  have HC0 := hide (kind_r (h.below hal) 1 6)
  rw [e1] at HC0
  simp only at HC0
  have HB0 : Hid (But R w (w.alloc (.cells #[.int .i64 0, .int .i64 0, .int .i64 0, .int .i64 0, .int .i64 0, .int .i64 0, .int .i64 0, .bool false, .slice none 0 0, .int .i64 0, .int .i64 0, .int .i64 0, .slice none 0 0, .int .i64 0, .int .i64 0, .int .i64 0, .slice none 0 0] 30))) := But.of hal
  have HZ0 : Hid ((w.alloc (.cells #[.int .i64 0, .int .i64 0, .int .i64 0, .int .i64 0, .int .i64 0, .int .i64 0, .int .i64 0, .bool false, .slice none 0 0, .int .i64 0, .int .i64 0, .int .i64 0, .slice none 0 0, .int .i64 0, .int .i64 0, .int .i64 0, .slice none 0 0] 30)).heap[w.heap.size]? = some (.cells #[.int .i64 0, .int .i64 0, .int .i64 0, .int .i64 0, .int .i64 0, .int .i64 0, .int .i64 0, .bool false, .slice none 0 0, .int .i64 0, .int .i64 0, .int .i64 0, .slice none 0 0, .int .i64 0, .int .i64 0, .int .i64 0, .slice none 0 0] 30)) := heap_alloc_new w _
  have HSZ0 : Hid (w.heap.size + 1 ≤ (w.alloc (.cells #[.int .i64 0, .int .i64 0, .int .i64 0, .int .i64 0, .int .i64 0, .int .i64 0, .int .i64 0, .bool false, .slice none 0 0, .int .i64 0, .int .i64 0, .int .i64 0, .slice none 0 0, .int .i64 0, .int .i64 0, .int .i64 0, .slice none 0 0] 30)).heap.size) := by show _ ≤ _; simp
  obtain ⟨w1, hw1⟩ : ∃ y, w.alloc (.cells #[.int .i64 0, .int .i64 0, .int .i64 0, .int .i64 0, .int .i64 0, .int .i64 0, .int .i64 0, .bool false, .slice none 0 0, .int .i64 0, .int .i64 0, .int .i64 0, .slice none 0 0, .int .i64 0, .int .i64 0, .int .i64 0, .slice none 0 0] 30) = y := ⟨_, rfl⟩
  rw [hw1] at HC0
  rw [hw1] at HB0
  rw [hw1] at HZ0
  rw [hw1] at HSZ0
  clear h hal e1 e2 e3 et eF
  go_enter Tryz.func37, Tryz.ntmps37
  go_wp2_with (rw [hw1])
  refine (unhide HC0).mono ?_
  rintro e y1 ⟨rfl, p1, q1⟩
  have hz1 := q1.same (unhide HZ0) (by omega)
  have hsz1 : w.heap.size + 1 ≤ y1.heap.size := Nat.le_trans (unhide HSZ0) q1.size
  have hal1 : Below y1.heap.size y1 (y1.alloc (.cells #[.int .i64 0, .int .i64 0, .int .i64 0, .int .i64 0, .int .i64 0, .int .i64 0, .int .i64 0, .bool false, .slice none 0 0, .int .i64 0, .int .i64 0, .int .i64 0, .slice none 0 0, .int .i64 0, .int .i64 0, .int .i64 0, .slice none 0 0] 30)) := (Below.refl _ _).alloc (Nat.le_refl _) _
  have hxa : (y1.alloc (.cells #[.int .i64 0, .int .i64 0, .int .i64 0, .int .i64 0, .int .i64 0, .int .i64 0, .int .i64 0, .bool false, .slice none 0 0, .int .i64 0, .int .i64 0, .int .i64 0, .slice none 0 0, .int .i64 0, .int .i64 0, .int .i64 0, .slice none 0 0] 30)).heap[y1.heap.size]? = some (.cells #[.int .i64 0, .int .i64 0, .int .i64 0, .int .i64 0, .int .i64 0, .int .i64 0, .int .i64 0, .bool false, .slice none 0 0, .int .i64 0, .int .i64 0, .int .i64 0, .slice none 0 0, .int .i64 0, .int .i64 0, .int .i64 0, .slice none 0 0] 30) := heap_alloc_new y1 _
  have hza : (y1.alloc (.cells #[.int .i64 0, .int .i64 0, .int .i64 0, .int .i64 0, .int .i64 0, .int .i64 0, .int .i64 0, .bool false, .slice none 0 0, .int .i64 0, .int .i64 0, .int .i64 0, .slice none 0 0, .int .i64 0, .int .i64 0, .int .i64 0, .slice none 0 0] 30)).heap[w.heap.size]? = some (.cells #[.int .i64 0, .int .i64 0, .int .i64 0, .int .i64 0, .int .i64 0, .int .i64 0, .int .i64 0, .bool false, .slice none 0 0, .int .i64 0, .int .i64 0, .int .i64 0, .slice none 0 0, .int .i64 0, .int .i64 0, .int .i64 0, .slice none 0 0] 30) := (Below.heap_alloc _ _ _ (by omega)).trans hz1
  have hsa : (y1.alloc (.cells #[.int .i64 0, .int .i64 0, .int .i64 0, .int .i64 0, .int .i64 0, .int .i64 0, .int .i64 0, .bool false, .slice none 0 0, .int .i64 0, .int .i64 0, .int .i64 0, .slice none 0 0, .int .i64 0, .int .i64 0, .int .i64 0, .slice none 0 0] 30)).heap.size = y1.heap.size + 1 := by simp
  obtain ⟨ya, hya⟩ : ∃ y, y1.alloc (.cells #[.int .i64 0, .int .i64 0, .int .i64 0, .int .i64 0, .int .i64 0, .int .i64 0, .int .i64 0, .bool false, .slice none 0 0, .int .i64 0, .int .i64 0, .int .i64 0, .slice none 0 0, .int .i64 0, .int .i64 0, .int .i64 0, .slice none 0 0] 30) = y := ⟨_, rfl⟩
  rw [hya] at hal1 hxa hza hsa
  have pa := p1.below hal1
  have ba : But R w ya := ((unhide HB0).trans q1).trans (But.of hal1)
  obtain ⟨M, hM⟩ : ∃ n, y1.heap.size = n := ⟨_, rfl⟩
  rw [hM] at hxa hsa hsz1
  have hwM : w.heap.size < M := by omega
  have hRM : R < M := by omega
  have hxb := setRow_heap ya M _ #[.int .i64 k, .int .i64 0, .int .i64 0, .int .i64 0, .int .i64 0, .int .i64 0, .int .i64 0, .bool false, .slice none 0 0, .int .i64 0, .int .i64 0, .int .i64 0, .slice none 0 0, .int .i64 0, .int .i64 0, .int .i64 0, .slice none 0 0] 30 (0, 0) hxa
  have hzb : (ya.setRow M #[.int .i64 k, .int .i64 0, .int .i64 0, .int .i64 0, .int .i64 0, .int .i64 0, .int .i64 0, .bool false, .slice none 0 0, .int .i64 0, .int .i64 0, .int .i64 0, .slice none 0 0, .int .i64 0, .int .i64 0, .int .i64 0, .slice none 0 0]).heap[w.heap.size]? = some (.cells #[.int .i64 0, .int .i64 0, .int .i64 0, .int .i64 0, .int .i64 0, .int .i64 0, .int .i64 0, .bool false, .slice none 0 0, .int .i64 0, .int .i64 0, .int .i64 0, .slice none 0 0, .int .i64 0, .int .i64 0, .int .i64 0, .slice none 0 0] 30) := (setRow_other _ _ _ _ (by omega)).trans hza
  have pb := pa.otherRow hRM #[.int .i64 k, .int .i64 0, .int .i64 0, .int .i64 0, .int .i64 0, .int .i64 0, .int .i64 0, .bool false, .slice none 0 0, .int .i64 0, .int .i64 0, .int .i64 0, .slice none 0 0, .int .i64 0, .int .i64 0, .int .i64 0, .slice none 0 0]
  have bb := ba.newRow (b := M) (by omega) #[.int .i64 k, .int .i64 0, .int .i64 0, .int .i64 0, .int .i64 0, .int .i64 0, .int .i64 0, .bool false, .slice none 0 0, .int .i64 0, .int .i64 0, .int .i64 0, .slice none 0 0, .int .i64 0, .int .i64 0, .int .i64 0, .slice none 0 0]
  have hsb : M + 1 ≤ (ya.setRow M #[.int .i64 k, .int .i64 0, .int .i64 0, .int .i64 0, .int .i64 0, .int .i64 0, .int .i64 0, .bool false, .slice none 0 0, .int .i64 0, .int .i64 0, .int .i64 0, .slice none 0 0, .int .i64 0, .int .i64 0, .int .i64 0, .slice none 0 0]).heap.size := by rw [setRow_size]; omega
  obtain ⟨yb, hyb⟩ : ∃ y, ya.setRow M #[.int .i64 k, .int .i64 0, .int .i64 0, .int .i64 0, .int .i64 0, .int .i64 0, .int .i64 0, .bool false, .slice none 0 0, .int .i64 0, .int .i64 0, .int .i64 0, .slice none 0 0, .int .i64 0, .int .i64 0, .int .i64 0, .slice none 0 0] = y := ⟨_, rfl⟩
  rw [hyb] at hxb hzb pb bb hsb
  have HXA := hide hxa
  have HXB := hide (And.intro hxb hzb)
  have HBB := hide bb
  have HSB := hide hsb
  have HC1 := hide (fit_r pb)
  rw [unhide HE2] at HC1
  simp only at HC1
  clear p1 q1 hz1 hsz1 hal1 hxa hza hsa pa ba hxb hzb pb bb hsb HC0
  go_wp2_with (first | rw [hya] | rw [hyb] | rw [hM] | refine wpList_store_row rfl 30 _ _ rfl M _ _ rfl rfl 30 (unhide HXA) (by kernel_rfl) rfl (by first | kernel_rfl | simp [Value.oneCell']) ?_)
  refine (unhide HC1).mono ?_
  rintro e y2 ⟨rfl, p, q⟩
  have hx : y2.heap[M]? = some (.cells #[.int .i64 k, .int .i64 0, .int .i64 0, .int .i64 0, .int .i64 0, .int .i64 0, .int .i64 0, .bool false, .slice none 0 0, .int .i64 0, .int .i64 0, .int .i64 0, .slice none 0 0, .int .i64 0, .int .i64 0, .int .i64 0, .slice none 0 0] 30) := q.same (unhide HXB).1 (by omega)
  have hy : y2.heap[w.heap.size]? = some (.cells #[.int .i64 0, .int .i64 0, .int .i64 0, .int .i64 0, .int .i64 0, .int .i64 0, .int .i64 0, .bool false, .slice none 0 0, .int .i64 0, .int .i64 0, .int .i64 0, .slice none 0 0, .int .i64 0, .int .i64 0, .int .i64 0, .slice none 0 0] 30) := q.same (unhide HXB).2 (by omega)
  have kc1 : y2.cell? ⟨M, 1, none⟩ = some (.int .i64 0) := cell_of_heap hx
  have fc1 : ∀ o, y2.frozen? ⟨M, o, none⟩ = false := fun o => frozen_of_heap hx
  have HX2 : Hid ((y2.setCell ⟨M, 1, none⟩ (.int .i64 f)).heap[M]? = some (.cells #[.int .i64 k, .int .i64 f, .int .i64 0, .int .i64 0, .int .i64 0, .int .i64 0, .int .i64 0, .bool false, .slice none 0 0, .int .i64 0, .int .i64 0, .int .i64 0, .slice none 0 0, .int .i64 0, .int .i64 0, .int .i64 0, .slice none 0 0] 30) ∧ (y2.setCell ⟨M, 1, none⟩ (.int .i64 f)).heap[w.heap.size]? = some (.cells #[.int .i64 0, .int .i64 0, .int .i64 0, .int .i64 0, .int .i64 0, .int .i64 0, .int .i64 0, .bool false, .slice none 0 0, .int .i64 0, .int .i64 0, .int .i64 0, .slice none 0 0, .int .i64 0, .int .i64 0, .int .i64 0, .slice none 0 0] 30)) := ⟨setCell_heap hx, (Below.heap_setCell _ _ _ _ (fun e => by simp only at e; omega)).trans hy⟩
  have hsz := Nat.le_trans (unhide HSB) q.size
  have HSZ2 : Hid (M + 1 ≤ (y2.setCell ⟨M, 1, none⟩ (.int .i64 f)).heap.size) := by show _ ≤ _; simp only [World.setCell, Array.size_modify]; exact hsz
  have HB2 := hide (((unhide HBB).trans q).new (b := M) (by omega) 1 (.int .i64 f))
  have HC2 := hide (fit_r (p.other (b := M) (by omega) 1 (.int .i64 f)))
  rw [unhide HE3] at HC2
  simp only at HC2
  clear p q hx hy hsz HC1
  go_wp2_with fail
  refine (unhide HC2).mono ?_
  rintro e y3 ⟨rfl, p, q⟩
  have hx : y3.heap[M]? = some (.cells #[.int .i64 k, .int .i64 f, .int .i64 0, .int .i64 0, .int .i64 0, .int .i64 0, .int .i64 0, .bool false, .slice none 0 0, .int .i64 0, .int .i64 0, .int .i64 0, .slice none 0 0, .int .i64 0, .int .i64 0, .int .i64 0, .slice none 0 0] 30) := q.same (unhide HX2).1 (by omega)
  have hy : y3.heap[w.heap.size]? = some (.cells #[.int .i64 0, .int .i64 0, .int .i64 0, .int .i64 0, .int .i64 0, .int .i64 0, .int .i64 0, .bool false, .slice none 0 0, .int .i64 0, .int .i64 0, .int .i64 0, .slice none 0 0, .int .i64 0, .int .i64 0, .int .i64 0, .slice none 0 0] 30) := q.same (unhide HX2).2 (by omega)
  have kc2 : y3.cell? ⟨M, 2, none⟩ = some (.int .i64 0) := cell_of_heap hx
  have fc2 : ∀ o, y3.frozen? ⟨M, o, none⟩ = false := fun o => frozen_of_heap hx
  have hx3 : (y3.setCell ⟨M, 2, none⟩ (.int .i64 t)).heap[M]? = some (.cells #[.int .i64 k, .int .i64 f, .int .i64 t, .int .i64 0, .int .i64 0, .int .i64 0, .int .i64 0, .bool false, .slice none 0 0, .int .i64 0, .int .i64 0, .int .i64 0, .slice none 0 0, .int .i64 0, .int .i64 0, .int .i64 0, .slice none 0 0] 30) := setCell_heap hx
  have hy3 : (y3.setCell ⟨M, 2, none⟩ (.int .i64 t)).heap[w.heap.size]? = some (.cells #[.int .i64 0, .int .i64 0, .int .i64 0, .int .i64 0, .int .i64 0, .int .i64 0, .int .i64 0, .bool false, .slice none 0 0, .int .i64 0, .int .i64 0, .int .i64 0, .slice none 0 0, .int .i64 0, .int .i64 0, .int .i64 0, .slice none 0 0] 30) := (Below.heap_setCell _ _ _ _ (fun e => by simp only at e; omega)).trans hy
  have hsz := Nat.le_trans (unhide HSZ2) q.size
  have hsz3 : M + 1 ≤ (y3.setCell ⟨M, 2, none⟩ (.int .i64 t)).heap.size := by simp only [World.setCell, Array.size_modify]; exact hsz
  have p3 := p.other (b := M) (by omega) 2 (.int .i64 t)
  have b3 := ((unhide HB2).trans q).new (b := M) (by omega) 2 (.int .i64 t)
  obtain ⟨y4, hy4⟩ : ∃ y, y3.setCell ⟨M, 2, none⟩ (.int .i64 t) = y := ⟨_, rfl⟩
  rw [hy4] at hx3 hy3 hsz3 p3 b3
  have t0 : y4.cell? ⟨M, 0, none⟩ = some (.int .i64 k) := cell_of_heap hx3
  have HX3 := hide (And.intro hx3 hy3)
  have HSZ3 := hide hsz3
  have HR3 := hide p3
  have HB3 := hide b3
  have HC3 := hide (fieldsOf_at k y4)
  clear p q hx hy hsz hx3 hy3 hsz3 p3 b3 HC2
  go_wp2_with (rw [hy4])
  refine (unhide HC3).mono ?_
  rintro e y5 ⟨v, rfl, hv, hb5⟩
  have hx5 : y5.heap[M]? = some (.cells #[.int .i64 k, .int .i64 f, .int .i64 t, .int .i64 0, .int .i64 0, .int .i64 0, .int .i64 0, .bool false, .slice none 0 0, .int .i64 0, .int .i64 0, .int .i64 0, .slice none 0 0, .int .i64 0, .int .i64 0, .int .i64 0, .slice none 0 0] 30) := (hb5.block M (unhide HSZ3)).trans (unhide HX3).1
  have hy5 : y5.heap[w.heap.size]? = some (.cells #[.int .i64 0, .int .i64 0, .int .i64 0, .int .i64 0, .int .i64 0, .int .i64 0, .int .i64 0, .bool false, .slice none 0 0, .int .i64 0, .int .i64 0, .int .i64 0, .slice none 0 0, .int .i64 0, .int .i64 0, .int .i64 0, .slice none 0 0] 30) := (hb5.block _ (by have := unhide HSZ3; omega)).trans (unhide HX3).2
  have p5 := (unhide HR3).below hb5
  have b5 : But R w y5 := (unhide HB3).trans (But.of hb5)
  have HC4 : Hid (Calls Tryz.prog 76 #[.pointer (some ⟨R, 0, none⟩), .pointer (some ⟨M, 0, none⟩), v] y5 fun e w' => e = .returned (.tuple #[]) ∧ ∃ cs, w'.heap[M]? = some (.cells cs 30) ∧ OwnM (M + 1) w' cs ⟨aK, aF, aO, aT, aS, aL, aC, aY, LL, ⟨ek, ef, en, LT⟩, ⟨ps, pi, pm, LD⟩⟩ ∧ RdS w' R lo sF ∧ But2 R M y5 w') := by
    have own0 : OwnM (M + 1) y5 #[.int .i64 k, .int .i64 f, .int .i64 t, .int .i64 0, .int .i64 0, .int .i64 0, .int .i64 0, .bool false, .slice none 0 0, .int .i64 0, .int .i64 0, .int .i64 0, .slice none 0 0, .int .i64 0, .int .i64 0, .int .i64 0, .slice none 0 0] ⟨k, f, t, 0, 0, 0, 0, false, [], ⟨0, 0, 0, []⟩, ⟨0, 0, 0, []⟩⟩ := ⟨_, _, _, rfl, OwnTms.nil _ _, OwnTs.nil _ _, World.ownsRow_nil _ _ _ _⟩
    rcases hv with ⟨hn, rfl⟩ | ⟨g, rfl, hg, hgh⟩
    · have e0 := unhide HEF
      rw [hn] at e0
      simp only [RS.fields, List.foldl_nil, Prod.mk.injEq] at e0
      obtain ⟨e0, rfl⟩ := e0
      rw [e0] at own0
      exact (fields_none (w := y5) (R := R) (M := M)).mono fun e w' ⟨h1, h2⟩ => by subst h2; exact ⟨h1, _, hx5, own0, p5, But2.refl _ _ _⟩
    · have hg5 : y4.heap.size ≤ g := hg
      have h9 := fields_r (fieldsL k) p5 hx5 hRM own0 hgh (by have := unhide HSZ3; omega) (by have := unhide HSZ3; omega) (fieldsL_le k) (fieldsL_len k)
      rw [unhide HEF] at h9
      exact h9
  have HY5 := hide hy5
  have HB5 := hide b5
  have HS5 : Hid (M < y5.heap.size) := (Array.getElem?_eq_some_iff.1 hx5).1
  clear hv hb5 hx5 hy5 p5 b5 HC3 t0
  go_wp2_with fail
  refine (unhide HC4).mono ?_
  rintro e y6 ⟨rfl, cs, hx6, om, p6, q6⟩
  have hy6 : y6.heap[w.heap.size]? = some (.cells #[.int .i64 0, .int .i64 0, .int .i64 0, .int .i64 0, .int .i64 0, .int .i64 0, .int .i64 0, .bool false, .slice none 0 0, .int .i64 0, .int .i64 0, .int .i64 0, .slice none 0 0, .int .i64 0, .int .i64 0, .int .i64 0, .slice none 0 0] 30) := (q6.block _ (by have := unhide HS5; omega) (by omega) (by omega)).trans (unhide HY5)
  obtain ⟨lv, tv, dv, rfl, o1, o2, o3⟩ := om
  obtain ⟨la, lc, rfl⟩ := o1.shape
  obtain ⟨ta, tc, rfl⟩ := o2.shape
  obtain ⟨da, dc, rfl⟩ := own_shape o3
  simp only at hx6 o1 o2 o3
  obtain ⟨ll, hll⟩ : ∃ n, LL.length = n := ⟨_, rfl⟩
  obtain ⟨tl, htl⟩ : ∃ n, LT.length = n := ⟨_, rfl⟩
  obtain ⟨dl, hdl⟩ : ∃ n, LD.length = n := ⟨_, rfl⟩
  rw [hll] at hx6 o1
  rw [htl] at hx6 o2
  rw [hdl] at hx6 o3
  have b6 : But R w y6 := But2.but (unhide HB5) q6 (by omega)
  have hS := row_same (w := y6) (base := M + 1) (b := w.heap.size) #[.int .i64 aK, .int .i64 aF, .int .i64 aO, .int .i64 aT, .int .i64 aS, .int .i64 aL, .int .i64 aC, .bool aY, .slice la ll lc, .int .i64 ek, .int .i64 ef, .int .i64 en, .slice ta tl tc, .int .i64 ps, .int .i64 pi, .int .i64 pm, .slice da dl dc] (by omega)
  have HF : Hid (OwnM w.heap.size (y6.setRow w.heap.size #[.int .i64 aK, .int .i64 aF, .int .i64 aO, .int .i64 aT, .int .i64 aS, .int .i64 aL, .int .i64 aC, .bool aY, .slice la ll lc, .int .i64 ek, .int .i64 ef, .int .i64 en, .slice ta tl tc, .int .i64 ps, .int .i64 pi, .int .i64 pm, .slice da dl dc]) #[.int .i64 aK, .int .i64 aF, .int .i64 aO, .int .i64 aT, .int .i64 aS, .int .i64 aL, .int .i64 aC, .bool aY, .slice la ll lc, .int .i64 ek, .int .i64 ef, .int .i64 en, .slice ta tl tc, .int .i64 ps, .int .i64 pi, .int .i64 pm, .slice da dl dc] ⟨aK, aF, aO, aT, aS, aL, aC, aY, LL, ⟨ek, ef, en, LT⟩, ⟨ps, pi, pm, LD⟩⟩ ∧ RdS (y6.setRow w.heap.size #[.int .i64 aK, .int .i64 aF, .int .i64 aO, .int .i64 aT, .int .i64 aS, .int .i64 aL, .int .i64 aC, .bool aY, .slice la ll lc, .int .i64 ek, .int .i64 ef, .int .i64 en, .slice ta tl tc, .int .i64 ps, .int .i64 pi, .int .i64 pm, .slice da dl dc]) R lo sF ∧ But R w (y6.setRow w.heap.size #[.int .i64 aK, .int .i64 aF, .int .i64 aO, .int .i64 aT, .int .i64 aS, .int .i64 aL, .int .i64 aC, .bool aY, .slice la ll lc, .int .i64 ek, .int .i64 ef, .int .i64 en, .slice ta tl tc, .int .i64 ps, .int .i64 pi, .int .i64 pm, .slice da dl dc])) :=
    ⟨OwnM.mono (base := M + 1) ⟨_, _, _, rfl, o1.same hS, o2.same hS, by simp only; rw [hdl]; exact own_same o3 hS⟩ (by omega), p6.otherRow hr _, b6.newRow (Nat.le_refl _) _⟩
  have HX6 := hide hx6
  have HY6 := hide hy6
  clear hx6 hy6 o1 o2 o3 p6 q6 b6 hS hll htl hdl HC4
  go_wp2_with (first | refine wpList_load_row rfl 30 _ rfl M rfl 30 _ (0, 0) _ (unhide HX6) Tryz.underlying30 rfl (by kernel_rfl) ?_ | refine wpList_store_row rfl 30 _ _ rfl w.heap.size _ _ rfl rfl 30 (unhide HY6) (by kernel_rfl) rfl (by first | kernel_rfl | simp [Value.oneCell']) ?_)
  refine bodyPost_ret (results_cell_row rfl _ _ w.heap.size 30 #[.int .i64 aK, .int .i64 aF, .int .i64 aO, .int .i64 aT, .int .i64 aS, .int .i64 aL, .int .i64 aC, .bool aY, .slice la ll lc, .int .i64 ek, .int .i64 ef, .int .i64 en, .slice ta tl tc, .int .i64 ps, .int .i64 pi, .int .i64 pm, .slice da dl dc] (0, 0) _ rfl (setRow_heap _ _ _ _ _ _ (unhide HY6)) Tryz.underlying30 rfl (by kernel_rfl)) rfl ?_
  exact ⟨_, rfl, unhide HF⟩
end Go.Proofs.YtggllgimlfchhabGreat
