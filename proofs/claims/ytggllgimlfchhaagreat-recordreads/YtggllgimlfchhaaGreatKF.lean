/- Several texts as one. -/
import Derived.Test.YtggllgimlfchhaaGreatKE
import Derived.Test.YtggllgimlfchhaaGreatKD
import Derived.Test.YtggllgimlfchhaaGreatKH

/- Record: a message's fields, read. -/
namespace Go.Proofs.YtggllgimlfchhaaGreat
open Go.RowKit
set_option maxRecDepth 100000

/-- Only the blocks R and M are written. -/
structure But2 (R M : Nat) (w w' : World) : Prop where
  os : w'.os = w.os
  tape : w'.tape = w.tape
  output : w'.output = w.output
  size : w.heap.size ≤ w'.heap.size
  block : ∀ k, k < w.heap.size → k ≠ R → k ≠ M → w'.heap[k]? = w.heap[k]?
theorem But2.refl (R M : Nat) (w : World) : But2 R M w w := ⟨rfl, rfl, rfl, Nat.le_refl _, fun _ _ _ _ => rfl⟩
theorem But2.on {R M : Nat} {a b c : World} (h : But2 R M a b) (k : But R b c) : But2 R M a c :=
  ⟨k.os.trans h.os, k.tape.trans h.tape, k.output.trans h.output, Nat.le_trans h.size k.size, fun i hi hR hM => (k.block i (Nat.lt_of_lt_of_le hi h.size) hR).trans (h.block i hi hR hM)⟩
theorem But2.set {R M : Nat} {a w : World} (h : But2 R M a w) (o : Nat) (u : Value) : But2 R M a (w.setCell ⟨M, o, none⟩ u) :=
  ⟨h.os, h.tape, h.output, by have := h.size; simp only [World.setCell, Array.size_modify]; exact this, fun k hk hR hM => (Below.heap_setCell _ _ _ _ (fun e => hM e)).trans (h.block k hk hR hM)⟩
theorem But2.but {R M : Nat} {a w w' : World} (h : But R a w) (k : But2 R M w w') (hM : a.heap.size ≤ M) : But R a w' :=
  ⟨k.os.trans h.os, k.tape.trans h.tape, k.output.trans h.output, Nat.le_trans h.size k.size, fun i hi hR => (k.block i (Nat.lt_of_lt_of_le hi h.size) hR (by omega)).trans (h.block i hi hR)⟩
/-- A message in rows of one's own. -/
def OwnM (base : Nat) (w : World) (cs : Array Value) (m : MsgD) : Prop :=
  ∃ lv tv dv, cs = #[.int .i64 m.kind, .int .i64 m.frm, .int .i64 m.to, .int .i64 m.term, .int .i64 m.slot, .int .i64 m.last, .int .i64 m.commit, .bool m.yes, lv, .int .i64 m.ent.kind, .int .i64 m.ent.frm, .int .i64 m.ent.num, tv, .int .i64 m.part.slot, .int .i64 m.part.idx, .int .i64 m.part.many, dv] ∧ OwnTms base w lv m.list ∧ OwnTs base w tv m.ent.txns ∧ w.ownsRow base 5 1 dv m.part.data.length (ints .u8 m.part.data)
theorem OwnM.same {base : Nat} {w w' : World} {cs : Array Value} {m : MsgD} (h : OwnM base w cs m) (hk : ∀ k, base ≤ k → k < w.heap.size → w'.heap[k]? = w.heap[k]?) : OwnM base w' cs m := by
  obtain ⟨lv, tv, dv, h0, h1, h2, h3⟩ := h
  exact ⟨lv, tv, dv, h0, h1.same hk, h2.same hk, own_same h3 hk⟩
theorem OwnM.mono {base base' : Nat} {w : World} {cs : Array Value} {m : MsgD} (h : OwnM base w cs m) (hb : base' ≤ base) : OwnM base' w cs m := by
  obtain ⟨lv, tv, dv, h0, h1, h2, h3⟩ := h
  exact ⟨lv, tv, dv, h0, h1.mono hb, h2.mono hb, own_mono h3 hb⟩
theorem cell_same {w : World} {base b o : Nat} {u : Value} (hb : b < base) : ∀ k, base ≤ k → k < w.heap.size → (w.setCell ⟨b, o, none⟩ u).heap[k]? = w.heap[k]? := fun k hk _ => Below.heap_setCell _ _ _ _ (fun e => by simp only at e; omega)
theorem but_same {w w' : World} {base R : Nat} (h : But R w w') (hb : R < base) : ∀ k, base ≤ k → k < w.heap.size → w'.heap[k]? = w.heap[k]? := fun k hk hl => h.block k hl (by omega)

/-- A field, read. -/
def RS.field (f : Int) (m : MsgD) (s : RS) : MsgD × RS :=
  if f = 0 then ({ m with term := s.num.1 }, s.num.2) else if f = 1 then ({ m with slot := s.num.1 }, s.num.2) else if f = 2 then ({ m with last := s.num.1 }, s.num.2) else if f = 3 then ({ m with commit := s.num.1 }, s.num.2) else if f = 4 then ({ m with yes := s.flag.1 }, s.flag.2) else if f = 5 then ({ m with list := (s.list RS.termed).1 }, (s.list RS.termed).2) else if f = 6 then ({ m with ent := s.entry.1 }, s.entry.2) else ({ m with part := s.part.1 }, s.part.2)
def RS.fields (F : List Int) (m : MsgD) (s : RS) : MsgD × RS := F.foldl (fun p f => RS.field f p.1 p.2) (m, s)
theorem take_fields (F : List Int) (m : MsgD) (s : RS) (t : Nat) (ht : t < F.length) : RS.fields (F.take (t + 1)) m s = RS.field F[t] (RS.fields (F.take t) m s).1 (RS.fields (F.take t) m s).2 := by
  unfold RS.fields
  rw [List.take_succ_eq_append_getElem ht, List.foldl_append]
  rfl

set_option maxHeartbeats 400000 in
theorem fields_none {w : World} {R M : Nat} : Calls Tryz.prog 99 #[.pointer (some ⟨R, 0, none⟩), .pointer (some ⟨M, 0, none⟩), .slice none 0 0] w fun e w' => e = .returned (.tuple #[]) ∧ w = w' := by
  go_enter Tryz.func99, Tryz.ntmps99
  go_wp2
  go_loopw [10] (fun c wr => c = .int .i64 0 ∧ wr = w) (fun _ _ => 0)
  case atStart => exact ⟨rfl, rfl⟩
  case round =>
    obtain ⟨rfl, rfl⟩ := hrel
    go_wp2
    go_end0
    exact ⟨rfl, rfl⟩

set_option maxHeartbeats 3200000 in
theorem fields_r {w : World} {R M lo g : Nat} {s : RS} {cs : Array Value} {m : MsgD} (F : List Int) (h : RdS w R lo s) (hM : w.heap[M]? = some (.cells cs 34)) (hRM : R < M) (ho : OwnM (M + 1) w cs m)
    (hg : w.heap[g]? = some (.cells (F.map (Value.int .i64)).toArray 97)) (hgR : g ≠ R) (hgM : g ≠ M) (hF : ∀ f ∈ F, 0 ≤ f ∧ f ≤ 7) (hlen : F.length ≤ 5) :
    Calls Tryz.prog 99 #[.pointer (some ⟨R, 0, none⟩), .pointer (some ⟨M, 0, none⟩), .slice (some ⟨g, 0, none⟩) F.length F.length] w fun e w' => e = .returned (.tuple #[]) ∧ ∃ cs, w'.heap[M]? = some (.cells cs 34) ∧ OwnM (M + 1) w' cs (RS.fields (F) m s).1 ∧ RdS w' R lo (RS.fields (F) m s).2 ∧ But2 R M w w' := by
  have hMs : M < w.heap.size := (Array.getElem?_eq_some_iff.1 hM).1
  have HF := hide hF
  obtain ⟨n, hnF⟩ : ∃ n, F.length = n := ⟨_, rfl⟩
  rw [hnF] at hlen
  rw [hnF]
  have HNF := hide hnF
  have HG : Hid (∀ x, But2 R M w x → x.heap[g]? = some (.cells (F.map (Value.int .i64)).toArray 97)) := fun x hx => (hx.block g (Array.getElem?_eq_some_iff.1 hg).1 hgR hgM).trans hg
  have HS : Hid (∃ cs, w.heap[M]? = some (.cells cs 34) ∧ OwnM (M + 1) w cs (RS.fields (F.take 0) m s).1 ∧ RdS w R lo (RS.fields (F.take 0) m s).2 ∧ But2 R M w w) := ⟨cs, hM, ho, h, But2.refl _ _ _⟩
  clear h hM ho hg hF hnF
  go_enter Tryz.func99, Tryz.ntmps99
  go_wp2_with fail
  go_loopw [10] (fun c wr => ∃ t : Nat, t ≤ n ∧ c = .int .i64 t ∧ ∃ cs, wr.heap[M]? = some (.cells cs 34) ∧ OwnM (M + 1) wr cs (RS.fields (F.take t) m s).1 ∧ RdS wr R lo (RS.fields (F.take t) m s).2 ∧ But2 R M w wr) (fun c _ => n - (intOf c).toNat)
  case atStart => exact ⟨0, by omega, rfl, unhide HS⟩
  case round =>
    obtain ⟨t, ht, rfl, cw, hM, ho, hr, hb⟩ := hrel
    by_cases hlt : t < n
    · have hltF : t < F.length := by rw [unhide HNF]; exact hlt
      have x2 := unhide HG wr hb
      obtain ⟨f, hf⟩ : ∃ f, F[t] = f := ⟨_, rfl⟩
      have hcf' : wr.cell? ⟨g, t, none⟩ = some (.int .i64 f) := by
        rw [cell_of_row _ _ _ _ _ _ x2]
        simp [hltF, hf]
      have hcf : wr.cell? ⟨g, 0 + t, none⟩ = some (.int .i64 f) := by rw [Nat.zero_add]; exact hcf'
      have hff := unhide HF f (by rw [← hf]; exact List.getElem_mem hltF)
      have htk := take_fields F m s t hltF
      rw [hf] at htk
      have hMw : M + 1 ≤ wr.heap.size := Nat.succ_le_of_lt (Array.getElem?_eq_some_iff.1 hM).1
      generalize RS.fields (F.take t) m s = P at ho hr htk
      obtain ⟨mc, sc⟩ := P
      simp only at ho hr htk
      obtain ⟨lv, tv, dv, rfl, o1, o2, o3⟩ := ho
      obtain ⟨la, lc, rfl⟩ := o1.shape
      obtain ⟨ta, tc, rfl⟩ := o2.shape
      obtain ⟨da, dc, rfl⟩ := own_shape o3
      obtain ⟨aK, aF, aO, aT, aS, aL, aC, aY, LL, ⟨ek, ef, en, LT⟩, ⟨ps, pi, pm, LD⟩⟩ := mc
      simp only at hM o1 o2 o3 htk
      obtain ⟨ll, hll⟩ : ∃ n, LL.length = n := ⟨_, rfl⟩
      obtain ⟨tl, htl⟩ : ∃ n, LT.length = n := ⟨_, rfl⟩
      obtain ⟨dl, hdl⟩ : ∃ n, LD.length = n := ⟨_, rfl⟩
      rw [hll] at hM o1
      rw [htl] at hM o2
      rw [hdl] at hM o3
      have HM := hide hM
      have HB := hide hb
      have HO : Hid (∀ y, But R wr y → OwnTms (M + 1) y (.slice la ll lc) LL ∧ OwnTs (M + 1) y (.slice ta tl tc) LT ∧ y.ownsRow (M + 1) 5 1 (.slice da dl dc) dl (ints .u8 LD)) := fun y hy => ⟨o1.same (but_same hy (by omega)), o2.same (but_same hy (by omega)), own_same o3 (but_same hy (by omega))⟩
      have HTK := hide htk
      have HLL := hide hll
      have HTL := hide htl
      have HDL := hide hdl
      have HR := hide hr
      have HMW := hide hMw
      clear hM hb o1 o2 o3 htk hll htl hdl hr hMw x2 hf
      by_cases h0 : f = 0
      case pos =>
        subst h0
        obtain ⟨v, s2, e2⟩ : ∃ n s', sc.num = (n, s') := ⟨_, _, rfl⟩
        have htk : RS.fields (F.take (t + 1)) m s = (⟨aK, aF, aO, v, aS, aL, aC, aY, LL, ⟨ek, ef, en, LT⟩, ⟨ps, pi, pm, LD⟩⟩, s2) := (unhide HTK).trans (by simp [RS.field, e2])
        have HC := hide (num_r (unhide HR))
        rw [e2] at HC
        simp only at HC
        have HTK2 := hide htk
        clear htk e2 hff HTK
        go_wp2_with fail
        refine (unhide HC).mono ?_
        rintro e y1 ⟨rfl, p, q⟩
        have hy := q.same (unhide HM) (by omega)
        have k3 : y1.cell? ⟨M, 3, none⟩ = some (.int .i64 aT) := cell_of_heap hy
        have fz : ∀ o, y1.frozen? ⟨M, o, none⟩ = false := fun o => frozen_of_heap hy
        have HRR : Hid (∃ cs, (y1.setCell ⟨M, 3, none⟩ (.int .i64 v)).heap[M]? = some (.cells cs 34) ∧ OwnM (M + 1) (y1.setCell ⟨M, 3, none⟩ (.int .i64 v)) cs (RS.fields (F.take (t + 1)) m s).1 ∧ RdS (y1.setCell ⟨M, 3, none⟩ (.int .i64 v)) R lo (RS.fields (F.take (t + 1)) m s).2 ∧ But2 R M w (y1.setCell ⟨M, 3, none⟩ (.int .i64 v))) := by
          rw [unhide HTK2]
          refine ⟨#[.int .i64 aK, .int .i64 aF, .int .i64 aO, .int .i64 v, .int .i64 aS, .int .i64 aL, .int .i64 aC, .bool aY, .slice la ll lc, .int .i64 ek, .int .i64 ef, .int .i64 en, .slice ta tl tc, .int .i64 ps, .int .i64 pi, .int .i64 pm, .slice da dl dc], (setCell_heap hy), ⟨_, _, _, rfl, ?_⟩, (p.other hRM _ _), (((unhide HB).on q).set _ _)⟩
          simp only
          rw [unhide HDL]
          exact ⟨((unhide HO y1 q).1.same (cell_same (Nat.lt_succ_self M))), ((unhide HO y1 q).2.1.same (cell_same (Nat.lt_succ_self M))), (own_same (unhide HO y1 q).2.2 (cell_same (Nat.lt_succ_self M)))⟩
        clear p q hy HC
        go_wp2
        go_roundw
        case rel => exact ⟨t + 1, by omega, by go_num, unhide HRR⟩
        case measure => simp [intOf]; omega
      by_cases h1 : f = 1
      case pos =>
        subst h1
        obtain ⟨v, s2, e2⟩ : ∃ n s', sc.num = (n, s') := ⟨_, _, rfl⟩
        have htk : RS.fields (F.take (t + 1)) m s = (⟨aK, aF, aO, aT, v, aL, aC, aY, LL, ⟨ek, ef, en, LT⟩, ⟨ps, pi, pm, LD⟩⟩, s2) := (unhide HTK).trans (by simp [RS.field, e2])
        have HC := hide (num_r (unhide HR))
        rw [e2] at HC
        simp only at HC
        have HTK2 := hide htk
        clear htk e2 hff HTK
        go_wp2_with fail
        refine (unhide HC).mono ?_
        rintro e y1 ⟨rfl, p, q⟩
        have hy := q.same (unhide HM) (by omega)
        have k4 : y1.cell? ⟨M, 4, none⟩ = some (.int .i64 aS) := cell_of_heap hy
        have fz : ∀ o, y1.frozen? ⟨M, o, none⟩ = false := fun o => frozen_of_heap hy
        have HRR : Hid (∃ cs, (y1.setCell ⟨M, 4, none⟩ (.int .i64 v)).heap[M]? = some (.cells cs 34) ∧ OwnM (M + 1) (y1.setCell ⟨M, 4, none⟩ (.int .i64 v)) cs (RS.fields (F.take (t + 1)) m s).1 ∧ RdS (y1.setCell ⟨M, 4, none⟩ (.int .i64 v)) R lo (RS.fields (F.take (t + 1)) m s).2 ∧ But2 R M w (y1.setCell ⟨M, 4, none⟩ (.int .i64 v))) := by
          rw [unhide HTK2]
          refine ⟨#[.int .i64 aK, .int .i64 aF, .int .i64 aO, .int .i64 aT, .int .i64 v, .int .i64 aL, .int .i64 aC, .bool aY, .slice la ll lc, .int .i64 ek, .int .i64 ef, .int .i64 en, .slice ta tl tc, .int .i64 ps, .int .i64 pi, .int .i64 pm, .slice da dl dc], (setCell_heap hy), ⟨_, _, _, rfl, ?_⟩, (p.other hRM _ _), (((unhide HB).on q).set _ _)⟩
          simp only
          rw [unhide HDL]
          exact ⟨((unhide HO y1 q).1.same (cell_same (Nat.lt_succ_self M))), ((unhide HO y1 q).2.1.same (cell_same (Nat.lt_succ_self M))), (own_same (unhide HO y1 q).2.2 (cell_same (Nat.lt_succ_self M)))⟩
        clear p q hy HC
        go_wp2
        go_roundw
        case rel => exact ⟨t + 1, by omega, by go_num, unhide HRR⟩
        case measure => simp [intOf]; omega
      by_cases h2 : f = 2
      case pos =>
        subst h2
        obtain ⟨v, s2, e2⟩ : ∃ n s', sc.num = (n, s') := ⟨_, _, rfl⟩
        have htk : RS.fields (F.take (t + 1)) m s = (⟨aK, aF, aO, aT, aS, v, aC, aY, LL, ⟨ek, ef, en, LT⟩, ⟨ps, pi, pm, LD⟩⟩, s2) := (unhide HTK).trans (by simp [RS.field, e2])
        have HC := hide (num_r (unhide HR))
        rw [e2] at HC
        simp only at HC
        have HTK2 := hide htk
        clear htk e2 hff HTK
        go_wp2_with fail
        refine (unhide HC).mono ?_
        rintro e y1 ⟨rfl, p, q⟩
        have hy := q.same (unhide HM) (by omega)
        have k5 : y1.cell? ⟨M, 5, none⟩ = some (.int .i64 aL) := cell_of_heap hy
        have fz : ∀ o, y1.frozen? ⟨M, o, none⟩ = false := fun o => frozen_of_heap hy
        have HRR : Hid (∃ cs, (y1.setCell ⟨M, 5, none⟩ (.int .i64 v)).heap[M]? = some (.cells cs 34) ∧ OwnM (M + 1) (y1.setCell ⟨M, 5, none⟩ (.int .i64 v)) cs (RS.fields (F.take (t + 1)) m s).1 ∧ RdS (y1.setCell ⟨M, 5, none⟩ (.int .i64 v)) R lo (RS.fields (F.take (t + 1)) m s).2 ∧ But2 R M w (y1.setCell ⟨M, 5, none⟩ (.int .i64 v))) := by
          rw [unhide HTK2]
          refine ⟨#[.int .i64 aK, .int .i64 aF, .int .i64 aO, .int .i64 aT, .int .i64 aS, .int .i64 v, .int .i64 aC, .bool aY, .slice la ll lc, .int .i64 ek, .int .i64 ef, .int .i64 en, .slice ta tl tc, .int .i64 ps, .int .i64 pi, .int .i64 pm, .slice da dl dc], (setCell_heap hy), ⟨_, _, _, rfl, ?_⟩, (p.other hRM _ _), (((unhide HB).on q).set _ _)⟩
          simp only
          rw [unhide HDL]
          exact ⟨((unhide HO y1 q).1.same (cell_same (Nat.lt_succ_self M))), ((unhide HO y1 q).2.1.same (cell_same (Nat.lt_succ_self M))), (own_same (unhide HO y1 q).2.2 (cell_same (Nat.lt_succ_self M)))⟩
        clear p q hy HC
        go_wp2
        go_roundw
        case rel => exact ⟨t + 1, by omega, by go_num, unhide HRR⟩
        case measure => simp [intOf]; omega
      by_cases h3 : f = 3
      case pos =>
        subst h3
        obtain ⟨v, s2, e2⟩ : ∃ n s', sc.num = (n, s') := ⟨_, _, rfl⟩
        have htk : RS.fields (F.take (t + 1)) m s = (⟨aK, aF, aO, aT, aS, aL, v, aY, LL, ⟨ek, ef, en, LT⟩, ⟨ps, pi, pm, LD⟩⟩, s2) := (unhide HTK).trans (by simp [RS.field, e2])
        have HC := hide (num_r (unhide HR))
        rw [e2] at HC
        simp only at HC
        have HTK2 := hide htk
        clear htk e2 hff HTK
        go_wp2_with fail
        refine (unhide HC).mono ?_
        rintro e y1 ⟨rfl, p, q⟩
        have hy := q.same (unhide HM) (by omega)
        have k6 : y1.cell? ⟨M, 6, none⟩ = some (.int .i64 aC) := cell_of_heap hy
        have fz : ∀ o, y1.frozen? ⟨M, o, none⟩ = false := fun o => frozen_of_heap hy
        have HRR : Hid (∃ cs, (y1.setCell ⟨M, 6, none⟩ (.int .i64 v)).heap[M]? = some (.cells cs 34) ∧ OwnM (M + 1) (y1.setCell ⟨M, 6, none⟩ (.int .i64 v)) cs (RS.fields (F.take (t + 1)) m s).1 ∧ RdS (y1.setCell ⟨M, 6, none⟩ (.int .i64 v)) R lo (RS.fields (F.take (t + 1)) m s).2 ∧ But2 R M w (y1.setCell ⟨M, 6, none⟩ (.int .i64 v))) := by
          rw [unhide HTK2]
          refine ⟨#[.int .i64 aK, .int .i64 aF, .int .i64 aO, .int .i64 aT, .int .i64 aS, .int .i64 aL, .int .i64 v, .bool aY, .slice la ll lc, .int .i64 ek, .int .i64 ef, .int .i64 en, .slice ta tl tc, .int .i64 ps, .int .i64 pi, .int .i64 pm, .slice da dl dc], (setCell_heap hy), ⟨_, _, _, rfl, ?_⟩, (p.other hRM _ _), (((unhide HB).on q).set _ _)⟩
          simp only
          rw [unhide HDL]
          exact ⟨((unhide HO y1 q).1.same (cell_same (Nat.lt_succ_self M))), ((unhide HO y1 q).2.1.same (cell_same (Nat.lt_succ_self M))), (own_same (unhide HO y1 q).2.2 (cell_same (Nat.lt_succ_self M)))⟩
        clear p q hy HC
        go_wp2
        go_roundw
        case rel => exact ⟨t + 1, by omega, by go_num, unhide HRR⟩
        case measure => simp [intOf]; omega
      by_cases h4 : f = 4
      case pos =>
        subst h4
        obtain ⟨v, s2, e2⟩ : ∃ n s', sc.flag = (n, s') := ⟨_, _, rfl⟩
        have htk : RS.fields (F.take (t + 1)) m s = (⟨aK, aF, aO, aT, aS, aL, aC, v, LL, ⟨ek, ef, en, LT⟩, ⟨ps, pi, pm, LD⟩⟩, s2) := (unhide HTK).trans (by simp [RS.field, e2])
        have HC := hide (flag_r (unhide HR))
        rw [e2] at HC
        simp only at HC
        have HTK2 := hide htk
        clear htk e2 hff HTK
        go_wp2_with fail
        refine (unhide HC).mono ?_
        rintro e y1 ⟨rfl, p, q⟩
        have hy := q.same (unhide HM) (by omega)
        have k7 : y1.cell? ⟨M, 7, none⟩ = some (.bool aY) := cell_of_heap hy
        have fz : ∀ o, y1.frozen? ⟨M, o, none⟩ = false := fun o => frozen_of_heap hy
        have HRR : Hid (∃ cs, (y1.setCell ⟨M, 7, none⟩ (.bool v)).heap[M]? = some (.cells cs 34) ∧ OwnM (M + 1) (y1.setCell ⟨M, 7, none⟩ (.bool v)) cs (RS.fields (F.take (t + 1)) m s).1 ∧ RdS (y1.setCell ⟨M, 7, none⟩ (.bool v)) R lo (RS.fields (F.take (t + 1)) m s).2 ∧ But2 R M w (y1.setCell ⟨M, 7, none⟩ (.bool v))) := by
          rw [unhide HTK2]
          refine ⟨#[.int .i64 aK, .int .i64 aF, .int .i64 aO, .int .i64 aT, .int .i64 aS, .int .i64 aL, .int .i64 aC, .bool v, .slice la ll lc, .int .i64 ek, .int .i64 ef, .int .i64 en, .slice ta tl tc, .int .i64 ps, .int .i64 pi, .int .i64 pm, .slice da dl dc], (setCell_heap hy), ⟨_, _, _, rfl, ?_⟩, (p.other hRM _ _), (((unhide HB).on q).set _ _)⟩
          simp only
          rw [unhide HDL]
          exact ⟨((unhide HO y1 q).1.same (cell_same (Nat.lt_succ_self M))), ((unhide HO y1 q).2.1.same (cell_same (Nat.lt_succ_self M))), (own_same (unhide HO y1 q).2.2 (cell_same (Nat.lt_succ_self M)))⟩
        clear p q hy HC
        go_wp2
        go_roundw
        case rel => exact ⟨t + 1, by omega, by go_num, unhide HRR⟩
        case measure => simp [intOf]; omega
      by_cases h5 : f = 5
      case pos =>
        subst h5
        obtain ⟨v, s2, e2⟩ : ∃ n s', sc.list RS.termed = (n, s') := ⟨_, _, rfl⟩
        have htk : RS.fields (F.take (t + 1)) m s = (⟨aK, aF, aO, aT, aS, aL, aC, aY, v, ⟨ek, ef, en, LT⟩, ⟨ps, pi, pm, LD⟩⟩, s2) := (unhide HTK).trans (by simp [RS.field, e2])
        have HC := hide (takeTms_r (unhide HR))
        rw [e2] at HC
        simp only at HC
        have HTK2 := hide htk
        clear htk e2 hff HTK
        go_wp2_with fail
        refine (unhide HC).mono ?_
        rintro e y1 ⟨xv, rfl, ox, p, q⟩
        have hy := q.same (unhide HM) (by omega)
        obtain ⟨xa, xc, rfl⟩ := ox.shape
        have OX := ox.mono (unhide HMW)
        obtain ⟨xl, hxl⟩ : ∃ n, v.length = n := ⟨_, rfl⟩
        rw [hxl] at OX
        rw [hxl]
        have HXL := hide hxl
        clear ox hxl
        have k8 : y1.cell? ⟨M, 8, none⟩ = some (.slice la ll lc) := cell_of_heap hy
        have fz : ∀ o, y1.frozen? ⟨M, o, none⟩ = false := fun o => frozen_of_heap hy
        have HRR : Hid (∃ cs, (y1.setCell ⟨M, 8, none⟩ (.slice xa xl xc)).heap[M]? = some (.cells cs 34) ∧ OwnM (M + 1) (y1.setCell ⟨M, 8, none⟩ (.slice xa xl xc)) cs (RS.fields (F.take (t + 1)) m s).1 ∧ RdS (y1.setCell ⟨M, 8, none⟩ (.slice xa xl xc)) R lo (RS.fields (F.take (t + 1)) m s).2 ∧ But2 R M w (y1.setCell ⟨M, 8, none⟩ (.slice xa xl xc))) := by
          rw [unhide HTK2]
          refine ⟨#[.int .i64 aK, .int .i64 aF, .int .i64 aO, .int .i64 aT, .int .i64 aS, .int .i64 aL, .int .i64 aC, .bool aY, .slice xa xl xc, .int .i64 ek, .int .i64 ef, .int .i64 en, .slice ta tl tc, .int .i64 ps, .int .i64 pi, .int .i64 pm, .slice da dl dc], (setCell_heap hy), ⟨_, _, _, rfl, ?_⟩, (p.other hRM _ _), (((unhide HB).on q).set _ _)⟩
          simp only
          rw [unhide HDL]
          exact ⟨(OX.same (cell_same (Nat.lt_succ_self M))), ((unhide HO y1 q).2.1.same (cell_same (Nat.lt_succ_self M))), (own_same (unhide HO y1 q).2.2 (cell_same (Nat.lt_succ_self M)))⟩
        clear p q hy HC OX
        go_wp2
        go_roundw
        case rel => exact ⟨t + 1, by omega, by go_num, unhide HRR⟩
        case measure => simp [intOf]; omega
      by_cases h6 : f = 6
      case pos =>
        subst h6
        obtain ⟨⟨v1, v2, v3, v⟩, s2, e2⟩ : ∃ (n : EntD) (s' : RS), sc.entry = (n, s') := ⟨_, _, rfl⟩
        have htk : RS.fields (F.take (t + 1)) m s = (⟨aK, aF, aO, aT, aS, aL, aC, aY, LL, ⟨v1, v2, v3, v⟩, ⟨ps, pi, pm, LD⟩⟩, s2) := (unhide HTK).trans (by simp [RS.field, e2])
        have HC := hide (entry_r (unhide HR))
        rw [e2] at HC
        simp only at HC
        have HTK2 := hide htk
        clear htk e2 hff HTK
        go_wp2_with fail
        refine (unhide HC).mono ?_
        rintro e y1 ⟨xcs, rfl, ⟨xv, rfl, ox⟩, p, q⟩
        have hy := q.same (unhide HM) (by omega)
        obtain ⟨xa, xc, rfl⟩ := ox.shape
        have OX := ox.mono (unhide HMW)
        simp only at OX ⊢
        obtain ⟨xl, hxl⟩ : ∃ n, v.length = n := ⟨_, rfl⟩
        rw [hxl] at OX
        rw [hxl]
        have HXL := hide hxl
        clear ox hxl
        have k9 : y1.cell? ⟨M, 9, none⟩ = some (.int .i64 ek) := cell_of_heap hy
        have k10 : y1.cell? ⟨M, 10, none⟩ = some (.int .i64 ef) := cell_of_heap hy
        have k11 : y1.cell? ⟨M, 11, none⟩ = some (.int .i64 en) := cell_of_heap hy
        have k12 : y1.cell? ⟨M, 12, none⟩ = some (.slice ta tl tc) := cell_of_heap hy
        have fz : ∀ o, y1.frozen? ⟨M, o, none⟩ = false := fun o => frozen_of_heap hy
        have HRR : Hid (∃ cs, ((((y1.setCell ⟨M, 9, none⟩ (.int .i64 v1)).setCell ⟨M, 10, none⟩ (.int .i64 v2)).setCell ⟨M, 11, none⟩ (.int .i64 v3)).setCell ⟨M, 12, none⟩ (.slice xa xl xc)).heap[M]? = some (.cells cs 34) ∧ OwnM (M + 1) ((((y1.setCell ⟨M, 9, none⟩ (.int .i64 v1)).setCell ⟨M, 10, none⟩ (.int .i64 v2)).setCell ⟨M, 11, none⟩ (.int .i64 v3)).setCell ⟨M, 12, none⟩ (.slice xa xl xc)) cs (RS.fields (F.take (t + 1)) m s).1 ∧ RdS ((((y1.setCell ⟨M, 9, none⟩ (.int .i64 v1)).setCell ⟨M, 10, none⟩ (.int .i64 v2)).setCell ⟨M, 11, none⟩ (.int .i64 v3)).setCell ⟨M, 12, none⟩ (.slice xa xl xc)) R lo (RS.fields (F.take (t + 1)) m s).2 ∧ But2 R M w ((((y1.setCell ⟨M, 9, none⟩ (.int .i64 v1)).setCell ⟨M, 10, none⟩ (.int .i64 v2)).setCell ⟨M, 11, none⟩ (.int .i64 v3)).setCell ⟨M, 12, none⟩ (.slice xa xl xc))) := by
          rw [unhide HTK2]
          refine ⟨#[.int .i64 aK, .int .i64 aF, .int .i64 aO, .int .i64 aT, .int .i64 aS, .int .i64 aL, .int .i64 aC, .bool aY, .slice la ll lc, .int .i64 v1, .int .i64 v2, .int .i64 v3, .slice xa xl xc, .int .i64 ps, .int .i64 pi, .int .i64 pm, .slice da dl dc], (setCell_heap (setCell_heap (setCell_heap (setCell_heap hy)))), ⟨_, _, _, rfl, ?_⟩, ((((p.other hRM _ _).other hRM _ _).other hRM _ _).other hRM _ _), ((((((unhide HB).on q).set _ _).set _ _).set _ _).set _ _)⟩
          simp only
          rw [unhide HDL]
          exact ⟨(((((unhide HO y1 q).1.same (cell_same (Nat.lt_succ_self M))).same (cell_same (Nat.lt_succ_self M))).same (cell_same (Nat.lt_succ_self M))).same (cell_same (Nat.lt_succ_self M))), ((((OX.same (cell_same (Nat.lt_succ_self M))).same (cell_same (Nat.lt_succ_self M))).same (cell_same (Nat.lt_succ_self M))).same (cell_same (Nat.lt_succ_self M))), (own_same (own_same (own_same (own_same (unhide HO y1 q).2.2 (cell_same (Nat.lt_succ_self M))) (cell_same (Nat.lt_succ_self M))) (cell_same (Nat.lt_succ_self M))) (cell_same (Nat.lt_succ_self M)))⟩
        clear p q hy HC OX
        go_wp2
        go_roundw
        case rel => exact ⟨t + 1, by omega, by go_num, unhide HRR⟩
        case measure => simp [intOf]; omega
      by_cases h7 : f = 7
      case pos =>
        subst h7
        obtain ⟨⟨v1, v2, v3, v⟩, s2, e2⟩ : ∃ (n : PtD) (s' : RS), sc.part = (n, s') := ⟨_, _, rfl⟩
        have htk : RS.fields (F.take (t + 1)) m s = (⟨aK, aF, aO, aT, aS, aL, aC, aY, LL, ⟨ek, ef, en, LT⟩, ⟨v1, v2, v3, v⟩⟩, s2) := (unhide HTK).trans (by simp [RS.field, e2])
        have HC := hide (part_r (unhide HR))
        rw [e2] at HC
        simp only at HC
        have HTK2 := hide htk
        clear htk e2 hff HTK
        go_wp2_with fail
        refine (unhide HC).mono ?_
        rintro e y1 ⟨xv, rfl, ox, p, q⟩
        have hy := q.same (unhide HM) (by omega)
        obtain ⟨xa, xc, rfl⟩ := own_shape ox
        have OX := own_mono ox (unhide HMW)
        simp only at OX ⊢
        obtain ⟨xl, hxl⟩ : ∃ n, v.length = n := ⟨_, rfl⟩
        rw [hxl] at OX
        rw [hxl]
        have HXL := hide hxl
        clear ox hxl
        have k13 : y1.cell? ⟨M, 13, none⟩ = some (.int .i64 ps) := cell_of_heap hy
        have k14 : y1.cell? ⟨M, 14, none⟩ = some (.int .i64 pi) := cell_of_heap hy
        have k15 : y1.cell? ⟨M, 15, none⟩ = some (.int .i64 pm) := cell_of_heap hy
        have k16 : y1.cell? ⟨M, 16, none⟩ = some (.slice da dl dc) := cell_of_heap hy
        have fz : ∀ o, y1.frozen? ⟨M, o, none⟩ = false := fun o => frozen_of_heap hy
        have HRR : Hid (∃ cs, ((((y1.setCell ⟨M, 13, none⟩ (.int .i64 v1)).setCell ⟨M, 14, none⟩ (.int .i64 v2)).setCell ⟨M, 15, none⟩ (.int .i64 v3)).setCell ⟨M, 16, none⟩ (.slice xa xl xc)).heap[M]? = some (.cells cs 34) ∧ OwnM (M + 1) ((((y1.setCell ⟨M, 13, none⟩ (.int .i64 v1)).setCell ⟨M, 14, none⟩ (.int .i64 v2)).setCell ⟨M, 15, none⟩ (.int .i64 v3)).setCell ⟨M, 16, none⟩ (.slice xa xl xc)) cs (RS.fields (F.take (t + 1)) m s).1 ∧ RdS ((((y1.setCell ⟨M, 13, none⟩ (.int .i64 v1)).setCell ⟨M, 14, none⟩ (.int .i64 v2)).setCell ⟨M, 15, none⟩ (.int .i64 v3)).setCell ⟨M, 16, none⟩ (.slice xa xl xc)) R lo (RS.fields (F.take (t + 1)) m s).2 ∧ But2 R M w ((((y1.setCell ⟨M, 13, none⟩ (.int .i64 v1)).setCell ⟨M, 14, none⟩ (.int .i64 v2)).setCell ⟨M, 15, none⟩ (.int .i64 v3)).setCell ⟨M, 16, none⟩ (.slice xa xl xc))) := by
          rw [unhide HTK2]
          refine ⟨#[.int .i64 aK, .int .i64 aF, .int .i64 aO, .int .i64 aT, .int .i64 aS, .int .i64 aL, .int .i64 aC, .bool aY, .slice la ll lc, .int .i64 ek, .int .i64 ef, .int .i64 en, .slice ta tl tc, .int .i64 v1, .int .i64 v2, .int .i64 v3, .slice xa xl xc], (setCell_heap (setCell_heap (setCell_heap (setCell_heap hy)))), ⟨_, _, _, rfl, ?_⟩, ((((p.other hRM _ _).other hRM _ _).other hRM _ _).other hRM _ _), ((((((unhide HB).on q).set _ _).set _ _).set _ _).set _ _)⟩
          simp only
          rw [unhide HXL]
          exact ⟨(((((unhide HO y1 q).1.same (cell_same (Nat.lt_succ_self M))).same (cell_same (Nat.lt_succ_self M))).same (cell_same (Nat.lt_succ_self M))).same (cell_same (Nat.lt_succ_self M))), (((((unhide HO y1 q).2.1.same (cell_same (Nat.lt_succ_self M))).same (cell_same (Nat.lt_succ_self M))).same (cell_same (Nat.lt_succ_self M))).same (cell_same (Nat.lt_succ_self M))), (own_same (own_same (own_same (own_same OX (cell_same (Nat.lt_succ_self M))) (cell_same (Nat.lt_succ_self M))) (cell_same (Nat.lt_succ_self M))) (cell_same (Nat.lt_succ_self M)))⟩
        clear p q hy HC OX
        go_wp2
        go_roundw
        case rel => exact ⟨t + 1, by omega, by go_num, unhide HRR⟩
        case measure => simp [intOf]; omega
      omega
    · obtain rfl : n = t := by omega
      rw [List.take_of_length_le (by rw [unhide HNF]; exact Nat.le_refl _)] at ho hr
      have HE : Hid (∃ cs, wr.heap[M]? = some (.cells cs 34) ∧ OwnM (M + 1) wr cs (RS.fields (F) m s).1 ∧ RdS wr R lo (RS.fields (F) m s).2 ∧ But2 R M w wr) := ⟨cw, hM, ho, hr, hb⟩
      clear hM ho hr hb
      go_wp2
      go_end0
      exact ⟨rfl, unhide HE⟩
end Go.Proofs.YtggllgimlfchhaaGreat

/- Record: the document's reader: parts and lists of termed entries. -/
namespace Go.Proofs.YtggllgimlfchhaaGreat
open Go.RowKit
set_option maxRecDepth 100000

/-- Where a part that is read stands. -/
structure PJ (w : World) (R lo : Nat) (ZB : List Int) (a b c : Int) (s : RS) (wr : World) : Prop where
  t : wr.heap[w.heap.size + 1]? = some (.cells #[.int .i64 a, .int .i64 b, .int .i64 c, .slice none 0 0] 32)
  z : wr.heap[w.heap.size]? = some (.cells #[.int .i64 0, .int .i64 0, .int .i64 0, .slice none 0 0] 32)
  rd : Dr wr R lo ZB s
  but : But R w wr
  size : w.heap.size + 2 ≤ wr.heap.size
theorem PJ.call {w : World} {R lo : Nat} {ZB : List Int} {a b c : Int} {s s' : RS} {wr y : World} (h : PJ w R lo ZB a b c s wr) (hR : R < w.heap.size) (hd : Dr y R lo ZB s') (hb : But R wr y) : PJ w R lo ZB a b c s' y :=
  ⟨hb.same h.t (by omega), hb.same h.z (by omega), hd, h.but.trans hb, Nat.le_trans h.size hb.size⟩
theorem PJ.set {w : World} {R lo : Nat} {ZB : List Int} {a b c a' b' c' : Int} {s : RS} {wr : World} (h : PJ w R lo ZB a b c s wr) (hR : R < w.heap.size) (o : Nat) (v : Value) (he : (#[.int .i64 a, .int .i64 b, .int .i64 c, .slice none 0 0] : Array Value).setIfInBounds o v = #[.int .i64 a', .int .i64 b', .int .i64 c', .slice none 0 0]) : PJ w R lo ZB a' b' c' s (wr.setCell ⟨w.heap.size + 1, o, none⟩ v) :=
  ⟨by rw [← he]; exact setCell_heap h.t, (Below.heap_setCell _ _ _ _ (fun e => by simp only at e; omega)).trans h.z, h.rd.other (by omega) o _, h.but.new (b := w.heap.size + 1) (by omega) o _, by simp only [World.setCell, Array.size_modify]; exact h.size⟩
def RS.dpart (s : RS) : PtD × RS := (⟨s.num.1, s.num.2.small.1, s.num.2.small.2.small.1, s.num.2.small.2.small.2.blob.1⟩, s.num.2.small.2.small.2.blob.2)

set_option maxHeartbeats 1600000 in
theorem part_d {w : World} {R lo : Nat} {ZB : List Int} {s : RS} (h : Dr w R lo ZB s) :
    Calls Tryz.prog 103 #[.pointer (some ⟨R, 0, none⟩)] w fun e w' => ∃ dv, e = .returned (.agg #[.int .i64 s.dpart.1.slot, .int .i64 s.dpart.1.idx, .int .i64 s.dpart.1.many, dv]) ∧ w'.ownsRow w.heap.size 5 1 dv s.dpart.1.data.length (ints .u8 s.dpart.1.data) ∧ Dr w' R lo ZB s.dpart.2 ∧ But R w w' := by
  have hr := h.rlt
  obtain ⟨a, s1, e1⟩ : ∃ n s', s.num = (n, s') := ⟨_, _, rfl⟩
  obtain ⟨b, s2, e2⟩ : ∃ n s', s1.small = (n, s') := ⟨_, _, rfl⟩
  obtain ⟨c, s3, e3⟩ : ∃ n s', s2.small = (n, s') := ⟨_, _, rfl⟩
  obtain ⟨l, s4, e4⟩ : ∃ n s', s3.blob = (n, s') := ⟨_, _, rfl⟩
  have et : s.dpart = (⟨a, b, c, l⟩, s4) := by simp only [RS.dpart, e1, e2, e3, e4]
  rw [et]
  simp only
  have HE2 := hide e2
  have HE3 := hide e3
  have HE4 := hide e4
  have hal : Below w.heap.size w ((w.alloc (.cells #[.int .i64 0, .int .i64 0, .int .i64 0, .slice none 0 0] 32)).alloc (.cells #[.int .i64 0, .int .i64 0, .int .i64 0, .slice none 0 0] 32)) := ((Below.refl _ _).alloc (Nat.le_refl _) _).alloc (by simp) _
  have hz0 : ((w.alloc (.cells #[.int .i64 0, .int .i64 0, .int .i64 0, .slice none 0 0] 32)).alloc (.cells #[.int .i64 0, .int .i64 0, .int .i64 0, .slice none 0 0] 32)).heap[w.heap.size]? = some (.cells #[.int .i64 0, .int .i64 0, .int .i64 0, .slice none 0 0] 32) := (Below.heap_alloc _ _ _ (by simp)).trans (heap_alloc_new w _)
  have hs0 : (w.alloc (.cells #[.int .i64 0, .int .i64 0, .int .i64 0, .slice none 0 0] 32)).heap.size = w.heap.size + 1 := by simp
  have ht0 : ((w.alloc (.cells #[.int .i64 0, .int .i64 0, .int .i64 0, .slice none 0 0] 32)).alloc (.cells #[.int .i64 0, .int .i64 0, .int .i64 0, .slice none 0 0] 32)).heap[w.heap.size + 1]? = some (.cells #[.int .i64 0, .int .i64 0, .int .i64 0, .slice none 0 0] 32) := by have := heap_alloc_new (w.alloc (.cells #[.int .i64 0, .int .i64 0, .int .i64 0, .slice none 0 0] 32)) (.cells #[.int .i64 0, .int .i64 0, .int .i64 0, .slice none 0 0] 32); rw [hs0] at this; exact this
  have hs1 : ((w.alloc (.cells #[.int .i64 0, .int .i64 0, .int .i64 0, .slice none 0 0] 32)).alloc (.cells #[.int .i64 0, .int .i64 0, .int .i64 0, .slice none 0 0] 32)).heap.size = w.heap.size + 2 := by simp
  have HC0 := hide (num_d (h.below hal))
  rw [e1] at HC0
  simp only at HC0
  obtain ⟨w2, hw2⟩ : ∃ y, ((w.alloc (.cells #[.int .i64 0, .int .i64 0, .int .i64 0, .slice none 0 0] 32)).alloc (.cells #[.int .i64 0, .int .i64 0, .int .i64 0, .slice none 0 0] 32)) = y := ⟨_, rfl⟩
  rw [hw2] at hal hz0 ht0 hs1 HC0
  have HJ0 : Hid (PJ w R lo ZB 0 0 0 s w2) := ⟨ht0, hz0, h.below hal, But.of hal, by omega⟩
  clear h hal hz0 hs0 ht0 hs1 e1 e2 e3 e4 et
  go_enter Tryz.func103, Tryz.ntmps103
  go_wp2_with (rw [hw2])
  refine (unhide HC0).mono ?_
  rintro e y1 ⟨rfl, p, q⟩
  have j1 := (unhide HJ0).call hr p q
  have k0 : y1.cell? ⟨w.heap.size + 1, 0, none⟩ = some (.int .i64 0) := cell_of_heap j1.t
  have f0 : ∀ o, y1.frozen? ⟨w.heap.size + 1, o, none⟩ = false := fun o => frozen_of_heap j1.t
  have j2 := j1.set hr 0 (.int .i64 a) (a' := a) (b' := 0) (c' := 0) rfl
  have HJ1 := hide j2
  have HC1 := hide (small_d j2.rd)
  rw [unhide HE2] at HC1
  simp only at HC1
  clear p q j1 j2 HC0 HJ0
  go_wp2_with fail
  refine (unhide HC1).mono ?_
  rintro e y2 ⟨rfl, p, q⟩
  have j1 := (unhide HJ1).call hr p q
  have k1 : y2.cell? ⟨w.heap.size + 1, 1, none⟩ = some (.int .i64 0) := cell_of_heap j1.t
  have f1 : ∀ o, y2.frozen? ⟨w.heap.size + 1, o, none⟩ = false := fun o => frozen_of_heap j1.t
  have j2 := j1.set hr 1 (.int .i64 b) (a' := a) (b' := b) (c' := 0) rfl
  have HJ2 := hide j2
  have HC2 := hide (small_d j2.rd)
  rw [unhide HE3] at HC2
  simp only at HC2
  clear p q j1 j2 HC1 HJ1
  go_wp2_with fail
  refine (unhide HC2).mono ?_
  rintro e y3 ⟨rfl, p, q⟩
  have j1 := (unhide HJ2).call hr p q
  have k2 : y3.cell? ⟨w.heap.size + 1, 2, none⟩ = some (.int .i64 0) := cell_of_heap j1.t
  have f2 : ∀ o, y3.frozen? ⟨w.heap.size + 1, o, none⟩ = false := fun o => frozen_of_heap j1.t
  have j2 := j1.set hr 2 (.int .i64 c) (a' := a) (b' := b) (c' := c) rfl
  have HJ3 := hide j2
  have HC3 := hide (data_d j2.rd)
  rw [unhide HE4] at HC3
  simp only at HC3
  clear p q j1 j2 HC2 HJ2
  go_wp2_with fail
  refine (unhide HC3).mono ?_
  rintro e y4 ⟨dv, rfl, ot, p, q⟩
  have ot2 := own_mono ot (unhide HJ3).size
  obtain ⟨ta, tc, rfl⟩ := own_shape ot
  obtain ⟨tl, htl⟩ : ∃ n, l.length = n := ⟨_, rfl⟩
  rw [htl] at ot2
  rw [htl]
  have HTL := hide htl
  have j1 := (unhide HJ3).call hr p q
  have k3 : y4.cell? ⟨w.heap.size + 1, 3, none⟩ = some (.slice none 0 0) := cell_of_heap j1.t
  have f3 : ∀ o, y4.frozen? ⟨w.heap.size + 1, o, none⟩ = false := fun o => frozen_of_heap j1.t
  have hx5 : (y4.setCell ⟨w.heap.size + 1, 3, none⟩ (.slice ta tl tc)).heap[w.heap.size + 1]? = some (.cells #[.int .i64 a, .int .i64 b, .int .i64 c, .slice ta tl tc] 32) := setCell_heap j1.t
  have hz5 : (y4.setCell ⟨w.heap.size + 1, 3, none⟩ (.slice ta tl tc)).heap[w.heap.size]? = some (.cells #[.int .i64 0, .int .i64 0, .int .i64 0, .slice none 0 0] 32) := (Below.heap_setCell _ _ _ _ (fun e => by simp only at e; omega)).trans j1.z
  have p5 := j1.rd.other (b := w.heap.size + 1) (by omega) 3 (.slice ta tl tc)
  have b5 := j1.but.new (b := w.heap.size + 1) (by omega) 3 (.slice ta tl tc)
  have o5 := own_setR ot2 (R := w.heap.size + 1) (by omega) 3 (.slice ta tl tc)
  obtain ⟨y5, hy5⟩ : ∃ y, y4.setCell ⟨w.heap.size + 1, 3, none⟩ (.slice ta tl tc) = y := ⟨_, rfl⟩
  rw [hy5] at hx5 hz5 p5 b5 o5
  have HX9 := hide hx5
  have HZ9 := hide hz5
  have HF : Hid (∀ cs, (y5.setRow w.heap.size cs).ownsRow w.heap.size 5 1 (.slice ta tl tc) tl (ints .u8 l) ∧ Dr (y5.setRow w.heap.size cs) R lo ZB s4 ∧ But R w (y5.setRow w.heap.size cs)) := fun cs => ⟨own_mono (own_same o5 (row_same cs (by omega))) (by omega), p5.keep (fun k hk => setRow_other _ _ _ _ (by omega)), b5.newRow (Nat.le_refl _) _⟩
  clear p q ot ot2 j1 hx5 hz5 p5 b5 o5 htl HC3 HJ3
  go_wp2_with (first | rw [hy5] | refine wpList_load_row rfl 32 _ rfl (w.heap.size + 1) rfl 32 _ (0, 0) _ (unhide HX9) Tryz.underlying32 rfl (by kernel_rfl) ?_ | refine wpList_store_row rfl 32 _ _ rfl w.heap.size _ _ rfl rfl 32 (unhide HZ9) (by kernel_rfl) rfl (by first | kernel_rfl | simp [Value.oneCell']) ?_)
  refine bodyPost_ret (results_cell_row rfl _ _ w.heap.size 32 #[.int .i64 a, .int .i64 b, .int .i64 c, .slice ta tl tc] (0, 0) _ rfl (setRow_heap _ _ _ _ _ _ (unhide HZ9)) Tryz.underlying32 rfl (by kernel_rfl)) rfl ?_
  rw [unhide HTL]
  exact ⟨_, rfl, unhide HF _⟩

def RS.dtermed (s : RS) : TmD × RS := (⟨s.num.1, s.num.2.dentry.1⟩, s.num.2.dentry.2)
set_option maxHeartbeats 1600000 in
theorem list_d {w : World} {R lo : Nat} {ZB : List Int} {s : RS} (h : Dr w R lo ZB s) :
    Calls Tryz.prog 102 #[.pointer (some ⟨R, 0, none⟩)] w fun e w' => ∃ x, e = .returned x ∧ OwnTms w.heap.size w' x (s.list RS.dtermed).1 ∧ Dr w' R lo ZB (s.list RS.dtermed).2 ∧ But R w w' := by
  obtain ⟨i0, hi, hz0, hz1, hz2⟩ := info_parts Tryz.info140
  have hr := h.rlt
  have HC0 := hide (len_d h)
  obtain ⟨m, hm, hm4⟩ := lenV_nat s.num.1
  obtain ⟨l4, s4, e4⟩ : ∃ n s', s.list RS.dtermed = (n, s') := ⟨_, _, rfl⟩
  have hl4 : RS.iter RS.dtermed m s.len = (l4, s4) := by have := e4; rw [list_lenV, hm, Int.toNat_natCast] at this; exact this
  rw [e4]
  simp only
  obtain ⟨sL, hsL⟩ : ∃ x, s.len = x := ⟨_, rfl⟩
  rw [hsL, hm] at HC0
  rw [hsL] at hl4
  have HL4 := hide hl4
  clear h hm e4 hsL hl4
  go_enter Tryz.func102, Tryz.ntmps102
  go_wp2_with fail
  refine (unhide HC0).mono ?_
  rintro e w1 ⟨rfl, p1, q1⟩
  have HS : Hid (Dr w1 R lo ZB sL ∧ But R w w1) := ⟨p1, q1⟩
  clear p1 q1 HC0
  go_wp2_with fail
  go_loopw [4, 5] (fun v c wr => ∃ i : Nat, i ≤ m ∧ c = .int .i64 i ∧ OwnTms w.heap.size wr v (RS.iter RS.dtermed i sL).1 ∧ Dr wr R lo ZB (RS.iter RS.dtermed i sL).2 ∧ But R w wr) (fun _ c _ => m - (intOf c).toNat)
  case atStart => exact ⟨0, by omega, rfl, OwnTms.nil _ _, (unhide HS).1, (unhide HS).2⟩
  case round =>
    obtain ⟨i, him, rfl, ho, hd, hb⟩ := hrel
    obtain ⟨ao, ca, rfl⟩ := ho.shape
    have g1 := hd.ce
    have hil := iter_len RS.dtermed sL i
    by_cases hlt : i < m
    · by_cases he : (RS.iter RS.dtermed i sL).2.er = 0
      · rw [he] at g1
        have hst := iter_step he
        clear he
        generalize RS.iter RS.dtermed i sL = it at *
        obtain ⟨L, sI⟩ := it
        simp only at ho hd hst hil g1 ⊢
        obtain ⟨a, sA, eA⟩ : ∃ n s', sI.num = (n, s') := ⟨_, _, rfl⟩
        obtain ⟨k, f, n, lt, sB, eB⟩ : ∃ k f n l s', sA.dentry = (⟨k, f, n, l⟩, s') := ⟨_, _, _, _, _, rfl⟩
        have hst2 : RS.iter RS.dtermed (i + 1) sL = (L ++ [⟨a, ⟨k, f, n, lt⟩⟩], sB) := by rw [hst]; simp only [RS.dtermed, eA, eB]
        have HST := hide hst2
        have HEB := hide eB
        have hal : Below wr.heap.size wr (wr.alloc (.cells #[.int .i64 0, .int .i64 0, .int .i64 0, .int .i64 0, .slice none 0 0] 140)) := (Below.refl _ _).alloc (Nat.le_refl _) _
        have hxa : (wr.alloc (.cells #[.int .i64 0, .int .i64 0, .int .i64 0, .int .i64 0, .slice none 0 0] 140)).heap[wr.heap.size]? = some (.cells #[.int .i64 0, .int .i64 0, .int .i64 0, .int .i64 0, .slice none 0 0] 140) := heap_alloc_new wr _
        have hsa : (wr.alloc (.cells #[.int .i64 0, .int .i64 0, .int .i64 0, .int .i64 0, .slice none 0 0] 140)).heap.size = wr.heap.size + 1 := by simp
        have HC1 := hide (num_d (hd.below hal))
        rw [eA] at HC1
        simp only at HC1
        obtain ⟨wa, hwa⟩ : ∃ y, wr.alloc (.cells #[.int .i64 0, .int .i64 0, .int .i64 0, .int .i64 0, .slice none 0 0] 140) = y := ⟨_, rfl⟩
        rw [hwa] at hal hxa hsa HC1
        obtain ⟨X, hX⟩ : ∃ n, wr.heap.size = n := ⟨_, rfl⟩
        have hsz := hb.size
        rw [hX] at hxa hsa hsz
        have HXA := hide hxa
        have HBA : Hid (But R wr wa) := But.of hal
        have HO := hide ho
        have HB := hide hb
        have HXE := hide hX
        have HSA := hide hsa
        clear hst hst2 eA eB hal hxa hsa ho hd hb HS
        go_wp2_with (first | rw [hwa] | rw [hX])
        refine (unhide HC1).mono ?_
        rintro e y1 ⟨rfl, p1, q1⟩
        have hx1 := q1.same (unhide HXA) (by omega)
        have k0 : y1.cell? ⟨X, 0, none⟩ = some (.int .i64 0) := cell_of_heap hx1
        have f0 : ∀ o, y1.frozen? ⟨X, o, none⟩ = false := fun o => frozen_of_heap hx1
        have b2 := ((unhide HBA).trans q1).new (b := X) (by have := unhide HXE; omega) 0 (.int .i64 a)
        have p2 := p1.other (b := X) (by omega) 0 (.int .i64 a)
        have hx2 : (y1.setCell ⟨X, 0, none⟩ (.int .i64 a)).heap[X]? = some (.cells #[.int .i64 a, .int .i64 0, .int .i64 0, .int .i64 0, .slice none 0 0] 140) := setCell_heap hx1
        obtain ⟨y2, hy2⟩ : ∃ y, y1.setCell ⟨X, 0, none⟩ (.int .i64 a) = y := ⟨_, rfl⟩
        rw [hy2] at b2 p2 hx2
        have HX2 := hide hx2
        have HB2 := hide b2
        have HS2 : Hid (X + 1 ≤ y2.heap.size) := (Array.getElem?_eq_some_iff.1 hx2).1
        have HC2 := hide (entry_d p2)
        rw [unhide HEB] at HC2
        simp only at HC2
        clear p1 q1 hx1 b2 p2 hx2 HC1
        go_wp2_with (rw [hy2])
        refine (unhide HC2).mono ?_
        rintro e y3 ⟨cs, rfl, ⟨tv, rfl, ot⟩, p3, q3⟩
        obtain ⟨ta, tc, rfl⟩ := ot.shape
        have ot2 := ot.mono (unhide HS2)
        simp only at ot2 ⊢
        obtain ⟨tl, htl⟩ : ∃ n, lt.length = n := ⟨_, rfl⟩
        rw [htl] at ot2
        rw [htl]
        have hx3 := q3.same (unhide HX2) (by omega)
        have k1 : y3.cell? ⟨X, 1, none⟩ = some (.int .i64 0) := cell_of_heap hx3
        have k2 : y3.cell? ⟨X, 2, none⟩ = some (.int .i64 0) := cell_of_heap hx3
        have k3 : y3.cell? ⟨X, 3, none⟩ = some (.int .i64 0) := cell_of_heap hx3
        have k4 : y3.cell? ⟨X, 4, none⟩ = some (.slice none 0 0) := cell_of_heap hx3
        have f3 : ∀ o, y3.frozen? ⟨X, o, none⟩ = false := fun o => frozen_of_heap hx3
        have b4 := ((((unhide HB2).trans q3).new (b := X) (by have := unhide HXE; omega) 1 (.int .i64 k)).new (b := X) (by have := unhide HXE; omega) 2 (.int .i64 f)).new (b := X) (by have := unhide HXE; omega) 3 (.int .i64 n)
        have b4 := b4.new (b := X) (by have := unhide HXE; omega) 4 (.slice ta tl tc)
        have p4 := (((p3.other (b := X) (by omega) 1 (.int .i64 k)).other (b := X) (by omega) 2 (.int .i64 f)).other (b := X) (by omega) 3 (.int .i64 n)).other (b := X) (by omega) 4 (.slice ta tl tc)
        have hx4 : ((((y3.setCell ⟨X, 1, none⟩ (.int .i64 k)).setCell ⟨X, 2, none⟩ (.int .i64 f)).setCell ⟨X, 3, none⟩ (.int .i64 n)).setCell ⟨X, 4, none⟩ (.slice ta tl tc)).heap[X]? = some (.cells #[.int .i64 a, .int .i64 k, .int .i64 f, .int .i64 n, .slice ta tl tc] 140) := setCell_heap (setCell_heap (setCell_heap (setCell_heap hx3)))
        have o4 := (((ot2.same (cell_same (o := 1) (u := .int .i64 k) (Nat.lt_succ_self X))).same (cell_same (o := 2) (u := .int .i64 f) (Nat.lt_succ_self X))).same (cell_same (o := 3) (u := .int .i64 n) (Nat.lt_succ_self X))).same (cell_same (o := 4) (u := .slice ta tl tc) (Nat.lt_succ_self X))
        obtain ⟨y4, hy4⟩ : ∃ y, ((((y3.setCell ⟨X, 1, none⟩ (.int .i64 k)).setCell ⟨X, 2, none⟩ (.int .i64 f)).setCell ⟨X, 3, none⟩ (.int .i64 n)).setCell ⟨X, 4, none⟩ (.slice ta tl tc)) = y := ⟨_, rfl⟩
        rw [hy4] at b4 p4 hx4 o4
        have hal5 : Below y4.heap.size y4 (y4.alloc (.cells #[.int .i64 a, .int .i64 k, .int .i64 f, .int .i64 n, .slice ta tl tc] 140)) := (Below.refl _ _).alloc (Nat.le_refl _) _
        obtain ⟨vs, hvs, hrow, hall⟩ := unhide HO
        have hk : ∀ j, w.heap.size ≤ j → j < wr.heap.size → (y4.alloc (.cells #[.int .i64 a, .int .i64 k, .int .i64 f, .int .i64 n, .slice ta tl tc] 140)).heap[j]? = wr.heap[j]? := fun j h1 h2 => (hal5.block j (Nat.lt_of_lt_of_le h2 b4.size)).trans (b4.block j h2 (by omega))
        have HO5 := hide (own_same hrow hk)
        have HALL : Hid (∀ p ∈ vs ++ [((⟨a, ⟨k, f, n, lt⟩⟩ : TmD), Value.slice ta tl tc)], OwnTs w.heap.size (y4.alloc (.cells #[.int .i64 a, .int .i64 k, .int .i64 f, .int .i64 n, .slice ta tl tc] 140)) p.2 p.1.ent.txns) := fun p hp => by
          rcases List.mem_append.1 hp with hp | hp
          · exact (hall p hp).same hk
          · rw [List.mem_singleton] at hp
            subst hp
            exact (o4.mono (by omega)).below hal5
        have HVS := hide hvs
        have HR5 := hide (p4.below hal5)
        have HB5 := hide (((unhide HB).trans b4).trans (But.of hal5))
        have HX4 := hide hx4
        have HSZ5 : Hid (w.heap.size ≤ (y4.alloc (.cells #[.int .i64 a, .int .i64 k, .int .i64 f, .int .i64 n, .slice ta tl tc] 140)).heap.size) := (unhide HB5).size
        clear p3 q3 ot ot2 hx3 b4 p4 hx4 o4 hal5 hk hvs hrow hall htl HC2
        go_wp2_with (first | rw [hy4] | refine wpList_load_row rfl 140 _ rfl X rfl 140 _ (0, 0) _ (unhide HX4) Tryz.underlying140 rfl (by kernel_rfl) ?_ | (at_builtin; refine wpList_append_own _ rfl _ _ 30 rfl w.heap.size 140 i0 (.agg #[.int .i64 0, .int .i64 0, .int .i64 0, .int .i64 0, .slice none 0 0]) 5 56 Tryz.underlying30 hi hz0 hz1 hz2 rfl (by decide) _ _ _ rfl (unhide HO5) ⟨y4.heap.size, 0, none⟩ 1 1 [.int .i64 a, .int .i64 k, .int .i64 f, .int .i64 n, .slice ta tl tc] rfl rfl ?d0 ?d1 ?d2 ?d3 ?d4 ?_))
        case d0 =>
          intro j u hu
          have hj : j < 5 := by have := (List.getElem?_eq_some_iff.1 hu).1; simpa using this
          have hadd : (⟨y4.heap.size, 0, none⟩ : Addr).add j = ⟨y4.heap.size, j, none⟩ := by unfold Addr.add; split <;> simp_all
          rw [hadd, World.cell?_alloc_new]
          simpa using hu
        case d1 => first | exact ⟨rfl, rfl, rfl, rfl, rfl⟩ | (intro u hu; simp at hu; rcases hu with rfl | rfl | rfl | rfl | rfl <;> rfl)
        case d2 => unfold maxLen; omega
        case d3 => omega
        case d4 => have := unhide HSZ5; simpa using this
        intro v' w4 ho4 hg4 _
        obtain ⟨ao', ca', rfl⟩ := own_shapeN ho4
        have HF : Hid (OwnTms w.heap.size w4 (.slice ao' (L.length + 1) ca') (RS.iter RS.dtermed (i + 1) sL).1 ∧ Dr w4 R lo ZB (RS.iter RS.dtermed (i + 1) sL).2 ∧ But R w w4) := by
          rw [unhide HST]
          refine ⟨⟨_, ?_, ?_, fun p hp => (unhide HALL p hp).grownM (unhide HO5) hg4⟩, (unhide HR5).grown (unhide HO5) hr hg4, (unhide HB5).grown (unhide HO5) (Nat.le_refl _) hg4⟩
          · rw [List.map_append, unhide HVS]
            rfl
          · rw [List.flatMap_append, List.length_append]
            simp only [List.flatMap_cons, List.flatMap_nil, List.append_nil, List.length_cons, List.length_nil]
            exact ho4
        clear ho4 hg4
        go_wp2
        go_roundw
        case rel => exact ⟨i + 1, by omega, by go_num, (unhide HF).1, (unhide HF).2.1, (unhide HF).2.2⟩
        case measure => simp [intOf]; omega
      · have hE : RS.iter RS.dtermed i sL = (l4, s4) := by
          have e := iter_stop (take := RS.dtermed) (k := i) (s := sL) he (m - i)
          rw [show i + (m - i) = m by omega] at e
          rw [← e]; exact unhide HL4
        rw [hE] at g1 ho hd he
        have heb : (s4.er == 0) = false := by simpa using he
        have HF : Hid (OwnTms w.heap.size wr (.slice ao l4.length ca) l4 ∧ Dr wr R lo ZB s4 ∧ But R w wr) := by rw [hE] at *; exact ⟨ho, hd, hb⟩
        rw [hE]
        clear ho hd hb hil HS
        simp only
        generalize l4.length = L0 at *
        go_wp2
        go_ret
        exact ⟨_, rfl, unhide HF⟩
    · obtain rfl : i = m := by omega
      have hE : RS.iter RS.dtermed i sL = (l4, s4) := unhide HL4
      rw [hE] at g1 ho hd
      have HF : Hid (OwnTms w.heap.size wr (.slice ao l4.length ca) l4 ∧ Dr wr R lo ZB s4 ∧ But R w wr) := by rw [hE] at *; exact ⟨ho, hd, hb⟩
      rw [hE]
      clear ho hd hb hil HS
      simp only
      generalize l4.length = L0 at *
      go_wp2
      go_ret
      exact ⟨_, rfl, unhide HF⟩
end Go.Proofs.YtggllgimlfchhaaGreat
