/- Record: a message's fields, read. -/
import Derived.Test.YtggllgimlfchhabGreatEB
import Derived.Test.YtggllgimlfchhabGreatCF
namespace Go.Proofs.YtggllgimlfchhabGreat
open Go.RowKit
set_option maxRecDepth 100000

/-- Only the blocks R and M are written. -/
structure But2 (R M : Nat) (w w' : World) : Prop where
  os : w'.os = w.os
  tape : w'.tape = w.tape
  output : w'.output = w.output
  size : w.heap.size ≤ w'.heap.size
  block : ∀ k, k < w.heap.size → k ≠ R → k ≠ M → w'.heap[k]? = w.heap[k]?
theorem But2.refl (R M : Nat) (w : World) : But2 R M w w := ⟨rfl, rfl, rfl, Nat.le_refl _, fun _ _ _ _ => rfl⟩
theorem But2.on {R M : Nat} {a b c : World} (h : But2 R M a b) (k : But R b c) : But2 R M a c :=
  ⟨k.os.trans h.os, k.tape.trans h.tape, k.output.trans h.output, Nat.le_trans h.size k.size, fun i hi hR hM => (k.block i (Nat.lt_of_lt_of_le hi h.size) hR).trans (h.block i hi hR hM)⟩
theorem But2.set {R M : Nat} {a w : World} (h : But2 R M a w) (o : Nat) (u : Value) : But2 R M a (w.setCell ⟨M, o, none⟩ u) :=
  ⟨h.os, h.tape, h.output, by have := h.size; simp only [World.setCell, Array.size_modify]; exact this, fun k hk hR hM => (Below.heap_setCell _ _ _ _ (fun e => hM e)).trans (h.block k hk hR hM)⟩
theorem But2.but {R M : Nat} {a w w' : World} (h : But R a w) (k : But2 R M w w') (hM : a.heap.size ≤ M) : But R a w' :=
  ⟨k.os.trans h.os, k.tape.trans h.tape, k.output.trans h.output, Nat.le_trans h.size k.size, fun i hi hR => (k.block i (Nat.lt_of_lt_of_le hi h.size) hR (by omega)).trans (h.block i hi hR)⟩
/-- A message in rows of one's own. -/
def OwnM (base : Nat) (w : World) (cs : Array Value) (m : MsgD) : Prop :=
  ∃ lv tv dv, cs = #[.int .i64 m.kind, .int .i64 m.frm, .int .i64 m.to, .int .i64 m.term, .int .i64 m.slot, .int .i64 m.last, .int .i64 m.commit, .bool m.yes, lv, .int .i64 m.ent.kind, .int .i64 m.ent.frm, .int .i64 m.ent.num, tv, .int .i64 m.part.slot, .int .i64 m.part.idx, .int .i64 m.part.many, dv] ∧ OwnTms base w lv m.list ∧ OwnTs base w tv m.ent.txns ∧ w.ownsRow base 5 1 dv m.part.data.length (ints .u8 m.part.data)
theorem OwnM.same {base : Nat} {w w' : World} {cs : Array Value} {m : MsgD} (h : OwnM base w cs m) (hk : ∀ k, base ≤ k → k < w.heap.size → w'.heap[k]? = w.heap[k]?) : OwnM base w' cs m := by
  obtain ⟨lv, tv, dv, h0, h1, h2, h3⟩ := h
  exact ⟨lv, tv, dv, h0, h1.same hk, h2.same hk, own_same h3 hk⟩
theorem OwnM.mono {base base' : Nat} {w : World} {cs : Array Value} {m : MsgD} (h : OwnM base w cs m) (hb : base' ≤ base) : OwnM base' w cs m := by
  obtain ⟨lv, tv, dv, h0, h1, h2, h3⟩ := h
  exact ⟨lv, tv, dv, h0, h1.mono hb, h2.mono hb, own_mono h3 hb⟩
theorem cell_same {w : World} {base b o : Nat} {u : Value} (hb : b < base) : ∀ k, base ≤ k → k < w.heap.size → (w.setCell ⟨b, o, none⟩ u).heap[k]? = w.heap[k]? := fun k hk _ => Below.heap_setCell _ _ _ _ (fun e => by simp only at e; omega)
theorem but_same {w w' : World} {base R : Nat} (h : But R w w') (hb : R < base) : ∀ k, base ≤ k → k < w.heap.size → w'.heap[k]? = w.heap[k]? := fun k hk hl => h.block k hl (by omega)

/-- A field, read. -/
def RS.field (f : Int) (m : MsgD) (s : RS) : MsgD × RS :=
  if f = 0 then ({ m with term := s.num.1 }, s.num.2) else if f = 1 then ({ m with slot := s.num.1 }, s.num.2) else if f = 2 then ({ m with last := s.num.1 }, s.num.2) else if f = 3 then ({ m with commit := s.num.1 }, s.num.2) else if f = 4 then ({ m with yes := s.flag.1 }, s.flag.2) else if f = 5 then ({ m with list := (s.list RS.termed).1 }, (s.list RS.termed).2) else if f = 6 then ({ m with ent := s.entry.1 }, s.entry.2) else ({ m with part := s.part.1 }, s.part.2)
def RS.fields (F : List Int) (m : MsgD) (s : RS) : MsgD × RS := F.foldl (fun p f => RS.field f p.1 p.2) (m, s)
theorem take_fields (F : List Int) (m : MsgD) (s : RS) (t : Nat) (ht : t < F.length) : RS.fields (F.take (t + 1)) m s = RS.field F[t] (RS.fields (F.take t) m s).1 (RS.fields (F.take t) m s).2 := by
  unfold RS.fields
  rw [List.take_succ_eq_append_getElem ht, List.foldl_append]
  rfl

set_option maxHeartbeats 400000 in
theorem fields_none {w : World} {R M : Nat} : Calls Tryz.prog 76 #[.pointer (some ⟨R, 0, none⟩), .pointer (some ⟨M, 0, none⟩), .slice none 0 0] w fun e w' => e = .returned (.tuple #[]) ∧ w = w' := by
  go_enter Tryz.func76, Tryz.ntmps76
  go_wp2
  go_loopw [10] (fun c wr => c = .int .i64 0 ∧ wr = w) (fun _ _ => 0)
  case atStart => exact ⟨rfl, rfl⟩
  case round =>
    obtain ⟨rfl, rfl⟩ := hrel
    go_wp2
    go_end0
    exact ⟨rfl, rfl⟩

set_option maxHeartbeats 3200000 in
theorem fields_r {w : World} {R M lo g : Nat} {s : RS} {cs : Array Value} {m : MsgD} (F : List Int) (h : RdS w R lo s) (hM : w.heap[M]? = some (.cells cs 30)) (hRM : R < M) (ho : OwnM (M + 1) w cs m)
    (hg : w.heap[g]? = some (.cells (F.map (Value.int .i64)).toArray 109)) (hgR : g ≠ R) (hgM : g ≠ M) (hF : ∀ f ∈ F, 0 ≤ f ∧ f ≤ 7) (hlen : F.length ≤ 5) :
    Calls Tryz.prog 76 #[.pointer (some ⟨R, 0, none⟩), .pointer (some ⟨M, 0, none⟩), .slice (some ⟨g, 0, none⟩) F.length F.length] w fun e w' => e = .returned (.tuple #[]) ∧ ∃ cs, w'.heap[M]? = some (.cells cs 30) ∧ OwnM (M + 1) w' cs (RS.fields (F) m s).1 ∧ RdS w' R lo (RS.fields (F) m s).2 ∧ But2 R M w w' := by
  have hMs : M < w.heap.size := (Array.getElem?_eq_some_iff.1 hM).1
  have HF := hide hF
  obtain ⟨n, hnF⟩ : ∃ n, F.length = n := ⟨_, rfl⟩
  rw [hnF] at hlen
  rw [hnF]
  have HNF := hide hnF
  have HG : Hid (∀ x, But2 R M w x → x.heap[g]? = some (.cells (F.map (Value.int .i64)).toArray 109)) := fun x hx => (hx.block g (Array.getElem?_eq_some_iff.1 hg).1 hgR hgM).trans hg
  have HS : Hid (∃ cs, w.heap[M]? = some (.cells cs 30) ∧ OwnM (M + 1) w cs (RS.fields (F.take 0) m s).1 ∧ RdS w R lo (RS.fields (F.take 0) m s).2 ∧ But2 R M w w) := ⟨cs, hM, ho, h, But2.refl _ _ _⟩
  clear h hM ho hg hF hnF
  go_enter Tryz.func76, Tryz.ntmps76
  go_wp2_with fail
  go_loopw [10] (fun c wr => ∃ t : Nat, t ≤ n ∧ c = .int .i64 t ∧ ∃ cs, wr.heap[M]? = some (.cells cs 30) ∧ OwnM (M + 1) wr cs (RS.fields (F.take t) m s).1 ∧ RdS wr R lo (RS.fields (F.take t) m s).2 ∧ But2 R M w wr) (fun c _ => n - (intOf c).toNat)
  case atStart => exact ⟨0, by omega, rfl, unhide HS⟩
  case round =>
    obtain ⟨t, ht, rfl, cw, hM, ho, hr, hb⟩ := hrel
    by_cases hlt : t < n
    · have hltF : t < F.length := by rw [unhide HNF]; exact hlt
      have x2 := unhide HG wr hb
      obtain ⟨f, hf⟩ : ∃ f, F[t] = f := ⟨_, rfl⟩
      have hcf' : wr.cell? ⟨g, t, none⟩ = some (.int .i64 f) := by
        rw [cell_of_row _ _ _ _ _ _ x2]
        simp [hltF, hf]
      have hcf : wr.cell? ⟨g, 0 + t, none⟩ = some (.int .i64 f) := by rw [Nat.zero_add]; exact hcf'
      have hff := unhide HF f (by rw [← hf]; exact List.getElem_mem hltF)
      have htk := take_fields F m s t hltF
      rw [hf] at htk
      have hMw : M + 1 ≤ wr.heap.size := Nat.succ_le_of_lt (Array.getElem?_eq_some_iff.1 hM).1
      generalize RS.fields (F.take t) m s = P at ho hr htk
      obtain ⟨mc, sc⟩ := P
      simp only at ho hr htk
      obtain ⟨lv, tv, dv, rfl, o1, o2, o3⟩ := ho
      obtain ⟨la, lc, rfl⟩ := o1.shape
      obtain ⟨ta, tc, rfl⟩ := o2.shape
      obtain ⟨da, dc, rfl⟩ := own_shape o3
      obtain ⟨aK, aF, aO, aT, aS, aL, aC, aY, LL, ⟨ek, ef, en, LT⟩, ⟨ps, pi, pm, LD⟩⟩ := mc
      simp only at hM o1 o2 o3 htk
      obtain ⟨ll, hll⟩ : ∃ n, LL.length = n := ⟨_, rfl⟩
      obtain ⟨tl, htl⟩ : ∃ n, LT.length = n := ⟨_, rfl⟩
      obtain ⟨dl, hdl⟩ : ∃ n, LD.length = n := ⟨_, rfl⟩
      rw [hll] at hM o1
      rw [htl] at hM o2
      rw [hdl] at hM o3
      have HM := hide hM
      have HB := hide hb
      have HO : Hid (∀ y, But R wr y → OwnTms (M + 1) y (.slice la ll lc) LL ∧ OwnTs (M + 1) y (.slice ta tl tc) LT ∧ y.ownsRow (M + 1) 5 1 (.slice da dl dc) dl (ints .u8 LD)) := fun y hy => ⟨o1.same (but_same hy (by omega)), o2.same (but_same hy (by omega)), own_same o3 (but_same hy (by omega))⟩
      have HTK := hide htk
      have HLL := hide hll
      have HTL := hide htl
      have HDL := hide hdl
      have HR := hide hr
      have HMW := hide hMw
      clear hM hb o1 o2 o3 htk hll htl hdl hr hMw x2 hf
      by_cases h0 : f = 0
      case pos =>
        subst h0
        obtain ⟨v, s2, e2⟩ : ∃ n s', sc.num = (n, s') := ⟨_, _, rfl⟩
        have htk : RS.fields (F.take (t + 1)) m s = (⟨aK, aF, aO, v, aS, aL, aC, aY, LL, ⟨ek, ef, en, LT⟩, ⟨ps, pi, pm, LD⟩⟩, s2) := (unhide HTK).trans (by simp [RS.field, e2])
        have HC := hide (num_r (unhide HR))
        rw [e2] at HC
        simp only at HC
        have HTK2 := hide htk
        clear htk e2 hff HTK
        go_wp2_with fail
        refine (unhide HC).mono ?_
        rintro e y1 ⟨rfl, p, q⟩
        have hy := q.same (unhide HM) (by omega)
        have k3 : y1.cell? ⟨M, 3, none⟩ = some (.int .i64 aT) := cell_of_heap hy
        have fz : ∀ o, y1.frozen? ⟨M, o, none⟩ = false := fun o => frozen_of_heap hy
        have HRR : Hid (∃ cs, (y1.setCell ⟨M, 3, none⟩ (.int .i64 v)).heap[M]? = some (.cells cs 30) ∧ OwnM (M + 1) (y1.setCell ⟨M, 3, none⟩ (.int .i64 v)) cs (RS.fields (F.take (t + 1)) m s).1 ∧ RdS (y1.setCell ⟨M, 3, none⟩ (.int .i64 v)) R lo (RS.fields (F.take (t + 1)) m s).2 ∧ But2 R M w (y1.setCell ⟨M, 3, none⟩ (.int .i64 v))) := by
          rw [unhide HTK2]
          refine ⟨#[.int .i64 aK, .int .i64 aF, .int .i64 aO, .int .i64 v, .int .i64 aS, .int .i64 aL, .int .i64 aC, .bool aY, .slice la ll lc, .int .i64 ek, .int .i64 ef, .int .i64 en, .slice ta tl tc, .int .i64 ps, .int .i64 pi, .int .i64 pm, .slice da dl dc], (setCell_heap hy), ⟨_, _, _, rfl, ?_⟩, (p.other hRM _ _), (((unhide HB).on q).set _ _)⟩
          simp only
          rw [unhide HDL]
          exact ⟨((unhide HO y1 q).1.same (cell_same (Nat.lt_succ_self M))), ((unhide HO y1 q).2.1.same (cell_same (Nat.lt_succ_self M))), (own_same (unhide HO y1 q).2.2 (cell_same (Nat.lt_succ_self M)))⟩
        clear p q hy HC
        go_wp2
        go_roundw
        case rel => exact ⟨t + 1, by omega, by go_num, unhide HRR⟩
        case measure => simp [intOf]; omega
      by_cases h1 : f = 1
      case pos =>
        subst h1
        obtain ⟨v, s2, e2⟩ : ∃ n s', sc.num = (n, s') := ⟨_, _, rfl⟩
        have htk : RS.fields (F.take (t + 1)) m s = (⟨aK, aF, aO, aT, v, aL, aC, aY, LL, ⟨ek, ef, en, LT⟩, ⟨ps, pi, pm, LD⟩⟩, s2) := (unhide HTK).trans (by simp [RS.field, e2])
        have HC := hide (num_r (unhide HR))
        rw [e2] at HC
        simp only at HC
        have HTK2 := hide htk
        clear htk e2 hff HTK
        go_wp2_with fail
        refine (unhide HC).mono ?_
        rintro e y1 ⟨rfl, p, q⟩
        have hy := q.same (unhide HM) (by omega)
        have k4 : y1.cell? ⟨M, 4, none⟩ = some (.int .i64 aS) := cell_of_heap hy
        have fz : ∀ o, y1.frozen? ⟨M, o, none⟩ = false := fun o => frozen_of_heap hy
        have HRR : Hid (∃ cs, (y1.setCell ⟨M, 4, none⟩ (.int .i64 v)).heap[M]? = some (.cells cs 30) ∧ OwnM (M + 1) (y1.setCell ⟨M, 4, none⟩ (.int .i64 v)) cs (RS.fields (F.take (t + 1)) m s).1 ∧ RdS (y1.setCell ⟨M, 4, none⟩ (.int .i64 v)) R lo (RS.fields (F.take (t + 1)) m s).2 ∧ But2 R M w (y1.setCell ⟨M, 4, none⟩ (.int .i64 v))) := by
          rw [unhide HTK2]
          refine ⟨#[.int .i64 aK, .int .i64 aF, .int .i64 aO, .int .i64 aT, .int .i64 v, .int .i64 aL, .int .i64 aC, .bool aY, .slice la ll lc, .int .i64 ek, .int .i64 ef, .int .i64 en, .slice ta tl tc, .int .i64 ps, .int .i64 pi, .int .i64 pm, .slice da dl dc], (setCell_heap hy), ⟨_, _, _, rfl, ?_⟩, (p.other hRM _ _), (((unhide HB).on q).set _ _)⟩
          simp only
          rw [unhide HDL]
          exact ⟨((unhide HO y1 q).1.same (cell_same (Nat.lt_succ_self M))), ((unhide HO y1 q).2.1.same (cell_same (Nat.lt_succ_self M))), (own_same (unhide HO y1 q).2.2 (cell_same (Nat.lt_succ_self M)))⟩
        clear p q hy HC
        go_wp2
        go_roundw
        case rel => exact ⟨t + 1, by omega, by go_num, unhide HRR⟩
        case measure => simp [intOf]; omega
      by_cases h2 : f = 2
      case pos =>
        subst h2
        obtain ⟨v, s2, e2⟩ : ∃ n s', sc.num = (n, s') := ⟨_, _, rfl⟩
        have htk : RS.fields (F.take (t + 1)) m s = (⟨aK, aF, aO, aT, aS, v, aC, aY, LL, ⟨ek, ef, en, LT⟩, ⟨ps, pi, pm, LD⟩⟩, s2) := (unhide HTK).trans (by simp [RS.field, e2])
        have HC := hide (num_r (unhide HR))
        rw [e2] at HC
        simp only at HC
        have HTK2 := hide htk
        clear htk e2 hff HTK
        go_wp2_with fail
        refine (unhide HC).mono ?_
        rintro e y1 ⟨rfl, p, q⟩
        have hy := q.same (unhide HM) (by omega)
        have k5 : y1.cell? ⟨M, 5, none⟩ = some (.int .i64 aL) := cell_of_heap hy
        have fz : ∀ o, y1.frozen? ⟨M, o, none⟩ = false := fun o => frozen_of_heap hy
        have HRR : Hid (∃ cs, (y1.setCell ⟨M, 5, none⟩ (.int .i64 v)).heap[M]? = some (.cells cs 30) ∧ OwnM (M + 1) (y1.setCell ⟨M, 5, none⟩ (.int .i64 v)) cs (RS.fields (F.take (t + 1)) m s).1 ∧ RdS (y1.setCell ⟨M, 5, none⟩ (.int .i64 v)) R lo (RS.fields (F.take (t + 1)) m s).2 ∧ But2 R M w (y1.setCell ⟨M, 5, none⟩ (.int .i64 v))) := by
          rw [unhide HTK2]
          refine ⟨#[.int .i64 aK, .int .i64 aF, .int .i64 aO, .int .i64 aT, .int .i64 aS, .int .i64 v, .int .i64 aC, .bool aY, .slice la ll lc, .int .i64 ek, .int .i64 ef, .int .i64 en, .slice ta tl tc, .int .i64 ps, .int .i64 pi, .int .i64 pm, .slice da dl dc], (setCell_heap hy), ⟨_, _, _, rfl, ?_⟩, (p.other hRM _ _), (((unhide HB).on q).set _ _)⟩
          simp only
          rw [unhide HDL]
          exact ⟨((unhide HO y1 q).1.same (cell_same (Nat.lt_succ_self M))), ((unhide HO y1 q).2.1.same (cell_same (Nat.lt_succ_self M))), (own_same (unhide HO y1 q).2.2 (cell_same (Nat.lt_succ_self M)))⟩
        clear p q hy HC
        go_wp2
        go_roundw
        case rel => exact ⟨t + 1, by omega, by go_num, unhide HRR⟩
        case measure => simp [intOf]; omega
      by_cases h3 : f = 3
      case pos =>
        subst h3
        obtain ⟨v, s2, e2⟩ : ∃ n s', sc.num = (n, s') := ⟨_, _, rfl⟩
        have htk : RS.fields (F.take (t + 1)) m s = (⟨aK, aF, aO, aT, aS, aL, v, aY, LL, ⟨ek, ef, en, LT⟩, ⟨ps, pi, pm, LD⟩⟩, s2) := (unhide HTK).trans (by simp [RS.field, e2])
        have HC := hide (num_r (unhide HR))
        rw [e2] at HC
        simp only at HC
        have HTK2 := hide htk
        clear htk e2 hff HTK
        go_wp2_with fail
        refine (unhide HC).mono ?_
        rintro e y1 ⟨rfl, p, q⟩
        have hy := q.same (unhide HM) (by omega)
        have k6 : y1.cell? ⟨M, 6, none⟩ = some (.int .i64 aC) := cell_of_heap hy
        have fz : ∀ o, y1.frozen? ⟨M, o, none⟩ = false := fun o => frozen_of_heap hy
        have HRR : Hid (∃ cs, (y1.setCell ⟨M, 6, none⟩ (.int .i64 v)).heap[M]? = some (.cells cs 30) ∧ OwnM (M + 1) (y1.setCell ⟨M, 6, none⟩ (.int .i64 v)) cs (RS.fields (F.take (t + 1)) m s).1 ∧ RdS (y1.setCell ⟨M, 6, none⟩ (.int .i64 v)) R lo (RS.fields (F.take (t + 1)) m s).2 ∧ But2 R M w (y1.setCell ⟨M, 6, none⟩ (.int .i64 v))) := by
          rw [unhide HTK2]
          refine ⟨#[.int .i64 aK, .int .i64 aF, .int .i64 aO, .int .i64 aT, .int .i64 aS, .int .i64 aL, .int .i64 v, .bool aY, .slice la ll lc, .int .i64 ek, .int .i64 ef, .int .i64 en, .slice ta tl tc, .int .i64 ps, .int .i64 pi, .int .i64 pm, .slice da dl dc], (setCell_heap hy), ⟨_, _, _, rfl, ?_⟩, (p.other hRM _ _), (((unhide HB).on q).set _ _)⟩
          simp only
          rw [unhide HDL]
          exact ⟨((unhide HO y1 q).1.same (cell_same (Nat.lt_succ_self M))), ((unhide HO y1 q).2.1.same (cell_same (Nat.lt_succ_self M))), (own_same (unhide HO y1 q).2.2 (cell_same (Nat.lt_succ_self M)))⟩
        clear p q hy HC
        go_wp2
        go_roundw
        case rel => exact ⟨t + 1, by omega, by go_num, unhide HRR⟩
        case measure => simp [intOf]; omega
      by_cases h4 : f = 4
      case pos =>
        subst h4
        obtain ⟨v, s2, e2⟩ : ∃ n s', sc.flag = (n, s') := ⟨_, _, rfl⟩
        have htk : RS.fields (F.take (t + 1)) m s = (⟨aK, aF, aO, aT, aS, aL, aC, v, LL, ⟨ek, ef, en, LT⟩, ⟨ps, pi, pm, LD⟩⟩, s2) := (unhide HTK).trans (by simp [RS.field, e2])
        have HC := hide (flag_r (unhide HR))
        rw [e2] at HC
        simp only at HC
        have HTK2 := hide htk
        clear htk e2 hff HTK
        go_wp2_with fail
        refine (unhide HC).mono ?_
        rintro e y1 ⟨rfl, p, q⟩
        have hy := q.same (unhide HM) (by omega)
        have k7 : y1.cell? ⟨M, 7, none⟩ = some (.bool aY) := cell_of_heap hy
        have fz : ∀ o, y1.frozen? ⟨M, o, none⟩ = false := fun o => frozen_of_heap hy
        have HRR : Hid (∃ cs, (y1.setCell ⟨M, 7, none⟩ (.bool v)).heap[M]? = some (.cells cs 30) ∧ OwnM (M + 1) (y1.setCell ⟨M, 7, none⟩ (.bool v)) cs (RS.fields (F.take (t + 1)) m s).1 ∧ RdS (y1.setCell ⟨M, 7, none⟩ (.bool v)) R lo (RS.fields (F.take (t + 1)) m s).2 ∧ But2 R M w (y1.setCell ⟨M, 7, none⟩ (.bool v))) := by
          rw [unhide HTK2]
          refine ⟨#[.int .i64 aK, .int .i64 aF, .int .i64 aO, .int .i64 aT, .int .i64 aS, .int .i64 aL, .int .i64 aC, .bool v, .slice la ll lc, .int .i64 ek, .int .i64 ef, .int .i64 en, .slice ta tl tc, .int .i64 ps, .int .i64 pi, .int .i64 pm, .slice da dl dc], (setCell_heap hy), ⟨_, _, _, rfl, ?_⟩, (p.other hRM _ _), (((unhide HB).on q).set _ _)⟩
          simp only
          rw [unhide HDL]
          exact ⟨((unhide HO y1 q).1.same (cell_same (Nat.lt_succ_self M))), ((unhide HO y1 q).2.1.same (cell_same (Nat.lt_succ_self M))), (own_same (unhide HO y1 q).2.2 (cell_same (Nat.lt_succ_self M)))⟩
        clear p q hy HC
        go_wp2
        go_roundw
        case rel => exact ⟨t + 1, by omega, by go_num, unhide HRR⟩
        case measure => simp [intOf]; omega
      by_cases h5 : f = 5
      case pos =>
        subst h5
        obtain ⟨v, s2, e2⟩ : ∃ n s', sc.list RS.termed = (n, s') := ⟨_, _, rfl⟩
        have htk : RS.fields (F.take (t + 1)) m s = (⟨aK, aF, aO, aT, aS, aL, aC, aY, v, ⟨ek, ef, en, LT⟩, ⟨ps, pi, pm, LD⟩⟩, s2) := (unhide HTK).trans (by simp [RS.field, e2])
        have HC := hide (takeTms_r (unhide HR))
        rw [e2] at HC
        simp only at HC
        have HTK2 := hide htk
        clear htk e2 hff HTK
        go_wp2_with fail
        refine (unhide HC).mono ?_
        rintro e y1 ⟨xv, rfl, ox, p, q⟩
        have hy := q.same (unhide HM) (by omega)
        obtain ⟨xa, xc, rfl⟩ := ox.shape
        have OX := ox.mono (unhide HMW)
        obtain ⟨xl, hxl⟩ : ∃ n, v.length = n := ⟨_, rfl⟩
        rw [hxl] at OX
        rw [hxl]
        have HXL := hide hxl
        clear ox hxl
        have k8 : y1.cell? ⟨M, 8, none⟩ = some (.slice la ll lc) := cell_of_heap hy
        have fz : ∀ o, y1.frozen? ⟨M, o, none⟩ = false := fun o => frozen_of_heap hy
        have HRR : Hid (∃ cs, (y1.setCell ⟨M, 8, none⟩ (.slice xa xl xc)).heap[M]? = some (.cells cs 30) ∧ OwnM (M + 1) (y1.setCell ⟨M, 8, none⟩ (.slice xa xl xc)) cs (RS.fields (F.take (t + 1)) m s).1 ∧ RdS (y1.setCell ⟨M, 8, none⟩ (.slice xa xl xc)) R lo (RS.fields (F.take (t + 1)) m s).2 ∧ But2 R M w (y1.setCell ⟨M, 8, none⟩ (.slice xa xl xc))) := by
          rw [unhide HTK2]
          refine ⟨#[.int .i64 aK, .int .i64 aF, .int .i64 aO, .int .i64 aT, .int .i64 aS, .int .i64 aL, .int .i64 aC, .bool aY, .slice xa xl xc, .int .i64 ek, .int .i64 ef, .int .i64 en, .slice ta tl tc, .int .i64 ps, .int .i64 pi, .int .i64 pm, .slice da dl dc], (setCell_heap hy), ⟨_, _, _, rfl, ?_⟩, (p.other hRM _ _), (((unhide HB).on q).set _ _)⟩
          simp only
          rw [unhide HDL]
          exact ⟨(OX.same (cell_same (Nat.lt_succ_self M))), ((unhide HO y1 q).2.1.same (cell_same (Nat.lt_succ_self M))), (own_same (unhide HO y1 q).2.2 (cell_same (Nat.lt_succ_self M)))⟩
        clear p q hy HC OX
        go_wp2
        go_roundw
        case rel => exact ⟨t + 1, by omega, by go_num, unhide HRR⟩
        case measure => simp [intOf]; omega
      by_cases h6 : f = 6
      case pos =>
        subst h6
        obtain ⟨⟨v1, v2, v3, v⟩, s2, e2⟩ : ∃ (n : EntD) (s' : RS), sc.entry = (n, s') := ⟨_, _, rfl⟩
        have htk : RS.fields (F.take (t + 1)) m s = (⟨aK, aF, aO, aT, aS, aL, aC, aY, LL, ⟨v1, v2, v3, v⟩, ⟨ps, pi, pm, LD⟩⟩, s2) := (unhide HTK).trans (by simp [RS.field, e2])
        have HC := hide (entry_r (unhide HR))
        rw [e2] at HC
        simp only at HC
        have HTK2 := hide htk
        clear htk e2 hff HTK
        go_wp2_with fail
        refine (unhide HC).mono ?_
        rintro e y1 ⟨xcs, rfl, ⟨xv, rfl, ox⟩, p, q⟩
        have hy := q.same (unhide HM) (by omega)
        obtain ⟨xa, xc, rfl⟩ := ox.shape
        have OX := ox.mono (unhide HMW)
        simp only at OX ⊢
        obtain ⟨xl, hxl⟩ : ∃ n, v.length = n := ⟨_, rfl⟩
        rw [hxl] at OX
        rw [hxl]
        have HXL := hide hxl
        clear ox hxl
        have k9 : y1.cell? ⟨M, 9, none⟩ = some (.int .i64 ek) := cell_of_heap hy
        have k10 : y1.cell? ⟨M, 10, none⟩ = some (.int .i64 ef) := cell_of_heap hy
        have k11 : y1.cell? ⟨M, 11, none⟩ = some (.int .i64 en) := cell_of_heap hy
        have k12 : y1.cell? ⟨M, 12, none⟩ = some (.slice ta tl tc) := cell_of_heap hy
        have fz : ∀ o, y1.frozen? ⟨M, o, none⟩ = false := fun o => frozen_of_heap hy
        have HRR : Hid (∃ cs, ((((y1.setCell ⟨M, 9, none⟩ (.int .i64 v1)).setCell ⟨M, 10, none⟩ (.int .i64 v2)).setCell ⟨M, 11, none⟩ (.int .i64 v3)).setCell ⟨M, 12, none⟩ (.slice xa xl xc)).heap[M]? = some (.cells cs 30) ∧ OwnM (M + 1) ((((y1.setCell ⟨M, 9, none⟩ (.int .i64 v1)).setCell ⟨M, 10, none⟩ (.int .i64 v2)).setCell ⟨M, 11, none⟩ (.int .i64 v3)).setCell ⟨M, 12, none⟩ (.slice xa xl xc)) cs (RS.fields (F.take (t + 1)) m s).1 ∧ RdS ((((y1.setCell ⟨M, 9, none⟩ (.int .i64 v1)).setCell ⟨M, 10, none⟩ (.int .i64 v2)).setCell ⟨M, 11, none⟩ (.int .i64 v3)).setCell ⟨M, 12, none⟩ (.slice xa xl xc)) R lo (RS.fields (F.take (t + 1)) m s).2 ∧ But2 R M w ((((y1.setCell ⟨M, 9, none⟩ (.int .i64 v1)).setCell ⟨M, 10, none⟩ (.int .i64 v2)).setCell ⟨M, 11, none⟩ (.int .i64 v3)).setCell ⟨M, 12, none⟩ (.slice xa xl xc))) := by
          rw [unhide HTK2]
          refine ⟨#[.int .i64 aK, .int .i64 aF, .int .i64 aO, .int .i64 aT, .int .i64 aS, .int .i64 aL, .int .i64 aC, .bool aY, .slice la ll lc, .int .i64 v1, .int .i64 v2, .int .i64 v3, .slice xa xl xc, .int .i64 ps, .int .i64 pi, .int .i64 pm, .slice da dl dc], (setCell_heap (setCell_heap (setCell_heap (setCell_heap hy)))), ⟨_, _, _, rfl, ?_⟩, ((((p.other hRM _ _).other hRM _ _).other hRM _ _).other hRM _ _), ((((((unhide HB).on q).set _ _).set _ _).set _ _).set _ _)⟩
          simp only
          rw [unhide HDL]
          exact ⟨(((((unhide HO y1 q).1.same (cell_same (Nat.lt_succ_self M))).same (cell_same (Nat.lt_succ_self M))).same (cell_same (Nat.lt_succ_self M))).same (cell_same (Nat.lt_succ_self M))), ((((OX.same (cell_same (Nat.lt_succ_self M))).same (cell_same (Nat.lt_succ_self M))).same (cell_same (Nat.lt_succ_self M))).same (cell_same (Nat.lt_succ_self M))), (own_same (own_same (own_same (own_same (unhide HO y1 q).2.2 (cell_same (Nat.lt_succ_self M))) (cell_same (Nat.lt_succ_self M))) (cell_same (Nat.lt_succ_self M))) (cell_same (Nat.lt_succ_self M)))⟩
        clear p q hy HC OX
        go_wp2
        go_roundw
        case rel => exact ⟨t + 1, by omega, by go_num, unhide HRR⟩
        case measure => simp [intOf]; omega
      by_cases h7 : f = 7
      case pos =>
        subst h7
        obtain ⟨⟨v1, v2, v3, v⟩, s2, e2⟩ : ∃ (n : PtD) (s' : RS), sc.part = (n, s') := ⟨_, _, rfl⟩
        have htk : RS.fields (F.take (t + 1)) m s = (⟨aK, aF, aO, aT, aS, aL, aC, aY, LL, ⟨ek, ef, en, LT⟩, ⟨v1, v2, v3, v⟩⟩, s2) := (unhide HTK).trans (by simp [RS.field, e2])
        have HC := hide (part_r (unhide HR))
        rw [e2] at HC
        simp only at HC
        have HTK2 := hide htk
        clear htk e2 hff HTK
        go_wp2_with fail
        refine (unhide HC).mono ?_
        rintro e y1 ⟨xv, rfl, ox, p, q⟩
        have hy := q.same (unhide HM) (by omega)
        obtain ⟨xa, xc, rfl⟩ := own_shape ox
        have OX := own_mono ox (unhide HMW)
        simp only at OX ⊢
        obtain ⟨xl, hxl⟩ : ∃ n, v.length = n := ⟨_, rfl⟩
        rw [hxl] at OX
        rw [hxl]
        have HXL := hide hxl
        clear ox hxl
        have k13 : y1.cell? ⟨M, 13, none⟩ = some (.int .i64 ps) := cell_of_heap hy
        have k14 : y1.cell? ⟨M, 14, none⟩ = some (.int .i64 pi) := cell_of_heap hy
        have k15 : y1.cell? ⟨M, 15, none⟩ = some (.int .i64 pm) := cell_of_heap hy
        have k16 : y1.cell? ⟨M, 16, none⟩ = some (.slice da dl dc) := cell_of_heap hy
        have fz : ∀ o, y1.frozen? ⟨M, o, none⟩ = false := fun o => frozen_of_heap hy
        have HRR : Hid (∃ cs, ((((y1.setCell ⟨M, 13, none⟩ (.int .i64 v1)).setCell ⟨M, 14, none⟩ (.int .i64 v2)).setCell ⟨M, 15, none⟩ (.int .i64 v3)).setCell ⟨M, 16, none⟩ (.slice xa xl xc)).heap[M]? = some (.cells cs 30) ∧ OwnM (M + 1) ((((y1.setCell ⟨M, 13, none⟩ (.int .i64 v1)).setCell ⟨M, 14, none⟩ (.int .i64 v2)).setCell ⟨M, 15, none⟩ (.int .i64 v3)).setCell ⟨M, 16, none⟩ (.slice xa xl xc)) cs (RS.fields (F.take (t + 1)) m s).1 ∧ RdS ((((y1.setCell ⟨M, 13, none⟩ (.int .i64 v1)).setCell ⟨M, 14, none⟩ (.int .i64 v2)).setCell ⟨M, 15, none⟩ (.int .i64 v3)).setCell ⟨M, 16, none⟩ (.slice xa xl xc)) R lo (RS.fields (F.take (t + 1)) m s).2 ∧ But2 R M w ((((y1.setCell ⟨M, 13, none⟩ (.int .i64 v1)).setCell ⟨M, 14, none⟩ (.int .i64 v2)).setCell ⟨M, 15, none⟩ (.int .i64 v3)).setCell ⟨M, 16, none⟩ (.slice xa xl xc))) := by
          rw [unhide HTK2]
          refine ⟨#[.int .i64 aK, .int .i64 aF, .int .i64 aO, .int .i64 aT, .int .i64 aS, .int .i64 aL, .int .i64 aC, .bool aY, .slice la ll lc, .int .i64 ek, .int .i64 ef, .int .i64 en, .slice ta tl tc, .int .i64 v1, .int .i64 v2, .int .i64 v3, .slice xa xl xc], (setCell_heap (setCell_heap (setCell_heap (setCell_heap hy)))), ⟨_, _, _, rfl, ?_⟩, ((((p.other hRM _ _).other hRM _ _).other hRM _ _).other hRM _ _), ((((((unhide HB).on q).set _ _).set _ _).set _ _).set _ _)⟩
          simp only
          rw [unhide HXL]
          exact ⟨(((((unhide HO y1 q).1.same (cell_same (Nat.lt_succ_self M))).same (cell_same (Nat.lt_succ_self M))).same (cell_same (Nat.lt_succ_self M))).same (cell_same (Nat.lt_succ_self M))), (((((unhide HO y1 q).2.1.same (cell_same (Nat.lt_succ_self M))).same (cell_same (Nat.lt_succ_self M))).same (cell_same (Nat.lt_succ_self M))).same (cell_same (Nat.lt_succ_self M))), (own_same (own_same (own_same (own_same OX (cell_same (Nat.lt_succ_self M))) (cell_same (Nat.lt_succ_self M))) (cell_same (Nat.lt_succ_self M))) (cell_same (Nat.lt_succ_self M)))⟩
        clear p q hy HC OX
        go_wp2
        go_roundw
        case rel => exact ⟨t + 1, by omega, by go_num, unhide HRR⟩
        case measure => simp [intOf]; omega
      omega
    · obtain rfl : n = t := by omega
      rw [List.take_of_length_le (by rw [unhide HNF]; exact Nat.le_refl _)] at ho hr
      have HE : Hid (∃ cs, wr.heap[M]? = some (.cells cs 30) ∧ OwnM (M + 1) wr cs (RS.fields (F) m s).1 ∧ RdS wr R lo (RS.fields (F) m s).2 ∧ But2 R M w wr) := ⟨cw, hM, ho, hr, hb⟩
      clear hM ho hr hb
      go_wp2
      go_end0
      exact ⟨rfl, unhide HE⟩
end Go.Proofs.YtggllgimlfchhabGreat
