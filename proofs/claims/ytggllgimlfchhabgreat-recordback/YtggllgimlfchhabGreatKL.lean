/- Several texts as one. -/
import Derived.Test.YtggllgimlfchhabGreatKI
import Derived.Test.YtggllgimlfchhabGreatKG
import Derived.Test.YtggllgimlfchhabGreatKH

/- How messages, as the row hands them over, are seen by the walks, with their bounds. -/
namespace Go.Proofs.YtggllgimlfchhabGreat
open Go.ChangeShapes Go.WideShapes Go.ChangeAt Go.RowKit Go.Deep
set_option maxRecDepth 100000

section
variable {H : Type} {enc : TypeId × Value → H} {W : World}

theorem view_entF {fuel : Nat} {cs : List Value} {x : DataW H × List MemPlace} (hl : cs.length = 4) (hf : DataW.trod enc Tryz.prog W 0 (fun _ => true) true fuel 24 cs = some x) :
    ∃ (e : EntD) (tv : Value), cs = [.int .i64 e.kind, .int .i64 e.frm, .int .i64 e.num, tv] ∧ SeesTs W tv e.txns ∧ FitE e := by
  obtain ⟨xs, n, _, rfl, _, hxl, hg⟩ := DataW.trod_struct Tryz.underlying24 hf
  obtain ⟨y0, y1, y2, y3, rfl⟩ := list4 hxl
  obtain ⟨v0, v1, v2, v3, rfl⟩ := list4 hl
  have g0 := hg 0 _ rfl
  have g1 := hg 1 _ rfl
  have g2 := hg 2 _ rfl
  have g3 := hg 3 _ rfl
  simp [Tryz.cells2, Tryz.cells3, Tryz.cells22] at g0 g1 g2 g3
  obtain ⟨n0, e0, _, w0⟩ := DataW.trod_int Tryz.underlying3 g0
  obtain ⟨n1, e1, _, w1⟩ := DataW.trod_int Tryz.underlying3 g1
  obtain ⟨n2, e2, _, w2⟩ := DataW.trod_int Tryz.underlying2 g2
  obtain ⟨u3, l, e3, k1, k2, k3⟩ := view_txns g3
  simp only [List.cons.injEq, and_true] at e0 e1 e2 e3
  subst e0 e1 e2 e3
  exact ⟨⟨n0, n1, n2, l⟩, v3, rfl, k1, ⟨bounds_i64 w0, bounds_i64 w1, bounds_i64 w2, k2, k3⟩⟩
theorem view_tmF {fuel : Nat} {cs : List Value} {x : DataW H × List MemPlace} (hl : cs.length = 5) (hf : DataW.trod enc Tryz.prog W 0 (fun _ => true) true fuel 52 cs = some x) :
    ∃ p : TM2, cs = tmCells p ∧ (SeesTs W p.2 p.1.ent.txns ∧ FitTm p.1) := by
  obtain ⟨xs, n, _, rfl, _, hxl, hg⟩ := DataW.trod_struct Tryz.underlying52 hf
  obtain ⟨y0, y1, rfl⟩ := list2 hxl
  obtain ⟨v0, v1, v2, v3, v4, rfl⟩ := list5 hl
  have g0 := hg 0 _ rfl
  have g1 := hg 1 _ rfl
  simp [Tryz.cells2, Tryz.cells24] at g0 g1
  obtain ⟨n0, e0, _, w0⟩ := DataW.trod_int Tryz.underlying2 g0
  obtain ⟨e, tv, e1, k1, k2⟩ := view_entF rfl g1
  simp only [List.cons.injEq, and_true] at e0 e1
  obtain ⟨rfl, rfl, rfl, rfl⟩ := e1
  subst e0
  exact ⟨(⟨n0, e⟩, v4), rfl, k1, ⟨bounds_i64 w0, k2⟩⟩
theorem view_tmsF {fuel : Nat} {cs : List Value} {x : DataW H × List MemPlace} (hf : DataW.trod enc Tryz.prog W 0 (fun _ => true) true fuel 25 cs = some x) : ∃ v l, cs = [v] ∧ SeesTms W v l ∧ ∀ t ∈ l, FitTm t := by
  obtain ⟨a0, cap, gb, ob, l, rfl, h1, h2, h3, h4⟩ := view_list (α := TM2) Tryz.underlying25 Tryz.cells52 (by decide) tmCells (fun p => SeesTs W p.2 p.1.ent.txns ∧ FitTm p.1) (fun _ => rfl) (fun _ _ _ hl hf => view_tmF hl hf) hf
  have hm : ∀ t ∈ l.map (·.1), FitTm t := fun t ht => by
    obtain ⟨p, hp, rfl⟩ := List.mem_map.1 ht
    obtain ⟨i, hi, rfl⟩ := List.getElem_of_mem hp
    have := (h4 i hi).1
    have e : l.getD i default = l[i] := by simp [List.getD, hi]
    rw [e] at this
    exact this.2
  refine ⟨_, l.map (·.1), rfl, ⟨a0, cap, gb, ob, by simp, by simpa using h1, by simpa using h2, by simpa using h3, fun t ht => ?_⟩, fun t ht => hm t ht⟩
  have htl : t < l.length := by simpa using ht
  obtain ⟨hk, hc⟩ := h4 t htl
  have e : l.getD t default = l[t] := by simp [List.getD, htl]
  have e2 : (l.map (·.1)).getD t dM = l[t].1 := by simp [List.getD, htl]
  rw [e] at hk hc
  rw [e2]
  exact ⟨_, hc 0 (by omega), hc 1 (by omega), hc 2 (by omega), hc 3 (by omega), hc 4 (by omega), hk.1⟩
theorem view_ptF {fuel : Nat} {cs : List Value} {x : DataW H × List MemPlace} (hl : cs.length = 4) (hf : DataW.trod enc Tryz.prog W 0 (fun _ => true) true fuel 28 cs = some x) :
    ∃ (p : PtD) (dv : Value), cs = [.int .i64 p.slot, .int .i64 p.idx, .int .i64 p.many, dv] ∧ Sees W .u8 dv p.data ∧ Byt p.data ∧ FitP p := by
  obtain ⟨xs, n, _, rfl, _, hxl, hg⟩ := DataW.trod_struct Tryz.underlying28 hf
  obtain ⟨y0, y1, y2, y3, rfl⟩ := list4 hxl
  obtain ⟨v0, v1, v2, v3, rfl⟩ := list4 hl
  have g0 := hg 0 _ rfl
  have g1 := hg 1 _ rfl
  have g2 := hg 2 _ rfl
  have g3 := hg 3 _ rfl
  simp [Tryz.cells2, Tryz.cells3, Tryz.cells26] at g0 g1 g2 g3
  obtain ⟨n0, e0, _, w0⟩ := DataW.trod_int Tryz.underlying2 g0
  obtain ⟨n1, e1, _, w1⟩ := DataW.trod_int Tryz.underlying3 g1
  obtain ⟨n2, e2, _, w2⟩ := DataW.trod_int Tryz.underlying3 g2
  obtain ⟨u3, l, e3, k1, k2⟩ := view_bytes g3
  simp only [List.cons.injEq, and_true] at e0 e1 e2 e3
  subst e0 e1 e2 e3
  exact ⟨⟨n0, n1, n2, l⟩, v3, rfl, k1, k2, ⟨bounds_i64 w0, bounds_i64 w1, bounds_i64 w2⟩⟩
theorem view_msgF {r : Reach} {b0 : Nat} {v : Value} {d : DataW H} {p : List MemPlace} (hval : Value.okWide Tryz.prog W r b0 30 v) (hf : DataW.Trod enc Tryz.prog W 0 (fun _ => true) true 30 v d p) :
    ∃ cs m, v = .agg cs ∧ SeesM W cs m ∧ OkM m ∧ FitM m ∧ (-9223372036854775808 ≤ m.kind ∧ m.kind ≤ 9223372036854775807) ∧ (-9223372036854775808 ≤ m.frm ∧ m.frm ≤ 9223372036854775807) ∧ (-9223372036854775808 ≤ m.to ∧ m.to ≤ 9223372036854775807) := by
  obtain ⟨cs, rfl, hsz⟩ := okWide_struct Tryz.underlying30 hval
  obtain ⟨fuel, hf⟩ := hf
  rw [Tryz.cells30] at hsz
  have e : (Value.agg cs).cells.toList = cs.toList := by simp [Value.cells]
  rw [e] at hf
  obtain ⟨xs, n, _, hx, _, hxl, hg⟩ := DataW.trod_struct Tryz.underlying30 hf
  obtain ⟨y0, y1, y2, y3, y4, y5, y6, y7, y8, y9, y10, rfl⟩ := list11 hxl
  obtain ⟨v0, v1, v2, v3, v4, v5, v6, v7, v8, v9, v10, v11, v12, v13, v14, v15, v16, hcs⟩ := list17 (l := cs.toList) (by simpa using hsz)
  rw [hcs] at hg
  have g0 := hg 0 _ rfl
  have g1 := hg 1 _ rfl
  have g2 := hg 2 _ rfl
  have g3 := hg 3 _ rfl
  have g4 := hg 4 _ rfl
  have g5 := hg 5 _ rfl
  have g6 := hg 6 _ rfl
  have g7 := hg 7 _ rfl
  have g8 := hg 8 _ rfl
  have g9 := hg 9 _ rfl
  have g10 := hg 10 _ rfl
  simp [Tryz.cells2, Tryz.cells3, Tryz.cells4, Tryz.cells24, Tryz.cells25, Tryz.cells28] at g0 g1 g2 g3 g4 g5 g6 g7 g8 g9 g10
  obtain ⟨n0, e0, _, z0⟩ := DataW.trod_int Tryz.underlying3 g0
  obtain ⟨n1, e1, _, z1⟩ := DataW.trod_int Tryz.underlying3 g1
  obtain ⟨n2, e2, _, z2⟩ := DataW.trod_int Tryz.underlying3 g2
  obtain ⟨n3, e3, _, z3⟩ := DataW.trod_int Tryz.underlying2 g3
  obtain ⟨n4, e4, _, z4⟩ := DataW.trod_int Tryz.underlying2 g4
  obtain ⟨n5, e5, _, z5⟩ := DataW.trod_int Tryz.underlying2 g5
  obtain ⟨n6, e6, _, z6⟩ := DataW.trod_int Tryz.underlying2 g6
  obtain ⟨bY, e7, _⟩ := DataW.trod_bool Tryz.underlying4 g7
  obtain ⟨lv, ml, e8, a1, a2⟩ := view_tmsF g8
  obtain ⟨en, tv, e9, b1, b2⟩ := view_entF rfl g9
  obtain ⟨pt, dv, e10, c1, c2, c3⟩ := view_ptF rfl g10
  simp only [List.cons.injEq, and_true] at e0 e1 e2 e3 e4 e5 e6 e7 e8 e9 e10
  obtain ⟨rfl, rfl, rfl, rfl⟩ := e9
  obtain ⟨rfl, rfl, rfl, rfl⟩ := e10
  subst e0 e1 e2 e3 e4 e5 e6 e7 e8
  refine ⟨cs, ⟨n0, n1, n2, n3, n4, n5, n6, bY, ml, en, pt⟩, rfl, ⟨v8, v12, v16, ?_, a1, b1, c1⟩, ⟨fun x hx => (a2 x hx).ent.ok, b2.ok, c2⟩, ⟨bounds_i64 z3, bounds_i64 z4, bounds_i64 z5, bounds_i64 z6, a2, b2, c3⟩, bounds_i64 z0, bounds_i64 z1, bounds_i64 z2⟩
  have : cs = (cs.toList).toArray := by simp
  rw [this, hcs]
end
end Go.Proofs.YtggllgimlfchhabGreat

/- RecordBack: what its walk wants. -/
namespace Go.Proofs.YtggllgimlfchhabGreat
open Go.RowKit
set_option maxRecDepth 100000

theorem OwnE.size {base : Nat} {w : World} {cs : Array Value} {e : EntD} (h : OwnE base w cs e) : cs.size = 4 := by obtain ⟨_, rfl, _⟩ := h; rfl
theorem OwnE.one {base : Nat} {w : World} {cs : Array Value} {e : EntD} (h : OwnE base w cs e) : cs.all (·.oneCell') = true := by
  obtain ⟨_, rfl, h1⟩ := h
  obtain ⟨_, _, rfl⟩ := h1.shape
  simp [Value.oneCell']
theorem OwnM.size {base : Nat} {w : World} {cs : Array Value} {m : MsgD} (h : OwnM base w cs m) : cs.size = 17 := by obtain ⟨_, _, _, rfl, _⟩ := h; rfl
theorem OwnM.one {base : Nat} {w : World} {cs : Array Value} {m : MsgD} (h : OwnM base w cs m) : cs.all (·.oneCell') = true := by
  obtain ⟨_, _, _, rfl, h1, h2, h3⟩ := h
  obtain ⟨_, _, rfl⟩ := h1.shape
  obtain ⟨_, _, rfl⟩ := h2.shape
  obtain ⟨_, _, rfl⟩ := own_shape h3
  simp [Value.oneCell']
theorem OwnE.sees2 {base : Nat} {w : World} {cs : Array Value} {e : EntD} (h : OwnE base w cs e) (hr : ReadE e) : SeesE w cs e := by
  obtain ⟨tv, h0, h1⟩ := h
  exact ⟨tv, h0, h1.sees hr.1 hr.2⟩
theorem takeE_read {zs : List Int} (h : Byt zs) : ReadE (takeE zs).1 := by
  unfold takeE
  simp only
  split
  · exact (entry_byt (s := ⟨zs, 0, false⟩) h).2
  · exact ⟨by simp [dE], fun t ht => by cases ht⟩
theorem marB_byt {m : MsgD} (hf : FitM m) (ho : OkM m) : Byt (marB m) := by
  unfold marB
  split
  · unfold sealB
    exact ((putL_byt _).append (msgB_byt hf ho)).append (lowL_byte _ _)
  · exact byt_nil
theorem may_read {x : EntD} (fe : FitE x) (hm : mayE x = true) : ReadE x := by
  have := takeE_read (entB_byt fe)
  rw [take_form fe hm] at this
  exact this
theorem mar_read {m : MsgD} (fm : FitM m) (om : OkM m) (h : marE m = 0) : ReadM m := by
  have := (unm_fit (marB_byt fm om)).2
  rw [unm_mar fm h] at this
  exact this
theorem marB_le (m : MsgD) : (marB m).length ≤ 140737488355328 := by
  unfold marB
  split
  · rename_i h
    have hl : (msgB m).length ≤ 1048576 := by
      unfold marE at h
      split at h
      · split at h
        · cases h
        · omega
      · cases h
    rw [sealB_length]
    have hw : wid (mag ((msgB m).length : Int)) ≤ 8 := wid_le _
    omega
  · simp
theorem mar_long {m : MsgD} (h : marE m = 3) : mayMsg m = true := by
  cases c : mayMsg m with
  | true => rfl
  | false => simp [marE, c] at h
theorem mar_not {m : MsgD} (h : marE m = 40) : mayMsg m = false := by
  cases c : mayMsg m with
  | false => rfl
  | true =>
    simp only [marE, c, if_true] at h
    split at h <;> cases h
end Go.Proofs.YtggllgimlfchhabGreat
