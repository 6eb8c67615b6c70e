/- Messages and keys as arguments. -/
import Derived.Test.YtggllgimlfchhabGreatKI
import Derived.Test.YtggllgimlfchhabGreatMB
namespace Go.Proofs.YtggllgimlfchhabGreat
open Go.ChangeShapes Go.WideShapes Go.ChangeAt Go.RowKit Go.Deep
set_option maxRecDepth 100000

theorem Tryz.cells25 : Tryz.prog.cellsOf 25 = 1 := by kernel_rfl
theorem Tryz.cells28 : Tryz.prog.cellsOf 28 = 4 := by kernel_rfl
theorem Tryz.cells30 : Tryz.prog.cellsOf 30 = 17 := by kernel_rfl
theorem Tryz.cells52 : Tryz.prog.cellsOf 52 = 5 := by kernel_rfl
theorem Tryz.cells4 : Tryz.prog.cellsOf 4 = 1 := by kernel_rfl

section
variable {H : Type} {enc : TypeId × Value → H} {W : World}

theorem view_entC {fuel : Nat} {cs : List Value} {x : DataW H × List MemPlace} (hl : cs.length = 4) (hf : DataW.trod enc Tryz.prog W 0 (fun _ => true) true fuel 24 cs = some x) :
    ∃ (e : EntD) (tv : Value), cs = [.int .i64 e.kind, .int .i64 e.frm, .int .i64 e.num, tv] ∧ SeesTs W tv e.txns ∧ OkTs e.txns := by
  obtain ⟨xs, n, _, rfl, _, hxl, hg⟩ := DataW.trod_struct Tryz.underlying24 hf
  obtain ⟨y0, y1, y2, y3, rfl⟩ := list4 hxl
  obtain ⟨v0, v1, v2, v3, rfl⟩ := list4 hl
  have g0 := hg 0 _ rfl
  have g1 := hg 1 _ rfl
  have g2 := hg 2 _ rfl
  have g3 := hg 3 _ rfl
  simp [Tryz.cells2, Tryz.cells3, Tryz.cells22] at g0 g1 g2 g3
  obtain ⟨n0, e0, _, w0⟩ := DataW.trod_int Tryz.underlying3 g0
  obtain ⟨n1, e1, _, w1⟩ := DataW.trod_int Tryz.underlying3 g1
  obtain ⟨n2, e2, _, w2⟩ := DataW.trod_int Tryz.underlying2 g2
  obtain ⟨u3, l, e3, k1, k2, k3⟩ := view_txns g3
  simp only [List.cons.injEq, and_true] at e0 e1 e2 e3
  subst e0 e1 e2 e3
  exact ⟨⟨n0, n1, n2, l⟩, v3, rfl, k1, fun t ht => ⟨(k2 t ht).code, k3 t ht⟩⟩
abbrev TM2 := TmD × Value
def tmCells (p : TM2) : List Value := [.int .i64 p.1.term, .int .i64 p.1.ent.kind, .int .i64 p.1.ent.frm, .int .i64 p.1.ent.num, p.2]
instance : Inhabited TM2 := ⟨(dM, .slice none 0 0)⟩
theorem list5 {α : Type} {l : List α} (h : l.length = 5) : ∃ a0 a1 a2 a3 a4, l = [a0, a1, a2, a3, a4] := by
  match l, h with
  | [a0, a1, a2, a3, a4], _ => exact ⟨a0, a1, a2, a3, a4, rfl⟩
theorem view_tmC {fuel : Nat} {cs : List Value} {x : DataW H × List MemPlace} (hl : cs.length = 5) (hf : DataW.trod enc Tryz.prog W 0 (fun _ => true) true fuel 52 cs = some x) :
    ∃ p : TM2, cs = tmCells p ∧ (SeesTs W p.2 p.1.ent.txns ∧ OkTs p.1.ent.txns) := by
  obtain ⟨xs, n, _, rfl, _, hxl, hg⟩ := DataW.trod_struct Tryz.underlying52 hf
  obtain ⟨y0, y1, rfl⟩ := list2 hxl
  obtain ⟨v0, v1, v2, v3, v4, rfl⟩ := list5 hl
  have g0 := hg 0 _ rfl
  have g1 := hg 1 _ rfl
  simp [Tryz.cells2, Tryz.cells24] at g0 g1
  obtain ⟨n0, e0, _, w0⟩ := DataW.trod_int Tryz.underlying2 g0
  obtain ⟨e, tv, e1, k1, k2⟩ := view_entC rfl g1
  simp only [List.cons.injEq, and_true] at e0 e1
  obtain ⟨rfl, rfl, rfl, rfl⟩ := e1
  subst e0
  exact ⟨(⟨n0, e⟩, v4), rfl, k1, k2⟩
theorem view_tmsC {fuel : Nat} {cs : List Value} {x : DataW H × List MemPlace} (hf : DataW.trod enc Tryz.prog W 0 (fun _ => true) true fuel 25 cs = some x) : ∃ v l, cs = [v] ∧ SeesTms W v l ∧ OkTms l := by
  obtain ⟨a0, cap, gb, ob, l, rfl, h1, h2, h3, h4⟩ := view_list (α := TM2) Tryz.underlying25 Tryz.cells52 (by decide) tmCells (fun p => SeesTs W p.2 p.1.ent.txns ∧ OkTs p.1.ent.txns) (fun _ => rfl) (fun _ _ _ hl hf => view_tmC hl hf) hf
  have hm : ∀ t ∈ l.map (·.1), OkTs t.ent.txns := fun t ht => by
    obtain ⟨p, hp, rfl⟩ := List.mem_map.1 ht
    obtain ⟨i, hi, rfl⟩ := List.getElem_of_mem hp
    have := (h4 i hi).1
    have e : l.getD i default = l[i] := by simp [List.getD, hi]
    rw [e] at this
    exact this.2
  refine ⟨_, l.map (·.1), rfl, ⟨a0, cap, gb, ob, by simp, by simpa using h1, by simpa using h2, by simpa using h3, fun t ht => ?_⟩, fun t ht => hm t ht⟩
  have htl : t < l.length := by simpa using ht
  obtain ⟨hk, hc⟩ := h4 t htl
  have e : l.getD t default = l[t] := by simp [List.getD, htl]
  have e2 : (l.map (·.1)).getD t dM = l[t].1 := by simp [List.getD, htl]
  rw [e] at hk hc
  rw [e2]
  exact ⟨_, hc 0 (by omega), hc 1 (by omega), hc 2 (by omega), hc 3 (by omega), hc 4 (by omega), hk.1⟩
theorem view_ptC {fuel : Nat} {cs : List Value} {x : DataW H × List MemPlace} (hl : cs.length = 4) (hf : DataW.trod enc Tryz.prog W 0 (fun _ => true) true fuel 28 cs = some x) :
    ∃ (p : PtD) (dv : Value), cs = [.int .i64 p.slot, .int .i64 p.idx, .int .i64 p.many, dv] ∧ Sees W .u8 dv p.data ∧ Byt p.data := by
  obtain ⟨xs, n, _, rfl, _, hxl, hg⟩ := DataW.trod_struct Tryz.underlying28 hf
  obtain ⟨y0, y1, y2, y3, rfl⟩ := list4 hxl
  obtain ⟨v0, v1, v2, v3, rfl⟩ := list4 hl
  have g0 := hg 0 _ rfl
  have g1 := hg 1 _ rfl
  have g2 := hg 2 _ rfl
  have g3 := hg 3 _ rfl
  simp [Tryz.cells2, Tryz.cells3, Tryz.cells26] at g0 g1 g2 g3
  obtain ⟨n0, e0, _, w0⟩ := DataW.trod_int Tryz.underlying2 g0
  obtain ⟨n1, e1, _, w1⟩ := DataW.trod_int Tryz.underlying3 g1
  obtain ⟨n2, e2, _, w2⟩ := DataW.trod_int Tryz.underlying3 g2
  obtain ⟨u3, l, e3, k1, k2⟩ := view_bytes g3
  simp only [List.cons.injEq, and_true] at e0 e1 e2 e3
  subst e0 e1 e2 e3
  exact ⟨⟨n0, n1, n2, l⟩, v3, rfl, k1, k2⟩
theorem list11 {α : Type} {l : List α} (h : l.length = 11) : ∃ a0 a1 a2 a3 a4 a5 a6 a7 a8 a9 a10, l = [a0, a1, a2, a3, a4, a5, a6, a7, a8, a9, a10] := by
  match l, h with
  | [a0, a1, a2, a3, a4, a5, a6, a7, a8, a9, a10], _ => exact ⟨a0, a1, a2, a3, a4, a5, a6, a7, a8, a9, a10, rfl⟩
theorem list17 {α : Type} {l : List α} (h : l.length = 17) : ∃ a0 a1 a2 a3 a4 a5 a6 a7 a8 a9 a10 a11 a12 a13 a14 a15 a16, l = [a0, a1, a2, a3, a4, a5, a6, a7, a8, a9, a10, a11, a12, a13, a14, a15, a16] := by
  match l, h with
  | [a0, a1, a2, a3, a4, a5, a6, a7, a8, a9, a10, a11, a12, a13, a14, a15, a16], _ => exact ⟨a0, a1, a2, a3, a4, a5, a6, a7, a8, a9, a10, a11, a12, a13, a14, a15, a16, rfl⟩
/-- A message as an argument. -/
theorem view_msgA {r : Reach} {b0 : Nat} {v : Value} {d : DataW H} {p : List MemPlace} (hval : Value.okWide Tryz.prog W r b0 30 v) (hf : DataW.Trod enc Tryz.prog W 0 (fun _ => true) true 30 v d p) :
    ∃ cs m, v = .agg cs ∧ SeesM W cs m ∧ OkM m := by
  obtain ⟨cs, rfl, hsz⟩ := okWide_struct Tryz.underlying30 hval
  obtain ⟨fuel, hf⟩ := hf
  rw [Tryz.cells30] at hsz
  have e : (Value.agg cs).cells.toList = cs.toList := by simp [Value.cells]
  rw [e] at hf
  obtain ⟨xs, n, _, hx, _, hxl, hg⟩ := DataW.trod_struct Tryz.underlying30 hf
  obtain ⟨y0, y1, y2, y3, y4, y5, y6, y7, y8, y9, y10, rfl⟩ := list11 hxl
  obtain ⟨v0, v1, v2, v3, v4, v5, v6, v7, v8, v9, v10, v11, v12, v13, v14, v15, v16, hcs⟩ := list17 (l := cs.toList) (by simpa using hsz)
  rw [hcs] at hg
  have g0 := hg 0 _ rfl
  have g1 := hg 1 _ rfl
  have g2 := hg 2 _ rfl
  have g3 := hg 3 _ rfl
  have g4 := hg 4 _ rfl
  have g5 := hg 5 _ rfl
  have g6 := hg 6 _ rfl
  have g7 := hg 7 _ rfl
  have g8 := hg 8 _ rfl
  have g9 := hg 9 _ rfl
  have g10 := hg 10 _ rfl
  simp [Tryz.cells2, Tryz.cells3, Tryz.cells4, Tryz.cells24, Tryz.cells25, Tryz.cells28] at g0 g1 g2 g3 g4 g5 g6 g7 g8 g9 g10
  obtain ⟨n0, e0, _, _⟩ := DataW.trod_int Tryz.underlying3 g0
  obtain ⟨n1, e1, _, _⟩ := DataW.trod_int Tryz.underlying3 g1
  obtain ⟨n2, e2, _, _⟩ := DataW.trod_int Tryz.underlying3 g2
  obtain ⟨n3, e3, _, _⟩ := DataW.trod_int Tryz.underlying2 g3
  obtain ⟨n4, e4, _, _⟩ := DataW.trod_int Tryz.underlying2 g4
  obtain ⟨n5, e5, _, _⟩ := DataW.trod_int Tryz.underlying2 g5
  obtain ⟨n6, e6, _, _⟩ := DataW.trod_int Tryz.underlying2 g6
  obtain ⟨bY, e7, _⟩ := DataW.trod_bool Tryz.underlying4 g7
  obtain ⟨lv, ml, e8, a1, a2⟩ := view_tmsC g8
  obtain ⟨en, tv, e9, b1, b2⟩ := view_entC rfl g9
  obtain ⟨pt, dv, e10, c1, c2⟩ := view_ptC rfl g10
  simp only [List.cons.injEq, and_true] at e0 e1 e2 e3 e4 e5 e6 e7 e8 e9 e10
  obtain ⟨rfl, rfl, rfl, rfl⟩ := e9
  obtain ⟨rfl, rfl, rfl, rfl⟩ := e10
  subst e0 e1 e2 e3 e4 e5 e6 e7 e8
  refine ⟨cs, ⟨n0, n1, n2, n3, n4, n5, n6, bY, ml, en, pt⟩, rfl, ⟨v8, v12, v16, ?_, a1, b1, c1⟩, ⟨a2, b2, c2⟩⟩
  have : cs = (cs.toList).toArray := by simp
  rw [this, hcs]
/-- Keys as an argument. -/
theorem view_keysA {r : Reach} {b0 : Nat} {v : Value} {d : DataW H} {p : List MemPlace} (hval : Value.okWide Tryz.prog W r b0 68 v) (hf : DataW.Trod enc Tryz.prog W 0 (fun _ => true) true 68 v d p) : ∃ l, SeesK W v l := by
  obtain ⟨a, len, cap, rfl⟩ := okWide_slice Tryz.underlying68 hval
  obtain ⟨fuel, hf⟩ := hf
  obtain ⟨v, l, hv, hs, _⟩ := view_keys hf
  simp [Value.cells] at hv
  subst hv
  exact ⟨l, hs⟩
end
end Go.Proofs.YtggllgimlfchhabGreat
