/- Several texts as one. -/
import Derived.Test.YtldapckooohigaaDoorJM
import Derived.Test.YtldapckooohigaaDoorJO

/- Views of outcomes, transactions, pairs and changes as arguments. -/
namespace Go.Proofs.YtldapckooohigaaDoor
open Go.ChangeShapes Go.WideShapes Go.ChangeAt Go.RowKit Go.Deep
set_option maxRecDepth 100000

theorem Tryd.cells40 : Tryd.prog.cellsOf 40 = 4 := by kernel_rfl
theorem Tryd.cells45 : Tryd.prog.cellsOf 45 = 3 := by kernel_rfl
theorem Tryd.cells30 : Tryd.prog.cellsOf 30 = 1 := by kernel_rfl
theorem Tryd.cells4 : Tryd.prog.cellsOf 4 = 1 := by kernel_rfl
theorem Tryd.cells51 : Tryd.prog.cellsOf 51 = 4 := by kernel_rfl
theorem bytes40 : Tryd.prog.bytesOf 40 = 32 := by kernel_rfl
theorem bytes45 : Tryd.prog.bytesOf 45 = 24 := by kernel_rfl
theorem bnd_i32 {n : Int} (h : (Lit.int .i32 n).wf = true) : -2147483648 ≤ n ∧ n ≤ 2147483647 := by
  have e1 : IntKind.i32.min = -2147483648 := by decide
  have e2 : IntKind.i32.max = 2147483647 := by decide
  simp only [Lit.wf, e1, e2, Bool.and_eq_true, decide_eq_true_eq] at h
  exact h
theorem list3 {α : Type} {l : List α} (h : l.length = 3) : ∃ a b c, l = [a, b, c] := by
  match l, h with
  | [a, b, c], _ => exact ⟨a, b, c, rfl⟩
theorem list4 {α : Type} {l : List α} (h : l.length = 4) : ∃ a b c d, l = [a, b, c, d] := by
  match l, h with
  | [a, b, c, d], _ => exact ⟨a, b, c, d, rfl⟩
section
variable {H : Type} {enc : TypeId × Value → H} {W : World}
theorem view_keyO {fuel : Nat} {cs : List Value} {x : DataW H × List MemPlace} (hl : cs.length = 2) (hf : DataW.trod enc Tryd.prog W 0 (fun _ => true) true fuel 38 cs = some x) : ∃ o : Ky, cs = kC o ∧ OkK o := by
  obtain ⟨v0, v1, rfl⟩ := list2 hl
  obtain ⟨xs, n, _, _, _, hxl, hg⟩ := DataW.trod_struct Tryd.underlying38 hf
  obtain ⟨y0, y1, rfl⟩ := list2 hxl
  have g0 := hg 0 _ rfl
  have g1 := hg 1 _ rfl
  simp [Tryd.cells21, Tryd.cells2] at g0 g1
  obtain ⟨n0, e0, _, w0⟩ := DataW.trod_int Tryd.underlying21 g0
  obtain ⟨n1, e1, _, w1⟩ := DataW.trod_int Tryd.underlying2 g1
  simp only [List.cons.injEq, and_true] at e0 e1
  subst e0 e1
  exact ⟨(n0, n1), rfl, bnd_i32 w0, (bnd_i64 w1).1, (bnd_i64 w1).2⟩
theorem view_pr {fuel : Nat} {cs : List Value} {x : DataW H × List MemPlace} (hl : cs.length = 3) (hf : DataW.trod enc Tryd.prog W 0 (fun _ => true) true fuel 45 cs = some x) : ∃ o : Pr, cs = pC o ∧ OkK o.1 := by
  obtain ⟨v0, v1, v2, rfl⟩ := list3 hl
  obtain ⟨xs, n, _, _, _, hxl, hg⟩ := DataW.trod_struct Tryd.underlying45 hf
  obtain ⟨y0, y1, rfl⟩ := list2 hxl
  have g0 := hg 0 _ rfl
  have g1 := hg 1 _ rfl
  simp [Tryd.cells38, Tryd.cells2] at g0 g1
  obtain ⟨k, e0, ok0⟩ := view_keyO rfl g0
  obtain ⟨n1, e1, _, w1⟩ := DataW.trod_int Tryd.underlying2 g1
  simp only [kC, List.cons.injEq, and_true] at e0 e1
  obtain ⟨rfl, rfl⟩ := e0
  subst e1
  exact ⟨(k, n1), rfl, ok0⟩
theorem view_ch {fuel : Nat} {cs : List Value} {x : DataW H × List MemPlace} (hl : cs.length = 4) (hf : DataW.trod enc Tryd.prog W 0 (fun _ => true) true fuel 40 cs = some x) : ∃ o : Ch, cs = chC o ∧ OkK o.1 := by
  obtain ⟨v0, v1, v2, v3, rfl⟩ := list4 hl
  obtain ⟨xs, n, _, _, _, hxl, hg⟩ := DataW.trod_struct Tryd.underlying40 hf
  obtain ⟨y0, y1, y2, rfl⟩ := list3 hxl
  have g0 := hg 0 _ rfl
  have g1 := hg 1 _ rfl
  have g2 := hg 2 _ rfl
  simp [Tryd.cells38, Tryd.cells2, Tryd.cells4] at g0 g1 g2
  obtain ⟨k, e0, ok0⟩ := view_keyO rfl g0
  obtain ⟨n1, e1, _, w1⟩ := DataW.trod_int Tryd.underlying2 g1
  obtain ⟨b2, e2, _⟩ := DataW.trod_bool Tryd.underlying4 g2
  simp only [kC, List.cons.injEq, and_true] at e0 e1 e2
  obtain ⟨rfl, rfl⟩ := e0
  subst e1 e2
  exact ⟨(k, (n1, b2)), rfl, ok0⟩
theorem getD_mem {α : Type} [Inhabited α] {ok : α → Prop} {l : List α} (h : ∀ t, t < l.length → ok (l.getD t default)) : ∀ x ∈ l, ok x := fun x hx => by
  obtain ⟨i, hi, rfl⟩ := List.getElem_of_mem hx
  have := h i hi
  simpa [List.getD, hi] using this
theorem view_intsO {fuel : Nat} {cs : List Value} {x : DataW H × List MemPlace} (hf : DataW.trod enc Tryd.prog W 0 (fun _ => true) true fuel 32 cs = some x) (hB : Light 32 x.1) : ∃ (v : Value) (l : List Int), cs = [v] ∧ SeesL nC 1 W v l := by
  obtain ⟨a0, cap, gb, ob, l, h0, h1, h2, hc, h3, h4⟩ := view_listR (M := 140737488351232) (fun k h => by rw [bytes2] at h; omega) (α := Int) Tryd.underlying32 Tryd.cells2 (by decide) nC I64 (fun _ => rfl) (fun _ _ _ hl hf _ => view_int hl hf) hf hB
  exact ⟨_, l, h0, sees_of_view h1 (by omega) hc h3 fun t ht => (h4 t ht).2⟩
theorem view_keysO {fuel : Nat} {cs : List Value} {x : DataW H × List MemPlace} (hf : DataW.trod enc Tryd.prog W 0 (fun _ => true) true fuel 33 cs = some x) (hB : Light 33 x.1) : ∃ (v : Value) (l : List Ky), cs = [v] ∧ SeesL kC 2 W v l ∧ (∀ k ∈ l, OkK k) ∧ l.length ≤ 8796093022208 := by
  obtain ⟨a0, cap, gb, ob, l, h0, h1, h2, hc, h3, h4⟩ := view_listR (M := 8796093022208) (fun k h => by rw [bytes101] at h; omega) (α := Ky) Tryd.underlying33 Tryd.cells38 (by decide) kC OkK (fun _ => rfl) (fun _ _ _ hl hf _ => view_keyO hl hf) hf hB
  exact ⟨_, l, h0, sees_of_view h1 (by omega) hc h3 fun t ht => (h4 t ht).2, getD_mem fun t ht => (h4 t ht).1, h2⟩
theorem view_chsO {fuel : Nat} {cs : List Value} {x : DataW H × List MemPlace} (hf : DataW.trod enc Tryd.prog W 0 (fun _ => true) true fuel 30 cs = some x) (hB : Light 30 x.1) : ∃ (v : Value) (l : List Ch), cs = [v] ∧ SeesL chC 4 W v l ∧ (∀ c ∈ l, OkK c.1) ∧ l.length ≤ 4398046510976 := by
  obtain ⟨a0, cap, gb, ob, l, h0, h1, h2, hc, h3, h4⟩ := view_listR (M := 4398046510976) (fun k h => by rw [bytes40] at h; omega) (α := Ch) Tryd.underlying30 Tryd.cells40 (by decide) chC (fun c => OkK c.1) (fun _ => rfl) (fun _ _ _ hl hf _ => view_ch hl hf) hf hB
  exact ⟨_, l, h0, sees_of_view h1 (by omega) hc h3 fun t ht => (h4 t ht).2, getD_mem fun t ht => (h4 t ht).1, h2⟩
theorem view_prsO {fuel : Nat} {cs : List Value} {x : DataW H × List MemPlace} (hf : DataW.trod enc Tryd.prog W 0 (fun _ => true) true fuel 29 cs = some x) (hB : Light 29 x.1) : ∃ (v : Value) (l : List Pr), cs = [v] ∧ SeesL pC 3 W v l ∧ (∀ p ∈ l, OkK p.1) ∧ l.length ≤ 5864062014634 := by
  obtain ⟨a0, cap, gb, ob, l, h0, h1, h2, hc, h3, h4⟩ := view_listR (M := 5864062014634) (fun k h => by rw [bytes45] at h; omega) (α := Pr) Tryd.underlying29 Tryd.cells45 (by decide) pC (fun c => OkK c.1) (fun _ => rfl) (fun _ _ _ hl hf _ => view_pr hl hf) hf hB
  exact ⟨_, l, h0, sees_of_view h1 (by omega) hc h3 fun t ht => (h4 t ht).2, getD_mem fun t ht => (h4 t ht).1, h2⟩
theorem view_outArg {r : Reach} {b0 : Nat} {v : Value} {d : DataW H} {p : List MemPlace} (hval : Value.okWide Tryd.prog W r b0 51 v) (hf : DataW.Trod enc Tryd.prog W 0 (fun _ => true) true 51 v d p) (hB : Light 51 d) :
    ∃ (o : Out) (vv hv : Value), v = .agg #[.int .i64 o.en, vv, hv, .int .i64 o.st] ∧ SeesL nC 1 W vv o.vs ∧ SeesL chC 4 W hv o.cs := by
  obtain ⟨cs, rfl, hsz⟩ := okWide_struct Tryd.underlying51 hval
  obtain ⟨fuel, hf⟩ := hf
  rw [Tryd.cells51] at hsz
  have e : (Value.agg cs).cells.toList = cs.toList := by simp [Value.cells]
  rw [e] at hf
  obtain ⟨xs, n, _, hd, _, hxl, hg⟩ := DataW.trod_struct Tryd.underlying51 hf
  obtain ⟨rfl, rfl⟩ := Prod.mk.inj hd
  obtain ⟨y0, y1, y2, y3, rfl⟩ := list4 hxl
  obtain ⟨v0, v1, v2, v3, hcs⟩ := list4 (l := cs.toList) (by simpa using hsz)
  rw [hcs] at hg
  have g0 := hg 0 _ rfl
  have g1 := hg 1 _ rfl
  have g2 := hg 2 _ rfl
  have g3 := hg 3 _ rfl
  simp [Tryd.cells3, Tryd.cells32, Tryd.cells30] at g0 g1 g2 g3
  obtain ⟨m0, e0, _, w0⟩ := DataW.trod_int Tryd.underlying3 g0
  obtain ⟨vv, l1, e1, s1⟩ := view_intsO g1 (light_field Tryd.underlying51 hB (i := 1) rfl rfl)
  obtain ⟨hv, l2, e2, s2, _⟩ := view_chsO g2 (light_field Tryd.underlying51 hB (i := 2) rfl rfl)
  obtain ⟨m3, e3, _, w3⟩ := DataW.trod_int Tryd.underlying3 g3
  simp only [List.cons.injEq, and_true] at e0 e1 e2 e3
  subst e0 e1 e2 e3
  refine ⟨⟨m0, l1, l2, m3⟩, v1, v2, ?_, s1, s2⟩
  rw [show cs = cs.toList.toArray by simp, hcs]
theorem view_txArg {r : Reach} {b0 : Nat} {v : Value} {d : DataW H} {p : List MemPlace} (hval : Value.okWide Tryd.prog W r b0 35 v) (hf : DataW.Trod enc Tryd.prog W 0 (fun _ => true) true 35 v d p) (hB : Light 35 d) :
    ∃ (x : Tx) (cv av rv wv : Value), v = .agg #[.int .i64 x.s, .int .i64 x.r, cv, av, rv, wv] ∧ SeesX W x cv av rv wv ∧ x.rs.length ≤ 8796093022208 ∧ x.ws.length ≤ 8796093022208 := by
  obtain ⟨cs, rfl, hsz⟩ := okWide_struct Tryd.underlying35 hval
  obtain ⟨fuel, hf⟩ := hf
  rw [Tryd.cells35] at hsz
  have e : (Value.agg cs).cells.toList = cs.toList := by simp [Value.cells]
  rw [e] at hf
  obtain ⟨xs, n, _, hd, _, hxl, hg⟩ := DataW.trod_struct Tryd.underlying35 hf
  obtain ⟨rfl, rfl⟩ := Prod.mk.inj hd
  obtain ⟨y0, y1, y2, y3, y4, y5, rfl⟩ := list6 hxl
  obtain ⟨v0, v1, v2, v3, v4, v5, hcs⟩ := list6 (l := cs.toList) (by simpa using hsz)
  rw [hcs] at hg
  have g0 := hg 0 _ rfl
  have g1 := hg 1 _ rfl
  have g2 := hg 2 _ rfl
  have g3 := hg 3 _ rfl
  have g4 := hg 4 _ rfl
  have g5 := hg 5 _ rfl
  simp [Tryd.cells2, Tryd.cells31, Tryd.cells32, Tryd.cells33] at g0 g1 g2 g3 g4 g5
  obtain ⟨m0, e0, _, w0⟩ := DataW.trod_int Tryd.underlying2 g0
  obtain ⟨m1, e1, _, w1⟩ := DataW.trod_int Tryd.underlying2 g1
  obtain ⟨a1, c1, l, e2, hs2, hb2, k2⟩ := view_bytesR g2 (light_field Tryd.underlying35 hB (i := 2) rfl rfl)
  obtain ⟨av, l3, e3, hs3⟩ := view_intsO g3 (light_field Tryd.underlying35 hB (i := 3) rfl rfl)
  obtain ⟨rv, l4, e4, hs4, ok4, k4⟩ := view_keysO g4 (light_field Tryd.underlying35 hB (i := 4) rfl rfl)
  obtain ⟨wv, l5, e5, hs5, ok5, k5⟩ := view_keysO g5 (light_field Tryd.underlying35 hB (i := 5) rfl rfl)
  simp only [List.cons.injEq, and_true] at e0 e1 e2 e3 e4 e5
  subst e0 e1 e2 e3 e4 e5
  refine ⟨⟨m0, m1, l, l3, l4, l5⟩, _, v3, v4, v5, ?_, ⟨hs2, hb2, hs3, hs4, hs5, ok4, ok5, by simp only; omega, by simp only; omega⟩, k4, k5⟩
  rw [show cs = cs.toList.toArray by simp, hcs]
end
end Go.Proofs.YtldapckooohigaaDoor

/- Views of small numbers, pairs and changes as arguments. -/
namespace Go.Proofs.YtldapckooohigaaDoor
open Go.ChangeShapes Go.WideShapes Go.ChangeAt Go.RowKit Go.Deep
set_option maxRecDepth 100000

theorem bnd_u16 {n : Int} (h : (Lit.int .u16 n).wf = true) : 0 ≤ n ∧ n ≤ 65535 := by
  have e1 : IntKind.u16.min = 0 := by decide
  have e2 : IntKind.u16.max = 65535 := by decide
  simp only [Lit.wf, e1, e2, Bool.and_eq_true, decide_eq_true_eq] at h
  exact h
section
variable {H : Type} {enc : TypeId × Value → H} {W : World}
theorem view_u16Arg {r : Reach} {b0 : Nat} {v : Value} {d : DataW H} {p : List MemPlace} (hval : Value.okWide Tryd.prog W r b0 53 v) (hf : DataW.Trod enc Tryd.prog W 0 (fun _ => true) true 53 v d p) : ∃ n : Nat, v = .int .u16 (n : Int) ∧ n ≤ 65535 := by
  obtain ⟨n, rfl⟩ := okWide_int Tryd.underlying53 hval
  obtain ⟨fuel, hf⟩ := hf
  obtain ⟨m, e, _, w⟩ := DataW.trod_int Tryd.underlying53 hf
  have e' : n = m := by simpa [Value.cells] using e
  subst e'
  have hb := bnd_u16 w
  exact ⟨n.toNat, by rw [Int.toNat_of_nonneg hb.1], by omega⟩
theorem view_prsArg {r : Reach} {b0 : Nat} {v : Value} {d : DataW H} {p : List MemPlace} (hval : Value.okWide Tryd.prog W r b0 29 v) (hf : DataW.Trod enc Tryd.prog W 0 (fun _ => true) true 29 v d p) (hB : Light 29 d) :
    ∃ l : List Pr, SeesL pC 3 W v l ∧ (∀ p ∈ l, OkK p.1) ∧ l.length ≤ 5864062014634 := by
  obtain ⟨a, n, c, hv⟩ := okWide_slice Tryd.underlying29 hval
  obtain ⟨fuel, hf⟩ := hf
  have e : v.cells.toList = [v] := by rw [hv]; rfl
  rw [e] at hf
  obtain ⟨v', l, h0, h1, h2, h3⟩ := view_prsO hf hB
  simp only [List.cons.injEq, and_true] at h0
  subst h0
  exact ⟨l, h1, h2, h3⟩
theorem view_chsArg {r : Reach} {b0 : Nat} {v : Value} {d : DataW H} {p : List MemPlace} (hval : Value.okWide Tryd.prog W r b0 30 v) (hf : DataW.Trod enc Tryd.prog W 0 (fun _ => true) true 30 v d p) (hB : Light 30 d) :
    ∃ l : List Ch, SeesL chC 4 W v l ∧ (∀ p ∈ l, OkK p.1) ∧ l.length ≤ 4398046510976 := by
  obtain ⟨a, n, c, hv⟩ := okWide_slice Tryd.underlying30 hval
  obtain ⟨fuel, hf⟩ := hf
  have e : v.cells.toList = [v] := by rw [hv]; rfl
  rw [e] at hf
  obtain ⟨v', l, h0, h1, h2, h3⟩ := view_chsO hf hB
  simp only [List.cons.injEq, and_true] at h0
  subst h0
  exact ⟨l, h1, h2, h3⟩
end
end Go.Proofs.YtldapckooohigaaDoor
