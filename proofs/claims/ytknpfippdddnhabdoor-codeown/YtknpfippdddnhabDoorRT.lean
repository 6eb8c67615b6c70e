/- A transaction as an argument. -/
import Derived.Test.YtknpfippdddnhabDoorRV
import Derived.Test.YtknpfippdddnhabDoorJC
namespace Go.Proofs.YtknpfippdddnhabDoor
open Go.ChangeShapes Go.WideShapes Go.ChangeAt Go.RowKit Go.Deep
set_option maxRecDepth 100000

theorem Tryd.cells22 : Tryd.prog.cellsOf 22 = 1 := by kernel_rfl
theorem Tryd.cells23 : Tryd.prog.cellsOf 23 = 1 := by kernel_rfl
theorem Tryd.cells24 : Tryd.prog.cellsOf 24 = 1 := by kernel_rfl
theorem Tryd.cells21 : Tryd.prog.cellsOf 21 = 1 := by kernel_rfl
theorem Tryd.cells66 : Tryd.prog.cellsOf 66 = 2 := by kernel_rfl
theorem Tryd.cells26 : Tryd.prog.cellsOf 26 = 6 := by kernel_rfl
theorem bytes2 : Tryd.prog.bytesOf 2 = 8 := by kernel_rfl
theorem bytes101 : Tryd.prog.bytesOf 66 = 16 := by kernel_rfl
theorem list2 {α : Type} {l : List α} (h : l.length = 2) : ∃ a b, l = [a, b] := by
  obtain ⟨a, b, rfl⟩ : ∃ a b, l = [a, b] := by
    match l, h with
    | [a, b], _ => exact ⟨a, b, rfl⟩
  exact ⟨a, b, rfl⟩
theorem list6 {α : Type} {l : List α} (h : l.length = 6) : ∃ a b c d e f, l = [a, b, c, d, e, f] := by
  match l, h with
  | [a, b, c, d, e, f], _ => exact ⟨a, b, c, d, e, f, rfl⟩
section
variable {H : Type} {enc : TypeId × Value → H} {W : World}
theorem view_int {fuel : Nat} {cs : List Value} {x : DataW H × List MemPlace} (hl : cs.length = 1) (hf : DataW.trod enc Tryd.prog W 0 (fun _ => true) true fuel 2 cs = some x) : ∃ o : Int, cs = nC o ∧ I64 o := by
  obtain ⟨v0, rfl⟩ := list1 hl
  obtain ⟨n, e, _, w⟩ := DataW.trod_int Tryd.underlying2 hf
  simp only [List.cons.injEq, and_true] at e
  subst e
  exact ⟨n, rfl, bnd_i64 w⟩
theorem view_key {fuel : Nat} {cs : List Value} {x : DataW H × List MemPlace} (hl : cs.length = 2) (hf : DataW.trod enc Tryd.prog W 0 (fun _ => true) true fuel 66 cs = some x) : ∃ o : Ky, cs = kC o ∧ True := by
  obtain ⟨v0, v1, rfl⟩ := list2 hl
  obtain ⟨xs, n, _, _, _, hxl, hg⟩ := DataW.trod_struct Tryd.underlying66 hf
  obtain ⟨y0, y1, rfl⟩ := list2 hxl
  have g0 := hg 0 _ rfl
  have g1 := hg 1 _ rfl
  simp [Tryd.cells21, Tryd.cells2] at g0 g1
  obtain ⟨n0, e0, _, w0⟩ := DataW.trod_int Tryd.underlying21 g0
  obtain ⟨n1, e1, _, w1⟩ := DataW.trod_int Tryd.underlying2 g1
  simp only [List.cons.injEq, and_true] at e0 e1
  subst e0 e1
  exact ⟨(n0, n1), rfl, trivial⟩
theorem view_bytesR {fuel : Nat} {cs : List Value} {x : DataW H × List MemPlace} (hf : DataW.trod enc Tryd.prog W 0 (fun _ => true) true fuel 22 cs = some x) (hB : Light 22 x.1) : ∃ (a : Option Addr) (c : Nat) (l : List Int), cs = [.slice a l.length c] ∧ SeesL yC 1 W (.slice a l.length c) l ∧ Byt l ∧ l.length ≤ 140737488351232 := by
  obtain ⟨a0, cap, gb, ob, l, h0, h1, h2, hc, h3, h4⟩ := view_listR (M := 140737488351232) (fun k h => by rw [bytes5] at h; omega) (α := Int) Tryd.underlying22 Tryd.cells5 (by decide) yC (fun o => 0 ≤ o ∧ o ≤ 255) (fun _ => rfl) (fun _ _ _ hl hf _ => view_byte hl hf) hf hB
  refine ⟨a0, cap, l, h0, sees_of_view h1 (by omega) hc h3 fun t ht => (h4 t ht).2, fun b hb => ?_, h2⟩
  obtain ⟨t, ht, rfl⟩ := List.mem_iff_getElem.1 hb
  have := (h4 t ht).1
  simpa [List.getD, ht] using this
theorem view_intsR {fuel : Nat} {cs : List Value} {x : DataW H × List MemPlace} (hf : DataW.trod enc Tryd.prog W 0 (fun _ => true) true fuel 23 cs = some x) (hB : Light 23 x.1) : ∃ (a : Option Addr) (n c : Nat), cs = [.slice a n c] := by
  obtain ⟨a0, cap, gb, ob, l, h0, _⟩ := view_listR (M := 140737488351232) (fun k h => by rw [bytes2] at h; omega) (α := Int) Tryd.underlying23 Tryd.cells2 (by decide) nC I64 (fun _ => rfl) (fun _ _ _ hl hf _ => view_int hl hf) hf hB
  exact ⟨a0, l.length, cap, h0⟩
theorem view_keysR {fuel : Nat} {cs : List Value} {x : DataW H × List MemPlace} (hf : DataW.trod enc Tryd.prog W 0 (fun _ => true) true fuel 24 cs = some x) (hB : Light 24 x.1) : ∃ (a : Option Addr) (c : Nat) (l : List Ky), cs = [.slice a l.length c] ∧ SeesL kC 2 W (.slice a l.length c) l ∧ l.length ≤ 140737488351232 := by
  obtain ⟨a0, cap, gb, ob, l, h0, h1, h2, hc, h3, h4⟩ := view_listR (M := 140737488351232) (fun k h => by rw [bytes101] at h; omega) (α := Ky) Tryd.underlying24 Tryd.cells66 (by decide) kC (fun _ => True) (fun _ => rfl) (fun _ _ _ hl hf _ => view_key hl hf) hf hB
  exact ⟨a0, cap, l, h0, sees_of_view h1 (by omega) hc h3 fun t ht => (h4 t ht).2, h2⟩
theorem view_txnArg {r : Reach} {b0 : Nat} {v : Value} {d : DataW H} {p : List MemPlace} (hval : Value.okWide Tryd.prog W r b0 26 v) (hf : DataW.Trod enc Tryd.prog W 0 (fun _ => true) true 26 v d p) (hB : Light 26 d) :
    ∃ (s r : Int) (a1 a2 a3 a4 : Option Addr) (n2 c1 c2 c3 c4 : Nat) (l : List Int) (K1 K2 : List Ky), v = .agg #[.int .i64 s, .int .i64 r, .slice a1 l.length c1, .slice a2 n2 c2, .slice a3 K1.length c3, .slice a4 K2.length c4] ∧ SeesL yC 1 W (.slice a1 l.length c1) l ∧ Byt l ∧ SeesL kC 2 W (.slice a3 K1.length c3) K1 ∧ SeesL kC 2 W (.slice a4 K2.length c4) K2 ∧ K1.length ≤ 140737488351232 ∧ K2.length ≤ 140737488351232 ∧ l.length ≤ 140737488351232 := by
  obtain ⟨cs, rfl, hsz⟩ := okWide_struct Tryd.underlying26 hval
  obtain ⟨fuel, hf⟩ := hf
  rw [Tryd.cells26] at hsz
  have e : (Value.agg cs).cells.toList = cs.toList := by simp [Value.cells]
  rw [e] at hf
  obtain ⟨xs, n, _, hd, _, hxl, hg⟩ := DataW.trod_struct Tryd.underlying26 hf
  obtain ⟨rfl, rfl⟩ := Prod.mk.inj hd
  obtain ⟨y0, y1, y2, y3, y4, y5, rfl⟩ := list6 hxl
  obtain ⟨v0, v1, v2, v3, v4, v5, hcs⟩ := list6 (l := cs.toList) (by simpa using hsz)
  rw [hcs] at hg
  have g0 := hg 0 _ rfl
  have g1 := hg 1 _ rfl
  have g2 := hg 2 _ rfl
  have g3 := hg 3 _ rfl
  have g4 := hg 4 _ rfl
  have g5 := hg 5 _ rfl
  simp [Tryd.cells2, Tryd.cells22, Tryd.cells23, Tryd.cells24] at g0 g1 g2 g3 g4 g5
  obtain ⟨m0, e0, _, w0⟩ := DataW.trod_int Tryd.underlying2 g0
  obtain ⟨m1, e1, _, w1⟩ := DataW.trod_int Tryd.underlying2 g1
  obtain ⟨a1, c1, l, e2, hs2, hb2, k2⟩ := view_bytesR g2 (light_field Tryd.underlying26 hB (i := 2) rfl rfl)
  obtain ⟨a2, n2, c2, e3⟩ := view_intsR g3 (light_field Tryd.underlying26 hB (i := 3) rfl rfl)
  obtain ⟨a3, c3, K1, e4, hs4, k4⟩ := view_keysR g4 (light_field Tryd.underlying26 hB (i := 4) rfl rfl)
  obtain ⟨a4, c4, K2, e5, hs5, k5⟩ := view_keysR g5 (light_field Tryd.underlying26 hB (i := 5) rfl rfl)
  simp only [List.cons.injEq, and_true] at e0 e1 e2 e3 e4 e5
  subst e0 e1 e2 e3 e4 e5
  refine ⟨m0, m1, a1, a2, a3, a4, n2, c1, c2, c3, c4, l, K1, K2, ?_, hs2, hb2, hs4, hs5, k4, k5, k2⟩
  rw [show cs = cs.toList.toArray by simp, hcs]
end
end Go.Proofs.YtknpfippdddnhabDoor
