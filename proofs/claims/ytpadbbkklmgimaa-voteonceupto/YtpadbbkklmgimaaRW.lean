/- How a beginning and a script of operations, as the row hands them over, are seen by the walks. -/
import Derived.Test.YtpadbbkklmgimaaRows
import Derived.Test.YtpadbbkklmgimaaW1
import Derived.WalkKit
import Derived.ProofKit
import Derived.OpenShut
import Derived.ShutString
import Derived.ChangeOld
import Derived.Below
import Derived.SizedLaws
import Derived.JoinedCond
import Derived.Deep.Slices
import Derived.Deep.SlicePairs
namespace Go.Proofs.Ytpadbbkklmgimaa
open Go.ChangeShapes Go.WideShapes Go.ChangeAt Go.RowKit Go.Deep

theorem ownK : ownKnob Try.prog.godebug = none := by kernel_rfl
theorem laidOut : laidOutB Try.prog = true := by kernel_rfl
theorem Try.cells38 : Try.prog.cellsOf 38 = 10 := by kernel_rfl
theorem Try.cells36 : Try.prog.cellsOf 36 = 4 := by kernel_rfl
theorem Try.cells25 : Try.prog.cellsOf 25 = 4 := by kernel_rfl
theorem Try.cells23 : Try.prog.cellsOf 23 = 2 := by kernel_rfl
theorem Try.cells2 : Try.prog.cellsOf 2 = 1 := by kernel_rfl
theorem Try.cells3 : Try.prog.cellsOf 3 = 1 := by kernel_rfl
theorem Try.cells4 : Try.prog.cellsOf 4 = 1 := by kernel_rfl

theorem list2 {α : Type} {l : List α} (h : l.length = 2) : ∃ a b, l = [a, b] := by
  match l, h with
  | [a, b], _ => exact ⟨a, b, rfl⟩
theorem list3 {α : Type} {l : List α} (h : l.length = 3) : ∃ a b c, l = [a, b, c] := by
  match l, h with
  | [a, b, c], _ => exact ⟨a, b, c, rfl⟩
theorem list4 {α : Type} {l : List α} (h : l.length = 4) : ∃ a b c d, l = [a, b, c, d] := by
  match l, h with
  | [a, b, c, d], _ => exact ⟨a, b, c, d, rfl⟩
theorem list7 {α : Type} {l : List α} (h : l.length = 7) : ∃ a b c d e f g, l = [a, b, c, d, e, f, g] := by
  match l, h with
  | [a, b, c, d, e, f, g], _ => exact ⟨a, b, c, d, e, f, g, rfl⟩
theorem list10 {α : Type} {l : List α} (h : l.length = 10) : ∃ a b c d e f g i j k, l = [a, b, c, d, e, f, g, i, j, k] := by
  match l, h with
  | [a, b, c, d, e, f, g, i, j, k], _ => exact ⟨a, b, c, d, e, f, g, i, j, k, rfl⟩

instance : Inhabited OpV := ⟨⟨0, 0, 0, 0, 0, 0, 0, 0, 0, false⟩⟩

/-- A claim: four numbers. -/
theorem view_claim {H : Type} {enc : TypeId × Value → H} {W : World} {fuel : Nat} {cs : List Value} {x : DataW H × List MemPlace} (hl : cs.length = 4)
    (hf : DataW.trod enc Try.prog W 0 (fun _ => true) true fuel 36 cs = some x) : ∃ a b c d : Int, cs = [.int .i64 a, .int .i64 b, .int .i64 c, .int .i64 d] := by
  obtain ⟨xs, n, _, rfl, _, hxl, hg⟩ := DataW.trod_struct Try.underlying36 hf
  obtain ⟨y0, y1, y2, y3, rfl⟩ := list4 hxl
  obtain ⟨v0, v1, v2, v3, rfl⟩ := list4 hl
  have g0 := hg 0 _ rfl
  have g1 := hg 1 _ rfl
  have g2 := hg 2 _ rfl
  have g3 := hg 3 _ rfl
  simp [Try.cells3, Try.cells2] at g0 g1 g2 g3
  obtain ⟨n0, e0, _, _⟩ := DataW.trod_int Try.underlying3 g0
  obtain ⟨n1, e1, _, _⟩ := DataW.trod_int Try.underlying2 g1
  obtain ⟨n2, e2, _, _⟩ := DataW.trod_int Try.underlying2 g2
  obtain ⟨n3, e3, _, _⟩ := DataW.trod_int Try.underlying2 g3
  simp only [List.cons.injEq, and_true] at e0 e1 e2 e3
  subst e0 e1 e2 e3
  exact ⟨n0, n1, n2, n3, rfl⟩

/-- One operation. -/
theorem view_op {H : Type} {enc : TypeId × Value → H} {W : World} {fuel : Nat} {cs : List Value} {x : DataW H × List MemPlace} (hl : cs.length = 10)
    (hf : DataW.trod enc Try.prog W 0 (fun _ => true) true fuel 38 cs = some x) : ∃ o : OpV, cs = o.cells := by
  obtain ⟨xs, n, _, rfl, _, hxl, hg⟩ := DataW.trod_struct Try.underlying38 hf
  obtain ⟨y0, y1, y2, y3, y4, y5, y6, rfl⟩ := list7 hxl
  obtain ⟨v0, v1, v2, v3, v4, v5, v6, v7, v8, v9, rfl⟩ := list10 hl
  have g0 := hg 0 _ rfl
  have g1 := hg 1 _ rfl
  have g2 := hg 2 _ rfl
  have g3 := hg 3 _ rfl
  have g4 := hg 4 _ rfl
  have g5 := hg 5 _ rfl
  have g6 := hg 6 _ rfl
  simp [Try.cells3, Try.cells2, Try.cells36, Try.cells4] at g0 g1 g2 g3 g4 g5 g6
  obtain ⟨n0, e0, _, _⟩ := DataW.trod_int Try.underlying3 g0
  obtain ⟨n1, e1, _, _⟩ := DataW.trod_int Try.underlying2 g1
  obtain ⟨c0, c1, c2, c3, e2⟩ := view_claim rfl g2
  obtain ⟨n3, e3, _, _⟩ := DataW.trod_int Try.underlying2 g3
  obtain ⟨n4, e4, _, _⟩ := DataW.trod_int Try.underlying2 g4
  obtain ⟨n5, e5, _, _⟩ := DataW.trod_int Try.underlying3 g5
  obtain ⟨bY, e6, _⟩ := DataW.trod_bool Try.underlying4 g6
  simp only [List.cons.injEq, and_true] at e0 e1 e2 e3 e4 e5 e6
  obtain ⟨rfl, rfl, rfl, rfl⟩ := e2
  subst e0 e1 e3 e4 e5 e6
  exact ⟨⟨n0, n1, c0, c1, c2, c3, n3, n4, n5, bY⟩, rfl⟩

/-- A slice of n operations. -/
def SeesOps (w : World) (v : Value) (n : Nat) (os : Nat → OpV) : Prop :=
  ∃ ao cap gb ob, v = .slice ao n cap ∧ n ≤ cap ∧ n ≤ 9223372036854775807 ∧ (0 < n → ao = some ⟨gb, ob, none⟩) ∧ ∀ t, t < n → ∀ k, k < 10 → w.cell? ⟨gb, ob + t * 10 + k, none⟩ = (os t).cells[k]?

theorem SeesOps.below {w w' : World} {v : Value} {n : Nat} {os : Nat → OpV} (h : SeesOps w v n os) (hb : Below w.heap.size w w') : SeesOps w' v n os := by
  obtain ⟨ao, cap, gb, ob, h1, h2, h3, h4, h5⟩ := h
  refine ⟨ao, cap, gb, ob, h1, h2, h3, h4, fun t ht k hk => ?_⟩
  have c := h5 t ht k hk
  have hs : ∃ u, (os t).cells[k]? = some u := ⟨_, List.getElem?_eq_getElem (by simpa [OpV.cells] using hk)⟩
  obtain ⟨u, hu⟩ := hs
  rw [hu] at c ⊢
  exact (hb.cell (p := ⟨gb, ob + t * 10 + k, none⟩) (World.block_lt_of_cell? w _ c)).trans c

/-- A script. -/
theorem view_ops {H : Type} {enc : TypeId × Value → H} {W : World} {fuel : Nat} {a0 : Option Addr} {len cap : Nat} {x : DataW H × List MemPlace}
    (hf : DataW.trod enc Try.prog W 0 (fun _ => true) true fuel 26 (Value.slice a0 len cap).cells.toList = some x) : ∃ os : Nat → OpV, SeesOps W (.slice a0 len cap) len os := by
  rcases open_slice Try.underlying26 hf with ⟨hcs, hx⟩ | ⟨a, l, c, m, n, D, Pl, hcs, _, hl, hm, hmm, _, hx⟩
  · simp [Value.cells] at hcs
    obtain ⟨rfl, rfl, rfl⟩ := hcs
    exact ⟨fun _ => ⟨0, 0, 0, 0, 0, 0, 0, 0, 0, false⟩, none, 0, 0, 0, rfl, Nat.le_refl _, by omega, (fun h => by omega), (fun t h => by omega)⟩
  · simp [Value.cells] at hcs
    obtain ⟨rfl, rfl, rfl⟩ := hcs
    simp only [if_true] at hmm
    subst hmm
    obtain ⟨b, o, s⟩ := a
    have each : ∀ i, i < len → ∃ q : OpV, ∀ k, k < 10 → W.cell? ((⟨b, o, s⟩ : Addr).add (i * 10 + k)) = q.cells[k]? := by
      intro i hi
      obtain ⟨cs', h1, h2⟩ := hx i (by omega)
      rw [Try.cells38] at h1
      obtain ⟨_, hlen, hcell⟩ := World.cells?_some h1
      obtain ⟨q, rfl⟩ := view_op hlen h2
      refine ⟨q, fun k hk => ?_⟩
      have := hcell k hk
      rw [add_add] at this
      exact this
    obtain ⟨q, hq⟩ := choose_lt each
    have hsp : 0 < len → s = none := fun h0 => by
      have h' : W.cell? ((⟨b, o, s⟩ : Addr).add (0 * 10 + 0)) = some (.int .i64 (q 0).act) := hq 0 h0 0 (by omega)
      simpa [Addr.add] using World.cell?_spot h'
    refine ⟨q, some ⟨b, o, s⟩, _, b, o, rfl, hl, by unfold maxLen at hm; omega, fun h0 => by rw [hsp h0], fun t ht k hk => ?_⟩
    have hs := hsp (by omega)
    subst hs
    have ad : ∀ j, (⟨b, o, none⟩ : Addr).add j = ⟨b, o + j, none⟩ := fun j => by unfold Addr.add; split <;> simp_all
    rw [← hq t ht k hk, ad, Nat.add_assoc]

/-- A beginning. -/
theorem view_begin {H : Type} {enc : TypeId × Value → H} {W : World} {fuel : Nat} {cs : List Value} {x : DataW H × List MemPlace} (hl : cs.length = 4)
    (hf : DataW.trod enc Try.prog W 0 (fun _ => true) true fuel 25 cs = some x) : ∃ a b c d : Int, cs = [.int .i64 a, .int .i64 b, .int .i64 c, .int .i64 d] := by
  obtain ⟨xs, n, _, rfl, _, hxl, hg⟩ := DataW.trod_struct Try.underlying25 hf
  obtain ⟨y0, y1, y2, rfl⟩ := list3 hxl
  obtain ⟨v0, v1, v2, v3, rfl⟩ := list4 hl
  have g0 := hg 0 _ rfl
  have g1 := hg 1 _ rfl
  have g2 := hg 2 _ rfl
  simp [Try.cells3, Try.cells2, Try.cells23] at g0 g1 g2
  obtain ⟨n2, e2, _, _⟩ := DataW.trod_int Try.underlying2 g1
  obtain ⟨n3, e3, _, _⟩ := DataW.trod_int Try.underlying3 g2
  obtain ⟨xs', n', _, _, _, hxl', hg'⟩ := DataW.trod_struct Try.underlying23 g0
  obtain ⟨z0, z1, rfl⟩ := list2 hxl'
  have f0 := hg' 0 _ rfl
  have f1 := hg' 1 _ rfl
  simp [Try.cells3] at f0 f1
  obtain ⟨m0, e0, _, _⟩ := DataW.trod_int Try.underlying3 f0
  obtain ⟨m1, e1, _, _⟩ := DataW.trod_int Try.underlying3 f1
  simp only [List.cons.injEq, and_true] at e0 e1 e2 e3
  subst e0 e1 e2 e3
  exact ⟨m0, m1, n2, n3, rfl⟩

set_option maxRecDepth 100000 in
theorem view_beginArg {H : Type} {enc : TypeId × Value → H} {W : World} {r : Reach} {b0 : Nat} {v : Value} {d : DataW H} {p : List MemPlace} (hval : Value.okWide Try.prog W r b0 25 v)
    (hf : DataW.Trod enc Try.prog W 0 (fun _ => true) true 25 v d p) : ∃ a b c e : Int, v = .agg #[.int .i64 a, .int .i64 b, .int .i64 c, .int .i64 e] := by
  obtain ⟨cs, rfl, hsz⟩ := okWide_struct Try.underlying25 hval
  obtain ⟨fuel, hf⟩ := hf
  rw [Try.cells25] at hsz
  have e : (Value.agg cs).cells.toList = cs.toList := by simp [Value.cells]
  rw [e] at hf
  obtain ⟨a, b, c, d, ho⟩ := view_begin (by simpa using hsz) hf
  refine ⟨a, b, c, d, ?_⟩
  have : cs = [.int .i64 a, .int .i64 b, .int .i64 c, .int .i64 d].toArray := by rw [← ho]
  rw [this]
end Go.Proofs.Ytpadbbkklmgimaa
