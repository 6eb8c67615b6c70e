/- How a group, and a script of operations, as the row hands them over, are seen by the walks. -/
import Derived.Test.YtgehhoddmmjmjaaRows
import Derived.Test.YtgehhoddmmjmjaaM0
import Derived.WalkKit
import Derived.ProofKit
import Derived.OpenShut
import Derived.ShutString
import Derived.ChangeOld
import Derived.Below
import Derived.SizedLaws
import Derived.JoinedCond
import Derived.Deep.Slices
import Derived.Deep.SlicePairs
namespace Go.Proofs.Ytgehhoddmmjmjaa
open Go.ChangeShapes Go.WideShapes Go.ChangeAt Go.RowKit Go.Deep

theorem ownK : ownKnob Try.prog.godebug = none := by kernel_rfl
theorem laidOut : laidOutB Try.prog = true := by kernel_rfl
theorem Try.cells34 : Try.prog.cellsOf 34 = 3 := by kernel_rfl
theorem Try.cells23 : Try.prog.cellsOf 23 = 2 := by kernel_rfl
theorem Try.cells2 : Try.prog.cellsOf 2 = 1 := by kernel_rfl
theorem Try.cells3 : Try.prog.cellsOf 3 = 1 := by kernel_rfl

theorem list2 {α : Type} {l : List α} (h : l.length = 2) : ∃ a b, l = [a, b] := by
  match l, h with
  | [a, b], _ => exact ⟨a, b, rfl⟩
theorem list3 {α : Type} {l : List α} (h : l.length = 3) : ∃ a b c, l = [a, b, c] := by
  match l, h with
  | [a, b, c], _ => exact ⟨a, b, c, rfl⟩

/-- An operation of a script. -/
structure OpV where
  act : Int
  who : Int
  slot : Int
def OpV.cells (o : OpV) : List Value := [.int .i64 o.act, .int .i64 o.who, .int .i64 o.slot]
instance : Inhabited OpV := ⟨⟨0, 0, 0⟩⟩

theorem view_op {H : Type} {enc : TypeId × Value → H} {W : World} {fuel : Nat} {cs : List Value} {x : DataW H × List MemPlace} (hl : cs.length = 3)
    (hf : DataW.trod enc Try.prog W 0 (fun _ => true) true fuel 34 cs = some x) : ∃ o : OpV, cs = o.cells := by
  obtain ⟨xs, n, _, rfl, _, hxl, hg⟩ := DataW.trod_struct Try.underlying34 hf
  obtain ⟨y0, y1, y2, rfl⟩ := list3 hxl
  obtain ⟨v0, v1, v2, rfl⟩ := list3 hl
  have g0 := hg 0 _ rfl
  have g1 := hg 1 _ rfl
  have g2 := hg 2 _ rfl
  simp [Try.cells3, Try.cells2] at g0 g1 g2
  obtain ⟨n0, e0, _, _⟩ := DataW.trod_int Try.underlying3 g0
  obtain ⟨n1, e1, _, _⟩ := DataW.trod_int Try.underlying3 g1
  obtain ⟨n2, e2, _, _⟩ := DataW.trod_int Try.underlying2 g2
  simp only [List.cons.injEq, and_true] at e0 e1 e2
  subst e0 e1 e2
  exact ⟨⟨n0, n1, n2⟩, rfl⟩

/-- A slice of n operations. -/
def SeesOps (w : World) (v : Value) (n : Nat) (os : Nat → OpV) : Prop :=
  ∃ ao cap gb ob, v = .slice ao n cap ∧ n ≤ cap ∧ n ≤ 9223372036854775807 ∧ (0 < n → ao = some ⟨gb, ob, none⟩) ∧ ∀ t, t < n → ∀ k, k < 3 → w.cell? ⟨gb, ob + t * 3 + k, none⟩ = (os t).cells[k]?

theorem SeesOps.below {w w' : World} {v : Value} {n : Nat} {os : Nat → OpV} (h : SeesOps w v n os) (hb : Below w.heap.size w w') : SeesOps w' v n os := by
  obtain ⟨ao, cap, gb, ob, h1, h2, h3, h4, h5⟩ := h
  refine ⟨ao, cap, gb, ob, h1, h2, h3, h4, fun t ht k hk => ?_⟩
  have c := h5 t ht k hk
  have hs : ∃ u, (os t).cells[k]? = some u := ⟨_, List.getElem?_eq_getElem (by simpa [OpV.cells] using hk)⟩
  obtain ⟨u, hu⟩ := hs
  rw [hu] at c ⊢
  exact (hb.cell (p := ⟨gb, ob + t * 3 + k, none⟩) (World.block_lt_of_cell? w _ c)).trans c

/-- A script. -/
theorem view_ops {H : Type} {enc : TypeId × Value → H} {W : World} {fuel : Nat} {a0 : Option Addr} {len cap : Nat} {x : DataW H × List MemPlace}
    (hf : DataW.trod enc Try.prog W 0 (fun _ => true) true fuel 24 (Value.slice a0 len cap).cells.toList = some x) : ∃ os : Nat → OpV, SeesOps W (.slice a0 len cap) len os := by
  rcases open_slice Try.underlying24 hf with ⟨hcs, hx⟩ | ⟨a, l, c, m, n, D, Pl, hcs, _, hl, hm, hmm, _, hx⟩
  · simp [Value.cells] at hcs
    obtain ⟨rfl, rfl, rfl⟩ := hcs
    exact ⟨fun _ => ⟨0, 0, 0⟩, none, 0, 0, 0, rfl, Nat.le_refl _, by omega, (fun h => by omega), (fun t h => by omega)⟩
  · simp [Value.cells] at hcs
    obtain ⟨rfl, rfl, rfl⟩ := hcs
    simp only [if_true] at hmm
    subst hmm
    obtain ⟨b, o, s⟩ := a
    have each : ∀ i, i < len → ∃ q : OpV, ∀ k, k < 3 → W.cell? ((⟨b, o, s⟩ : Addr).add (i * 3 + k)) = q.cells[k]? := by
      intro i hi
      obtain ⟨cs', h1, h2⟩ := hx i (by omega)
      rw [Try.cells34] at h1
      obtain ⟨_, hlen, hcell⟩ := World.cells?_some h1
      obtain ⟨q, rfl⟩ := view_op hlen h2
      refine ⟨q, fun k hk => ?_⟩
      have := hcell k hk
      rw [add_add] at this
      exact this
    obtain ⟨q, hq⟩ := choose_lt each
    have hsp : 0 < len → s = none := fun h0 => by
      have h' : W.cell? ((⟨b, o, s⟩ : Addr).add (0 * 3 + 0)) = some (.int .i64 (q 0).act) := hq 0 h0 0 (by omega)
      simpa [Addr.add] using World.cell?_spot h'
    refine ⟨q, some ⟨b, o, s⟩, _, b, o, rfl, hl, by unfold maxLen at hm; omega, fun h0 => by rw [hsp h0], fun t ht k hk => ?_⟩
    have hs := hsp (by omega)
    subst hs
    have ad : ∀ j, (⟨b, o, none⟩ : Addr).add j = ⟨b, o + j, none⟩ := fun j => by unfold Addr.add; split <;> simp_all
    rw [← hq t ht k hk, ad, Nat.add_assoc]

theorem view_conf {H : Type} {enc : TypeId × Value → H} {W : World} {fuel : Nat} {cs : List Value} {x : DataW H × List MemPlace} (hl : cs.length = 2)
    (hf : DataW.trod enc Try.prog W 0 (fun _ => true) true fuel 23 cs = some x) : ∃ a b : Int, cs = [.int .i64 a, .int .i64 b] := by
  obtain ⟨xs, n, _, rfl, _, hxl, hg⟩ := DataW.trod_struct Try.underlying23 hf
  obtain ⟨y0, y1, rfl⟩ := list2 hxl
  obtain ⟨v0, v1, rfl⟩ := list2 hl
  have g0 := hg 0 _ rfl
  have g1 := hg 1 _ rfl
  simp [Try.cells3] at g0 g1
  obtain ⟨n0, e0, _, _⟩ := DataW.trod_int Try.underlying3 g0
  obtain ⟨n1, e1, _, _⟩ := DataW.trod_int Try.underlying3 g1
  simp only [List.cons.injEq, and_true] at e0 e1
  subst e0 e1
  exact ⟨n0, n1, rfl⟩

set_option maxRecDepth 100000 in
theorem view_confArg {H : Type} {enc : TypeId × Value → H} {W : World} {r : Reach} {b0 : Nat} {v : Value} {d : DataW H} {p : List MemPlace} (hval : Value.okWide Try.prog W r b0 23 v)
    (hf : DataW.Trod enc Try.prog W 0 (fun _ => true) true 23 v d p) : ∃ a b : Int, v = .agg #[.int .i64 a, .int .i64 b] := by
  obtain ⟨cs, rfl, hsz⟩ := okWide_struct Try.underlying23 hval
  obtain ⟨fuel, hf⟩ := hf
  rw [Try.cells23] at hsz
  have e : (Value.agg cs).cells.toList = cs.toList := by simp [Value.cells]
  rw [e] at hf
  obtain ⟨a, b, ho⟩ := view_conf (by simpa using hsz) hf
  refine ⟨a, b, ?_⟩
  have : cs = [.int .i64 a, .int .i64 b].toArray := by rw [← ho]
  rw [this]

set_option maxRecDepth 100000 in
theorem view_opArg {H : Type} {enc : TypeId × Value → H} {W : World} {r : Reach} {b0 : Nat} {v : Value} {d : DataW H} {p : List MemPlace} (hval : Value.okWide Try.prog W r b0 34 v)
    (hf : DataW.Trod enc Try.prog W 0 (fun _ => true) true 34 v d p) : ∃ a b c : Int, v = .agg #[.int .i64 a, .int .i64 b, .int .i64 c] := by
  obtain ⟨cs, rfl, hsz⟩ := okWide_struct Try.underlying34 hval
  obtain ⟨fuel, hf⟩ := hf
  rw [Try.cells34] at hsz
  have e : (Value.agg cs).cells.toList = cs.toList := by simp [Value.cells]
  rw [e] at hf
  obtain ⟨o, ho⟩ := view_op (by simpa using hsz) hf
  refine ⟨o.act, o.who, o.slot, ?_⟩
  have : cs = [.int .i64 o.act, .int .i64 o.who, .int .i64 o.slot].toArray := by rw [← show cs.toList = [.int .i64 o.act, .int .i64 o.who, .int .i64 o.slot] from ho]
  rw [this]
end Go.Proofs.Ytgehhoddmmjmjaa
