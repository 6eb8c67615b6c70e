/- What a script of operations shows. -/
import Derived.Test.YteehhbgjjamjiaaMem
namespace Go.Proofs.Yteehhbgjjamjiaa
open Go.RowKit

/-- An operation: five numbers, and bytes. -/
structure OpV where
  act : Int
  blk : Int
  pag : Int
  at_ : Int
  kep : Int
  b : Value
  zs : List Int

instance : Inhabited OpV := ⟨⟨0, 0, 0, 0, 0, .slice none 0 0, []⟩⟩

def I64 (x : Int) : Prop := -9223372036854775808 ≤ x ∧ x ≤ 9223372036854775807

structure OpOk (w : World) (o : OpV) : Prop where
  i0 : I64 o.act
  i1 : I64 o.blk
  i2 : I64 o.pag
  i3 : I64 o.at_
  i4 : I64 o.kep
  sees : Sees w .u8 o.b o.zs
  byt : Byt o.zs

def OpV.cells (o : OpV) : List Value := [.int .i64 o.act, .int .i64 o.blk, .int .i64 o.pag, .int .i64 o.at_, .int .i64 o.kep, o.b]
def OpV.agg (o : OpV) : Value := .agg #[.int .i64 o.act, .int .i64 o.blk, .int .i64 o.pag, .int .i64 o.at_, .int .i64 o.kep, o.b]

theorem OpOk.below {w w' : World} {o : OpV} (h : OpOk w o) (hb : Below w.heap.size w w') : OpOk w' o := ⟨h.i0, h.i1, h.i2, h.i3, h.i4, h.sees.below hb, h.byt⟩

/-- A slice of n operations. -/
def SeesOps (w : World) (v : Value) (n : Nat) (os : Nat → OpV) : Prop :=
  ∃ ao cap gb ob, v = .slice ao n cap ∧ n ≤ cap ∧ n ≤ 9223372036854775807 ∧ (0 < n → ao = some ⟨gb, ob, none⟩) ∧ ∀ t, t < n → OpOk w (os t) ∧
    w.cell? ⟨gb, ob + t * 6, none⟩ = some (.int .i64 (os t).act) ∧ w.cell? ⟨gb, ob + t * 6 + 1, none⟩ = some (.int .i64 (os t).blk) ∧ w.cell? ⟨gb, ob + t * 6 + 2, none⟩ = some (.int .i64 (os t).pag) ∧
    w.cell? ⟨gb, ob + t * 6 + 3, none⟩ = some (.int .i64 (os t).at_) ∧ w.cell? ⟨gb, ob + t * 6 + 4, none⟩ = some (.int .i64 (os t).kep) ∧ w.cell? ⟨gb, ob + t * 6 + 5, none⟩ = some (os t).b

theorem SeesOps.below {w w' : World} {v : Value} {n : Nat} {os : Nat → OpV} (h : SeesOps w v n os) (hb : Below w.heap.size w w') : SeesOps w' v n os := by
  obtain ⟨ao, cap, gb, ob, h1, h2, h3, h4, h5⟩ := h
  refine ⟨ao, cap, gb, ob, h1, h2, h3, h4, fun t ht => ?_⟩
  obtain ⟨k0, k1, k2, k3, k4, k5, k6⟩ := h5 t ht
  have c : ∀ o v, w.cell? ⟨gb, o, none⟩ = some v → w'.cell? ⟨gb, o, none⟩ = some v := fun o v h => (hb.cell (p := ⟨gb, o, none⟩) (World.block_lt_of_cell? w _ h)).trans h
  exact ⟨k0.below hb, c _ _ k1, c _ _ k2, c _ _ k3, c _ _ k4, c _ _ k5, c _ _ k6⟩

end Go.Proofs.Yteehhbgjjamjiaa
