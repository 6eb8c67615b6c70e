/- Several texts as one. -/
import Derived.Test.YtoddemcmmijoaaaKZ

/- Record: a transaction, read. -/
namespace Go.Proofs.Ytoddemcmmijoaaa
open Go.RowKit
set_option maxRecDepth 100000

/-- A transaction in rows of one's own. -/
def OwnT (base : Nat) (w : World) (cs : Array Value) (t : TxnD) : Prop :=
  ∃ cv av rv wv, cs = #[.int .i64 t.ses, .int .i64 t.req, cv, av, rv, wv] ∧ w.ownsRow base 5 1 cv t.code.length (ints .u8 t.code) ∧ w.ownsRow base 2 1 av t.args.length (i64C t.args) ∧ w.ownsRow base 103 2 rv t.reads.length (keyCs t.reads) ∧ w.ownsRow base 103 2 wv t.writes.length (keyCs t.writes)
theorem OwnT.but {base R : Nat} {w w' : World} {cs : Array Value} {t : TxnD} (h : OwnT base w cs t) (hk : But R w w') (hR : R < base) : OwnT base w' cs t := by
  obtain ⟨cv, av, rv, wv, h0, h1, h2, h3, h4⟩ := h
  exact ⟨cv, av, rv, wv, h0, own_keepR h1 hk hR, own_keepR h2 hk hR, own_keepR h3 hk hR, own_keepR h4 hk hR⟩
theorem own_other {w w' : World} {base base' e e' size size' n n' : Nat} {v v' : Value} {xs xs' : List Value} (h : w.ownsRow base e size v n xs) (h' : w.ownsRow base' e' size' v' n' xs') (hne : e ≠ e') (hg : w.grownBy w' v'.ownBlock) : w'.ownsRow base e size v n xs := by
  refine h.kept hg ?_
  rcases h.2 with ⟨rfl, _⟩ | ⟨g, cap, cur, rfl, _, hh, _⟩
  · exact .inl rfl
  · refine .inr ?_
    rcases h'.2 with ⟨rfl, _⟩ | ⟨g', cap', cur', rfl, _, hh', _⟩
    · simp [Value.ownBlock]
    · simp only [Value.ownBlock, ne_eq, Option.some.injEq]
      rintro rfl
      rw [hh] at hh'
      cases hh'
      exact hne rfl
theorem OwnT.grown {base base' size' n' : Nat} {w w' : World} {cs : Array Value} {t : TxnD} {v' : Value} {xs' : List Value} (h : OwnT base w cs t) (h' : w.ownsRow base' 81 size' v' n' xs') (hg : w.grownBy w' v'.ownBlock) : OwnT base w' cs t := by
  obtain ⟨cv, av, rv, wv, h0, h1, h2, h3, h4⟩ := h
  exact ⟨cv, av, rv, wv, h0, own_other h1 h' (by decide) hg, own_other h2 h' (by decide) hg, own_other h3 h' (by decide) hg, own_other h4 h' (by decide) hg⟩
theorem OwnT.below {base : Nat} {w w' : World} {cs : Array Value} {t : TxnD} (h : OwnT base w cs t) (hb : Below w.heap.size w w') : OwnT base w' cs t := by
  obtain ⟨cv, av, rv, wv, h0, h1, h2, h3, h4⟩ := h
  exact ⟨cv, av, rv, wv, h0, own_below h1 hb, own_below h2 hb, own_below h3 hb, own_below h4 hb⟩
theorem own_monoN {w : World} {base base' e size n : Nat} {v : Value} {xs : List Value} (h : w.ownsRow base e size v n xs) (hb : base' ≤ base) : w.ownsRow base' e size v n xs := by
  refine ⟨h.1, ?_⟩
  rcases h.2 with hn | ⟨g, cap, cur, hv, hg, r⟩
  · exact .inl hn
  · exact .inr ⟨g, cap, cur, hv, Nat.le_trans hb hg, r⟩

def RS.txn (s : RS) : TxnD × RS :=
  let a := s.num
  let b := a.2.num
  let c := b.2.blob
  let d := c.2.list RS.num
  let e := d.2.list RS.key
  let f := e.2.list RS.key
  (⟨a.1, b.1, c.1, d.1, e.1, f.1⟩, f.2)

end Go.Proofs.Ytoddemcmmijoaaa

/- Record: transactions, read. -/
namespace Go.Proofs.Ytoddemcmmijoaaa
open Go.RowKit
set_option maxRecDepth 100000

def txnCells (p : TxnD × Value × Value × Value × Value) : List Value := [.int .i64 p.1.ses, .int .i64 p.1.req, p.2.1, p.2.2.1, p.2.2.2.1, p.2.2.2.2]
/-- A slice of transactions in rows of one's own. -/
def OwnTs (base : Nat) (w : World) (x : Value) (l : List TxnD) : Prop :=
  ∃ vs : List (TxnD × Value × Value × Value × Value), vs.map (·.1) = l ∧ w.ownsRow base 81 6 x l.length (vs.flatMap txnCells) ∧ ∀ p ∈ vs, OwnT base w #[.int .i64 p.1.ses, .int .i64 p.1.req, p.2.1, p.2.2.1, p.2.2.2.1, p.2.2.2.2] p.1
theorem OwnTs.nil (base : Nat) (w : World) : OwnTs base w (.slice none 0 0) [] := ⟨[], rfl, World.ownsRow_nil _ _ _ _, fun p hp => by cases hp⟩
theorem OwnTs.shape {base : Nat} {w : World} {x : Value} {l : List TxnD} (h : OwnTs base w x l) : ∃ ao cap, x = .slice ao l.length cap := by
  obtain ⟨_, _, h1, _⟩ := h
  exact own_shapeN h1
theorem Try.info81 : (Try.prog.info? 81).map (fun i => (i.zero, i.size, i.bytes)) = some (some (.agg #[.int .i64 0, .int .i64 0, .slice none 0 0, .slice none 0 0, .slice none 0 0, .slice none 0 0]), 6, 112) := by kernel_rfl

end Go.Proofs.Ytoddemcmmijoaaa
