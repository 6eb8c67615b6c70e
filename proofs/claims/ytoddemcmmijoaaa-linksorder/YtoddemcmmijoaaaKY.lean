/- Several texts as one. -/
import Derived.Test.YtoddemcmmijoaaaKX

/- Record: entries, written. -/
namespace Go.Proofs.Ytoddemcmmijoaaa
open Go.RowKit
set_option maxRecDepth 100000

/-- A slice of transactions that lies below N. -/
def StTs (N : Nat) (w : World) (v : Value) (l : List TxnD) : Prop :=
  ∃ ao cap gb ob, ∃ cs : Nat → Value × Value × Value × Value, v = .slice ao l.length cap ∧ l.length ≤ cap ∧ l.length ≤ 9223372036854775807 ∧ (0 < l.length → ao = some ⟨gb, ob, none⟩) ∧
    ∀ t, t < l.length → ∀ w', Below N w w' → w'.cell? ⟨gb, ob + t * 6, none⟩ = some (.int .i64 (l.getD t dT).ses) ∧ w'.cell? ⟨gb, ob + t * 6 + 1, none⟩ = some (.int .i64 (l.getD t dT).req) ∧ w'.cell? ⟨gb, ob + t * 6 + 2, none⟩ = some (cs t).1 ∧ w'.cell? ⟨gb, ob + t * 6 + 3, none⟩ = some (cs t).2.1 ∧ w'.cell? ⟨gb, ob + t * 6 + 4, none⟩ = some (cs t).2.2.1 ∧ w'.cell? ⟨gb, ob + t * 6 + 5, none⟩ = some (cs t).2.2.2 ∧
      SeesT w' #[.int .i64 (l.getD t dT).ses, .int .i64 (l.getD t dT).req, (cs t).1, (cs t).2.1, (cs t).2.2.1, (cs t).2.2.2] (l.getD t dT)
theorem StTs.on {N : Nat} {w w1 : World} {v : Value} {l : List TxnD} (h : StTs N w v l) (hb : Below N w w1) : StTs N w1 v l := by
  obtain ⟨ao, cap, gb, ob, cs, h1, h2, h3, h4, h5⟩ := h
  exact ⟨ao, cap, gb, ob, cs, h1, h2, h3, h4, fun t ht w' hb' => h5 t ht w' (hb.trans hb')⟩
theorem choose_below {α : Type} {P : Nat → α → Prop} [Inhabited α] {n : Nat} (h : ∀ t, t < n → ∃ a, P t a) : ∃ f : Nat → α, ∀ t, t < n → P t (f t) := by
  classical
  refine ⟨fun t => if ht : t < n then Classical.choose (h t ht) else default, fun t ht => ?_⟩
  simp only [ht, dif_pos]
  exact Classical.choose_spec (h t ht)
instance : Inhabited Value := ⟨.slice none 0 0⟩
theorem StTs.of {w : World} {v : Value} {l : List TxnD} (h : SeesTs w v l) : StTs w.heap.size w v l := by
  obtain ⟨ao, cap, gb, ob, h1, h2, h3, h4, h5⟩ := h
  obtain ⟨cs, hcs⟩ := choose_below (α := Value × Value × Value × Value) (n := l.length) (P := fun t c => w.cell? ⟨gb, ob + t * 6, none⟩ = some (.int .i64 (l.getD t dT).ses) ∧ w.cell? ⟨gb, ob + t * 6 + 1, none⟩ = some (.int .i64 (l.getD t dT).req) ∧ w.cell? ⟨gb, ob + t * 6 + 2, none⟩ = some c.1 ∧ w.cell? ⟨gb, ob + t * 6 + 3, none⟩ = some c.2.1 ∧ w.cell? ⟨gb, ob + t * 6 + 4, none⟩ = some c.2.2.1 ∧ w.cell? ⟨gb, ob + t * 6 + 5, none⟩ = some c.2.2.2 ∧
      SeesT w #[.int .i64 (l.getD t dT).ses, .int .i64 (l.getD t dT).req, c.1, c.2.1, c.2.2.1, c.2.2.2] (l.getD t dT)) (fun t ht => by
    obtain ⟨cv, av, rv, wv, r⟩ := h5 t ht
    exact ⟨(cv, av, rv, wv), r⟩)
  refine ⟨ao, cap, gb, ob, cs, h1, h2, h3, h4, fun t ht w' hb => ?_⟩
  obtain ⟨q0, q1, q2, q3, q4, q5, qs⟩ := hcs t ht
  have c : ∀ o u, w.cell? ⟨gb, o, none⟩ = some u → w'.cell? ⟨gb, o, none⟩ = some u := fun o u h => (hb.cell (p := ⟨gb, o, none⟩) (World.block_lt_of_cell? w _ h)).trans h
  exact ⟨c _ _ q0, c _ _ q1, c _ _ q2, c _ _ q3, c _ _ q4, c _ _ q5, qs.below hb⟩
theorem StTs.sees {N : Nat} {w : World} {v : Value} {l : List TxnD} (h : StTs N w v l) : SeesTs w v l := by
  obtain ⟨ao, cap, gb, ob, cs, h1, h2, h3, h4, h5⟩ := h
  exact ⟨ao, cap, gb, ob, h1, h2, h3, h4, fun t ht => ⟨_, _, _, _, h5 t ht w (Below.refl _ _)⟩⟩

/-- Transactions' forms, one behind the other. -/
def txnsB (l : List TxnD) : List Int := (l.map txnB).flatten
theorem txnB_le {t : TxnD} (h : mayT t = true) : (txnB t).length ≤ 2000 := by
  obtain ⟨m1, m2, m3, m4⟩ := mayT_le h
  have l1 := putL_le [t.ses, t.req]; have l2 := putL_le [(t.code.length : Int)]; have l3 := putL_le [(t.args.length : Int)]; have l4 := putL_le t.args; have l5 := putL_le ((t.reads.length : Int) :: keyN t.reads); have l6 := putL_le ((t.writes.length : Int) :: keyN t.writes)
  unfold txnB
  simp only [List.length_append, List.length_cons, List.length_nil, keyN_length] at l1 l2 l3 l4 l5 l6 ⊢
  omega
theorem txnsB_le {l : List TxnD} (h : ∀ t ∈ l, mayT t = true) : (txnsB l).length ≤ 2000 * l.length := by
  induction l with
  | nil => simp [txnsB]
  | cons x r ih =>
    have h1 := txnB_le (h x (List.mem_cons_self ..))
    have h2 := ih (fun t ht => h t (List.mem_cons_of_mem _ ht))
    simp only [txnsB, List.map_cons, List.flatten_cons, List.length_append, List.length_cons] at h2 ⊢
    omega
theorem take_txns (l : List TxnD) (t : Nat) (ht : t < l.length) : txnsB (l.take (t + 1)) = txnsB (l.take t) ++ txnB (l.getD t dT) := by
  have e : l.take (t + 1) = l.take t ++ [l.getD t dT] := by
    rw [List.take_add_one]
    simp [List.getD, ht]
  rw [e]
  simp [txnsB]

end Go.Proofs.Ytoddemcmmijoaaa

/- Record: Entry. -/
namespace Go.Proofs.Ytoddemcmmijoaaa
open Go.RowKit
set_option maxRecDepth 100000

structure FitE (e : EntD) : Prop where
  kind : -9223372036854775808 ≤ e.kind ∧ e.kind ≤ 9223372036854775807
  frm : -9223372036854775808 ≤ e.frm ∧ e.frm ≤ 9223372036854775807
  num : -9223372036854775808 ≤ e.num ∧ e.num ≤ 9223372036854775807
  txns : ∀ t ∈ e.txns, FitT t
  args : ∀ t ∈ e.txns, t.args.length ≤ 9223372036854775807
theorem FitE.ok {e : EntD} (h : FitE e) : OkTs e.txns := fun t ht => ⟨(h.txns t ht).code, h.args t ht⟩
/-- An entry's form. -/
def entB (e : EntD) : List Int := putL [e.kind] ++ (if e.kind = 1 then putL [e.frm, e.num] ++ (putL [(e.txns.length : Int)] ++ txnsB e.txns) else [])
theorem mayE_one {e : EntD} (h : mayE e = true) (hk : e.kind = 1) : e.txns.length ≤ 16 ∧ ∀ t ∈ e.txns, mayT t = true := by
  unfold mayE at h
  rw [if_neg (by rw [hk]; decide), if_pos hk] at h
  simp only [Bool.and_eq_true, decide_eq_true_eq] at h
  exact ⟨h.1.2, fun t ht => List.all_eq_true.1 h.2 t ht⟩
theorem mayE_kind {e : EntD} (h : mayE e = true) : e.kind = 0 ∨ e.kind = 1 := by
  unfold mayE at h
  by_cases h0 : e.kind = 0
  · exact .inl h0
  · rw [if_neg h0] at h
    by_cases h1 : e.kind = 1
    · exact .inr h1
    · rw [if_neg h1] at h; cases h
theorem entB_le {e : EntD} (h : mayE e = true) : (entB e).length ≤ 40000 := by
  have l1 := putL_le [e.kind]; have l2 := putL_le [e.frm, e.num]; have l3 := putL_le [(e.txns.length : Int)]
  unfold entB
  by_cases hk : e.kind = 1
  · obtain ⟨m1, m2⟩ := mayE_one h hk
    have l4 := txnsB_le m2
    rw [if_pos hk]
    simp only [List.length_append, List.length_cons, List.length_nil] at l1 l2 l3 l4 ⊢
    omega
  · rw [if_neg hk]
    simp only [List.length_append, List.length_cons, List.length_nil] at l1 ⊢
    omega

end Go.Proofs.Ytoddemcmmijoaaa
