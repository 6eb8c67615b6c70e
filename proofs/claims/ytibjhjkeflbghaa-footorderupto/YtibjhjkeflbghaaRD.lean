/- Lists of transactions as arguments, with their bulk. -/
import Derived.Test.YtibjhjkeflbghaaRB
namespace Go.Proofs.Ytibjhjkeflbghaa
open Go.ChangeShapes Go.WideShapes Go.ChangeAt Go.RowKit Go.Deep
set_option maxRecDepth 100000

section
variable {H : Type} {enc : TypeId × Value → H} {W : World}
theorem view_tx0 {fuel : Nat} {cs : List Value} {d : DataW H × List MemPlace} (hl : cs.length = 6) (hf : DataW.trod enc Try.prog W 0 (fun _ => true) true fuel 26 cs = some d) : ∃ x : Tx, cs = xC x ∧ (Rows.uptoBulk d.1 ≤ 1048576 → SeesX W x ∧ x.rs.length + x.ws.length ≤ Rows.uptoBulk d.1) := by
  obtain ⟨xs, n, _, hd, _, hxl, hg⟩ := DataW.trod_struct Try.underlying26 hf
  obtain ⟨d1, d2⟩ := d
  obtain ⟨rfl, rfl⟩ := Prod.mk.inj hd
  obtain ⟨y0, y1, y2, y3, y4, y5, rfl⟩ := list6 hxl
  obtain ⟨v0, v1, v2, v3, v4, v5, rfl⟩ := list6 hl
  have g0 := hg 0 _ rfl
  have g1 := hg 1 _ rfl
  have g2 := hg 2 _ rfl
  have g3 := hg 3 _ rfl
  have g4 := hg 4 _ rfl
  have g5 := hg 5 _ rfl
  simp [Try.cells2, Try.cells22, Try.cells23, Try.cells24] at g0 g1 g2 g3 g4 g5
  obtain ⟨m0, e0, _, w0⟩ := DataW.trod_int Try.underlying2 g0
  obtain ⟨m1, e1, _, w1⟩ := DataW.trod_int Try.underlying2 g1
  obtain ⟨a2, n2, c2, e2⟩ := view_slice Try.underlying22 g2
  obtain ⟨a3, n3, c3, e3⟩ := view_slice Try.underlying23 g3
  obtain ⟨rv, l4, e4, hs4, ok4, k4⟩ := view_keysB g4
  obtain ⟨wv, l5, e5, hs5, ok5, k5⟩ := view_keysB g5
  simp only [List.cons.injEq, and_true] at e0 e1 e2 e3 e4 e5
  subst e0 e1 e2 e3 e4 e5
  refine ⟨⟨m0, m1, .slice a2 n2 c2, .slice a3 n3 c3, v4, v5, l4, l5⟩, rfl, fun hbk => ?_⟩
  simp only [Rows.uptoBulk, Rows.uptoBulkAll, List.map_cons, List.map_nil] at hbk ⊢
  exact ⟨⟨hs4, hs5, ok4, ok5, by simp only; omega, by simp only; omega, ⟨_, _, _, rfl⟩, ⟨_, _, _, rfl⟩⟩, by omega⟩
theorem getD_memN {l : List (DataW H)} {t : Nat} (h : t < l.length) : l.getD t .nil ∈ l := by
  have : l.getD t .nil = l[t] := by simp [List.getD, h]
  rw [this]
  exact List.getElem_mem h
theorem view_txsB {fuel : Nat} {cs : List Value} {x : DataW H × List MemPlace} (hf : DataW.trod enc Try.prog W 0 (fun _ => true) true fuel 46 cs = some x) (hbk : Rows.uptoBulk x.1 ≤ 1048576) : ∃ v l, cs = [v] ∧ SeesL xC 6 W v l ∧ (∀ y ∈ l, SeesX W y) ∧ (∀ y ∈ l, Short y) ∧ l.length ≤ 1048576 := by
  obtain ⟨a0, cap, gb, ob, l, ds, rfl, h1, h2, hc, h3, hd, hb, h4⟩ := view_listB (α := Tx) Try.underlying46 Try.cells26 (by decide) xC (fun q d => Rows.uptoBulk d ≤ 1048576 → SeesX W q ∧ q.rs.length + q.ws.length ≤ Rows.uptoBulk d) xC_len (fun _ _ _ hl hf => view_tx0 hl hf) hf
  have hq : ∀ q ∈ l, SeesX W q ∧ Short q := fun q hq => by
    obtain ⟨t, ht⟩ := List.getElem?_of_mem hq
    obtain ⟨hl, ep⟩ := getD_at ht
    have hm := bulk_mem (getD_memN (l := ds) (t := t) (by omega))
    have := (h4 t hl).1 (by omega)
    rw [ep] at this
    exact ⟨this.1, by unfold Short; omega⟩
  refine ⟨_, l, rfl, ⟨a0, cap, gb, ob, rfl, h1, by omega, hc, h3, fun t p hp j hj => ?_⟩, fun q h => (hq q h).1, fun q h => (hq q h).2, ?_⟩
  · obtain ⟨ht, ep⟩ := getD_at hp
    rw [← ep]
    exact (h4 t ht).2 j hj
  · have := bulk_length ds
    omega
theorem view_txsArg {r : Reach} {b0 : Nat} {v : Value} {d : DataW H} {p : List MemPlace} (hval : Value.okWide Try.prog W r b0 46 v) (hf : DataW.Trod enc Try.prog W 0 (fun _ => true) true 46 v d p) (hbk : Rows.uptoBulk d ≤ 1048576) :
    ∃ l : List Tx, SeesL xC 6 W v l ∧ (∀ y ∈ l, SeesX W y) ∧ (∀ y ∈ l, Short y) ∧ l.length ≤ 1048576 := by
  obtain ⟨a, n, c, hv⟩ := okWide_slice Try.underlying46 hval
  obtain ⟨fuel, hf⟩ := hf
  have e : v.cells.toList = [v] := by rw [hv]; rfl
  rw [e] at hf
  obtain ⟨v', l, h0, h1, h2, h3, h4⟩ := view_txsB hf hbk
  simp only [List.cons.injEq, and_true] at h0
  subst h0
  exact ⟨l, h1, h2, h3, h4⟩
end
end Go.Proofs.Ytibjhjkeflbghaa
