/- Transactions as arguments, with their bulk. -/
import Derived.Test.YtibjhjkeflbghaaRX
namespace Go.Proofs.Ytibjhjkeflbghaa
open Go.ChangeShapes Go.WideShapes Go.ChangeAt Go.RowKit Go.Deep
set_option maxRecDepth 100000

theorem small_sum {H : Type} {ds : List (DataW H)} (hk : Rows.uptoSmall H ds = true) : Rows.uptoBulkAll ds ≤ 1048576 := of_decide_eq_true hk
theorem bulk_one {H : Type} (d : DataW H) : 1 ≤ Rows.uptoBulk d := by
  cases d with
  | lit l => cases l <;> simp [Rows.uptoBulk]
  | nil => simp [Rows.uptoBulk]
  | ptr d => simp [Rows.uptoBulk]
  | slice elems spare => simp [Rows.uptoBulk]
  | agg parts => simp [Rows.uptoBulk]
  | iface t d => simp [Rows.uptoBulk]
  | map entries => simp [Rows.uptoBulk]
  | held h => simp [Rows.uptoBulk]
theorem bulk_length {H : Type} (l : List (DataW H)) : l.length ≤ Rows.uptoBulkAll l := by
  induction l with
  | nil => simp [Rows.uptoBulkAll]
  | cons x r ih => have := bulk_one x; simp only [Rows.uptoBulkAll, List.length_cons]; omega
theorem bulk_mem {H : Type} {d : DataW H} {l : List (DataW H)} (h : d ∈ l) : Rows.uptoBulk d ≤ Rows.uptoBulkAll l := by
  induction l with
  | nil => cases h
  | cons x r ih =>
    simp only [Rows.uptoBulkAll]
    cases List.mem_cons.1 h with
    | inl e => subst e; omega
    | inr e => have := ih e; omega

section
variable {H : Type} {enc : TypeId × Value → H} {W : World}
theorem view_listB {α : Type} [Inhabited α] {T E n : Nat} (hT : Try.prog.underlying T = some (.slice E)) (hE : Try.prog.cellsOf E = n) (hn : 0 < n) (cell : α → List Value) (ok : α → DataW H → Prop) (hlen : ∀ a, (cell a).length = n)
    (each : ∀ fuel cs (x : DataW H × List MemPlace), cs.length = n → DataW.trod enc Try.prog W 0 (fun _ => true) true fuel E cs = some x → ∃ a, cs = cell a ∧ ok a x.1)
    {fuel : Nat} {cs : List Value} {x : DataW H × List MemPlace} (hf : DataW.trod enc Try.prog W 0 (fun _ => true) true fuel T cs = some x) :
    ∃ (a0 : Option Addr) (cap gb ob : Nat) (l : List α) (ds : List (DataW H)), cs = [.slice a0 l.length cap] ∧ l.length ≤ cap ∧ l.length ≤ 9223372036854775807 ∧ (a0 = none → cap = 0) ∧ (0 < l.length → a0 = some ⟨gb, ob, none⟩) ∧ ds.length = l.length ∧ Rows.uptoBulkAll ds ≤ Rows.uptoBulk x.1 ∧ ∀ t, t < l.length → ok (l.getD t default) (ds.getD t .nil) ∧ ∀ k, k < n → W.cell? ⟨gb, ob + t * n + k, none⟩ = (cell (l.getD t default))[k]? := by
  rcases open_slice hT hf with ⟨rfl, hx⟩ | ⟨a, len, c, m, fl, D, Pl, rfl, _, hl, hm, hmm, rfl, hx⟩
  · exact ⟨none, 0, 0, 0, [], [], rfl, by simp, by simp, (fun _ => rfl), (fun h => absurd h (by simp)), rfl, by simp [Rows.uptoBulkAll], fun t h => absurd h (by simp)⟩
  · simp only [if_true] at hmm
    subst hmm
    obtain ⟨b, o, s⟩ := a
    have ea : ∀ i, i < len → ∃ q : α, ok q (D i) ∧ ∀ k, k < n → W.cell? ((⟨b, o, s⟩ : Addr).add (i * n + k)) = (cell q)[k]? := by
      intro i hi
      obtain ⟨cs', h1, h2⟩ := hx i (by omega)
      rw [hE] at h1
      obtain ⟨_, hlen', hcell⟩ := World.cells?_some h1
      obtain ⟨q, rfl, hq⟩ := each _ _ _ hlen' h2
      refine ⟨q, hq, fun k hk => ?_⟩
      have := hcell k hk
      rw [add_add] at this
      exact this
    obtain ⟨q, hq⟩ := choose_lt ea
    have hll : ((List.range len).map q).length = len := by simp
    have hget : ∀ t, t < len → ((List.range len).map q).getD t default = q t := fun t ht => by simp [List.getD, ht]
    have hgetD : ∀ t, t < len → ((List.range len).map D).getD t .nil = D t := fun t ht => by simp [List.getD, ht]
    have hspot : 0 < len → s = none := fun h0 => by
      have h1 := (hq 0 h0).2 0 hn
      have h2 : (cell (q 0))[0]? = some ((cell (q 0))[0]'(by rw [hlen]; exact hn)) := List.getElem?_eq_getElem _
      rw [h2] at h1
      simpa [Addr.add] using World.cell?_spot h1
    refine ⟨some ⟨b, o, s⟩, _, b, o, (List.range len).map q, (List.range len).map D, by rw [hll], by rw [hll]; exact hl, by rw [hll]; unfold maxLen at hm; omega, (fun h => by cases h), fun h0 => ?_, by simp, ?_, fun t ht => ?_⟩
    · rw [hll] at h0
      rw [hspot h0]
    · simp only [Rows.uptoBulk]
      omega
    · rw [hll] at ht
      rw [hget t ht, hgetD t ht]
      have hs := hspot (by omega)
      subst hs
      have ad : ∀ j, (⟨b, o, none⟩ : Addr).add j = ⟨b, o + j, none⟩ := fun j => by unfold Addr.add; split <;> simp_all
      exact ⟨(hq t ht).1, fun k hk => by rw [← (hq t ht).2 k hk, ad, Nat.add_assoc]⟩
theorem getD_at {α : Type} [Inhabited α] {l : List α} {t : Nat} {p : α} (hp : l[t]? = some p) : t < l.length ∧ l.getD t default = p := by
  obtain ⟨ht, rfl⟩ := List.getElem?_eq_some_iff.1 hp
  exact ⟨ht, by simp [List.getD, ht]⟩
theorem view_keysB {fuel : Nat} {cs : List Value} {x : DataW H × List MemPlace} (hf : DataW.trod enc Try.prog W 0 (fun _ => true) true fuel 24 cs = some x) : ∃ v l, cs = [v] ∧ SeesL kC 2 W v l ∧ (∀ k ∈ l, OkK k) ∧ l.length ≤ Rows.uptoBulk x.1 := by
  obtain ⟨a0, cap, gb, ob, l, ds, rfl, h1, h2, hc, h3, hd, hb, h4⟩ := view_listB (α := Ky) Try.underlying24 Try.cells37 (by decide) kC (fun k _ => OkK k) kC_len (fun _ _ _ hl hf => view_key hl hf) hf
  refine ⟨_, l, rfl, ⟨a0, cap, gb, ob, rfl, h1, by omega, hc, h3, fun t p hp j hj => ?_⟩, fun k hk => ?_, ?_⟩
  · obtain ⟨ht, ep⟩ := getD_at hp
    rw [← ep]
    exact (h4 t ht).2 j hj
  · obtain ⟨t, ht⟩ := List.getElem?_of_mem hk
    obtain ⟨hl, ep⟩ := getD_at ht
    rw [← ep]
    exact (h4 t hl).1
  · have := bulk_length ds
    omega
theorem view_txB' {fuel : Nat} {cs : List Value} {d : DataW H × List MemPlace} (hl : cs.length = 6) (hf : DataW.trod enc Try.prog W 0 (fun _ => true) true fuel 26 cs = some d) (hbk : Rows.uptoBulk d.1 ≤ 1048576) : ∃ x : Tx, cs = xC x ∧ SeesX W x ∧ x.rs.length + x.ws.length ≤ Rows.uptoBulk d.1 := by
  obtain ⟨xs, n, _, hd, _, hxl, hg⟩ := DataW.trod_struct Try.underlying26 hf
  obtain ⟨d1, d2⟩ := d
  obtain ⟨rfl, rfl⟩ := Prod.mk.inj hd
  obtain ⟨y0, y1, y2, y3, y4, y5, rfl⟩ := list6 hxl
  obtain ⟨v0, v1, v2, v3, v4, v5, rfl⟩ := list6 hl
  have g0 := hg 0 _ rfl
  have g1 := hg 1 _ rfl
  have g2 := hg 2 _ rfl
  have g3 := hg 3 _ rfl
  have g4 := hg 4 _ rfl
  have g5 := hg 5 _ rfl
  simp [Try.cells2, Try.cells22, Try.cells23, Try.cells24] at g0 g1 g2 g3 g4 g5
  obtain ⟨m0, e0, _, w0⟩ := DataW.trod_int Try.underlying2 g0
  obtain ⟨m1, e1, _, w1⟩ := DataW.trod_int Try.underlying2 g1
  obtain ⟨a2, n2, c2, e2⟩ := view_slice Try.underlying22 g2
  obtain ⟨a3, n3, c3, e3⟩ := view_slice Try.underlying23 g3
  obtain ⟨rv, l4, e4, hs4, ok4, k4⟩ := view_keysB g4
  obtain ⟨wv, l5, e5, hs5, ok5, k5⟩ := view_keysB g5
  simp only [List.cons.injEq, and_true] at e0 e1 e2 e3 e4 e5
  subst e0 e1 e2 e3 e4 e5
  simp only [Rows.uptoBulk, Rows.uptoBulkAll, List.map_cons, List.map_nil] at hbk ⊢
  exact ⟨⟨m0, m1, .slice a2 n2 c2, .slice a3 n3 c3, v4, v5, l4, l5⟩, rfl, ⟨hs4, hs5, ok4, ok5, by simp only; omega, by simp only; omega, ⟨_, _, _, rfl⟩, ⟨_, _, _, rfl⟩⟩, by simp only; omega⟩
theorem view_txB {r : Reach} {b0 : Nat} {v : Value} {d : DataW H} {p : List MemPlace} (hval : Value.okWide Try.prog W r b0 26 v) (hf : DataW.Trod enc Try.prog W 0 (fun _ => true) true 26 v d p) (hbk : Rows.uptoBulk d ≤ 1048576) :
    ∃ x : Tx, v = xV x ∧ SeesX W x ∧ x.rs.length + x.ws.length ≤ Rows.uptoBulk d := by
  obtain ⟨cs, rfl, hsz⟩ := okWide_struct Try.underlying26 hval
  obtain ⟨fuel, hf⟩ := hf
  rw [Try.cells26] at hsz
  have e : (Value.agg cs).cells.toList = cs.toList := by simp [Value.cells]
  rw [e] at hf
  obtain ⟨x, hx, hs, hb⟩ := view_txB' (by simpa using hsz) hf hbk
  refine ⟨x, ?_, hs, hb⟩
  rw [show cs = cs.toList.toArray by simp, hx]
  rfl
end
end Go.Proofs.Ytibjhjkeflbghaa
