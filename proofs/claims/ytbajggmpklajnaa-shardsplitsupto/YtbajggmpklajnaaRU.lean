/- Lists as arguments, with their bulk. -/
import Derived.Test.YtbajggmpklajnaaRW
import Derived.Test.YtbajggmpklajnaaH1
namespace Go.Proofs.Ytbajggmpklajnaa
open Go.ChangeShapes Go.WideShapes Go.ChangeAt Go.RowKit Go.Deep
set_option maxRecDepth 100000

theorem bulk_one {H : Type} (d : DataW H) : 1 ≤ Rows.uptoBulk d := by
  cases d with
  | lit l => cases l <;> simp [Rows.uptoBulk]
  | nil => simp [Rows.uptoBulk]
  | ptr d => simp [Rows.uptoBulk]
  | slice elems spare => simp [Rows.uptoBulk]
  | agg parts => simp [Rows.uptoBulk]
  | iface t d => simp [Rows.uptoBulk]
  | map entries => simp [Rows.uptoBulk]
  | held h => simp [Rows.uptoBulk]
theorem bulk_length {H : Type} (l : List (DataW H)) : l.length ≤ Rows.uptoBulkAll l := by
  induction l with
  | nil => simp [Rows.uptoBulkAll]
  | cons x r ih => have := bulk_one x; simp only [Rows.uptoBulkAll, List.length_cons]; omega
theorem bulk_mem {H : Type} {d : DataW H} {l : List (DataW H)} (h : d ∈ l) : Rows.uptoBulk d ≤ Rows.uptoBulkAll l := by
  induction l with
  | nil => cases h
  | cons x r ih =>
    simp only [Rows.uptoBulkAll]
    cases List.mem_cons.1 h with
    | inl e => subst e; omega
    | inr e => have := ih e; omega

section
variable {H : Type} {enc : TypeId × Value → H} {W : World}
theorem view_listB {α : Type} [Inhabited α] {T E n : Nat} (hT : Try.prog.underlying T = some (.slice E)) (hE : Try.prog.cellsOf E = n) (hn : 0 < n) (cell : α → List Value) (ok : α → DataW H → Prop) (hlen : ∀ a, (cell a).length = n)
    (each : ∀ fuel cs (x : DataW H × List MemPlace), cs.length = n → DataW.trod enc Try.prog W 0 (fun _ => true) true fuel E cs = some x → ∃ a, cs = cell a ∧ ok a x.1)
    {fuel : Nat} {cs : List Value} {x : DataW H × List MemPlace} (hf : DataW.trod enc Try.prog W 0 (fun _ => true) true fuel T cs = some x) :
    ∃ (a0 : Option Addr) (cap gb ob : Nat) (l : List α) (ds : List (DataW H)), cs = [.slice a0 l.length cap] ∧ l.length ≤ cap ∧ l.length ≤ 9223372036854775807 ∧ (a0 = none → cap = 0) ∧ (0 < l.length → a0 = some ⟨gb, ob, none⟩) ∧ ds.length = l.length ∧ Rows.uptoBulkAll ds ≤ Rows.uptoBulk x.1 ∧ ∀ t, t < l.length → ok (l.getD t default) (ds.getD t .nil) ∧ ∀ k, k < n → W.cell? ⟨gb, ob + t * n + k, none⟩ = (cell (l.getD t default))[k]? := by
  rcases open_slice hT hf with ⟨rfl, hx⟩ | ⟨a, len, c, m, fl, D, Pl, rfl, _, hl, hm, hmm, rfl, hx⟩
  · exact ⟨none, 0, 0, 0, [], [], rfl, by simp, by simp, (fun _ => rfl), (fun h => absurd h (by simp)), rfl, by simp [Rows.uptoBulkAll], fun t h => absurd h (by simp)⟩
  · simp only [if_true] at hmm
    subst hmm
    obtain ⟨b, o, s⟩ := a
    have ea : ∀ i, i < len → ∃ q : α, ok q (D i) ∧ ∀ k, k < n → W.cell? ((⟨b, o, s⟩ : Addr).add (i * n + k)) = (cell q)[k]? := by
      intro i hi
      obtain ⟨cs', h1, h2⟩ := hx i (by omega)
      rw [hE] at h1
      obtain ⟨_, hlen', hcell⟩ := World.cells?_some h1
      obtain ⟨q, rfl, hq⟩ := each _ _ _ hlen' h2
      refine ⟨q, hq, fun k hk => ?_⟩
      have := hcell k hk
      rw [add_add] at this
      exact this
    obtain ⟨q, hq⟩ := choose_lt ea
    have hll : ((List.range len).map q).length = len := by simp
    have hget : ∀ t, t < len → ((List.range len).map q).getD t default = q t := fun t ht => by simp [List.getD, ht]
    have hgetD : ∀ t, t < len → ((List.range len).map D).getD t .nil = D t := fun t ht => by simp [List.getD, ht]
    have hspot : 0 < len → s = none := fun h0 => by
      have h1 := (hq 0 h0).2 0 hn
      have h2 : (cell (q 0))[0]? = some ((cell (q 0))[0]'(by rw [hlen]; exact hn)) := List.getElem?_eq_getElem _
      rw [h2] at h1
      simpa [Addr.add] using World.cell?_spot h1
    refine ⟨some ⟨b, o, s⟩, _, b, o, (List.range len).map q, (List.range len).map D, by rw [hll], by rw [hll]; exact hl, by rw [hll]; unfold maxLen at hm; omega, (fun h => by cases h), fun h0 => ?_, by simp, ?_, fun t ht => ?_⟩
    · rw [hll] at h0
      rw [hspot h0]
    · simp only [Rows.uptoBulk]
      omega
    · rw [hll] at ht
      rw [hget t ht, hgetD t ht]
      have hs := hspot (by omega)
      subst hs
      have ad : ∀ j, (⟨b, o, none⟩ : Addr).add j = ⟨b, o + j, none⟩ := fun j => by unfold Addr.add; split <;> simp_all
      exact ⟨(hq t ht).1, fun k hk => by rw [← (hq t ht).2 k hk, ad, Nat.add_assoc]⟩
theorem getD_at {α : Type} [Inhabited α] {l : List α} {t : Nat} {p : α} (hp : l[t]? = some p) : t < l.length ∧ l.getD t default = p := by
  obtain ⟨ht, rfl⟩ := List.getElem?_eq_some_iff.1 hp
  exact ⟨ht, by simp [List.getD, ht]⟩
theorem view_keysB {fuel : Nat} {cs : List Value} {x : DataW H × List MemPlace} (hf : DataW.trod enc Try.prog W 0 (fun _ => true) true fuel 32 cs = some x) : ∃ v l, cs = [v] ∧ SeesL kC 2 W v l ∧ (∀ k ∈ l, OkK k) ∧ l.length ≤ Rows.uptoBulk x.1 := by
  obtain ⟨a0, cap, gb, ob, l, ds, rfl, h1, h2, hc, h3, hd, hb, h4⟩ := view_listB (α := Ky) Try.underlying32 Try.cells23 (by decide) kC (fun k _ => OkK k) kC_len (fun _ _ _ hl hf => view_key hl hf) hf
  refine ⟨_, l, rfl, ⟨a0, cap, gb, ob, rfl, h1, by omega, hc, h3, fun t p hp j hj => ?_⟩, fun k hk => ?_, ?_⟩
  · obtain ⟨ht, ep⟩ := getD_at hp
    rw [← ep]
    exact (h4 t ht).2 j hj
  · obtain ⟨t, ht⟩ := List.getElem?_of_mem hk
    obtain ⟨hl, ep⟩ := getD_at ht
    rw [← ep]
    exact (h4 t hl).1
  · have := bulk_length ds
    omega
theorem view_pairsB {fuel : Nat} {cs : List Value} {x : DataW H × List MemPlace} (hf : DataW.trod enc Try.prog W 0 (fun _ => true) true fuel 33 cs = some x) : ∃ v l, cs = [v] ∧ SeesL pC 3 W v l ∧ (∀ k ∈ l, OkP k) ∧ l.length ≤ Rows.uptoBulk x.1 := by
  obtain ⟨a0, cap, gb, ob, l, ds, rfl, h1, h2, hc, h3, hd, hb, h4⟩ := view_listB (α := Pr) Try.underlying33 Try.cells66 (by decide) pC (fun k _ => OkP k) pC_len (fun _ _ _ hl hf => view_pair hl hf) hf
  refine ⟨_, l, rfl, ⟨a0, cap, gb, ob, rfl, h1, by omega, hc, h3, fun t p hp j hj => ?_⟩, fun k hk => ?_, ?_⟩
  · obtain ⟨ht, ep⟩ := getD_at hp
    rw [← ep]
    exact (h4 t ht).2 j hj
  · obtain ⟨t, ht⟩ := List.getElem?_of_mem hk
    obtain ⟨hl, ep⟩ := getD_at ht
    rw [← ep]
    exact (h4 t hl).1
  · have := bulk_length ds
    omega
instance : Inhabited Ls := ⟨(.slice none 0 0, [])⟩
theorem sum_bulk : ∀ (qs : List Ls) (ds : List (DataW H)), ds.length = qs.length → (∀ t, t < qs.length → (qs.getD t default).2.length ≤ Rows.uptoBulk (ds.getD t .nil)) → (allP qs).length ≤ Rows.uptoBulkAll ds
  | [], _, _, _ => by simp [allP]
  | q :: r, [], h, _ => by simp at h
  | q :: r, d :: e, h, hb => by
    have h1 := hb 0 (by simp)
    have h2 := sum_bulk r e (by simpa using h) (fun t ht => by have := hb (t + 1) (by simpa using ht); simpa using this)
    have e1 : allP (q :: r) = q.2 ++ allP r := by simp [allP]
    rw [e1, List.length_append]
    simp only [Rows.uptoBulkAll]
    simp at h1
    omega
theorem view_lsB {fuel : Nat} {cs : List Value} {x : DataW H × List MemPlace} (hf : DataW.trod enc Try.prog W 0 (fun _ => true) true fuel 44 cs = some x) : ∃ v qs, cs = [v] ∧ SeesLs W v qs ∧ (∀ p ∈ allP qs, OkP p) ∧ (allP qs).length ≤ Rows.uptoBulk x.1 := by
  obtain ⟨a0, cap, gb, ob, l, ds, rfl, h1, h2, hc, h3, hd, hb, h4⟩ := view_listB (α := Ls) Try.underlying44 Try.cells33 (by decide) lC (fun q d => SeesL pC 3 W q.1 q.2 ∧ (∀ p ∈ q.2, OkP p) ∧ q.2.length ≤ Rows.uptoBulk d) lC_len (fun _ _ _ _ hf => by
    obtain ⟨v, l, e, g1, g2, g3⟩ := view_pairsB hf
    exact ⟨(v, l), e, g1, g2, g3⟩) hf
  have hq : ∀ q ∈ l, SeesL pC 3 W q.1 q.2 ∧ ∀ p ∈ q.2, OkP p := fun q hq => by
    obtain ⟨t, ht⟩ := List.getElem?_of_mem hq
    obtain ⟨hl, ep⟩ := getD_at ht
    have := (h4 t hl).1
    rw [ep] at this
    exact ⟨this.1, this.2.1⟩
  refine ⟨_, l, rfl, ⟨⟨a0, cap, gb, ob, rfl, h1, by omega, hc, h3, fun t p hp j hj => ?_⟩, fun q h => (hq q h).1⟩, fun p hp => ?_, ?_⟩
  · obtain ⟨ht, ep⟩ := getD_at hp
    rw [← ep]
    exact (h4 t ht).2 j hj
  · obtain ⟨q, h, hpq⟩ := List.mem_flatMap.1 hp
    exact (hq q h).2 p hpq
  · exact Nat.le_trans (sum_bulk l ds hd (fun t ht => (h4 t ht).1.2.2)) hb
end
end Go.Proofs.Ytbajggmpklajnaa
