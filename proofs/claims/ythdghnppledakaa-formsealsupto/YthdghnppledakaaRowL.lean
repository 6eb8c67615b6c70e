/- How an argument that is a list of lists of bytes is seen by the walks. -/
import Derived.Test.YthdghnppledakaaRow
import Derived.Test.YthdghnppledakaaWF
import Derived.Deep.Slices
namespace Go.Proofs.Ythdghnppledakaa
open Go.ChangeShapes Go.WideShapes Go.ChangeAt Go.RowKit Go.Deep

theorem Try.cells22 : Try.prog.cellsOf 22 = 1 := by kernel_rfl

theorem view_bytes_cs {H : Type} {enc : TypeId × Value → H} {W : World} {fuel : Nat} {cs : List Value} {d : DataW H} {p : List MemPlace}
    (hf : DataW.trod enc Try.prog W 0 (fun _ => true) true fuel 22 cs = some (d, p)) :
    ∃ (a0 : Option Addr) (cap : Nat) (zs : List Int), cs = [.slice a0 zs.length cap] ∧ Sees W .u8 (.slice a0 zs.length cap) zs ∧ Byt zs ∧ zs.length ≤ Rows.uptoBulk d := by
  have key : ∃ (a0 : Option Addr) (len cap : Nat), cs = [.slice a0 len cap] := by
    rcases open_ints Try.underlying22 Try.underlying5 (by kernel_rfl) hf with ⟨hcs, _⟩ | ⟨x, l, c, zs, hcs, _⟩
    · exact ⟨none, 0, 0, hcs⟩
    · exact ⟨some x, l, c, hcs⟩
  obtain ⟨a0, len, cap, rfl⟩ := key
  have hf' : DataW.trod enc Try.prog W 0 (fun _ => true) true fuel 22 (Value.slice a0 len cap).cells.toList = some (d, p) := by simpa [Value.cells] using hf
  obtain ⟨zs, hl, hs, hb, hd⟩ := view_bytes hf'
  subst hl
  exact ⟨a0, cap, zs, rfl, hs, hb, bulk_slice hd⟩

theorem flat_bulk {H : Type} (L : Nat → List Int) (D : Nat → DataW H) (l : List Nat) (h : ∀ i ∈ l, (L i).length ≤ Rows.uptoBulk (D i)) : (l.map L).flatten.length ≤ Rows.uptoBulkAll (l.map D) := by
  induction l with
  | nil => simp [Rows.uptoBulkAll]
  | cons x r ih =>
    have h1 := h x (List.mem_cons_self ..)
    have h2 := ih fun i hi => h i (List.mem_cons_of_mem _ hi)
    simp only [List.map_cons, List.flatten_cons, List.length_append, Rows.uptoBulkAll]
    omega

/-- Lists of bytes that came in. -/
theorem view_lists {H : Type} {enc : TypeId × Value → H} {W : World} {fuel : Nat} {a0 : Option Addr} {len cap : Nat} {d : DataW H} {p : List MemPlace} (hk : Rows.uptoBulk d ≤ 1048576)
    (hf : DataW.trod enc Try.prog W 0 (fun _ => true) true fuel 40 (Value.slice a0 len cap).cells.toList = some (d, p)) :
    ∃ (vs : List Value) (ls : List (List Int)), vs.length = len ∧ SeesV W (.slice a0 len cap) vs ls ∧ Byt ls.flatten ∧ ls.flatten.length ≤ 1048576 ∧ len ≤ 1048576 := by
  rcases open_slice1 Try.underlying40 Try.cells22 hf with ⟨hcs, hx⟩ | ⟨a, l, c, m, n, V, D, Pl, hcs, _, hlc, hcm, hm, hx, hV⟩
  · simp [Value.cells] at hcs
    obtain ⟨rfl, rfl, rfl⟩ := hcs
    exact ⟨[], [], rfl, ⟨⟨none, 0, rfl, Nat.le_refl _, fun _ => rfl, fun a h => by cases h⟩, rfl, fun t ht => by simp at ht⟩, (fun b hb => by cases hb), by simp, by omega⟩
  · simp [Value.cells] at hcs
    obtain ⟨rfl, rfl, rfl⟩ := hcs
    simp only [if_true] at hm
    subst hm
    simp only [Prod.mk.injEq] at hx
    have hd := hx.1
    obtain ⟨L, hL⟩ := choose_lt (α := List Int) (p := fun i zs => Sees W .u8 (V i) zs ∧ Byt zs ∧ zs.length ≤ Rows.uptoBulk (D i)) (n := m) (fun i hi => by
      obtain ⟨_, h2⟩ := hV i hi
      obtain ⟨b0, cp, zs, hcv, hsv, hbv, hlv⟩ := view_bytes_cs h2
      have hv : V i = .slice b0 zs.length cp := by simpa using hcv
      exact ⟨zs, by rw [hv]; exact hsv, hbv, hlv⟩)
    have hbulk : Rows.uptoBulkAll ((List.range len).map D) + 1 ≤ Rows.uptoBulk d := by rw [hd]; simp only [Rows.uptoBulk]; omega
    have hflat := flat_bulk L D (List.range len) (fun i hi => (hL i (by have := List.mem_range.1 hi; omega)).2.2)
    have hcount := bulk_length ((List.range len).map D)
    simp only [List.length_map, List.length_range] at hcount
    have hgv : ∀ t, t < len → ((List.range len).map V).getD t .nilIface = V t := fun t ht => by simp [List.getD, ht]
    have hgl : ∀ t, t < len → ((List.range len).map L).getD t [] = L t := fun t ht => by simp [List.getD, ht]
    refine ⟨(List.range len).map V, (List.range len).map L, by simp, ⟨⟨some a, m, by simp, by simp; omega, (fun h => by cases h), fun a' h t ht => ?_⟩, by simp, fun t ht => ?_⟩, ?_, by omega, by omega⟩
    · obtain rfl := Option.some.inj h
      have ht' : t < len := by simpa using ht
      rw [hgv t ht']
      exact (hV t (by omega)).1
    · have ht' : t < len := by simpa using ht
      rw [hgv t ht', hgl t ht']
      obtain ⟨q1, q2, q3⟩ := hL t (by omega)
      have hone : Rows.uptoBulk (D t) ≤ Rows.uptoBulkAll ((List.range len).map D) := bulk_mem (List.mem_map.2 ⟨t, List.mem_range.2 ht', rfl⟩)
      exact ⟨q1, q2, by omega⟩
    · intro b hb
      obtain ⟨q, hq, hbq⟩ := List.mem_flatten.1 hb
      obtain ⟨i, hi, rfl⟩ := List.mem_map.1 hq
      exact (hL i (by have := List.mem_range.1 hi; omega)).2.1 b hbq

end Go.Proofs.Ythdghnppledakaa
