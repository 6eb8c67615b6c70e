/- A footprint that the document's Of fills: its two rows of numbers lie in blocks apart. -/
import Derived.Test.YtibjhjkeflbghaaO3
import Derived.Test.YtibjhjkeflbghaaKI
namespace Go.Proofs.Ytibjhjkeflbghaa
open Go.RowKit
set_option maxRecDepth 100000

/-- A row that is appended to is the old one's block or a new one. -/
theorem append_intF {w : World} {base : Nat} {v : Value} {n : Nat} {l : List Int} {k : Int} {g : Nat} (hown : w.ownsRow base 3 1 v n (l.flatMap nC)) (hs : SeesL nC 1 w (.slice (some ⟨g, 0, none⟩) 1 1) [k]) (hl : n + 1 ≤ 5864062014805) (hbase : base ≤ w.heap.size) (ty : TypeId) :
    ∃ ao cap w', (Builtin.append_ #[30, 30] ty #[v, .slice (some ⟨g, 0, none⟩) 1 1]).run Try.prog w = .ok (.slice ao (n + 1) cap) w' ∧ w'.ownsRow base 3 1 (.slice ao (n + 1) cap) (n + 1) ((l ++ [k]).flatMap nC) ∧ w.grownBy w' v.ownBlock ∧ ∀ b, (Value.slice ao (n + 1) cap).ownBlock = some b → v.ownBlock = some b ∨ w.heap.size ≤ b := by
  obtain ⟨v', w', hr, h2, h3⟩ := append_ints ty hown hs (by simpa using hl) hbase
  have hlen : n + [k].length = n + 1 := rfl
  rw [hlen] at h2
  obtain ⟨ao, cap, hv⟩ := own_shape h2
  subst hv
  refine ⟨ao, cap, w', hr, h2, h3, fun b hb => ?_⟩
  obtain ⟨i, hi, hz, hs1, hby⟩ := info_parts Try.info3
  have hnews : ∀ j u, (nC k)[j]? = some u → w.cell? ((⟨g, 0, none⟩ : Addr).add j) = some u := fun j u hu => by
    obtain ⟨ao', cap', gb, ob, e, _, _, _, h5, h6⟩ := hs
    obtain ⟨hj, _⟩ := List.getElem?_eq_some_iff.1 hu
    simp only [Value.slice.injEq] at e
    obtain ⟨e1, _, _⟩ := e
    have e2 := h5 (by simp)
    rw [← e1] at e2
    simp only [Option.some.injEq, Addr.mk.injEq] at e2
    obtain ⟨rfl, rfl, _⟩ := e2
    have := h6 0 k rfl j (by rw [nC_len] at hj; exact hj)
    have ea : (⟨g, 0, none⟩ : Addr).add j = ⟨g, 0 + 0 * 1 + j, none⟩ := by rw [add_at]; congr 1; omega
    rw [ea, ← hu, ← this]
  rcases hown.2 with ⟨rfl, rfl⟩ | ⟨g', cap', cur, rfl, hbg, hg, hnc, hcm, hcs, htake⟩
  · have hr2 := run_append_nil (P := Try.prog) w 30 ty 3 i _ Try.underlying30 hi hz ⟨g, 0, none⟩ 1 1 (nC k) (by rw [hs1]; rfl) hnews (by omega) (by omega) (by rw [hby]; omega)
    rw [hr2] at hr
    simp only [Result.ok.injEq] at hr
    rw [← hr.1] at hb
    simp only [Value.ownBlock, Option.some.injEq] at hb
    exact .inr (by omega)
  · by_cases hroom : n + 1 ≤ cap'
    · have hr2 := run_append_room (P := Try.prog) w 30 ty 3 i Try.underlying30 hi g' n cap' cur hg ⟨g, 0, none⟩ 1 1 (nC k) (by rw [hs1]; rfl) hnews (nC_one k) hroom (by rw [hs1, hcs, nC_len, ← Nat.succ_mul]; exact Nat.mul_le_mul_right _ hroom)
      rw [hr2] at hr
      simp only [Result.ok.injEq] at hr
      rw [← hr.1] at hb
      exact .inl hb
    · have hr2 := run_append_grow (P := Try.prog) w 30 ty 3 i _ Try.underlying30 hi hz ⟨g', 0, none⟩ n cap' (l.flatMap nC) (by rw [hs1]; exact hown.1) (hown.cells (g := g') rfl) ⟨g, 0, none⟩ 1 1 (nC k) (by rw [hs1]; rfl) hnews (by omega) (by omega) (growslice_fits (by omega) (by rw [hby]; omega))
      rw [hr2] at hr
      simp only [Result.ok.injEq] at hr
      rw [← hr.1] at hb
      simp only [Value.ownBlock, Option.some.injEq] at hb
      exact .inr (by omega)
/-- What an append to a row of numbers leaves: rows of other things, and rows in other blocks. -/
theorem own_gr {Z y : World} {B n : Nat} {pv : Value} {xs : List Value} (ho : Z.ownsRow B 3 1 pv n xs) (hg : Z.grownBy y pv.ownBlock) {base e size k : Nat} {u : Value} {ys : List Value} (hr : Z.ownsRow base e size u k ys) (hne : e ≠ 3 ∨ ∀ g, pv.ownBlock = some g → u.ownBlock ≠ some g) : y.ownsRow base e size u k ys := by
  refine ⟨hr.1, ?_⟩
  rcases hr.2 with hn | ⟨g', cap', cur, hv', hb', hh, r⟩
  · exact .inl hn
  · refine .inr ⟨g', cap', cur, hv', hb', (hg.block g' (Array.getElem?_eq_some_iff.1 hh).1 (fun e' => ?_)).trans hh, r⟩
    rcases hne with c | c
    · rcases ho.2 with ⟨rfl, _⟩ | ⟨g2, cap2, cur2, rfl, _, h2, _⟩
      · simp [Value.ownBlock] at e'
      · simp only [Value.ownBlock, Option.some.injEq] at e'
        subst e'
        rw [hh] at h2
        simp only [Option.some.injEq, Obj.cells.injEq] at h2
        exact c h2.2.1
    · refine c g' e'.symm ?_
      rw [hv']
      rfl
theorem box_gr {Z y : World} {B n b : Nat} {pv : Value} {xs : List Value} {cs : Array Value} (ho : Z.ownsRow B 3 1 pv n xs) (hg : Z.grownBy y pv.ownBlock) (hb : Z.heap[b]? = some (.cells cs 32)) : y.heap[b]? = some (.cells cs 32) := by
  refine (hg.block b (Array.getElem?_eq_some_iff.1 hb).1 (fun e' => ?_)).trans hb
  rcases ho.2 with ⟨rfl, _⟩ | ⟨g2, cap2, cur2, rfl, _, h2, _⟩
  · simp [Value.ownBlock] at e'
  · simp only [Value.ownBlock, Option.some.injEq] at e'
    subst e'
    rw [hb] at h2
    simp at h2
theorem Rows8.gr {Z y : World} {B n : Nat} {pv : Value} {xs : List Value} {base : Nat} {f : Nat → List Ky} {rows : List Value} (ho : Z.ownsRow B 3 1 pv n xs) (hg : Z.grownBy y pv.ownBlock) (h : Rows8 base Z f rows) : Rows8 base y f rows := ⟨h.1, fun p v hv => own_gr ho hg (h.2.1 p v hv) (.inl (by decide)), h.2.2⟩
/-- A footprint in the block b whose two rows of numbers lie apart. -/
structure FtA (B b : Nat) (f f' : Nat → List Ky) (a : Nat → Option Addr) (L c : Nat → Nat) (a' : Nat → Option Addr) (L' c' : Nat → Nat) (pv tv : Value) (pl tl : List Int) (z : World) : Prop where
  s : FtS B b f f' a L c a' L' c' pv tv pl tl z
  ap : ∀ g, pv.ownBlock = some g → tv.ownBlock ≠ some g
section
variable {B b : Nat} {f f' : Nat → List Ky} {a : Nat → Option Addr} {L c : Nat → Nat} {a' : Nat → Option Addr} {L' c' : Nat → Nat} {pv tv : Value} {pl tl : List Int} {z Y Z : World}
theorem sees_oneN' (w : World) (k : Int) {Z : World} (hZ : w.alloc (.cells #[.int .i64 k] 3) = Z) : SeesL nC 1 Z (.slice (some ⟨w.heap.size, 0, none⟩) 1 1) [k] := hZ ▸ sees_oneN w k
theorem own_in {w : World} {base e n : Nat} {v : Value} {xs : List Value} {size : Nat} (h : w.ownsRow base e size v n xs) {g : Nat} (hg : v.ownBlock = some g) : g < w.heap.size := by
  rcases h.2 with ⟨rfl, _⟩ | ⟨g2, cap2, cur2, rfl, _, h2, _⟩
  · simp [Value.ownBlock] at hg
  · simp only [Value.ownBlock, Option.some.injEq] at hg
    subst hg
    exact (Array.getElem?_eq_some_iff.1 h2).1
/-- One more partition. -/
theorem FtA.appP {m : Nat} (h : FtA B b f f' a L c a' L' c' pv tv pl tl z) (hm : pl.length = m) (hml : m ≤ 8) {k : Int} (hZ : z.alloc (.cells #[.int .i64 k] 3) = Z) (hB : B ≤ Y.heap.size) (hY : Below Y.heap.size Y z) (hYB : Y.heap.size ≤ B) (hb : Y.heap.size ≤ b) :
    ∃ ao cap y, (Builtin.append_ #[30, 30] 30 #[pv, .slice (some ⟨z.heap.size, 0, none⟩) 1 1]).run Try.prog Z = .ok (.slice ao (m + 1) cap) y ∧ y.cell? ⟨b, 16, none⟩ = some pv ∧ y.frozen? ⟨b, 16, none⟩ = false ∧
      FtA B b f f' a L c a' L' c' (.slice ao (m + 1) cap) tv (pl ++ [k]) tl (y.setCell ⟨b, 16, none⟩ (.slice ao (m + 1) cap)) ∧ Below Y.heap.size Y (y.setCell ⟨b, 16, none⟩ (.slice ao (m + 1) cap)) := by
  subst hm
  have bZ : Below z.heap.size z Z := hZ ▸ below_box _
  have h1 := h.s.grow bZ
  have hBZ : B ≤ Z.heap.size := Nat.le_trans hB (Nat.le_trans hY.size bZ.size)
  obtain ⟨ao, cap, y, hr, h2, h3, h4⟩ := append_intF h1.ps (sees_oneN' z k hZ) (by omega) hBZ 30
  have hbx := box_gr h1.ps h3 h1.box
  have hoth : ∀ j, j ≠ b → (y.setCell ⟨b, 16, none⟩ (.slice ao (pl.length + 1) cap)).heap[j]? = y.heap[j]? := fun j hj => setCell_far hj
  have hYZ : Below Y.heap.size Y Z := hY.trans (bZ.mono hY.size)
  have hgy : Below Y.heap.size Z y := (Below.refl _ _).grown h3 hYZ.size (fun g hg => Nat.le_trans hYB (own_block_le h1.ps g hg))
  refine ⟨ao, cap, y, hr, cell_at hbx, frozen_of_heap hbx, ⟨⟨?_, (h1.rd.gr h1.ps h3).box hbx hoth, (h1.wt.gr h1.ps h3).box hbx hoth, ?_, own_box hbx (by decide) hoth (own_gr h1.ps h3 h1.ts (.inr h.ap))⟩, fun g hg e => ?_⟩, (hYZ.trans hgy).setCell hb _⟩
  · rw [heap_setCell_same y _ _ _ _ _ hbx]; rfl
  · rw [List.length_append]
    exact own_box hbx (by decide) hoth h2
  · rcases h4 g hg with c | c
    · exact h.ap g c e
    · have := own_in h1.ts e
      omega
/-- One more of those that take part. -/
theorem FtA.appT {m : Nat} (h : FtA B b f f' a L c a' L' c' pv tv pl tl z) (hm : tl.length = m) (hml : m ≤ 8) {k : Int} (hZ : z.alloc (.cells #[.int .i64 k] 3) = Z) (hB : B ≤ Y.heap.size) (hY : Below Y.heap.size Y z) (hYB : Y.heap.size ≤ B) (hb : Y.heap.size ≤ b) :
    ∃ ao cap y, (Builtin.append_ #[30, 30] 30 #[tv, .slice (some ⟨z.heap.size, 0, none⟩) 1 1]).run Try.prog Z = .ok (.slice ao (m + 1) cap) y ∧ y.cell? ⟨b, 17, none⟩ = some tv ∧ y.frozen? ⟨b, 17, none⟩ = false ∧
      FtA B b f f' a L c a' L' c' pv (.slice ao (m + 1) cap) pl (tl ++ [k]) (y.setCell ⟨b, 17, none⟩ (.slice ao (m + 1) cap)) ∧ Below Y.heap.size Y (y.setCell ⟨b, 17, none⟩ (.slice ao (m + 1) cap)) := by
  subst hm
  have bZ : Below z.heap.size z Z := hZ ▸ below_box _
  have h1 := h.s.grow bZ
  have hBZ : B ≤ Z.heap.size := Nat.le_trans hB (Nat.le_trans hY.size bZ.size)
  obtain ⟨ao, cap, y, hr, h2, h3, h4⟩ := append_intF h1.ts (sees_oneN' z k hZ) (by omega) hBZ 30
  have hbx := box_gr h1.ts h3 h1.box
  have hoth : ∀ j, j ≠ b → (y.setCell ⟨b, 17, none⟩ (.slice ao (tl.length + 1) cap)).heap[j]? = y.heap[j]? := fun j hj => setCell_far hj
  have hYZ : Below Y.heap.size Y Z := hY.trans (bZ.mono hY.size)
  have hgy : Below Y.heap.size Z y := (Below.refl _ _).grown h3 hYZ.size (fun g hg => Nat.le_trans hYB (own_block_le h1.ts g hg))
  refine ⟨ao, cap, y, hr, cell_at hbx, frozen_of_heap hbx, ⟨⟨?_, (h1.rd.gr h1.ts h3).box hbx hoth, (h1.wt.gr h1.ts h3).box hbx hoth, own_box hbx (by decide) hoth (own_gr h1.ts h3 h1.ps (.inr fun g hg e => h.ap g e hg)), ?_⟩, fun g hg e => ?_⟩, (hYZ.trans hgy).setCell hb _⟩
  · rw [heap_setCell_same y _ _ _ _ _ hbx]; rfl
  · rw [List.length_append]
    exact own_box hbx (by decide) hoth h2
  · rcases h4 g e with c | c
    · exact h.ap g hg c
    · have := own_in h1.ps hg
      omega
end
/-- Such a footprint, somewhere. -/
def FtB (b : Nat) (f f' : Nat → List Ky) (a : Nat → Option Addr) (L c : Nat → Nat) (a' : Nat → Option Addr) (L' c' : Nat → Nat) (pl tl : List Int) (Y z : World) : Prop := ∃ pv tv, FtA Y.heap.size b f f' a L c a' L' c' pv tv pl tl z ∧ Below Y.heap.size Y z
theorem rside_lit {v : Value} {l : List Ky} {w : World} (n : Int) {L : Nat → Nat} (hL : (fun p => (inP n (srt l) p).length) = L) (hs : SeesL kC 2 w v l) (hll : l.length ≤ 8796093021952) :
    Calls Try.prog 38 #[v, .int .i64 n] w fun e w' => ∃ a c, e = .returned (.agg #[.slice (a 0) (L 0) (c 0), .slice (a 1) (L 1) (c 1), .slice (a 2) (L 2) (c 2), .slice (a 3) (L 3) (c 3), .slice (a 4) (L 4) (c 4), .slice (a 5) (L 5) (c 5), .slice (a 6) (L 6) (c 6), .slice (a 7) (L 7) (c 7)]) ∧ Rows8 w.heap.size w' (inP n (srt l)) (litR a L c) ∧ Below w.heap.size w w' :=
  (rside_any n hs hll).mono fun e w' ⟨rows, he, h8, hb⟩ => by
    obtain ⟨a, c, hr⟩ := rows8_lit h8
    subst hL
    exact ⟨a, c, by rw [he, hr]; rfl, hr ▸ h8, hb⟩
/-- A cell of the box: a partition's keys. -/
theorem ft_rd {z : World} {b : Nat} {a : Nat → Option Addr} {L c : Nat → Nat} {a' : Nat → Option Addr} {L' c' : Nat → Nat} {pv tv : Value} (h : z.heap[b]? = some (.cells (ftC a L c a' L' c' pv tv) 32)) {p : Nat} (hp : p < 8) : z.cell? ⟨b, p, none⟩ = some (.slice (a p) (L p) (c p)) := by
  have := ft_range0 h p _ (litR_at a L c hp)
  simpa using this
theorem ft_wt {z : World} {b : Nat} {a : Nat → Option Addr} {L c : Nat → Nat} {a' : Nat → Option Addr} {L' c' : Nat → Nat} {pv tv : Value} (h : z.heap[b]? = some (.cells (ftC a L c a' L' c' pv tv) 32)) {p : Nat} (hp : p < 8) : z.cell? ⟨b, 8 + p, none⟩ = some (.slice (a' p) (L' p) (c' p)) := by
  have := ft_range8 h p _ (litR_at a' L' c' hp)
  simpa using this
end Go.Proofs.Ytibjhjkeflbghaa
