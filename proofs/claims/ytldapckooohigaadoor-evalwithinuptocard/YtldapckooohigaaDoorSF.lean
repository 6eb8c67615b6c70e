/- The document's Pairs: shard's texts, with slices of lists that are one's own. -/
import Derived.Test.YtldapckooohigaaDoorJSP
import Derived.Test.YtldapckooohigaaDoorJSH
namespace Go.Proofs.YtldapckooohigaaDoor
open Go.RowKit
set_option maxRecDepth 100000

/-- A key in a box, as long as nothing below turns. -/
theorem box_cells {y : World} {g : Nat} {a b : Int} (h : y.heap[g]? = some (.cells #[.int .i32 a, .int .i64 b] 38)) {x : World} (hb : Below y.heap.size y x) : x.cell? ⟨g, 0, none⟩ = some (.int .i32 a) ∧ x.cell? ⟨g, 1, none⟩ = some (.int .i64 b) := by
  have := (hb.block g (Array.getElem?_eq_some_iff.1 h).1).trans h
  exact ⟨cell_at this, cell_at this⟩

theorem app_pairs {w : World} {base : Nat} {v v2 : Value} {n : Nat} {l l2 : List Pr} (ty : TypeId) (hown : w.ownsRow base 45 3 v n (l.flatMap pC)) (hs : SeesL pC 3 w v2 l2) (hl : n + l2.length ≤ 5864062014805) (hbase : base ≤ w.heap.size) :
    ∃ ao cap w', (Builtin.append_ #[29, 29] ty #[v, v2]).run Tryd.prog w = .ok (.slice ao (n + l2.length) cap) w' ∧ w'.ownsRow base 45 3 (.slice ao (n + l2.length) cap) (n + l2.length) ((l ++ l2).flatMap pC) ∧ Below base w w' := by
  obtain ⟨v', w', h1, h2, h3⟩ := append_pairs ty hown hs hl hbase
  obtain ⟨ao, cap, hv⟩ := own_shape h2
  subst hv
  exact ⟨ao, cap, w', h1, h2, (Below.refl _ _).grown h3 hbase (own_block_le hown)⟩
/-- The first part of a list, taken into a row of its own. -/

theorem insP1 {Z : World} {ov : Option Addr} {oc m j : Nat} {D : List Pr} (hs : SeesL pC 3 Z (.slice ov m oc) D) (hj : j ≤ m) (hml : m < 5864062014805) :
    ∃ a1 c1 z1, (Builtin.append_ #[29, 29] 29 #[.slice none 0 0, .slice ov j oc]).run Tryd.prog Z = .ok (.slice a1 j c1) z1 ∧ z1.ownsRow Z.heap.size 45 3 (.slice a1 j c1) j ((D.take j).flatMap pC) ∧ Below Z.heap.size Z z1 := by
  obtain ⟨_, _, _, _, e, _⟩ := id hs
  have hm : m = D.length := by simp only [Value.slice.injEq] at e; exact e.2.1
  have hl : (D.take j).length = j := by simp; omega
  obtain ⟨a1, c1, z1, r, o, b⟩ := app_pairs (l := []) 29 (own_nil Z Z.heap.size 45 3) (hs.take j hj) (by rw [hl]; omega) (Nat.le_refl _)
  rw [hl, Nat.zero_add] at r o
  exact ⟨a1, c1, z1, r, by simpa using o, b⟩
/-- One more behind it. -/
theorem insP2 {Z Y : World} {v1 vx : Value} {j : Nat} {L : List Pr} {x : Pr} (ho : Y.ownsRow Z.heap.size 45 3 v1 j (L.flatMap pC)) (hb : Below Z.heap.size Z Y) (hx : SeesL pC 3 Y vx [x]) (hml : j < 5864062014805) :
    ∃ a2 c2 z2, (Builtin.append_ #[29, 29] 29 #[v1, vx]).run Tryd.prog Y = .ok (.slice a2 (j + 1) c2) z2 ∧ z2.ownsRow Z.heap.size 45 3 (.slice a2 (j + 1) c2) (j + 1) ((L ++ [x]).flatMap pC) ∧ Below Z.heap.size Z z2 := by
  obtain ⟨a1, c1, z1, r, o, b⟩ := app_pairs 29 ho hx (by simp only [List.length_cons, List.length_nil]; omega) hb.size
  exact ⟨a1, c1, z1, r, o, hb.trans b⟩
/-- And the rest. -/
theorem insP3 {Z Y : World} {v2 : Value} {ov : Option Addr} {oc m j n : Nat} {L D : List Pr} (ho : Y.ownsRow Z.heap.size 45 3 v2 n (L.flatMap pC)) (hb : Below Z.heap.size Z Y) (hs : SeesL pC 3 Z (.slice ov m oc) D) (hj : j ≤ m) (hml : n + (m - j) ≤ 5864062014805) :
    ∃ a3 c3 z3, (Builtin.append_ #[29, 29] 29 #[v2, .slice (if oc = j then ov else ov.map (·.add (j * 3))) (m - j) (oc - j)]).run Tryd.prog Y = .ok (.slice a3 (n + (m - j)) c3) z3 ∧ z3.ownsRow Z.heap.size 45 3 (.slice a3 (n + (m - j)) c3) (n + (m - j)) ((L ++ D.drop j).flatMap pC) ∧ Below Z.heap.size Z z3 := by
  obtain ⟨_, _, _, _, e, _⟩ := id hs
  have hm : m = D.length := by simp only [Value.slice.injEq] at e; exact e.2.1
  have hl : (D.drop j).length = m - j := by simp; omega
  obtain ⟨a1, c1, z1, r, o, b⟩ := app_pairs 29 ho ((hs.drop j hj).below pC_len hb) (by rw [hl]; omega) hb.size
  rw [hl] at r o
  exact ⟨a1, c1, z1, r, o, hb.trans b⟩

theorem head_pairs (ao : Option Addr) (n cap j : Nat) (h : j ≤ cap) (w : World) : (Instr.slice 29 (.slice ao n cap) none (some (.int .i64 j)) none).run Tryd.prog w = .ok (.slice ao j cap) w := by
  obtain ⟨i, hi, _⟩ := info_parts Tryd.info45
  exact slice_head Tryd.underlying29 hi ao n cap j h w
theorem tail_pairs (ao : Option Addr) (n cap j : Nat) (h : j ≤ n) (w : World) : (Instr.slice 29 (.slice ao n cap) (some (.int .i64 j)) none none).run Tryd.prog w = .ok (.slice (if cap = j then ao else ao.map (·.add (j * 3))) (n - j) (cap - j)) w := by
  obtain ⟨i, hi, _, hs, _⟩ := info_parts Tryd.info45
  exact slice_tail Tryd.underlying29 hi hs ao n cap j h w

theorem rcmp_from {y : World} {a b : Ky} {r : Int} (hr : cmpK a b = r) {x : World} (hb : Below y.heap.size y x) : Calls Tryd.prog 49 #[.agg #[.int .i32 a.1, .int .i64 a.2], .agg #[.int .i32 b.1, .int .i64 b.2]] x fun e w' => e = .returned (.int .i64 r) ∧ Below y.heap.size y w' := by
  subst hr
  exact (rcompare_any a.1 a.2 b.1 b.2 x).mono fun _ _ ⟨h1, h2⟩ => ⟨h1, hb.trans (h2.below.mono hb.size)⟩
theorem key_cells {y : World} {v : Value} {l : List Ky} (hs : SeesL kC 2 y v l) {ao : Option Addr} {n cap : Nat} (hv : v = .slice ao n cap) {t : Nat} (ht : t < l.length) : ∃ gb ob, ao = some ⟨gb, ob, none⟩ ∧ n = l.length ∧ ∀ x, Below y.heap.size y x → x.cell? ⟨gb, ob + t * 2, none⟩ = some (.int .i32 (l.getD t default).1) ∧ x.cell? ⟨gb, ob + t * 2 + 1, none⟩ = some (.int .i64 (l.getD t default).2) := by
  obtain ⟨ao', cap', gb, ob, hv', _, _, hao, hcl⟩ := SeesL.keyS hs
  rw [hv] at hv'
  simp only [Value.slice.injEq] at hv'
  obtain ⟨rfl, rfl, rfl⟩ := hv'
  refine ⟨gb, ob, hao (by omega), rfl, fun x hx => ?_⟩
  obtain ⟨c1, c2⟩ := hcl t ht
  exact ⟨(hx.cell (p := ⟨gb, ob + t * 2, none⟩) (World.block_lt_of_cell? y _ c1)).trans c1, (hx.cell (p := ⟨gb, ob + t * 2 + 1, none⟩) (World.block_lt_of_cell? y _ c2)).trans c2⟩
end Go.Proofs.YtldapckooohigaaDoor
