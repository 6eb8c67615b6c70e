/- The document's Changes: the order, and lists of changes that are one's own. -/
import Derived.Test.YtldapckooohigaaDoorE32
import Derived.Test.YtldapckooohigaaDoorSF
namespace Go.Proofs.YtldapckooohigaaDoor
open Go.RowKit
set_option maxRecDepth 100000

theorem rless_any (a0 a1 b0 b1 : Int) (w : World) :
    Calls Tryd.prog 26 #[.agg #[.int .i32 a0, .int .i64 a1], .agg #[.int .i32 b0, .int .i64 b1]] w fun e w' => e = .returned (.bool (decide (ltK (a0, a1) (b0, b1)))) ∧ Grew w w' := by
  have hg : Grew w ((w.alloc (.cells #[.int .i32 a0, .int .i64 a1] 38)).alloc (.cells #[.int .i32 b0, .int .i64 b1] 38)) := grew_alloc (grew_alloc (grew_refl _) _) _
  have HG := hide hg
  clear hg
  by_cases h1 : a0 < b0
  · have e : decide (ltK (a0, a1) (b0, b1)) = true := decide_eq_true (Or.inl h1)
    rw [e]
    go_enter Tryd.func26, Tryd.ntmps26
    go_wp2
    go_ret
    exact ⟨rfl, unhide HG⟩
  · by_cases h2 : a0 = b0
    · subst h2
      by_cases h3 : a1 < b1
      · have e : decide (ltK (a0, a1) (a0, b1)) = true := decide_eq_true (Or.inr ⟨rfl, h3⟩)
        rw [e]
        go_enter Tryd.func26, Tryd.ntmps26
        go_wp2
        go_ret
        exact ⟨rfl, unhide HG⟩
      · have e : decide (ltK (a0, a1) (a0, b1)) = false := decide_eq_false fun c => by rcases c with c | c <;> simp_all
        rw [e]
        go_enter Tryd.func26, Tryd.ntmps26
        go_wp2
        go_ret
        exact ⟨rfl, unhide HG⟩
    · have e : decide (ltK (a0, a1) (b0, b1)) = false := decide_eq_false fun c => by rcases c with c | c <;> simp_all
      rw [e]
      go_enter Tryd.func26, Tryd.ntmps26
      go_wp2
      go_ret
      exact ⟨rfl, unhide HG⟩
theorem rless_from {y : World} {a b : Ky} {r : Bool} (hr : decide (ltK a b) = r) {x : World} (hb : Below y.heap.size y x) : Calls Tryd.prog 26 #[.agg #[.int .i32 a.1, .int .i64 a.2], .agg #[.int .i32 b.1, .int .i64 b.2]] x fun e w' => e = .returned (.bool r) ∧ Below y.heap.size y w' := by
  subst hr
  exact (rless_any a.1 a.2 b.1 b.2 x).mono fun _ _ ⟨h1, h2⟩ => ⟨h1, hb.trans (h2.below.mono hb.size)⟩
theorem ch_cells {y : World} {v : Value} {l : List Ch} (hs : SeesL chC 4 y v l) {ao : Option Addr} {n cap : Nat} (hv : v = .slice ao n cap) {t : Nat} (ht : t < l.length) : ∃ gb ob, ao = some ⟨gb, ob, none⟩ ∧ n = l.length ∧ ∀ x, Below y.heap.size y x → x.cell? ⟨gb, ob + t * 4, none⟩ = some (.int .i32 (l.getD t default).1.1) ∧ x.cell? ⟨gb, ob + t * 4 + 1, none⟩ = some (.int .i64 (l.getD t default).1.2) ∧ x.cell? ⟨gb, ob + t * 4 + 2, none⟩ = some (.int .i64 (l.getD t default).2.1) ∧ x.cell? ⟨gb, ob + t * 4 + 3, none⟩ = some (.bool (l.getD t default).2.2) := by
  obtain ⟨ao', cap', gb, ob, hv', _, _, hao, hcl⟩ := sees_at4 hs
  rw [hv] at hv'
  simp only [Value.slice.injEq] at hv'
  obtain ⟨rfl, rfl, rfl⟩ := hv'
  refine ⟨gb, ob, hao (by omega), rfl, fun x hx => ?_⟩
  obtain ⟨c1, c2, c3, c4⟩ := hcl t ht
  exact ⟨(hx.cell (p := ⟨gb, ob + t * 4, none⟩) (World.block_lt_of_cell? y _ c1)).trans c1, (hx.cell (p := ⟨gb, ob + t * 4 + 1, none⟩) (World.block_lt_of_cell? y _ c2)).trans c2, (hx.cell (p := ⟨gb, ob + t * 4 + 2, none⟩) (World.block_lt_of_cell? y _ c3)).trans c3, (hx.cell (p := ⟨gb, ob + t * 4 + 3, none⟩) (World.block_lt_of_cell? y _ c4)).trans c4⟩
theorem app_chs {w : World} {base : Nat} {v v2 : Value} {n : Nat} {l l2 : List Ch} (ty : TypeId) (hown : w.ownsRow base 40 4 v n (l.flatMap chC)) (hs : SeesL chC 4 w v2 l2) (hl : n + l2.length ≤ 4398046511104) (hbase : base ≤ w.heap.size) :
    ∃ ao cap w', (Builtin.append_ #[30, 30] ty #[v, v2]).run Tryd.prog w = .ok (.slice ao (n + l2.length) cap) w' ∧ w'.ownsRow base 40 4 (.slice ao (n + l2.length) cap) (n + l2.length) ((l ++ l2).flatMap chC) ∧ Below base w w' := by
  obtain ⟨ao, cap, w', h1, h2, h3, _⟩ := rtC.appB ty hown hs (by omega) (by omega) hbase
  exact ⟨ao, cap, w', h1, h2, h3⟩
theorem insC1 {Z : World} {ov : Option Addr} {oc m j : Nat} {D : List Ch} (hs : SeesL chC 4 Z (.slice ov m oc) D) (hj : j ≤ m) (hml : m < 4398046511104) :
    ∃ a1 c1 z1, (Builtin.append_ #[30, 30] 30 #[.slice none 0 0, .slice ov j oc]).run Tryd.prog Z = .ok (.slice a1 j c1) z1 ∧ z1.ownsRow Z.heap.size 40 4 (.slice a1 j c1) j ((D.take j).flatMap chC) ∧ Below Z.heap.size Z z1 := by
  obtain ⟨_, _, _, _, e, _⟩ := id hs
  have hm : m = D.length := by simp only [Value.slice.injEq] at e; exact e.2.1
  have hl : (D.take j).length = j := by simp; omega
  obtain ⟨a1, c1, z1, r, o, b⟩ := app_chs (l := []) 30 (own_nil Z Z.heap.size 40 4) (hs.take j hj) (by rw [hl]; omega) (Nat.le_refl _)
  rw [hl, Nat.zero_add] at r o
  exact ⟨a1, c1, z1, r, by simpa using o, b⟩
theorem insC2 {Z Y : World} {v1 vx : Value} {j : Nat} {L : List Ch} {x : Ch} (ho : Y.ownsRow Z.heap.size 40 4 v1 j (L.flatMap chC)) (hb : Below Z.heap.size Z Y) (hx : SeesL chC 4 Y vx [x]) (hml : j < 4398046511104) :
    ∃ a2 c2 z2, (Builtin.append_ #[30, 30] 30 #[v1, vx]).run Tryd.prog Y = .ok (.slice a2 (j + 1) c2) z2 ∧ z2.ownsRow Z.heap.size 40 4 (.slice a2 (j + 1) c2) (j + 1) ((L ++ [x]).flatMap chC) ∧ Below Z.heap.size Z z2 := by
  obtain ⟨a1, c1, z1, r, o, b⟩ := app_chs 30 ho hx (by simp only [List.length_cons, List.length_nil]; omega) hb.size
  exact ⟨a1, c1, z1, r, o, hb.trans b⟩
theorem insC3 {Z Y : World} {v2 : Value} {ov : Option Addr} {oc m j n : Nat} {L D : List Ch} (ho : Y.ownsRow Z.heap.size 40 4 v2 n (L.flatMap chC)) (hb : Below Z.heap.size Z Y) (hs : SeesL chC 4 Z (.slice ov m oc) D) (hj : j ≤ m) (hml : n + (m - j) ≤ 4398046511104) :
    ∃ a3 c3 z3, (Builtin.append_ #[30, 30] 30 #[v2, .slice (if oc = j then ov else ov.map (·.add (j * 4))) (m - j) (oc - j)]).run Tryd.prog Y = .ok (.slice a3 (n + (m - j)) c3) z3 ∧ z3.ownsRow Z.heap.size 40 4 (.slice a3 (n + (m - j)) c3) (n + (m - j)) ((L ++ D.drop j).flatMap chC) ∧ Below Z.heap.size Z z3 := by
  obtain ⟨_, _, _, _, e, _⟩ := id hs
  have hm : m = D.length := by simp only [Value.slice.injEq] at e; exact e.2.1
  have hl : (D.drop j).length = m - j := by simp; omega
  obtain ⟨a1, c1, z1, r, o, b⟩ := app_chs 30 ho ((hs.drop j hj).below chC_len hb) (by rw [hl]; omega) hb.size
  rw [hl] at r o
  exact ⟨a1, c1, z1, r, o, hb.trans b⟩
theorem head_chs (ao : Option Addr) (n cap j : Nat) (h : j ≤ cap) (w : World) : (Instr.slice 30 (.slice ao n cap) none (some (.int .i64 j)) none).run Tryd.prog w = .ok (.slice ao j cap) w := by
  obtain ⟨i, _, hi, _⟩ := rtC.info
  exact slice_head Tryd.underlying30 hi ao n cap j h w
theorem tail_chs (ao : Option Addr) (n cap j : Nat) (h : j ≤ n) (w : World) : (Instr.slice 30 (.slice ao n cap) (some (.int .i64 j)) none none).run Tryd.prog w = .ok (.slice (if cap = j then ao else ao.map (·.add (j * 4))) (n - j) (cap - j)) w := by
  obtain ⟨i, _, hi, _, hs, _⟩ := rtC.info
  exact slice_tail Tryd.underlying30 hi hs ao n cap j h w
end Go.Proofs.YtldapckooohigaaDoor
